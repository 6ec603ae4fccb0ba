/- The document's Split. -/
import Derived.Test.YtbpajgkhajheaaaFrmM
import Derived.Test.YtbpajgkhajheaaaFrmG
namespace Go.Proofs.Ytbpajgkhajheaaa.FrmDa
open Go.ChangeShapes Go.WideShapes Go.ChangeAt Go.RowKit Base Wri FrmP FrmA FrmD FrmE FrmF FrmG FrmQ FrmR FrmX FrmY FrmM
set_option linter.unusedVariables false
set_option linter.unusedSimpArgs false

set_option maxRecDepth 20000 in
set_option maxHeartbeats 1000000 in
theorem could_any (a : Option Addr) (cap : Nat) (s : Bs) (w : World) (hn : s.length ≤ 4) (HB : Hid (BAt w w.heap.size a s)) :
    Calls Try.prog 54 #[.slice a s.length cap] w fun e w' => e = .returned (.bool (may s)) ∧ ∃ m, w.drewN m = w' := by
  have HM : Hid ((if s.length < 4 then decide (num4 s ≤ 4096) else (decide (1 ≤ num4 s) && decide (num4 s ≤ 4096))) = may s) := hid rfl
  have HS4 := hid (sofar_num4 s)
  obtain ⟨L, hL⟩ : ∃ L, s.length = L := ⟨_, rfl⟩
  have HL := hid hL
  rw [hL] at hn HM ⊢
  clear hL
  go_enter Try.func54, Try.ntmps54
  go_wp2_with fail
  go_loopw [3, 4] (fun u i wr => ∃ k m : Nat, k ≤ 4 ∧ u = .int .i64 (sofar 0 s k : Nat) ∧ i = .int .i64 k ∧ w.drewN m = wr) (fun _ i _ => 4 - (intOf i).toNat)
  case atStart => exact ⟨0, 0, Nat.zero_le _, rfl, rfl, rfl⟩
  case round =>
    obtain ⟨k, m, hk, rfl, rfl, hwr⟩ := hrel
    have HW := hid hwr
    by_cases h4 : k < 4
    · have hs0 := sofar_small 0 s h4
      by_cases hlt : k < L
      · obtain ⟨g, o, rfl, hg, hc⟩ := HB.out (by rw [HL.out]; omega)
        obtain ⟨x, hx⟩ : ∃ x, s[k]? = some x := ⟨s[k]'(by rw [HL.out]; exact hlt), List.getElem?_eq_getElem _⟩
        have h1 : wr.cell? ⟨g, o + k, none⟩ = some (.int .u8 (x.toNat : Int)) := by rw [← HW.out]; exact hc k x hx
        have HN0 : Hid (sofar 0 s (k + 1) = sofar 0 s k * 256 + x.toNat) := hid (by simp [sofar, List.getD, hx])
        have hxl := UInt8.toNat_lt x
        clear hc hwr hx
        generalize sofar 0 s k = u at *
        generalize x.toNat = y at *
        go_wp2_with fail
        refine ⟨⟨k + 1, m, by omega, ?_, by go_num, HW.out⟩, by simp [intOf]; omega⟩
        rw [HN0.out]
        congr 1
      · have hx : s[k]? = none := List.getElem?_eq_none (by rw [HL.out]; omega)
        have HN0 : Hid (sofar 0 s (k + 1) = sofar 0 s k * 256) := hid (by simp [sofar, List.getD, hx])
        clear hwr hx
        generalize sofar 0 s k = u at *
        go_wp2_with fail
        refine ⟨⟨k + 1, m, by omega, ?_, by go_num, HW.out⟩, by simp [intOf]; omega⟩
        rw [HN0.out]
        congr 1
    · obtain rfl : k = 4 := by omega
      rw [HS4.out]
      clear hwr
      by_cases h5 : L < 4
      · by_cases h6 : num4 s ≤ 4096
        · have HR : Hid (may s = true) := hid (by rw [← HM.out, if_pos h5]; simpa using h6)
          go_wp2_with fail
          go_ret
          exact ⟨by rw [HR.out]; first | rfl | (simp; done) | (simp; omega), m, HW.out⟩
        · have HR : Hid (may s = false) := hid (by rw [← HM.out, if_pos h5]; simpa using h6)
          go_wp2_with fail
          go_ret
          exact ⟨by rw [HR.out]; first | rfl | (simp; done) | (simp; omega), m, HW.out⟩
      · by_cases h7 : 1 ≤ num4 s
        · by_cases h6 : num4 s ≤ 4096
          · have HR : Hid (may s = true) := hid (by rw [← HM.out, if_neg h5]; simp [h6, h7])
            go_wp2_with fail
            go_ret
            exact ⟨by rw [HR.out]; first | rfl | (simp; done) | (simp; omega), m, HW.out⟩
          · have HR : Hid (may s = false) := hid (by rw [← HM.out, if_neg h5]; simp [h6])
            go_wp2_with fail
            go_ret
            exact ⟨by rw [HR.out]; first | rfl | (simp; done) | (simp; omega), m, HW.out⟩
        · have HR : Hid (may s = false) := hid (by rw [← HM.out, if_neg h5]; simp [h7])
          go_wp2_with fail
          go_ret
          exact ⟨by rw [HR.out]; first | rfl | (simp; done) | (simp; omega), m, HW.out⟩

end Go.Proofs.Ytbpajgkhajheaaa.FrmDa
