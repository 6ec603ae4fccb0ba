/- Bytes handed in with marked room behind them, and kept; a reader's Fork. -/
import Derived.Test.YtbpajgkhajheaaaFrmL
import Derived.Test.YtbpajgkhajheaaaVrw
namespace Go.Proofs.Ytbpajgkhajheaaa.FrmH
open Go.ChangeShapes Go.WideShapes Go.ChangeAt Go.RowKit Base Wri Vrw FrmP FrmA FrmD FrmE FrmQ FrmR FrmX FrmY FrmL
set_option linter.unusedVariables false
set_option linter.unusedSimpArgs false

/-- bytes, and the marks behind them -/
def markB (s : Bs) : Nat → Value := fun j => if j < s.length then bv (s.getD j 0) else .int .u8 (160 + (j : Int) - s.length)
theorem markB_in {s : Bs} {k : Nat} {x : UInt8} (h : s[k]? = some x) : markB s k = bv x := by
  unfold markB
  rw [if_pos (List.getElem?_eq_some_iff.1 h).1]
  simp [List.getD, h]
theorem markB_out {s : Bs} {k : Nat} (h : s.length ≤ k) : markB s k = .int .u8 (160 + (k : Int) - s.length) := by unfold markB; rw [if_neg (by omega)]

theorem vrow_bat {w : World} {g n n0 : Nat} {s : Bs} (h : VRow w g n (markB s)) (hn : s.length ≤ n) (hg : g < n0) : BAt w n0 (some ⟨g, 0, none⟩) s := fun _ => ⟨g, 0, rfl, hg, fun i x hx => by
  have hi := (List.getElem?_eq_some_iff.1 hx).1
  rw [Nat.zero_add, (h i (by omega)).1, markB_in hx]⟩

set_option maxRecDepth 20000 in
set_option maxHeartbeats 1000000 in
theorem hand_bytes (a : Option Addr) (cap : Nat) (s : Bs) (w : World) (hn : s.length ≤ 8796093022208) (HB : Hid (BAt w w.heap.size a s)) :
    Calls Try.prog 9 #[.slice a s.length cap] w fun e w' => e = .returned (.slice (some ⟨w.heap.size, 0, none⟩) s.length (s.length + 9)) ∧ VRow w' w.heap.size (s.length + 9) (markB s) ∧ Below w.heap.size w w' ∧ w.heap.size < w'.heap.size := by
  obtain ⟨i0, hi, hz0, hz1, hz2⟩ := info_parts infoU8
  obtain ⟨L, hL⟩ : ∃ L, s.length = L := ⟨_, rfl⟩
  have HL := hid hL
  rw [hL] at hn ⊢
  clear hL
  go_enter Try.func9, Try.ntmps9
  go_wp2_with (at_make; refine wpList_make_full _ rfl _ _ 23 rfl w.heap.size 5 i0 (.int .u8 0) 1 Try.underlying23 hi hz0 hz1 .i64 .i64 ((L : Int) + 9) ((L : Int) + 9) (L + 9) rfl rfl (by omega) (by omega) ?b2 ?b3 (Nat.le_refl _) ?_; rotate_left 2; intro w1 hown hgrow)
  case b2 => rw [hz2]; omega
  case b3 => unfold maxLen; omega
  have HB1 : Hid (Below w.heap.size w w1) := hid ((Below.refl _ _).grown hgrow (Nat.le_refl _) (fun _ e => by cases e))
  have HR1 : Hid (VRow w1 w.heap.size (L + 9) (fillV (fun _ => .int .u8 0) 0 (markB s))) := hid (by
    have hz : ∀ j, j < (L + 9) * 1 → (madeCells (Value.int IntKind.u8 0).cells ((L + 9) * 1)).toList[j]? = some (fillV (fun _ => .int .u8 0) 0 (markB s) j) := by
      intro j hj
      have hj2 : j < L + 9 := by omega
      simp [madeCells, Value.cells, hj2, fillV, Nat.mod_one]
    have := VRow.owned hown hz
    rwa [Nat.mul_one] at this)
  have hs1 : w.heap.size < w1.heap.size := (hown.lt w.heap.size rfl).2
  clear hown hgrow
  obtain ⟨B, hB⟩ : ∃ B, w.heap.size = B := ⟨_, rfl⟩
  rw [hB] at HB1 HR1 hs1 HB ⊢
  go_loopw [4] (fun i wr => ∃ k : Nat, k ≤ L ∧ i = .int .i64 k ∧ VRow wr B (L + 9) (fillV (fun _ => .int .u8 0) k (markB s)) ∧ Below B w wr ∧ B < wr.heap.size) (fun i _ => L - (intOf i).toNat)
  case atStart => exact ⟨0, Nat.zero_le _, rfl, HR1.out, HB1.out, hs1⟩
  case round =>
    obtain ⟨k, hk, rfl, hrow, hbel, hsz⟩ := hrel
    have HR := hid hrow
    have HBl := hid hbel
    clear hrow hbel
    by_cases hlt : k < L
    · obtain ⟨g, o, rfl, hg, hc⟩ := HB.out (by rw [HL.out]; omega)
      obtain ⟨x, hx⟩ : ∃ x, s[k]? = some x := ⟨s[k]'(by rw [HL.out]; exact hlt), List.getElem?_eq_getElem _⟩
      have h1 : wr.cell? ⟨g, o + k, none⟩ = some (.int .u8 (x.toNat : Int)) := (HBl.out.cell (p := ⟨g, o + k, none⟩) hg).trans (hc k x hx)
      have h2 := (HR.out k (by omega)).1
      have h3 := (HR.out k (by omega)).2
      have hgs : g < wr.heap.size := by omega
      have HN := hid (HR.out.set k (by omega) (markB s k))
      rw [fillV_set, markB_in hx] at HN
      have HB2 := hid (HBl.out.setCell (p := ⟨B, k, none⟩) (Nat.le_refl _) (bv x))
      unfold bv at HN HB2
      clear hc hx
      generalize (x.toNat : Int) = y at *
      unfold fillV at h2
      rw [if_neg (Nat.lt_irrefl k)] at h2
      go_wp2_with fail
      go_roundw
      case rel => exact ⟨k + 1, by omega, by go_num, HN.out, HB2.out, by simpa using hsz⟩
      case measure => simp [intOf]; omega
    · obtain rfl : k = L := by omega
      go_wp2_with fail
      go_loopw [5] (fun i wr => ∃ m : Nat, m ≤ k + 9 ∧ i = .int .i64 m ∧ k ≤ m ∧ VRow wr B (k + 9) (fillV (fun _ => .int .u8 0) m (markB s)) ∧ Below B w wr ∧ B < wr.heap.size) (fun i _ => (k + 9) - (intOf i).toNat)
      case atStart => exact ⟨k, by omega, rfl, Nat.le_refl _, HR.out, HBl.out, hsz⟩
      case round =>
        obtain ⟨m, hm, rfl, hkm, hrow, hbel, hsz2⟩ := hrel
        have HR3 := hid hrow
        have HB3 := hid hbel
        clear hrow hbel
        by_cases hml : m < k + 9
        · have h2 := (HR3.out m (by omega)).1
          have h3 := (HR3.out m (by omega)).2
          have HN := hid (HR3.out.set m (by omega) (markB s m))
          rw [fillV_set, markB_out (by rw [HL.out]; exact hkm), HL.out] at HN
          have HB4 := hid (HB3.out.setCell (p := ⟨B, m, none⟩) (Nat.le_refl _) (.int .u8 (160 + (m : Int) - k)))
          unfold fillV at h2
          rw [if_neg (Nat.lt_irrefl m)] at h2
          go_wp2_with fail
          go_roundw
          case rel => exact ⟨m + 1, by omega, by go_num, by omega, HN.out, HB4.out, by simpa using hsz2⟩
          case measure => simp [intOf]; omega
        · obtain rfl : m = k + 9 := by omega
          go_wp2_with fail
          go_ret
          subst hB
          exact ⟨rfl, HR3.out.congr (fun j hj => by simp [fillV, hj]), HB3.out, hsz2⟩

set_option maxRecDepth 20000 in
set_option maxHeartbeats 1000000 in
theorem kept_bytes (a : Option Addr) (g cap : Nat) (s : Bs) (w : World) (hn : s.length ≤ 8796093022208) (hg : g < w.heap.size) (HB : Hid (BAt w w.heap.size a s)) (hr : VRow w g (s.length + 9) (markB s)) :
    Calls Try.prog 17 #[.slice (some ⟨g, 0, none⟩) s.length (s.length + 9), .slice a s.length cap] w fun e w' => e = .returned (.bool true) ∧ ∃ m, w.drewN m = w' := by
  have HS := hid (same_bytes (some ⟨g, 0, none⟩) a (s.length + 9) cap s w (by omega) (hid (vrow_bat hr (by omega) hg)) HB)
  have HR := hid hr
  obtain ⟨L, hL⟩ : ∃ L, s.length = L := ⟨_, rfl⟩
  have HL := hid hL
  rw [hL] at hn HS HR ⊢
  clear hr hL
  go_enter Try.func17, Try.ntmps17
  go_wp2_with fail
  refine HS.out.mono ?_
  rintro e w1 ⟨rfl, m1, hw1⟩
  clear HS
  go_wp2_with fail
  go_loopw [6] (fun i wr => ∃ k m : Nat, k ≤ L + 9 ∧ L ≤ k ∧ i = .int .i64 k ∧ w.drewN m = wr) (fun i _ => L + 9 - (intOf i).toNat)
  case atStart => exact ⟨L, m1, by omega, Nat.le_refl _, rfl, hw1⟩
  case round =>
    obtain ⟨k, m, hk, hnk, rfl, hwr⟩ := hrel
    by_cases hlt : k < L + 9
    · have h1 : wr.cell? ⟨g, k, none⟩ = some (.int .u8 (160 + (k : Int) - L)) := by
        rw [← hwr]
        have := (HR.out k hlt).1
        rw [markB_out (by rw [HL.out]; exact hnk), HL.out] at this
        exact this
      have HW := hid hwr
      clear hwr hw1
      go_wp2_with fail
      go_roundw
      case rel => exact ⟨k + 1, m, by omega, by omega, by go_num, HW.out⟩
      case measure => simp [intOf]; omega
    · go_wp2
      go_ret
      exact ⟨rfl, m, hwr⟩

end Go.Proofs.Ytbpajgkhajheaaa.FrmH
