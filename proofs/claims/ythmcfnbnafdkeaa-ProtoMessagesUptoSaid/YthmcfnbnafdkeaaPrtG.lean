/- Bytes gone through: numbers and texts. -/
import Derived.Test.YthmcfnbnafdkeaaPrtF
import Derived.Test.YthmcfnbnafdkeaaVrw
import Derived.Laws.IdiomStrings
import Derived.Laws.BytesArg
namespace Go.Proofs.Ythmcfnbnafdkeaa.PrtG
open Go.ChangeShapes Go.WideShapes Go.ChangeAt Go.RowKit Base Wri Vrw FrmP FrmA FrmD FrmE FrmF FrmR FrmX FrmL FrmC2 FrmK FrmK2 RulA PrtA PrtB PrtC PrtR PrtN PrtD PrtE PrtF
set_option linter.unusedVariables false
set_option linter.unusedSimpArgs false

variable {W W' w : World} {p c : Nat} {a : Option Addr} {b : Bs} {st : Rs}

theorem conv_str {n0 : Nat} {x : Option Addr} {s : Bs} {k : Nat} (h : BAt W n0 x s) : (convert 28 9 (.slice x s.length k)).run Try.prog W = .ok (.string ⟨s.toArray⟩) W := by
  cases x with
  | none =>
    have h0 : s = [] := by
      cases s with
      | nil => rfl
      | cons y r => obtain ⟨g, o, e, _⟩ := h (by simp); cases e
    subst h0
    exact run_convert_bytes_nil W 28 5 Try.underlying28 Try.underlying5 _ k 9 Try.underlying9
  | some ad =>
    refine run_convert_bytes_back W 28 9 5 ad k s Try.underlying28 Try.underlying5 Try.underlying9 (fun j hj => ?_)
    obtain ⟨g, o, e, _, hc⟩ := h (by omega)
    cases e
    rw [Go.WideShapes.add_plain]
    exact hc j _ (List.getElem?_eq_getElem hj)

/-- a text: its length, and so many bytes -/
def txO (b : Bs) (st : Rs) : Bs := nx b (st' b st 1) ((nx b st 1).getD 0 0).toNat
def txS (b : Bs) (st : Rs) : Rs := st' b (st' b st 1) ((nx b st 1).getD 0 0).toNat

set_option maxRecDepth 20000 in
set_option maxHeartbeats 2000000 in
theorem text_rd (h : IsRr w p a c b st) :
    Calls Try.prog 86 #[.pointer (some ⟨p, 0, none⟩)] w fun e w' => e = .returned (.string ⟨(txO b st).toArray⟩) ∧ IsRr w' p a c b (txS b st) ∧ Wr (fun k => k = p) w w' := by
  have HX := hid (one_rd h)
  unfold txO txS
  obtain ⟨x, hx⟩ : ∃ x, (nx b st 1).getD 0 0 = x := ⟨_, rfl⟩
  rw [hx] at HX ⊢
  obtain ⟨s2, hs2⟩ : ∃ s2, st' b st 1 = s2 := ⟨_, rfl⟩
  rw [hs2] at HX ⊢
  have hxl : x.toNat < 256 := UInt8.toNat_lt x
  clear h hx hs2
  obtain ⟨n, hn⟩ : ∃ n, x.toNat = n := ⟨_, rfl⟩
  rw [hn] at HX hxl ⊢
  clear hn
  go_enter Try.func86, Try.ntmps86
  go_wp2_with fail
  refine HX.out.mono ?_
  rintro e w1 ⟨rfl, h1, h2⟩
  have H1 := hid (And.intro h1 h2)
  have HN := hid (next_any n h1 (by omega))
  clear h1 h2 HX
  go_wp2_with fail
  refine HN.out.mono ?_
  rintro e w2 ⟨a', c', rfl, h3, h4, h5⟩
  have hcv := conv_str (k := c') h3
  have H2 := hid (And.intro h4 h5)
  clear h3 h4 h5 HN
  go_wp2_with fail
  go_ret
  exact ⟨rfl, H2.out.1, H1.out.2.trans H2.out.2⟩

/-- four numbers stored, where they belong -/
def put4 (F : Nat → Value) (os : List Nat) (xs : Nat → Int) : Nat → Nat → Value
  | 0 => F
  | k + 1 => fun j => if j = os.getD k 0 then .int .i64 (xs k) else put4 F os xs k j

set_option maxRecDepth 20000 in
set_option maxHeartbeats 4000000 in
theorem numbers_rd (Q g m : Nat) (os : List Nat) (F : Nat → Value) (h : IsRr w p a c b st) (hQ : Q < w.heap.size) (hQp : Q ≠ p) (hQa : ∀ ad, a = some ad → ad.block ≠ Q) (hg : g < w.heap.size) (hgp : g ≠ p) (hgQ : g ≠ Q) (hos : os.length = 4) (hom : ∀ o ∈ os, o < m)
    (hF : VRow w Q m F) (HP : Hid (PtrAt w g (os.map fun o => ⟨Q, o, none⟩))) :
    Calls Try.prog 85 #[.pointer (some ⟨p, 0, none⟩), .slice (some ⟨g, 0, none⟩) 4 4] w fun e w' => e = .returned (.tuple #[]) ∧ IsRr w' p a c b (stN b st 4) ∧ VRow w' Q m (put4 F os (fun i => numO b (stN b st i)) 4) ∧ Wr (fun k => k = p ∨ k = Q) w w' := by
  have HH := hid h
  have HF := hid hF
  have HO := hid hos
  have HM := hid hom
  clear h hF hos hom
  go_enter Try.func85, Try.ntmps85
  go_wp2_with fail
  go_loopw [11] (fun i wr => ∃ k : Nat, k ≤ 4 ∧ i = .int .i64 k ∧ IsRr wr p a c b (stN b st k) ∧ VRow wr Q m (put4 F os (fun i => numO b (stN b st i)) k) ∧ Wr (fun k => k = p ∨ k = Q) w wr) (fun i _ => 4 - (intOf i).toNat)
  case atStart => exact ⟨0, Nat.zero_le _, rfl, HH.out, HF.out, Wr.refl _ _⟩
  case round =>
    obtain ⟨k, hk, rfl, hr, hv, hw⟩ := hrel
    have HR := hid hr
    have HV := hid hv
    have HW := hid hw
    clear hr hv hw
    by_cases hlt : k < 4
    · obtain ⟨o, ho⟩ : ∃ o, os[k]? = some o := ⟨os[k]'(by rw [HO.out]; exact hlt), List.getElem?_eq_getElem _⟩
      have hgR : ¬ (g = p ∨ g = Q) := by
        rintro (e | e)
        · exact hgp e
        · exact hgQ e
      have x0 : wr.cell? ⟨g, k, none⟩ = some (.pointer (some ⟨Q, o, none⟩)) := (HW.out.cell k hg hgR).trans (HP.out k _ (by rw [List.getElem?_map, ho]; rfl))
      have hom := HM.out o (List.mem_of_getElem? ho)
      have HOG : Hid (os.getD k 0 = o) := hid (by simp [List.getD, ho])
      have hd4 : decide ((k : Int) < 4) = true := decide_eq_true (by omega)
      have HX := hid (next_any 8 HR.out (by omega))
      have HL := hid (nx_len b (stN b st k) 8)
      obtain ⟨s, hs⟩ : ∃ s, nx b (stN b st k) 8 = s := ⟨_, rfl⟩
      have HS := hid hs
      rw [hs] at HX HL
      have hl : s.length = 0 ∨ s.length = 8 := by
        have := HL.out
        split at this
        · exact .inl this
        · exact .inr this
      obtain ⟨SL, hSL⟩ : ∃ SL, s.length = SL := ⟨_, rfl⟩
      have HSL := hid hSL
      rw [hSL] at HX hl
      have hsl8 : SL ≤ 8 := by omega
      clear hs ho hgR HL hl hSL
      go_wp2_with fail
      refine HX.out.mono ?_
      rintro e w1 ⟨a', c', rfl, h1, h2, h3⟩
      have HB1 := hid h1
      have HR1 := hid h2
      have HW1 := hid h3
      clear h1 h2 h3 HX
      go_wp2_with fail
      go_loopw [6, 18] (fun u i wx => ∃ j : Nat, j ≤ SL ∧ i = .int .i64 j ∧ u = .int .i64 (wrap64 (sofar 0 s j : Nat)) ∧ wx = w1) (fun _ i _ => SL - (intOf i).toNat)
      case atStart => exact ⟨0, Nat.zero_le _, rfl, by simp [sofar, wrap64], rfl⟩
      case round =>
        obtain ⟨j, hj, rfl, rfl, rfl⟩ := hrel
        by_cases hjl : j < SL
        · obtain ⟨g2, o2, rfl, _, hc⟩ := HB1.out (by rw [HSL.out]; omega)
          obtain ⟨x, hx⟩ : ∃ x, s[j]? = some x := ⟨s[j]'(by rw [HSL.out]; exact hjl), List.getElem?_eq_getElem _⟩
          have z0 := hc j x hx
          unfold bv at z0
          have hsm := sofar_small7 s (show j < 8 by omega)
          have HN0 : Hid (sofar 0 s (j + 1) = sofar 0 s j * 256 + x.toNat) := hid (by simp [sofar, List.getD, hx])
          have HXL := hid (UInt8.toNat_lt x)
          clear hc hx
          rw [show wrap64 ((sofar 0 s j : Nat) : Int) = ((sofar 0 s j : Nat) : Int) by unfold wrap64; omega]
          obtain ⟨u, hu⟩ : ∃ u, sofar 0 s j = u := ⟨_, rfl⟩
          rw [hu] at HN0 hsm ⊢
          have HSM := hid hsm
          clear hu
          go_wp2_with fail
          go_roundw
          case rel => exact ⟨j + 1, by omega, by go_num, by rw [HN0.out]; exact congrArg (Value.int .i64) (join64 u x.toNat HSM.out HXL.out), by first | trivial | rfl⟩
          case measure => simp [intOf]; omega
        · obtain rfl : j = SL := by omega
          have hnum : wrap64 ((sofar 0 s j : Nat) : Int) = numO b (stN b st k) := by
            unfold numO num
            rw [HS.out, HSL.out]
          rw [hnum]
          have hvr := (HV.out.of_block (HW1.out.block Q (Nat.lt_of_lt_of_le hQ HW.out.size) hQp))
          obtain ⟨q1, q2⟩ := hvr o hom
          have HVR := hid hvr
          clear hvr hnum
          obtain ⟨NV, hNV⟩ : ∃ NV, numO b (stN b st k) = NV := ⟨_, rfl⟩
          rw [hNV]
          have HNV := hid hNV
          clear hNV
          obtain ⟨y, hy⟩ : ∃ y, put4 F os (fun i => numO b (stN b st i)) k o = y := ⟨_, rfl⟩
          rw [hy] at q1
          clear hy
          go_wp2_with fail
          go_roundw
          case rel =>
            refine ⟨k + 1, by omega, by go_num, HR1.out.wr (R := fun x => x = Q) (Wr.set ⟨Q, o, none⟩ _ rfl) (fun e => hQp e.symm) (fun ad e e2 => hQa ad e e2), ?_, (HW.out.trans (HW1.out.mono (fun x e => .inl e))).trans (Wr.set ⟨Q, o, none⟩ _ (.inr rfl))⟩
            refine VRow.congr (HVR.out.set o hom (.int .i64 NV)) (fun jj hjj => ?_)
            show _ = (if jj = os.getD k 0 then Value.int .i64 (numO b (stN b st k)) else put4 F os (fun i => numO b (stN b st i)) k jj)
            rw [HOG.out, HNV.out]
          case measure => simp [intOf]; omega
    · obtain rfl : k = 4 := by omega
      go_wp2_with fail
      go_end0
      exact ⟨rfl, HR.out, HV.out, HW.out⟩

end Go.Proofs.Ythmcfnbnafdkeaa.PrtG
