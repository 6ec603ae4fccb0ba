/- What is read, said by places; the document's number. -/
import Derived.Test.YtbpajgkhajheaaaPrtI
import Derived.Test.YtbpajgkhajheaaaFrmDa
namespace Go.Proofs.Ytbpajgkhajheaaa.PrtJ
open Go.ChangeShapes Go.WideShapes Go.ChangeAt Go.RowKit Base Wri Vrw FrmP FrmA FrmD FrmE FrmF FrmR FrmX FrmL FrmC2 FrmK FrmK2 RulA PrtA PrtB PrtC PrtR PrtN PrtD PrtE PrtF PrtG PrtH PrtI
set_option linter.unusedVariables false
set_option linter.unusedSimpArgs false

variable {W W' w : World} {p c : Nat} {a : Option Addr} {b : Bs} {st : Rs}

theorem st_fine {n : Nat} (h : (st' b st n).short = false) : st.short = false ∧ st.place + n ≤ b.length ∧ st' b st n = ⟨st.place + n, false⟩ ∧ nx b st n = (b.drop st.place).take n := by
  unfold st' at h ⊢
  split at h
  · cases h
  · rename_i hl
    rw [if_neg hl]
    unfold nx
    rw [if_neg hl]
    unfold lacks at hl
    simp only [Bool.or_eq_true, decide_eq_true_eq, not_or, Bool.not_eq_true] at hl
    exact ⟨hl.1, by omega, rfl, rfl⟩
theorem st_there {n : Nat} (h0 : st.short = false) (h : st.place + n ≤ b.length) : st' b st n = ⟨st.place + n, false⟩ ∧ nx b st n = (b.drop st.place).take n := by
  have hl : ¬ lacks b st n = true := by
    unfold lacks
    simp only [Bool.or_eq_true, decide_eq_true_eq, not_or, Bool.not_eq_true]
    exact ⟨h0, by omega⟩
  unfold st' nx
  rw [if_neg hl, if_neg hl]
  exact ⟨rfl, rfl⟩

def lenT (b : Bs) : Nat := (b.getD 33 0).toNat

theorem one_at {b : Bs} {k : Nat} (h : k < b.length) : ((b.drop k).take 1).getD 0 0 = b.getD k 0 := by
  rw [List.getD_eq_getElem?_getD, List.getD_eq_getElem?_getD, List.getElem?_take, List.getElem?_drop]
  simp

/-- all is there -/
theorem there {b : Bs} (h : 33 ≤ b.length) : endA b = ⟨33, false⟩ ∧ wantO b = (b.getD 0 0).toNat ∧ ∀ k, k < 4 → nO b k = num ((b.drop (1 + 8 * k)).take 8) := by
  have e1 := st_there (b := b) (st := zero) (n := 1) rfl (by show 0 + 1 ≤ _; omega)
  have hz : zero.place = 0 := rfl
  rw [hz, Nat.zero_add] at e1
  have hN : ∀ k, k ≤ 4 → stN b (st1 b) k = ⟨1 + 8 * k, false⟩ := by
    intro k
    induction k with
    | zero => intro _; exact e1.1
    | succ k ih =>
      intro hk
      show st' b (stN b (st1 b) k) 8 = _
      rw [ih (by omega)]
      have := (st_there (b := b) (st := ⟨1 + 8 * k, false⟩) (n := 8) rfl (by dsimp only; omega)).1
      rw [this]
      exact congrArg (fun n => Rs.mk n false) (by dsimp only; omega)
  refine ⟨hN 4 (Nat.le_refl _), ?_, fun k hk => ?_⟩
  · unfold wantO
    rw [e1.2, one_at (by omega)]
  · unfold nO numO
    rw [hN k (by omega), (st_there (b := b) (st := ⟨1 + 8 * k, false⟩) (n := 8) rfl (by dsimp only; omega)).2]
theorem endA_short {b : Bs} (h : b.length < 33) : (endA b).short = true := by
  cases hs : (endA b).short with
  | true => rfl
  | false =>
    exfalso
    have h4 := st_fine (b := b) (st := stN b (st1 b) 3) (n := 8) hs
    have h3 := st_fine (b := b) (st := stN b (st1 b) 2) (n := 8) h4.1
    have h2 := st_fine (b := b) (st := stN b (st1 b) 1) (n := 8) h3.1
    have h1 := st_fine (b := b) (st := stN b (st1 b) 0) (n := 8) h2.1
    have h0 := st_fine (b := b) (st := zero) (n := 1) h1.1
    have p4 := h4.2.1
    have e3 : stN b (st1 b) 3 = ⟨(stN b (st1 b) 2).place + 8, false⟩ := h3.2.2.1
    have e2 : stN b (st1 b) 2 = ⟨(stN b (st1 b) 1).place + 8, false⟩ := h2.2.2.1
    have e1 : stN b (st1 b) 1 = ⟨(stN b (st1 b) 0).place + 8, false⟩ := h1.2.2.1
    have e0 : stN b (st1 b) 0 = ⟨0 + 1, false⟩ := h0.2.2.1
    rw [e0] at e1
    rw [e1] at e2
    rw [e2] at e3
    rw [e3] at p4
    dsimp only at p4
    omega
theorem endR_there {b : Bs} (h : 34 + lenT b ≤ b.length) : endR b = ⟨34 + lenT b, false⟩ ∧ txR b = ⟨((b.drop 34).take (lenT b)).toArray⟩ := by
  obtain ⟨e4, _, _⟩ := there (b := b) (by omega)
  have e4 : stN b (st1 b) 4 = ⟨33, false⟩ := e4
  have h1 := st_there (b := b) (st := ⟨33, false⟩) (n := 1) rfl (by dsimp only; omega)
  have hx : ((nx b ⟨33, false⟩ 1).getD 0 0).toNat = lenT b := by
    rw [h1.2, one_at (by dsimp only; omega)]
    rfl
  have h2 := st_there (b := b) (st := ⟨34, false⟩) (n := lenT b) rfl (by dsimp only; omega)
  have h1' : st' b ⟨33, false⟩ 1 = ⟨34, false⟩ := h1.1
  unfold endR txR txS txO
  rw [e4, hx, h1', h2.1, h2.2]
  exact ⟨rfl, rfl⟩
theorem endR_short {b : Bs} (h : b.length < 34 ∨ b.length < 34 + lenT b) : (endR b).short = true := by
  cases hs : (endR b).short with
  | true => rfl
  | false =>
    exfalso
    have h2 := st_fine hs
    have h1 := st_fine h2.1
    by_cases h33 : b.length < 33
    · have := endA_short h33
      have h3 : (stN b (st1 b) 4).short = true := this
      rw [h1.1] at h3
      cases h3
    · have e4 : stN b (st1 b) 4 = ⟨33, false⟩ := (there (b := b) (by omega)).1
      have p1 := h1.2.1
      have p2 := h2.2.1
      rw [h1.2.2.1, h1.2.2.2, e4] at p2
      rw [e4] at p1
      dsimp only at p1 p2
      rw [one_at (by omega)] at p2
      have : lenT b = (b.getD 33 0).toNat := rfl
      omega

set_option maxRecDepth 20000 in
set_option maxHeartbeats 2000000 in
theorem number_any (a : Option Addr) (c : Nat) (s : Bs) (w : World) (h8 : 8 ≤ s.length) (hL : s.length ≤ 9223372036854775807) (HB : Hid (BAt w w.heap.size a s)) :
    Calls Try.prog 74 #[.slice a s.length c] w fun e w' => e = .returned (.int .i64 (num (s.take 8))) ∧ w' = w := by
  obtain ⟨L, hl⟩ : ∃ L, s.length = L := ⟨_, rfl⟩
  have HL := hid hl
  rw [hl] at h8 hL ⊢
  clear hl
  obtain ⟨g, o, rfl, hg, hc⟩ := HB.out (by rw [HL.out]; omega)
  have HC := hid hc
  obtain ⟨t, ht⟩ : ∃ t, s.take 8 = t := ⟨_, rfl⟩
  have htl : t.length = 8 := by rw [← ht, List.length_take, HL.out]; omega
  have HT : Hid (∀ k, k < 8 → ∃ x, t[k]? = some x ∧ s[k]? = some x) := hid (fun k hk => by
    obtain ⟨x, hx⟩ : ∃ x, s[k]? = some x := ⟨s[k]'(by rw [HL.out]; omega), List.getElem?_eq_getElem _⟩
    exact ⟨x, by rw [← ht, List.getElem?_take, if_pos hk, hx], hx⟩)
  have HNT : Hid (num t = wrap64 (sofar 0 t 8 : Nat)) := hid (by unfold num; rw [htl])
  rw [ht, HNT.out]
  clear hc ht htl HNT
  go_enter Try.func74, Try.ntmps74
  go_wp2_with fail
  go_loopw [3, 4] (fun u i wr => ∃ k : Nat, k ≤ 8 ∧ u = .int .i64 (wrap64 (sofar 0 t k : Nat)) ∧ i = .int .i64 k ∧ wr = w) (fun _ i _ => 8 - (intOf i).toNat)
  case atStart => exact ⟨0, Nat.zero_le _, by simp [sofar, wrap64], rfl, rfl⟩
  case round =>
    obtain ⟨k, hk, rfl, rfl, rfl⟩ := hrel
    by_cases hlt : k < 8
    · obtain ⟨x, hx, hxs⟩ := HT.out k hlt
      have z0 := HC.out k x hxs
      unfold bv at z0
      have hsm := sofar_small7 t hlt
      have HN0 : Hid (sofar 0 t (k + 1) = sofar 0 t k * 256 + x.toNat) := hid (by simp [sofar, List.getD, hx])
      have HXL := hid (UInt8.toNat_lt x)
      clear hx hxs
      rw [show wrap64 ((sofar 0 t k : Nat) : Int) = ((sofar 0 t k : Nat) : Int) by unfold wrap64; omega]
      obtain ⟨u, hu⟩ : ∃ u, sofar 0 t k = u := ⟨_, rfl⟩
      rw [hu] at HN0 hsm ⊢
      have HSM := hid hsm
      clear hu
      go_wp2_with fail
      go_roundw
      case rel => exact ⟨k + 1, by omega, by rw [HN0.out]; exact congrArg (Value.int .i64) (join64 u x.toNat HSM.out HXL.out), by go_num, by first | trivial | rfl⟩
      case measure => simp [intOf]; omega
    · obtain rfl : k = 8 := by omega
      go_wp2_with fail
      go_ret
      exact ⟨rfl, by first | trivial | rfl⟩

end Go.Proofs.Ytbpajgkhajheaaa.PrtJ
