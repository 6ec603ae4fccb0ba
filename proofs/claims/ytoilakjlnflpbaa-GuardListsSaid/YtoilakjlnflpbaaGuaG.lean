/- What a rule lets pass it lets pass with less of everything. -/
import Derived.Test.YtoilakjlnflpbaaGuaF
namespace Go.Proofs.Ytoilakjlnflpbaa.GuaG
open Go.ChangeShapes Go.WideShapes Go.ChangeAt Go.RowKit Go.Deep Base NumM NumE RulA Txt LisA LisD GuaA GuaB GuaE GuaF
set_option linter.unusedVariables false

def lessV (n k : Int) : Int := if k < 0 ∨ n < k then n else n - k

set_option maxHeartbeats 400000 in
theorem less_any (n k : Int) (hn : Fits n) (w : World) : Calls Try.prog 28 #[.int .i64 n, .int .i64 k] w fun x w' => x = .returned (.int .i64 (lessV n k)) ∧ w = w' := by
  unfold Fits at hn
  unfold lessV
  by_cases h1 : k < 0
  · rw [if_pos (.inl h1)]
    go_enter Try.func28, Try.ntmps28
    go_wp2_with fail
    go_ret
    exact ⟨rfl, rfl⟩
  · by_cases h2 : n < k
    · rw [if_pos (.inr h2)]
      have h1' : decide (k < 0) = false := by simpa using h1
      clear h1
      go_enter Try.func28, Try.ntmps28
      go_wp2_with fail
      go_ret
      exact ⟨rfl, rfl⟩
    · rw [if_neg (fun h => h.elim h1 h2)]
      go_enter Try.func28, Try.ntmps28
      go_wp2_with fail
      go_ret
      exact ⟨rfl, rfl⟩

set_option maxHeartbeats 400000 in
theorem of_any (qp th rt ld cp mo le : Int) (w : World) : Calls Try.prog 9 #[.agg #[.int .i64 qp, .int .i64 th, .int .i64 rt, .int .i64 ld, .int .i64 cp, .int .i64 mo, .int .i64 le]] w fun x w' => x = .returned (.agg #[.int .i64 qp, .int .i64 th, .int .i64 rt, .int .i64 ld, .int .i64 cp, .int .i64 mo, .int .i64 le]) ∧ Below w.heap.size w w' := by
  go_enter Try.func9, Try.ntmps9
  go_wp2_with fail
  first
    | (refine bodyPost_ret (v := .agg #[.int .i64 qp, .int .i64 th, .int .i64 rt, .int .i64 ld, .int .i64 cp, .int .i64 mo, .int .i64 le]) (by simp [results, Try.results9, go_sem]) rfl ?_; exact ⟨rfl, ((Below.refl _ w).alloc (Nat.le_refl _) _).alloc (by simp) _⟩)
    | (go_ret; exact ⟨rfl, (Below.refl _ w).alloc (Nat.le_refl _) _⟩)

theorem pick_none {c0 c1 c2 c3 c4 c5 : Bool} : pickS c0 c1 c2 c3 c4 c5 = ⟨#[]⟩ ↔ c0 = false ∧ c1 = false ∧ c2 = false ∧ (c3 = false ∨ c4 = false) ∧ c5 = false := by
  cases c0 <;> cases c1 <;> cases c2 <;> cases c3 <;> cases c4 <;> cases c5 <;> simp [pickS]
theorem above_none (n : Int) : aboveB n (-1) = false := by unfold aboveB; simp
theorem above_less {n m l : Int} (h : aboveB n l = false) (hm : m ≤ n) : aboveB m l = false := by
  unfold aboveB at *
  simp at *
  omega
theorem many_less {t t' m l : Int} (h : manyV t m l = false) (ht : t' ≤ t) : manyV t' m l = false := by
  unfold manyV at *
  simp at *
  omega
theorem field_none {qp th rt ld cp mo le n : Int} : fieldS qp th rt ld cp mo le (-1) (-1) (-1) (-1) (-1) n = if nowB qp th rt ld cp mo le && inR n 1 1099511627776 then ⟨#[]⟩ else ⟨#[102, 111, 114, 109]⟩ := by
  unfold fieldS blkS
  rw [show sysB (-1) (-1) (-1) (-1) (-1) = true by decide, above_none, above_none, above_none, above_none, above_none]
  simp [pickS]
theorem field_empty {qp th rt ld cp mo le x0 x1 x2 x3 x4 n : Int} : fieldS qp th rt ld cp mo le x0 x1 x2 x3 x4 n = ⟨#[]⟩ ↔ sysB x0 x1 x2 x3 x4 = true ∧ nowB qp th rt ld cp mo le = true ∧ inR n 1 1099511627776 = true ∧ blkS qp th rt ld cp mo le x0 x1 x2 x3 x4 n = ⟨#[]⟩ := by
  unfold fieldS
  cases sysB x0 x1 x2 x3 x4 <;> cases nowB qp th rt ld cp mo le <;> cases inR n 1 1099511627776 <;> simp
theorem less_le {n k : Int} (hn : 0 ≤ n) : lessV n k ≤ n ∧ 0 ≤ lessV n k := by
  unfold lessV
  split <;> omega
theorem okM_less {n k : Int} (h : okM n = true) : okM (lessV n k) = true := by
  rw [okM_iff] at *
  have := less_le (k := k) h.1
  omega

theorem system_less {qp th rt ld cp mo le x0 x1 x2 x3 x4 n m : Int} (k0 k1 k2 k3 k4 : Int) (hm : m ≤ n) (hm1 : 1 ≤ m) (h : fieldS qp th rt ld cp mo le x0 x1 x2 x3 x4 n = ⟨#[]⟩) : fieldS (lessV qp k0) (lessV th k1) (lessV rt k2) (lessV ld k3) (lessV cp k4) mo le x0 x1 x2 x3 x4 m = ⟨#[]⟩ := by
  rw [field_empty] at *
  obtain ⟨h1, h2, h3, h4⟩ := h
  have h3' := inR_iff.1 h3
  unfold nowB at h2
  simp only [Bool.and_eq_true] at h2
  obtain ⟨⟨⟨⟨⟨⟨a1, a2⟩, a3⟩, a4⟩, a5⟩, a6⟩, a7⟩ := h2
  have l1 := less_le (k := k0) (okM_iff.1 a1).1
  have l2 := less_le (k := k1) (okM_iff.1 a2).1
  have l3 := less_le (k := k2) (okM_iff.1 a3).1
  have l4 := less_le (k := k3) (okM_iff.1 a4).1
  have l5 := less_le (k := k4) (okM_iff.1 a5).1
  refine ⟨h1, ?_, inR_iff.2 (by omega), ?_⟩
  · unfold nowB
    rw [okM_less a1, okM_less a2, okM_less a3, okM_less a4, okM_less a5, a6, a7]; rfl
  · unfold blkS at *
    rw [pick_none] at *
    obtain ⟨q0, q1, q2, q3, q5⟩ := h4
    exact ⟨above_less q0 (by omega), above_less q1 (by omega), above_less q2 (by omega), q3.imp (fun h => above_less h (by omega)) (fun h => many_less h (by omega)), above_less q5 (by omega)⟩

theorem form_neq {s : ByteArray} {b : Bool} (h : decide (s = ⟨#[102, 111, 114, 109]⟩) = b) : (s.toList == [102, 111, 114, 109]) = b := by
  rw [show ([102, 111, 114, 109] : List UInt8) = (⟨#[102, 111, 114, 109]⟩ : ByteArray).toList by rw [ByteArray.toList_eq], text_eq]
  exact h

theorem three0 (w : World) (X Y Z : Array Value) (t1 t2 t3 : TypeId) {k : Nat} {v : Value} (hk : X[k]? = some v) : (((w.alloc (.cells X t1)).alloc (.cells Y t2)).alloc (.cells Z t3)).cell? ⟨w.heap.size, k, none⟩ = some v := by
  rw [World.cell?_of_block (a := ⟨w.heap.size, k, none⟩) (Below.heap_alloc _ _ _ (by simp; omega)), World.cell?_of_block (a := ⟨w.heap.size, k, none⟩) (Below.heap_alloc _ _ _ (by simp)), World.cell?_alloc_new]
  exact hk
theorem three1 (w : World) (X Y Z : Array Value) (t1 t2 t3 : TypeId) {k : Nat} {v : Value} (hk : Y[k]? = some v) : (((w.alloc (.cells X t1)).alloc (.cells Y t2)).alloc (.cells Z t3)).cell? ⟨w.heap.size + 1, k, none⟩ = some v := by
  have e : (w.alloc (.cells X t1)).heap.size = w.heap.size + 1 := by simp
  rw [World.cell?_of_block (a := ⟨w.heap.size + 1, k, none⟩) (Below.heap_alloc _ _ _ (by simp)), ← e, World.cell?_alloc_new]
  exact hk
theorem three2 (w : World) (X Y Z : Array Value) (t1 t2 t3 : TypeId) {k : Nat} {v : Value} (hk : Z[k]? = some v) : (((w.alloc (.cells X t1)).alloc (.cells Y t2)).alloc (.cells Z t3)).cell? ⟨w.heap.size + 1 + 1, k, none⟩ = some v := by
  have e : ((w.alloc (.cells X t1)).alloc (.cells Y t2)).heap.size = w.heap.size + 1 + 1 := by simp
  rw [← e, World.cell?_alloc_new]
  exact hk

set_option maxRecDepth 100000 in
set_option maxHeartbeats 8000000 in
theorem less_core (qp th rt ld cp mo le : Int) (y0 y1 y2 y3 y4 y5 y6 : Int) (x0 x1 x2 x3 x4 : Int) (n0 n1 m0 m b0 b1 b2 b3 b4 : Int) (s : ByteArray) (f1 c1 c2 c3 : Bool) (hf : (s.toList == [102, 111, 114, 109]) = f1)
    (hm : (m0 < 1 ∧ n0 = m) ∨ (1 ≤ m0 ∧ m0 = m)) (hc1 : f1 = false → c1 = true) (hc2 : c2 = true → c3 = true) (w : World)
    (HL : Hid (Ret 12 #[] (.bool true)))
    (HO : Hid (Ret 9 #[.agg #[.int .i64 qp, .int .i64 th, .int .i64 rt, .int .i64 ld, .int .i64 cp, .int .i64 mo, .int .i64 le]] (.agg #[.int .i64 qp, .int .i64 th, .int .i64 rt, .int .i64 ld, .int .i64 cp, .int .i64 mo, .int .i64 le])))
    (K0 : Hid (∀ w, Calls Try.prog 28 #[.int .i64 qp, .int .i64 y0] w fun x w' => x = .returned (.int .i64 b0) ∧ w = w'))
    (K1 : Hid (∀ w, Calls Try.prog 28 #[.int .i64 th, .int .i64 y1] w fun x w' => x = .returned (.int .i64 b1) ∧ w = w'))
    (K2 : Hid (∀ w, Calls Try.prog 28 #[.int .i64 rt, .int .i64 y2] w fun x w' => x = .returned (.int .i64 b2) ∧ w = w'))
    (K3 : Hid (∀ w, Calls Try.prog 28 #[.int .i64 ld, .int .i64 y3] w fun x w' => x = .returned (.int .i64 b3) ∧ w = w'))
    (K4 : Hid (∀ w, Calls Try.prog 28 #[.int .i64 cp, .int .i64 y4] w fun x w' => x = .returned (.int .i64 b4) ∧ w = w'))
    (K : Hid (∀ w, Calls Try.prog 28 #[.int .i64 n0, .int .i64 n1] w fun x w' => x = .returned (.int .i64 m0) ∧ w = w'))
    (H1 : Hid (Ret 16 #[.agg #[.int .i64 x0, .int .i64 x1, .int .i64 x2, .int .i64 x3, .int .i64 x4], .int .i64 n0, .agg #[.int .i64 qp, .int .i64 th, .int .i64 rt, .int .i64 ld, .int .i64 cp, .int .i64 mo, .int .i64 le]] (.string s)))
    (H2 : Hid (Ret 14 #[.agg #[.int .i64 (-1), .int .i64 (-1), .int .i64 (-1), .int .i64 (-1), .int .i64 (-1)], .int .i64 n0, .agg #[.int .i64 qp, .int .i64 th, .int .i64 rt, .int .i64 ld, .int .i64 cp, .int .i64 mo, .int .i64 le]] (.bool c1)))
    (H3 : Hid (Ret 14 #[.agg #[.int .i64 x0, .int .i64 x1, .int .i64 x2, .int .i64 x3, .int .i64 x4], .int .i64 n0, .agg #[.int .i64 qp, .int .i64 th, .int .i64 rt, .int .i64 ld, .int .i64 cp, .int .i64 mo, .int .i64 le]] (.bool c2)))
    (H4 : Hid (Ret 14 #[.agg #[.int .i64 x0, .int .i64 x1, .int .i64 x2, .int .i64 x3, .int .i64 x4], .int .i64 m, .agg #[.int .i64 b0, .int .i64 b1, .int .i64 b2, .int .i64 b3, .int .i64 b4, .int .i64 mo, .int .i64 le]] (.bool c3))) :
    Calls Try.prog 6 #[.agg #[.int .i64 x0, .int .i64 x1, .int .i64 x2, .int .i64 x3, .int .i64 x4], .agg #[.int .i64 qp, .int .i64 th, .int .i64 rt, .int .i64 ld, .int .i64 cp, .int .i64 mo, .int .i64 le, .int .i64 y0, .int .i64 y1, .int .i64 y2, .int .i64 y3, .int .i64 y4, .int .i64 y5, .int .i64 y6], .agg #[.int .i64 n0, .int .i64 n1]] w fun x w' => x = .returned (.bool true) ∧ Below w.heap.size w w' := by
  have HH := hid (And.intro hm (And.intro hc1 hc2))
  clear hm hc1 hc2
  obtain ⟨W, hW⟩ : ∃ W, ((w.alloc (.cells #[.int .i64 x0, .int .i64 x1, .int .i64 x2, .int .i64 x3, .int .i64 x4] 38)).alloc (.cells #[.int .i64 qp, .int .i64 th, .int .i64 rt, .int .i64 ld, .int .i64 cp, .int .i64 mo, .int .i64 le, .int .i64 y0, .int .i64 y1, .int .i64 y2, .int .i64 y3, .int .i64 y4, .int .i64 y5, .int .i64 y6] 60)).alloc (.cells #[.int .i64 n0, .int .i64 n1] 61) = W := ⟨_, rfl⟩
  have zr0 : W.cell? ⟨w.heap.size, 0, none⟩ = some (.int .i64 x0) := by rw [← hW]; clear hW; go_cell
  have zr1 : W.cell? ⟨w.heap.size, 1, none⟩ = some (.int .i64 x1) := by rw [← hW]; clear hW; go_cell
  have zr2 : W.cell? ⟨w.heap.size, 2, none⟩ = some (.int .i64 x2) := by rw [← hW]; clear hW; go_cell
  have zr3 : W.cell? ⟨w.heap.size, 3, none⟩ = some (.int .i64 x3) := by rw [← hW]; clear hW; go_cell
  have zr4 : W.cell? ⟨w.heap.size, 4, none⟩ = some (.int .i64 x4) := by rw [← hW]; clear hW; go_cell
  have zs0 : W.cell? ⟨w.heap.size + 1, 0, none⟩ = some (.int .i64 qp) := by rw [← hW]; clear hW; go_cell
  have zs1 : W.cell? ⟨w.heap.size + 1, 1, none⟩ = some (.int .i64 th) := by rw [← hW]; clear hW; go_cell
  have zs2 : W.cell? ⟨w.heap.size + 1, 2, none⟩ = some (.int .i64 rt) := by rw [← hW]; clear hW; go_cell
  have zs3 : W.cell? ⟨w.heap.size + 1, 3, none⟩ = some (.int .i64 ld) := by rw [← hW]; clear hW; go_cell
  have zs4 : W.cell? ⟨w.heap.size + 1, 4, none⟩ = some (.int .i64 cp) := by rw [← hW]; clear hW; go_cell
  have zs5 : W.cell? ⟨w.heap.size + 1, 5, none⟩ = some (.int .i64 mo) := by rw [← hW]; clear hW; go_cell
  have zs6 : W.cell? ⟨w.heap.size + 1, 6, none⟩ = some (.int .i64 le) := by rw [← hW]; clear hW; go_cell
  have zs7 : W.cell? ⟨w.heap.size + 1, 7, none⟩ = some (.int .i64 y0) := by rw [← hW]; clear hW; go_cell
  have zs8 : W.cell? ⟨w.heap.size + 1, 8, none⟩ = some (.int .i64 y1) := by rw [← hW]; clear hW; go_cell
  have zs9 : W.cell? ⟨w.heap.size + 1, 9, none⟩ = some (.int .i64 y2) := by rw [← hW]; clear hW; go_cell
  have zs10 : W.cell? ⟨w.heap.size + 1, 10, none⟩ = some (.int .i64 y3) := by rw [← hW]; clear hW; go_cell
  have zs11 : W.cell? ⟨w.heap.size + 1, 11, none⟩ = some (.int .i64 y4) := by rw [← hW]; clear hW; go_cell
  have zs12 : W.cell? ⟨w.heap.size + 1, 12, none⟩ = some (.int .i64 y5) := by rw [← hW]; clear hW; go_cell
  have zs13 : W.cell? ⟨w.heap.size + 1, 13, none⟩ = some (.int .i64 y6) := by rw [← hW]; clear hW; go_cell
  have zt0 : W.cell? ⟨w.heap.size + 1 + 1, 0, none⟩ = some (.int .i64 n0) := by rw [← hW]; clear hW; go_cell
  have zt1 : W.cell? ⟨w.heap.size + 1 + 1, 1, none⟩ = some (.int .i64 n1) := by rw [← hW]; clear hW; go_cell
  have HB : Hid (Below w.heap.size w W) := hid (by rw [← hW]; exact (((Below.refl _ w).alloc (Nat.le_refl _) _).alloc (by simp) _).alloc (by simp; omega) _)
  go_enter Try.func6, Try.ntmps6
  go_wp2_with fail
  try rw [hW]
  refine (HL.out _).mono ?_
  rintro x w1 ⟨rfl, hb⟩
  have ar0 : w1.cell? ⟨w.heap.size, 0, none⟩ = some (.int .i64 x0) := kc hb (by first | assumption | go_cell)
  have ar1 : w1.cell? ⟨w.heap.size, 1, none⟩ = some (.int .i64 x1) := kc hb (by first | assumption | go_cell)
  have ar2 : w1.cell? ⟨w.heap.size, 2, none⟩ = some (.int .i64 x2) := kc hb (by first | assumption | go_cell)
  have ar3 : w1.cell? ⟨w.heap.size, 3, none⟩ = some (.int .i64 x3) := kc hb (by first | assumption | go_cell)
  have ar4 : w1.cell? ⟨w.heap.size, 4, none⟩ = some (.int .i64 x4) := kc hb (by first | assumption | go_cell)
  have as0 : w1.cell? ⟨w.heap.size + 1, 0, none⟩ = some (.int .i64 qp) := kc hb (by first | assumption | go_cell)
  have as1 : w1.cell? ⟨w.heap.size + 1, 1, none⟩ = some (.int .i64 th) := kc hb (by first | assumption | go_cell)
  have as2 : w1.cell? ⟨w.heap.size + 1, 2, none⟩ = some (.int .i64 rt) := kc hb (by first | assumption | go_cell)
  have as3 : w1.cell? ⟨w.heap.size + 1, 3, none⟩ = some (.int .i64 ld) := kc hb (by first | assumption | go_cell)
  have as4 : w1.cell? ⟨w.heap.size + 1, 4, none⟩ = some (.int .i64 cp) := kc hb (by first | assumption | go_cell)
  have as5 : w1.cell? ⟨w.heap.size + 1, 5, none⟩ = some (.int .i64 mo) := kc hb (by first | assumption | go_cell)
  have as6 : w1.cell? ⟨w.heap.size + 1, 6, none⟩ = some (.int .i64 le) := kc hb (by first | assumption | go_cell)
  have as7 : w1.cell? ⟨w.heap.size + 1, 7, none⟩ = some (.int .i64 y0) := kc hb (by first | assumption | go_cell)
  have as8 : w1.cell? ⟨w.heap.size + 1, 8, none⟩ = some (.int .i64 y1) := kc hb (by first | assumption | go_cell)
  have as9 : w1.cell? ⟨w.heap.size + 1, 9, none⟩ = some (.int .i64 y2) := kc hb (by first | assumption | go_cell)
  have as10 : w1.cell? ⟨w.heap.size + 1, 10, none⟩ = some (.int .i64 y3) := kc hb (by first | assumption | go_cell)
  have as11 : w1.cell? ⟨w.heap.size + 1, 11, none⟩ = some (.int .i64 y4) := kc hb (by first | assumption | go_cell)
  have as12 : w1.cell? ⟨w.heap.size + 1, 12, none⟩ = some (.int .i64 y5) := kc hb (by first | assumption | go_cell)
  have as13 : w1.cell? ⟨w.heap.size + 1, 13, none⟩ = some (.int .i64 y6) := kc hb (by first | assumption | go_cell)
  have at0 : w1.cell? ⟨w.heap.size + 1 + 1, 0, none⟩ = some (.int .i64 n0) := kc hb (by first | assumption | go_cell)
  have at1 : w1.cell? ⟨w.heap.size + 1 + 1, 1, none⟩ = some (.int .i64 n1) := kc hb (by first | assumption | go_cell)
  have HB1 := hid (bl HB.out hb)
  clear hb hW HB
  clear zr0 zr1 zr2 zr3 zr4 zs0 zs1 zs2 zs3 zs4 zs5 zs6 zs7 zs8 zs9 zs10 zs11 zs12 zs13 zt0 zt1
  go_wp2_with fail
  refine (HO.out _).mono ?_
  rintro x w2 ⟨rfl, hb⟩
  have cr0 : w2.cell? ⟨w.heap.size, 0, none⟩ = some (.int .i64 x0) := kc hb (by first | assumption | go_cell)
  have cr1 : w2.cell? ⟨w.heap.size, 1, none⟩ = some (.int .i64 x1) := kc hb (by first | assumption | go_cell)
  have cr2 : w2.cell? ⟨w.heap.size, 2, none⟩ = some (.int .i64 x2) := kc hb (by first | assumption | go_cell)
  have cr3 : w2.cell? ⟨w.heap.size, 3, none⟩ = some (.int .i64 x3) := kc hb (by first | assumption | go_cell)
  have cr4 : w2.cell? ⟨w.heap.size, 4, none⟩ = some (.int .i64 x4) := kc hb (by first | assumption | go_cell)
  have cs0 : w2.cell? ⟨w.heap.size + 1, 0, none⟩ = some (.int .i64 qp) := kc hb (by first | assumption | go_cell)
  have cs1 : w2.cell? ⟨w.heap.size + 1, 1, none⟩ = some (.int .i64 th) := kc hb (by first | assumption | go_cell)
  have cs2 : w2.cell? ⟨w.heap.size + 1, 2, none⟩ = some (.int .i64 rt) := kc hb (by first | assumption | go_cell)
  have cs3 : w2.cell? ⟨w.heap.size + 1, 3, none⟩ = some (.int .i64 ld) := kc hb (by first | assumption | go_cell)
  have cs4 : w2.cell? ⟨w.heap.size + 1, 4, none⟩ = some (.int .i64 cp) := kc hb (by first | assumption | go_cell)
  have cs5 : w2.cell? ⟨w.heap.size + 1, 5, none⟩ = some (.int .i64 mo) := kc hb (by first | assumption | go_cell)
  have cs6 : w2.cell? ⟨w.heap.size + 1, 6, none⟩ = some (.int .i64 le) := kc hb (by first | assumption | go_cell)
  have cs7 : w2.cell? ⟨w.heap.size + 1, 7, none⟩ = some (.int .i64 y0) := kc hb (by first | assumption | go_cell)
  have cs8 : w2.cell? ⟨w.heap.size + 1, 8, none⟩ = some (.int .i64 y1) := kc hb (by first | assumption | go_cell)
  have cs9 : w2.cell? ⟨w.heap.size + 1, 9, none⟩ = some (.int .i64 y2) := kc hb (by first | assumption | go_cell)
  have cs10 : w2.cell? ⟨w.heap.size + 1, 10, none⟩ = some (.int .i64 y3) := kc hb (by first | assumption | go_cell)
  have cs11 : w2.cell? ⟨w.heap.size + 1, 11, none⟩ = some (.int .i64 y4) := kc hb (by first | assumption | go_cell)
  have cs12 : w2.cell? ⟨w.heap.size + 1, 12, none⟩ = some (.int .i64 y5) := kc hb (by first | assumption | go_cell)
  have cs13 : w2.cell? ⟨w.heap.size + 1, 13, none⟩ = some (.int .i64 y6) := kc hb (by first | assumption | go_cell)
  have ct0 : w2.cell? ⟨w.heap.size + 1 + 1, 0, none⟩ = some (.int .i64 n0) := kc hb (by first | assumption | go_cell)
  have ct1 : w2.cell? ⟨w.heap.size + 1 + 1, 1, none⟩ = some (.int .i64 n1) := kc hb (by first | assumption | go_cell)
  have HB2 := hid (bl HB1.out hb)
  have u2 : w.heap.size + 1 + 1 < w2.heap.size := World.block_lt_of_cell? _ _ ct0
  have u1 : w.heap.size + 1 < w2.heap.size := by omega
  have u0 : w.heap.size < w2.heap.size := by omega
  clear hb HB1
  clear ar0 ar1 ar2 ar3 ar4 as0 as1 as2 as3 as4 as5 as6 as7 as8 as9 as10 as11 as12 as13 at0 at1
  obtain ⟨hm, hc⟩ := HH.out
  have HC := hid hc
  clear HH hc HL HO
  have HB3 : Hid (Below w2.heap.size w2 (((w2.alloc (.cells #[.int .i64 qp, .int .i64 th, .int .i64 rt, .int .i64 ld, .int .i64 cp, .int .i64 mo, .int .i64 le] 27)).alloc (.cells #[.int .i64 b0, .int .i64 b1, .int .i64 b2, .int .i64 b3, .int .i64 b4, .int .i64 mo, .int .i64 le] 27)).alloc (.cells #[.int .i64 (-1), .int .i64 (-1), .int .i64 (-1), .int .i64 (-1), .int .i64 (-1)] 38))) := hid ((((Below.refl _ w2).alloc (Nat.le_refl _) _).alloc (by simp) _).alloc (by simp; omega) _)
  have Z0 : Hid (∀ k v, (#[.int .i64 qp, .int .i64 th, .int .i64 rt, .int .i64 ld, .int .i64 cp, .int .i64 mo, .int .i64 le] : Array Value)[k]? = some v → (((w2.alloc (.cells #[.int .i64 qp, .int .i64 th, .int .i64 rt, .int .i64 ld, .int .i64 cp, .int .i64 mo, .int .i64 le] 27)).alloc (.cells #[.int .i64 b0, .int .i64 b1, .int .i64 b2, .int .i64 b3, .int .i64 b4, .int .i64 mo, .int .i64 le] 27)).alloc (.cells #[.int .i64 (-1), .int .i64 (-1), .int .i64 (-1), .int .i64 (-1), .int .i64 (-1)] 38)).cell? ⟨w2.heap.size, k, none⟩ = some v) := hid fun k v hk => three0 _ _ _ _ _ _ _ hk
  have Z1 : Hid (∀ k v, (#[.int .i64 b0, .int .i64 b1, .int .i64 b2, .int .i64 b3, .int .i64 b4, .int .i64 mo, .int .i64 le] : Array Value)[k]? = some v → (((w2.alloc (.cells #[.int .i64 qp, .int .i64 th, .int .i64 rt, .int .i64 ld, .int .i64 cp, .int .i64 mo, .int .i64 le] 27)).alloc (.cells #[.int .i64 b0, .int .i64 b1, .int .i64 b2, .int .i64 b3, .int .i64 b4, .int .i64 mo, .int .i64 le] 27)).alloc (.cells #[.int .i64 (-1), .int .i64 (-1), .int .i64 (-1), .int .i64 (-1), .int .i64 (-1)] 38)).cell? ⟨w2.heap.size + 1, k, none⟩ = some v) := hid fun k v hk => three1 _ _ _ _ _ _ _ hk
  have Z2 : Hid (∀ k v, (#[.int .i64 (-1), .int .i64 (-1), .int .i64 (-1), .int .i64 (-1), .int .i64 (-1)] : Array Value)[k]? = some v → (((w2.alloc (.cells #[.int .i64 qp, .int .i64 th, .int .i64 rt, .int .i64 ld, .int .i64 cp, .int .i64 mo, .int .i64 le] 27)).alloc (.cells #[.int .i64 b0, .int .i64 b1, .int .i64 b2, .int .i64 b3, .int .i64 b4, .int .i64 mo, .int .i64 le] 27)).alloc (.cells #[.int .i64 (-1), .int .i64 (-1), .int .i64 (-1), .int .i64 (-1), .int .i64 (-1)] 38)).cell? ⟨w2.heap.size + 1 + 1, k, none⟩ = some v) := hid fun k v hk => three2 _ _ _ _ _ _ _ hk
  obtain ⟨WZ, hWZ⟩ : ∃ WZ, ((w2.alloc (.cells #[.int .i64 qp, .int .i64 th, .int .i64 rt, .int .i64 ld, .int .i64 cp, .int .i64 mo, .int .i64 le] 27)).alloc (.cells #[.int .i64 b0, .int .i64 b1, .int .i64 b2, .int .i64 b3, .int .i64 b4, .int .i64 mo, .int .i64 le] 27)).alloc (.cells #[.int .i64 (-1), .int .i64 (-1), .int .i64 (-1), .int .i64 (-1), .int .i64 (-1)] 38) = WZ := ⟨_, rfl⟩
  rw [hWZ] at HB3 Z0 Z1 Z2
  have dr0 : WZ.cell? ⟨w.heap.size, 0, none⟩ = some (.int .i64 x0) := kc HB3.out cr0
  have dr1 : WZ.cell? ⟨w.heap.size, 1, none⟩ = some (.int .i64 x1) := kc HB3.out cr1
  have dr2 : WZ.cell? ⟨w.heap.size, 2, none⟩ = some (.int .i64 x2) := kc HB3.out cr2
  have dr3 : WZ.cell? ⟨w.heap.size, 3, none⟩ = some (.int .i64 x3) := kc HB3.out cr3
  have dr4 : WZ.cell? ⟨w.heap.size, 4, none⟩ = some (.int .i64 x4) := kc HB3.out cr4
  have dt0 : WZ.cell? ⟨w.heap.size + 1 + 1, 0, none⟩ = some (.int .i64 n0) := kc HB3.out ct0
  have dq0 : WZ.cell? ⟨w2.heap.size, 0, none⟩ = some (.int .i64 qp) := Z0.out 0 _ rfl
  have dq1 : WZ.cell? ⟨w2.heap.size, 1, none⟩ = some (.int .i64 th) := Z0.out 1 _ rfl
  have dq2 : WZ.cell? ⟨w2.heap.size, 2, none⟩ = some (.int .i64 rt) := Z0.out 2 _ rfl
  have dq3 : WZ.cell? ⟨w2.heap.size, 3, none⟩ = some (.int .i64 ld) := Z0.out 3 _ rfl
  have dq4 : WZ.cell? ⟨w2.heap.size, 4, none⟩ = some (.int .i64 cp) := Z0.out 4 _ rfl
  have dq5 : WZ.cell? ⟨w2.heap.size, 5, none⟩ = some (.int .i64 mo) := Z0.out 5 _ rfl
  have dq6 : WZ.cell? ⟨w2.heap.size, 6, none⟩ = some (.int .i64 le) := Z0.out 6 _ rfl
  have dv0 : WZ.cell? ⟨w2.heap.size + 1, 0, none⟩ = some (.int .i64 b0) := Z1.out 0 _ rfl
  have dv1 : WZ.cell? ⟨w2.heap.size + 1, 1, none⟩ = some (.int .i64 b1) := Z1.out 1 _ rfl
  have dv2 : WZ.cell? ⟨w2.heap.size + 1, 2, none⟩ = some (.int .i64 b2) := Z1.out 2 _ rfl
  have dv3 : WZ.cell? ⟨w2.heap.size + 1, 3, none⟩ = some (.int .i64 b3) := Z1.out 3 _ rfl
  have dv4 : WZ.cell? ⟨w2.heap.size + 1, 4, none⟩ = some (.int .i64 b4) := Z1.out 4 _ rfl
  have dv5 : WZ.cell? ⟨w2.heap.size + 1, 5, none⟩ = some (.int .i64 mo) := Z1.out 5 _ rfl
  have dv6 : WZ.cell? ⟨w2.heap.size + 1, 6, none⟩ = some (.int .i64 le) := Z1.out 6 _ rfl
  have do0 : WZ.cell? ⟨w2.heap.size + 1 + 1, 0, none⟩ = some (.int .i64 (-1)) := Z2.out 0 _ rfl
  have do1 : WZ.cell? ⟨w2.heap.size + 1 + 1, 1, none⟩ = some (.int .i64 (-1)) := Z2.out 1 _ rfl
  have do2 : WZ.cell? ⟨w2.heap.size + 1 + 1, 2, none⟩ = some (.int .i64 (-1)) := Z2.out 2 _ rfl
  have do3 : WZ.cell? ⟨w2.heap.size + 1 + 1, 3, none⟩ = some (.int .i64 (-1)) := Z2.out 3 _ rfl
  have do4 : WZ.cell? ⟨w2.heap.size + 1 + 1, 4, none⟩ = some (.int .i64 (-1)) := Z2.out 4 _ rfl
  have HB4 := hid (bl HB2.out HB3.out)
  rcases hm with ⟨hm, rfl⟩ | ⟨hm, rfl⟩
  · go_upto_region 14 with (go_at_call 28; first
      | ((with_reducible refine (K0.out _).mono ?_); rintro x wx ⟨rfl, rfl⟩)
      | ((with_reducible refine (K1.out _).mono ?_); rintro x wx ⟨rfl, rfl⟩)
      | ((with_reducible refine (K2.out _).mono ?_); rintro x wx ⟨rfl, rfl⟩)
      | ((with_reducible refine (K3.out _).mono ?_); rintro x wx ⟨rfl, rfl⟩)
      | ((with_reducible refine (K4.out _).mono ?_); rintro x wx ⟨rfl, rfl⟩)
      | ((with_reducible refine (K.out _).mono ?_); rintro x wx ⟨rfl, rfl⟩))
    try rw [hWZ]
    clear hWZ
    clear cr0 cr1 cr2 cr3 cr4 cs0 cs1 cs2 cs3 cs4 cs5 cs6 cs7 cs8 cs9 cs10 cs11 cs12 cs13 ct0 ct1
    go_wp2_with fail
    refine (H1.out _).mono ?_
    rintro x w3 ⟨rfl, hb⟩
    have er0 : w3.cell? ⟨w.heap.size, 0, none⟩ = some (.int .i64 x0) := kc hb (by assumption)
    have er1 : w3.cell? ⟨w.heap.size, 1, none⟩ = some (.int .i64 x1) := kc hb (by assumption)
    have er2 : w3.cell? ⟨w.heap.size, 2, none⟩ = some (.int .i64 x2) := kc hb (by assumption)
    have er3 : w3.cell? ⟨w.heap.size, 3, none⟩ = some (.int .i64 x3) := kc hb (by assumption)
    have er4 : w3.cell? ⟨w.heap.size, 4, none⟩ = some (.int .i64 x4) := kc hb (by assumption)
    have et0 : w3.cell? ⟨w.heap.size + 1 + 1, 0, none⟩ = some (.int .i64 n0) := kc hb (by assumption)
    have eq0 : w3.cell? ⟨w2.heap.size, 0, none⟩ = some (.int .i64 qp) := kc hb (by assumption)
    have eq1 : w3.cell? ⟨w2.heap.size, 1, none⟩ = some (.int .i64 th) := kc hb (by assumption)
    have eq2 : w3.cell? ⟨w2.heap.size, 2, none⟩ = some (.int .i64 rt) := kc hb (by assumption)
    have eq3 : w3.cell? ⟨w2.heap.size, 3, none⟩ = some (.int .i64 ld) := kc hb (by assumption)
    have eq4 : w3.cell? ⟨w2.heap.size, 4, none⟩ = some (.int .i64 cp) := kc hb (by assumption)
    have eq5 : w3.cell? ⟨w2.heap.size, 5, none⟩ = some (.int .i64 mo) := kc hb (by assumption)
    have eq6 : w3.cell? ⟨w2.heap.size, 6, none⟩ = some (.int .i64 le) := kc hb (by assumption)
    have ev0 : w3.cell? ⟨w2.heap.size + 1, 0, none⟩ = some (.int .i64 b0) := kc hb (by assumption)
    have ev1 : w3.cell? ⟨w2.heap.size + 1, 1, none⟩ = some (.int .i64 b1) := kc hb (by assumption)
    have ev2 : w3.cell? ⟨w2.heap.size + 1, 2, none⟩ = some (.int .i64 b2) := kc hb (by assumption)
    have ev3 : w3.cell? ⟨w2.heap.size + 1, 3, none⟩ = some (.int .i64 b3) := kc hb (by assumption)
    have ev4 : w3.cell? ⟨w2.heap.size + 1, 4, none⟩ = some (.int .i64 b4) := kc hb (by assumption)
    have ev5 : w3.cell? ⟨w2.heap.size + 1, 5, none⟩ = some (.int .i64 mo) := kc hb (by assumption)
    have ev6 : w3.cell? ⟨w2.heap.size + 1, 6, none⟩ = some (.int .i64 le) := kc hb (by assumption)
    have eo0 : w3.cell? ⟨w2.heap.size + 1 + 1, 0, none⟩ = some (.int .i64 (-1)) := kc hb (by assumption)
    have eo1 : w3.cell? ⟨w2.heap.size + 1 + 1, 1, none⟩ = some (.int .i64 (-1)) := kc hb (by assumption)
    have eo2 : w3.cell? ⟨w2.heap.size + 1 + 1, 2, none⟩ = some (.int .i64 (-1)) := kc hb (by assumption)
    have eo3 : w3.cell? ⟨w2.heap.size + 1 + 1, 3, none⟩ = some (.int .i64 (-1)) := kc hb (by assumption)
    have eo4 : w3.cell? ⟨w2.heap.size + 1 + 1, 4, none⟩ = some (.int .i64 (-1)) := kc hb (by assumption)
    have HB5 := hid (bl HB4.out hb)
    clear hb dr0 dr1 dr2 dr3 dr4 dt0 dq0 dq1 dq2 dq3 dq4 dq5 dq6 dv0 dv1 dv2 dv3 dv4 dv5 dv6 do0 do1 do2 do3 do4
    have HF := hid (rfl : f1 = f1)
    cases f1 with
    | true =>
      go_wp2_with fail
      refine (H3.out _).mono ?_
      rintro x w4 ⟨rfl, hb⟩
      have fr0 : w4.cell? ⟨w.heap.size, 0, none⟩ = some (.int .i64 x0) := kc hb (by assumption)
      have fr1 : w4.cell? ⟨w.heap.size, 1, none⟩ = some (.int .i64 x1) := kc hb (by assumption)
      have fr2 : w4.cell? ⟨w.heap.size, 2, none⟩ = some (.int .i64 x2) := kc hb (by assumption)
      have fr3 : w4.cell? ⟨w.heap.size, 3, none⟩ = some (.int .i64 x3) := kc hb (by assumption)
      have fr4 : w4.cell? ⟨w.heap.size, 4, none⟩ = some (.int .i64 x4) := kc hb (by assumption)
      have ft0 : w4.cell? ⟨w.heap.size + 1 + 1, 0, none⟩ = some (.int .i64 n0) := kc hb (by assumption)
      have fq0 : w4.cell? ⟨w2.heap.size, 0, none⟩ = some (.int .i64 qp) := kc hb (by assumption)
      have fq1 : w4.cell? ⟨w2.heap.size, 1, none⟩ = some (.int .i64 th) := kc hb (by assumption)
      have fq2 : w4.cell? ⟨w2.heap.size, 2, none⟩ = some (.int .i64 rt) := kc hb (by assumption)
      have fq3 : w4.cell? ⟨w2.heap.size, 3, none⟩ = some (.int .i64 ld) := kc hb (by assumption)
      have fq4 : w4.cell? ⟨w2.heap.size, 4, none⟩ = some (.int .i64 cp) := kc hb (by assumption)
      have fq5 : w4.cell? ⟨w2.heap.size, 5, none⟩ = some (.int .i64 mo) := kc hb (by assumption)
      have fq6 : w4.cell? ⟨w2.heap.size, 6, none⟩ = some (.int .i64 le) := kc hb (by assumption)
      have fv0 : w4.cell? ⟨w2.heap.size + 1, 0, none⟩ = some (.int .i64 b0) := kc hb (by assumption)
      have fv1 : w4.cell? ⟨w2.heap.size + 1, 1, none⟩ = some (.int .i64 b1) := kc hb (by assumption)
      have fv2 : w4.cell? ⟨w2.heap.size + 1, 2, none⟩ = some (.int .i64 b2) := kc hb (by assumption)
      have fv3 : w4.cell? ⟨w2.heap.size + 1, 3, none⟩ = some (.int .i64 b3) := kc hb (by assumption)
      have fv4 : w4.cell? ⟨w2.heap.size + 1, 4, none⟩ = some (.int .i64 b4) := kc hb (by assumption)
      have fv5 : w4.cell? ⟨w2.heap.size + 1, 5, none⟩ = some (.int .i64 mo) := kc hb (by assumption)
      have fv6 : w4.cell? ⟨w2.heap.size + 1, 6, none⟩ = some (.int .i64 le) := kc hb (by assumption)
      have fo0 : w4.cell? ⟨w2.heap.size + 1 + 1, 0, none⟩ = some (.int .i64 (-1)) := kc hb (by assumption)
      have fo1 : w4.cell? ⟨w2.heap.size + 1 + 1, 1, none⟩ = some (.int .i64 (-1)) := kc hb (by assumption)
      have fo2 : w4.cell? ⟨w2.heap.size + 1 + 1, 2, none⟩ = some (.int .i64 (-1)) := kc hb (by assumption)
      have fo3 : w4.cell? ⟨w2.heap.size + 1 + 1, 3, none⟩ = some (.int .i64 (-1)) := kc hb (by assumption)
      have fo4 : w4.cell? ⟨w2.heap.size + 1 + 1, 4, none⟩ = some (.int .i64 (-1)) := kc hb (by assumption)
      have HB6 := hid (bl HB5.out hb)
      clear hb
      cases c2 with
      | false =>
        go_wp2_with fail
        go_ret
        exact ⟨rfl, HB6.out⟩
      | true =>
        have e3 := HC.out.2 (by rfl)
        subst e3
        go_wp2_with fail
        refine (H4.out _).mono ?_
        rintro x w5 ⟨rfl, hb⟩
        have HB7 := hid (bl HB6.out hb)
        clear hb
        go_wp2_with fail
        go_ret
        exact ⟨rfl, HB7.out⟩
    | false =>
      have e1 := HC.out.1 (by rfl)
      subst e1
      go_wp2_with fail
      refine (H2.out _).mono ?_
      rintro x w4 ⟨rfl, hb⟩
      have fr0 : w4.cell? ⟨w.heap.size, 0, none⟩ = some (.int .i64 x0) := kc hb (by assumption)
      have fr1 : w4.cell? ⟨w.heap.size, 1, none⟩ = some (.int .i64 x1) := kc hb (by assumption)
      have fr2 : w4.cell? ⟨w.heap.size, 2, none⟩ = some (.int .i64 x2) := kc hb (by assumption)
      have fr3 : w4.cell? ⟨w.heap.size, 3, none⟩ = some (.int .i64 x3) := kc hb (by assumption)
      have fr4 : w4.cell? ⟨w.heap.size, 4, none⟩ = some (.int .i64 x4) := kc hb (by assumption)
      have ft0 : w4.cell? ⟨w.heap.size + 1 + 1, 0, none⟩ = some (.int .i64 n0) := kc hb (by assumption)
      have fq0 : w4.cell? ⟨w2.heap.size, 0, none⟩ = some (.int .i64 qp) := kc hb (by assumption)
      have fq1 : w4.cell? ⟨w2.heap.size, 1, none⟩ = some (.int .i64 th) := kc hb (by assumption)
      have fq2 : w4.cell? ⟨w2.heap.size, 2, none⟩ = some (.int .i64 rt) := kc hb (by assumption)
      have fq3 : w4.cell? ⟨w2.heap.size, 3, none⟩ = some (.int .i64 ld) := kc hb (by assumption)
      have fq4 : w4.cell? ⟨w2.heap.size, 4, none⟩ = some (.int .i64 cp) := kc hb (by assumption)
      have fq5 : w4.cell? ⟨w2.heap.size, 5, none⟩ = some (.int .i64 mo) := kc hb (by assumption)
      have fq6 : w4.cell? ⟨w2.heap.size, 6, none⟩ = some (.int .i64 le) := kc hb (by assumption)
      have fv0 : w4.cell? ⟨w2.heap.size + 1, 0, none⟩ = some (.int .i64 b0) := kc hb (by assumption)
      have fv1 : w4.cell? ⟨w2.heap.size + 1, 1, none⟩ = some (.int .i64 b1) := kc hb (by assumption)
      have fv2 : w4.cell? ⟨w2.heap.size + 1, 2, none⟩ = some (.int .i64 b2) := kc hb (by assumption)
      have fv3 : w4.cell? ⟨w2.heap.size + 1, 3, none⟩ = some (.int .i64 b3) := kc hb (by assumption)
      have fv4 : w4.cell? ⟨w2.heap.size + 1, 4, none⟩ = some (.int .i64 b4) := kc hb (by assumption)
      have fv5 : w4.cell? ⟨w2.heap.size + 1, 5, none⟩ = some (.int .i64 mo) := kc hb (by assumption)
      have fv6 : w4.cell? ⟨w2.heap.size + 1, 6, none⟩ = some (.int .i64 le) := kc hb (by assumption)
      have fo0 : w4.cell? ⟨w2.heap.size + 1 + 1, 0, none⟩ = some (.int .i64 (-1)) := kc hb (by assumption)
      have fo1 : w4.cell? ⟨w2.heap.size + 1 + 1, 1, none⟩ = some (.int .i64 (-1)) := kc hb (by assumption)
      have fo2 : w4.cell? ⟨w2.heap.size + 1 + 1, 2, none⟩ = some (.int .i64 (-1)) := kc hb (by assumption)
      have fo3 : w4.cell? ⟨w2.heap.size + 1 + 1, 3, none⟩ = some (.int .i64 (-1)) := kc hb (by assumption)
      have fo4 : w4.cell? ⟨w2.heap.size + 1 + 1, 4, none⟩ = some (.int .i64 (-1)) := kc hb (by assumption)
      have HB6 := hid (bl HB5.out hb)
      clear hb
      clear er0 er1 er2 er3 er4 et0 eq0 eq1 eq2 eq3 eq4 eq5 eq6 ev0 ev1 ev2 ev3 ev4 ev5 ev6 eo0 eo1 eo2 eo3 eo4
      go_wp2_with fail
      refine (H3.out _).mono ?_
      rintro x w5 ⟨rfl, hb⟩
      have gr0 : w5.cell? ⟨w.heap.size, 0, none⟩ = some (.int .i64 x0) := kc hb (by assumption)
      have gr1 : w5.cell? ⟨w.heap.size, 1, none⟩ = some (.int .i64 x1) := kc hb (by assumption)
      have gr2 : w5.cell? ⟨w.heap.size, 2, none⟩ = some (.int .i64 x2) := kc hb (by assumption)
      have gr3 : w5.cell? ⟨w.heap.size, 3, none⟩ = some (.int .i64 x3) := kc hb (by assumption)
      have gr4 : w5.cell? ⟨w.heap.size, 4, none⟩ = some (.int .i64 x4) := kc hb (by assumption)
      have gt0 : w5.cell? ⟨w.heap.size + 1 + 1, 0, none⟩ = some (.int .i64 n0) := kc hb (by assumption)
      have gq0 : w5.cell? ⟨w2.heap.size, 0, none⟩ = some (.int .i64 qp) := kc hb (by assumption)
      have gq1 : w5.cell? ⟨w2.heap.size, 1, none⟩ = some (.int .i64 th) := kc hb (by assumption)
      have gq2 : w5.cell? ⟨w2.heap.size, 2, none⟩ = some (.int .i64 rt) := kc hb (by assumption)
      have gq3 : w5.cell? ⟨w2.heap.size, 3, none⟩ = some (.int .i64 ld) := kc hb (by assumption)
      have gq4 : w5.cell? ⟨w2.heap.size, 4, none⟩ = some (.int .i64 cp) := kc hb (by assumption)
      have gq5 : w5.cell? ⟨w2.heap.size, 5, none⟩ = some (.int .i64 mo) := kc hb (by assumption)
      have gq6 : w5.cell? ⟨w2.heap.size, 6, none⟩ = some (.int .i64 le) := kc hb (by assumption)
      have gv0 : w5.cell? ⟨w2.heap.size + 1, 0, none⟩ = some (.int .i64 b0) := kc hb (by assumption)
      have gv1 : w5.cell? ⟨w2.heap.size + 1, 1, none⟩ = some (.int .i64 b1) := kc hb (by assumption)
      have gv2 : w5.cell? ⟨w2.heap.size + 1, 2, none⟩ = some (.int .i64 b2) := kc hb (by assumption)
      have gv3 : w5.cell? ⟨w2.heap.size + 1, 3, none⟩ = some (.int .i64 b3) := kc hb (by assumption)
      have gv4 : w5.cell? ⟨w2.heap.size + 1, 4, none⟩ = some (.int .i64 b4) := kc hb (by assumption)
      have gv5 : w5.cell? ⟨w2.heap.size + 1, 5, none⟩ = some (.int .i64 mo) := kc hb (by assumption)
      have gv6 : w5.cell? ⟨w2.heap.size + 1, 6, none⟩ = some (.int .i64 le) := kc hb (by assumption)
      have go0 : w5.cell? ⟨w2.heap.size + 1 + 1, 0, none⟩ = some (.int .i64 (-1)) := kc hb (by assumption)
      have go1 : w5.cell? ⟨w2.heap.size + 1 + 1, 1, none⟩ = some (.int .i64 (-1)) := kc hb (by assumption)
      have go2 : w5.cell? ⟨w2.heap.size + 1 + 1, 2, none⟩ = some (.int .i64 (-1)) := kc hb (by assumption)
      have go3 : w5.cell? ⟨w2.heap.size + 1 + 1, 3, none⟩ = some (.int .i64 (-1)) := kc hb (by assumption)
      have go4 : w5.cell? ⟨w2.heap.size + 1 + 1, 4, none⟩ = some (.int .i64 (-1)) := kc hb (by assumption)
      have HB7 := hid (bl HB6.out hb)
      clear hb
      cases c2 with
      | false =>
        go_wp2_with fail
        go_ret
        exact ⟨rfl, HB7.out⟩
      | true =>
        have e3 := HC.out.2 (by rfl)
        subst e3
        go_wp2_with fail
        refine (H4.out _).mono ?_
        rintro x w6 ⟨rfl, hb⟩
        have HB8 := hid (bl HB7.out hb)
        clear hb
        go_wp2_with fail
        go_ret
        exact ⟨rfl, HB8.out⟩
  · go_upto_region 14 with (go_at_call 28; first
      | ((with_reducible refine (K0.out _).mono ?_); rintro x wx ⟨rfl, rfl⟩)
      | ((with_reducible refine (K1.out _).mono ?_); rintro x wx ⟨rfl, rfl⟩)
      | ((with_reducible refine (K2.out _).mono ?_); rintro x wx ⟨rfl, rfl⟩)
      | ((with_reducible refine (K3.out _).mono ?_); rintro x wx ⟨rfl, rfl⟩)
      | ((with_reducible refine (K4.out _).mono ?_); rintro x wx ⟨rfl, rfl⟩)
      | ((with_reducible refine (K.out _).mono ?_); rintro x wx ⟨rfl, rfl⟩))
    try rw [hWZ]
    clear hWZ
    clear cr0 cr1 cr2 cr3 cr4 cs0 cs1 cs2 cs3 cs4 cs5 cs6 cs7 cs8 cs9 cs10 cs11 cs12 cs13 ct0 ct1
    go_wp2_with fail
    refine (H1.out _).mono ?_
    rintro x w3 ⟨rfl, hb⟩
    have er0 : w3.cell? ⟨w.heap.size, 0, none⟩ = some (.int .i64 x0) := kc hb (by assumption)
    have er1 : w3.cell? ⟨w.heap.size, 1, none⟩ = some (.int .i64 x1) := kc hb (by assumption)
    have er2 : w3.cell? ⟨w.heap.size, 2, none⟩ = some (.int .i64 x2) := kc hb (by assumption)
    have er3 : w3.cell? ⟨w.heap.size, 3, none⟩ = some (.int .i64 x3) := kc hb (by assumption)
    have er4 : w3.cell? ⟨w.heap.size, 4, none⟩ = some (.int .i64 x4) := kc hb (by assumption)
    have et0 : w3.cell? ⟨w.heap.size + 1 + 1, 0, none⟩ = some (.int .i64 n0) := kc hb (by assumption)
    have eq0 : w3.cell? ⟨w2.heap.size, 0, none⟩ = some (.int .i64 qp) := kc hb (by assumption)
    have eq1 : w3.cell? ⟨w2.heap.size, 1, none⟩ = some (.int .i64 th) := kc hb (by assumption)
    have eq2 : w3.cell? ⟨w2.heap.size, 2, none⟩ = some (.int .i64 rt) := kc hb (by assumption)
    have eq3 : w3.cell? ⟨w2.heap.size, 3, none⟩ = some (.int .i64 ld) := kc hb (by assumption)
    have eq4 : w3.cell? ⟨w2.heap.size, 4, none⟩ = some (.int .i64 cp) := kc hb (by assumption)
    have eq5 : w3.cell? ⟨w2.heap.size, 5, none⟩ = some (.int .i64 mo) := kc hb (by assumption)
    have eq6 : w3.cell? ⟨w2.heap.size, 6, none⟩ = some (.int .i64 le) := kc hb (by assumption)
    have ev0 : w3.cell? ⟨w2.heap.size + 1, 0, none⟩ = some (.int .i64 b0) := kc hb (by assumption)
    have ev1 : w3.cell? ⟨w2.heap.size + 1, 1, none⟩ = some (.int .i64 b1) := kc hb (by assumption)
    have ev2 : w3.cell? ⟨w2.heap.size + 1, 2, none⟩ = some (.int .i64 b2) := kc hb (by assumption)
    have ev3 : w3.cell? ⟨w2.heap.size + 1, 3, none⟩ = some (.int .i64 b3) := kc hb (by assumption)
    have ev4 : w3.cell? ⟨w2.heap.size + 1, 4, none⟩ = some (.int .i64 b4) := kc hb (by assumption)
    have ev5 : w3.cell? ⟨w2.heap.size + 1, 5, none⟩ = some (.int .i64 mo) := kc hb (by assumption)
    have ev6 : w3.cell? ⟨w2.heap.size + 1, 6, none⟩ = some (.int .i64 le) := kc hb (by assumption)
    have eo0 : w3.cell? ⟨w2.heap.size + 1 + 1, 0, none⟩ = some (.int .i64 (-1)) := kc hb (by assumption)
    have eo1 : w3.cell? ⟨w2.heap.size + 1 + 1, 1, none⟩ = some (.int .i64 (-1)) := kc hb (by assumption)
    have eo2 : w3.cell? ⟨w2.heap.size + 1 + 1, 2, none⟩ = some (.int .i64 (-1)) := kc hb (by assumption)
    have eo3 : w3.cell? ⟨w2.heap.size + 1 + 1, 3, none⟩ = some (.int .i64 (-1)) := kc hb (by assumption)
    have eo4 : w3.cell? ⟨w2.heap.size + 1 + 1, 4, none⟩ = some (.int .i64 (-1)) := kc hb (by assumption)
    have HB5 := hid (bl HB4.out hb)
    clear hb dr0 dr1 dr2 dr3 dr4 dt0 dq0 dq1 dq2 dq3 dq4 dq5 dq6 dv0 dv1 dv2 dv3 dv4 dv5 dv6 do0 do1 do2 do3 do4
    have HF := hid (rfl : f1 = f1)
    cases f1 with
    | true =>
      go_wp2_with fail
      refine (H3.out _).mono ?_
      rintro x w4 ⟨rfl, hb⟩
      have fr0 : w4.cell? ⟨w.heap.size, 0, none⟩ = some (.int .i64 x0) := kc hb (by assumption)
      have fr1 : w4.cell? ⟨w.heap.size, 1, none⟩ = some (.int .i64 x1) := kc hb (by assumption)
      have fr2 : w4.cell? ⟨w.heap.size, 2, none⟩ = some (.int .i64 x2) := kc hb (by assumption)
      have fr3 : w4.cell? ⟨w.heap.size, 3, none⟩ = some (.int .i64 x3) := kc hb (by assumption)
      have fr4 : w4.cell? ⟨w.heap.size, 4, none⟩ = some (.int .i64 x4) := kc hb (by assumption)
      have ft0 : w4.cell? ⟨w.heap.size + 1 + 1, 0, none⟩ = some (.int .i64 n0) := kc hb (by assumption)
      have fq0 : w4.cell? ⟨w2.heap.size, 0, none⟩ = some (.int .i64 qp) := kc hb (by assumption)
      have fq1 : w4.cell? ⟨w2.heap.size, 1, none⟩ = some (.int .i64 th) := kc hb (by assumption)
      have fq2 : w4.cell? ⟨w2.heap.size, 2, none⟩ = some (.int .i64 rt) := kc hb (by assumption)
      have fq3 : w4.cell? ⟨w2.heap.size, 3, none⟩ = some (.int .i64 ld) := kc hb (by assumption)
      have fq4 : w4.cell? ⟨w2.heap.size, 4, none⟩ = some (.int .i64 cp) := kc hb (by assumption)
      have fq5 : w4.cell? ⟨w2.heap.size, 5, none⟩ = some (.int .i64 mo) := kc hb (by assumption)
      have fq6 : w4.cell? ⟨w2.heap.size, 6, none⟩ = some (.int .i64 le) := kc hb (by assumption)
      have fv0 : w4.cell? ⟨w2.heap.size + 1, 0, none⟩ = some (.int .i64 b0) := kc hb (by assumption)
      have fv1 : w4.cell? ⟨w2.heap.size + 1, 1, none⟩ = some (.int .i64 b1) := kc hb (by assumption)
      have fv2 : w4.cell? ⟨w2.heap.size + 1, 2, none⟩ = some (.int .i64 b2) := kc hb (by assumption)
      have fv3 : w4.cell? ⟨w2.heap.size + 1, 3, none⟩ = some (.int .i64 b3) := kc hb (by assumption)
      have fv4 : w4.cell? ⟨w2.heap.size + 1, 4, none⟩ = some (.int .i64 b4) := kc hb (by assumption)
      have fv5 : w4.cell? ⟨w2.heap.size + 1, 5, none⟩ = some (.int .i64 mo) := kc hb (by assumption)
      have fv6 : w4.cell? ⟨w2.heap.size + 1, 6, none⟩ = some (.int .i64 le) := kc hb (by assumption)
      have fo0 : w4.cell? ⟨w2.heap.size + 1 + 1, 0, none⟩ = some (.int .i64 (-1)) := kc hb (by assumption)
      have fo1 : w4.cell? ⟨w2.heap.size + 1 + 1, 1, none⟩ = some (.int .i64 (-1)) := kc hb (by assumption)
      have fo2 : w4.cell? ⟨w2.heap.size + 1 + 1, 2, none⟩ = some (.int .i64 (-1)) := kc hb (by assumption)
      have fo3 : w4.cell? ⟨w2.heap.size + 1 + 1, 3, none⟩ = some (.int .i64 (-1)) := kc hb (by assumption)
      have fo4 : w4.cell? ⟨w2.heap.size + 1 + 1, 4, none⟩ = some (.int .i64 (-1)) := kc hb (by assumption)
      have HB6 := hid (bl HB5.out hb)
      clear hb
      cases c2 with
      | false =>
        go_wp2_with fail
        go_ret
        exact ⟨rfl, HB6.out⟩
      | true =>
        have e3 := HC.out.2 (by rfl)
        subst e3
        go_wp2_with fail
        refine (H4.out _).mono ?_
        rintro x w5 ⟨rfl, hb⟩
        have HB7 := hid (bl HB6.out hb)
        clear hb
        go_wp2_with fail
        go_ret
        exact ⟨rfl, HB7.out⟩
    | false =>
      have e1 := HC.out.1 (by rfl)
      subst e1
      go_wp2_with fail
      refine (H2.out _).mono ?_
      rintro x w4 ⟨rfl, hb⟩
      have fr0 : w4.cell? ⟨w.heap.size, 0, none⟩ = some (.int .i64 x0) := kc hb (by assumption)
      have fr1 : w4.cell? ⟨w.heap.size, 1, none⟩ = some (.int .i64 x1) := kc hb (by assumption)
      have fr2 : w4.cell? ⟨w.heap.size, 2, none⟩ = some (.int .i64 x2) := kc hb (by assumption)
      have fr3 : w4.cell? ⟨w.heap.size, 3, none⟩ = some (.int .i64 x3) := kc hb (by assumption)
      have fr4 : w4.cell? ⟨w.heap.size, 4, none⟩ = some (.int .i64 x4) := kc hb (by assumption)
      have ft0 : w4.cell? ⟨w.heap.size + 1 + 1, 0, none⟩ = some (.int .i64 n0) := kc hb (by assumption)
      have fq0 : w4.cell? ⟨w2.heap.size, 0, none⟩ = some (.int .i64 qp) := kc hb (by assumption)
      have fq1 : w4.cell? ⟨w2.heap.size, 1, none⟩ = some (.int .i64 th) := kc hb (by assumption)
      have fq2 : w4.cell? ⟨w2.heap.size, 2, none⟩ = some (.int .i64 rt) := kc hb (by assumption)
      have fq3 : w4.cell? ⟨w2.heap.size, 3, none⟩ = some (.int .i64 ld) := kc hb (by assumption)
      have fq4 : w4.cell? ⟨w2.heap.size, 4, none⟩ = some (.int .i64 cp) := kc hb (by assumption)
      have fq5 : w4.cell? ⟨w2.heap.size, 5, none⟩ = some (.int .i64 mo) := kc hb (by assumption)
      have fq6 : w4.cell? ⟨w2.heap.size, 6, none⟩ = some (.int .i64 le) := kc hb (by assumption)
      have fv0 : w4.cell? ⟨w2.heap.size + 1, 0, none⟩ = some (.int .i64 b0) := kc hb (by assumption)
      have fv1 : w4.cell? ⟨w2.heap.size + 1, 1, none⟩ = some (.int .i64 b1) := kc hb (by assumption)
      have fv2 : w4.cell? ⟨w2.heap.size + 1, 2, none⟩ = some (.int .i64 b2) := kc hb (by assumption)
      have fv3 : w4.cell? ⟨w2.heap.size + 1, 3, none⟩ = some (.int .i64 b3) := kc hb (by assumption)
      have fv4 : w4.cell? ⟨w2.heap.size + 1, 4, none⟩ = some (.int .i64 b4) := kc hb (by assumption)
      have fv5 : w4.cell? ⟨w2.heap.size + 1, 5, none⟩ = some (.int .i64 mo) := kc hb (by assumption)
      have fv6 : w4.cell? ⟨w2.heap.size + 1, 6, none⟩ = some (.int .i64 le) := kc hb (by assumption)
      have fo0 : w4.cell? ⟨w2.heap.size + 1 + 1, 0, none⟩ = some (.int .i64 (-1)) := kc hb (by assumption)
      have fo1 : w4.cell? ⟨w2.heap.size + 1 + 1, 1, none⟩ = some (.int .i64 (-1)) := kc hb (by assumption)
      have fo2 : w4.cell? ⟨w2.heap.size + 1 + 1, 2, none⟩ = some (.int .i64 (-1)) := kc hb (by assumption)
      have fo3 : w4.cell? ⟨w2.heap.size + 1 + 1, 3, none⟩ = some (.int .i64 (-1)) := kc hb (by assumption)
      have fo4 : w4.cell? ⟨w2.heap.size + 1 + 1, 4, none⟩ = some (.int .i64 (-1)) := kc hb (by assumption)
      have HB6 := hid (bl HB5.out hb)
      clear hb
      clear er0 er1 er2 er3 er4 et0 eq0 eq1 eq2 eq3 eq4 eq5 eq6 ev0 ev1 ev2 ev3 ev4 ev5 ev6 eo0 eo1 eo2 eo3 eo4
      go_wp2_with fail
      refine (H3.out _).mono ?_
      rintro x w5 ⟨rfl, hb⟩
      have gr0 : w5.cell? ⟨w.heap.size, 0, none⟩ = some (.int .i64 x0) := kc hb (by assumption)
      have gr1 : w5.cell? ⟨w.heap.size, 1, none⟩ = some (.int .i64 x1) := kc hb (by assumption)
      have gr2 : w5.cell? ⟨w.heap.size, 2, none⟩ = some (.int .i64 x2) := kc hb (by assumption)
      have gr3 : w5.cell? ⟨w.heap.size, 3, none⟩ = some (.int .i64 x3) := kc hb (by assumption)
      have gr4 : w5.cell? ⟨w.heap.size, 4, none⟩ = some (.int .i64 x4) := kc hb (by assumption)
      have gt0 : w5.cell? ⟨w.heap.size + 1 + 1, 0, none⟩ = some (.int .i64 n0) := kc hb (by assumption)
      have gq0 : w5.cell? ⟨w2.heap.size, 0, none⟩ = some (.int .i64 qp) := kc hb (by assumption)
      have gq1 : w5.cell? ⟨w2.heap.size, 1, none⟩ = some (.int .i64 th) := kc hb (by assumption)
      have gq2 : w5.cell? ⟨w2.heap.size, 2, none⟩ = some (.int .i64 rt) := kc hb (by assumption)
      have gq3 : w5.cell? ⟨w2.heap.size, 3, none⟩ = some (.int .i64 ld) := kc hb (by assumption)
      have gq4 : w5.cell? ⟨w2.heap.size, 4, none⟩ = some (.int .i64 cp) := kc hb (by assumption)
      have gq5 : w5.cell? ⟨w2.heap.size, 5, none⟩ = some (.int .i64 mo) := kc hb (by assumption)
      have gq6 : w5.cell? ⟨w2.heap.size, 6, none⟩ = some (.int .i64 le) := kc hb (by assumption)
      have gv0 : w5.cell? ⟨w2.heap.size + 1, 0, none⟩ = some (.int .i64 b0) := kc hb (by assumption)
      have gv1 : w5.cell? ⟨w2.heap.size + 1, 1, none⟩ = some (.int .i64 b1) := kc hb (by assumption)
      have gv2 : w5.cell? ⟨w2.heap.size + 1, 2, none⟩ = some (.int .i64 b2) := kc hb (by assumption)
      have gv3 : w5.cell? ⟨w2.heap.size + 1, 3, none⟩ = some (.int .i64 b3) := kc hb (by assumption)
      have gv4 : w5.cell? ⟨w2.heap.size + 1, 4, none⟩ = some (.int .i64 b4) := kc hb (by assumption)
      have gv5 : w5.cell? ⟨w2.heap.size + 1, 5, none⟩ = some (.int .i64 mo) := kc hb (by assumption)
      have gv6 : w5.cell? ⟨w2.heap.size + 1, 6, none⟩ = some (.int .i64 le) := kc hb (by assumption)
      have go0 : w5.cell? ⟨w2.heap.size + 1 + 1, 0, none⟩ = some (.int .i64 (-1)) := kc hb (by assumption)
      have go1 : w5.cell? ⟨w2.heap.size + 1 + 1, 1, none⟩ = some (.int .i64 (-1)) := kc hb (by assumption)
      have go2 : w5.cell? ⟨w2.heap.size + 1 + 1, 2, none⟩ = some (.int .i64 (-1)) := kc hb (by assumption)
      have go3 : w5.cell? ⟨w2.heap.size + 1 + 1, 3, none⟩ = some (.int .i64 (-1)) := kc hb (by assumption)
      have go4 : w5.cell? ⟨w2.heap.size + 1 + 1, 4, none⟩ = some (.int .i64 (-1)) := kc hb (by assumption)
      have HB7 := hid (bl HB6.out hb)
      clear hb
      cases c2 with
      | false =>
        go_wp2_with fail
        go_ret
        exact ⟨rfl, HB7.out⟩
      | true =>
        have e3 := HC.out.2 (by rfl)
        subst e3
        go_wp2_with fail
        refine (H4.out _).mono ?_
        rintro x w6 ⟨rfl, hb⟩
        have HB8 := hid (bl HB7.out hb)
        clear hb
        go_wp2_with fail
        go_ret
        exact ⟨rfl, HB8.out⟩

end Go.Proofs.Ytoilakjlnflpbaa.GuaG
