/- How a pool is filled. -/
import Derived.Test.YtamofanfgdjmnaaWrmC
namespace Go.Proofs.Ytamofanfgdjmnaa.WrmD
set_option linter.unusedVariables false
open Go.ChangeShapes Go.WideShapes Go.ChangeAt Go.RowKit Base WrmP NumM NumC NumE NumA WrmA WrmB WrmC

/-- two numbers that were laid into a list -/
theorem plus_two (a b : Int) (ha : Fits a) (hb : Fits b) (w : World) (p : Nat) (c0 : w.cell? ⟨p, 0, none⟩ = some (.int .i64 a)) (c1 : w.cell? ⟨p, 1, none⟩ = some (.int .i64 b)) :
    Calls Try.prog 55 #[.slice (some ⟨p, 0, none⟩) 2 2] w fun e w' => e = .returned (.int .i64 (keep (keep a + b))) ∧ Below w.heap.size w w' := by
  have h := Plu.plus_list p 0 2 2 [a, b] w (by omega) (World.block_lt_of_cell? _ _ c0) (hid rfl) (hid ?_) (hid ?_)
  · have e : Plu.plusL [a, b] = keep (keep a + b) := by simp [Plu.plusL]
    rw [e] at h
    exact h
  · intro i hi
    match i, hi with
    | 0, _ => exact c0
    | 1, _ => exact c1
  · intro i
    match i with
    | 0 => exact ha
    | 1 => exact hb
    | _ + 2 => show Fits 0; decide

theorem coming_any (m : Wm) (h : m.Ok) (t past : Nat) (h1 : m.last ≤ t) (h2 : t ≤ 1152921504606846976) (w : World) :
    Calls Try.prog 56 #[.agg #[.int .i64 m.tok, .int .i64 m.sec, .bool m.bg], .agg #[.int .i64 m.c, .int .i64 m.s], .int .i64 (secOf t : Nat), .int .i64 past] w fun e w' => e = .returned (.int .i64 (keep (m.come t past : Nat))) ∧ Below w.heap.size w w' := by
  have hg := h.g m
  have hc2 := h.c2
  have hsd := h.secd
  have hsl := h.sec
  refine coming_core m.tok m.sec m.c m.s (wn m.G : Nat) (m.G : Nat) (m.c / 3 : Nat) (secOf t : Nat) past _ m.bg w (hid fun w => warning_any m.c m.s (by unfold Wm.G at hg; omega) w) (hid fun w => greatest_any m.c m.s (by unfold Wm.G at hg; omega) w) (hid fun w => third_any m.c (by omega) w) ?_
  unfold Wm.come
  cases hb : m.bg
  · left
    refine ⟨rfl, ?_⟩
    simp only [Bool.false_eq_true, if_false]
    unfold keep
    rw [if_pos (by unfold Fits; omega)]
  · right
    simp only [if_true]
    refine ⟨trivial, _, _, rfl, rfl, ?_⟩
    by_cases hx : m.tok < wn m.G ∨ past < m.c / 3
    · right
      rw [if_pos hx]
      refine ⟨hx.elim (fun e => .inl (by simpa using e)) (fun e => .inr (by simp only [decide_eq_true_eq]; omega)), (secOf t - m.sec : Nat), ((secOf t - m.sec) / 1000000 : Nat), ?_, by omega, rfl, Int.ofNat_tdiv _ _, by unfold secOf wrap64; omega, hid fun w => ?_⟩
      · unfold secOf wrap64; omega
      · have ht := times_any (m.c : Int) (((secOf t - m.sec) / 1000000 : Nat) : Int) (by unfold Fits; omega) (by unfold Fits secOf; omega) w
        rw [← Int.natCast_mul] at ht
        exact ht
    · left
      rw [if_neg hx]
      refine ⟨by simp; omega, by simp; omega, ?_⟩
      decide

end Go.Proofs.Ytamofanfgdjmnaa.WrmD
