/- A warm-up's rule: its rate; a pool: what comes. -/
import Derived.Test.YtamofanfgdjmnaaWrmA
import Derived.Test.YtamofanfgdjmnaaNumE
namespace Go.Proofs.Ytamofanfgdjmnaa.WrmB
set_option linter.unusedVariables false
open Go.ChangeShapes Go.WideShapes Go.ChangeAt Go.RowKit Base WrmP NumM NumC NumE NumA WrmA

/-- what a call answers, where it writes nothing old -/
abbrev Ans (f : FuncId) (args : Array Value) (v : Value) : Prop := ∀ w : World, Calls Try.prog f args w fun e w' => e = .returned v ∧ Below w.heap.size w w'

set_option maxRecDepth 20000 in
set_option maxHeartbeats 1000000 in
theorem rate_core (c s v g x r : Int) (w : World) (HW : Hid (Ans 37 #[.agg #[.int .i64 c, .int .i64 s]] (.int .i64 v)))
    (HG : Hid (Ans 38 #[.agg #[.int .i64 c, .int .i64 s]] (.int .i64 g)))
    (HR : (decide (x < v) = true ∧ r = c) ∨ (decide (x < v) = false ∧ (v == g) = true ∧ r = c) ∨ (decide (x < v) = false ∧ (v == g) = false ∧ ∃ d d4 D q, wrap64 (x - v) = d ∧ wrap64 (4 * d) = d4 ∧ wrap64 (d4 + g) = D ∧ max q 1 = r ∧
      Hid (Ans 49 #[.int .i64 g, .int .i64 c, .int .i64 D, .bool false] (.tuple #[.int .i64 q, .int .i64 0])))) :
    Calls Try.prog 41 #[.agg #[.int .i64 c, .int .i64 s], .int .i64 x] w fun e w' => e = .returned (.int .i64 r) ∧ Below w.heap.size w w' := by
  have kb : Below w.heap.size w (w.alloc (.cells #[.int .i64 c, .int .i64 s] 68)).drew := ((Below.refl w.heap.size w).alloc (Nat.le_refl _) _).drew
  have hx : decide (x < v) = true ∨ decide (x < v) = false := by cases decide (x < v) <;> simp
  have HRR := hid HR
  clear HR
  go_enter Try.func41, Try.ntmps41
  go_wp2_with fail
  go_region_held3 (fun w' => w'.cell? ⟨w.heap.size, 0, none⟩ = some (.int .i64 c) ∧ w'.cell? ⟨w.heap.size, 1, none⟩ = some (.int .i64 s)) (first | assumption | go_keep)
    (first
           | (go_at_call 38; refine (HG.out _).mono ?_; rintro e w3 ⟨rfl, hb3⟩
              have k0 : w3.cell? ⟨w.heap.size, 0, none⟩ = some (.int .i64 c) := kc hb3 (by first | assumption | go_cell)
              have k1 : w3.cell? ⟨w.heap.size, 1, none⟩ = some (.int .i64 s) := kc hb3 (by first | assumption | go_cell)
              have kb : Below w.heap.size w w3 := bl (by assumption) hb3)
           | (go_at_call 37; refine (HW.out _).mono ?_; rintro e w3 ⟨rfl, hb3⟩
              have k0 : w3.cell? ⟨w.heap.size, 0, none⟩ = some (.int .i64 c) := kc hb3 (by first | assumption | go_cell)
              have k1 : w3.cell? ⟨w.heap.size, 1, none⟩ = some (.int .i64 s) := kc hb3 (by first | assumption | go_cell)
              have kb : Below w.heap.size w w3 := bl (by assumption) hb3))
  all_goals
    have KB := hid kb
    clear kb HW HG
    rcases HRR.out with ⟨h1, rfl⟩ | ⟨h1, h2, rfl⟩ | ⟨h1, h2, d, d4, D, q, e1, e2, e3, e4, HM⟩
    · go_wp2_with fail
      go_ret
      exact ⟨rfl, KB.out⟩
    · go_wp2_with fail
      go_ret
      exact ⟨rfl, KB.out⟩
    · go_wp2_with fail
      go_at_call 49
      rw [e1, e2, e3]
      refine (HM.out _).mono ?_
      rintro e w4 ⟨rfl, hb4⟩
      have KB2 : Hid (Below w.heap.size w w4) := hid (bl KB.out hb4)
      clear hb4 KB e1 e2 e3
      go_wp2_with fail
      go_ret
      exact ⟨rfl, KB2.out⟩

theorem divN_nat (n D : Nat) (hD : 0 < D) (h : n / D ≤ 9223372036854775807) : divN (n : Int) (D : Int) false = ((n / D : Nat) : Int) ∧ divE (n : Int) (D : Int) false = 0 := by
  have h0 : ¬ (D : Int) = 0 := by omega
  have hm : rdiv (n : Int) (D : Int) false = ((n / D : Nat) : Int) := by
    unfold rdiv mend neg
    have a1 : ¬ (n : Int) < 0 := by omega
    have a2 : ¬ (D : Int) < 0 := by omega
    simp [a1, a2]
  have hf : Fits ((n / D : Nat) : Int) := by clear hm; generalize n / D = q at *; unfold Fits; omega
  unfold divN divE tellN tellE
  rw [if_neg h0, if_neg h0, hm, if_pos hf, if_pos hf]
  exact ⟨rfl, rfl⟩

theorem rate_any (c s x : Nat) (hc1 : 1 ≤ c) (hc : c ≤ 1099511627776) (hs : 1 ≤ s) (h : s * c ≤ 4503599627370496) (hx : x ≤ s * c) (w : World) :
    Calls Try.prog 41 #[.agg #[.int .i64 c, .int .i64 s], .int .i64 x] w fun e w' => e = .returned (.int .i64 ((rateN c (s * c) x : Nat) : Int)) ∧ Below w.heap.size w w' := by
  have hg1 : 1 ≤ s * c := Nat.mul_pos hs hc1
  refine rate_core c s (wn (s * c) : Nat) (s * c : Nat) x _ w (hid fun w => warning_any c s h w) (hid fun w => greatest_any c s h w) ?_
  generalize s * c = g at *
  have hw := wn_bd g
  unfold rateN
  by_cases h1 : x < wn g
  · left
    exact ⟨by simpa using h1, by rw [if_pos (.inl h1)]⟩
  · by_cases h2 : wn g = g
    · right; left
      exact ⟨by simpa using h1, by rw [h2]; simp, by rw [if_pos (.inr h2)]⟩
    · right; right
      have hD : 0 < 4 * (x - wn g) + g := by omega
      have hq : g * c / (4 * (x - wn g) + g) ≤ c := by
        refine Nat.div_le_of_le_mul ?_
        exact Nat.mul_le_mul_right _ (by omega)
      refine ⟨by simpa using h1, by simp; omega, (x - wn g : Nat), (4 * (x - wn g) : Nat), (4 * (x - wn g) + g : Nat), (g * c / (4 * (x - wn g) + g) : Nat), by unfold wrap64; omega, by unfold wrap64; omega, by unfold wrap64; omega, ?_, hid fun w => ?_⟩
      · rw [if_neg (by omega)]; omega
      · obtain ⟨d1, d2⟩ := divN_nat (g * c) (4 * (x - wn g) + g) hD (by omega)
        have hm := muldiv_any (g : Int) (c : Int) ((4 * (x - wn g) + g : Nat) : Int) false (by unfold Fits; omega) (by unfold Fits; omega) (by unfold Fits; omega) w
        rw [← Int.natCast_mul, d1, d2] at hm
        exact hm

end Go.Proofs.Ytamofanfgdjmnaa.WrmB
