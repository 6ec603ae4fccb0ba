/- Contracts of the document's own wide numbers: product, kept, by; of Add, Sub, Mul, Times. -/
import Derived.Test.YtoilakjlnflpbaaRefB
import Derived.Test.YtoilakjlnflpbaaNumC
import Derived.Deep.DeepCutAuto
namespace Go.Proofs.Ytoilakjlnflpbaa.RefC
open Go.ChangeShapes Go.WideShapes Go.ChangeAt Go.RowKit Base NumM NumA NumC RefA RefB DivB

set_option maxHeartbeats 1000000 in
theorem product_core (a b x y H L : Int) (na nb z : Bool) (w : World) (ca : decide (a < 0) = na) (cb : decide (b < 0) = nb)
    (HX : Hid (∀ w, Calls Try.prog 79 #[.int .i64 a] w fun e w' => e = .returned (.int .u64 x) ∧ w = w'))
    (HY : Hid (∀ w, Calls Try.prog 79 #[.int .i64 b] w fun e w' => e = .returned (.int .u64 y) ∧ w = w'))
    (HM : Hid (∀ w, Calls Try.prog 78 #[.int .u64 x, .int .u64 y] w fun e w' => e = .returned (.tuple #[.int .u64 H, .int .u64 L]) ∧ w' = w))
    (hz : ((na == nb) = true ∧ z = false) ∨ ((na == nb) = false ∧ decide (0 < H) = true ∧ z = true) ∨ ((na == nb) = false ∧ decide (0 < H) = false ∧ decide (0 < L) = z)) :
    Calls Try.prog 61 #[.int .i64 a, .int .i64 b] w fun e w' => e = .returned (.agg #[.bool z, .int .u64 H, .int .u64 L]) ∧ Below w.heap.size w w' := by
  cases na <;> cases nb <;> rcases hz with ⟨h1, rfl⟩ | ⟨h1, h2, rfl⟩ | ⟨h1, h2, rfl⟩ <;> first | (exfalso; simp at h1; done) | skip
  all_goals
    clear h1
    go_enter Try.func61, Try.ntmps61
    go_wp2_with fail
    refine (HX.out _).mono ?_
    rintro e w1 ⟨rfl, rfl⟩
    go_wp2_with fail
    refine (HY.out _).mono ?_
    rintro e w1 ⟨rfl, rfl⟩
    go_wp2_with fail
    refine (HM.out _).mono ?_
    rintro e w1 ⟨rfl, rfl⟩
    go_wp2
    refine bodyPost_ret (v := .agg #[.bool _, .int .u64 H, .int .u64 L]) (by simp [results, Try.results61, go_sem]) rfl ⟨rfl, ?_⟩
    exact (by repeat (first | (with_reducible exact Below.refl _ _) | (with_reducible refine Below.setCell ?_ (by first | (simp; done) | (simp; omega) | omega) _) | (with_reducible refine Below.alloc ?_ (by first | (simp; done) | (simp; omega) | omega) _) | (with_reducible refine Below.drew ?_)))

theorem product_ref (a b : Int) (ha : Fits a) (hb : Fits b) (w : World) :
    Calls Try.prog 61 #[.int .i64 a, .int .i64 b] w fun e w' => e = .returned (S (neg (a * b)) (a * b).natAbs) ∧ Below w.heap.size w w' := by
  have hab : (a * b).natAbs = a.natAbs * b.natAbs := Int.natAbs_mul a b
  unfold S hiM loM
  rw [hab]
  refine product_core a b a.natAbs b.natAbs ((a.natAbs * b.natAbs / 18446744073709551616 : Nat) : Int) ((a.natAbs * b.natAbs % 18446744073709551616 : Nat) : Int) (neg a) (neg b) _ w rfl rfl (hid fun w => size_ref a ha w) (hid fun w => size_ref b hb w) (hid fun w => mul_words _ _ (by unfold Fits at ha; omega) (by unfold Fits at hb; omega) w) ?_
  have hs : neg (a * b) = (!(neg a == neg b) && decide (0 < a.natAbs * b.natAbs)) := by
    unfold neg
    by_cases h1 : a < 0 <;> by_cases h2 : b < 0 <;> simp only [h1, h2, decide_true, decide_false]
    · have := Int.mul_pos_of_neg_of_neg h1 h2
      simp; omega
    · by_cases h3 : b = 0
      · subst h3; simp
      · have := Int.mul_neg_of_neg_of_pos h1 (show 0 < b by omega)
        simp [this]; omega
    · by_cases h3 : a = 0
      · subst h3; simp
      · have := Int.mul_neg_of_pos_of_neg (show 0 < a by omega) h2
        simp [this]; omega
    · have := Int.mul_nonneg (show 0 ≤ a by omega) (show 0 ≤ b by omega)
      simp; omega
  rw [hs]
  generalize a.natAbs * b.natAbs = P
  by_cases hn : (neg a == neg b) = true
  · left; exact ⟨hn, by rw [hn]; rfl⟩
  · right
    have hn : (neg a == neg b) = false := by simpa using hn
    rw [hn]
    by_cases hP : 0 < P / 18446744073709551616
    · left; exact ⟨rfl, decide_eq_true (by omega), by rw [Bool.not_false, Bool.true_and]; exact decide_eq_true (by omega)⟩
    · right; exact ⟨rfl, decide_eq_false (by omega), by rw [Bool.not_false, Bool.true_and, decide_eq_decide]; omega⟩

end Go.Proofs.Ytoilakjlnflpbaa.RefC
