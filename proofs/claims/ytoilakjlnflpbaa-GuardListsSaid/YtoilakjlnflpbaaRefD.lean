/- Contracts of the document's own wide numbers: by; of its Add, Sub, Mul, Div, MulDiv, Times. -/
import Derived.Test.YtoilakjlnflpbaaRefC
import Derived.Test.YtoilakjlnflpbaaNumE
namespace Go.Proofs.Ytoilakjlnflpbaa.RefD
open Go.ChangeShapes Go.WideShapes Go.ChangeAt Go.RowKit Base NumM NumA NumC NumE RefA RefB RefC DivB

theorem told_fit (s : Int) (w : World) :
    Calls Try.prog 63 #[.int .i64 (tellN s), .bool (fitsB s)] w fun e w' => e = .returned (.tuple #[.int .i64 (tellN s), .int .i64 (tellE s)]) ∧ w = w' := by
  have h := told_any (tellN s) (fitsB s) w
  have e1 : (if fitsB s = true then tellN s else 0) = tellN s := by unfold tellN fitsB; by_cases h : Fits s <;> simp [h]
  have e2 : (if fitsB s = true then (0 : Int) else 8) = tellE s := by unfold tellE fitsB; by_cases h : Fits s <;> simp [h]
  rw [e1, e2] at h
  exact h

/-- a number whose sign is turned, as Sub does it -/
theorem turn_sgn (b : Int) : sgn (!neg b && decide (0 < loM b.natAbs)) b.natAbs = -b ∨ 18446744073709551616 ≤ b.natAbs := by
  unfold sgn neg loM
  by_cases h : b < 0
  · simp [h]; omega
  · simp [h]
    by_cases h2 : b.natAbs % 18446744073709551616 = 0
    · by_cases h3 : b = 0
      · subst h3; simp
      · right; omega
    · left; rw [if_pos (by omega)]; omega

end Go.Proofs.Ytoilakjlnflpbaa.RefD
