/- The walk of math/bits.Div64: the quotient and the rest of 128 bits by 64, where the quotient fits. -/
import Derived.Test.YtnloedhcginopaaBase
import Derived.Test.YtnloedhcginopaaDivM
import Derived.Laws.Bits64
import Derived.Laws.Bits64b
namespace Go.Proofs.Ytnloedhcginopaa.DivA
open Go.ChangeShapes Go.WideShapes Go.ChangeAt Go.RowKit Base DivM

theorem w_nat (a : Nat) (h : a < 18446744073709551616) : IntKind.u64.wrap (a : Int) = a := by rw [IntKind.wrap_u64]; omega
theorem w_mul (a b : Nat) (h : a * b < 18446744073709551616) : IntKind.u64.wrap ((a : Int) * b) = ((a * b : Nat) : Int) := by rw [← Int.natCast_mul]; exact w_nat _ h

/-- one turn of the loop over a guess and its rest: what its words are, and where it comes to -/
def Down (u y1 y0 d q r : Nat) (p r' : Nat) : Prop := IntKind.u64.wrap ((q : Int) - 1) = p ∧ IntKind.u64.wrap ((r : Int) + y1) = r' ∧ p < q ∧ ((decide ((4294967296 : Int) ≤ r') = false ∧ Inv u y1 y0 d p r') ∨ (decide ((4294967296 : Int) ≤ r') = true ∧ p = dig u y1 y0 d))

theorem down_of {u y1 y0 d q r : Nat} (n : Nrm u y1 y0 d) (i : Inv u y1 y0 d q r) (ht : 4294967296 ≤ q ∨ 4294967296 * r + d < q * y0) : Down u y1 y0 d q r (q - 1) (r + y1) := by
  have h1 := Inv.pos ht
  have h2 := i.i2; have h3 := i.i3; have h4 := n.h2
  refine ⟨by rw [IntKind.wrap_u64]; omega, by rw [IntKind.wrap_u64]; omega, by omega, ?_⟩
  by_cases hr : r + y1 < 4294967296
  · exact .inl ⟨by rw [decide_eq_false_iff_not]; omega, i.down n ht hr⟩
  · exact .inr ⟨by rw [decide_eq_true_iff]; omega, i.stop n ht (by omega)⟩

theorem turn {u y1 y0 d q r : Nat} (n : Nrm u y1 y0 d) (i : Inv u y1 y0 d q r) :
    (decide ((4294967296 : Int) ≤ q) = true ∧ ∃ p r', Down u y1 y0 d q r p r') ∨
    (decide ((4294967296 : Int) ≤ q) = false ∧ ∃ P Z0 Z : Nat, IntKind.u64.wrap ((q : Int) * y0) = P ∧ IntKind.u64.wrap (4294967296 * (r : Int)) = Z0 ∧ IntKind.u64.wrap ((Z0 : Int) + d) = Z ∧ ((Z < P ∧ ∃ p r', Down u y1 y0 d q r p r') ∨ (decide (Z < P) = false ∧ q = dig u y1 y0 d))) := by
  have h2 := i.i2; have h4 := n.h4; have h3 := n.h3
  by_cases hq : 4294967296 ≤ q
  · exact .inl ⟨by rw [decide_eq_true_iff]; omega, _, _, down_of n i (.inl hq)⟩
  · refine .inr ⟨by rw [decide_eq_false_iff_not]; omega, q * y0, 4294967296 * r, 4294967296 * r + d, w_mul _ _ (mul_small (by omega) h3), by rw [IntKind.wrap_u64]; omega, by rw [IntKind.wrap_u64]; omega, ?_⟩
    by_cases ht : 4294967296 * r + d < q * y0
    · exact .inl ⟨ht, _, _, down_of n i (.inr ht)⟩
    · exact .inr ⟨by simpa using ht, i.right n ht⟩

end Go.Proofs.Ytnloedhcginopaa.DivA
