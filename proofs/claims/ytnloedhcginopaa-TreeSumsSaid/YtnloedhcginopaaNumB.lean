/- Contracts of the wide numbers: negative, negated, size, for every number within 128 bits. -/
import Derived.Test.YtnloedhcginopaaNumA
namespace Go.Proofs.Ytnloedhcginopaa.NumB
open Go.ChangeShapes Go.WideShapes Go.ChangeAt Go.RowKit Base NumM NumA

theorem xor_max (n : Nat) (h : n < 18446744073709551616) : bits .xor .u64 IntKind.u64.max (n : Int) = 18446744073709551615 - n := by
  have e : IntKind.u64.max = ((18446744073709551615 : Nat) : Int) := by decide
  rw [e, bits_xor_u64_nat _ _ (by omega) h]
  have : (18446744073709551615 : Nat) ^^^ n = 18446744073709551615 - n := by
    have e := @BitVec.toNat_not 64 (BitVec.ofNat 64 n)
    rw [← BitVec.xor_allOnes, BitVec.toNat_xor, BitVec.toNat_allOnes, BitVec.toNat_ofNat, Nat.mod_eq_of_lt (show n < 2 ^ 64 by omega), Nat.xor_comm] at e
    exact e
  rw [this]
  omega

set_option maxHeartbeats 400000 in
theorem negative_any (n : Int) (h : Bd n) (w : World) :
    Calls Try.prog 96 #[W n] w fun e w' => e = .returned (.bool (neg n)) ∧ Below w.heap.size w w' := by
  have e1 : decide (wrap64 (hiN n : Int) < 0) = neg n := by unfold wrap64; exact hi_neg h
  clear h
  unfold W
  go_enter Try.func96, Try.ntmps96
  go_wp2
  go_ret
  exact ⟨rfl, (Below.refl _ _).alloc (Nat.le_refl _) _⟩

end Go.Proofs.Ytnloedhcginopaa.NumB
