/- Contract of math/bits.Div64: the quotient and the rest of 128 bits by 64, wherever the quotient fits. -/
import Derived.Test.YtnloedhcginopaaDivA
import Derived.Test.YtnloedhcginopaaShelf
import Derived.Lib.ItoaNum
import Derived.BigQuiet
import Derived.Deep.QuietTactic
namespace Go.Proofs.Ytnloedhcginopaa.DivB
open Go.ChangeShapes Go.WideShapes Go.ChangeAt Go.RowKit Base DivM DivA

theorem nlz (y : Nat) (h0 : 0 < y) (h1 : y < 18446744073709551616) :
    ∃ s : Nat, s ≤ 63 ∧ (64 - (Lib.bitLen y : Int)) = s ∧ 9223372036854775808 ≤ y * 2 ^ s ∧ y * 2 ^ s < 18446744073709551616 := by
  have hb := Lib.bitLenAux_bounds 64 y (by omega) (by omega)
  have hl : Lib.bitLen y = Lib.bitLenAux 64 y := rfl
  rw [hl]
  obtain ⟨b1, b2, b3⟩ := hb
  have hle : Lib.bitLenAux 64 y ≤ 64 := Lib.bitLenAux_le 64 y 64 (by omega)
  generalize Lib.bitLenAux 64 y = l at *
  refine ⟨64 - l, by omega, by omega, ?_, ?_⟩
  · have e : 2 ^ (l - 1) * 2 ^ (64 - l) = 9223372036854775808 := by
      rw [← Nat.pow_add, show l - 1 + (64 - l) = 63 from by omega]
    rw [← e]
    exact Nat.mul_le_mul_right _ b2
  · have e : 2 ^ l * 2 ^ (64 - l) = 18446744073709551616 := by
      rw [← Nat.pow_add, show l + (64 - l) = 64 from by omega]
    rw [← e]
    exact Nat.mul_lt_mul_of_pos_right b3 (Nat.two_pow_pos _)

theorem or_add (a b s : Nat) (hb : b < 2 ^ s) (hx : a * 2 ^ s + b < 18446744073709551616) : bits .or .u64 ((a * 2 ^ s : Nat) : Int) (b : Int) = ((a * 2 ^ s + b : Nat) : Int) := by
  rw [bits_or_u64_nat _ _ (by omega) (by omega)]
  have e := Nat.shiftLeft_add_eq_or_of_lt hb a
  rw [Nat.shiftLeft_eq] at e
  rw [e]

theorem and_low (a : Nat) (h : a < 18446744073709551616) : bits .and .u64 (a : Int) 4294967295 = ((a % 4294967296 : Nat) : Int) := by
  have e := bits_and_u64_nat a 4294967295 h (by omega)
  have e2 : a &&& 4294967295 = a % 4294967296 := Nat.and_two_pow_sub_one_eq_mod a 32
  rw [e2] at e
  exact e

theorem w_pow (a s : Nat) : IntKind.u64.wrap ((a : Int) * 2 ^ s) = ((a * 2 ^ s % 18446744073709551616 : Nat) : Int) := by
  rw [IntKind.wrap_u64]
  have : ((2 : Int) ^ s) = ((2 ^ s : Nat) : Int) := by simp
  rw [this, ← Int.natCast_mul]
  omega

theorem div_n (a b : Nat) : (a : Int) / b = ((a / b : Nat) : Int) := (Int.natCast_ediv a b).symm
theorem wsub (u g y1 : Nat) (hu : u < 18446744073709551616) (h : g * y1 ≤ u) : IntKind.u64.wrap ((u : Int) - IntKind.u64.wrap ((g : Int) * y1)) = ((u - g * y1 : Nat) : Int) := by
  rw [w_mul _ _ (by omega), IntKind.wrap_u64]
  generalize g * y1 = P at *
  omega

theorem guess_at {u y1 y0 d : Nat} (n : Nrm u y1 y0 d) : u < 18446744073709551616 ∧ u / y1 < 18446744073709551616 ∧ u / y1 * y1 ≤ u ∧ u - u / y1 * y1 = u % y1 := by
  have h1 := n.h1; have h2 := n.h2; have h3 := n.h3; have h5 := n.h5
  have hm : u / y1 * y1 ≤ u := Nat.div_mul_le_self u y1
  have hd : u / y1 ≤ u := Nat.div_le_self _ _
  have hu : u < 18446744073709551616 := by omega
  have e : u / y1 * y1 + u % y1 = u := Nat.div_add_mod' u y1
  exact ⟨hu, by omega, hm, by omega⟩

theorem word1 {u y1 y0 d : Nat} (n : Nrm u y1 y0 d) (Y : Nat) (hY : y1 * 4294967296 + y0 = Y) :
    IntKind.u64.wrap (IntKind.u64.wrap (IntKind.u64.wrap ((u : Int) * 4294967296) + d) - IntKind.u64.wrap ((dig u y1 y0 d : Int) * Y)) = (mo u y1 y0 d : Int) := by
  subst hY
  simp only [IntKind.wrap_u64]
  exact mo_word n

end Go.Proofs.Ytnloedhcginopaa.DivB
