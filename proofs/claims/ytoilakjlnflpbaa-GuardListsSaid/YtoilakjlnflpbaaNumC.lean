/- Contracts of the wide numbers: product, quotient, rounded, kept, and of Sub, Mul, Div, MulDiv, Times, Share. -/
import Derived.Test.YtoilakjlnflpbaaNumB
import Derived.Test.YtoilakjlnflpbaaDivB
import Derived.Deep.RegionWith
namespace Go.Proofs.Ytoilakjlnflpbaa.NumC
open Go.ChangeShapes Go.WideShapes Go.ChangeAt Go.RowKit Base NumM NumA NumB DivM DivA DivB

theorem w_lo (n : Int) : IntKind.u64.wrap n = (loN n : Int) := by rw [IntKind.wrap_u64]; unfold loN; omega

theorem lo_val {n : Int} (h : Fits n) : (loN n : Int) = if n < 0 then n + 18446744073709551616 else n := by
  unfold Fits at h; unfold loN; split <;> omega

/-- the high word, mended: Mul64 takes a number below 0 for one that is 2^64 greater -/
def fix (H : Int) (neg : Bool) (x : Int) : Int := if neg then (H - x) % 18446744073709551616 else H

theorem mul_lt {x y : Nat} (hx : x < 18446744073709551616) (hy : y < 18446744073709551616) : x * y < 340282366920938463463374607431768211456 := by
  have : x * y ≤ 18446744073709551615 * 18446744073709551615 := Nat.mul_le_mul (by omega) (by omega)
  omega

theorem pw00 {P : Nat} (hP : P < 340282366920938463463374607431768211456) : (loN (P : Int) : Int) = ((P % 18446744073709551616 : Nat) : Int) ∧ (hiN (P : Int) : Int) = ((P / 18446744073709551616 : Nat) : Int) := by
  unfold loN hiN; omega
theorem pw10 {P y : Nat} : (loN ((P : Int) - 18446744073709551616 * y) : Int) = ((P % 18446744073709551616 : Nat) : Int) ∧ (hiN ((P : Int) - 18446744073709551616 * y) : Int) = (((P / 18446744073709551616 : Nat) : Int) - y) % 18446744073709551616 := by
  unfold loN hiN; omega
theorem pw11 {P x y : Nat} : (loN ((P : Int) - 18446744073709551616 * y - 18446744073709551616 * x + 340282366920938463463374607431768211456) : Int) = ((P % 18446744073709551616 : Nat) : Int) ∧
    (hiN ((P : Int) - 18446744073709551616 * y - 18446744073709551616 * x + 340282366920938463463374607431768211456) : Int) = ((((P / 18446744073709551616 : Nat) : Int) - y) % 18446744073709551616 - x) % 18446744073709551616 := by
  unfold loN hiN; omega

theorem product_words {a b : Int} (ha : Fits a) (hb : Fits b) :
    (loN (a * b) : Int) = ((loN a * loN b % 18446744073709551616 : Nat) : Int) ∧
    (hiN (a * b) : Int) = fix (fix ((loN a * loN b / 18446744073709551616 : Nat) : Int) (neg a) (loN b)) (neg b) (loN a) := by
  have h1 := lo_val ha
  have h2 := lo_val hb
  have hP := mul_lt (lo_lt a) (lo_lt b)
  unfold fix neg
  generalize loN a = x at *
  generalize loN b = y at *
  have hp : ((x * y : Nat) : Int) = (x : Int) * (y : Int) := Int.natCast_mul _ _
  by_cases na : a < 0 <;> by_cases nb : b < 0 <;> simp only [na, nb, if_true, if_false, decide_true, decide_false, Bool.false_eq_true] at *
  · have e : a * b = ((x * y : Nat) : Int) - 18446744073709551616 * y - 18446744073709551616 * x + 340282366920938463463374607431768211456 := by
      have ea : a = (x : Int) - 18446744073709551616 := by omega
      have eb : b = (y : Int) - 18446744073709551616 := by omega
      rw [ea, eb, hp, Int.sub_mul, Int.mul_sub, Int.mul_sub]; omega
    rw [e]; exact pw11
  · have e : a * b = ((x * y : Nat) : Int) - 18446744073709551616 * y := by
      have ea : a = (x : Int) - 18446744073709551616 := by omega
      rw [ea, ← h2, hp, Int.sub_mul]
    rw [e]; exact pw10
  · have e : a * b = ((x * y : Nat) : Int) - 18446744073709551616 * x := by
      have eb : b = (y : Int) - 18446744073709551616 := by omega
      rw [eb, ← h1, hp, Int.mul_sub, Int.mul_comm (x : Int) 18446744073709551616]
    rw [e]; exact pw10
  · rw [← h1, ← h2, ← hp]; exact pw00 hP

set_option maxHeartbeats 400000 in
theorem product_core (a b : Int) (x y H L H1 H2 : Int) (na nb : Bool) (w : World) (ex : IntKind.u64.wrap a = x) (ey : IntKind.u64.wrap b = y)
    (HM : Hid (∀ w, Calls Try.prog 78 #[.int .u64 x, .int .u64 y] w fun e w' => e = .returned (.tuple #[.int .u64 H, .int .u64 L]) ∧ w' = w))
    (ca : decide (a < 0) = na) (cb : decide (b < 0) = nb) (e1 : H1 = if na then IntKind.u64.wrap (H - y) else H) (e2 : H2 = if nb then IntKind.u64.wrap (H1 - x) else H1) :
    Calls Try.prog 76 #[.int .i64 a, .int .i64 b] w fun e w' => e = .returned (.agg #[.int .u64 H2, .int .u64 L]) ∧ Below w.heap.size w w' := by
  have E1 := hid e1
  have E2 := hid e2
  clear e1 e2
  cases na <;> cases nb <;>
  · go_enter Try.func76, Try.ntmps76
    go_wp2_with fail
    refine (HM.out _).mono ?_
    rintro e w1 ⟨rfl, rfl⟩
    go_wp2
    rw [E2.out, E1.out]
    refine bodyPost_ret (v := .agg #[.int .u64 _, .int .u64 L]) (by simp [results, Try.results76, go_sem]) rfl ⟨rfl, ?_⟩
    exact (by repeat (first | (with_reducible exact Below.refl _ _) | (with_reducible refine Below.setCell ?_ (by first | (simp; done) | (simp; omega) | omega) _) | (with_reducible refine Below.alloc ?_ (by first | (simp; done) | (simp; omega) | omega) _) | (with_reducible refine Below.drew ?_)))

theorem w_sub_pos (H y : Int) : IntKind.u64.wrap (H - y) = (H - y) % 18446744073709551616 := IntKind.wrap_u64 _

theorem mul_words (x y : Nat) (hx : x < 18446744073709551616) (hy : y < 18446744073709551616) (w : World) :
    Calls Try.prog 78 #[.int .u64 x, .int .u64 y] w fun e w' => e = .returned (.tuple #[.int .u64 ((x * y / 18446744073709551616 : Nat) : Int), .int .u64 ((x * y % 18446744073709551616 : Nat) : Int)]) ∧ w' = w := Try.bits_Mul64 x y hx hy w

theorem product_any (a b : Int) (ha : Fits a) (hb : Fits b) (w : World) :
    Calls Try.prog 76 #[.int .i64 a, .int .i64 b] w fun e w' => e = .returned (W (a * b)) ∧ Below w.heap.size w w' := by
  have hw := product_words ha hb
  refine (product_core a b (loN a) (loN b) ((loN a * loN b / 18446744073709551616 : Nat) : Int) ((loN a * loN b % 18446744073709551616 : Nat) : Int) _ _ (neg a) (neg b) w (w_lo a) (w_lo b) (hid fun w => mul_words _ _ (lo_lt a) (lo_lt b) w) rfl rfl rfl rfl).mono ?_
  rintro e w' ⟨rfl, hbl⟩
  refine ⟨?_, hbl⟩
  unfold W
  rw [hw.1, hw.2]
  simp only [fix, w_sub_pos]

/-- a number, kept within int64 -/
def keep (n : Int) : Int := if Fits n then n else if n < 0 then -9223372036854775808 else 9223372036854775807

end Go.Proofs.Ytoilakjlnflpbaa.NumC
