/- Contracts of the wide numbers: product, quotient, rounded, kept, and of Sub, Mul, Div, MulDiv, Times, Share. -/
import Derived.Test.YtnloedhcginopaaNumB
import Derived.Test.YtnloedhcginopaaDivB
import Derived.Deep.RegionWith
namespace Go.Proofs.Ytnloedhcginopaa.NumC
open Go.ChangeShapes Go.WideShapes Go.ChangeAt Go.RowKit Base NumM NumA NumB DivM DivA DivB

theorem w_lo (n : Int) : IntKind.u64.wrap n = (loN n : Int) := by rw [IntKind.wrap_u64]; unfold loN; omega

theorem lo_val {n : Int} (h : Fits n) : (loN n : Int) = if n < 0 then n + 18446744073709551616 else n := by
  unfold Fits at h; unfold loN; split <;> omega

/-- the high word, mended: Mul64 takes a number below 0 for one that is 2^64 greater -/
def fix (H : Int) (neg : Bool) (x : Int) : Int := if neg then (H - x) % 18446744073709551616 else H

theorem mul_lt {x y : Nat} (hx : x < 18446744073709551616) (hy : y < 18446744073709551616) : x * y < 340282366920938463463374607431768211456 := by
  have : x * y ≤ 18446744073709551615 * 18446744073709551615 := Nat.mul_le_mul (by omega) (by omega)
  omega

theorem pw00 {P : Nat} (hP : P < 340282366920938463463374607431768211456) : (loN (P : Int) : Int) = ((P % 18446744073709551616 : Nat) : Int) ∧ (hiN (P : Int) : Int) = ((P / 18446744073709551616 : Nat) : Int) := by
  unfold loN hiN; omega
theorem pw10 {P y : Nat} : (loN ((P : Int) - 18446744073709551616 * y) : Int) = ((P % 18446744073709551616 : Nat) : Int) ∧ (hiN ((P : Int) - 18446744073709551616 * y) : Int) = (((P / 18446744073709551616 : Nat) : Int) - y) % 18446744073709551616 := by
  unfold loN hiN; omega
theorem pw11 {P x y : Nat} : (loN ((P : Int) - 18446744073709551616 * y - 18446744073709551616 * x + 340282366920938463463374607431768211456) : Int) = ((P % 18446744073709551616 : Nat) : Int) ∧
    (hiN ((P : Int) - 18446744073709551616 * y - 18446744073709551616 * x + 340282366920938463463374607431768211456) : Int) = ((((P / 18446744073709551616 : Nat) : Int) - y) % 18446744073709551616 - x) % 18446744073709551616 := by
  unfold loN hiN; omega

theorem product_words {a b : Int} (ha : Fits a) (hb : Fits b) :
    (loN (a * b) : Int) = ((loN a * loN b % 18446744073709551616 : Nat) : Int) ∧
    (hiN (a * b) : Int) = fix (fix ((loN a * loN b / 18446744073709551616 : Nat) : Int) (neg a) (loN b)) (neg b) (loN a) := by
  have h1 := lo_val ha
  have h2 := lo_val hb
  have hP := mul_lt (lo_lt a) (lo_lt b)
  unfold fix neg
  generalize loN a = x at *
  generalize loN b = y at *
  have hp : ((x * y : Nat) : Int) = (x : Int) * (y : Int) := Int.natCast_mul _ _
  by_cases na : a < 0 <;> by_cases nb : b < 0 <;> simp only [na, nb, if_true, if_false, decide_true, decide_false, Bool.false_eq_true] at *
  · have e : a * b = ((x * y : Nat) : Int) - 18446744073709551616 * y - 18446744073709551616 * x + 340282366920938463463374607431768211456 := by
      have ea : a = (x : Int) - 18446744073709551616 := by omega
      have eb : b = (y : Int) - 18446744073709551616 := by omega
      rw [ea, eb, hp, Int.sub_mul, Int.mul_sub, Int.mul_sub]; omega
    rw [e]; exact pw11
  · have e : a * b = ((x * y : Nat) : Int) - 18446744073709551616 * y := by
      have ea : a = (x : Int) - 18446744073709551616 := by omega
      rw [ea, ← h2, hp, Int.sub_mul]
    rw [e]; exact pw10
  · have e : a * b = ((x * y : Nat) : Int) - 18446744073709551616 * x := by
      have eb : b = (y : Int) - 18446744073709551616 := by omega
      rw [eb, ← h1, hp, Int.mul_sub, Int.mul_comm (x : Int) 18446744073709551616]
    rw [e]; exact pw10
  · rw [← h1, ← h2, ← hp]; exact pw00 hP

theorem w_sub_pos (H y : Int) : IntKind.u64.wrap (H - y) = (H - y) % 18446744073709551616 := IntKind.wrap_u64 _

set_option maxHeartbeats 400000 in
theorem kept_core (n t e1 : Int) (nb : Bool) (r : Int) (w : World) (HN : Hid (∀ w, Calls Try.prog 95 #[W n] w fun e w' => e = .returned (.tuple #[.int .i64 t, .int .i64 e1]) ∧ Below w.heap.size w w'))
    (HB : Hid (∀ w, Calls Try.prog 96 #[W n] w fun e w' => e = .returned (.bool nb) ∧ Below w.heap.size w w')) (he : e1 = 0 ∨ (e1 == 0) = false) (HR : Hid (r = if e1 = 0 then t else if nb then -9223372036854775808 else 9223372036854775807)) :
    Calls Try.prog 87 #[W n] w fun e w' => e = .returned (.int .i64 r) ∧ Below w.heap.size w w' := by
  rcases he with rfl | he
  · have HR2 : Hid (r = t) := hid (by rw [HR.out, if_pos rfl])
    go_enter Try.func87, Try.ntmps87
    go_wp2_with fail
    refine (HN.out _).mono ?_
    rintro e w1 ⟨rfl, hb⟩
    go_wp2
    go_ret
    rw [HR2.out]
    exact ⟨rfl, (by repeat (first | (with_reducible exact Below.refl _ _) | (with_reducible refine Below.setCell ?_ (by first | (simp; done) | (simp; omega) | omega) _) | (with_reducible refine Below.alloc ?_ (by first | (simp; done) | (simp; omega) | omega) _) | (with_reducible refine Below.drew ?_) | (with_reducible refine Below.trans ?_ (Below.mono hb (by first | (simp; done) | (simp; omega) | omega)))))⟩
  · have he2 : ¬ e1 = 0 := by simpa using he
    cases nb
    · have HR2 : Hid (r = 9223372036854775807) := hid (by rw [HR.out, if_neg he2, if_neg (by decide)])
      clear he2
      go_enter Try.func87, Try.ntmps87
      go_wp2_with fail
      refine (HN.out _).mono ?_
      rintro e w1 ⟨rfl, hb⟩
      obtain ⟨hc, hf⟩ := bcell hb
      go_wp2_with fail
      refine (HB.out _).mono ?_
      rintro e w2 ⟨rfl, hb2⟩
      go_wp2
      go_ret
      rw [HR2.out]
      have hz := hb.size
      simp at hz
      exact ⟨rfl, (by repeat (first | (with_reducible exact Below.refl _ _) | (with_reducible refine Below.setCell ?_ (by first | (simp; done) | (simp; omega) | omega) _) | (with_reducible refine Below.alloc ?_ (by first | (simp; done) | (simp; omega) | omega) _) | (with_reducible refine Below.drew ?_) | (with_reducible refine Below.trans ?_ (Below.mono hb2 (by first | (simp; done) | (simp; omega) | omega))) | (with_reducible refine Below.trans ?_ (Below.mono hb (by first | (simp; done) | (simp; omega) | omega)))))⟩
    · have HR2 : Hid (r = -9223372036854775808) := hid (by rw [HR.out, if_neg he2, if_pos rfl])
      clear he2
      go_enter Try.func87, Try.ntmps87
      go_wp2_with fail
      refine (HN.out _).mono ?_
      rintro e w1 ⟨rfl, hb⟩
      obtain ⟨hc, hf⟩ := bcell hb
      go_wp2_with fail
      refine (HB.out _).mono ?_
      rintro e w2 ⟨rfl, hb2⟩
      go_wp2
      go_ret
      rw [HR2.out]
      have hz := hb.size
      simp at hz
      exact ⟨rfl, (by repeat (first | (with_reducible exact Below.refl _ _) | (with_reducible refine Below.setCell ?_ (by first | (simp; done) | (simp; omega) | omega) _) | (with_reducible refine Below.alloc ?_ (by first | (simp; done) | (simp; omega) | omega) _) | (with_reducible refine Below.drew ?_) | (with_reducible refine Below.trans ?_ (Below.mono hb2 (by first | (simp; done) | (simp; omega) | omega))) | (with_reducible refine Below.trans ?_ (Below.mono hb (by first | (simp; done) | (simp; omega) | omega)))))⟩

/-- a number, kept within int64 -/
def keep (n : Int) : Int := if Fits n then n else if n < 0 then -9223372036854775808 else 9223372036854775807

theorem kept_any (n : Int) (hn : Bd n) {v : Value} (hv : v = W n) (w : World) :
    Calls Try.prog 87 #[v] w fun e w' => e = .returned (.int .i64 (keep n)) ∧ Below w.heap.size w w' := by
  subst hv
  refine kept_core n (tellN n) (tellE n) (neg n) _ w (hid fun w => narrow_any n hn rfl w) (hid fun w => negative_any n hn w) ?_ (hid ?_)
  · unfold tellE; split
    · exact .inl rfl
    · exact .inr rfl
  · unfold keep tellE tellN neg
    by_cases h : Fits n <;> by_cases h2 : n < 0 <;> simp [h, h2]

end Go.Proofs.Ytnloedhcginopaa.NumC
