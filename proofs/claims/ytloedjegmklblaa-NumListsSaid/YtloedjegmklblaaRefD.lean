/- Contracts of the document's own wide numbers: by; of its Add, Sub, Mul, Div, MulDiv, Times. -/
import Derived.Test.YtloedjegmklblaaRefC
import Derived.Test.YtloedjegmklblaaNumE
namespace Go.Proofs.Ytloedjegmklblaa.RefD
open Go.ChangeShapes Go.WideShapes Go.ChangeAt Go.RowKit Base NumM NumA NumC NumE RefA RefB RefC DivB

theorem told_fit (s : Int) (w : World) :
    Calls Try.prog 78 #[.int .i64 (tellN s), .bool (fitsB s)] w fun e w' => e = .returned (.tuple #[.int .i64 (tellN s), .int .i64 (tellE s)]) ∧ w = w' := by
  have h := told_any (tellN s) (fitsB s) w
  have e1 : (if fitsB s = true then tellN s else 0) = tellN s := by unfold tellN fitsB; by_cases h : Fits s <;> simp [h]
  have e2 : (if fitsB s = true then (0 : Int) else 8) = tellE s := by unfold tellE fitsB; by_cases h : Fits s <;> simp [h]
  rw [e1, e2] at h
  exact h

set_option maxHeartbeats 400000 in
theorem add_ref (a b : Int) (ha : Fits a) (hb : Fits b) (w : World) :
    Calls Try.prog 16 #[.int .i64 a, .int .i64 b] w fun e w' => e = .returned (.tuple #[.int .i64 (tellN (a + b)), .int .i64 (tellE (a + b))]) ∧ Below w.heap.size w w' := by
  have HA := hid ha
  have HB := hid hb
  have hm : Hid (a.natAbs + b.natAbs < 340282366920938463463374607431768211456) := hid (by unfold Fits at *; omega)
  have hs : Hid (sgn (plusB (neg a) a.natAbs (neg b) b.natAbs) (plusN (neg a) a.natAbs (neg b) b.natAbs) = a + b) := hid (by rw [plus_sgn]; unfold sgn neg; by_cases h1 : a < 0 <;> by_cases h2 : b < 0 <;> simp [h1, h2] <;> omega)
  clear ha hb
  go_enter Try.func16, Try.ntmps16
  go_wp2_with fail
  refine (of_any a HA.out _).mono ?_
  rintro e w1 ⟨rfl, hb1⟩
  go_wp2_with fail
  refine (of_any b HB.out _).mono ?_
  rintro e w2 ⟨rfl, hb2⟩
  go_wp2_with fail
  refine (plus_ref _ _ _ _ hm.out rfl rfl _).mono ?_
  rintro e w3 ⟨rfl, hb3⟩
  go_wp2_with fail
  refine (small_any _ _ rfl _).mono ?_
  rw [hs.out]
  rintro e w4 ⟨rfl, hb4⟩
  go_wp2_with fail
  refine (told_fit _ _).mono ?_
  rintro e w5 ⟨rfl, rfl⟩
  go_wp2
  go_ret2
  have z1 := hb1.size; have z2 := hb2.size; have z3 := hb3.size
  exact ⟨rfl, (by repeat (first | (with_reducible exact Below.refl _ _) | (with_reducible refine Below.setCell ?_ (by first | (simp; done) | (simp; omega) | omega) _) | (with_reducible refine Below.alloc ?_ (by first | (simp; done) | (simp; omega) | omega) _) | (with_reducible refine Below.drew ?_) | (with_reducible exact hb4) | (with_reducible exact hb3) | (with_reducible exact hb2) | (with_reducible exact hb1) | (with_reducible refine Below.trans ?_ (Below.mono hb4 (by first | (simp; done) | (simp; omega) | omega))) | (with_reducible refine Below.trans ?_ (Below.mono hb3 (by first | (simp; done) | (simp; omega) | omega))) | (with_reducible refine Below.trans ?_ (Below.mono hb2 (by first | (simp; done) | (simp; omega) | omega))) | (with_reducible refine Below.trans ?_ (Below.mono hb1 (by first | (simp; done) | (simp; omega) | omega)))))⟩

set_option maxHeartbeats 400000 in
theorem mul_ref (a b : Int) (ha : Fits a) (hb : Fits b) (w : World) :
    Calls Try.prog 22 #[.int .i64 a, .int .i64 b] w fun e w' => e = .returned (.tuple #[.int .i64 (tellN (a * b)), .int .i64 (tellE (a * b))]) ∧ Below w.heap.size w w' := by
  have HA := hid ha
  have HB := hid hb
  have hs : Hid (sgn (neg (a * b)) (a * b).natAbs = a * b) := hid (by unfold sgn neg; by_cases h1 : a * b < 0 <;> simp [h1] <;> omega)
  clear ha hb
  go_enter Try.func22, Try.ntmps22
  go_wp2_with fail
  refine (product_ref a b HA.out HB.out _).mono ?_
  rintro e w1 ⟨rfl, hb1⟩
  go_wp2_with fail
  refine (small_any _ _ rfl _).mono ?_
  rw [hs.out]
  rintro e w4 ⟨rfl, hb4⟩
  go_wp2_with fail
  refine (told_fit _ _).mono ?_
  rintro e w5 ⟨rfl, rfl⟩
  go_wp2
  go_ret2
  have z1 := hb1.size
  exact ⟨rfl, (by repeat (first | (with_reducible exact Below.refl _ _) | (with_reducible refine Below.setCell ?_ (by first | (simp; done) | (simp; omega) | omega) _) | (with_reducible refine Below.alloc ?_ (by first | (simp; done) | (simp; omega) | omega) _) | (with_reducible refine Below.drew ?_) | (with_reducible exact hb4) | (with_reducible exact hb1) | (with_reducible refine Below.trans ?_ (Below.mono hb4 (by first | (simp; done) | (simp; omega) | omega))) | (with_reducible refine Below.trans ?_ (Below.mono hb1 (by first | (simp; done) | (simp; omega) | omega)))))⟩

set_option maxHeartbeats 400000 in
theorem times_ref (a b : Int) (ha : Fits a) (hb : Fits b) (w : World) :
    Calls Try.prog 36 #[.int .i64 a, .int .i64 b] w fun e w' => e = .returned (.int .i64 (keep (a * b))) ∧ Below w.heap.size w w' := by
  have HA := hid ha
  have HB := hid hb
  have hs : Hid (sgn (neg (a * b)) (a * b).natAbs = a * b) := hid (by unfold sgn neg; by_cases h1 : a * b < 0 <;> simp [h1] <;> omega)
  clear ha hb
  go_enter Try.func36, Try.ntmps36
  go_wp2_with fail
  refine (product_ref a b HA.out HB.out _).mono ?_
  rintro e w1 ⟨rfl, hb1⟩
  go_wp2_with fail
  refine (kept_ref _ _ rfl _).mono ?_
  rw [hs.out]
  rintro e w4 ⟨rfl, hb4⟩
  go_wp2
  go_ret
  have z1 := hb1.size
  exact ⟨rfl, (by repeat (first | (with_reducible exact Below.refl _ _) | (with_reducible refine Below.setCell ?_ (by first | (simp; done) | (simp; omega) | omega) _) | (with_reducible refine Below.alloc ?_ (by first | (simp; done) | (simp; omega) | omega) _) | (with_reducible refine Below.drew ?_) | (with_reducible exact hb4) | (with_reducible exact hb1) | (with_reducible refine Below.trans ?_ (Below.mono hb4 (by first | (simp; done) | (simp; omega) | omega))) | (with_reducible refine Below.trans ?_ (Below.mono hb1 (by first | (simp; done) | (simp; omega) | omega)))))⟩

/-- a number whose sign is turned, as Sub does it -/
theorem turn_sgn (b : Int) : sgn (!neg b && decide (0 < loM b.natAbs)) b.natAbs = -b ∨ 18446744073709551616 ≤ b.natAbs := by
  unfold sgn neg loM
  by_cases h : b < 0
  · simp [h]; omega
  · simp [h]
    by_cases h2 : b.natAbs % 18446744073709551616 = 0
    · by_cases h3 : b = 0
      · subst h3; simp
      · right; omega
    · left; rw [if_pos (by omega)]; omega

set_option maxRecDepth 20000 in
set_option maxHeartbeats 2000000 in
theorem sub_core (a b h l d : Int) (nb z : Bool) (x : Bool) (m : Nat) (w : World)
    (HO : Hid (∀ w, Calls Try.prog 75 #[.int .i64 b] w fun e w' => e = .returned (.agg #[.bool nb, .int .u64 h, .int .u64 l]) ∧ Below w.heap.size w w'))
    (HA : Hid (∀ w, Calls Try.prog 75 #[.int .i64 a] w fun e w' => e = .returned (S (neg a) a.natAbs) ∧ Below w.heap.size w w'))
    (hz : (nb = true ∧ z = false) ∨ (nb = false ∧ decide (0 < l) = z))
    (HP : Hid (∀ w, Calls Try.prog 76 #[S (neg a) a.natAbs, .agg #[.bool z, .int .u64 h, .int .u64 l]] w fun e w' => e = .returned (S x m) ∧ Below w.heap.size w w'))
    (HS : Hid (∀ w, Calls Try.prog 77 #[S x m] w fun e w' => e = .returned (.tuple #[.int .i64 (tellN d), .bool (fitsB d)]) ∧ Below w.heap.size w w')) :
    Calls Try.prog 20 #[.int .i64 a, .int .i64 b] w fun e w' => e = .returned (.tuple #[.int .i64 (tellN d), .int .i64 (tellE d)]) ∧ Below w.heap.size w w' := by
  rcases hz with ⟨rfl, rfl⟩ | ⟨rfl, rfl⟩
  all_goals
    go_enter Try.func20, Try.ntmps20
    go_wp2_with fail
    refine (HO.out _).mono ?_
    rintro e w1 ⟨rfl, hb1⟩
    have z1 := hb1.size
    go_wp2_with fail
    go_region_with (first | (go_at_call 75; refine (HA.out _).mono ?_; rintro e w2 ⟨rfl, hb2⟩; obtain ⟨hc2, hf2⟩ := bcell hb2; have z2 := hb2.size; (try simp at z2); have z5 : w1.heap.size < w2.heap.size := (by omega)) | (go_at_call 76; refine (HP.out _).mono ?_; rintro e w3 ⟨rfl, hb3⟩; obtain ⟨hc3, hf3⟩ := bcell hb3; have z3 := hb3.size) | (go_at_call 77; refine (HS.out _).mono ?_; rintro e w4 ⟨rfl, hb4⟩; have z4 := hb4.size))
    all_goals
      go_wp2_with fail
      refine (told_fit _ _).mono ?_
      rintro e w5 ⟨rfl, rfl⟩
      go_wp2
      go_ret2
      exact ⟨rfl, (by repeat (first | (with_reducible exact Below.refl _ _) | (with_reducible refine Below.setCell ?_ (by first | (simp; done) | (simp; omega) | omega) _) | (with_reducible refine Below.alloc ?_ (by first | (simp; done) | (simp; omega) | omega) _) | (with_reducible refine Below.drew ?_) | (with_reducible exact hb4) | (with_reducible exact hb3) | (with_reducible exact hb2) | (with_reducible exact hb1) | (with_reducible refine Below.trans ?_ (Below.mono hb4 (by first | (simp; done) | (simp; omega) | omega))) | (with_reducible refine Below.trans ?_ (Below.mono hb3 (by first | (simp; done) | (simp; omega) | omega))) | (with_reducible refine Below.trans ?_ (Below.mono hb2 (by first | (simp; done) | (simp; omega) | omega))) | (with_reducible refine Below.trans ?_ (Below.mono hb1 (by first | (simp; done) | (simp; omega) | omega)))))⟩

theorem sub_ref (a b : Int) (ha : Fits a) (hb : Fits b) (w : World) :
    Calls Try.prog 20 #[.int .i64 a, .int .i64 b] w fun e w' => e = .returned (.tuple #[.int .i64 (tellN (a + -b)), .int .i64 (tellE (a + -b))]) ∧ Below w.heap.size w w' := by
  have hl : loM b.natAbs = b.natAbs := by unfold Fits at hb; unfold loM; omega
  have ht : sgn (!neg b && decide (0 < loM b.natAbs)) b.natAbs = -b := by
    rcases turn_sgn b with h | h
    · exact h
    · unfold Fits at hb; omega
  have hs : sgn (plusB (neg a) a.natAbs (!neg b && decide (0 < loM b.natAbs)) b.natAbs) (plusN (neg a) a.natAbs (!neg b && decide (0 < loM b.natAbs)) b.natAbs) = a + -b := by
    rw [plus_sgn, ht]
    have : sgn (neg a) a.natAbs = a := by unfold sgn neg; by_cases h1 : a < 0 <;> simp [h1] <;> omega
    rw [this]
  refine sub_core a b (hiM b.natAbs) (loM b.natAbs) (a + -b) (neg b) (!neg b && decide (0 < loM b.natAbs)) _ _ w (hid fun w => of_any b hb w) (hid fun w => of_any a ha w) ?_ (hid fun w => plus_ref _ _ _ _ (by unfold Fits at *; omega) rfl rfl w) (hid ?_)
  · by_cases h : neg b = true
    · left; rw [h]; exact ⟨rfl, rfl⟩
    · right
      have h : neg b = false := by simpa using h
      rw [h]
      exact ⟨rfl, by rw [Bool.not_false, Bool.true_and, decide_eq_decide]; omega⟩
  · intro w
    have := small_any (plusB (neg a) a.natAbs (!neg b && decide (0 < loM b.natAbs)) b.natAbs) (plusN (neg a) a.natAbs (!neg b && decide (0 < loM b.natAbs)) b.natAbs) rfl w
    rw [hs] at this
    exact this

end Go.Proofs.Ytloedjegmklblaa.RefD
