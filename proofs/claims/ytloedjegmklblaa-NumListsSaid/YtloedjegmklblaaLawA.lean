/- Contracts of the document's own Div, MulDiv, Share, of num's Share and Within; the laws NumSums, NumWide, NumRounds, NumWithin but for what must hold whatever is asked. -/
import Derived.Test.YtloedjegmklblaaRefE
namespace Go.Proofs.Ytloedjegmklblaa.LawA
open Go.ChangeShapes Go.WideShapes Go.ChangeAt Go.RowKit Base NumM NumA NumB NumC NumD NumE RefA RefB RefC RefD RefE DivB

set_option maxHeartbeats 400000 in
theorem muldiv_ref (a b c : Int) (up : Bool) (ha : Fits a) (hb : Fits b) (hc : Fits c) (w : World) :
    Calls Try.prog 26 #[.int .i64 a, .int .i64 b, .int .i64 c, .bool up] w fun e w' => e = .returned (.tuple #[.int .i64 (divN (a * b) c up), .int .i64 (divE (a * b) c up)]) ∧ Below w.heap.size w w' := by
  have HA := hid ha
  have HB := hid hb
  have HC := hid hc
  clear ha hb hc
  by_cases h0 : c = 0
  · subst h0
    have HN : Hid (divN (a * b) 0 up = 0 ∧ divE (a * b) 0 up = 9) := hid (by unfold divN divE; rw [if_pos rfl, if_pos rfl]; exact ⟨rfl, rfl⟩)
    go_enter Try.func26, Try.ntmps26
    go_wp2
    go_ret2
    rw [HN.out.1, HN.out.2]
    exact ⟨rfl, (by repeat (first | (with_reducible exact Below.refl _ _) | (with_reducible refine Below.setCell ?_ (by first | (simp; done) | (simp; omega) | omega) _) | (with_reducible refine Below.alloc ?_ (by first | (simp; done) | (simp; omega) | omega) _) | (with_reducible refine Below.drew ?_)))⟩
  · have HN : Hid (divN (a * b) c up = tellN (rdiv (a * b) c up) ∧ divE (a * b) c up = tellE (rdiv (a * b) c up)) := hid (by unfold divN divE; rw [if_neg h0, if_neg h0]; exact ⟨rfl, rfl⟩)
    have H0 := hid h0
    have h1 : (c == 0) = false := by rw [beq_eq_false_iff_ne]; exact h0
    clear h0
    go_enter Try.func26, Try.ntmps26
    go_wp2_with fail
    refine (product_ref a b HA.out HB.out _).mono ?_
    rintro e w1 ⟨rfl, hb1⟩
    go_wp2_with fail
    refine (by_any _ _ c up (abs_mul HA.out HB.out) HC.out H0.out rfl _).mono ?_
    rintro e w2 ⟨rfl, hb2⟩
    go_wp2_with fail
    refine (told_fit _ _).mono ?_
    rintro e w3 ⟨rfl, rfl⟩
    go_wp2
    go_ret2
    have hz := hb1.size
    rw [HN.out.1, HN.out.2]
    exact ⟨rfl, (by repeat (first | (with_reducible exact Below.refl _ _) | (with_reducible refine Below.setCell ?_ (by first | (simp; done) | (simp; omega) | omega) _) | (with_reducible refine Below.alloc ?_ (by first | (simp; done) | (simp; omega) | omega) _) | (with_reducible refine Below.drew ?_) | (with_reducible exact hb2) | (with_reducible exact hb1) | (with_reducible refine Below.trans ?_ (Below.mono hb2 (by first | (simp; done) | (simp; omega) | omega))) | (with_reducible refine Below.trans ?_ (Below.mono hb1 (by first | (simp; done) | (simp; omega) | omega)))))⟩

set_option maxHeartbeats 400000 in
theorem div_ref (a c : Int) (up : Bool) (ha : Fits a) (hc : Fits c) (w : World) :
    Calls Try.prog 24 #[.int .i64 a, .int .i64 c, .bool up] w fun e w' => e = .returned (.tuple #[.int .i64 (divN a c up), .int .i64 (divE a c up)]) ∧ Below w.heap.size w w' := by
  have HA := hid ha
  have HC := hid hc
  clear ha hc
  by_cases h0 : c = 0
  · subst h0
    have HN : Hid (divN a 0 up = 0 ∧ divE a 0 up = 9) := hid (by unfold divN divE; rw [if_pos rfl, if_pos rfl]; exact ⟨rfl, rfl⟩)
    go_enter Try.func24, Try.ntmps24
    go_wp2
    go_ret2
    rw [HN.out.1, HN.out.2]
    exact ⟨rfl, (by repeat (first | (with_reducible exact Below.refl _ _) | (with_reducible refine Below.setCell ?_ (by first | (simp; done) | (simp; omega) | omega) _) | (with_reducible refine Below.alloc ?_ (by first | (simp; done) | (simp; omega) | omega) _) | (with_reducible refine Below.drew ?_)))⟩
  · have HN : Hid (divN a c up = tellN (rdiv a c up) ∧ divE a c up = tellE (rdiv a c up)) := hid (by unfold divN divE; rw [if_neg h0, if_neg h0]; exact ⟨rfl, rfl⟩)
    have H0 := hid h0
    have h1 : (c == 0) = false := by rw [beq_eq_false_iff_ne]; exact h0
    clear h0
    go_enter Try.func24, Try.ntmps24
    go_wp2_with fail
    refine (of_any a HA.out _).mono ?_
    rintro e w1 ⟨rfl, hb1⟩
    go_wp2_with fail
    refine (by_any _ _ c up (by have := HA.out; unfold Fits at this; omega) HC.out H0.out rfl _).mono ?_
    rintro e w2 ⟨rfl, hb2⟩
    go_wp2_with fail
    refine (told_fit _ _).mono ?_
    rintro e w3 ⟨rfl, rfl⟩
    go_wp2
    go_ret2
    have hz := hb1.size
    rw [HN.out.1, HN.out.2]
    exact ⟨rfl, (by repeat (first | (with_reducible exact Below.refl _ _) | (with_reducible refine Below.setCell ?_ (by first | (simp; done) | (simp; omega) | omega) _) | (with_reducible refine Below.alloc ?_ (by first | (simp; done) | (simp; omega) | omega) _) | (with_reducible refine Below.drew ?_) | (with_reducible exact hb2) | (with_reducible exact hb1) | (with_reducible refine Below.trans ?_ (Below.mono hb2 (by first | (simp; done) | (simp; omega) | omega))) | (with_reducible refine Below.trans ?_ (Below.mono hb1 (by first | (simp; done) | (simp; omega) | omega)))))⟩

/-- the answer of Share -/
def shareN (a b : Int) : Int := if a < 0 ∨ b < a then 0 else if b = 0 then 0 else divN (1000 * a) b false
def shareE (a b : Int) : Int := if a < 0 ∨ b < a then 2 else if b = 0 then 0 else divE (1000 * a) b false

set_option maxHeartbeats 800000 in
theorem share_any (a b : Int) (ha : Fits a) (hb : Fits b) (w : World) :
    Calls Try.prog 27 #[.int .i64 a, .int .i64 b] w fun e w' => e = .returned (.tuple #[.int .i64 (shareN a b), .int .i64 (shareE a b)]) ∧ Below w.heap.size w w' := by
  have HA := hid ha
  have HB := hid hb
  clear ha hb
  by_cases h : a < 0 ∨ b < a
  · have HN : Hid (shareN a b = 0 ∧ shareE a b = 2) := hid (by unfold shareN shareE; rw [if_pos h, if_pos h]; exact ⟨rfl, rfl⟩)
    by_cases h1 : a < 0
    · clear h
      go_enter Try.func27, Try.ntmps27
      go_wp2
      go_ret2
      rw [HN.out.1, HN.out.2]
      exact ⟨rfl, (by repeat (first | (with_reducible exact Below.refl _ _) | (with_reducible refine Below.setCell ?_ (by first | (simp; done) | (simp; omega) | omega) _) | (with_reducible refine Below.alloc ?_ (by first | (simp; done) | (simp; omega) | omega) _) | (with_reducible refine Below.drew ?_)))⟩
    · have h2 : b < a := by omega
      have h3 : decide (a < 0) = false := decide_eq_false h1
      clear h h1
      go_enter Try.func27, Try.ntmps27
      go_wp2
      go_ret2
      rw [HN.out.1, HN.out.2]
      exact ⟨rfl, (by repeat (first | (with_reducible exact Below.refl _ _) | (with_reducible refine Below.setCell ?_ (by first | (simp; done) | (simp; omega) | omega) _) | (with_reducible refine Below.alloc ?_ (by first | (simp; done) | (simp; omega) | omega) _) | (with_reducible refine Below.drew ?_)))⟩
  · have h1 : decide (a < 0) = false := decide_eq_false (by omega)
    have h2 : decide (b < a) = false := decide_eq_false (by omega)
    by_cases h3 : b = 0
    · have HN : Hid (shareN a b = 0 ∧ shareE a b = 0) := hid (by unfold shareN shareE; rw [if_neg h, if_neg h, if_pos h3, if_pos h3]; exact ⟨rfl, rfl⟩)
      have h4 : (b == 0) = true := by rw [beq_iff_eq]; exact h3
      clear h h3
      go_enter Try.func27, Try.ntmps27
      go_wp2
      go_ret2
      rw [HN.out.1, HN.out.2]
      exact ⟨rfl, (by repeat (first | (with_reducible exact Below.refl _ _) | (with_reducible refine Below.setCell ?_ (by first | (simp; done) | (simp; omega) | omega) _) | (with_reducible refine Below.alloc ?_ (by first | (simp; done) | (simp; omega) | omega) _) | (with_reducible refine Below.drew ?_)))⟩
    · have HN : Hid (shareN a b = divN (1000 * a) b false ∧ shareE a b = divE (1000 * a) b false) := hid (by unfold shareN shareE; rw [if_neg h, if_neg h, if_neg h3, if_neg h3]; exact ⟨rfl, rfl⟩)
      have h4 : (b == 0) = false := by rw [beq_eq_false_iff_ne]; exact h3
      clear h h3
      go_enter Try.func27, Try.ntmps27
      go_wp2_with fail
      refine (muldiv_any 1000 a b false (by decide) HA.out HB.out _).mono ?_
      rintro e w1 ⟨rfl, hb1⟩
      go_wp2
      go_ret2
      rw [HN.out.1, HN.out.2]
      exact ⟨rfl, (by repeat (first | (with_reducible exact Below.refl _ _) | (with_reducible refine Below.setCell ?_ (by first | (simp; done) | (simp; omega) | omega) _) | (with_reducible refine Below.alloc ?_ (by first | (simp; done) | (simp; omega) | omega) _) | (with_reducible refine Below.drew ?_) | (with_reducible exact hb1) | (with_reducible refine Below.trans ?_ (Below.mono hb1 (by first | (simp; done) | (simp; omega) | omega)))))⟩

set_option maxHeartbeats 800000 in
theorem share_ref (a b : Int) (ha : Fits a) (hb : Fits b) (w : World) :
    Calls Try.prog 28 #[.int .i64 a, .int .i64 b] w fun e w' => e = .returned (.tuple #[.int .i64 (shareN a b), .int .i64 (shareE a b)]) ∧ Below w.heap.size w w' := by
  have HA := hid ha
  have HB := hid hb
  clear ha hb
  by_cases h : a < 0 ∨ b < a
  · have HN : Hid (shareN a b = 0 ∧ shareE a b = 2) := hid (by unfold shareN shareE; rw [if_pos h, if_pos h]; exact ⟨rfl, rfl⟩)
    by_cases h1 : a < 0
    · clear h
      go_enter Try.func28, Try.ntmps28
      go_wp2
      go_ret2
      rw [HN.out.1, HN.out.2]
      exact ⟨rfl, (by repeat (first | (with_reducible exact Below.refl _ _) | (with_reducible refine Below.setCell ?_ (by first | (simp; done) | (simp; omega) | omega) _) | (with_reducible refine Below.alloc ?_ (by first | (simp; done) | (simp; omega) | omega) _) | (with_reducible refine Below.drew ?_)))⟩
    · have h2 : b < a := by omega
      have h3 : decide (a < 0) = false := decide_eq_false h1
      clear h h1
      go_enter Try.func28, Try.ntmps28
      go_wp2
      go_ret2
      rw [HN.out.1, HN.out.2]
      exact ⟨rfl, (by repeat (first | (with_reducible exact Below.refl _ _) | (with_reducible refine Below.setCell ?_ (by first | (simp; done) | (simp; omega) | omega) _) | (with_reducible refine Below.alloc ?_ (by first | (simp; done) | (simp; omega) | omega) _) | (with_reducible refine Below.drew ?_)))⟩
  · have h1 : decide (a < 0) = false := decide_eq_false (by omega)
    have h2 : decide (b < a) = false := decide_eq_false (by omega)
    by_cases h3 : b = 0
    · have HN : Hid (shareN a b = 0 ∧ shareE a b = 0) := hid (by unfold shareN shareE; rw [if_neg h, if_neg h, if_pos h3, if_pos h3]; exact ⟨rfl, rfl⟩)
      have h4 : (b == 0) = true := by rw [beq_iff_eq]; exact h3
      clear h h3
      go_enter Try.func28, Try.ntmps28
      go_wp2
      go_ret2
      rw [HN.out.1, HN.out.2]
      exact ⟨rfl, (by repeat (first | (with_reducible exact Below.refl _ _) | (with_reducible refine Below.setCell ?_ (by first | (simp; done) | (simp; omega) | omega) _) | (with_reducible refine Below.alloc ?_ (by first | (simp; done) | (simp; omega) | omega) _) | (with_reducible refine Below.drew ?_)))⟩
    · have HN : Hid (shareN a b = divN (1000 * a) b false ∧ shareE a b = divE (1000 * a) b false) := hid (by unfold shareN shareE; rw [if_neg h, if_neg h, if_neg h3, if_neg h3]; exact ⟨rfl, rfl⟩)
      have h4 : (b == 0) = false := by rw [beq_eq_false_iff_ne]; exact h3
      clear h h3
      go_enter Try.func28, Try.ntmps28
      go_wp2_with fail
      refine (muldiv_ref 1000 a b false (by decide) HA.out HB.out _).mono ?_
      rintro e w1 ⟨rfl, hb1⟩
      go_wp2
      go_ret2
      rw [HN.out.1, HN.out.2]
      exact ⟨rfl, (by repeat (first | (with_reducible exact Below.refl _ _) | (with_reducible refine Below.setCell ?_ (by first | (simp; done) | (simp; omega) | omega) _) | (with_reducible refine Below.alloc ?_ (by first | (simp; done) | (simp; omega) | omega) _) | (with_reducible refine Below.drew ?_) | (with_reducible exact hb1) | (with_reducible refine Below.trans ?_ (Below.mono hb1 (by first | (simp; done) | (simp; omega) | omega)))))⟩

set_option maxHeartbeats 400000 in
theorem same_any (a e : Int) (w : World) :
    Calls Try.prog 18 #[.int .i64 a, .int .i64 e, .int .i64 a, .int .i64 e] w fun x w' => x = .returned (.bool true) ∧ w = w' := by
  go_enter Try.func18, Try.ntmps18
  go_wp2
  go_ret
  exact ⟨rfl, rfl⟩

set_option maxHeartbeats 400000 in
theorem within_any (n lo hi : Int) (w : World) :
    Calls Try.prog 33 #[.int .i64 n, .int .i64 lo, .int .i64 hi] w fun e w' => e = .returned (.int .i64 (if n < lo then lo else if hi < n then hi else n)) ∧ w = w' := by
  by_cases h1 : n < lo
  · go_enter Try.func33, Try.ntmps33
    go_wp2
    go_ret
    exact ⟨rfl, rfl⟩
  · by_cases h2 : hi < n
    · go_enter Try.func33, Try.ntmps33
      go_wp2
      go_ret
      exact ⟨rfl, rfl⟩
    · go_enter Try.func33, Try.ntmps33
      go_wp2
      go_ret
      exact ⟨rfl, rfl⟩

set_option maxHeartbeats 400000 in
theorem within_ref (n lo hi : Int) (w : World) :
    Calls Try.prog 34 #[.int .i64 n, .int .i64 lo, .int .i64 hi] w fun e w' => e = .returned (.int .i64 (if n < lo then lo else if hi < n then hi else n)) ∧ w = w' := by
  by_cases h1 : n < lo
  · go_enter Try.func34, Try.ntmps34
    go_wp2
    go_ret
    exact ⟨rfl, rfl⟩
  · by_cases h2 : hi < n
    · go_enter Try.func34, Try.ntmps34
      go_wp2
      go_ret
      exact ⟨rfl, rfl⟩
    · go_enter Try.func34, Try.ntmps34
      go_wp2
      go_ret
      exact ⟨rfl, rfl⟩

end Go.Proofs.Ytloedjegmklblaa.LawA
