/- The walk of NumRounds: it returns true for every three numbers. -/
import Derived.Test.YtloedjegmklblaaLawB
namespace Go.Proofs.Ytloedjegmklblaa.LawD
open Go.ChangeShapes Go.WideShapes Go.ChangeAt Go.RowKit Base NumM NumA NumB NumC NumD NumE RefA RefB RefC RefD RefE LawA LawB DivB

theorem rdiv_one (n : Int) (up : Bool) : rdiv n 1 up = n := by
  unfold rdiv mend neg
  have h1 : (1 : Int).natAbs = 1 := rfl
  rw [h1, Nat.div_one, Nat.mod_one]
  by_cases h : n < 0 <;> simp [h] <;> omega

theorem rdiv_steps (n c : Int) (_h0 : c ≠ 0) : rdiv n c false ≤ rdiv n c true ∧ rdiv n c true ≤ rdiv n c false + 1 := by
  unfold rdiv mend
  generalize n.natAbs / c.natAbs = q
  generalize decide (n.natAbs % c.natAbs = 0) = ex
  generalize (neg n != neg c) = g
  cases ex <;> cases g <;> simp <;> omega

theorem rdiv_exact (n c : Int) (_h0 : c ≠ 0) (h : rdiv n c false = rdiv n c true) : rdiv n c false * c = n := by
  have hx : n.natAbs % c.natAbs = 0 := by
    unfold rdiv mend at h
    by_cases hr : n.natAbs % c.natAbs = 0
    · exact hr
    · exfalso
      rw [decide_eq_false hr] at h
      generalize (neg n != neg c) = g at *
      cases g <;> simp at h <;> omega
  have hm : n.natAbs / c.natAbs * c.natAbs = n.natAbs := Nat.div_mul_cancel (Nat.dvd_of_mod_eq_zero hx)
  unfold rdiv mend
  rw [decide_eq_true hx]
  have e : ((n.natAbs / c.natAbs * c.natAbs : Nat) : Int) = ((n.natAbs / c.natAbs : Nat) : Int) * (c.natAbs : Int) := Int.natCast_mul _ _
  rw [hm] at e
  generalize ((n.natAbs / c.natAbs : Nat) : Int) = q at *
  unfold neg
  have hc : (c.natAbs : Int) = if c < 0 then -c else c := by split <;> omega
  have hn : (n.natAbs : Int) = if n < 0 then -n else n := by split <;> omega
  by_cases h1 : n < 0 <;> by_cases h2 : c < 0 <;> simp [h1, h2] at hc hn ⊢ <;> rw [hc, hn] at e
  · rw [Int.mul_neg] at e; omega
  · rw [Int.neg_mul]; omega
  · rw [Int.neg_mul]; rw [Int.mul_neg] at e; omega
  · omega

theorem keep_of {n : Int} (h : Fits n) : keep n = n := by unfold keep; rw [if_pos h]

/-- what NumRounds asks of its numbers, case by case -/
theorem rounds_cases (a b c : Int) :
    ((divE (a * b) c false == 0) = false) ∨ ((divE (a * b) c false == 0) = true ∧ (divE (a * b) c true == 0) = false) ∨
    ((divE (a * b) c false == 0) = true ∧ (divE (a * b) c true == 0) = true ∧ decide (divN (a * b) c true < divN (a * b) c false) = false ∧ decide (1 < divN (a * b) c true - divN (a * b) c false) = false ∧ wrap64 (divN (a * b) c true - divN (a * b) c false) = divN (a * b) c true - divN (a * b) c false ∧
      ((divN (a * b) c false == divN (a * b) c true) = false ∨ ((divN (a * b) c false == divN (a * b) c true) = true ∧ ((tellE (a * b) == 0) = false ∨ ((tellE (a * b) == 0) = true ∧ keep (divN (a * b) c false * c) = tellN (a * b)))))) := by
  by_cases h1 : divE (a * b) c false = 0
  · by_cases h2 : divE (a * b) c true = 0
    · right; right
      have h0 : c ≠ 0 := by
        intro h; subst h; unfold divE at h1; rw [if_pos rfl] at h1; omega
      have f1 : Fits (rdiv (a * b) c false) := by
        unfold divE tellE at h1; rw [if_neg h0] at h1
        by_cases h : Fits (rdiv (a * b) c false)
        · exact h
        · rw [if_neg h] at h1; omega
      have f2 : Fits (rdiv (a * b) c true) := by
        unfold divE tellE at h2; rw [if_neg h0] at h2
        by_cases h : Fits (rdiv (a * b) c true)
        · exact h
        · rw [if_neg h] at h2; omega
      have e1 : divN (a * b) c false = rdiv (a * b) c false := by unfold divN tellN; rw [if_neg h0, if_pos f1]
      have e2 : divN (a * b) c true = rdiv (a * b) c true := by unfold divN tellN; rw [if_neg h0, if_pos f2]
      have st := rdiv_steps (a * b) c h0
      rw [e1, e2]
      refine ⟨by rw [h1]; rfl, by rw [h2]; rfl, decide_eq_false (by omega), decide_eq_false (by omega), ?_, ?_⟩
      · unfold wrap64; omega
      · by_cases h3 : rdiv (a * b) c false = rdiv (a * b) c true
        · right
          refine ⟨by rw [beq_iff_eq]; exact h3, ?_⟩
          by_cases h4 : Fits (a * b)
          · right
            refine ⟨by unfold tellE; rw [if_pos h4]; rfl, ?_⟩
            rw [rdiv_exact _ _ h0 h3, keep_of h4]
            unfold tellN; rw [if_pos h4]
          · left; unfold tellE; rw [if_neg h4]; rfl
        · left; rw [beq_eq_false_iff_ne]; exact h3
    · right; left
      exact ⟨by rw [h1]; rfl, by rw [beq_eq_false_iff_ne]; exact h2⟩
  · left; rw [beq_eq_false_iff_ne]; exact h1

set_option maxRecDepth 20000 in
set_option maxHeartbeats 2000000 in
theorem rounds_core (a b c lo hi e f back g k p q : Int) (w : World)
    (H1 : Hid (∀ w, Calls Try.prog 25 #[.int .i64 a, .int .i64 b, .int .i64 c, .bool false] w fun x w' => x = .returned (.tuple #[.int .i64 lo, .int .i64 e]) ∧ Below w.heap.size w w'))
    (H2 : Hid (∀ w, Calls Try.prog 25 #[.int .i64 a, .int .i64 b, .int .i64 c, .bool true] w fun x w' => x = .returned (.tuple #[.int .i64 hi, .int .i64 f]) ∧ Below w.heap.size w w'))
    (H3 : Hid (∀ w up, Calls Try.prog 25 #[.int .i64 a, .int .i64 b, .int .i64 1, .bool up] w fun x w' => x = .returned (.tuple #[.int .i64 back, .int .i64 g]) ∧ Below w.heap.size w w'))
    (H4 : Hid ((e == 0) = true → ∀ w, Calls Try.prog 36 #[.int .i64 lo, .int .i64 c] w fun x w' => x = .returned (.int .i64 k) ∧ Below w.heap.size w w'))
    (H5 : Hid (∀ w, Calls Try.prog 21 #[.int .i64 a, .int .i64 b] w fun x w' => x = .returned (.tuple #[.int .i64 back, .int .i64 g]) ∧ Below w.heap.size w w'))
    (H6 : Hid (∀ w, Calls Try.prog 25 #[.int .i64 a, .int .i64 1, .int .i64 c, .bool false] w fun x w' => x = .returned (.tuple #[.int .i64 p, .int .i64 q]) ∧ Below w.heap.size w w'))
    (H7 : Hid (∀ w, Calls Try.prog 23 #[.int .i64 a, .int .i64 c, .bool false] w fun x w' => x = .returned (.tuple #[.int .i64 p, .int .i64 q]) ∧ Below w.heap.size w w'))
    (HC : ((e == 0) = false) ∨ ((e == 0) = true ∧ (f == 0) = false) ∨
      ((e == 0) = true ∧ (f == 0) = true ∧ decide (hi < lo) = false ∧ decide (1 < hi - lo) = false ∧ wrap64 (hi - lo) = hi - lo ∧
        ((lo == hi) = false ∨ ((lo == hi) = true ∧ ((g == 0) = false ∨ ((g == 0) = true ∧ k = back)))))) :
    Calls Try.prog 7 #[.int .i64 a, .int .i64 b, .int .i64 c] w fun x w' => x = .returned (.bool true) ∧ Below w.heap.size w w' := by
  rcases HC with c1 | ⟨c1, c2⟩ | ⟨c1, c2, c3, c4, c5, c6⟩
  rotate_left 2
  · have H4' := hid (H4.out c1)
    clear H4
    rcases c6 with c6 | ⟨c6, c7 | ⟨c7, rfl⟩⟩
    all_goals
      go_enter Try.func7, Try.ntmps7
      go_wp2_with fail
      refine (H1.out _).mono ?_
      rintro x w1 ⟨rfl, hb1⟩
      go_wp2_with fail
      refine (H2.out _).mono ?_
      rintro x w2 ⟨rfl, hb2⟩
      go_wp2_with fail
      refine (H3.out _ _).mono ?_
      rintro x w3 ⟨rfl, hb3⟩
      go_wp2_with (go_at_call 36; refine (H4'.out _).mono ?_; rintro x w4 ⟨rfl, hb4⟩; have z4 := hb4.size) 
      refine (H3.out _ _).mono ?_
      rintro x w5 ⟨rfl, hb5⟩
      go_wp2_with fail
      refine (H5.out _).mono ?_
      rintro x w6 ⟨rfl, hb6⟩
      go_wp2_with fail
      refine (H6.out _).mono ?_
      rintro x w7 ⟨rfl, hb7⟩
      go_wp2_with fail
      refine (H7.out _).mono ?_
      rintro x w8 ⟨rfl, hb8⟩
      go_wp2_with fail
      refine (live_any _).mono ?_
      rintro x w9 ⟨rfl, hb9⟩
      go_wp2_with (go_at_call 18; refine (same_any _ _ _).mono ?_; rintro x wx ⟨rfl, rfl⟩)
      go_ret
      have z1 := hb1.size; have z2 := hb2.size; have z3 := hb3.size; have z5 := hb5.size; have z6 := hb6.size; have z7 := hb7.size; have z8 := hb8.size
      exact ⟨rfl, (by repeat (first | (with_reducible exact Below.refl _ _) | (with_reducible refine Below.setCell ?_ (by first | (simp; done) | (simp; omega) | omega) _) | (with_reducible refine Below.alloc ?_ (by first | (simp; done) | (simp; omega) | omega) _) | (with_reducible refine Below.drew ?_) | (with_reducible exact hb9) | (with_reducible exact hb8) | (with_reducible exact hb7) | (with_reducible exact hb6) | (with_reducible exact hb5) | (with_reducible exact hb4) | (with_reducible exact hb3) | (with_reducible exact hb2) | (with_reducible exact hb1) | (with_reducible refine Below.trans ?_ (Below.mono hb9 (by first | (simp; done) | (simp; omega) | omega))) | (with_reducible refine Below.trans ?_ (Below.mono hb8 (by first | (simp; done) | (simp; omega) | omega))) | (with_reducible refine Below.trans ?_ (Below.mono hb7 (by first | (simp; done) | (simp; omega) | omega))) | (with_reducible refine Below.trans ?_ (Below.mono hb6 (by first | (simp; done) | (simp; omega) | omega))) | (with_reducible refine Below.trans ?_ (Below.mono hb5 (by first | (simp; done) | (simp; omega) | omega))) | (with_reducible refine Below.trans ?_ (Below.mono hb4 (by first | (simp; done) | (simp; omega) | omega))) | (with_reducible refine Below.trans ?_ (Below.mono hb3 (by first | (simp; done) | (simp; omega) | omega))) | (with_reducible refine Below.trans ?_ (Below.mono hb2 (by first | (simp; done) | (simp; omega) | omega))) | (with_reducible refine Below.trans ?_ (Below.mono hb1 (by first | (simp; done) | (simp; omega) | omega)))))⟩
  all_goals
    clear H4
    go_enter Try.func7, Try.ntmps7
    go_wp2_with fail
    refine (H1.out _).mono ?_
    rintro x w1 ⟨rfl, hb1⟩
    go_wp2_with fail
    refine (H2.out _).mono ?_
    rintro x w2 ⟨rfl, hb2⟩
    go_wp2_with fail
    refine (H3.out _ _).mono ?_
    rintro x w5 ⟨rfl, hb5⟩
    go_wp2_with fail
    refine (H5.out _).mono ?_
    rintro x w6 ⟨rfl, hb6⟩
    go_wp2_with fail
    refine (H6.out _).mono ?_
    rintro x w7 ⟨rfl, hb7⟩
    go_wp2_with fail
    refine (H7.out _).mono ?_
    rintro x w8 ⟨rfl, hb8⟩
    go_wp2_with fail
    refine (live_any _).mono ?_
    rintro x w9 ⟨rfl, hb9⟩
    go_wp2_with (go_at_call 18; refine (same_any _ _ _).mono ?_; rintro x wx ⟨rfl, rfl⟩)
    go_ret
    have z1 := hb1.size; have z2 := hb2.size; have z5 := hb5.size; have z6 := hb6.size; have z7 := hb7.size; have z8 := hb8.size
    exact ⟨rfl, (by repeat (first | (with_reducible exact Below.refl _ _) | (with_reducible refine Below.setCell ?_ (by first | (simp; done) | (simp; omega) | omega) _) | (with_reducible refine Below.alloc ?_ (by first | (simp; done) | (simp; omega) | omega) _) | (with_reducible refine Below.drew ?_) | (with_reducible exact hb9) | (with_reducible exact hb8) | (with_reducible exact hb7) | (with_reducible exact hb6) | (with_reducible exact hb5) | (with_reducible exact hb2) | (with_reducible exact hb1) | (with_reducible refine Below.trans ?_ (Below.mono hb9 (by first | (simp; done) | (simp; omega) | omega))) | (with_reducible refine Below.trans ?_ (Below.mono hb8 (by first | (simp; done) | (simp; omega) | omega))) | (with_reducible refine Below.trans ?_ (Below.mono hb7 (by first | (simp; done) | (simp; omega) | omega))) | (with_reducible refine Below.trans ?_ (Below.mono hb6 (by first | (simp; done) | (simp; omega) | omega))) | (with_reducible refine Below.trans ?_ (Below.mono hb5 (by first | (simp; done) | (simp; omega) | omega))) | (with_reducible refine Below.trans ?_ (Below.mono hb2 (by first | (simp; done) | (simp; omega) | omega))) | (with_reducible refine Below.trans ?_ (Below.mono hb1 (by first | (simp; done) | (simp; omega) | omega)))))⟩

theorem divN_fits (n c : Int) (up : Bool) : Fits (divN n c up) := by
  unfold divN tellN
  by_cases h : c = 0
  · rw [if_pos h]; decide
  · rw [if_neg h]
    by_cases h2 : Fits (rdiv n c up)
    · rw [if_pos h2]; exact h2
    · rw [if_neg h2]; decide

theorem roundsAll (a b c : Int) (w0 : (Lit.int .i64 a).wf = true) (w1 : (Lit.int .i64 b).wf = true) (w2 : (Lit.int .i64 c).wf = true) (w : World) :
    Calls Try.prog 7 #[.int .i64 a, .int .i64 b, .int .i64 c] w fun x w' => x = .returned (.bool true) ∧ Below w.heap.size w w' := by
  have ha : Fits a := Go.bounds_i64 w0
  have hb : Fits b := Go.bounds_i64 w1
  have hc : Fits c := Go.bounds_i64 w2
  have e1 : ∀ up, divN (a * b) 1 up = tellN (a * b) := fun up => by unfold divN; rw [if_neg (by decide), rdiv_one]
  have e2 : ∀ up, divE (a * b) 1 up = tellE (a * b) := fun up => by unfold divE; rw [if_neg (by decide), rdiv_one]
  refine rounds_core a b c (divN (a * b) c false) (divN (a * b) c true) (divE (a * b) c false) (divE (a * b) c true) (tellN (a * b)) (tellE (a * b)) (keep (divN (a * b) c false * c)) (divN a c false) (divE a c false) w
    (hid fun w => muldiv_any a b c false ha hb hc w) (hid fun w => muldiv_any a b c true ha hb hc w) (hid fun w up => ?_) (hid fun _ w => times_ref _ _ (divN_fits _ _ _) hc w) (hid fun w => mul_any a b ha hb w) (hid fun w => ?_) (hid fun w => div_any a c false ha hc w) (rounds_cases a b c)
  · have h := muldiv_any a b 1 up ha hb (by decide) w
    rw [e1, e2] at h
    exact h
  · have h := muldiv_any a 1 c false ha (by decide) hc w
    rw [Int.mul_one] at h
    exact h

end Go.Proofs.Ytloedjegmklblaa.LawD
