/- Contracts of the document's own wide numbers: small, plus. -/
import Derived.Test.YtoilakjlnflpbaaRefA
namespace Go.Proofs.Ytoilakjlnflpbaa.RefB
open Go.ChangeShapes Go.WideShapes Go.ChangeAt Go.RowKit Base NumM NumA RefA

set_option maxHeartbeats 1000000 in
theorem small_core (b : Bool) (h l r : Int) (ok : Bool) (w : World)
    (H : (decide (0 < h) = true ∧ ok = false ∧ r = 0) ∨ (decide (0 < h) = false ∧ decide (9223372036854775808 < l) = true ∧ ok = false ∧ r = 0) ∨
      (decide (0 < h) = false ∧ decide (9223372036854775808 < l) = false ∧ (l == 9223372036854775808) = true ∧ b = false ∧ ok = false ∧ r = 0) ∨
      (decide (0 < h) = false ∧ decide (9223372036854775808 < l) = false ∧ b = true ∧ ok = true ∧ wrap64 (IntKind.u64.wrap (-l)) = r) ∨
      (decide (0 < h) = false ∧ decide (9223372036854775808 < l) = false ∧ (l == 9223372036854775808) = false ∧ b = false ∧ ok = true ∧ wrap64 l = r)) :
    Calls Try.prog 83 #[.agg #[.bool b, .int .u64 h, .int .u64 l]] w fun e w' => e = .returned (.tuple #[.int .i64 r, .bool ok]) ∧ Below w.heap.size w w' := by
  rcases H with ⟨h1, rfl, rfl⟩ | ⟨h1, h2, rfl, rfl⟩ | ⟨h1, h2, h3, rfl, rfl, rfl⟩ | ⟨h1, h2, rfl, rfl, rfl⟩ | ⟨h1, h2, h3, rfl, rfl, rfl⟩
  · go_enter Try.func83, Try.ntmps83
    go_wp2
    go_ret2
    exact ⟨rfl, (by repeat (first | (with_reducible exact Below.refl _ _) | (with_reducible refine Below.setCell ?_ (by first | (simp; done) | (simp; omega) | omega) _) | (with_reducible refine Below.alloc ?_ (by first | (simp; done) | (simp; omega) | omega) _) | (with_reducible refine Below.drew ?_)))⟩
  · go_enter Try.func83, Try.ntmps83
    go_wp2
    go_ret2
    exact ⟨rfl, (by repeat (first | (with_reducible exact Below.refl _ _) | (with_reducible refine Below.setCell ?_ (by first | (simp; done) | (simp; omega) | omega) _) | (with_reducible refine Below.alloc ?_ (by first | (simp; done) | (simp; omega) | omega) _) | (with_reducible refine Below.drew ?_)))⟩
  · go_enter Try.func83, Try.ntmps83
    go_wp2
    go_ret2
    exact ⟨rfl, (by repeat (first | (with_reducible exact Below.refl _ _) | (with_reducible refine Below.setCell ?_ (by first | (simp; done) | (simp; omega) | omega) _) | (with_reducible refine Below.alloc ?_ (by first | (simp; done) | (simp; omega) | omega) _) | (with_reducible refine Below.drew ?_)))⟩
  · by_cases h3 : (l == 9223372036854775808) = true
    · go_enter Try.func83, Try.ntmps83
      go_wp2
      go_ret2
      exact ⟨rfl, (by repeat (first | (with_reducible exact Below.refl _ _) | (with_reducible refine Below.setCell ?_ (by first | (simp; done) | (simp; omega) | omega) _) | (with_reducible refine Below.alloc ?_ (by first | (simp; done) | (simp; omega) | omega) _) | (with_reducible refine Below.drew ?_)))⟩
    · have h4 : (l == 9223372036854775808) = false := by simpa using h3
      clear h3
      go_enter Try.func83, Try.ntmps83
      go_wp2
      go_ret2
      exact ⟨rfl, (by repeat (first | (with_reducible exact Below.refl _ _) | (with_reducible refine Below.setCell ?_ (by first | (simp; done) | (simp; omega) | omega) _) | (with_reducible refine Below.alloc ?_ (by first | (simp; done) | (simp; omega) | omega) _) | (with_reducible refine Below.drew ?_)))⟩
  · go_enter Try.func83, Try.ntmps83
    go_wp2
    go_ret2
    exact ⟨rfl, (by repeat (first | (with_reducible exact Below.refl _ _) | (with_reducible refine Below.setCell ?_ (by first | (simp; done) | (simp; omega) | omega) _) | (with_reducible refine Below.alloc ?_ (by first | (simp; done) | (simp; omega) | omega) _) | (with_reducible refine Below.drew ?_)))⟩

theorem small_any (b : Bool) (m : Nat) {v : Value} (hv : v = S b m) (w : World) :
    Calls Try.prog 83 #[v] w fun e w' => e = .returned (.tuple #[.int .i64 (tellN (sgn b m)), .bool (fitsB (sgn b m))]) ∧ Below w.heap.size w w' := by
  subst hv
  refine small_core b (hiM m) (loM m) _ _ w ?_
  unfold tellN fitsB hiM loM sgn Fits
  by_cases h1 : 18446744073709551616 ≤ m
  · left
    cases b <;> simp <;> omega
  · by_cases h2 : 9223372036854775808 < m
    · right; left
      cases b <;> simp <;> omega
    · cases b
      · by_cases h3 : m = 9223372036854775808
        · subst h3
          right; right; left; decide
        · right; right; right; right
          refine ⟨?_, ?_, ?_, rfl, ?_, ?_⟩
          · rw [decide_eq_false_iff_not]; omega
          · rw [decide_eq_false_iff_not]; omega
          · rw [beq_eq_false_iff_ne]; omega
          · exact decide_eq_true (by simp only [Bool.false_eq_true, if_false]; omega)
          · simp only [Bool.false_eq_true, if_false]
            rw [if_pos ⟨by omega, by omega⟩]
            unfold wrap64
            omega
      · right; right; right; left
        refine ⟨?_, ?_, rfl, ?_, ?_⟩
        · rw [decide_eq_false_iff_not]; omega
        · rw [decide_eq_false_iff_not]; omega
        · exact decide_eq_true (by simp only [if_true]; omega)
        · simp only [if_true]
          rw [if_pos ⟨by omega, by omega⟩]
          unfold wrap64
          rw [IntKind.wrap_u64]
          omega

/-- the sum of two, as the document's own numbers have it -/
def plusB (b : Bool) (m : Nat) (b' : Bool) (m' : Nat) : Bool := if b = b' then b else if m < m' then b' && decide (0 < m' - m) else b && decide (0 < m - m')
def plusN (b : Bool) (m : Nat) (b' : Bool) (m' : Nat) : Nat := if b = b' then m + m' else if m < m' then m' - m else m - m'

theorem plus_sgn (b : Bool) (m : Nat) (b' : Bool) (m' : Nat) : sgn (plusB b m b' m') (plusN b m b' m') = sgn b m + sgn b' m' := by
  unfold plusB plusN sgn
  cases b <;> cases b' <;> simp <;> (try split) <;> (try simp) <;> (try split) <;> omega

set_option maxHeartbeats 1000000 in
theorem plus_same (b : Bool) (h1 l1 h2 l2 s c t d : Int) (w : World)
    (f1 : ∀ w, (callFunc 94 #[.int .u64 l1, .int .u64 l2, .int .u64 0]).run Try.prog w = .ok (.value (.tuple #[.int .u64 s, .int .u64 c])) w)
    (f2 : ∀ w, (callFunc 94 #[.int .u64 h1, .int .u64 h2, .int .u64 c]).run Try.prog w = .ok (.value (.tuple #[.int .u64 t, .int .u64 d])) w) :
    Calls Try.prog 81 #[.agg #[.bool b, .int .u64 h1, .int .u64 l1], .agg #[.bool b, .int .u64 h2, .int .u64 l2]] w fun e w' => e = .returned (.agg #[.bool b, .int .u64 t, .int .u64 s]) ∧ Below w.heap.size w w' := by
  go_enter Try.func81, Try.ntmps81
  go_wp2
  exact bodyPost_ret (v := .agg #[.bool b, .int .u64 t, .int .u64 s]) (by simp [results, Try.results81, go_sem]) rfl ⟨rfl, (by repeat (first | (with_reducible exact Below.refl _ _) | (with_reducible refine Below.setCell ?_ (by first | (simp; done) | (simp; omega) | omega) _) | (with_reducible refine Below.alloc ?_ (by first | (simp; done) | (simp; omega) | omega) _) | (with_reducible refine Below.drew ?_)))⟩

set_option maxHeartbeats 1000000 in
theorem plus_less (b b' : Bool) (h1 l1 h2 l2 s c t d : Int) (z : Bool) (w : World) (hb : (b == b') = false)
    (hc : (decide (h1 < h2) = true) ∨ (decide (h1 < h2) = false ∧ (h1 == h2) = true ∧ decide (l1 < l2) = true))
    (f1 : ∀ w, (callFunc 95 #[.int .u64 l2, .int .u64 l1, .int .u64 0]).run Try.prog w = .ok (.value (.tuple #[.int .u64 s, .int .u64 c])) w)
    (f2 : ∀ w, (callFunc 95 #[.int .u64 h2, .int .u64 h1, .int .u64 c]).run Try.prog w = .ok (.value (.tuple #[.int .u64 t, .int .u64 d])) w)
    (hz : (b' = false ∧ z = false) ∨ (b' = true ∧ decide (0 < t) = true ∧ z = true) ∨ (b' = true ∧ decide (0 < t) = false ∧ decide (0 < s) = z)) :
    Calls Try.prog 81 #[.agg #[.bool b, .int .u64 h1, .int .u64 l1], .agg #[.bool b', .int .u64 h2, .int .u64 l2]] w fun e w' => e = .returned (.agg #[.bool z, .int .u64 t, .int .u64 s]) ∧ Below w.heap.size w w' := by
  rcases hc with hc | ⟨hc, hc2, hc3⟩ <;> rcases hz with ⟨rfl, rfl⟩ | ⟨rfl, hz, rfl⟩ | ⟨rfl, hz, rfl⟩ <;>
  · go_enter Try.func81, Try.ntmps81
    go_wp2
    refine bodyPost_ret (v := .agg #[.bool _, .int .u64 t, .int .u64 s]) (by simp [results, Try.results81, go_sem]) rfl ⟨rfl, ?_⟩
    exact (by repeat (first | (with_reducible exact Below.refl _ _) | (with_reducible refine Below.setCell ?_ (by first | (simp; done) | (simp; omega) | omega) _) | (with_reducible refine Below.alloc ?_ (by first | (simp; done) | (simp; omega) | omega) _) | (with_reducible refine Below.drew ?_)))

set_option maxHeartbeats 1000000 in
theorem plus_more (b b' : Bool) (h1 l1 h2 l2 s c t d : Int) (z : Bool) (w : World) (hb : (b == b') = false)
    (hc : (decide (h1 < h2) = false ∧ (h1 == h2) = false) ∨ (decide (h1 < h2) = false ∧ (h1 == h2) = true ∧ decide (l1 < l2) = false))
    (f1 : ∀ w, (callFunc 95 #[.int .u64 l1, .int .u64 l2, .int .u64 0]).run Try.prog w = .ok (.value (.tuple #[.int .u64 s, .int .u64 c])) w)
    (f2 : ∀ w, (callFunc 95 #[.int .u64 h1, .int .u64 h2, .int .u64 c]).run Try.prog w = .ok (.value (.tuple #[.int .u64 t, .int .u64 d])) w)
    (hz : (b = false ∧ z = false) ∨ (b = true ∧ decide (0 < t) = true ∧ z = true) ∨ (b = true ∧ decide (0 < t) = false ∧ decide (0 < s) = z)) :
    Calls Try.prog 81 #[.agg #[.bool b, .int .u64 h1, .int .u64 l1], .agg #[.bool b', .int .u64 h2, .int .u64 l2]] w fun e w' => e = .returned (.agg #[.bool z, .int .u64 t, .int .u64 s]) ∧ Below w.heap.size w w' := by
  rcases hc with ⟨hc, hc2⟩ | ⟨hc, hc2, hc3⟩ <;> rcases hz with ⟨rfl, rfl⟩ | ⟨rfl, hz, rfl⟩ | ⟨rfl, hz, rfl⟩ <;>
  · go_enter Try.func81, Try.ntmps81
    go_wp2
    refine bodyPost_ret (v := .agg #[.bool _, .int .u64 t, .int .u64 s]) (by simp [results, Try.results81, go_sem]) rfl ⟨rfl, ?_⟩
    exact (by repeat (first | (with_reducible exact Below.refl _ _) | (with_reducible refine Below.setCell ?_ (by first | (simp; done) | (simp; omega) | omega) _) | (with_reducible refine Below.alloc ?_ (by first | (simp; done) | (simp; omega) | omega) _) | (with_reducible refine Below.drew ?_)))

theorem neq_beq {b b' : Bool} (h : ¬ b = b') : (b == b') = false := by cases b <;> cases b' <;> simp_all

theorem plus_ref (b : Bool) (m : Nat) (b' : Bool) (m' : Nat) (hm : m + m' < 340282366920938463463374607431768211456) {v v' : Value} (hv : v = S b m) (hv' : v' = S b' m') (w : World) :
    Calls Try.prog 81 #[v, v'] w fun e w' => e = .returned (S (plusB b m b' m') (plusN b m b' m')) ∧ Below w.heap.size w w' := by
  subst hv hv'
  unfold plusB plusN S
  by_cases hb : b = b'
  · subst hb
    rw [if_pos rfl, if_pos rfl]
    refine (plus_same b (hiM m) (loM m) (hiM m') (loM m') (cs (loM m) (loM m') 0) (cc (loM m) (loM m') 0) _ _ w (fun w => call_add64 _ _ _ (by omega) (by omega) (by omega) (by omega) w) (fun w => call_add64 _ _ _ (by omega) (by omega) ?_ ?_ w)).mono ?_
    · unfold cc loM; omega
    · unfold cc loM; omega
    · rintro e w' ⟨rfl, hbl⟩
      refine ⟨?_, hbl⟩
      have e1 : (hiM (m + m') : Int) = cs (hiM m) (hiM m') (cc (loM m) (loM m') 0) := by unfold hiM loM cs cc; omega
      have e2 : (loM (m + m') : Int) = cs (loM m) (loM m') 0 := by unfold loM cs; omega
      rw [e1, e2]
  · rw [if_neg hb, if_neg hb]
    by_cases hlt : m < m'
    · rw [if_pos hlt, if_pos hlt]
      refine (plus_less b b' (hiM m) (loM m) (hiM m') (loM m') _ _ _ _ (b' && decide (0 < m' - m)) w (neq_beq hb) ?_ (fun w => call_sub64 (loM m') (loM m) 0 (by omega) w) (fun w => call_sub64 (hiM m') (hiM m) (if loM m' < loM m + 0 then 1 else 0) (by split <;> omega) w) ?_).mono ?_
      · by_cases h1 : hiM m < hiM m'
        · left; exact decide_eq_true (by omega)
        · right
          unfold hiM loM at *
          exact ⟨decide_eq_false (by omega), by rw [beq_iff_eq]; omega, decide_eq_true (by omega)⟩
      · cases b'
        · left; exact ⟨rfl, rfl⟩
        · right
          by_cases ht : 0 < hiM (m' - m)
          · left
            refine ⟨rfl, decide_eq_true ?_, ?_⟩
            · unfold hiM loM at *; split <;> omega
            · rw [Bool.true_and]; exact decide_eq_true (by unfold hiM at ht; omega)
          · right
            refine ⟨rfl, decide_eq_false ?_, ?_⟩
            · unfold hiM loM at *; split <;> omega
            · rw [Bool.true_and, decide_eq_decide]; unfold hiM loM at *; omega
      · rintro e w' ⟨rfl, hbl⟩
        refine ⟨?_, hbl⟩
        have e1 : hiM (m' - m) = (hiM m' + 18446744073709551616 - hiM m - (if loM m' < loM m + 0 then 1 else 0)) % 18446744073709551616 := by unfold hiM loM; split <;> omega
        have e2 : loM (m' - m) = (loM m' + 18446744073709551616 - loM m - 0) % 18446744073709551616 := by unfold loM; omega
        rw [e1, e2]
    · rw [if_neg hlt, if_neg hlt]
      refine (plus_more b b' (hiM m) (loM m) (hiM m') (loM m') _ _ _ _ (b && decide (0 < m - m')) w (neq_beq hb) ?_ (fun w => call_sub64 (loM m) (loM m') 0 (by omega) w) (fun w => call_sub64 (hiM m) (hiM m') (if loM m < loM m' + 0 then 1 else 0) (by split <;> omega) w) ?_).mono ?_
      · unfold hiM loM at *
        by_cases h1 : m / 18446744073709551616 = m' / 18446744073709551616
        · right; exact ⟨decide_eq_false (by omega), by rw [beq_iff_eq]; omega, decide_eq_false (by omega)⟩
        · left; exact ⟨decide_eq_false (by omega), by rw [beq_eq_false_iff_ne]; omega⟩
      · cases b
        · left; exact ⟨rfl, rfl⟩
        · right
          by_cases ht : 0 < hiM (m - m')
          · left
            refine ⟨rfl, decide_eq_true ?_, ?_⟩
            · unfold hiM loM at *; split <;> omega
            · rw [Bool.true_and]; exact decide_eq_true (by unfold hiM at ht; omega)
          · right
            refine ⟨rfl, decide_eq_false ?_, ?_⟩
            · unfold hiM loM at *; split <;> omega
            · rw [Bool.true_and, decide_eq_decide]; unfold hiM loM at *; omega
      · rintro e w' ⟨rfl, hbl⟩
        refine ⟨?_, hbl⟩
        have e1 : hiM (m - m') = (hiM m + 18446744073709551616 - hiM m' - (if loM m < loM m' + 0 then 1 else 0)) % 18446744073709551616 := by unfold hiM loM; split <;> omega
        have e2 : loM (m - m') = (loM m + 18446744073709551616 - loM m' - 0) % 18446744073709551616 := by unfold loM; omega
        rw [e1, e2]

end Go.Proofs.Ytoilakjlnflpbaa.RefB
