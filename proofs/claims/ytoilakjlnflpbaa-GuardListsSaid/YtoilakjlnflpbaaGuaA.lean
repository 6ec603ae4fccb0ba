/- How many may be in flight, and what is too many: by the program and by the document. -/
import Derived.Test.YtoilakjlnflpbaaLawA
import Derived.Test.YtoilakjlnflpbaaRulA
namespace Go.Proofs.Ytoilakjlnflpbaa.GuaA
open Go.ChangeShapes Go.WideShapes Go.ChangeAt Go.RowKit Base NumM NumE RulA
set_option linter.unusedVariables false

def upN (n : Int) : Int := max n 0
theorem upN_neg {n : Int} (h : n < 0) : upN n = 0 := by unfold upN; omega
theorem upN_pos {n : Int} (h : ¬ n < 0) : upN n = n := by unfold upN; omega
def qN (m l : Int) : Int := divN (upN m * upN l) 100000 false
def qE (m l : Int) : Int := divE (upN m * upN l) 100000 false
def roomV (m l : Int) : Int := if qE m l = 0 then qN m l else 9223372036854775807
def manyV (t m l : Int) : Bool := decide (1 < t) && decide (qE m l = 0) && decide (qN m l < t)
def capV (m l : Int) : Int := if roomV m l < 1 then 1 else if 4611686018427387904 < roomV m l then 4611686018427387904 else roomV m l
theorem upN_fits {n : Int} (h : Fits n) : Fits (upN n) := by unfold upN Fits at *; omega

set_option maxHeartbeats 1000000 in
theorem room_core (m l q e r : Int) (hr : (e = 0 ∧ r = q) ∨ (e ≠ 0 ∧ r = 9223372036854775807))
    (w : World) (H : Hid (∀ w, Calls Try.prog 60 #[.int .i64 (max m 0), .int .i64 (max l 0), .int .i64 100000, .bool false] w fun x w' => x = .returned (.tuple #[.int .i64 q, .int .i64 e]) ∧ Below w.heap.size w w')) :
    Calls Try.prog 38 #[.int .i64 m, .int .i64 l] w fun x w' => x = .returned (.int .i64 r) ∧ Below w.heap.size w w' := by
  go_enter Try.func38, Try.ntmps38
  go_wp2_with fail
  refine (H.out _).mono ?_
  rintro x w1 ⟨rfl, hb⟩
  have HB := hid hb
  clear hb
  rcases hr with ⟨rfl, rfl⟩ | ⟨hr, rfl⟩
  · go_wp2_with fail
    go_ret
    exact ⟨rfl, HB.out⟩
  · have hr1 : (e != 0) = true := by simpa using hr
    clear hr
    go_wp2_with fail
    go_ret
    exact ⟨rfl, HB.out⟩

theorem room_any (m l : Int) (hm : Fits m) (hl : Fits l) (w : World) :
    Calls Try.prog 38 #[.int .i64 m, .int .i64 l] w fun x w' => x = .returned (.int .i64 (roomV m l)) ∧ Below w.heap.size w w' := by
  refine room_core m l (qN m l) (qE m l) _ ?_ w (hid fun w => muldiv_any _ _ _ _ (upN_fits hm) (upN_fits hl) (by unfold Fits; omega) w)
  unfold roomV
  by_cases h : qE m l = 0
  · rw [if_pos h]; exact .inl ⟨h, rfl⟩
  · rw [if_neg h]; exact .inr ⟨h, rfl⟩

set_option maxHeartbeats 1000000 in
theorem many_core (t m l r : Int) (b : Bool) (hb : b = decide (max r 1 < t)) (w : World) (H : Hid (∀ w, Calls Try.prog 38 #[.int .i64 m, .int .i64 l] w fun x w' => x = .returned (.int .i64 r) ∧ Below w.heap.size w w')) :
    Calls Try.prog 19 #[.int .i64 t, .int .i64 m, .int .i64 l] w fun x w' => x = .returned (.bool b) ∧ Below w.heap.size w w' := by
  have HBB := hid hb
  clear hb
  go_enter Try.func19, Try.ntmps19
  go_wp2_with fail
  refine (H.out _).mono ?_
  rintro x w1 ⟨rfl, hb⟩
  have HB := hid hb
  clear hb
  go_wp2_with fail
  go_ret
  exact ⟨ret_bool HBB.out.symm, HB.out⟩

theorem many_eq {t m l : Int} (ht : Fits t) : manyV t m l = decide (max (roomV m l) 1 < t) := by
  unfold manyV roomV
  unfold Fits at ht
  rw [Bool.eq_iff_iff]
  by_cases h : qE m l = 0
  · rw [if_pos h]
    simp [h]
    omega
  · rw [if_neg h]
    simp [h]
    omega

theorem many_any (t m l : Int) (ht : Fits t) (hm : Fits m) (hl : Fits l) (w : World) :
    Calls Try.prog 19 #[.int .i64 t, .int .i64 m, .int .i64 l] w fun x w' => x = .returned (.bool (manyV t m l)) ∧ Below w.heap.size w w' :=
  many_core t m l (roomV m l) _ (many_eq ht) w (hid fun w => room_any m l hm hl w)

set_option maxHeartbeats 1000000 in
theorem cap_core (m l r c : Int) (w : World) (H : Hid (∀ w, Calls Try.prog 38 #[.int .i64 m, .int .i64 l] w fun x w' => x = .returned (.int .i64 r) ∧ Below w.heap.size w w'))
    (H2 : Hid (∀ w, Calls Try.prog 37 #[.int .i64 r, .int .i64 1, .int .i64 4611686018427387904] w fun e w' => e = .returned (.int .i64 c) ∧ w = w')) :
    Calls Try.prog 18 #[.int .i64 m, .int .i64 l] w fun x w' => x = .returned (.int .i64 c) ∧ Below w.heap.size w w' := by
  go_enter Try.func18, Try.ntmps18
  go_wp2_with fail
  refine (H.out _).mono ?_
  rintro x w1 ⟨rfl, hb⟩
  have HB := hid hb
  clear hb
  go_wp2_with fail
  refine (H2.out _).mono ?_
  rintro x w2 ⟨rfl, rfl⟩
  go_wp2_with fail
  go_ret
  exact ⟨rfl, HB.out⟩

theorem cap_any (m l : Int) (hm : Fits m) (hl : Fits l) (w : World) :
    Calls Try.prog 18 #[.int .i64 m, .int .i64 l] w fun x w' => x = .returned (.int .i64 (capV m l)) ∧ Below w.heap.size w w' :=
  cap_core m l (roomV m l) (capV m l) w (hid fun w => room_any m l hm hl w) (hid fun w => LawA.within_any _ _ _ w)

/-! ### the document's -/

set_option maxHeartbeats 400000 in
theorem up_any (n : Int) (w : World) : Calls Try.prog 40 #[.int .i64 n] w fun x w' => x = .returned (.int .i64 (upN n)) ∧ w = w' := by
  by_cases h : n < 0
  · rw [upN_neg h]
    go_enter Try.func40, Try.ntmps40
    go_wp2_with fail
    go_ret
    exact ⟨rfl, rfl⟩
  · rw [upN_pos h]
    go_enter Try.func40, Try.ntmps40
    go_wp2_with fail
    go_ret
    exact ⟨rfl, rfl⟩

set_option maxHeartbeats 1000000 in
theorem rroom_core (m l a b q e r : Int) (hr : (e ≠ 0 ∧ r = 4611686018427387904) ∨ (e = 0 ∧ 4611686018427387904 < q ∧ r = 4611686018427387904) ∨ (e = 0 ∧ q ≤ 4611686018427387904 ∧ r = q))
    (w : World) (HA : Hid (∀ w, Calls Try.prog 40 #[.int .i64 m] w fun x w' => x = .returned (.int .i64 a) ∧ w = w')) (HB : Hid (∀ w, Calls Try.prog 40 #[.int .i64 l] w fun x w' => x = .returned (.int .i64 b) ∧ w = w'))
    (H : Hid (∀ w, Calls Try.prog 39 #[.int .i64 a, .int .i64 b, .int .i64 100000, .bool false] w fun x w' => x = .returned (.tuple #[.int .i64 q, .int .i64 e]) ∧ Below w.heap.size w w')) :
    Calls Try.prog 41 #[.int .i64 m, .int .i64 l] w fun x w' => x = .returned (.int .i64 r) ∧ Below w.heap.size w w' := by
  go_enter Try.func41, Try.ntmps41
  go_wp2_with fail
  refine (HA.out _).mono ?_
  rintro x w1 ⟨rfl, rfl⟩
  go_wp2_with fail
  refine (HB.out _).mono ?_
  rintro x w1 ⟨rfl, rfl⟩
  go_wp2_with fail
  refine (H.out _).mono ?_
  rintro x w1 ⟨rfl, hb⟩
  have HBl := hid hb
  clear hb H HA HB
  rcases hr with ⟨hr, rfl⟩ | ⟨rfl, hq, rfl⟩ | ⟨rfl, hq, rfl⟩
  · have hr1 : (e != 0) = true := by simpa using hr
    clear hr
    go_wp2_with fail
    go_ret
    exact ⟨rfl, HBl.out⟩
  · go_wp2_with fail
    go_ret
    exact ⟨rfl, HBl.out⟩
  · have hq' : ¬ 4611686018427387904 < r := by omega
    go_wp2_with fail
    go_ret
    exact ⟨rfl, HBl.out⟩

def rroomV (m l : Int) : Int := if qE m l ≠ 0 then 4611686018427387904 else if 4611686018427387904 < qN m l then 4611686018427387904 else qN m l
theorem rroom_any (m l : Int) (hm : Fits m) (hl : Fits l) (w : World) :
    Calls Try.prog 41 #[.int .i64 m, .int .i64 l] w fun x w' => x = .returned (.int .i64 (rroomV m l)) ∧ Below w.heap.size w w' :=
  rroom_core m l (upN m) (upN l) (qN m l) (qE m l) _ (by
    unfold rroomV
    by_cases h : qE m l = 0
    · rw [if_neg (by simpa using h)]
      by_cases h2 : 4611686018427387904 < qN m l
      · rw [if_pos h2]; exact .inr (.inl ⟨h, h2, rfl⟩)
      · rw [if_neg h2]; exact .inr (.inr ⟨h, by omega, rfl⟩)
    · rw [if_pos h]; exact .inl ⟨h, rfl⟩) w (hid fun w => up_any m w) (hid fun w => up_any l w) (hid fun w => LawA.muldiv_ref _ _ _ _ (upN_fits hm) (upN_fits hl) (by unfold Fits; omega) w)

theorem cap_eq (m l : Int) : capV m l = if rroomV m l < 1 then 1 else rroomV m l := by
  unfold capV roomV rroomV
  generalize qE m l = e
  generalize qN m l = q
  by_cases h : e = 0
  · subst h
    simp only [ne_eq, not_true_eq_false, if_false, if_true]
    repeat' split
    all_goals omega
  · simp only [ne_eq, h, not_false_eq_true, if_false, if_true]
    repeat' split
    all_goals omega

set_option maxHeartbeats 1000000 in
theorem rcap_core (m l r c : Int) (hc : (r < 1 ∧ c = 1) ∨ (1 ≤ r ∧ c = r)) (w : World) (H : Hid (∀ w, Calls Try.prog 41 #[.int .i64 m, .int .i64 l] w fun x w' => x = .returned (.int .i64 r) ∧ Below w.heap.size w w')) :
    Calls Try.prog 21 #[.int .i64 m, .int .i64 l] w fun x w' => x = .returned (.int .i64 c) ∧ Below w.heap.size w w' := by
  go_enter Try.func21, Try.ntmps21
  go_wp2_with fail
  refine (H.out _).mono ?_
  rintro x w1 ⟨rfl, hb⟩
  have HB := hid hb
  clear hb
  rcases hc with ⟨hc, rfl⟩ | ⟨hc, rfl⟩
  · go_wp2_with fail
    go_ret
    exact ⟨rfl, HB.out⟩
  · have hc' : ¬ c < 1 := by omega
    go_wp2_with fail
    go_ret
    exact ⟨rfl, HB.out⟩

theorem rcap_any (m l : Int) (hm : Fits m) (hl : Fits l) (w : World) :
    Calls Try.prog 21 #[.int .i64 m, .int .i64 l] w fun x w' => x = .returned (.int .i64 (capV m l)) ∧ Below w.heap.size w w' :=
  rcap_core m l (rroomV m l) (capV m l) (by
    rw [cap_eq]
    by_cases h : rroomV m l < 1
    · rw [if_pos h]; exact .inl ⟨h, rfl⟩
    · rw [if_neg h]; exact .inr ⟨by omega, rfl⟩) w (hid fun w => rroom_any m l hm hl w)

set_option maxHeartbeats 1000000 in
theorem rmany_core (t m l a b q e : Int) (r : Bool) (hr : r = (decide (1 < t) && decide (e = 0) && decide (q < t)))
    (w : World) (HA : Hid (∀ w, Calls Try.prog 40 #[.int .i64 m] w fun x w' => x = .returned (.int .i64 a) ∧ w = w')) (HB : Hid (∀ w, Calls Try.prog 40 #[.int .i64 l] w fun x w' => x = .returned (.int .i64 b) ∧ w = w'))
    (H : Hid (∀ w, Calls Try.prog 39 #[.int .i64 a, .int .i64 b, .int .i64 100000, .bool false] w fun x w' => x = .returned (.tuple #[.int .i64 q, .int .i64 e]) ∧ Below w.heap.size w w')) :
    Calls Try.prog 20 #[.int .i64 t, .int .i64 m, .int .i64 l] w fun x w' => x = .returned (.bool r) ∧ Below w.heap.size w w' := by
  obtain ⟨b1, h1⟩ : ∃ b1, decide (1 < t) = b1 := ⟨_, rfl⟩
  obtain ⟨b2, h2⟩ : ∃ b2, (e == 0) = b2 := ⟨_, rfl⟩
  have h2' : decide (e = 0) = b2 := by rw [← h2, Bool.eq_iff_iff]; simp
  obtain ⟨b3, h3⟩ : ∃ b3, decide (q < t) = b3 := ⟨_, rfl⟩
  rw [h1, h2', h3] at hr
  clear h2'
  subst hr
  cases b1 <;> cases b2 <;> cases b3 <;> (
    go_enter Try.func20, Try.ntmps20
    go_wp2_with fail
    refine (HA.out _).mono ?_
    rintro x w1 ⟨rfl, rfl⟩
    go_wp2_with fail
    refine (HB.out _).mono ?_
    rintro x w1 ⟨rfl, rfl⟩
    go_wp2_with fail
    refine (H.out _).mono ?_
    rintro x w1 ⟨rfl, hb⟩
    have HBl := hid hb
    clear hb H HA HB
    go_wp2_with fail
    go_ret
    exact ⟨rfl, HBl.out⟩)

theorem rmany_any (t m l : Int) (ht : Fits t) (hm : Fits m) (hl : Fits l) (w : World) :
    Calls Try.prog 20 #[.int .i64 t, .int .i64 m, .int .i64 l] w fun x w' => x = .returned (.bool (manyV t m l)) ∧ Below w.heap.size w w' :=
  rmany_core t m l (upN m) (upN l) (qN m l) (qE m l) _ rfl w (hid fun w => up_any m w) (hid fun w => up_any l w) (hid fun w => LawA.muldiv_ref _ _ _ _ (upN_fits hm) (upN_fits hl) (by unfold Fits; omega) w)

end Go.Proofs.Ytoilakjlnflpbaa.GuaA
