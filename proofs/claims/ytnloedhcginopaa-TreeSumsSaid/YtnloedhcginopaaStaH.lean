/- A node that keeps its promises: refused calls, and what it tells of what passed. -/
import Derived.Test.YtnloedhcginopaaStaG
import Derived.Test.YtnloedhcginopaaWinN
namespace Go.Proofs.Ytnloedhcginopaa.StaH
open Go.ChangeShapes Go.WideShapes Go.ChangeAt Go.RowKit Base WinM WinA WinB WinC WinD WinE WinF WinG WinH WinI WinJ WinK WinL WinN StaA StaB StaC StaD WldF WldG

/-- a call that is refused by its numbers or its time -/
theorem pass_core (S : Spots) (at_ : Int) (v : Value) (b : Bool) (r : Int) (w : World) (HA : Hid (Calls Try.prog 46 #[v] w fun e w' => e = .returned (.bool b) ∧ w = w'))
    (HR : Hid (Calls Try.prog 45 #[.pointer (some ⟨S.n, 0, none⟩), .int .i64 at_, .bool b] w fun e w' => e = .returned (.int .i64 r) ∧ w = w')) (hr : r ≠ 0) :
    Calls Try.prog 20 #[.pointer (some ⟨S.n, 0, none⟩), .int .i64 at_, v] w fun e w' => e = .returned (.int .i64 r) ∧ w = w' := by
  go_enter Try.func20, Try.ntmps20
  go_wp2_with fail
  refine HA.out.mono ?_
  rintro e w1 ⟨rfl, rfl⟩
  go_wp2_with fail
  refine HR.out.mono ?_
  rintro e w1 ⟨rfl, rfl⟩
  go_wp2
  go_ret
  exact ⟨rfl, rfl⟩

theorem block_core (S : Spots) (at_ : Int) (v : Value) (b : Bool) (r : Int) (w : World) (HA : Hid (Calls Try.prog 46 #[v] w fun e w' => e = .returned (.bool b) ∧ w = w'))
    (HR : Hid (Calls Try.prog 45 #[.pointer (some ⟨S.n, 0, none⟩), .int .i64 at_, .bool b] w fun e w' => e = .returned (.int .i64 r) ∧ w = w')) (hr : r ≠ 0) :
    Calls Try.prog 37 #[.pointer (some ⟨S.n, 0, none⟩), .int .i64 at_, v] w fun e w' => e = .returned (.int .i64 r) ∧ w = w' := by
  go_enter Try.func37, Try.ntmps37
  go_wp2_with fail
  refine HA.out.mono ?_
  rintro e w1 ⟨rfl, rfl⟩
  go_wp2_with fail
  refine HR.out.mono ?_
  rintro e w1 ⟨rfl, rfl⟩
  go_wp2
  go_ret
  exact ⟨rfl, rfl⟩

theorem done_core (S : Spots) (at_ rt : Int) (fl : Bool) (b : Bool) (r : Int) (w : World) (HA : Hid (Calls Try.prog 58 #[.int .i64 rt] w fun e w' => e = .returned (.bool b) ∧ w = w'))
    (HR : Hid (Calls Try.prog 45 #[.pointer (some ⟨S.n, 0, none⟩), .int .i64 at_, .bool b] w fun e w' => e = .returned (.int .i64 r) ∧ w = w')) (hr : r ≠ 0) :
    Calls Try.prog 41 #[.pointer (some ⟨S.n, 0, none⟩), .int .i64 at_, .int .i64 rt, .bool fl] w fun e w' => e = .returned (.int .i64 r) ∧ w = w' := by
  go_enter Try.func41, Try.ntmps41
  go_wp2_with fail
  refine HA.out.mono ?_
  rintro e w1 ⟨rfl, rfl⟩
  go_wp2_with fail
  refine HR.out.mono ?_
  rintro e w1 ⟨rfl, rfl⟩
  go_wp2
  go_ret
  exact ⟨rfl, rfl⟩

theorem pass_no (S : Spots) (N : Nd) (last : Nat) (at_ : Int) (a : Option Addr) (n cap : Nat) (f : Nat → Int) (w : World) (h : IsNode w S N) (hl : N.sec.last = last) (hn : n ≤ 9223372036854775807) (hi : Ints w a n f) (hr : nrefM last at_ (goodC f n) ≠ 0) :
    Calls Try.prog 20 #[.pointer (some ⟨S.n, 0, none⟩), .int .i64 at_, .slice a n cap] w fun e w' => e = .returned (.int .i64 (nrefM last at_ (goodC f n))) ∧ w = w' := by
  obtain ⟨k0, k1, k2, kf⟩ := h.cells
  exact pass_core S at_ _ _ _ w (hid (areCounts_any a n cap f w hn hi)) (hid (nrefuses_any S.n S.p1 last at_ _ w k1 (by rw [h.2.1.cells.2.2.1, hl]))) hr
theorem block_no (S : Spots) (N : Nd) (last : Nat) (at_ : Int) (a : Option Addr) (n cap : Nat) (f : Nat → Int) (w : World) (h : IsNode w S N) (hl : N.sec.last = last) (hn : n ≤ 9223372036854775807) (hi : Ints w a n f) (hr : nrefM last at_ (goodC f n) ≠ 0) :
    Calls Try.prog 37 #[.pointer (some ⟨S.n, 0, none⟩), .int .i64 at_, .slice a n cap] w fun e w' => e = .returned (.int .i64 (nrefM last at_ (goodC f n))) ∧ w = w' := by
  obtain ⟨k0, k1, k2, kf⟩ := h.cells
  exact block_core S at_ _ _ _ w (hid (areCounts_any a n cap f w hn hi)) (hid (nrefuses_any S.n S.p1 last at_ _ w k1 (by rw [h.2.1.cells.2.2.1, hl]))) hr
theorem done_no (S : Spots) (N : Nd) (last : Nat) (at_ rt : Int) (fl : Bool) (w : World) (h : IsNode w S N) (hl : N.sec.last = last) (hr : nrefM last at_ (isT rt) ≠ 0) :
    Calls Try.prog 41 #[.pointer (some ⟨S.n, 0, none⟩), .int .i64 at_, .int .i64 rt, .bool fl] w fun e w' => e = .returned (.int .i64 (nrefM last at_ (isT rt))) ∧ w = w' := by
  obtain ⟨k0, k1, k2, kf⟩ := h.cells
  exact done_core S at_ rt fl _ _ w (hid (isTime_any rt w)) (hid (nrefuses_any S.n S.p1 last at_ _ w k1 (by rw [h.2.1.cells.2.2.1, hl]))) hr

/-- all that a node keeps, and what passed at it -/
structure NGood (N : Nd) (last : Nat) (E : List (Nat × Int)) : Prop where
  ok : N.Ok last
  t1 : Tidy 100000 N.sec last
  t2 : Tidy 1000000 N.pair last
  d1 : Tells 100000 N.sec last E
  d2 : Tells 1000000 N.pair last E
  pos : ∀ e ∈ E, 0 ≤ e.2
  all : tot E ≤ 4611686018427387904

theorem good_new : NGood Nd.new 0 [] where
  ok := newOk
  t1 := Tidy.fresh _ _ _
  t2 := Tidy.fresh _ _ _
  d1 := fun _ _ => rfl
  d2 := fun _ _ => rfl
  pos := fun _ h => by cases h
  all := by decide

theorem NGood.note {N : Nd} {last at_ : Nat} {E : List (Nat × Int)} (h : NGood N last E) (hb : last ≤ at_) (k : Int) (hk : 0 ≤ k ∧ k ≤ 4096) (c : Cnt) (hc : c.Fine) (ht : tot E + c.pass ≤ 4611686018427387904) :
    NGood (({ N with entries := k } : Nd).noted at_ c) at_ (E ++ [(at_, c.pass)]) := by
  have a1 := h.t1.add hb (by rw [h.ok.w1]; decide) hc
  have a2 := h.t2.add hb (by rw [h.ok.w2]; decide) hc
  have w1 := h.ok.w1
  have s1 := h.ok.s1
  have w2 := h.ok.w2
  have s2 := h.ok.s2
  have n1 := a1.len (by show N.sec.width = N.sec.size * 100000; rw [w1, s1]) (by decide)
  have n2 := a2.len (by show N.pair.width = N.pair.size * 1000000; rw [w2, s2]) (by decide)
  refine { ok := { w1 := w1, s1 := s1, w2 := w2, s2 := s2, l1 := rfl, l2 := rfl, f1 := a1.fine, f2 := a2.fine, n1 := ?_, n2 := ?_, e1 := hk.1, e2 := hk.2 }, t1 := a1, t2 := a2, d1 := ?_, d2 := ?_, pos := ?_, all := ?_ }
  · exact Nat.le_trans n1 (by show N.sec.size ≤ 1000; rw [s1]; decide)
  · exact Nat.le_trans n2 (by show N.pair.size ≤ 1000; rw [s2]; decide)
  · exact h.d1.add h.t1 hb h.pos ht
  · exact h.d2.add h.t2 hb h.pos ht
  · intro e he
    rcases List.mem_append.1 he with he | he
    · exact h.pos e he
    · obtain rfl := List.mem_singleton.1 he; exact hc.1.1
  · rw [tot_app]; simp [tot]; omega

theorem NGood.sum {N : Nd} {last : Nat} {E : List (Nat × Int)} (h : NGood N last E) : (sumN N last).pass = ev 100000 ((begN 100000 last : Int) - 1000000 + 100000) E := by
  have := sum_told h.d1 h.t1 h.pos h.all
  rw [h.ok.w1] at this
  exact this

theorem NGood.past {N : Nd} {last : Nat} {E : List (Nat × Int)} (h : NGood N last E) : pastN N last = ev 1000000 ((begN 1000000 last : Int) - 1000000) E - ev 1000000 (begN 1000000 last) E := by
  have := most_told h.d2 h.t2 (by decide) (by rw [h.ok.w2])
  rw [h.ok.w2] at this
  exact this

/-- what passed in nine tenths of a second up to a time -/
def near (at_ : Nat) : List (Nat × Int) → Int
  | [] => 0
  | e :: t => (if (at_ : Int) - e.1 < 900000 then e.2 else 0) + near at_ t
theorem tot_le (M : Int) (E : List (Nat × Int)) (h : ∀ e ∈ E, e.2 ≤ M) : tot E ≤ E.length * M := by
  induction E with
  | nil => simp [tot]
  | cons x t ih =>
    have h1 := ih fun e he => h e (List.mem_cons_of_mem _ he)
    have h2 := h x List.mem_cons_self
    simp only [tot, List.length_cons]
    have e : ((t.length + 1 : Nat) : Int) * M = t.length * M + M := by rw [Int.natCast_add, Int.add_mul]; simp
    omega
theorem near_app (at_ : Nat) (a b : List (Nat × Int)) : near at_ (a ++ b) = near at_ a + near at_ b := by
  induction a with
  | nil => simp [near]
  | cons x t ih => simp only [List.cons_append, near, ih]; omega
theorem near_take (at_ : Nat) (E : List (Nat × Int)) (m : Nat) (e : Nat × Int) (h : E[m]? = some e) : near at_ (E.take (m + 1)) = near at_ (E.take m) + (if (at_ : Int) - e.1 < 900000 then e.2 else 0) := by
  rw [List.take_add_one, h, near_app]
  simp [near]
theorem near_pos (at_ : Nat) (E : List (Nat × Int)) (h : ∀ e ∈ E, 0 ≤ e.2) : 0 ≤ near at_ E ∧ near at_ E ≤ tot E := by
  induction E with
  | nil => simp [near, tot]
  | cons x t ih =>
    have h1 := ih fun e he => h e (List.mem_cons_of_mem _ he)
    have h2 := h x List.mem_cons_self
    simp only [near, tot]
    split <;> omega

theorem near_le (at_ : Nat) (E : List (Nat × Int)) (h : ∀ e ∈ E, 0 ≤ e.2) : near at_ E ≤ ev 100000 ((begN 100000 at_ : Int) - 1000000 + 100000) E := by
  induction E with
  | nil => simp [near, ev]
  | cons x t ih =>
    have h1 := ih fun e he => h e (List.mem_cons_of_mem _ he)
    have h2 := h x List.mem_cons_self
    simp only [near, ev]
    by_cases hx : (at_ : Int) - x.1 < 900000
    · rw [if_pos hx, if_pos]
      · omega
      · unfold begN; omega
    · rw [if_neg hx]
      split <;> omega

end Go.Proofs.Ytnloedhcginopaa.StaH
