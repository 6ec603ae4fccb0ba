/- Contracts of the program's load: what may be, last, Add. -/
import Derived.Test.YthkpfjjcpifkcaaLoaB
import Derived.Test.YthkpfjjcpifkcaaWldB
import Derived.Laws.AppendOwnNone
namespace Go.Proofs.Ythkpfjjcpifkcaa.LoaC
open Go.ChangeShapes Go.WideShapes Go.ChangeAt Go.RowKit Base ClkM Clk WldB WldF Wri LoaA LoaB
set_option linter.unusedVariables false

theorem ret_bool {a b : Bool} (h : a = b) : Ending.returned (.bool a) = .returned (.bool b) := by rw [h]
theorem ret_int {k : IntKind} {a b : Int} (h : a = b) : Ending.returned (.int k a) = .returned (.int k b) := by rw [h]

set_option maxHeartbeats 400000 in
theorem isShare_no (n : Int) (h : ¬ (0 ≤ n ∧ n ≤ 1099511627776)) (w : World) :
    Calls Try.prog 73 #[.int .i64 n] w fun e w' => e = .returned (.bool false) ∧ w = w' := by
  by_cases h0 : n < 0
  · have d1 : decide (0 ≤ n) = false := by simp; omega
    clear h
    go_enter Try.func73, Try.ntmps73
    go_wp2
    go_ret
    exact ⟨rfl, rfl⟩
  · have h1 : 0 ≤ n := by omega
    have d2 : decide (n ≤ 1099511627776) = false := by simp; omega
    clear h
    go_enter Try.func73, Try.ntmps73
    go_wp2
    go_ret
    exact ⟨rfl, rfl⟩

theorem isShare_dec (n : Int) (b : Bool) (h : decide (0 ≤ n ∧ n ≤ 1099511627776) = b) (w : World) :
    Calls Try.prog 73 #[.int .i64 n] w fun e w' => e = .returned (.bool b) ∧ w = w' := by
  subst h
  by_cases h : 0 ≤ n ∧ n ≤ 1099511627776
  · rw [decide_eq_true h]; exact isShare_yes n h.1 h.2 w
  · rw [decide_eq_false h]; exact isShare_no n h w

theorem isTime_dec (n : Int) (b : Bool) (h : decide (0 ≤ n ∧ n ≤ 1152921504606846976) = b) (w : World) :
    Calls Try.prog 70 #[.int .i64 n] w fun e w' => e = .returned (.bool b) ∧ w = w' := by
  subst h
  by_cases h : 0 ≤ n ∧ n ≤ 1152921504606846976
  · rw [decide_eq_true h]; exact isTime_yes n h.1 h.2 w
  · rw [decide_eq_false h]; exact isTime_no n h w

set_option maxHeartbeats 1000000 in
theorem mayBe_any (a l c : Int) (b : Bool) (h : okS a l c = b) (w : World) :
    Calls Try.prog 50 #[.agg #[.int .i64 a, .int .i64 l, .int .i64 c]] w fun e w' => e = .returned (.bool b) ∧ Below w.heap.size w w' := by
  obtain ⟨b1, h1⟩ : ∃ b1, decide (0 ≤ a ∧ a ≤ 1152921504606846976) = b1 := ⟨_, rfl⟩
  obtain ⟨b2, h2⟩ : ∃ b1, decide (0 ≤ l ∧ l ≤ 1099511627776) = b1 := ⟨_, rfl⟩
  obtain ⟨b3, h3⟩ : ∃ b1, decide (0 ≤ c ∧ c ≤ 1099511627776) = b1 := ⟨_, rfl⟩
  unfold okS at h
  rw [h1, h2, h3] at h
  subst h
  have H1 := hid h1
  have H2 := hid h2
  have H3 := hid h3
  clear h1 h2 h3
  cases b1
  · go_enter Try.func50, Try.ntmps50
    go_wp2_with fail
    refine (isTime_dec a false H1.out _).mono ?_
    rintro e w1 ⟨rfl, rfl⟩
    go_wp2
    go_ret
    exact ⟨rfl, (by repeat (first | (with_reducible exact Below.refl _ _) | (with_reducible refine Below.setCell ?_ (by first | (simp; done) | (simp; omega) | omega) _) | (with_reducible refine Below.alloc ?_ (by first | (simp; done) | (simp; omega) | omega) _) | (with_reducible refine Below.drew ?_) | (with_reducible refine below_drewN ?_ _)))⟩
  · cases b2
    · go_enter Try.func50, Try.ntmps50
      go_wp2_with fail
      refine (isTime_dec a true H1.out _).mono ?_
      rintro e w1 ⟨rfl, rfl⟩
      go_wp2_with fail
      refine (isShare_dec l false H2.out _).mono ?_
      rintro e w1 ⟨rfl, rfl⟩
      go_wp2
      go_ret
      exact ⟨rfl, (by repeat (first | (with_reducible exact Below.refl _ _) | (with_reducible refine Below.setCell ?_ (by first | (simp; done) | (simp; omega) | omega) _) | (with_reducible refine Below.alloc ?_ (by first | (simp; done) | (simp; omega) | omega) _) | (with_reducible refine Below.drew ?_) | (with_reducible refine below_drewN ?_ _)))⟩
    · go_enter Try.func50, Try.ntmps50
      go_wp2_with fail
      refine (isTime_dec a true H1.out _).mono ?_
      rintro e w1 ⟨rfl, rfl⟩
      go_wp2_with fail
      refine (isShare_dec l true H2.out _).mono ?_
      rintro e w1 ⟨rfl, rfl⟩
      go_wp2_with fail
      refine (isShare_dec c b3 H3.out _).mono ?_
      rintro e w1 ⟨rfl, rfl⟩
      go_wp2
      go_ret
      exact ⟨rfl, (by repeat (first | (with_reducible exact Below.refl _ _) | (with_reducible refine Below.setCell ?_ (by first | (simp; done) | (simp; omega) | omega) _) | (with_reducible refine Below.alloc ?_ (by first | (simp; done) | (simp; omega) | omega) _) | (with_reducible refine Below.drew ?_) | (with_reducible refine below_drewN ?_ _)))⟩

/-- a load in block b: its list v of n samples F -/
structure IsLoad (w : World) (b B : Nat) (v : Value) (n : Nat) (F : Nat → Nat → Int) : Prop where
  cell : w.cell? ⟨b, 0, none⟩ = some v
  frz : w.frozen? ⟨b, 0, none⟩ = false
  has : Has w B v n F
  off : ∀ g, v.ownBlock = some g → g ≠ b

theorem IsLoad.lt {w : World} {b B : Nat} {v : Value} {n : Nat} {F : Nat → Nat → Int} (h : IsLoad w b B v n F) : b < w.heap.size := World.block_lt_of_cell? _ _ h.cell

theorem Has.below {w w' : World} {B n : Nat} {v : Value} {F : Nat → Nat → Int} (h : Has w B v n F) (hb : Below w.heap.size w w') : Has w' B v n F :=
  ⟨owns_keep h.own (fun g hg => hb.block g (h.own.lt g hg).2), h.nil⟩

theorem Has.wr {R : Nat → Prop} {w w' : World} {B n : Nat} {v : Value} {F : Nat → Nat → Int} (h : Has w B v n F) (hb : Wr R w w') (hr : ∀ g, v.ownBlock = some g → ¬ R g) : Has w' B v n F :=
  ⟨owns_wr h.own hb hr, h.nil⟩

theorem IsLoad.below {w w' : World} {b B : Nat} {v : Value} {n : Nat} {F : Nat → Nat → Int} (h : IsLoad w b B v n F) (hb : Below w.heap.size w w') : IsLoad w' b B v n F :=
  ⟨(hb.cell (p := ⟨b, 0, none⟩) h.lt).trans h.cell, (hb.frozen (p := ⟨b, 0, none⟩) h.lt).trans h.frz, Has.below h.has hb, h.off⟩

theorem IsLoad.wr {R : Nat → Prop} {w w' : World} {b B : Nat} {v : Value} {n : Nat} {F : Nat → Nat → Int} (h : IsLoad w b B v n F) (hb : Wr R w w') (hr : ¬ R b) (hg : ∀ g, v.ownBlock = some g → ¬ R g) : IsLoad w' b B v n F :=
  ⟨(hb.cell 0 h.lt hr).trans h.cell, (hb.frozen 0 h.lt hr).trans h.frz, Has.wr h.has hb hg, h.off⟩

set_option maxHeartbeats 400000 in
theorem last_some (b g n cap : Nat) (x : Int) (w : World) (h : w.cell? ⟨b, 0, none⟩ = some (.slice (some ⟨g, 0, none⟩) (n + 1) cap)) (hx : w.cell? ⟨g, n * 3, none⟩ = some (.int .i64 x)) (hn : n ≤ 4096) :
    Calls Try.prog 49 #[.pointer (some ⟨b, 0, none⟩)] w fun e w' => e = .returned (.int .i64 x) ∧ ∃ m, w.drewN m = w' := by
  have hd : decide ((n : Int) + 1 = 0) = false := by simp; omega
  have hd2 : ((n : Int) + 1 == 0) = false := by simp; omega
  go_enter Try.func49, Try.ntmps49
  go_wp2_with fail
  go_quiet (fail)
  go_wp2
  go_ret
  exact ⟨rfl, _, rfl⟩

theorem last_any (b B n : Nat) (v : Value) (F : Nat → Nat → Int) (w : World) (hn : n ≤ 4096) (h : IsLoad w b B v n F) :
    Calls Try.prog 49 #[.pointer (some ⟨b, 0, none⟩)] w fun e w' => e = .returned (.int .i64 (lastT F n)) ∧ ∃ m, w.drewN m = w' := by
  obtain ⟨a, c, rfl, hS, _⟩ := Sm.owned h.has.own
  have hc := h.cell
  cases n with
  | zero =>
    have e := h.has.nil rfl
    cases e
    exact (last_none b w hc).mono fun e w' ⟨h1, h2⟩ => ⟨h1, 0, h2⟩
  | succ n =>
    obtain ⟨g, c2, e, _, _⟩ := (World.ownsRow.form h.has.own (by omega))
    cases e
    obtain ⟨g', o, e, _, hcell⟩ := hS (by omega)
    cases e
    have h3 := hcell n (by omega) 0 (by omega)
    simp only [Nat.zero_add, Nat.add_zero] at h3
    exact last_some b g n c _ w hc h3 (by omega)

end Go.Proofs.Ythkpfjjcpifkcaa.LoaC
