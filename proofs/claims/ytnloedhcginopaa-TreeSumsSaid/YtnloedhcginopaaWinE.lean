/- A window in memory; contracts of refuses, begin, first, New. -/
import Derived.Test.YtnloedhcginopaaWinD
namespace Go.Proofs.Ytnloedhcginopaa.WinE
open Go.ChangeShapes Go.WideShapes Go.ChangeAt Go.RowKit Base WinM WinA WinB WinC WinD WldF WldG

/-- what was there lies as it lay, but for the blocks of R -/
structure Lets (R : Nat → Prop) (w w' : World) : Prop where
  os : w'.os = w.os
  tape : w'.tape = w.tape
  output : w'.output = w.output
  size : w.heap.size ≤ w'.heap.size
  block : ∀ k, k < w.heap.size → ¬ R k → w'.heap[k]? = w.heap[k]?

theorem Lets.refl (R : Nat → Prop) (w : World) : Lets R w w := ⟨rfl, rfl, rfl, Nat.le_refl _, fun _ _ _ => rfl⟩
theorem Lets.trans {R : Nat → Prop} {w w1 w2 : World} (h : Lets R w w1) (h2 : Lets R w1 w2) : Lets R w w2 :=
  ⟨h2.os.trans h.os, h2.tape.trans h.tape, h2.output.trans h.output, Nat.le_trans h.size h2.size, fun k hk hb => (h2.block k (Nat.lt_of_lt_of_le hk h.size) hb).trans (h.block k hk hb)⟩
/-- on by a step that may write what is new besides -/
theorem Lets.on {R R' : Nat → Prop} {w w1 w2 : World} (h : Lets R w w1) (h2 : Lets R' w1 w2) (hr : ∀ k, R' k → R k ∨ w.heap.size ≤ k) : Lets R w w2 :=
  ⟨h2.os.trans h.os, h2.tape.trans h.tape, h2.output.trans h.output, Nat.le_trans h.size h2.size, fun k hk hb => (h2.block k (Nat.lt_of_lt_of_le hk h.size) (fun h3 => (hr k h3).elim hb (fun h4 => absurd h4 (by omega)))).trans (h.block k hk hb)⟩
theorem Lets.mono {R R' : Nat → Prop} {w w1 : World} (h : Lets R w w1) (hr : ∀ k, R k → R' k) : Lets R' w w1 := ⟨h.os, h.tape, h.output, h.size, fun k hk hb => h.block k hk (fun h3 => hb (hr k h3))⟩
theorem Lets.ofKeeps {b : Nat} {w w1 : World} (h : Keeps b w w1) : Lets (fun k => k = b) w w1 := ⟨h.os, h.tape, h.output, h.size, fun k hk hb => h.block k hk (fun e => hb (Option.some.inj e))⟩
theorem Lets.ofBelow {R : Nat → Prop} {w w1 : World} (h : Below w.heap.size w w1) : Lets R w w1 := ⟨h.os, h.tape, h.output, h.size, fun k hk _ => h.block k hk⟩
theorem Lets.ofGrown {R : Nat → Prop} {row : Option Nat} {w w1 : World} (h : w.grownBy w1 row) (hr : ∀ k, row = some k → R k) : Lets R w w1 := ⟨h.os, h.tape, h.output, h.size, fun k hk hb => h.block k hk (fun e => hb (hr k e.symm))⟩
theorem Lets.alloc {R : Nat → Prop} {w w1 : World} (h : Lets R w w1) (o : Obj) : Lets R w (w1.alloc o) := h.trans (Lets.ofGrown (World.grownBy_alloc w1 o none) (fun _ e => by cases e))
theorem Lets.set {R : Nat → Prop} {w w1 : World} (h : Lets R w w1) (a : Addr) (v : Value) (hr : R a.block ∨ w.heap.size ≤ a.block) : Lets R w (w1.setCell a v) := h.on (Lets.ofGrown (R := fun k => k = a.block) (grown_set w1 a v) (fun k e => (Option.some.inj e).symm)) (fun k e => by subst e; exact hr)
theorem Lets.drewN {R : Nat → Prop} {w w1 : World} (h : Lets R w w1) (n : Nat) : Lets R w (w1.drewN n) := ⟨h.os, h.tape, h.output, h.size, h.block⟩
theorem Lets.below {R : Nat → Prop} {w w1 : World} (h : Lets R w w1) (B : Nat) (hs : B ≤ w.heap.size) (hr : ∀ k, R k → B ≤ k) : Below B w w1 :=
  ⟨h.os, h.tape, h.output, h.size, fun k hk => h.block k (Nat.lt_of_lt_of_le hk hs) (fun h3 => by have := hr k h3; omega)⟩

structure Win where
  width : Nat
  size : Nat
  last : Int
  bs : List Bkt

/-- the value of a window's buckets; go: the block where they lie, if there is one -/
def Holds (w : World) (go : Option Nat) (v : Value) (bs : List Bkt) : Prop :=
  (go = none ∧ v = .slice none 0 0 ∧ bs = []) ∨
  ∃ g cap f, go = some g ∧ v = .slice (some ⟨g, 0, none⟩) bs.length cap ∧ IsBk w g cap bs.length f ∧ toL f bs.length = bs

def IsWin (w : World) (p : Nat) (go : Option Nat) (s : Win) : Prop :=
  go ≠ some p ∧ ∃ v, w.heap[p]? = some (.cells #[.int .i64 s.width, .int .i64 s.size, .int .i64 s.last, v] 112) ∧ Holds w go v s.bs

theorem Holds.of_block {w w' : World} {go : Option Nat} {v : Value} {bs : List Bkt} (h : Holds w go v bs) (e : ∀ g, go = some g → w'.heap[g]? = w.heap[g]?) : Holds w' go v bs := by
  rcases h with h | ⟨g, cap, f, h1, h2, h3, h4⟩
  · exact .inl h
  · exact .inr ⟨g, cap, f, h1, h2, h3.of_block (e g h1), h4⟩
theorem Holds.lt {w : World} {go : Option Nat} {v : Value} {bs : List Bkt} (h : Holds w go v bs) (g : Nat) (e : go = some g) : g < w.heap.size := by
  rcases h with ⟨h, _⟩ | ⟨g', cap, f, h1, h2, h3, h4⟩
  · rw [h] at e; cases e
  · rw [h1] at e; cases e; exact h3.lt
theorem IsWin.lt {w : World} {p : Nat} {go : Option Nat} {s : Win} (h : IsWin w p go s) : p < w.heap.size := by
  obtain ⟨_, v, h1, _⟩ := h
  exact (Array.getElem?_eq_some_iff.1 h1).1
theorem IsWin.lt2 {w : World} {p : Nat} {go : Option Nat} {s : Win} (h : IsWin w p go s) (g : Nat) (e : go = some g) : g < w.heap.size := by
  obtain ⟨_, v, _, h2⟩ := h
  exact h2.lt g e
theorem IsWin.keep {w w' : World} {p : Nat} {go : Option Nat} {s : Win} {R : Nat → Prop} (h : IsWin w p go s) (hl : Lets R w w') (hp : ¬ R p) (hg : ∀ g, go = some g → ¬ R g) : IsWin w' p go s := by
  have hl2 := h.lt2
  have hl1 := h.lt
  obtain ⟨h0, v, h1, h2⟩ := h
  exact ⟨h0, v, (hl.block p hl1 hp).trans h1, h2.of_block fun g e => hl.block g (hl2 g e) (hg g e)⟩
theorem IsWin.cells {w : World} {p : Nat} {go : Option Nat} {s : Win} (h : IsWin w p go s) :
    w.cell? ⟨p, 0, none⟩ = some (.int .i64 s.width) ∧ w.cell? ⟨p, 1, none⟩ = some (.int .i64 s.size) ∧ w.cell? ⟨p, 2, none⟩ = some (.int .i64 s.last) ∧ ∃ v, w.cell? ⟨p, 3, none⟩ = some v ∧ Holds w go v s.bs := by
  obtain ⟨h0, v, h1, h2⟩ := h
  exact ⟨by simp [World.cell?, h1], by simp [World.cell?, h1], by simp [World.cell?, h1], v, by simp [World.cell?, h1], h2⟩
theorem IsWin.frozen {w : World} {p : Nat} {go : Option Nat} {s : Win} (h : IsWin w p go s) (o : Nat) : w.frozen? ⟨p, o, none⟩ = false := by
  obtain ⟨h0, v, h1, h2⟩ := h
  simp [World.frozen?, h1]

/-- a window's error at a time -/
def refM (last at_ : Int) : Int := if at_ < 0 ∨ 1152921504606846976 < at_ then 2 else if at_ < last then 7 else 0

set_option maxHeartbeats 400000 in
theorem refuses_any (p : Nat) (last at_ : Int) (w : World) (h : w.cell? ⟨p, 2, none⟩ = some (.int .i64 last)) :
    Calls Try.prog 79 #[.pointer (some ⟨p, 0, none⟩), .int .i64 at_] w fun e w' => e = .returned (.int .i64 (refM last at_)) ∧ w = w' := by
  by_cases h1 : at_ < 0
  · have e : refM last at_ = 2 := by unfold refM; rw [if_pos (.inl h1)]
    rw [e]; clear e
    go_enter Try.func79, Try.ntmps79
    go_wp2
    go_ret
    exact ⟨rfl, rfl⟩
  · by_cases h2 : 1152921504606846976 < at_
    · have e : refM last at_ = 2 := by unfold refM; rw [if_pos (.inr h2)]
      rw [e]; clear e
      have h1' : decide (at_ < 0) = false := by simpa using h1
      clear h1
      go_enter Try.func79, Try.ntmps79
      go_wp2
      go_ret
      exact ⟨rfl, rfl⟩
    · have h1' : decide (at_ < 0) = false := by simpa using h1
      have h2' : decide (1152921504606846976 < at_) = false := by simpa using h2
      by_cases h3 : at_ < last
      · have e : refM last at_ = 7 := by unfold refM; rw [if_neg (by omega), if_pos h3]
        rw [e]; clear e h1 h2
        go_enter Try.func79, Try.ntmps79
        go_wp2
        go_ret
        exact ⟨rfl, rfl⟩
      · have e : refM last at_ = 0 := by unfold refM; rw [if_neg (by omega), if_neg h3]
        rw [e]; clear e h1 h2
        have h3' : decide (at_ < last) = false := by simpa using h3
        clear h3
        go_enter Try.func79, Try.ntmps79
        go_wp2
        go_ret
        exact ⟨rfl, rfl⟩

/-- where the bucket begins in which a time lies -/
def begN (q a : Nat) : Nat := a - a % q
theorem begN_le (q a : Nat) : begN q a ≤ a := Nat.sub_le _ _
theorem begN_eq (q a : Nat) : (a : Int) - (a : Int) % (q : Int) = (begN q a : Nat) := by
  unfold begN
  have h : a % q ≤ a := Nat.mod_le _ _
  have e : ((a % q : Nat) : Int) = (a : Int) % (q : Int) := rfl
  rw [← e]
  omega

set_option maxHeartbeats 400000 in
theorem begin_any (p : Nat) (wd sz q at_ : Nat) (w : World) (hw : w.cell? ⟨p, 0, none⟩ = some (.int .i64 wd)) (hs : w.cell? ⟨p, 1, none⟩ = some (.int .i64 sz)) (hz : 0 < sz) (hq : wd / sz = q) (hq0 : 0 < q) (hz2 : wd ≤ 1099511627776) (ha : at_ ≤ 1152921504606846976) :
    Calls Try.prog 84 #[.pointer (some ⟨p, 0, none⟩), .int .i64 at_] w fun e w' => e = .returned (.int .i64 (begN q at_ : Nat)) ∧ ∃ n, w.drewN n = w' := by
  have e1 : (wd : Int) / (sz : Int) = (q : Int) := by rw [← hq]; rfl
  have n1 : ((sz : Int) == 0) = false := by simp; omega
  have n2 : ((q : Int) == 0) = false := by simp; omega
  have q1 : q ≤ 1099511627776 := by rw [← hq]; exact Nat.le_trans (Nat.div_le_self _ _) hz2
  have m1 : (0 : Int) ≤ (at_ : Int) % (q : Int) := Int.emod_nonneg _ (by omega)
  have m2 : (at_ : Int) % (q : Int) ≤ at_ := Int.ofNat_le.2 (Nat.mod_le at_ q)
  have hB := hid (begN_eq q at_)
  clear hq hz2
  go_enter Try.func84, Try.ntmps84
  go_wp2_with fail
  go_quiet (fail)
  go_wp2_with fail
  go_ret
  exact ⟨by rw [← hB.out]; rfl, _, rfl⟩

set_option maxRecDepth 20000 in
set_option maxHeartbeats 400000 in
theorem first_any (p : Nat) (wd sz q at_ : Nat) (w : World) (hw : w.cell? ⟨p, 0, none⟩ = some (.int .i64 wd)) (hs : w.cell? ⟨p, 1, none⟩ = some (.int .i64 sz)) (hz : 0 < sz) (hq : wd / sz = q) (hq0 : 0 < q) (hz2 : wd ≤ 1099511627776) (ha : at_ ≤ 1152921504606846976) :
    Calls Try.prog 82 #[.pointer (some ⟨p, 0, none⟩), .int .i64 at_] w fun e w' => e = .returned (.int .i64 ((begN q at_ : Int) - wd + q)) ∧ ∃ n, w.drewN n = w' := by
  have e1 : (wd : Int) / (sz : Int) = (q : Int) := by rw [← hq]; rfl
  have n1 : ((sz : Int) == 0) = false := by simp; omega
  have q1 : q ≤ 1099511627776 := by rw [← hq]; exact Nat.le_trans (Nat.div_le_self _ _) hz2
  have b1 : begN q at_ ≤ 1152921504606846976 := Nat.le_trans (begN_le q at_) ha
  have HQ := hid (fun m => begin_any p wd sz q at_ (w.drewN m) hw hs hz hq hq0 hz2 ha)
  generalize begN q at_ = b at *
  clear hq
  go_enter Try.func82, Try.ntmps82
  go_wp2_with fail
  go_quiet (first | (go_at_call 84; exact Calls.quiet_of ((HQ.out _).mono fun _ _ h => ⟨h.1, h.2.imp fun _ e => e.symm⟩)))
  go_wp2_with fail
  go_ret
  exact ⟨rfl, _, rfl⟩

end Go.Proofs.Ytnloedhcginopaa.WinE
