/- What a window keeps over any calls, and what it tells of what was noted: plain mathematics. -/
import Derived.Test.YtbihelpnojjacaaGreatBase
import Derived.Deep.QuietTactic
import Derived.BigQuiet
import Derived.Deep.RegionHeld3
import Derived.StillTailTactics
import Derived.Test.YtbihelpnojjacaaGreatWldG
import Derived.Lib.SliceRun
import Derived.OwnWalk
import Derived.Maps.AppendAt
import Derived.RangeFuncNested
import Derived.RangeFuncBound
import Derived.RangeFuncCalls
import Derived.RangeFuncLeaves
import Derived.Shelf.Abstract
import Derived.Shelf.RegionOpen
import Derived.OwnWalkIn
import Derived.TacticsInMore
import Derived.LoopNIn
import Derived.LoopIn
import Derived.Sort.QuietIn

/- Plain mathematics of counts and windows: no Go in sight. -/
namespace Go.Proofs.YtbihelpnojjacaaGreat.WinM

structure Cnt where
  pass : Int
  block : Int
  done : Int
  errs : Int
  rt : Int
  low : Int
deriving DecidableEq, Repr

def Cnt.zero : Cnt := ⟨0, 0, 0, 0, 0, 0⟩

/-- a number that counts may have -/
def InN (n : Int) : Prop := 0 ≤ n ∧ n ≤ 4611686018427387904
def Cnt.Fine (c : Cnt) : Prop := InN c.pass ∧ InN c.block ∧ InN c.done ∧ InN c.errs ∧ InN c.rt ∧ InN c.low
def Cnt.Right (c : Cnt) : Prop := c.Fine ∧ c.errs ≤ c.done ∧ c.low ≤ c.rt ∧ ¬ (c.done = 0 ∧ c.rt ≠ 0)

def plusM (a b : Int) : Int := if 4611686018427387904 < a + b then 4611686018427387904 else a + b
def leastM (a b : Cnt) : Int := if a.done = 0 then b.low else if b.done = 0 then a.low else min a.low b.low
def joinM (a b : Cnt) : Cnt := ⟨plusM a.pass b.pass, plusM a.block b.block, plusM a.done b.done, plusM a.errs b.errs, plusM a.rt b.rt, leastM a b⟩

theorem plusM_in {a b : Int} (ha : InN a) (hb : InN b) : InN (plusM a b) := by
  unfold plusM InN at *; split <;> omega
theorem leastM_in {a b : Cnt} (ha : a.Fine) (hb : b.Fine) : InN (leastM a b) := by
  unfold leastM
  split
  · exact hb.2.2.2.2.2
  · split
    · exact ha.2.2.2.2.2
    · have h1 := ha.2.2.2.2.2
      have h2 := hb.2.2.2.2.2
      unfold InN at *
      omega
theorem joinM_fine {a b : Cnt} (ha : a.Fine) (hb : b.Fine) : (joinM a b).Fine := by
  have hl := leastM_in ha hb
  obtain ⟨a1, a2, a3, a4, a5, _⟩ := ha
  obtain ⟨b1, b2, b3, b4, b5, _⟩ := hb
  exact ⟨plusM_in a1 b1, plusM_in a2 b2, plusM_in a3 b3, plusM_in a4 b4, plusM_in a5 b5, hl⟩

end Go.Proofs.YtbihelpnojjacaaGreat.WinM

/- Contracts of counts: plus, least, wrong, together. -/
namespace Go.Proofs.YtbihelpnojjacaaGreat.WinA
open Go.ChangeShapes Go.WideShapes Go.ChangeAt Go.RowKit Base WinM

set_option maxHeartbeats 400000 in
theorem plus_any (a b : Int) (ha : InN a) (hb : InN b) (w : World) :
    Calls Tryz.prog 154 #[.int .i64 a, .int .i64 b] w fun e w' => e = .returned (.int .i64 (plusM a b)) ∧ w = w' := by
  have a1 := ha.1
  have a2 := ha.2
  have b1 := hb.1
  have b2 := hb.2
  clear ha hb
  by_cases h : 4611686018427387904 < a + b
  · have e : plusM a b = 4611686018427387904 := by unfold plusM; rw [if_pos h]
    rw [e]
    have h2 : 4611686018427387904 - b < a := by omega
    clear e h
    go_enter Tryz.func154, Tryz.ntmps154
    go_wp2
    go_ret
    exact ⟨rfl, rfl⟩
  · have e : plusM a b = a + b := by unfold plusM; rw [if_neg h]
    rw [e]
    have h2 : decide (4611686018427387904 - b < a) = false := by simp; omega
    have h3 : a + b ≤ 4611686018427387904 := by omega
    clear e h
    go_enter Tryz.func154, Tryz.ntmps154
    go_wp2
    go_ret
    exact ⟨rfl, rfl⟩

/-- the value of counts -/
def cv (c : Cnt) : Value := .agg #[.int .i64 c.pass, .int .i64 c.block, .int .i64 c.done, .int .i64 c.errs, .int .i64 c.rt, .int .i64 c.low]
def cs (c : Cnt) : Array Value := #[.int .i64 c.pass, .int .i64 c.block, .int .i64 c.done, .int .i64 c.errs, .int .i64 c.rt, .int .i64 c.low]

set_option maxHeartbeats 400000 in
theorem least_any (a1 a2 a3 a4 a5 a6 b1 b2 b3 b4 b5 b6 : Int) (w : World) :
    Calls Tryz.prog 155 #[.agg #[.int .i64 a1, .int .i64 a2, .int .i64 a3, .int .i64 a4, .int .i64 a5, .int .i64 a6], .agg #[.int .i64 b1, .int .i64 b2, .int .i64 b3, .int .i64 b4, .int .i64 b5, .int .i64 b6]] w fun e w' => e = .returned (.int .i64 (leastM ⟨a1, a2, a3, a4, a5, a6⟩ ⟨b1, b2, b3, b4, b5, b6⟩)) ∧ (w.alloc (.cells (cs ⟨a1, a2, a3, a4, a5, a6⟩) 98)).alloc (.cells (cs ⟨b1, b2, b3, b4, b5, b6⟩) 98) = w' := by
  by_cases h : a3 = 0
  · subst h
    have e : leastM ⟨a1, a2, 0, a4, a5, a6⟩ ⟨b1, b2, b3, b4, b5, b6⟩ = b6 := by unfold leastM; rw [if_pos rfl]
    rw [e]
    clear e
    go_enter Tryz.func155, Tryz.ntmps155
    go_wp2
    go_ret
    exact ⟨rfl, rfl⟩
  · by_cases h2 : b3 = 0
    · subst h2
      have e : leastM ⟨a1, a2, a3, a4, a5, a6⟩ ⟨b1, b2, 0, b4, b5, b6⟩ = a6 := by unfold leastM; rw [if_neg h, if_pos rfl]
      rw [e]
      clear e
      go_enter Tryz.func155, Tryz.ntmps155
      go_wp2
      go_ret
      exact ⟨rfl, rfl⟩
    · by_cases hm : b6 < a6
      · have e : leastM ⟨a1, a2, a3, a4, a5, a6⟩ ⟨b1, b2, b3, b4, b5, b6⟩ = b6 := by unfold leastM; rw [if_neg h, if_neg h2]; dsimp only; omega
        rw [e]
        clear e
        go_enter Tryz.func155, Tryz.ntmps155
        go_wp2
        go_ret
        exact ⟨rfl, rfl⟩
      · have e : leastM ⟨a1, a2, a3, a4, a5, a6⟩ ⟨b1, b2, b3, b4, b5, b6⟩ = a6 := by unfold leastM; rw [if_neg h, if_neg h2]; dsimp only; omega
        rw [e]
        clear e
        by_cases hm2 : a6 = b6
        · subst hm2
          clear hm
          go_enter Tryz.func155, Tryz.ntmps155
          go_wp2
          go_ret
          exact ⟨rfl, rfl⟩
        · have hm3 : a6 < b6 := by omega
          clear hm hm2
          go_enter Tryz.func155, Tryz.ntmps155
          go_wp2
          go_ret
          exact ⟨rfl, rfl⟩

set_option maxRecDepth 20000 in
set_option maxHeartbeats 1000000 in
theorem wrong_no (a1 a2 a3 a4 a5 a6 : Int) (h : (Cnt.mk a1 a2 a3 a4 a5 a6).Right) (w : World) :
    Calls Tryz.prog 128 #[.agg #[.int .i64 a1, .int .i64 a2, .int .i64 a3, .int .i64 a4, .int .i64 a5, .int .i64 a6]] w fun e w' => e = .returned (.bool false) ∧ w.alloc (.cells (cs ⟨a1, a2, a3, a4, a5, a6⟩) 98) = w' := by
  obtain ⟨⟨h1, h2, h3, h4, h5, h6⟩, k1, k2, k3⟩ := h
  dsimp only at *
  unfold InN at *
  obtain ⟨l1, u1⟩ := h1
  obtain ⟨l2, u2⟩ := h2
  obtain ⟨l3, u3⟩ := h3
  obtain ⟨l4, u4⟩ := h4
  obtain ⟨l5, u5⟩ := h5
  obtain ⟨l6, u6⟩ := h6
  have n1 : decide (a3 < a4) = false := by simp; omega
  have n2 : decide (a5 < a6) = false := by simp; omega
  have n3 : a3 = 0 → a5 = 0 := fun h => by by_cases h5 : a5 = 0; exact h5; exact absurd ⟨h, h5⟩ k3
  have N3 := hid n3
  clear k1 k2 k3 n3
  have i0 : ∀ w, (Instr.index 201 (.agg #[.int .i64 a1, .int .i64 a2, .int .i64 a3, .int .i64 a4, .int .i64 a5, .int .i64 a6]) (.int .i64 0)).run Tryz.prog w = .ok (.int .i64 a1) w := fun _ => by kernel_rfl
  have i1 : ∀ w, (Instr.index 201 (.agg #[.int .i64 a1, .int .i64 a2, .int .i64 a3, .int .i64 a4, .int .i64 a5, .int .i64 a6]) (.int .i64 1)).run Tryz.prog w = .ok (.int .i64 a2) w := fun _ => by kernel_rfl
  have i2 : ∀ w, (Instr.index 201 (.agg #[.int .i64 a1, .int .i64 a2, .int .i64 a3, .int .i64 a4, .int .i64 a5, .int .i64 a6]) (.int .i64 2)).run Tryz.prog w = .ok (.int .i64 a3) w := fun _ => by kernel_rfl
  have i3 : ∀ w, (Instr.index 201 (.agg #[.int .i64 a1, .int .i64 a2, .int .i64 a3, .int .i64 a4, .int .i64 a5, .int .i64 a6]) (.int .i64 3)).run Tryz.prog w = .ok (.int .i64 a4) w := fun _ => by kernel_rfl
  have i4 : ∀ w, (Instr.index 201 (.agg #[.int .i64 a1, .int .i64 a2, .int .i64 a3, .int .i64 a4, .int .i64 a5, .int .i64 a6]) (.int .i64 4)).run Tryz.prog w = .ok (.int .i64 a5) w := fun _ => by kernel_rfl
  have i5 : ∀ w, (Instr.index 201 (.agg #[.int .i64 a1, .int .i64 a2, .int .i64 a3, .int .i64 a4, .int .i64 a5, .int .i64 a6]) (.int .i64 5)).run Tryz.prog w = .ok (.int .i64 a6) w := fun _ => by kernel_rfl
  go_enter Tryz.func128, Tryz.ntmps128
  go_wp2
  go_loop [18] (fun i => ∃ k : Nat, k ≤ 6 ∧ i = .int .i64 k) (fun i => 6 - (intOf i).toNat)
  case atStart => exact ⟨0, by omega, rfl⟩
  case round =>
    obtain ⟨k, hk, rfl⟩ := hrel
    match k, hk with
    | 0, _ => go_wp2; go_round; case rel => exact ⟨1, by omega, by go_num⟩
              case measure => simp [intOf]
    | 1, _ => go_wp2; go_round; case rel => exact ⟨2, by omega, by go_num⟩
              case measure => simp [intOf]
    | 2, _ => go_wp2; go_round; case rel => exact ⟨3, by omega, by go_num⟩
              case measure => simp [intOf]
    | 3, _ => go_wp2; go_round; case rel => exact ⟨4, by omega, by go_num⟩
              case measure => simp [intOf]
    | 4, _ => go_wp2; go_round; case rel => exact ⟨5, by omega, by go_num⟩
              case measure => simp [intOf]
    | 5, _ => go_wp2; go_round; case rel => exact ⟨6, by omega, by go_num⟩
              case measure => simp [intOf]
    | 6, _ =>
      by_cases h3 : a3 = 0
      · have h5 := N3.out h3
        subst h3 h5
        go_wp2
        go_ret
        exact ⟨rfl, rfl⟩
      · have h3' : decide (a3 = 0) = false := by simpa using h3
        go_wp2
        go_ret
        exact ⟨rfl, rfl⟩

end Go.Proofs.YtbihelpnojjacaaGreat.WinA

/- Contract of together, of one more. -/
namespace Go.Proofs.YtbihelpnojjacaaGreat.WinB
open Go.ChangeShapes Go.WideShapes Go.ChangeAt Go.RowKit Base WinM WinA

/-- counts lie in block g from place o on -/
def At6 (w : World) (g o : Nat) (c : Cnt) : Prop :=
  w.cell? ⟨g, o, none⟩ = some (.int .i64 c.pass) ∧ w.cell? ⟨g, o + 1, none⟩ = some (.int .i64 c.block) ∧ w.cell? ⟨g, o + 2, none⟩ = some (.int .i64 c.done) ∧
  w.cell? ⟨g, o + 3, none⟩ = some (.int .i64 c.errs) ∧ w.cell? ⟨g, o + 4, none⟩ = some (.int .i64 c.rt) ∧ w.cell? ⟨g, o + 5, none⟩ = some (.int .i64 c.low)
/-- .. and may be written -/
def Free6 (w : World) (g o : Nat) : Prop :=
  w.frozen? ⟨g, o, none⟩ = false ∧ w.frozen? ⟨g, o + 1, none⟩ = false ∧ w.frozen? ⟨g, o + 2, none⟩ = false ∧
  w.frozen? ⟨g, o + 3, none⟩ = false ∧ w.frozen? ⟨g, o + 4, none⟩ = false ∧ w.frozen? ⟨g, o + 5, none⟩ = false

theorem plus_still (a b : Int) (ha : InN a) (hb : InN b) (w : World) :
    Calls Tryz.prog 154 #[.int .i64 a, .int .i64 b] w fun e w' => e = .returned (.int .i64 (plusM a b)) ∧ w' = w :=
  (plus_any a b ha hb w).mono fun _ _ h => ⟨h.1, h.2.symm⟩

set_option maxRecDepth 100000 in
set_option maxHeartbeats 2000000 in
theorem together_one (a1 a2 a3 a4 a5 a6 b1 b2 b3 b4 b5 b6 : Int) (g o cap : Nat) (w : World) (ha : (Cnt.mk a1 a2 a3 a4 a5 a6).Fine) (hb : (Cnt.mk b1 b2 b3 b4 b5 b6).Fine)
    (H : Hid (At6 w g o ⟨b1, b2, b3, b4, b5, b6⟩)) (hg : g < w.heap.size) :
    Calls Tryz.prog 133 #[.agg #[.int .i64 a1, .int .i64 a2, .int .i64 a3, .int .i64 a4, .int .i64 a5, .int .i64 a6], .slice (some ⟨g, o, none⟩) 1 cap] w
      fun e w' => e = .returned (cv (joinM ⟨a1, a2, a3, a4, a5, a6⟩ ⟨b1, b2, b3, b4, b5, b6⟩)) ∧ Below w.heap.size w w' := by
  have HL := hid (least_any a1 a2 a3 a4 a5 a6 b1 b2 b3 b4 b5 b6)
  have HA := hid ha
  have HB := hid hb
  clear ha hb
  go_enter Tryz.func133, Tryz.ntmps133
  go_wp2
  go_loopw [9] (fun i wr => ∃ (k : Nat) (c : Cnt), i = .int .i64 k ∧ ((k = 0 ∧ c = ⟨a1, a2, a3, a4, a5, a6⟩) ∨ (k = 1 ∧ c = joinM ⟨a1, a2, a3, a4, a5, a6⟩ ⟨b1, b2, b3, b4, b5, b6⟩)) ∧
    At6 wr w.heap.size 0 c ∧ Free6 wr w.heap.size 0 ∧ Below w.heap.size w wr ∧ w.heap.size + 2 ≤ wr.heap.size ∧ At6 wr (w.heap.size + 1) 0 ⟨0, 0, 0, 0, 0, 0⟩ ∧ Free6 wr (w.heap.size + 1) 0) (fun i _ => 1 - (intOf i).toNat)
  case atStart => exact ⟨0, ⟨a1, a2, a3, a4, a5, a6⟩, rfl, .inl ⟨rfl, rfl⟩, ⟨by go_cell, by go_cell, by go_cell, by go_cell, by go_cell, by go_cell⟩, ⟨by go_cell, by go_cell, by go_cell, by go_cell, by go_cell, by go_cell⟩, (by repeat (first | (with_reducible exact Below.refl _ _) | (with_reducible refine Below.setCell ?_ (by first | (simp; done) | (simp; omega) | omega) _) | (with_reducible refine Below.alloc ?_ (by first | (simp; done) | (simp; omega) | omega) _) | (with_reducible refine Below.drew ?_) | (with_reducible refine below_drewN ?_ _))), by simp, ⟨by go_cell, by go_cell, by go_cell, by go_cell, by go_cell, by go_cell⟩, ⟨by go_cell, by go_cell, by go_cell, by go_cell, by go_cell, by go_cell⟩⟩
  case round =>
    obtain ⟨k, c, rfl, hkc, h6, hfr, hbel, hsz, hz, hzf⟩ := hrel
    have HBel := hid hbel
    have HZ := hid hz
    have HZF := hid hzf
    rcases hkc with ⟨rfl, rfl⟩ | ⟨rfl, rfl⟩
    · obtain ⟨k1, k2, k3, k4, k5, k6⟩ := H.out
      rw [← hbel.cell (p := ⟨g, o, none⟩) hg] at k1
      rw [← hbel.cell (p := ⟨g, o + 1, none⟩) hg] at k2
      rw [← hbel.cell (p := ⟨g, o + 2, none⟩) hg] at k3
      rw [← hbel.cell (p := ⟨g, o + 3, none⟩) hg] at k4
      rw [← hbel.cell (p := ⟨g, o + 4, none⟩) hg] at k5
      rw [← hbel.cell (p := ⟨g, o + 5, none⟩) hg] at k6
      dsimp only at k1 k2 k3 k4 k5 k6
      have H6 := hid h6
      have HFr := hid hfr
      clear hbel hz hzf h6 hfr
      go_wp2_with fail
      refine wp_region_still_tail 27 (by kernel_rfl) (by kernel_rfl) ?_
      obtain ⟨W, hW⟩ : ∃ W, (wr.alloc (.cells #[.int .i64 b1, .int .i64 b2, .int .i64 b3, .int .i64 b4, .int .i64 b5, .int .i64 b6] 98)).drew = W := ⟨_, rfl⟩
      have zz : w.heap.size < wr.heap.size := by omega
      obtain ⟨j1, j2, j3, j4, j5, j6⟩ := H6.out
      dsimp only at j1 j2 j3 j4 j5 j6
      obtain ⟨f1, f2, f3, f4, f5, f6⟩ := HFr.out
      have m1 : W.cell? ⟨w.heap.size, 0, none⟩ = some (.int .i64 a1) := by subst hW; go_cell
      have m2 : W.cell? ⟨w.heap.size, 1, none⟩ = some (.int .i64 a2) := by subst hW; go_cell
      have m3 : W.cell? ⟨w.heap.size, 2, none⟩ = some (.int .i64 a3) := by subst hW; go_cell
      have m4 : W.cell? ⟨w.heap.size, 3, none⟩ = some (.int .i64 a4) := by subst hW; go_cell
      have m5 : W.cell? ⟨w.heap.size, 4, none⟩ = some (.int .i64 a5) := by subst hW; go_cell
      have m6 : W.cell? ⟨w.heap.size, 5, none⟩ = some (.int .i64 a6) := by subst hW; go_cell
      have q1 : W.frozen? ⟨w.heap.size, 0, none⟩ = false := by subst hW; go_cell
      have q2 : W.frozen? ⟨w.heap.size, 1, none⟩ = false := by subst hW; go_cell
      have q3 : W.frozen? ⟨w.heap.size, 2, none⟩ = false := by subst hW; go_cell
      have q4 : W.frozen? ⟨w.heap.size, 3, none⟩ = false := by subst hW; go_cell
      have q5 : W.frozen? ⟨w.heap.size, 4, none⟩ = false := by subst hW; go_cell
      have q6 : W.frozen? ⟨w.heap.size, 5, none⟩ = false := by subst hW; go_cell
      have n1 : W.cell? ⟨wr.heap.size, 0, none⟩ = some (.int .i64 b1) := by subst hW; go_cell
      have n2 : W.cell? ⟨wr.heap.size, 1, none⟩ = some (.int .i64 b2) := by subst hW; go_cell
      have n3 : W.cell? ⟨wr.heap.size, 2, none⟩ = some (.int .i64 b3) := by subst hW; go_cell
      have n4 : W.cell? ⟨wr.heap.size, 3, none⟩ = some (.int .i64 b4) := by subst hW; go_cell
      have n5 : W.cell? ⟨wr.heap.size, 4, none⟩ = some (.int .i64 b5) := by subst hW; go_cell
      have n6 : W.cell? ⟨wr.heap.size, 5, none⟩ = some (.int .i64 b6) := by subst hW; go_cell
      have hsW : wr.heap.size < W.heap.size := by subst hW; simp
      have HBW : Hid (Below w.heap.size w W) := hid (by have hb := HBel.out; rw [← hW]; exact (by repeat (first | (with_reducible exact Below.refl _ _) | (with_reducible refine Below.setCell ?_ (by first | (simp; done) | (simp; omega) | omega) _) | (with_reducible refine Below.alloc ?_ (by first | (simp; done) | (simp; omega) | omega) _) | (with_reducible refine Below.drew ?_) | (with_reducible refine below_drewN ?_ _) | (with_reducible exact hb) | (with_reducible refine Below.trans ?_ (Below.mono hb (by first | (simp; done) | (simp; omega) | omega))))))
      have hzW : ∀ b, b < wr.heap.size → W.heap[b]? = wr.heap[b]? := fun b hb => by rw [← hW]; exact Below.heap_alloc _ _ _ hb
      have HZW := hid hzW
      clear j1 j2 j3 j4 j5 j6 f1 f2 f3 f4 f5 f6 hzW k1 k2 k3 k4 k5 k6
      show wpStill _ _ (World.drew _) (fun a' => wpList _ _ _ _ a' (World.drew _)) _ _
      rw [hW]
      clear hW
      simp only [List.take_succ_cons, List.take_zero, List.drop_succ_cons, List.drop_zero]
      repeat still_step
      still_call (plus_still a1 b1 HA.out.1 HB.out.1 W)
      repeat still_step
      still_call (plus_still a2 b2 HA.out.2.1 HB.out.2.1 W)
      repeat still_step
      still_call (plus_still a3 b3 HA.out.2.2.1 HB.out.2.2.1 W)
      repeat still_step
      still_call (plus_still a4 b4 HA.out.2.2.2.1 HB.out.2.2.2.1 W)
      repeat still_step
      still_call (plus_still a5 b5 HA.out.2.2.2.2.1 HB.out.2.2.2.2.1 W)
      repeat still_step
      refine wpStill_nil ?_
      have zW : w.heap.size < W.heap.size := by omega
      go_wp2_with fail
      refine (HL.out _).mono ?_
      rintro e w2 ⟨rfl, rfl⟩
      go_wp2_with fail
      clear HL n1 n2 n3 n4 n5 n6
      have zV : w.heap.size + 1 < W.heap.size := by omega
      have hq : W.heap[w.heap.size + 1]? = wr.heap[w.heap.size + 1]? := HZW.out _ (by omega)
      obtain ⟨y1, y2, y3, y4, y5, y6⟩ := HZ.out
      obtain ⟨x1, x2, x3, x4, x5, x6⟩ := HZF.out
      rw [← World.cell?_of_block (a := ⟨w.heap.size + 1, 0, none⟩) hq] at y1
      rw [← World.cell?_of_block (a := ⟨w.heap.size + 1, 0 + 1, none⟩) hq] at y2
      rw [← World.cell?_of_block (a := ⟨w.heap.size + 1, 0 + 2, none⟩) hq] at y3
      rw [← World.cell?_of_block (a := ⟨w.heap.size + 1, 0 + 3, none⟩) hq] at y4
      rw [← World.cell?_of_block (a := ⟨w.heap.size + 1, 0 + 4, none⟩) hq] at y5
      rw [← World.cell?_of_block (a := ⟨w.heap.size + 1, 0 + 5, none⟩) hq] at y6
      rw [← World.frozen?_of_block (a := ⟨w.heap.size + 1, 0, none⟩) hq] at x1
      rw [← World.frozen?_of_block (a := ⟨w.heap.size + 1, 0 + 1, none⟩) hq] at x2
      rw [← World.frozen?_of_block (a := ⟨w.heap.size + 1, 0 + 2, none⟩) hq] at x3
      rw [← World.frozen?_of_block (a := ⟨w.heap.size + 1, 0 + 3, none⟩) hq] at x4
      rw [← World.frozen?_of_block (a := ⟨w.heap.size + 1, 0 + 4, none⟩) hq] at x5
      rw [← World.frozen?_of_block (a := ⟨w.heap.size + 1, 0 + 5, none⟩) hq] at x6
      dsimp only [Nat.zero_add] at y1 y2 y3 y4 y5 y6 x1 x2 x3 x4 x5 x6
      simp only [Nat.zero_add] at y1 y2 y3 y4 y5 y6 x1 x2 x3 x4 x5 x6
      clear hq
      refine ⟨⟨1, _, rfl, .inr ⟨rfl, rfl⟩, ⟨?_, ?_, ?_, ?_, ?_, ?_⟩, ⟨by go_cell, by go_cell, by go_cell, by go_cell, by go_cell, by go_cell⟩, by have hb := HBW.out; exact (by repeat (first | (with_reducible exact Below.refl _ _) | (with_reducible refine Below.setCell ?_ (by first | (simp; done) | (simp; omega) | omega) _) | (with_reducible refine Below.alloc ?_ (by first | (simp; done) | (simp; omega) | omega) _) | (with_reducible refine Below.drew ?_) | (with_reducible refine below_drewN ?_ _) | (with_reducible exact hb) | (with_reducible refine Below.trans ?_ (Below.mono hb (by first | (simp; done) | (simp; omega) | omega))))), by simp; omega, ⟨by go_cell, by go_cell, by go_cell, by go_cell, by go_cell, by go_cell⟩, ⟨by go_cell, by go_cell, by go_cell, by go_cell, by go_cell, by go_cell⟩⟩, by simp [intOf]⟩
      · show _ = some (Value.int .i64 (plusM a1 b1)); go_cell
      · show _ = some (Value.int .i64 (plusM a2 b2)); go_cell
      · show _ = some (Value.int .i64 (plusM a3 b3)); go_cell
      · show _ = some (Value.int .i64 (plusM a4 b4)); go_cell
      · show _ = some (Value.int .i64 (plusM a5 b5)); go_cell
      · show _ = some (Value.int .i64 (leastM ⟨a1, a2, a3, a4, a5, a6⟩ ⟨b1, b2, b3, b4, b5, b6⟩)); go_cell
    · obtain ⟨j1, j2, j3, j4, j5, j6⟩ := h6
      obtain ⟨y1, y2, y3, y4, y5, y6⟩ := hz
      obtain ⟨x1, x2, x3, x4, x5, x6⟩ := hzf
      simp only [Nat.zero_add] at j1 j2 j3 j4 j5 j6 y1 y2 y3 y4 y5 y6 x1 x2 x3 x4 x5 x6
      obtain ⟨c, hc⟩ : ∃ c, joinM ⟨a1, a2, a3, a4, a5, a6⟩ ⟨b1, b2, b3, b4, b5, b6⟩ = c := ⟨_, rfl⟩
      rw [hc] at j1 j2 j3 j4 j5 j6
      have HCq := hid hc
      clear hc
      clear hbel hfr HZ HZF HL
      go_wp2
      refine bodyPost_ret (v := cv c) (by simp [results, Tryz.results133, go_sem, World.cell?_setCell_same', y1, y2, y3, y4, y5, y6, cv]) rfl ⟨by rw [HCq.out], ?_⟩
      have hb := HBel.out
      exact (by repeat (first | (with_reducible exact Below.refl _ _) | (with_reducible refine Below.setCell ?_ (by first | (simp; done) | (simp; omega) | omega) _) | (with_reducible refine Below.alloc ?_ (by first | (simp; done) | (simp; omega) | omega) _) | (with_reducible refine Below.drew ?_) | (with_reducible refine below_drewN ?_ _) | (with_reducible exact hb) | (with_reducible refine Below.trans ?_ (Below.mono hb (by first | (simp; done) | (simp; omega) | omega)))))

end Go.Proofs.YtbihelpnojjacaaGreat.WinB

/- Rows of buckets; forget's closure; IndexFunc and DeleteFunc over buckets. -/
namespace Go.Proofs.YtbihelpnojjacaaGreat.WinC
open Go.ChangeShapes Go.WideShapes Go.ChangeAt Go.RowKit Base WinM WinA WinB WldF

structure Bkt where
  at_ : Int
  c : Cnt

/-- the cells of a bucket -/
def bv (b : Bkt) : List Value := [.int .i64 b.at_, .int .i64 b.c.pass, .int .i64 b.c.block, .int .i64 b.c.done, .int .i64 b.c.errs, .int .i64 b.c.rt, .int .i64 b.c.low]

/-- block g is a row of buckets, with room for cap of them; the first n are told by f -/
def IsBk (w : World) (g cap n : Nat) (f : Nat → Bkt) : Prop :=
  ∃ cur, w.heap[g]? = some (.cells cur 182) ∧ cur.size = cap * 7 ∧ n ≤ cap ∧ cap ≤ maxLen ∧ ∀ i, i < n → ∀ j, j < 7 → cur[i * 7 + j]? = (bv (f i))[j]?

theorem IsBk.of_block {w w' : World} {g cap n : Nat} {f : Nat → Bkt} (h : IsBk w g cap n f) (e : w'.heap[g]? = w.heap[g]?) : IsBk w' g cap n f := by
  obtain ⟨cur, h1, h2⟩ := h
  exact ⟨cur, e.trans h1, h2⟩
theorem IsBk.lt {w : World} {g cap n : Nat} {f : Nat → Bkt} (h : IsBk w g cap n f) : g < w.heap.size := by
  obtain ⟨cur, h1, _⟩ := h
  exact (Array.getElem?_eq_some_iff.1 h1).1
theorem IsBk.below {w w' : World} {B g cap n : Nat} {f : Nat → Bkt} (h : IsBk w g cap n f) (hb : Below B w w') (hg : g < B) : IsBk w' g cap n f := h.of_block (hb.block g hg)
theorem IsBk.le {w : World} {g cap n : Nat} {f : Nat → Bkt} (h : IsBk w g cap n f) : n ≤ cap ∧ cap ≤ maxLen := by
  obtain ⟨_, _, _, h1, h2, _⟩ := h
  exact ⟨h1, h2⟩

theorem IsBk.cell {w : World} {g cap n : Nat} {f : Nat → Bkt} (h : IsBk w g cap n f) (i : Nat) (hi : i < n) (j : Nat) (hj : j < 7) (v : Value) (hv : (bv (f i))[j]? = some v) : w.cell? ⟨g, i * 7 + j, none⟩ = some v := by
  obtain ⟨cur, h1, _, _, _, h5⟩ := h
  have := h5 i hi j hj
  rw [hv] at this
  simp [World.cell?, h1, this]
theorem IsBk.frozen {w : World} {g cap n : Nat} {f : Nat → Bkt} (h : IsBk w g cap n f) (o : Nat) : w.frozen? ⟨g, o, none⟩ = false := by
  obtain ⟨cur, h1, _⟩ := h
  simp [World.frozen?, h1]
theorem IsBk.there {w : World} {g cap n : Nat} {f : Nat → Bkt} (h : IsBk w g cap n f) (o : Nat) (ho : o < cap * 7) : (w.cell? ⟨g, o, none⟩).isSome = true := by
  obtain ⟨cur, h1, h2, _⟩ := h
  simp [World.cell?, h1, h2, ho]
theorem IsBk.at6 {w : World} {g cap n : Nat} {f : Nat → Bkt} (h : IsBk w g cap n f) (i : Nat) (hi : i < n) : w.cell? ⟨g, i * 7, none⟩ = some (.int .i64 (f i).at_) ∧ At6 w g (i * 7 + 1) (f i).c :=
  ⟨h.cell i hi 0 (by omega) _ rfl, h.cell i hi 1 (by omega) _ rfl, h.cell i hi 2 (by omega) _ rfl, h.cell i hi 3 (by omega) _ rfl, h.cell i hi 4 (by omega) _ rfl, h.cell i hi 5 (by omega) _ rfl, h.cell i hi 6 (by omega) _ rfl⟩
theorem IsBk.less {w : World} {g cap n m : Nat} {f : Nat → Bkt} (h : IsBk w g cap n f) (hm : m ≤ n) : IsBk w g cap m f := by
  obtain ⟨cur, h1, h2, h3, h4, h5⟩ := h
  exact ⟨cur, h1, h2, by omega, h4, fun i hi => h5 i (by omega)⟩
theorem IsBk.congr {w : World} {g cap n : Nat} {f f' : Nat → Bkt} (h : IsBk w g cap n f) (e : ∀ i, i < n → f i = f' i) : IsBk w g cap n f' := by
  obtain ⟨cur, h1, h2, h3, h4, h5⟩ := h
  exact ⟨cur, h1, h2, h3, h4, fun i hi j hj => by rw [← e i hi]; exact h5 i hi j hj⟩

/-- one cell written in the row, past its first n -/
theorem IsBk.set_past {w : World} {g cap n : Nat} {f : Nat → Bkt} (h : IsBk w g cap n f) (o : Nat) (ho : n * 7 ≤ o) (v : Value) : IsBk (w.setCell ⟨g, o, none⟩ v) g cap n f := by
  obtain ⟨cur, h1, h2, h3, h4, h5⟩ := h
  refine ⟨cur.setIfInBounds o v, heap_setCell_same w g o cur _ v h1, by simpa using h2, h3, h4, fun i hi j hj => ?_⟩
  rw [Array.getElem?_setIfInBounds_ne (by omega)]
  exact h5 i hi j hj

theorem IsBk.sets_past {g cap n : Nat} {f : Nat → Bkt} : ∀ (vs : List Value) (w : World) (o : Nat), IsBk w g cap n f → n * 7 ≤ o → IsBk (w.setCells g o vs) g cap n f
  | [], _, _, h, _ => h
  | v :: vs, w, o, h, ho => by
    show IsBk ((w.setCell ⟨g, o, none⟩ v).setCells g (o + 1) vs) g cap n f
    exact IsBk.sets_past vs _ _ (h.set_past o ho v) (by omega)

/-- a bucket's cells laid one by one -/
def put7 (w : World) (g o : Nat) (b : Bkt) : World :=
  ((((((w.setCell ⟨g, o, none⟩ (.int .i64 b.at_)).setCell ⟨g, o + 1, none⟩ (.int .i64 b.c.pass)).setCell ⟨g, o + 2, none⟩ (.int .i64 b.c.block)).setCell ⟨g, o + 3, none⟩ (.int .i64 b.c.done)).setCell ⟨g, o + 4, none⟩ (.int .i64 b.c.errs)).setCell ⟨g, o + 5, none⟩ (.int .i64 b.c.rt)).setCell ⟨g, o + 6, none⟩ (.int .i64 b.c.low)
def put6 (w : World) (g o : Nat) (c : Cnt) : World :=
  (((((w.setCell ⟨g, o, none⟩ (.int .i64 c.pass)).setCell ⟨g, o + 1, none⟩ (.int .i64 c.block)).setCell ⟨g, o + 2, none⟩ (.int .i64 c.done)).setCell ⟨g, o + 3, none⟩ (.int .i64 c.errs)).setCell ⟨g, o + 4, none⟩ (.int .i64 c.rt)).setCell ⟨g, o + 5, none⟩ (.int .i64 c.low)

theorem IsBk.put7 {w : World} {g cap n : Nat} {f : Nat → Bkt} (h : IsBk w g cap n f) (i : Nat) (hi : i < n) (b : Bkt) : IsBk (put7 w g (i * 7) b) g cap n (fun k => if k = i then b else f k) := by
  obtain ⟨cur, h1, h2, h3, h4, h5⟩ := h
  have hz : i * 7 + 7 ≤ cur.size := by omega
  refine ⟨((((((cur.setIfInBounds (i * 7) (.int .i64 b.at_)).setIfInBounds (i * 7 + 1) (.int .i64 b.c.pass)).setIfInBounds (i * 7 + 2) (.int .i64 b.c.block)).setIfInBounds (i * 7 + 3) (.int .i64 b.c.done)).setIfInBounds (i * 7 + 4) (.int .i64 b.c.errs)).setIfInBounds (i * 7 + 5) (.int .i64 b.c.rt)).setIfInBounds (i * 7 + 6) (.int .i64 b.c.low), ?_, by simpa using h2, h3, h4, ?_⟩
  · unfold WinC.put7
    exact heap_setCell_same _ _ _ _ _ _ (heap_setCell_same _ _ _ _ _ _ (heap_setCell_same _ _ _ _ _ _ (heap_setCell_same _ _ _ _ _ _ (heap_setCell_same _ _ _ _ _ _ (heap_setCell_same _ _ _ _ _ _ (heap_setCell_same _ _ _ _ _ _ h1))))))
  · intro k hk j hj
    by_cases e : k = i
    · subst e
      dsimp only
      rw [if_pos rfl]
      match j, hj with
      | 0, _ => simp [Array.getElem?_setIfInBounds, bv]; omega
      | 1, _ => simp [Array.getElem?_setIfInBounds, bv]; omega
      | 2, _ => simp [Array.getElem?_setIfInBounds, bv]; omega
      | 3, _ => simp [Array.getElem?_setIfInBounds, bv]; omega
      | 4, _ => simp [Array.getElem?_setIfInBounds, bv]; omega
      | 5, _ => simp [Array.getElem?_setIfInBounds, bv]; omega
      | 6, _ => simp [Array.getElem?_setIfInBounds, bv]; omega
    · dsimp only
      rw [if_neg e, ← h5 k hk j hj]
      rw [Array.getElem?_setIfInBounds_ne (by omega), Array.getElem?_setIfInBounds_ne (by omega), Array.getElem?_setIfInBounds_ne (by omega), Array.getElem?_setIfInBounds_ne (by omega), Array.getElem?_setIfInBounds_ne (by omega), Array.getElem?_setIfInBounds_ne (by omega), Array.getElem?_setIfInBounds_ne (by omega)]

theorem IsBk.put6 {w : World} {g cap n : Nat} {f : Nat → Bkt} (h : IsBk w g cap n f) (i : Nat) (hi : i < n) (c : Cnt) : IsBk (put6 w g (i * 7 + 1) c) g cap n (fun k => if k = i then ⟨(f i).at_, c⟩ else f k) := by
  obtain ⟨cur, h1, h2, h3, h4, h5⟩ := h
  have hz : i * 7 + 7 ≤ cur.size := by omega
  refine ⟨(((((cur.setIfInBounds (i * 7 + 1) (.int .i64 c.pass)).setIfInBounds (i * 7 + 1 + 1) (.int .i64 c.block)).setIfInBounds (i * 7 + 1 + 2) (.int .i64 c.done)).setIfInBounds (i * 7 + 1 + 3) (.int .i64 c.errs)).setIfInBounds (i * 7 + 1 + 4) (.int .i64 c.rt)).setIfInBounds (i * 7 + 1 + 5) (.int .i64 c.low), ?_, by simpa using h2, h3, h4, ?_⟩
  · unfold WinC.put6
    exact heap_setCell_same _ _ _ _ _ _ (heap_setCell_same _ _ _ _ _ _ (heap_setCell_same _ _ _ _ _ _ (heap_setCell_same _ _ _ _ _ _ (heap_setCell_same _ _ _ _ _ _ (heap_setCell_same _ _ _ _ _ _ h1)))))
  · intro k hk j hj
    by_cases e : k = i
    · subst e
      dsimp only
      rw [if_pos rfl]
      match j, hj with
      | 0, _ =>
        rw [Array.getElem?_setIfInBounds_ne (by omega), Array.getElem?_setIfInBounds_ne (by omega), Array.getElem?_setIfInBounds_ne (by omega), Array.getElem?_setIfInBounds_ne (by omega), Array.getElem?_setIfInBounds_ne (by omega), Array.getElem?_setIfInBounds_ne (by omega)]
        exact h5 k hk 0 (by omega)
      | 1, _ => simp [Array.getElem?_setIfInBounds, bv]; omega
      | 2, _ => simp [Array.getElem?_setIfInBounds, bv]; omega
      | 3, _ => simp [Array.getElem?_setIfInBounds, bv]; omega
      | 4, _ => simp [Array.getElem?_setIfInBounds, bv]; omega
      | 5, _ => simp [Array.getElem?_setIfInBounds, bv]; omega
      | 6, _ => simp [Array.getElem?_setIfInBounds, bv]; omega
    · dsimp only
      rw [if_neg e, ← h5 k hk j hj]
      rw [Array.getElem?_setIfInBounds_ne (by omega), Array.getElem?_setIfInBounds_ne (by omega), Array.getElem?_setIfInBounds_ne (by omega), Array.getElem?_setIfInBounds_ne (by omega), Array.getElem?_setIfInBounds_ne (by omega), Array.getElem?_setIfInBounds_ne (by omega)]

set_option maxHeartbeats 400000 in
theorem forget1_any (a0 a1 a2 a3 a4 a5 a6 lim : Int) (F : Nat) (w : World) (hF : F < w.heap.size) (h : w.cell? ⟨F, 0, none⟩ = some (.int .i64 lim)) :
    Calls Tryz.prog 153 #[.agg #[.int .i64 a0, .int .i64 a1, .int .i64 a2, .int .i64 a3, .int .i64 a4, .int .i64 a5, .int .i64 a6], .pointer (some ⟨F, 0, none⟩)] w fun e w' => e = .returned (.bool (decide (a0 < lim))) ∧ Below w.heap.size w w' := by
  go_enter Tryz.func153, Tryz.ntmps153
  go_wp2
  go_ret
  exact ⟨rfl, (by repeat (first | (with_reducible exact Below.refl _ _) | (with_reducible refine Below.setCell ?_ (by first | (simp; done) | (simp; omega) | omega) _) | (with_reducible refine Below.alloc ?_ (by first | (simp; done) | (simp; omega) | omega) _) | (with_reducible refine Below.drew ?_) | (with_reducible refine below_drewN ?_ _)))⟩

set_option maxRecDepth 20000 in
set_option maxHeartbeats 1000000 in
theorem indexBk (g cap n c F : Nat) (f : Nat → Bkt) (lim : Int) (w : World) (hn : n ≤ 9223372036854775807) (hF : F < w.heap.size) (hl : w.cell? ⟨F, 0, none⟩ = some (.int .i64 lim)) (HB : Hid (IsBk w g cap n f)) :
    Calls Tryz.prog 161 #[.slice (some ⟨g, 0, none⟩) n c, .func (Fn.func 153) #[] #[.pointer (some ⟨F, 0, none⟩)]] w
      fun e w' => Below w.heap.size w w' ∧ ((∃ k : Nat, k < n ∧ e = .returned (.int .i64 k) ∧ (f k).at_ < lim ∧ ∀ i, i < k → lim ≤ (f i).at_) ∨ (e = .returned (.int .i64 (-1)) ∧ ∀ i, i < n → lim ≤ (f i).at_)) := by
  have HL := hid hl
  have HG := HB.out.lt
  go_enter Tryz.func161, Tryz.ntmps161
  go_wp2
  go_loopw [8] (fun i wr => ∃ k : Nat, k ≤ n ∧ i = .int .i64 k ∧ Below w.heap.size w wr ∧ ∀ i, i < k → lim ≤ (f i).at_) (fun i _ => n - (intOf i).toNat)
  case atStart => exact ⟨0, Nat.zero_le _, rfl, Below.refl _ _, fun i hi => by omega⟩
  case round =>
    obtain ⟨k, hk, rfl, hbel, hno⟩ := hrel
    have HBel := hid hbel
    have HNo := hid hno
    clear hno hl
    by_cases hlt : k < n
    · obtain ⟨c0, c1, c2, c3, c4, c5, c6⟩ := (HB.out.below hbel HG).at6 k hlt
      have hs := hbel.size
      have hl2 : wr.cell? ⟨F, 0, none⟩ = some (.int .i64 lim) := (hbel.cell (p := ⟨F, 0, none⟩) hF).trans HL.out
      clear hbel
      by_cases hq : (f k).at_ < lim
      · have HQ := hid hq
        have hd : decide ((f k).at_ < lim) = true := by simpa using hq
        clear hq
        go_wp2_with fail
        refine (forget1_any _ _ _ _ _ _ _ lim F _ (by omega) hl2).mono ?_
        rintro e w2 ⟨rfl, hb2⟩
        have HB2 : Hid (Below w.heap.size w w2) := hid (HBel.out.trans (hb2.mono hs))
        clear hb2 c0 c1 c2 c3 c4 c5 c6
        go_wp2
        go_ret
        exact ⟨HB2.out, .inl ⟨k, hlt, rfl, HQ.out, HNo.out⟩⟩
      · have HQ : Hid (lim ≤ (f k).at_) := hid (by omega)
        have hd : decide ((f k).at_ < lim) = false := by simpa using hq
        clear hq
        go_wp2_with fail
        refine (forget1_any _ _ _ _ _ _ _ lim F _ (by omega) hl2).mono ?_
        rintro e w2 ⟨rfl, hb2⟩
        have HB2 : Hid (Below w.heap.size w w2) := hid (HBel.out.trans (hb2.mono hs))
        clear hb2 c0 c1 c2 c3 c4 c5 c6
        go_wp2
        go_roundw
        case rel => exact ⟨k + 1, by omega, by go_num, HB2.out, fun i hi => by by_cases h : i = k; (subst h; exact HQ.out); exact HNo.out i (by omega)⟩
        case measure => simp [intOf]; omega
    · go_wp2
      go_ret
      exact ⟨HBel.out, .inr ⟨rfl, fun i hi => HNo.out i (by omega)⟩⟩

end Go.Proofs.YtbihelpnojjacaaGreat.WinC

/- Contract of DeleteFunc over buckets, by forget's closure. -/
namespace Go.Proofs.YtbihelpnojjacaaGreat.WinD
open Go.ChangeShapes Go.WideShapes Go.ChangeAt Go.RowKit Base WinM WinA WinB WinC WldF WldG

theorem Keeps.sets {b : Nat} {w : World} : ∀ (vs : List Value) (w' : World) (o : Nat), Keeps b w w' → Keeps b w (w'.setCells b o vs)
  | [], _, _, h => h
  | v :: vs, w', o, h => by
    show Keeps b w ((w'.setCell ⟨b, o, none⟩ v).setCells b (o + 1) vs)
    exact Keeps.sets vs _ _ (h.set o v)

theorem Keeps.put7 {b : Nat} {w w' : World} (h : Keeps b w w') (o : Nat) (x : Bkt) : Keeps b w (put7 w' b o x) :=
  ((((((h.set _ _).set _ _).set _ _).set _ _).set _ _).set _ _).set _ _

/-- the first n as a list -/
def toL (f : Nat → Bkt) (n : Nat) : List Bkt := (List.range n).map f
theorem toL_succ (f : Nat → Bkt) (n : Nat) : toL f (n + 1) = toL f n ++ [f n] := by simp [toL, List.range_succ]
theorem toL_len (f : Nat → Bkt) (n : Nat) : (toL f n).length = n := by simp [toL]
theorem toL_congr {f f' : Nat → Bkt} {n : Nat} (h : ∀ i, i < n → f i = f' i) : toL f n = toL f' n := by
  unfold toL
  exact List.map_congr_left fun i hi => h i (List.mem_range.1 hi)
/-- what stays -/
def stays (lim : Int) (l : List Bkt) : List Bkt := l.filter fun b => !decide (b.at_ < lim)
theorem stays_all {lim : Int} {f : Nat → Bkt} {n : Nat} (h : ∀ i, i < n → lim ≤ (f i).at_) : stays lim (toL f n) = toL f n := by
  unfold stays toL
  rw [List.filter_eq_self]
  intro b hb
  obtain ⟨i, hi, rfl⟩ := List.mem_map.1 hb
  simpa using h i (List.mem_range.1 hi)
theorem stays_yes {lim : Int} {f : Nat → Bkt} {n : Nat} (h : lim ≤ (f n).at_) : stays lim (toL f (n + 1)) = stays lim (toL f n) ++ [f n] := by
  rw [toL_succ]; unfold stays; rw [List.filter_append]; congr 1; rw [List.filter_cons, if_pos (by simpa using h)]; rfl
theorem stays_no {lim : Int} {f : Nat → Bkt} {n : Nat} (h : (f n).at_ < lim) : stays lim (toL f (n + 1)) = stays lim (toL f n) := by
  rw [toL_succ]; unfold stays; rw [List.filter_append, List.filter_cons, if_neg (by simpa using h)]; simp

theorem run_clear7 (w : World) (ty : TypeId) (g o n c : Nat) (hn : 0 < n) (hc : ∀ j, j < n * 7 → (w.cell? ⟨g, o + j, none⟩).isSome = true) (hf : ∀ j, j < n * 7 → w.frozen? ⟨g, o + j, none⟩ = false) :
    (Builtin.clear_ #[177] ty #[.slice (some ⟨g, o, none⟩) n c]).run Tryz.prog w = .ok (.tuple #[]) (w.setCells g o (List.replicate (n * 7) (.int .i64 0))) := by
  have hzv : ∀ w, (zeroValue 182).run Tryz.prog w = .ok (.agg #[.int .i64 0, .int .i64 0, .int .i64 0, .int .i64 0, .int .i64 0, .int .i64 0, .int .i64 0]) w := fun _ => by kernel_rfl
  have hz : (Value.agg #[.int .i64 0, .int .i64 0, .int .i64 0, .int .i64 0, .int .i64 0, .int .i64 0, .int .i64 0]).cells = #[.int .i64 0, .int .i64 0, .int .i64 0, .int .i64 0, .int .i64 0, .int .i64 0, .int .i64 0] := rfl
  have hzc : (Builtin.zeroCells #[Value.int .i64 0, .int .i64 0, .int .i64 0, .int .i64 0, .int .i64 0, .int .i64 0, .int .i64 0] n).toList = List.replicate (n * 7) (.int .i64 0) := by
    simp [Builtin.zeroCells]
    apply List.ext_getElem
    · simp
    · intro i h1 h2
      simp
      have : i % 7 < 7 := Nat.mod_lt _ (by omega)
      generalize i % 7 = r at *
      match r, this with
      | 0, _ => rfl
      | 1, _ => rfl
      | 2, _ => rfl
      | 3, _ => rfl
      | 4, _ => rfl
      | 5, _ => rfl
      | 6, _ => rfl
  have hst := run_storeCells_cells (P := Tryz.prog) g o (List.replicate (n * 7) (.int .i64 0)) 0 w (by simpa using hc) (by simpa using hf) (by intro v hv'; rw [List.eq_of_mem_replicate hv']; rfl)
  simp only [Nat.add_zero] at hst
  obtain ⟨m, rfl⟩ : ∃ m, n = m + 1 := ⟨n - 1, by omega⟩
  simp [Builtin.clear_, run_underlying Tryz.underlying177, hzv, hz, hzc, hst]

def DelPost (g cap n : Nat) (f : Nat → Bkt) (lim : Int) (w : World) (e : Ending) (w' : World) : Prop :=
  ∃ (m : Nat) (f' : Nat → Bkt), e = .returned (.slice (some ⟨g, 0, none⟩) m cap) ∧ toL f' m = stays lim (toL f n) ∧ IsBk w' g cap m f' ∧ Keeps g w w'

set_option maxRecDepth 100000 in
set_option maxHeartbeats 2000000 in
theorem deleteBk (g cap n F : Nat) (f : Nat → Bkt) (lim : Int) (w : World) (hn : n ≤ 9223372036854775807) (hcap : cap ≤ 9223372036854775807) (hF : F < w.heap.size) (hFg : F ≠ g) (hl : w.cell? ⟨F, 0, none⟩ = some (.int .i64 lim)) (HB : Hid (IsBk w g cap n f)) :
    Calls Tryz.prog 152 #[.slice (some ⟨g, 0, none⟩) n cap, .func (Fn.func 153) #[] #[.pointer (some ⟨F, 0, none⟩)]] w (DelPost g cap n f lim w) := by
  have HL := hid hl
  have HG := HB.out.lt
  have hncap := HB.out.le.1
  go_enter Tryz.func152, Tryz.ntmps152
  go_wp2_with fail
  refine (indexBk g cap n cap F f lim _ hn hF hl HB).mono ?_
  rintro e w1 ⟨hb1, ⟨k0, hk0, rfl, hyes, hno⟩ | ⟨rfl, hno⟩⟩
  · have HB1 := hid hb1
    have HYes := hid hyes
    have HNo := hid hno
    clear hb1 hyes hno hl
    have hkm : ((k0 : Int) == -1) = false := by simp
    go_wp2
    go_loopw [5, 6] (fun i j wr => ∃ (ii jj : Nat) (f' : Nat → Bkt), i = .int .i64 ii ∧ j = .int .i64 jj ∧ ii < jj ∧ jj ≤ n ∧ IsBk wr g cap n f' ∧ toL f' ii = stays lim (toL f jj) ∧ (∀ k, jj ≤ k → k < n → f' k = f k) ∧ Keeps g w wr) (fun _ j _ => n - (intOf j).toNat)
    case atStart =>
      refine ⟨k0, k0 + 1, f, rfl, by go_num, by omega, by omega, HB.out.below HB1.out HG, ?_, fun _ _ _ => rfl, Keeps.belowOf HB1.out⟩
      rw [stays_no HYes.out, stays_all HNo.out]
    case round =>
      obtain ⟨ii, jj, f', rfl, rfl, hij, hjn, hbk, hst, hrest, hkeep⟩ := hrel
      have HBk := hid hbk
      have HSt := hid hst
      have HRest := hid hrest
      have HK := hid hkeep
      have hsz := hkeep.size
      have hFr : F < wr.heap.size := by omega
      have hl2 : wr.cell? ⟨F, 0, none⟩ = some (.int .i64 lim) := (hkeep.cell 0 hF hFg).trans HL.out
      clear hst hrest hkeep HYes HNo HB1
      by_cases hlt : jj < n
      · have hff := HRest.out jj (Nat.le_refl _) hlt
        obtain ⟨c0, c1, c2, c3, c4, c5, c6⟩ := hbk.at6 jj hlt
        rw [hff] at c0 c1 c2 c3 c4 c5 c6
        have HFF := hid hff
        clear hff hbk
        by_cases hq : (f jj).at_ < lim
        · have HQ := hid hq
          have hd : decide ((f jj).at_ < lim) = true := by simpa using hq
          clear hq
          go_wp2_with fail
          refine (forget1_any _ _ _ _ _ _ _ lim F _ (by simp; omega) (by go_cell)).mono ?_
          rintro e w2 ⟨rfl, hb2⟩
          have hs2 := hb2.size
          have hbw : Below wr.heap.size wr w2 := ((Below.refl _ _).alloc (Nat.le_refl _) _).trans (hb2.mono (by simp))
          have HBk2 := hid (HBk.out.below hbw (HBk.out.lt))
          have HK2 := hid (HK.out.trans (Keeps.belowOf hbw))
          clear hb2 hbw c0 c1 c2 c3 c4 c5 c6
          go_wp2
          go_roundw
          case rel => exact ⟨ii, jj + 1, f', rfl, by go_num, by omega, by omega, HBk2.out, by rw [stays_no HQ.out]; exact HSt.out, fun k h1 h2 => HRest.out k (by omega) h2, HK2.out⟩
          case measure => simp [intOf]; omega
        · have HQ : Hid (lim ≤ (f jj).at_) := hid (by omega)
          have hd : decide ((f jj).at_ < lim) = false := by simpa using hq
          clear hq
          go_wp2_with fail
          refine (forget1_any _ _ _ _ _ _ _ lim F _ (by simp; omega) (by go_cell)).mono ?_
          rintro e w2 ⟨rfl, hb2⟩
          obtain ⟨hc2, hf2⟩ := bcell hb2
          have d0 : w2.cell? ⟨wr.heap.size, 0, none⟩ = some (.int .i64 (f jj).at_) := by rw [hc2 _ _ (by simp)]; go_cell
          have d1 : w2.cell? ⟨wr.heap.size, 1, none⟩ = some (.int .i64 (f jj).c.pass) := by rw [hc2 _ _ (by simp)]; go_cell
          have d2 : w2.cell? ⟨wr.heap.size, 2, none⟩ = some (.int .i64 (f jj).c.block) := by rw [hc2 _ _ (by simp)]; go_cell
          have d3 : w2.cell? ⟨wr.heap.size, 3, none⟩ = some (.int .i64 (f jj).c.done) := by rw [hc2 _ _ (by simp)]; go_cell
          have d4 : w2.cell? ⟨wr.heap.size, 4, none⟩ = some (.int .i64 (f jj).c.errs) := by rw [hc2 _ _ (by simp)]; go_cell
          have d5 : w2.cell? ⟨wr.heap.size, 5, none⟩ = some (.int .i64 (f jj).c.rt) := by rw [hc2 _ _ (by simp)]; go_cell
          have d6 : w2.cell? ⟨wr.heap.size, 6, none⟩ = some (.int .i64 (f jj).c.low) := by rw [hc2 _ _ (by simp)]; go_cell
          have hbw : Below wr.heap.size wr w2 := ((Below.refl _ _).alloc (Nat.le_refl _) _).trans (hb2.mono (by simp))
          have hbk2 := HBk.out.below hbw (HBk.out.lt)
          have HK2 := hid (HK.out.trans (Keeps.belowOf hbw))
          obtain ⟨e0, e1, e2, e3, e4, e5, e6⟩ := hbk2.at6 ii (by omega)
          have z0 := hbk2.frozen (ii * 7)
          have z1 := hbk2.frozen (ii * 7 + 1)
          have z2 := hbk2.frozen (ii * 7 + 2)
          have z3 := hbk2.frozen (ii * 7 + 3)
          have z4 := hbk2.frozen (ii * 7 + 4)
          have z5 := hbk2.frozen (ii * 7 + 5)
          have z6 := hbk2.frozen (ii * 7 + 6)
          have HBk2 := hid hbk2
          clear hb2 hbw hc2 hf2 c0 c1 c2 c3 c4 c5 c6 hbk2
          go_wp2_with fail
          refine ⟨⟨ii + 1, jj + 1, fun k => if k = ii then f jj else f' k, by go_num, by go_num, by omega, by omega, HBk2.out.put7 ii (by omega) (f jj), ?_, ?_, Keeps.put7 HK2.out _ _⟩, by simp [intOf]; omega⟩
          · rw [stays_yes HQ.out, ← HSt.out, toL_succ, if_pos rfl]
            congr 1
            exact toL_congr fun i hi => if_neg (by omega)
          · intro k h1 h2
            dsimp only
            rw [if_neg (by omega)]
            exact HRest.out k (by omega) h2
      · obtain rfl : jj = n := by omega
        clear HRest
        have hcl : ∀ ty, (Builtin.clear_ #[177] ty #[.slice (some ⟨g, ii * 7, none⟩) (jj - ii) (cap - ii)]).run Tryz.prog wr = .ok (.tuple #[]) (wr.setCells g (ii * 7) (List.replicate ((jj - ii) * 7) (.int .i64 0))) :=
          fun ty => run_clear7 wr ty g (ii * 7) (jj - ii) (cap - ii) (by omega) (fun j hj => hbk.there _ (by omega)) (fun j hj => hbk.frozen _)
        clear hbk
        go_wp2
        go_ret
        exact ⟨ii, f', rfl, HSt.out, (HBk.out.less (by omega)).sets_past _ _ _ (Nat.le_refl _), Keeps.sets _ _ _ HK.out⟩
  · have HB1 := hid hb1
    have HNo := hid hno
    clear hb1 hno hl
    go_wp2
    go_ret
    exact ⟨n, f, rfl, (stays_all HNo.out).symm, HB.out.below HB1.out HG, Keeps.belowOf HB1.out⟩

end Go.Proofs.YtbihelpnojjacaaGreat.WinD

/- A window in memory; contracts of refuses, begin, first, New. -/
namespace Go.Proofs.YtbihelpnojjacaaGreat.WinE
open Go.ChangeShapes Go.WideShapes Go.ChangeAt Go.RowKit Base WinM WinA WinB WinC WinD WldF WldG

/-- what was there lies as it lay, but for the blocks of R -/
structure Lets (R : Nat → Prop) (w w' : World) : Prop where
  os : w'.os = w.os
  tape : w'.tape = w.tape
  output : w'.output = w.output
  size : w.heap.size ≤ w'.heap.size
  block : ∀ k, k < w.heap.size → ¬ R k → w'.heap[k]? = w.heap[k]?

theorem Lets.refl (R : Nat → Prop) (w : World) : Lets R w w := ⟨rfl, rfl, rfl, Nat.le_refl _, fun _ _ _ => rfl⟩
theorem Lets.trans {R : Nat → Prop} {w w1 w2 : World} (h : Lets R w w1) (h2 : Lets R w1 w2) : Lets R w w2 :=
  ⟨h2.os.trans h.os, h2.tape.trans h.tape, h2.output.trans h.output, Nat.le_trans h.size h2.size, fun k hk hb => (h2.block k (Nat.lt_of_lt_of_le hk h.size) hb).trans (h.block k hk hb)⟩
/-- on by a step that may write what is new besides -/
theorem Lets.on {R R' : Nat → Prop} {w w1 w2 : World} (h : Lets R w w1) (h2 : Lets R' w1 w2) (hr : ∀ k, R' k → R k ∨ w.heap.size ≤ k) : Lets R w w2 :=
  ⟨h2.os.trans h.os, h2.tape.trans h.tape, h2.output.trans h.output, Nat.le_trans h.size h2.size, fun k hk hb => (h2.block k (Nat.lt_of_lt_of_le hk h.size) (fun h3 => (hr k h3).elim hb (fun h4 => absurd h4 (by omega)))).trans (h.block k hk hb)⟩
theorem Lets.mono {R R' : Nat → Prop} {w w1 : World} (h : Lets R w w1) (hr : ∀ k, R k → R' k) : Lets R' w w1 := ⟨h.os, h.tape, h.output, h.size, fun k hk hb => h.block k hk (fun h3 => hb (hr k h3))⟩
theorem Lets.ofKeeps {b : Nat} {w w1 : World} (h : Keeps b w w1) : Lets (fun k => k = b) w w1 := ⟨h.os, h.tape, h.output, h.size, fun k hk hb => h.block k hk (fun e => hb (Option.some.inj e))⟩
theorem Lets.ofBelow {R : Nat → Prop} {w w1 : World} (h : Below w.heap.size w w1) : Lets R w w1 := ⟨h.os, h.tape, h.output, h.size, fun k hk _ => h.block k hk⟩
theorem Lets.ofGrown {R : Nat → Prop} {row : Option Nat} {w w1 : World} (h : w.grownBy w1 row) (hr : ∀ k, row = some k → R k) : Lets R w w1 := ⟨h.os, h.tape, h.output, h.size, fun k hk hb => h.block k hk (fun e => hb (hr k e.symm))⟩
theorem Lets.alloc {R : Nat → Prop} {w w1 : World} (h : Lets R w w1) (o : Obj) : Lets R w (w1.alloc o) := h.trans (Lets.ofGrown (World.grownBy_alloc w1 o none) (fun _ e => by cases e))
theorem Lets.set {R : Nat → Prop} {w w1 : World} (h : Lets R w w1) (a : Addr) (v : Value) (hr : R a.block ∨ w.heap.size ≤ a.block) : Lets R w (w1.setCell a v) := h.on (Lets.ofGrown (R := fun k => k = a.block) (grown_set w1 a v) (fun k e => (Option.some.inj e).symm)) (fun k e => by subst e; exact hr)
theorem Lets.drewN {R : Nat → Prop} {w w1 : World} (h : Lets R w w1) (n : Nat) : Lets R w (w1.drewN n) := ⟨h.os, h.tape, h.output, h.size, h.block⟩
theorem Lets.below {R : Nat → Prop} {w w1 : World} (h : Lets R w w1) (B : Nat) (hs : B ≤ w.heap.size) (hr : ∀ k, R k → B ≤ k) : Below B w w1 :=
  ⟨h.os, h.tape, h.output, h.size, fun k hk => h.block k (Nat.lt_of_lt_of_le hk hs) (fun h3 => by have := hr k h3; omega)⟩

structure Win where
  width : Nat
  size : Nat
  last : Int
  bs : List Bkt

/-- the value of a window's buckets; go: the block where they lie, if there is one -/
def Holds (w : World) (go : Option Nat) (v : Value) (bs : List Bkt) : Prop :=
  (go = none ∧ v = .slice none 0 0 ∧ bs = []) ∨
  ∃ g cap f, go = some g ∧ v = .slice (some ⟨g, 0, none⟩) bs.length cap ∧ IsBk w g cap bs.length f ∧ toL f bs.length = bs

def IsWin (w : World) (p : Nat) (go : Option Nat) (s : Win) : Prop :=
  go ≠ some p ∧ ∃ v, w.heap[p]? = some (.cells #[.int .i64 s.width, .int .i64 s.size, .int .i64 s.last, v] 179) ∧ Holds w go v s.bs

theorem Holds.of_block {w w' : World} {go : Option Nat} {v : Value} {bs : List Bkt} (h : Holds w go v bs) (e : ∀ g, go = some g → w'.heap[g]? = w.heap[g]?) : Holds w' go v bs := by
  rcases h with h | ⟨g, cap, f, h1, h2, h3, h4⟩
  · exact .inl h
  · exact .inr ⟨g, cap, f, h1, h2, h3.of_block (e g h1), h4⟩
theorem Holds.lt {w : World} {go : Option Nat} {v : Value} {bs : List Bkt} (h : Holds w go v bs) (g : Nat) (e : go = some g) : g < w.heap.size := by
  rcases h with ⟨h, _⟩ | ⟨g', cap, f, h1, h2, h3, h4⟩
  · rw [h] at e; cases e
  · rw [h1] at e; cases e; exact h3.lt
theorem IsWin.lt {w : World} {p : Nat} {go : Option Nat} {s : Win} (h : IsWin w p go s) : p < w.heap.size := by
  obtain ⟨_, v, h1, _⟩ := h
  exact (Array.getElem?_eq_some_iff.1 h1).1
theorem IsWin.lt2 {w : World} {p : Nat} {go : Option Nat} {s : Win} (h : IsWin w p go s) (g : Nat) (e : go = some g) : g < w.heap.size := by
  obtain ⟨_, v, _, h2⟩ := h
  exact h2.lt g e
theorem IsWin.keep {w w' : World} {p : Nat} {go : Option Nat} {s : Win} {R : Nat → Prop} (h : IsWin w p go s) (hl : Lets R w w') (hp : ¬ R p) (hg : ∀ g, go = some g → ¬ R g) : IsWin w' p go s := by
  have hl2 := h.lt2
  have hl1 := h.lt
  obtain ⟨h0, v, h1, h2⟩ := h
  exact ⟨h0, v, (hl.block p hl1 hp).trans h1, h2.of_block fun g e => hl.block g (hl2 g e) (hg g e)⟩
theorem IsWin.cells {w : World} {p : Nat} {go : Option Nat} {s : Win} (h : IsWin w p go s) :
    w.cell? ⟨p, 0, none⟩ = some (.int .i64 s.width) ∧ w.cell? ⟨p, 1, none⟩ = some (.int .i64 s.size) ∧ w.cell? ⟨p, 2, none⟩ = some (.int .i64 s.last) ∧ ∃ v, w.cell? ⟨p, 3, none⟩ = some v ∧ Holds w go v s.bs := by
  obtain ⟨h0, v, h1, h2⟩ := h
  exact ⟨by simp [World.cell?, h1], by simp [World.cell?, h1], by simp [World.cell?, h1], v, by simp [World.cell?, h1], h2⟩
theorem IsWin.frozen {w : World} {p : Nat} {go : Option Nat} {s : Win} (h : IsWin w p go s) (o : Nat) : w.frozen? ⟨p, o, none⟩ = false := by
  obtain ⟨h0, v, h1, h2⟩ := h
  simp [World.frozen?, h1]

/-- a window's error at a time -/
def refM (last at_ : Int) : Int := if at_ < 0 ∨ 1152921504606846976 < at_ then 2 else if at_ < last then 7 else 0

set_option maxHeartbeats 400000 in
theorem refuses_any (p : Nat) (last at_ : Int) (w : World) (h : w.cell? ⟨p, 2, none⟩ = some (.int .i64 last)) :
    Calls Tryz.prog 126 #[.pointer (some ⟨p, 0, none⟩), .int .i64 at_] w fun e w' => e = .returned (.int .i64 (refM last at_)) ∧ w = w' := by
  by_cases h1 : at_ < 0
  · have e : refM last at_ = 2 := by unfold refM; rw [if_pos (.inl h1)]
    rw [e]; clear e
    go_enter Tryz.func126, Tryz.ntmps126
    go_wp2
    go_ret
    exact ⟨rfl, rfl⟩
  · by_cases h2 : 1152921504606846976 < at_
    · have e : refM last at_ = 2 := by unfold refM; rw [if_pos (.inr h2)]
      rw [e]; clear e
      have h1' : decide (at_ < 0) = false := by simpa using h1
      clear h1
      go_enter Tryz.func126, Tryz.ntmps126
      go_wp2
      go_ret
      exact ⟨rfl, rfl⟩
    · have h1' : decide (at_ < 0) = false := by simpa using h1
      have h2' : decide (1152921504606846976 < at_) = false := by simpa using h2
      by_cases h3 : at_ < last
      · have e : refM last at_ = 7 := by unfold refM; rw [if_neg (by omega), if_pos h3]
        rw [e]; clear e h1 h2
        go_enter Tryz.func126, Tryz.ntmps126
        go_wp2
        go_ret
        exact ⟨rfl, rfl⟩
      · have e : refM last at_ = 0 := by unfold refM; rw [if_neg (by omega), if_neg h3]
        rw [e]; clear e h1 h2
        have h3' : decide (at_ < last) = false := by simpa using h3
        clear h3
        go_enter Tryz.func126, Tryz.ntmps126
        go_wp2
        go_ret
        exact ⟨rfl, rfl⟩

/-- where the bucket begins in which a time lies -/
def begN (q a : Nat) : Nat := a - a % q
theorem begN_le (q a : Nat) : begN q a ≤ a := Nat.sub_le _ _
theorem begN_eq (q a : Nat) : (a : Int) - (a : Int) % (q : Int) = (begN q a : Nat) := by
  unfold begN
  have h : a % q ≤ a := Nat.mod_le _ _
  have e : ((a % q : Nat) : Int) = (a : Int) % (q : Int) := rfl
  rw [← e]
  omega

set_option maxHeartbeats 400000 in
theorem begin_any (p : Nat) (wd sz q at_ : Nat) (w : World) (hw : w.cell? ⟨p, 0, none⟩ = some (.int .i64 wd)) (hs : w.cell? ⟨p, 1, none⟩ = some (.int .i64 sz)) (hz : 0 < sz) (hq : wd / sz = q) (hq0 : 0 < q) (hz2 : wd ≤ 1099511627776) (ha : at_ ≤ 1152921504606846976) :
    Calls Tryz.prog 132 #[.pointer (some ⟨p, 0, none⟩), .int .i64 at_] w fun e w' => e = .returned (.int .i64 (begN q at_ : Nat)) ∧ ∃ n, w.drewN n = w' := by
  have e1 : (wd : Int) / (sz : Int) = (q : Int) := by rw [← hq]; rfl
  have n1 : ((sz : Int) == 0) = false := by simp; omega
  have n2 : ((q : Int) == 0) = false := by simp; omega
  have q1 : q ≤ 1099511627776 := by rw [← hq]; exact Nat.le_trans (Nat.div_le_self _ _) hz2
  have m1 : (0 : Int) ≤ (at_ : Int) % (q : Int) := Int.emod_nonneg _ (by omega)
  have m2 : (at_ : Int) % (q : Int) ≤ at_ := Int.ofNat_le.2 (Nat.mod_le at_ q)
  have hB := hid (begN_eq q at_)
  clear hq hz2
  go_enter Tryz.func132, Tryz.ntmps132
  go_wp2_with fail
  go_quiet (fail)
  go_wp2_with fail
  go_ret
  exact ⟨by rw [← hB.out]; rfl, _, rfl⟩

set_option maxRecDepth 20000 in
set_option maxHeartbeats 400000 in
theorem first_any (p : Nat) (wd sz q at_ : Nat) (w : World) (hw : w.cell? ⟨p, 0, none⟩ = some (.int .i64 wd)) (hs : w.cell? ⟨p, 1, none⟩ = some (.int .i64 sz)) (hz : 0 < sz) (hq : wd / sz = q) (hq0 : 0 < q) (hz2 : wd ≤ 1099511627776) (ha : at_ ≤ 1152921504606846976) :
    Calls Tryz.prog 130 #[.pointer (some ⟨p, 0, none⟩), .int .i64 at_] w fun e w' => e = .returned (.int .i64 ((begN q at_ : Int) - wd + q)) ∧ ∃ n, w.drewN n = w' := by
  have e1 : (wd : Int) / (sz : Int) = (q : Int) := by rw [← hq]; rfl
  have n1 : ((sz : Int) == 0) = false := by simp; omega
  have q1 : q ≤ 1099511627776 := by rw [← hq]; exact Nat.le_trans (Nat.div_le_self _ _) hz2
  have b1 : begN q at_ ≤ 1152921504606846976 := Nat.le_trans (begN_le q at_) ha
  have HQ := hid (fun m => begin_any p wd sz q at_ (w.drewN m) hw hs hz hq hq0 hz2 ha)
  generalize begN q at_ = b at *
  clear hq
  go_enter Tryz.func130, Tryz.ntmps130
  go_wp2_with fail
  go_quiet (first | (go_at_call 132; exact Calls.quiet_of ((HQ.out _).mono fun _ _ h => ⟨h.1, h.2.imp fun _ e => e.symm⟩)))
  go_wp2_with fail
  go_ret
  exact ⟨rfl, _, rfl⟩

end Go.Proofs.YtbihelpnojjacaaGreat.WinE

/- Contracts of forget and bucket. -/
namespace Go.Proofs.YtbihelpnojjacaaGreat.WinF
open Go.ChangeShapes Go.WideShapes Go.ChangeAt Go.RowKit Base WinM WinA WinB WinC WinD WinE WldF WldG

set_option maxHeartbeats 400000 in
theorem indexNil (F : Nat) (w : World) :
    Calls Tryz.prog 161 #[.slice none 0 0, .func (Fn.func 153) #[] #[.pointer (some ⟨F, 0, none⟩)]] w fun e w' => e = .returned (.int .i64 (-1)) ∧ w = w' := by
  go_enter Tryz.func161, Tryz.ntmps161
  go_wp2
  go_loop [8] (fun i => i = .int .i64 0) (fun _ => 0)
  case atStart => rfl
  case round =>
    obtain rfl := hrel
    go_wp2
    go_ret
    exact ⟨rfl, rfl⟩

set_option maxHeartbeats 400000 in
theorem deleteNil (F : Nat) (w : World) :
    Calls Tryz.prog 152 #[.slice none 0 0, .func (Fn.func 153) #[] #[.pointer (some ⟨F, 0, none⟩)]] w fun e w' => e = .returned (.slice none 0 0) ∧ w = w' := by
  go_enter Tryz.func152, Tryz.ntmps152
  go_wp2_with fail
  refine (indexNil F _).mono ?_
  rintro e w1 ⟨rfl, rfl⟩
  go_wp2
  go_ret
  exact ⟨rfl, rfl⟩

/-- what DeleteFunc comes to, of whatever window's buckets -/
theorem delete_any (F : Nat) (go : Option Nat) (v : Value) (bs : List Bkt) (lim : Int) (w : World) (h : Holds w go v bs) (hn : bs.length ≤ 9223372036854775807) (hF : F < w.heap.size) (hFg : go ≠ some F) (hl : w.cell? ⟨F, 0, none⟩ = some (.int .i64 lim)) :
    Calls Tryz.prog 152 #[v, .func (Fn.func 153) #[] #[.pointer (some ⟨F, 0, none⟩)]] w
      fun e w' => ∃ a n c, e = .returned (.slice a n c) ∧ Holds w' go (.slice a n c) (stays lim bs) ∧ Lets (fun k => go = some k) w w' := by
  rcases h with ⟨rfl, rfl, rfl⟩ | ⟨g, cap, f, rfl, rfl, hb, hf⟩
  · refine (deleteNil F w).mono ?_
    rintro e w' ⟨rfl, rfl⟩
    exact ⟨_, _, _, rfl, .inl ⟨rfl, rfl, rfl⟩, Lets.refl _ _⟩
  · have hc := hb.le
    unfold maxLen at hc
    refine (deleteBk g cap bs.length F f lim w hn (by omega) hF (fun e => hFg (by rw [e])) hl (hid hb)).mono ?_
    rintro e w' ⟨m, f', rfl, hst, hb', hk⟩
    have hlen : m = (stays lim bs).length := by rw [← hf, ← hst, toL_len]
    refine ⟨_, _, _, rfl, .inr ⟨g, cap, f', rfl, by rw [← hlen], by rw [← hlen]; exact hb', by rw [← hlen, hst, hf]⟩, (Lets.ofKeeps hk).mono fun k e => by rw [e]⟩

set_option maxRecDepth 20000 in
set_option maxHeartbeats 1000000 in
theorem forget_any (p : Nat) (go : Option Nat) (s : Win) (lim : Int) (w : World) (h : IsWin w p go s) (hn : s.bs.length ≤ 9223372036854775807) :
    Calls Tryz.prog 129 #[.pointer (some ⟨p, 0, none⟩), .int .i64 lim] w
      fun e w' => e = .returned (.tuple #[]) ∧ IsWin w' p go { s with bs := stays lim s.bs } ∧ Lets (fun k => k = p ∨ go = some k) w w' := by
  have hp := h.lt
  obtain ⟨c0, c1, c2, v, c3, hv⟩ := h.cells
  have HW := hid h
  have HV := hid hv
  have f3 := h.frozen 3
  have hg2 := h.lt2
  have HG2 := hid hg2
  clear h hv hg2
  go_enter Tryz.func129, Tryz.ntmps129
  go_wp2_with fail
  refine (delete_any w.heap.size go v s.bs lim _ (HV.out.of_block fun g e => Below.heap_alloc _ _ _ (HG2.out g e)) hn (by simp) (fun e => by have := HG2.out _ e; omega) (by simp)).mono ?_
  rintro e w1 ⟨va, vn, vc, rfl, hv', hl⟩
  have hl2 : Lets (fun k => go = some k) w w1 := (Lets.ofBelow ((Below.refl _ w).alloc (Nat.le_refl _) _)).trans hl
  have hpg : ¬ go = some p := HW.out.1
  have hw1 : IsWin w1 p go s ∨ True := .inr trivial
  have hb : w1.heap[p]? = w.heap[p]? := hl2.block p hp hpg
  have k3 : w1.cell? ⟨p, 3, none⟩ = some v := (World.cell?_of_block (a := ⟨p, 3, none⟩) hb).trans c3
  have g3 : w1.frozen? ⟨p, 3, none⟩ = false := (World.frozen?_of_block (a := ⟨p, 3, none⟩) hb).trans f3
  have HL2 := hid hl2
  have HV' := hid hv'
  have HBk := hid hb
  clear hl hl2 hv' hb hw1 c0 c1 c2 c3 f3
  go_wp2
  go_end0
  refine ⟨rfl, ⟨HW.out.1, .slice va vn vc, ?_, HV'.out.of_block fun g e => heap_setCell_other _ _ _ _ (fun e2 => HW.out.1 (by rw [e, e2]))⟩, (HL2.out.mono fun k e => .inr e).set _ _ (.inl (.inl rfl))⟩
  obtain ⟨_, v0, h1, _⟩ := HW.out
  rw [← HBk.out] at h1
  exact heap_setCell_same _ _ _ _ _ _ h1

/-- the row's cells, one behind the other -/
def flat (f : Nat → Bkt) (n : Nat) : List Value := (toL f n).flatMap bv

end Go.Proofs.YtbihelpnojjacaaGreat.WinF

/- Contract of bucket. -/
namespace Go.Proofs.YtbihelpnojjacaaGreat.WinG
open Go.ChangeShapes Go.WideShapes Go.ChangeAt Go.RowKit Base WinM WinA WinB WinC WinD WinE WinF WldF WldG

theorem infoBk : (Tryz.prog.info? 182).map (fun i => (i.zero, i.size, i.bytes)) = some (some (.agg #[.int .i64 0, .int .i64 0, .int .i64 0, .int .i64 0, .int .i64 0, .int .i64 0, .int .i64 0]), 7, 56) := by kernel_rfl

theorem flat_succ (f : Nat → Bkt) (n : Nat) : flat f (n + 1) = flat f n ++ bv (f n) := by unfold flat; rw [toL_succ, List.flatMap_append]; simp
theorem flat_len (f : Nat → Bkt) (n : Nat) : (flat f n).length = n * 7 := by
  induction n with
  | zero => rfl
  | succ n ih => rw [flat_succ, List.length_append, ih]; simp [bv]; omega
theorem flat_get (f : Nat → Bkt) (n i j : Nat) (hi : i < n) (hj : j < 7) : (flat f n)[i * 7 + j]? = (bv (f i))[j]? := by
  induction n with
  | zero => omega
  | succ n ih =>
    rw [flat_succ]
    by_cases h : i < n
    · rw [List.getElem?_append_left (by rw [flat_len]; omega)]; exact ih h
    · obtain rfl : i = n := by omega
      rw [List.getElem?_append_right (by rw [flat_len]; omega), flat_len]
      congr 1
      omega

theorem own_of_bk {w : World} {g cap n : Nat} {f : Nat → Bkt} (h : IsBk w g cap n f) : w.ownsRow 0 182 7 (.slice (some ⟨g, 0, none⟩) n cap) n (flat f n) := by
  obtain ⟨cur, h1, h2, h3, h4, h5⟩ := h
  refine ⟨flat_len f n, .inr ⟨g, cap, cur, rfl, Nat.zero_le _, h1, h3, h4, h2, ?_⟩⟩
  apply List.ext_getElem?
  intro k
  by_cases hk : k < n * 7
  · have e : k = k / 7 * 7 + k % 7 := by omega
    rw [List.getElem?_take, if_pos hk, Array.getElem?_toList, e, flat_get f n (k / 7) (k % 7) (by omega) (by omega)]
    exact h5 (k / 7) (by omega) (k % 7) (by omega)
  · rw [List.getElem?_take, if_neg hk, List.getElem?_eq_none (by rw [flat_len]; omega)]

theorem bk_of_own {w : World} {base n : Nat} {v : Value} {f : Nat → Bkt} (h : w.ownsRow base 182 7 v n (flat f n)) (hn : 0 < n) : ∃ g cap, v = .slice (some ⟨g, 0, none⟩) n cap ∧ IsBk w g cap n f := by
  obtain ⟨hl, h⟩ := h
  rcases h with ⟨_, h0⟩ | ⟨g, cap, cur, hv, hg, hh, hc, hm, hs, hcur⟩
  · omega
  · refine ⟨g, cap, hv, cur, hh, hs, hc, hm, fun i hi j hj => ?_⟩
    have h1 : (cur.toList.take (n * 7))[i * 7 + j]? = (flat f n)[i * 7 + j]? := by rw [hcur]
    rw [List.getElem?_take, if_pos (by omega), flat_get f n i j hi hj, Array.getElem?_toList] at h1
    exact h1

theorem flat_snoc (f : Nat → Bkt) (n : Nat) (b : Bkt) : flat f n ++ bv b = flat (fun k => if k = n then b else f k) (n + 1) := by
  rw [flat_succ, if_pos rfl]
  congr 1
  unfold flat
  rw [toL_congr fun i hi => ?_]
  rw [if_neg (by omega)]

theorem bk_of_own' {w : World} {base n : Nat} {v : Value} {f : Nat → Bkt} {xs : List Value} (h : w.ownsRow base 182 7 v n xs) (hn : 0 < n) (e : xs = flat f n) : ∃ g cap, v = .slice (some ⟨g, 0, none⟩) n cap ∧ IsBk w g cap n f := by
  subst e; exact bk_of_own h hn

def BucketPost (p : Nat) (go : Option Nat) (s : Win) (b : Int) (n : Nat) (f : Nat → Bkt) (w : World) (e : Ending) (w' : World) : Prop :=
  ∃ g cap, e = .returned (.pointer (some ⟨g, n * 7, none⟩)) ∧ IsBk w' g cap (n + 1) (fun k => if k = n then ⟨b, ⟨0, 0, 0, 0, 0, 0⟩⟩ else f k) ∧
    w'.heap[p]? = some (.cells #[.int .i64 s.width, .int .i64 s.size, .int .i64 s.last, .slice (some ⟨g, 0, none⟩) (n + 1) cap] 179) ∧
    g ≠ p ∧ (go = some g ∨ w.heap.size ≤ g) ∧ Lets (fun k => k = p ∨ go = some k) w w'

set_option maxRecDepth 20000 in
set_option maxHeartbeats 1000000 in
theorem bucket_nil (p : Nat) (a : Option Addr) (cap0 : Nat) (go : Option Nat) (s : Win) (b : Int) (f : Nat → Bkt) (w : World)
    (hw : w.heap[p]? = some (.cells #[.int .i64 s.width, .int .i64 s.size, .int .i64 s.last, .slice a 0 cap0] 179)) (hgo : go ≠ some p) (hgl : ∀ g, go = some g → g < w.heap.size)
    (HO : Hid (w.ownsRow 0 182 7 (.slice a 0 cap0) 0 (flat f 0))) (HE : Hid ((Value.slice a 0 cap0).ownBlock = go))  :
    Calls Tryz.prog 131 #[.pointer (some ⟨p, 0, none⟩), .int .i64 b] w (BucketPost p go s b 0 f w) := by
  obtain ⟨i0, hi, hz0, hz1, hz2⟩ := info_parts infoBk
  have HWp := hid hw
  have HGo := hid hgo
  have HGl := hid hgl
  have hp : p < w.heap.size := (Array.getElem?_eq_some_iff.1 hw).1
  have c3 : w.cell? ⟨p, 3, none⟩ = some (.slice a 0 cap0) := by simp [World.cell?, hw]
  have f3 : w.frozen? ⟨p, 3, none⟩ = false := by simp [World.frozen?, hw]
  have hown := hid (HO.out.kept (World.grownBy_alloc w (.cells #[.int .i64 b, .int .i64 0, .int .i64 0, .int .i64 0, .int .i64 0, .int .i64 0, .int .i64 0] 182) none) (by cases (Value.slice a 0 cap0).ownBlock; exact .inl rfl; exact .inr (by simp)))
  clear hw hgo hgl
  go_enter Tryz.func131, Tryz.ntmps131
  go_wp2_with (at_builtin; refine wpList_append_own_at _ rfl _ _ 177 rfl 0 182 i0 (.agg #[.int .i64 0, .int .i64 0, .int .i64 0, .int .i64 0, .int .i64 0, .int .i64 0, .int .i64 0]) 7 56 Tryz.underlying177 hi hz0 hz1 hz2 rfl (by decide) _ _ _ rfl hown.out ⟨w.heap.size, 0, none⟩ 1 1 [.int .i64 b, .int .i64 0, .int .i64 0, .int .i64 0, .int .i64 0, .int .i64 0, .int .i64 0] rfl ?c1 ?c2 ?c3 ?c4 ?c5 (Nat.zero_le _) ?_; rotate_left 5; intro v' w2 hown1 hgrow hnil hat; obtain ⟨g, cap, rfl, hbk⟩ := bk_of_own' (f := fun k => if k = 0 then ⟨b, ⟨0, 0, 0, 0, 0, 0⟩⟩ else f k) hown1 (by omega) (flat_snoc f 0 ⟨b, ⟨0, 0, 0, 0, 0, 0⟩⟩); have HBK := hid hbk; have HGR := hid hgrow; have HAT := hid hat; clear hown1 hgrow hnil hat hbk; have m3 : w2.cell? ⟨p, 3, none⟩ = some (.slice a 0 cap0) := (World.cell?_of_block (a := ⟨p, 3, none⟩) ((HGR.out.block p (by simp; omega) (fun e => HGo.out (HE.out.symm.trans e.symm))).trans (Below.heap_alloc _ _ _ hp))).trans c3; have n3 : w2.frozen? ⟨p, 3, none⟩ = false := (World.frozen?_of_block (a := ⟨p, 3, none⟩) ((HGR.out.block p (by simp; omega) (fun e => HGo.out (HE.out.symm.trans e.symm))).trans (Below.heap_alloc _ _ _ hp))).trans f3; have hw2 := hid ((HGR.out.block p (by simp; omega) (fun e => HGo.out (HE.out.symm.trans e.symm))).trans (Below.heap_alloc _ _ _ hp)); clear c3 f3)
  case c1 => rfl
  case c2 =>
    intro j u hj
    rw [Go.WideShapes.add_plain, Nat.zero_add]
    exact (World.cell?_alloc_new w _ _ j).trans (by simpa using hj)
  case c3 => intro u hu; simp at hu; rcases hu with rfl | rfl <;> rfl
  case c4 => unfold maxLen; omega
  case c5 => omega
  have m3' : (w2.setCell ⟨p, 3, none⟩ (.slice (some ⟨g, 0, none⟩) (0 + 1) cap)).cell? ⟨p, 3, none⟩ = some (.slice (some ⟨g, 0, none⟩) (0 + 1) cap) := World.cell?_setCell_same _ _ _ m3
  have hgp : g ≠ p := by
    rcases HAT.out with e | e
    · intro e2; subst e2; exact HGo.out (HE.out.symm.trans e.symm)
    · have e2 : g = (w.alloc (.cells #[.int .i64 b, .int .i64 0, .int .i64 0, .int .i64 0, .int .i64 0, .int .i64 0, .int .i64 0] 182)).heap.size := Option.some.inj e
      simp at e2
      omega
  go_quiet (fail)
  go_wp2_with fail
  go_ret
  refine ⟨g, cap, rfl, HBK.out.of_block (heap_setCell_other _ _ _ _ (by simp; exact hgp)), ?_, hgp, ?_, ?_⟩
  · have h1 := HWp.out
    rw [← hw2.out] at h1
    exact heap_setCell_same _ _ _ _ _ _ h1
  · rcases HAT.out with e | e
    · exact .inl (HE.out.symm.trans e.symm)
    · right
      have e2 : g = (w.alloc (.cells #[.int .i64 b, .int .i64 0, .int .i64 0, .int .i64 0, .int .i64 0, .int .i64 0, .int .i64 0] 182)).heap.size := Option.some.inj e
      simp at e2
      omega
  · refine Lets.drewN (Lets.set ?_ _ _ (.inl (.inl rfl))) _
    exact ((Lets.refl _ w).alloc _).trans (Lets.ofGrown HGR.out (fun k e => .inr (HE.out.symm.trans e)))

set_option maxRecDepth 20000 in
set_option maxHeartbeats 1000000 in
theorem bucket_new (p : Nat) (g0 n : Nat) (x : Int) (cap0 : Nat) (go : Option Nat) (s : Win) (b : Int) (f : Nat → Bkt) (w : World)
    (hw : w.heap[p]? = some (.cells #[.int .i64 s.width, .int .i64 s.size, .int .i64 s.last, .slice (some ⟨g0, 0, none⟩) n cap0] 179)) (hgo : go ≠ some p) (hgl : ∀ g, go = some g → g < w.heap.size)
    (HO : Hid (w.ownsRow 0 182 7 (.slice (some ⟨g0, 0, none⟩) n cap0) n (flat f n))) (HE : Hid ((Value.slice (some ⟨g0, 0, none⟩) n cap0).ownBlock = go)) (hn : 0 < n) (hn2 : n ≤ 1000) (hlast : w.cell? ⟨g0, (n - 1) * 7, none⟩ = some (.int .i64 x)) (hne : x ≠ b) :
    Calls Tryz.prog 131 #[.pointer (some ⟨p, 0, none⟩), .int .i64 b] w (BucketPost p go s b n f w) := by
  obtain ⟨i0, hi, hz0, hz1, hz2⟩ := info_parts infoBk
  have HWp := hid hw
  have HGo := hid hgo
  have HGl := hid hgl
  have hp : p < w.heap.size := (Array.getElem?_eq_some_iff.1 hw).1
  have c3 : w.cell? ⟨p, 3, none⟩ = some (.slice (some ⟨g0, 0, none⟩) n cap0) := by simp [World.cell?, hw]
  have f3 : w.frozen? ⟨p, 3, none⟩ = false := by simp [World.frozen?, hw]
  have hown := hid (HO.out.kept (World.grownBy_alloc w (.cells #[.int .i64 b, .int .i64 0, .int .i64 0, .int .i64 0, .int .i64 0, .int .i64 0, .int .i64 0] 182) none) (by cases (Value.slice (some ⟨g0, 0, none⟩) n cap0).ownBlock; exact .inl rfl; exact .inr (by simp)))
  clear hw hgo hgl
  have c0 := hlast
  have HC0 := hid hlast
  have hne' : (x != b) = true := by simpa using hne
  have hn0 : ((n : Int) == 0) = false := by simp; omega
  clear hne
  go_enter Tryz.func131, Tryz.ntmps131
  go_wp2_with (at_builtin; refine wpList_append_own_at _ rfl _ _ 177 rfl 0 182 i0 (.agg #[.int .i64 0, .int .i64 0, .int .i64 0, .int .i64 0, .int .i64 0, .int .i64 0, .int .i64 0]) 7 56 Tryz.underlying177 hi hz0 hz1 hz2 rfl (by decide) _ _ _ rfl hown.out ⟨w.heap.size, 0, none⟩ 1 1 [.int .i64 b, .int .i64 0, .int .i64 0, .int .i64 0, .int .i64 0, .int .i64 0, .int .i64 0] rfl ?c1 ?c2 ?c3 ?c4 ?c5 (Nat.zero_le _) ?_; rotate_left 5; intro v' w2 hown1 hgrow hnil hat; obtain ⟨g, cap, rfl, hbk⟩ := bk_of_own' (f := fun k => if k = n then ⟨b, ⟨0, 0, 0, 0, 0, 0⟩⟩ else f k) hown1 (by omega) (flat_snoc f n ⟨b, ⟨0, 0, 0, 0, 0, 0⟩⟩); have HBK := hid hbk; have HGR := hid hgrow; have HAT := hid hat; clear hown1 hgrow hnil hat hbk; have m3 : w2.cell? ⟨p, 3, none⟩ = some (.slice (some ⟨g0, 0, none⟩) n cap0) := (World.cell?_of_block (a := ⟨p, 3, none⟩) ((HGR.out.block p (by simp; omega) (fun e => HGo.out (HE.out.symm.trans e.symm))).trans (Below.heap_alloc _ _ _ hp))).trans c3; have n3 : w2.frozen? ⟨p, 3, none⟩ = false := (World.frozen?_of_block (a := ⟨p, 3, none⟩) ((HGR.out.block p (by simp; omega) (fun e => HGo.out (HE.out.symm.trans e.symm))).trans (Below.heap_alloc _ _ _ hp))).trans f3; have hw2 := hid ((HGR.out.block p (by simp; omega) (fun e => HGo.out (HE.out.symm.trans e.symm))).trans (Below.heap_alloc _ _ _ hp)); clear c3 f3)
  case c1 => rfl
  case c2 =>
    intro j u hj
    rw [Go.WideShapes.add_plain, Nat.zero_add]
    exact (World.cell?_alloc_new w _ _ j).trans (by simpa using hj)
  case c3 => intro u hu; simp at hu; rcases hu with rfl | rfl <;> rfl
  case c4 => unfold maxLen; omega
  case c5 => omega
  have m3' : (w2.setCell ⟨p, 3, none⟩ (.slice (some ⟨g, 0, none⟩) (n + 1) cap)).cell? ⟨p, 3, none⟩ = some (.slice (some ⟨g, 0, none⟩) (n + 1) cap) := World.cell?_setCell_same _ _ _ m3
  have hgp : g ≠ p := by
    rcases HAT.out with e | e
    · intro e2; subst e2; exact HGo.out (HE.out.symm.trans e.symm)
    · have e2 : g = (w.alloc (.cells #[.int .i64 b, .int .i64 0, .int .i64 0, .int .i64 0, .int .i64 0, .int .i64 0, .int .i64 0] 182)).heap.size := Option.some.inj e
      simp at e2
      omega
  go_quiet (fail)
  go_wp2_with fail
  go_ret
  refine ⟨g, cap, rfl, HBK.out.of_block (heap_setCell_other _ _ _ _ (by simp; exact hgp)), ?_, hgp, ?_, ?_⟩
  · have h1 := HWp.out
    rw [← hw2.out] at h1
    exact heap_setCell_same _ _ _ _ _ _ h1
  · rcases HAT.out with e | e
    · exact .inl (HE.out.symm.trans e.symm)
    · right
      have e2 : g = (w.alloc (.cells #[.int .i64 b, .int .i64 0, .int .i64 0, .int .i64 0, .int .i64 0, .int .i64 0, .int .i64 0] 182)).heap.size := Option.some.inj e
      simp at e2
      omega
  · refine Lets.drewN (Lets.set ?_ _ _ (.inl (.inl rfl))) _
    exact ((Lets.refl _ w).alloc _).trans (Lets.ofGrown HGR.out (fun k e => .inr (HE.out.symm.trans e)))

set_option maxRecDepth 20000 in
set_option maxHeartbeats 1000000 in
theorem bucket_same (p : Nat) (g0 n : Nat) (cap0 : Nat) (v1 v2 v3 : Value) (b : Int) (w : World)
    (hw : w.heap[p]? = some (.cells #[v1, v2, v3, .slice (some ⟨g0, 0, none⟩) n cap0] 179)) (hn : 0 < n) (hn2 : n ≤ 1000) (hlast : w.cell? ⟨g0, (n - 1) * 7, none⟩ = some (.int .i64 b)) :
    Calls Tryz.prog 131 #[.pointer (some ⟨p, 0, none⟩), .int .i64 b] w fun e w' => e = .returned (.pointer (some ⟨g0, (n - 1) * 7, none⟩)) ∧ ∃ m, w.drewN m = w' := by
  have c3 : w.cell? ⟨p, 3, none⟩ = some (.slice (some ⟨g0, 0, none⟩) n cap0) := by simp [World.cell?, hw]
  have c0 := hlast
  have hn0 : ((n : Int) == 0) = false := by simp; omega
  have hbb : (b != b) = false := by simp
  clear hw
  go_enter Tryz.func131, Tryz.ntmps131
  go_wp2_with fail
  go_quiet (fail)
  go_wp2_with fail
  go_ret
  exact ⟨rfl, _, rfl⟩

end Go.Proofs.YtbihelpnojjacaaGreat.WinG

/- Contract of Add, of one more. -/
namespace Go.Proofs.YtbihelpnojjacaaGreat.WinH
open Go.ChangeShapes Go.WideShapes Go.ChangeAt Go.RowKit Base WinM WinA WinB WinC WinD WinE WinF WinG WldF WldG

set_option maxRecDepth 20000 in
set_option maxHeartbeats 1000000 in
theorem indexRight (g o cap : Nat) (c : Cnt) (w : World) (hg : g < w.heap.size) (hc : c.Right) (H : Hid (At6 w g o c)) :
    Calls Tryz.prog 151 #[.slice (some ⟨g, o, none⟩) 1 cap, .func (Fn.func 128) #[] #[]] w fun e w' => e = .returned (.int .i64 (-1)) ∧ Below w.heap.size w w' := by
  have HR := hid hc
  clear hc
  go_enter Tryz.func151, Tryz.ntmps151
  go_wp2
  go_loopw [8] (fun i wr => ∃ k : Nat, k ≤ 1 ∧ i = .int .i64 k ∧ Below w.heap.size w wr) (fun i _ => 1 - (intOf i).toNat)
  case atStart => exact ⟨0, by omega, rfl, Below.refl _ _⟩
  case round =>
    obtain ⟨k, hk, rfl, hbel⟩ := hrel
    have HB := hid hbel
    match k, hk with
    | 0, _ =>
      obtain ⟨k1, k2, k3, k4, k5, k6⟩ := H.out
      rw [← hbel.cell (p := ⟨g, o, none⟩) hg] at k1
      rw [← hbel.cell (p := ⟨g, o + 1, none⟩) hg] at k2
      rw [← hbel.cell (p := ⟨g, o + 2, none⟩) hg] at k3
      rw [← hbel.cell (p := ⟨g, o + 3, none⟩) hg] at k4
      rw [← hbel.cell (p := ⟨g, o + 4, none⟩) hg] at k5
      rw [← hbel.cell (p := ⟨g, o + 5, none⟩) hg] at k6
      have hs := hbel.size
      clear hbel
      go_wp2_with fail
      refine (wrong_no c.pass c.block c.done c.errs c.rt c.low HR.out _).mono ?_
      rintro e w2 ⟨rfl, rfl⟩
      go_wp2
      go_roundw
      case rel => exact ⟨1, by omega, by go_num, HB.out.alloc hs _⟩
      case measure => simp [intOf]
    | 1, _ =>
      clear hbel
      go_wp2
      go_ret
      exact ⟨rfl, HB.out⟩

set_option maxHeartbeats 400000 in
theorem containsRight (g o cap : Nat) (c : Cnt) (w : World) (hg : g < w.heap.size) (hc : c.Right) (H : Hid (At6 w g o c)) :
    Calls Tryz.prog 127 #[.slice (some ⟨g, o, none⟩) 1 cap, .func (Fn.func 128) #[] #[]] w fun e w' => e = .returned (.bool false) ∧ Below w.heap.size w w' := by
  have HI := hid (indexRight g o cap c w hg hc H)
  clear hc H
  go_enter Tryz.func127, Tryz.ntmps127
  go_wp2_with fail
  refine HI.out.mono ?_
  rintro e w1 ⟨rfl, hb⟩
  have HB := hid hb
  clear hb HI
  go_wp2
  go_ret
  exact ⟨rfl, HB.out⟩

set_option maxHeartbeats 400000 in
theorem add_no (p : Nat) (last at_ : Int) (v : Value) (w : World) (h : w.cell? ⟨p, 2, none⟩ = some (.int .i64 last)) (hr : refM last at_ ≠ 0) :
    Calls Tryz.prog 97 #[.pointer (some ⟨p, 0, none⟩), .int .i64 at_, v] w fun e w' => e = .returned (.int .i64 (refM last at_)) ∧ w = w' := by
  have HR := hid (refuses_any p last at_ w h)
  generalize refM last at_ = r at *
  have hr' : (r != 0) = true := by simpa using hr
  clear hr h
  go_enter Tryz.func97, Tryz.ntmps97
  go_wp2_with fail
  refine HR.out.mono ?_
  rintro e w1 ⟨rfl, rfl⟩
  go_wp2
  go_ret
  exact ⟨rfl, rfl⟩

/-- counts noted in the bucket that begins at b -/
def noteM (b : Int) (c : Cnt) (l : List Bkt) : List Bkt :=
  match l.getLast? with
  | some x => if x.at_ = b then l.dropLast ++ [⟨b, joinM x.c c⟩] else l ++ [⟨b, joinM ⟨0, 0, 0, 0, 0, 0⟩ c⟩]
  | none => [⟨b, joinM ⟨0, 0, 0, 0, 0, 0⟩ c⟩]

/-- a window behind counts noted at a time; q: a bucket's width -/
def addM (q : Nat) (s : Win) (at_ : Nat) (c : Cnt) : Win :=
  { s with last := at_, bs := noteM (begN q at_) c (stays ((begN q at_ : Int) - s.width + q) s.bs) }

theorem noteM_nil (b : Int) (c : Cnt) : noteM b c [] = [⟨b, joinM ⟨0, 0, 0, 0, 0, 0⟩ c⟩] := rfl
theorem toL_last (f : Nat → Bkt) (m : Nat) : (toL f (m + 1)).getLast? = some (f m) := by rw [toL_succ]; simp
theorem toL_drop (f : Nat → Bkt) (m : Nat) : (toL f (m + 1)).dropLast = toL f m := by rw [toL_succ]; simp
theorem noteM_same (b : Int) (c : Cnt) (f : Nat → Bkt) (m : Nat) (h : (f m).at_ = b) : noteM b c (toL f (m + 1)) = toL f m ++ [⟨b, joinM (f m).c c⟩] := by
  unfold noteM; rw [toL_last, toL_drop]; dsimp only; rw [if_pos h]
theorem noteM_new (b : Int) (c : Cnt) (f : Nat → Bkt) (m : Nat) (h : (f m).at_ ≠ b) : noteM b c (toL f (m + 1)) = toL f (m + 1) ++ [⟨b, joinM ⟨0, 0, 0, 0, 0, 0⟩ c⟩] := by
  unfold noteM; rw [toL_last]; dsimp only; rw [if_neg h]

theorem IsWin.setLast {w : World} {p : Nat} {go : Option Nat} {s : Win} (h : IsWin w p go s) (t : Int) : IsWin (w.setCell ⟨p, 2, none⟩ (.int .i64 t)) p go { s with last := t } := by
  obtain ⟨h0, v, h1, h2⟩ := h
  exact ⟨h0, v, heap_setCell_same _ _ _ _ _ _ h1, h2.of_block fun g e => heap_setCell_other _ _ _ _ (fun e2 => h0 (by rw [e, e2]))⟩

theorem IsWin.drewN {w : World} {p : Nat} {go : Option Nat} {s : Win} (h : IsWin w p go s) (n : Nat) : IsWin (w.drewN n) p go s := h

theorem zero_fine : (Cnt.mk 0 0 0 0 0 0).Fine := by unfold Cnt.Fine InN; decide

/-- what bucket leaves: the place where counts are noted, all told -/
theorem bucket_all (p : Nat) (go : Option Nat) (s : Win) (b : Int) (w : World) (h : IsWin w p go s) (hn : s.bs.length ≤ 1000) (hfine : ∀ x ∈ s.bs, x.c.Fine) :
    Calls Tryz.prog 131 #[.pointer (some ⟨p, 0, none⟩), .int .i64 b] w fun e w' => ∃ (g cap k : Nat) (f : Nat → Bkt), e = .returned (.pointer (some ⟨g, k * 7, none⟩)) ∧ IsBk w' g cap (k + 1) f ∧ (f k).c.Fine ∧ (f k).at_ = b ∧
      w'.heap[p]? = some (.cells #[.int .i64 s.width, .int .i64 s.size, .int .i64 s.last, .slice (some ⟨g, 0, none⟩) (k + 1) cap] 179) ∧ g ≠ p ∧ (go = some g ∨ w.heap.size ≤ g) ∧ Lets (fun k => k = p ∨ go = some k) w w' ∧
      ∀ c, noteM b c s.bs = toL f k ++ [⟨b, joinM (f k).c c⟩] := by
  have hgl := h.lt2
  obtain ⟨h0, v, h1, hv⟩ := h
  rcases hv with ⟨rfl, rfl, hbs⟩ | ⟨g, cap, f, rfl, rfl, hb, hf⟩
  · refine (bucket_nil p none 0 none s b (fun _ => ⟨0, ⟨0, 0, 0, 0, 0, 0⟩⟩) w h1 h0 hgl (hid ⟨rfl, .inl ⟨rfl, rfl⟩⟩) (hid rfl)).mono ?_
    rintro e w' ⟨g, cap, rfl, hb, hw, hgp, hg, hl⟩
    refine ⟨g, cap, 0, _, rfl, hb, ?_, rfl, hw, hgp, hg, hl, fun c => ?_⟩
    · simp only [if_true]; exact zero_fine
    · rw [hbs]; simp [noteM, toL]
  · generalize hm : s.bs.length = n at *
    by_cases hn0 : n = 0
    · subst hn0
      have hbs : s.bs = [] := List.length_eq_zero_iff.1 hm
      have hown := own_of_bk hb
      refine (bucket_nil p (some ⟨g, 0, none⟩) cap (some g) s b f w h1 h0 hgl (hid hown) (hid rfl)).mono ?_
      rintro e w' ⟨g', cap', rfl, hb', hw, hgp, hg, hl⟩
      refine ⟨g', cap', 0, _, rfl, hb', ?_, rfl, hw, hgp, hg, hl, fun c => ?_⟩
      · simp only [if_true]; exact zero_fine
      · rw [hbs]; simp [noteM, toL]
    · obtain ⟨m, rfl⟩ : ∃ m, n = m + 1 := ⟨n - 1, by omega⟩
      have hlast : w.cell? ⟨g, (m + 1 - 1) * 7, none⟩ = some (.int .i64 (f m).at_) := (hb.at6 m (by omega)).1
      by_cases hx : (f m).at_ = b
      · rw [hx] at hlast
        refine (bucket_same p g (m + 1) cap _ _ _ b w h1 (by omega) hn hlast).mono ?_
        rintro e w' ⟨rfl, k, rfl⟩
        refine ⟨g, cap, m, f, rfl, hb, hfine _ (by rw [← hf, toL_succ]; simp), hx, h1, fun e => h0 (by rw [e]), .inl rfl, (Lets.refl _ _).drewN _, fun c => ?_⟩
        rw [← hf, noteM_same b c f m hx]
      · refine (bucket_new p g (m + 1) (f m).at_ cap (some g) s b f w h1 h0 hgl (hid (own_of_bk hb)) (hid rfl) (by omega) hn hlast hx).mono ?_
        rintro e w' ⟨g', cap', rfl, hb', hw, hgp, hg, hl⟩
        refine ⟨g', cap', m + 1, _, rfl, hb', ?_, by simp, hw, hgp, hg, hl, fun c => ?_⟩
        · simp only [if_true]; exact zero_fine
        · rw [← hf, noteM_new b c f m hx]
          simp only [if_true]
          congr 1
          exact toL_congr fun i hi => by rw [if_neg (by omega)]

end Go.Proofs.YtbihelpnojjacaaGreat.WinH

/- Contract of Add, of one more. -/
namespace Go.Proofs.YtbihelpnojjacaaGreat.WinI
open Go.ChangeShapes Go.WideShapes Go.ChangeAt Go.RowKit Base WinM WinA WinB WinC WinD WinE WinF WinG WinH WldF WldG

theorem At6.lets {R : Nat → Prop} {w w' : World} {g o : Nat} {c : Cnt} (h : At6 w g o c) (hl : Lets R w w') (hg : g < w.heap.size) (hr : ¬ R g) : At6 w' g o c := by
  have e := hl.block g hg hr
  obtain ⟨h1, h2, h3, h4, h5, h6⟩ := h
  exact ⟨(World.cell?_of_block (a := ⟨g, o, none⟩) e).trans h1, (World.cell?_of_block (a := ⟨g, o + 1, none⟩) e).trans h2, (World.cell?_of_block (a := ⟨g, o + 2, none⟩) e).trans h3, (World.cell?_of_block (a := ⟨g, o + 3, none⟩) e).trans h4, (World.cell?_of_block (a := ⟨g, o + 4, none⟩) e).trans h5, (World.cell?_of_block (a := ⟨g, o + 5, none⟩) e).trans h6⟩

theorem stays_fine {lim : Int} {l : List Bkt} (h : ∀ x ∈ l, x.c.Fine) : ∀ x ∈ stays lim l, x.c.Fine := fun x hx => h x (List.mem_filter.1 hx).1

def AddPost (p : Nat) (go : Option Nat) (s' : Win) (w : World) (e : Ending) (w' : World) : Prop :=
  ∃ go', e = .returned (.int .i64 0) ∧ IsWin w' p go' s' ∧ (go' = go ∨ ∃ g, go' = some g ∧ w.heap.size ≤ g) ∧ Lets (fun k => k = p ∨ go = some k) w w'

set_option maxRecDepth 100000 in
set_option maxHeartbeats 2000000 in
theorem add_yes (p : Nat) (go : Option Nat) (s : Win) (q at_ : Nat) (c : Cnt) (gl ol capl : Nat) (w : World) (h : IsWin w p go s) (hq : s.width / s.size = q) (hq0 : 0 < q) (hz : 0 < s.size) (hwd : s.width ≤ 1099511627776)
    (hat : at_ ≤ 1152921504606846976) (hback : s.last ≤ at_) (hfine : ∀ x ∈ s.bs, x.c.Fine) (hlen : s.bs.length ≤ 1000) (hc : c.Right) (hl : At6 w gl ol c) (hgl : gl < w.heap.size) (hgp : gl ≠ p) (hgg : go ≠ some gl) :
    Calls Tryz.prog 97 #[.pointer (some ⟨p, 0, none⟩), .int .i64 at_, .slice (some ⟨gl, ol, none⟩) 1 capl] w (AddPost p go (addM q s at_ c) w) := by
  have hr0 : refM s.last at_ = 0 := by unfold refM; rw [if_neg (by omega), if_neg (by omega)]
  have hp := h.lt
  have HG2 := hid h.lt2
  have HW := hid h
  have HQ := hid (And.intro hq (And.intro hq0 (And.intro hz (And.intro hwd hat))))
  have HFine := hid hfine
  have HLen := hid hlen
  have HRight := hid hc
  have HL := hid hl
  have HGG := hid hgg
  have HRf := hid (refuses_any p s.last at_ w h.cells.2.2.1)
  rw [hr0] at HRf
  have HCt := hid (containsRight gl ol capl c w hgl hc (hid hl))
  clear hr0 h hq hq0 hz hwd hfine hlen hc hl hback hgg
  go_enter Tryz.func97, Tryz.ntmps97
  go_wp2_with fail
  refine HRf.out.mono ?_
  rintro e w1 ⟨rfl, rfl⟩
  go_wp2_with fail
  refine HCt.out.mono ?_
  rintro e w1 ⟨rfl, hb1⟩
  have hl1 : Lets (fun k => k = p ∨ go = some k) w w1 := Lets.ofBelow hb1
  have hw1 : IsWin w1 p go s := HW.out.keep (R := fun _ => False) (Lets.ofBelow hb1) (fun h => h) (fun _ _ h => h)
  obtain ⟨_, _, c2, _⟩ := hw1.cells
  have f2 := hw1.frozen 2
  have HW1 := hid hw1
  have HL1 := hid hl1
  clear HRf HCt hb1 hl1 hw1
  have hw2 := IsWin.setLast HW1.out at_
  have hl2 := HL1.out.set ⟨p, 2, none⟩ (.int .i64 at_) (.inl (.inl rfl))
  obtain ⟨d0, d1, _, _⟩ := hw2.cells
  have HF := hid (first_any p s.width s.size q at_ (w1.setCell ⟨p, 2, none⟩ (.int .i64 at_)) d0 d1 HQ.out.2.2.1 HQ.out.1 HQ.out.2.1 HQ.out.2.2.2.1 HQ.out.2.2.2.2)
  have HW2 := hid hw2
  have HL2 := hid hl2
  clear hw2 hl2 d0 d1
  go_wp2_with fail
  refine HF.out.mono ?_
  rintro e w2 ⟨rfl, n1, rfl⟩
  have HFo := hid (forget_any p go { s with last := at_ } ((begN q at_ : Int) - s.width + q) ((w1.setCell ⟨p, 2, none⟩ (.int .i64 at_)).drewN n1) (IsWin.drewN HW2.out n1) (by have := HLen.out; dsimp only; omega))
  clear HF c2 f2
  go_wp2_with fail
  refine HFo.out.mono ?_
  rintro e w3 ⟨rfl, hw3, hl3⟩
  have HL3 := hid ((HL2.out.drewN n1).trans hl3)
  have HW3 := hid hw3
  obtain ⟨d0, d1, _, _⟩ := hw3.cells
  have HB := hid (begin_any p s.width s.size q at_ w3 d0 d1 HQ.out.2.2.1 HQ.out.1 HQ.out.2.1 HQ.out.2.2.2.1 HQ.out.2.2.2.2)
  clear HFo HW2 HL2 hw3 hl3 d0 d1
  go_wp2_with fail
  refine HB.out.mono ?_
  rintro e w4 ⟨rfl, n2, rfl⟩
  have HBu := hid (bucket_all p go { s with last := at_, bs := stays ((begN q at_ : Int) - s.width + q) s.bs } (begN q at_ : Nat) (w3.drewN n2) (IsWin.drewN HW3.out n2) (by have := HLen.out; exact Nat.le_trans (List.length_filter_le _ _) this) (stays_fine HFine.out))
  clear HB
  go_wp2_with fail
  refine HBu.out.mono ?_
  rintro e w5 ⟨g, cap, k, f, rfl, hbk, hfk, hat5, hwp, hgp5, hg5, hl5, hnote⟩
  have HL5 := hid ((HL3.out.drewN n2).trans hl5)
  obtain ⟨_, k1, k2, k3, k4, k5, k6⟩ := hbk.at6 k (by omega)
  have z1 := hbk.frozen (k * 7 + 1)
  have z2 := hbk.frozen (k * 7 + 2)
  have z3 := hbk.frozen (k * 7 + 3)
  have z4 := hbk.frozen (k * 7 + 4)
  have z5 := hbk.frozen (k * 7 + 5)
  have z6 := hbk.frozen (k * 7 + 6)
  have hglw5 : gl < w5.heap.size := Nat.lt_of_lt_of_le hgl HL5.out.size
  have hnr : ¬ (gl = p ∨ go = some gl) := fun h => h.elim hgp HGG.out
  have hT := together_one (f k).c.pass (f k).c.block (f k).c.done (f k).c.errs (f k).c.rt (f k).c.low c.pass c.block c.done c.errs c.rt c.low gl ol capl w5 hfk HRight.out.1 (hid (At6.lets HL.out HL5.out hgl hnr)) hglw5
  have HT := hid hT
  have hbksz := hbk.lt
  have HBK := hid hbk
  have HNote := hid hnote
  have HWP := hid hwp
  have HG5 : Hid (go = some g ∨ w.heap.size ≤ g) := hid (hg5.imp_right fun h => Nat.le_trans HL3.out.size h)
  have hsz5 := HL5.out.size
  have hpw5 : p < w5.heap.size := by omega
  have hat5' := hid hat5
  clear HBu hbk hfk hat5 hwp hg5 hl5 hnote hT hnr HL3
  go_wp2_with fail
  refine HT.out.mono ?_
  rintro e w6 ⟨rfl, hb6⟩
  have q1 : w6.cell? ⟨g, k * 7 + 1, none⟩ = some (.int .i64 (f k).c.pass) := (hb6.cell (p := ⟨g, k * 7 + 1, none⟩) hbksz).trans k1
  have q2 : w6.cell? ⟨g, k * 7 + 2, none⟩ = some (.int .i64 (f k).c.block) := (hb6.cell (p := ⟨g, k * 7 + 2, none⟩) hbksz).trans k2
  have q3 : w6.cell? ⟨g, k * 7 + 3, none⟩ = some (.int .i64 (f k).c.done) := (hb6.cell (p := ⟨g, k * 7 + 3, none⟩) hbksz).trans k3
  have q4 : w6.cell? ⟨g, k * 7 + 4, none⟩ = some (.int .i64 (f k).c.errs) := (hb6.cell (p := ⟨g, k * 7 + 4, none⟩) hbksz).trans k4
  have q5 : w6.cell? ⟨g, k * 7 + 5, none⟩ = some (.int .i64 (f k).c.rt) := (hb6.cell (p := ⟨g, k * 7 + 5, none⟩) hbksz).trans k5
  have q6 : w6.cell? ⟨g, k * 7 + 6, none⟩ = some (.int .i64 (f k).c.low) := (hb6.cell (p := ⟨g, k * 7 + 6, none⟩) hbksz).trans k6
  have r1 : w6.frozen? ⟨g, k * 7 + 1, none⟩ = false := (hb6.frozen (p := ⟨g, k * 7 + 1, none⟩) hbksz).trans z1
  have r2 : w6.frozen? ⟨g, k * 7 + 2, none⟩ = false := (hb6.frozen (p := ⟨g, k * 7 + 2, none⟩) hbksz).trans z2
  have r3 : w6.frozen? ⟨g, k * 7 + 3, none⟩ = false := (hb6.frozen (p := ⟨g, k * 7 + 3, none⟩) hbksz).trans z3
  have r4 : w6.frozen? ⟨g, k * 7 + 4, none⟩ = false := (hb6.frozen (p := ⟨g, k * 7 + 4, none⟩) hbksz).trans z4
  have r5 : w6.frozen? ⟨g, k * 7 + 5, none⟩ = false := (hb6.frozen (p := ⟨g, k * 7 + 5, none⟩) hbksz).trans z5
  have r6 : w6.frozen? ⟨g, k * 7 + 6, none⟩ = false := (hb6.frozen (p := ⟨g, k * 7 + 6, none⟩) hbksz).trans z6
  have HB6 := hid hb6
  clear hb6 k1 k2 k3 k4 k5 k6 z1 z2 z3 z4 z5 z6 HT
  have hb6 := HBK.out.below HB6.out hbksz
  have hp6 : w6.heap[p]? = w5.heap[p]? := HB6.out.block p hpw5
  have hput := hb6.put6 k (by omega) (joinM (f k).c c)
  have HPut := hid hput
  have HP6 := hid hp6
  have hrg : (g = p ∨ go = some g) ∨ w.heap.size ≤ g := HG5.out.elim (fun h => .inl (.inr h)) .inr
  have l0 := HL5.out.trans (Lets.ofBelow HB6.out)
  have l1 := l0.set ⟨g, k * 7 + 1, none⟩ (.int .i64 (joinM (f k).c c).pass) hrg
  have l2 := l1.set ⟨g, k * 7 + 1 + 1, none⟩ (.int .i64 (joinM (f k).c c).block) hrg
  have l3 := l2.set ⟨g, k * 7 + 1 + 2, none⟩ (.int .i64 (joinM (f k).c c).done) hrg
  have l4 := l3.set ⟨g, k * 7 + 1 + 3, none⟩ (.int .i64 (joinM (f k).c c).errs) hrg
  have l5 := l4.set ⟨g, k * 7 + 1 + 4, none⟩ (.int .i64 (joinM (f k).c c).rt) hrg
  have l6 := l5.set ⟨g, k * 7 + 1 + 5, none⟩ (.int .i64 (joinM (f k).c c).low) hrg
  have HL7 := hid l6
  clear l0 l1 l2 l3 l4 l5 l6
  clear hb6 hp6 hput hrg
  unfold cv
  go_wp2
  go_ret
  have hJ : (⟨(f k).c.pass, (f k).c.block, (f k).c.done, (f k).c.errs, (f k).c.rt, (f k).c.low⟩ : Cnt) = (f k).c := rfl
  have hbs : (addM q s at_ c).bs = toL (fun j => if j = k then ⟨(f k).at_, joinM (f k).c c⟩ else f j) (k + 1) := by
    show noteM _ _ _ = _
    rw [HNote.out c, toL_succ, if_pos rfl, hat5'.out]
    congr 1
    exact toL_congr fun i hi => by rw [if_neg (by omega)]
  have hbl : (addM q s at_ c).bs.length = k + 1 := by rw [hbs, toL_len]
  refine ⟨some g, rfl, ⟨fun e => hgp5 (Option.some.inj e), .slice (some ⟨g, 0, none⟩) (k + 1) cap, ?_, .inr ⟨g, cap, (fun j => if j = k then ⟨(f k).at_, joinM (f k).c c⟩ else f j), rfl, by rw [hbl], by rw [hbl]; exact HPut.out, by rw [hbl, hbs]⟩⟩, ?_, HL7.out⟩
  · have e := HWP.out
    rw [← HP6.out] at e
    have hne : p ≠ g := fun h => hgp5 h.symm
    rw [heap_setCell_other _ _ _ _ (by exact hne), heap_setCell_other _ _ _ _ (by exact hne), heap_setCell_other _ _ _ _ (by exact hne), heap_setCell_other _ _ _ _ (by exact hne), heap_setCell_other _ _ _ _ (by exact hne), heap_setCell_other _ _ _ _ (by exact hne)]
    exact e
  · exact HG5.out.elim (fun h => .inl h.symm) (fun h => .inr ⟨g, rfl, h⟩)

end Go.Proofs.YtbihelpnojjacaaGreat.WinI

/- The iterator over a window's buckets: within, and its closure's contract. -/
namespace Go.Proofs.YtbihelpnojjacaaGreat.WinJ
open Go.ChangeShapes Go.WideShapes Go.ChangeAt Go.RowKit Base WinM WinA WinB WinC WinD WinE WinF WinG WinH WinI WldF WldG
open Go.Shelf

set_option maxRecDepth 20000 in
set_option maxHeartbeats 400000 in
theorem within_any (p : Nat) (s : Win) (go : Option Nat) (q at_ : Nat) (w : World) (h : IsWin w p go s) (hq : s.width / s.size = q) (hq0 : 0 < q) (hz : 0 < s.size) (hwd : s.width ≤ 1099511627776) (ha : at_ ≤ 1152921504606846976) :
    Calls Tryz.prog 140 #[.pointer (some ⟨p, 0, none⟩), .int .i64 at_] w fun e w' => e = .returned (.func (Fn.func 157) #[] #[.pointer (some ⟨w.heap.size, 0, none⟩), .pointer (some ⟨w.heap.size + 1, 0, none⟩)]) ∧
      Below w.heap.size w w' ∧ w'.cell? ⟨w.heap.size, 0, none⟩ = some (.pointer (some ⟨p, 0, none⟩)) ∧ w'.cell? ⟨w.heap.size + 1, 0, none⟩ = some (.int .i64 ((begN q at_ : Int) - s.width + q)) ∧ w'.heap.size = w.heap.size + 2 := by
  have hp := h.lt
  obtain ⟨c0, c1, _, _⟩ := h.cells
  have HF := hid (first_any p s.width s.size q at_ (w.alloc (.cells #[.pointer (some ⟨p, 0, none⟩)] 126)) (by go_cell) (by go_cell) hz hq hq0 hwd ha)
  clear h hq hq0 hz hwd c0 c1 ha
  go_enter Tryz.func140, Tryz.ntmps140
  go_wp2_with fail
  refine HF.out.mono ?_
  rintro e w1 ⟨rfl, m, rfl⟩
  clear HF
  go_wp2
  go_ret
  exact ⟨rfl, (by repeat (first | (with_reducible exact Below.refl _ _) | (with_reducible refine Below.setCell ?_ (by first | (simp; done) | (simp; omega) | omega) _) | (with_reducible refine Below.alloc ?_ (by first | (simp; done) | (simp; omega) | omega) _) | (with_reducible refine Below.drew ?_) | (with_reducible refine below_drewN ?_ _))), by go_cell, by go_cell, by simp⟩

/-- a bucket whose counts are fine -/
abbrev FB := { b : Bkt // b.c.Fine }
def toF (f : Nat → FB) (n : Nat) : List FB := (List.range n).map f
def staysF (lim : Int) (l : List FB) : List FB := l.filter fun b => !decide (b.1.at_ < lim)
theorem toF_succ (f : Nat → FB) (n : Nat) : toF f (n + 1) = toF f n ++ [f n] := by simp [toF, List.range_succ]
theorem toF_len (f : Nat → FB) (n : Nat) : (toF f n).length = n := by simp [toF]
theorem staysF_yes {lim : Int} {f : Nat → FB} {n : Nat} (h : lim ≤ (f n).1.at_) : staysF lim (toF f (n + 1)) = staysF lim (toF f n) ++ [f n] := by
  rw [toF_succ]; unfold staysF; rw [List.filter_append]; congr 1; rw [List.filter_cons, if_pos (by simpa using h)]; rfl
theorem staysF_no {lim : Int} {f : Nat → FB} {n : Nat} (h : (f n).1.at_ < lim) : staysF lim (toF f (n + 1)) = staysF lim (toF f n) := by
  rw [toF_succ]; unfold staysF; rw [List.filter_append, List.filter_cons, if_neg (by simpa using h)]; simp
theorem staysF_prefix {lim : Int} (f : Nat → FB) {k n : Nat} (h : k ≤ n) : staysF lim (toF f k) <+: staysF lim (toF f n) := by
  unfold staysF
  refine List.IsPrefix.filter _ ?_
  obtain ⟨d, rfl⟩ : ∃ d, n = k + d := ⟨n - k, by omega⟩
  induction d with
  | zero => exact List.prefix_refl _
  | succ d ih => exact (ih (by omega)).trans (by rw [← Nat.add_assoc, toF_succ]; exact List.prefix_append _ _)
theorem staysF_map (lim : Int) (f : Nat → FB) (n : Nat) : (staysF lim (toF f n)).map (·.1) = stays lim (toL (fun i => (f i).1) n) := by
  induction n with
  | zero => rfl
  | succ n ih =>
    by_cases h : lim ≤ (f n).1.at_
    · rw [staysF_yes h, stays_yes (f := fun i => (f i).1) h, List.map_append, ih]; rfl
    · rw [staysF_no (by omega), stays_no (f := fun i => (f i).1) (by omega), ih]

attribute [local go_sem] Oper.semAt_some

/-- the value that is handed to a loop's body -/
def be (x : FB) : Array Value := #[.agg #[.int .i64 x.1.at_, .int .i64 x.1.c.pass, .int .i64 x.1.c.block, .int .i64 x.1.c.done, .int .i64 x.1.c.errs, .int .i64 x.1.c.rt, .int .i64 x.1.c.low]]

/-- what a round keeps: all below n0, and block b -/
def Kp (n0 b : Nat) (W W' : World) : Prop := Below n0 W W' ∧ W'.heap[b]? = W.heap[b]?
theorem Kp.refl (n0 b : Nat) (W : World) : Kp n0 b W W := ⟨Below.refl _ _, rfl⟩
theorem Kp.trans {n0 b : Nat} {A B C : World} (h : Kp n0 b A B) (h2 : Kp n0 b B C) : Kp n0 b A C := ⟨h.1.trans h2.1, h2.2.trans h.2⟩
theorem Kp.alloc {n0 b : Nat} {A B : World} (h : Kp n0 b A B) (hn : n0 ≤ B.heap.size) (hb : b < B.heap.size) (o : Obj) : Kp n0 b A (B.alloc o) := ⟨h.1.alloc hn o, (Below.heap_alloc B o b hb).trans h.2⟩

set_option maxRecDepth 100000 in
set_option maxHeartbeats 2000000 in
theorem within1_in (n : Nat) (hn : 1 ≤ n) (l B1 B2 n0 B p g len cap : Nat) (f : Nat → FB) (lim : Int) (hlen : len ≤ 9223372036854775807) (hg : g < n0) (J Jx : List FB → World → Prop) (hJ : AbidesFrom B J)
    (hY : ∀ pre x W, J pre W → pre.length < len → YieldAt Fence.wide (n - 1) Tryz.prog l (be x) W fun e W' =>
      (e = .returned (.bool true) ∧ J (pre ++ [x]) W' ∧ Kp n0 B2 W W') ∨ (e = .returned (.bool false) ∧ Jx (pre ++ [x]) W'))
    (W : World) (hsz : n0 ≤ W.heap.size) (hb2 : B2 < W.heap.size) (h1 : W.cell? ⟨B1, 0, none⟩ = some (.pointer (some ⟨p, 0, none⟩))) (h2 : W.cell? ⟨B2, 0, none⟩ = some (.int .i64 lim)) (h3 : W.cell? ⟨p, 3, none⟩ = some (.slice (some ⟨g, 0, none⟩) len cap)) (HB : Hid (IsBk W g cap len fun i => (f i).1)) (h0 : J [] W) :
    CallsIn Fence.wide n Tryz.prog 157 #[.func (.yield l) #[] #[], .pointer (some ⟨B1, 0, none⟩), .pointer (some ⟨B2, 0, none⟩)] W fun e W' => (∃ v, e = .returned v) ∧
      ((∃ ys, ys = staysF lim (toF f len) ∧ J ys W') ∨ (∃ pre, pre <+: staysF lim (toF f len) ∧ Jx pre W')) := by
  refine callsIn_of_wp Tryz.func157 rfl trivial ?_ rfl
  simp only [Tryz.ntmps157, List.size_toArray, List.length_cons, List.length_nil, Nat.reduceAdd, Nat.reduceSub, Array.replicate_succ, Array.replicate_zero, List.push_toArray, List.append_toArray, List.nil_append, List.cons_append]
  gi_wp2
  gi_loopw [11] (fun i wr => ∃ k : Nat, k ≤ len ∧ i = .int .i64 k ∧ J (staysF lim (toF f k)) wr ∧ Kp n0 B2 W wr) (fun i _ => len - (intOf i).toNat)
  case atStart => exact ⟨0, Nat.zero_le _, rfl, h0, Kp.refl _ _ _⟩
  case round =>
    obtain ⟨k, hk, rfl, hJs, hnx⟩ := hrel
    by_cases hlt : k < len
    · obtain ⟨c0, c1, c2, c3, c4, c5, c6⟩ := (HB.out.below hnx.1 hg).at6 k hlt
      have k2 : wr.cell? ⟨B2, 0, none⟩ = some (.int .i64 lim) := (World.cell?_of_block (a := ⟨B2, 0, none⟩) hnx.2).trans h2
      have hsw := hnx.1.size
      have z2 : B2 < wr.heap.size := by omega
      have hJs2 := hJ _ wr (wr.alloc (.cells #[.int .i64 (f k).1.at_, .int .i64 (f k).1.c.pass, .int .i64 (f k).1.c.block, .int .i64 (f k).1.c.done, .int .i64 (f k).1.c.errs, .int .i64 (f k).1.c.rt, .int .i64 (f k).1.c.low] 182)) none hJs (World.grownBy_alloc _ _ _) (fun _ e => by cases e)
      have HN := hid (hnx.alloc (by omega) (by omega) (.cells #[.int .i64 (f k).1.at_, .int .i64 (f k).1.c.pass, .int .i64 (f k).1.c.block, .int .i64 (f k).1.c.done, .int .i64 (f k).1.c.errs, .int .i64 (f k).1.c.rt, .int .i64 (f k).1.c.low] 182))
      by_cases hq : lim ≤ (f k).1.at_
      · obtain ⟨fn, tmps, assign, body, hy, hR⟩ := hY _ (f k) _ hJs2 (by
          have : (staysF lim (toF f k)).length ≤ (toF f k).length := List.length_filter_le _ _
          rw [toF_len] at this; omega)
        dsimp only [be] at hy
        have HQ := hid hq
        have hd : decide (lim ≤ (f k).1.at_) = true := by simpa using hq
        clear hq hJs hJs2
        gi_wp2
        refine hR.mono ?_
        rintro e W3 (⟨rfl, hJ3, hk3⟩ | ⟨rfl, hJx3⟩)
        · have HJ3 := hid hJ3
          have HK3 := hid hk3
          clear hJ3 hk3 hy
          gi_wp2
          go_roundw
          case rel => exact ⟨k + 1, by omega, by simp, by rw [staysF_yes HQ.out]; exact HJ3.out, HN.out.trans HK3.out⟩
          case measure => simp [intOf]; omega
        · have HJx3 := hid hJx3
          clear hJx3 hy
          gi_wp2
          refine bodyPost_ret (results_none rfl _ _ _) rfl ?_
          refine ⟨⟨_, rfl⟩, .inr ⟨_, ?_, HJx3.out⟩⟩
          rw [← staysF_yes HQ.out]
          exact staysF_prefix f (by omega)
      · have hd : decide (lim ≤ (f k).1.at_) = false := by simpa using hq
        have HQ : Hid ((f k).1.at_ < lim) := hid (by omega)
        clear hq
        have HJ2 := hid hJs2
        clear hJs hJs2
        gi_wp2
        refine ⟨fun _ h => (by cases h), ?_⟩
        gi_wp2
        go_roundw
        case rel => exact ⟨k + 1, by omega, by simp, by rw [staysF_no HQ.out]; exact HJ2.out, HN.out⟩
        case measure => simp [intOf]; omega
    · obtain rfl : k = len := by omega
      have HJs := hid hJs
      clear hJs
      gi_wp2
      go_end0
      exact ⟨⟨_, rfl⟩, .inl ⟨_, rfl, HJs.out⟩⟩

set_option maxRecDepth 100000 in
set_option maxHeartbeats 1000000 in
theorem within1_nil (n : Nat) (l B1 B2 p : Nat) (J : List FB → World → Prop) (W : World) (h1 : W.cell? ⟨B1, 0, none⟩ = some (.pointer (some ⟨p, 0, none⟩))) (h3 : W.cell? ⟨p, 3, none⟩ = some (.slice none 0 0)) (h0 : J [] W) :
    CallsIn Fence.wide n Tryz.prog 157 #[.func (.yield l) #[] #[], .pointer (some ⟨B1, 0, none⟩), .pointer (some ⟨B2, 0, none⟩)] W fun e W' => (∃ v, e = .returned v) ∧ J [] W' := by
  refine callsIn_of_wp Tryz.func157 rfl trivial ?_ rfl
  simp only [Tryz.ntmps157, List.size_toArray, List.length_cons, List.length_nil, Nat.reduceAdd, Nat.reduceSub, Array.replicate_succ, Array.replicate_zero, List.push_toArray, List.append_toArray, List.nil_append, List.cons_append]
  gi_wp2
  gi_loopw [11] (fun i wr => i = .int .i64 0 ∧ J [] wr) (fun _ _ => 0)
  case atStart => exact ⟨rfl, h0⟩
  case round =>
    obtain ⟨rfl, hJs⟩ := hrel
    gi_wp2
    go_end0
    exact ⟨⟨_, rfl⟩, hJs⟩

open Classical in
noncomputable def fine (f : Nat → Bkt) (i : Nat) : FB := if h : (f i).c.Fine then ⟨f i, h⟩ else ⟨⟨0, ⟨0, 0, 0, 0, 0, 0⟩⟩, zero_fine⟩

/-- what a window's iterator gives: its buckets from lim on -/
theorem within_stops (n : Nat) (hn : 1 ≤ n) (B1 B2 p : Nat) (go : Option Nat) (s : Win) (lim : Int) (n0 : Nat) (w : World) (hn0 : n0 ≤ w.heap.size) (hb1 : B1 < w.heap.size) (hb2 : B2 < w.heap.size) (hgn : ∀ g, go = some g → g < n0) (hlen : s.bs.length ≤ 9223372036854775807) (hfine : ∀ x ∈ s.bs, x.c.Fine)
    (h1 : w.cell? ⟨B1, 0, none⟩ = some (.pointer (some ⟨p, 0, none⟩))) (h2 : w.cell? ⟨B2, 0, none⟩ = some (.int .i64 lim)) (h : IsWin w p go s) :
    SeqStopsK Fence.wide n Tryz.prog 157 #[.pointer (some ⟨B1, 0, none⟩), .pointer (some ⟨B2, 0, none⟩)] be (Kp n0 B2) (fun ys => ys.map (·.1) = stays lim s.bs) (fun pre => pre.map (·.1) <+: stays lim s.bs) s.bs.length w := fun l J Jx W hW hJ _ hY h0 => by
  have k1 := (hW.cell (p := ⟨B1, 0, none⟩) hb1).trans h1
  have k2 := (hW.cell (p := ⟨B2, 0, none⟩) hb2).trans h2
  have hw' : IsWin W p go s := h.keep (R := fun _ => False) (Lets.ofBelow hW) (fun h => h) (fun _ _ h => h)
  obtain ⟨_, _, _, v, k3, hv⟩ := hw'.cells
  rcases hv with ⟨rfl, rfl, hbs⟩ | ⟨g, cap, f, rfl, rfl, hb, hf⟩
  · refine (within1_nil n l B1 B2 p J W k1 k3 h0).mono ?_
    rintro e W' ⟨he, hj⟩
    exact ⟨he, .inl ⟨[], by rw [hbs]; rfl, hj⟩⟩
  · have hff : ∀ i, i < s.bs.length → (f i).c.Fine := fun i hi => hfine _ (by rw [← hf]; exact List.mem_map.2 ⟨i, List.mem_range.2 hi, rfl⟩)
    have he : ∀ i, i < s.bs.length → f i = (fine f i).1 := fun i hi => by unfold fine; rw [dif_pos (hff i hi)]
    refine (within1_in n hn l B1 B2 n0 W.heap.size p g s.bs.length cap (fine f) lim hlen (hgn g rfl) J Jx hJ hY W (Nat.le_trans hn0 hW.size) (Nat.lt_of_lt_of_le hb2 hW.size) k1 k2 k3 (hid (hb.congr he)) h0).mono ?_
    have hm : (staysF lim (toF (fine f) s.bs.length)).map (·.1) = stays lim s.bs := by rw [staysF_map, ← toL_congr he, hf]
    rintro e W' ⟨he, ⟨ys, rfl, hj⟩ | ⟨pre, hp, hj⟩⟩
    · exact ⟨he, .inl ⟨_, hm, hj⟩⟩
    · exact ⟨he, .inr ⟨_, by rw [← hm]; exact List.IsPrefix.map _ hp, hj⟩⟩

end Go.Proofs.YtbihelpnojjacaaGreat.WinJ

/- Contract of Sum. -/
namespace Go.Proofs.YtbihelpnojjacaaGreat.WinK
open Go.ChangeShapes Go.WideShapes Go.ChangeAt Go.RowKit Base WinM WinA WinB WinC WinD WinE WinF WinG WinH WinI WinJ WldF WldG
open Go.Shelf

attribute [local go_sem] Oper.semAt_some

theorem block_own {β : Type} (b : Nat) (t : TypeId) (g : β → Array Value) : Own fun s W => W.heap[b]? = some (.cells (g s) t) := by
  intro s W W' row h hg hr
  by_cases e : some b = row
  · obtain ⟨o, ho, hc⟩ := hr b e.symm
    rw [h] at ho
    cases ho
    cases hc
  · have hb : b < W.heap.size := (Array.getElem?_eq_some_iff.1 h).1
    show W'.heap[b]? = _
    rw [hg.block b hb e]
    exact h

theorem kp_b {n0 b : Nat} {w : World} (hn : n0 ≤ w.heap.size) (hb : b < w.heap.size) : ∀ (W : World) (l : Nat) (o o' : Obj), w.heap.size ≤ l → W.heap[l]? = some o → o.isCells = false → o.isWalk = false → Kp n0 b W (W.putObj l o') := by
  intro W l o o' hl ho hc hw
  have hlW : l < W.heap.size := (Array.getElem?_eq_some_iff.1 ho).1
  exact ⟨belowK_b hn W l o o' hl ho hc hw, (grownBy_putObj' W l o').block b (by omega) (fun e => by cases e; omega)⟩

/-- counts of buckets together -/
def sumF (l : List FB) : Cnt := l.foldl (fun s b => joinM s b.1.c) ⟨0, 0, 0, 0, 0, 0⟩
def sumM (l : List Bkt) : Cnt := l.foldl (fun s b => joinM s b.c) ⟨0, 0, 0, 0, 0, 0⟩
theorem sumF_snoc (l : List FB) (x : FB) : sumF (l ++ [x]) = joinM (sumF l) x.1.c := by simp [sumF]
theorem sumF_map (l : List FB) : sumF l = sumM (l.map (·.1)) := by unfold sumF sumM; rw [List.foldl_map]
theorem sumF_fine (l : List FB) : (sumF l).Fine := by
  unfold sumF
  suffices ∀ (s : Cnt), s.Fine → (l.foldl (fun s b => joinM s b.1.c) s).Fine from this _ zero_fine
  induction l with
  | nil => intro s h; exact h
  | cons x l ih => intro s h; exact ih _ (joinM_fine h x.2)

/-- the cells of counts -/
def cl (c : Cnt) : Array Value := #[.int .i64 c.pass, .int .i64 c.block, .int .i64 c.done, .int .i64 c.errs, .int .i64 c.rt, .int .i64 c.low]
def bl (b : Bkt) : Array Value := #[.int .i64 b.at_, .int .i64 b.c.pass, .int .i64 b.c.block, .int .i64 b.c.done, .int .i64 b.c.errs, .int .i64 b.c.rt, .int .i64 b.c.low]

theorem cl_at {W : World} {b : Nat} {c : Cnt} {t : TypeId} (h : W.heap[b]? = some (.cells (cl c) t)) : At6 W b 0 c ∧ Free6 W b 0 := by
  unfold cl at h
  exact ⟨⟨by simp [World.cell?, h], by simp [World.cell?, h], by simp [World.cell?, h], by simp [World.cell?, h], by simp [World.cell?, h], by simp [World.cell?, h]⟩, ⟨by simp [World.frozen?, h], by simp [World.frozen?, h], by simp [World.frozen?, h], by simp [World.frozen?, h], by simp [World.frozen?, h], by simp [World.frozen?, h]⟩⟩

/-- counts laid in a block of their own -/
def set6 (w : World) (b : Nat) (c : Cnt) : World :=
  (((((w.setCell ⟨b, 0, none⟩ (.int .i64 c.pass)).setCell ⟨b, 1, none⟩ (.int .i64 c.block)).setCell ⟨b, 2, none⟩ (.int .i64 c.done)).setCell ⟨b, 3, none⟩ (.int .i64 c.errs)).setCell ⟨b, 4, none⟩ (.int .i64 c.rt)).setCell ⟨b, 5, none⟩ (.int .i64 c.low)
theorem set6_heap {w : World} {b : Nat} {c0 c : Cnt} {t : TypeId} (h : w.heap[b]? = some (.cells (cl c0) t)) : (set6 w b c).heap[b]? = some (.cells (cl c) t) :=
  heap_setCell_same _ _ _ _ _ _ (heap_setCell_same _ _ _ _ _ _ (heap_setCell_same _ _ _ _ _ _ (heap_setCell_same _ _ _ _ _ _ (heap_setCell_same _ _ _ _ _ _ (heap_setCell_same _ _ _ _ _ _ h)))))
theorem set6_other (w : World) (b k : Nat) (c : Cnt) (h : k ≠ b) : (set6 w b c).heap[k]? = w.heap[k]? := by
  unfold set6
  rw [heap_setCell_other _ _ _ _ h, heap_setCell_other _ _ _ _ h, heap_setCell_other _ _ _ _ h, heap_setCell_other _ _ _ _ h, heap_setCell_other _ _ _ _ h, heap_setCell_other _ _ _ _ h]
theorem set6_below {B : Nat} {a w : World} (h : Below B a w) (b : Nat) (c : Cnt) (hb : B ≤ b) : Below B a (set6 w b c) :=
  (((((h.setCell (p := ⟨b, 0, none⟩) hb _).setCell (p := ⟨b, 1, none⟩) hb _).setCell (p := ⟨b, 2, none⟩) hb _).setCell (p := ⟨b, 3, none⟩) hb _).setCell (p := ⟨b, 4, none⟩) hb _).setCell (p := ⟨b, 5, none⟩) hb _
theorem set6_others (w : World) (b : Nat) (c : Cnt) : KeepsOthers w (set6 w b c) :=
  (((((KeepsOthers.setCell _ _ _).trans (KeepsOthers.setCell _ _ _)).trans (KeepsOthers.setCell _ _ _)).trans (KeepsOthers.setCell _ _ _)).trans (KeepsOthers.setCell _ _ _)).trans (KeepsOthers.setCell _ _ _)
theorem keepsFrom_below {w w' : World} (B : Nat) (h : Below w.heap.size w w') : KeepsFrom B w w' := ⟨h.size, fun k o _ hk _ => by rw [h.block k (Array.getElem?_eq_some_iff.1 hk).1]; exact hk⟩

set_option maxRecDepth 100000 in
set_option maxHeartbeats 4000000 in
theorem sum_yes (p : Nat) (go : Option Nat) (s : Win) (q at_ : Nat) (w : World) (h : IsWin w p go s) (hq : s.width / s.size = q) (hq0 : 0 < q) (hz : 0 < s.size) (hwd : s.width ≤ 1099511627776)
    (hat : at_ ≤ 1152921504606846976) (hback : s.last ≤ at_) (hfine : ∀ x ∈ s.bs, x.c.Fine) (hlen : s.bs.length ≤ 1000) :
    Calls Tryz.prog 109 #[.pointer (some ⟨p, 0, none⟩), .int .i64 at_] w fun e w' => e = .returned (.tuple #[cv (sumM (stays ((begN q at_ : Int) - s.width + q) s.bs)), .int .i64 0]) ∧ Below w.heap.size w w' := by
  have hr0 : refM s.last at_ = 0 := by unfold refM; rw [if_neg (by omega), if_neg (by omega)]
  refine callsIn_wide.1 (callsIn_of_wp_marks (n := 10) Tryz.func109 rfl trivial ?_ rfl)
  simp only [Tryz.ntmps109, List.size_toArray, List.length_cons, List.length_nil, Nat.reduceAdd, Nat.reduceSub, Array.replicate_succ, Array.replicate_zero, List.push_toArray, List.append_toArray, List.nil_append, List.cons_append]
  have hp := h.lt
  have hg := h.lt2
  have hw1 : IsWin (w.alloc (.cells #[.int .i64 0, .int .i64 0, .int .i64 0, .int .i64 0, .int .i64 0, .int .i64 0] 98)) p go s := h.keep (R := fun _ => False) (Lets.ofBelow ((Below.refl _ _).alloc (Nat.le_refl _) _)) (fun h => h) (fun _ _ h => h)
  have hw2 : IsWin ((w.alloc (.cells #[.int .i64 0, .int .i64 0, .int .i64 0, .int .i64 0, .int .i64 0, .int .i64 0] 98)).alloc (.cells #[.int .i64 0, .int .i64 0, .int .i64 0, .int .i64 0, .int .i64 0, .int .i64 0] 98)) p go s := hw1.keep (R := fun _ => False) (Lets.ofBelow ((Below.refl _ _).alloc (Nat.le_refl _) _)) (fun h => h) (fun _ _ h => h)
  have HR := hid (refuses_any p s.last at_ _ hw1.cells.2.2.1)
  rw [hr0] at HR
  have HWi := hid (within_any p s go q at_ _ hw2 hq hq0 hz hwd hat)
  have HW2 := hid hw2
  have HLen := hid hlen
  have HFine := hid hfine
  clear hw1 hw2 h hq hq0 hz hwd hat hback hfine hlen hr0
  gi_wp2_with (refine ⟨trivial, ?_⟩; gi_at_call 126; refine (callsIn_wide.2 HR.out).mono ?_; rintro e w1 ⟨rfl, rfl⟩)
  refine ⟨trivial, ?_⟩
  refine (callsIn_wide.2 HWi.out).mono ?_
  rintro e w2 ⟨rfl, hb2, k1, k2, hsz2⟩
  clear HR HWi
  have hA0 : w2.heap[w.heap.size]? = some (.cells (cl ⟨0, 0, 0, 0, 0, 0⟩) 98) := by
    rw [hb2.block _ (by simp; omega), Below.heap_alloc _ _ _ (by simp)]
    exact heap_alloc_new _ _
  have hA1 : w2.heap[w.heap.size + 1]? = some (.cells (cl ⟨0, 0, 0, 0, 0, 0⟩) 98) := by
    rw [hb2.block _ (by simp)]
    have := heap_alloc_new (w.alloc (.cells #[.int .i64 0, .int .i64 0, .int .i64 0, .int .i64 0, .int .i64 0, .int .i64 0] 98)) (.cells (cl ⟨0, 0, 0, 0, 0, 0⟩) 98)
    simp only [World.size_alloc] at this
    exact this
  have hB2 : Below w.heap.size w w2 := Below.trans (((Below.refl _ w).alloc (Nat.le_refl _) _).alloc (by simp) _) (hb2.mono (by simp; omega))
  have hW3 : IsWin w2 p go s := HW2.out.keep (R := fun _ => False) (Lets.ofBelow hb2) (fun h => h) (fun _ _ h => h)
  simp only [World.size_alloc] at k1 k2 hsz2
  have HSZ := hid hsz2
  clear hb2 HW2
  gi_wp2
  clear hsz2
  have hz2 := HSZ.out
  refine wpIn_rangeFunc_ownH rfl (by omega) (gf := 157) (lb := #[.pointer (some ⟨w.heap.size + 1 + 1, 0, none⟩), .pointer (some ⟨w.heap.size + 1 + 1 + 1, 0, none⟩)]) rfl trivial (enters_of Tryz.func157 (by kernel_rfl) rfl)
    (within_stops 9 (by omega) (w.heap.size + 1 + 1) (w.heap.size + 1 + 1 + 1) p go s ((begN q at_ : Int) - s.width + q) w.heap.size w2 (by omega) (by omega) (by omega) hg (by have := HLen.out; omega) HFine.out k1 k2 hW3) Kp.trans (kp_b (by omega) (by omega)) (Below.refl _ _) (fun _ => rfl)
    (fun pre W => (W.heap[w.heap.size + 1]? = some (.cells (cl (sumF pre)) 98) ∧ W.heap[w.heap.size]? = some (.cells (cl ⟨0, 0, 0, 0, 0, 0⟩) 98)) ∧ Below w.heap.size w2 W)
    (fun _ _ _ => False)
    (OwnFrom.and (OwnFrom.and (Own.from (block_own _ _ _) _) (Own.from (block_own _ _ (fun _ => cl ⟨0, 0, 0, 0, 0, 0⟩)) _)) (ownFrom_below (by omega) (by omega)))
    (fun _ _ _ _ _ hs _ _ => hs)
    ⟨⟨hA1, hA0⟩, Below.refl _ _⟩
    (fun x a' W => ∃ Bx, w.heap.size + 4 ≤ Bx ∧ W.heap[Bx]? = some (.cells (bl x.1) 182) ∧ a' = { tmps := #[.pointer (some ⟨p, 0, none⟩), .int .i64 at_, undef, undef, .pointer (some ⟨w.heap.size, 0, none⟩), .int .i64 0, .int .i64 0, .pointer (some ⟨w.heap.size + 1, 0, none⟩), .pointer (some ⟨Bx, 0, none⟩), .pointer (some ⟨p, 0, none⟩), .int .i64 at_, .int .i64 0, .int .i64 0, .bool false, undef, undef, .pointer (some ⟨p, 0, none⟩), .int .i64 at_, .func (Fn.func 157) #[] #[.pointer (some ⟨w.heap.size + 1 + 1, 0, none⟩), .pointer (some ⟨w.heap.size + 1 + 1 + 1, 0, none⟩)], .agg #[.int .i64 x.1.at_, .int .i64 x.1.c.pass, .int .i64 x.1.c.block, .int .i64 x.1.c.done, .int .i64 x.1.c.errs, .int .i64 x.1.c.rt, .int .i64 x.1.c.low], undef, undef, undef, undef, undef, undef], defers := [] })
    (fun x a' _ X Y row hs hg hr => by obtain ⟨Bx, h1, h2, h3⟩ := hs; exact ⟨Bx, h1, block_own Bx _ (fun (_ : Unit) => bl x.1) () X Y row h2 hg (fun r e => (hr r e).2), h3⟩)
    ?assign ?body ?done ?stop
  case assign =>
    rintro l pre x W K ⟨⟨hA1, hA0⟩, hB⟩ hK
    have HK := hid hK
    clear hK
    unfold be
    gi_wp2
    have hs1 := hB.size
    exact HK.out _ _ ((KeepsOthers.alloc _ _).from _) ((Kp.refl _ _ _).alloc (by omega) (by omega) _) ⟨⟨(Below.heap_alloc _ _ _ (by omega)).trans hA1, (Below.heap_alloc _ _ _ (by omega)).trans hA0⟩, hB.alloc (by omega) _⟩ ⟨W.heap.size, by omega, heap_alloc_new _ _, rfl⟩
  case body =>
    rintro l pre x a' W hl ⟨r, hr⟩ ⟨⟨hA1, hA0⟩, hB⟩ ⟨Bx, hBx, bX, rfl⟩ hlt
    have hs1 := hB.size
    have hA1s : w.heap.size + 1 < W.heap.size := by omega
    have hBxs : Bx < W.heap.size := (Array.getElem?_eq_some_iff.1 bX).1
    have HA1 := hid hA1
    have HA0 := hid hA0
    have HB := hid hB
    have HX := hid x.2
    have HPre := hid (sumF_fine pre)
    have HSn := hid (sumF_snoc pre x)
    obtain ⟨⟨s1, s2, s3, s4, s5, s6⟩, _⟩ := cl_at hA1
    unfold bl at bX
    have x1 : W.cell? ⟨Bx, 1, none⟩ = some (.int .i64 x.1.c.pass) := by simp [World.cell?, bX]
    have x2 : W.cell? ⟨Bx, 2, none⟩ = some (.int .i64 x.1.c.block) := by simp [World.cell?, bX]
    have x3 : W.cell? ⟨Bx, 3, none⟩ = some (.int .i64 x.1.c.done) := by simp [World.cell?, bX]
    have x4 : W.cell? ⟨Bx, 4, none⟩ = some (.int .i64 x.1.c.errs) := by simp [World.cell?, bX]
    have x5 : W.cell? ⟨Bx, 5, none⟩ = some (.int .i64 x.1.c.rt) := by simp [World.cell?, bX]
    have x6 : W.cell? ⟨Bx, 6, none⟩ = some (.int .i64 x.1.c.low) := by simp [World.cell?, bX]
    have HT := hid (together_one (sumF pre).pass (sumF pre).block (sumF pre).done (sumF pre).errs (sumF pre).rt (sumF pre).low x.1.c.pass x.1.c.block x.1.c.done x.1.c.errs x.1.c.rt x.1.c.low W.heap.size 0 1 (W.alloc (.cells #[.int .i64 x.1.c.pass, .int .i64 x.1.c.block, .int .i64 x.1.c.done, .int .i64 x.1.c.errs, .int .i64 x.1.c.rt, .int .i64 x.1.c.low] 98)) HPre.out HX.out
      (hid ⟨by simp, by simp, by simp, by simp, by simp, by simp⟩) (by simp))
    clear hA1 hA0 hB bX
    gi_wp2_with (refine ⟨trivial, ?_⟩; gi_at_call 133; refine (CallsIn.inRound l (callsIn_wide.2 HT.out)).mono ?_; rintro e w3 ⟨rfl, hb3⟩; have hA1w : w3.heap[w.heap.size + 1]? = _ := ((hb3.block _ (by simp; omega)).trans (Below.heap_alloc _ _ _ hA1s)).trans HA1.out; obtain ⟨⟨t1, t2, t3, t4, t5, t6⟩, ⟨g1, g2, g3, g4, g5, g6⟩⟩ := cl_at hA1w; simp only [Nat.zero_add] at t1 t2 t3 t4 t5 t6 g1 g2 g3 g4 g5 g6; have HA1W := hid hA1w; have HB3 := hid hb3; clear hA1w hb3 s1 s2 s3 s4 s5 s6 x1 x2 x3 x4 x5 x6; unfold cv)
    have hb3 := HB3.out
    have hs3 := hb3.size
    simp only [World.size_alloc] at hs3
    have hJ : joinM ⟨(sumF pre).pass, (sumF pre).block, (sumF pre).done, (sumF pre).errs, (sumF pre).rt, (sumF pre).low⟩ ⟨x.1.c.pass, x.1.c.block, x.1.c.done, x.1.c.errs, x.1.c.rt, x.1.c.low⟩ = sumF (pre ++ [x]) := HSn.out.symm
    rw [hJ]
    have hbW : Below W.heap.size W w3 := ((Below.refl _ W).alloc (Nat.le_refl _) _).trans (hb3.mono (by simp))
    show KeepsFrom _ W (set6 w3 (w.heap.size + 1) (sumF (pre ++ [x]))) ∧ Kp _ _ W (set6 w3 (w.heap.size + 1) (sumF (pre ++ [x]))) ∧ _
    refine ⟨(keepsFrom_below _ hbW).trans ((set6_others _ _ _).from _), ⟨set6_below (hbW.mono (by omega)) _ _ (by omega), ?_⟩, ⟨set6_heap HA1W.out, ?_⟩, HB.out.trans (set6_below (hbW.mono (by omega)) _ _ (by omega))⟩
    · rw [set6_other _ _ _ _ (by omega)]
      exact hbW.block _ (by omega)
    · show (set6 w3 (w.heap.size + 1) (sumF (pre ++ [x]))).heap[w.heap.size]? = _
      rw [set6_other _ _ _ _ (by omega)]
      exact (hbW.block _ (by omega)).trans HA0.out
  case done =>
    rintro D ys W hD hys ⟨⟨hA1, hA0⟩, hB⟩ hK
    have hs1 := hB.size
    have HYs := hid hys
    have HA0 := hid hA0
    have HB := hid hB
    obtain ⟨⟨s1, s2, s3, s4, s5, s6⟩, _⟩ := cl_at hA1
    obtain ⟨⟨t1, t2, t3, t4, t5, t6⟩, ⟨g1, g2, g3, g4, g5, g6⟩⟩ := cl_at hA0
    simp only [Nat.zero_add] at s1 s2 s3 s4 s5 s6 t1 t2 t3 t4 t5 t6 g1 g2 g3 g4 g5 g6
    clear hA1 hA0 hB hys
    gi_wp2
    obtain ⟨W4, hW4⟩ : ∃ W4, set6 W w.heap.size (sumF ys) = W4 := ⟨_, rfl⟩
    have hK4 : W4.heap[D]? = some (.deferred (some [])) := by rw [← hW4, set6_other _ _ _ _ (by omega)]; exact hK
    have hA4 : (W4.putObj D (.deferred none)).heap[w.heap.size]? = some (.cells (cl (sumF ys)) 98) := by
      rw [(grownBy_putObj' W4 D (.deferred none)).block _ (by rw [← hW4]; exact Nat.lt_of_lt_of_le (by omega) (set6_below (Below.refl 0 W) _ _ (Nat.zero_le _)).size) (fun e => by cases e; omega), ← hW4]
      exact set6_heap HA0.out
    have hB4 : Below w.heap.size w (W4.putObj D (.deferred none)) := by
      have h4 : Below w.heap.size W W4 := by rw [← hW4]; exact set6_below (Below.refl _ W) _ _ (Nat.le_refl _)
      refine (hB2.trans (HB.out.trans h4)).trans ?_
      exact belowK_b (w := w) (Nat.le_refl _) W4 D _ _ (by omega) hK4 rfl rfl
    show bodyPostM _ _ _ _ _ _ _ (set6 W w.heap.size (sumF ys))
    rw [hW4]
    obtain ⟨⟨r1, r2, r3, r4, r5, r6⟩, _⟩ := cl_at hA4
    simp only [Nat.zero_add] at r1 r2 r3 r4 r5 r6
    have hS : cv (sumM (stays ((begN q at_ : Int) - s.width + q) s.bs)) = cv (sumF ys) := by rw [← HYs.out, ← sumF_map]
    refine ⟨by simp, .inl ⟨_, _, rfl, run_takeDeferred hK4, ?_⟩⟩
    rw [hS]
    refine ⟨.tuple #[cv (sumF ys), .int .i64 0], ?_, rfl, hB4⟩
    simp [results, Tryz.results109, go_sem, r1, r2, r3, r4, r5, r6, cv]
  case stop =>
    rintro D c pre W _ _ h _
    exact h.elim

end Go.Proofs.YtbihelpnojjacaaGreat.WinK

/- Contract of Most; errors of Sum and Most. -/
namespace Go.Proofs.YtbihelpnojjacaaGreat.WinL
open Go.ChangeShapes Go.WideShapes Go.ChangeAt Go.RowKit Base WinM WinA WinB WinC WinD WinE WinF WinG WinH WinI WinJ WinK WldF WldG
open Go.Shelf

set_option maxHeartbeats 400000 in
theorem sum_no (p : Nat) (last at_ : Int) (w : World) (h : w.cell? ⟨p, 2, none⟩ = some (.int .i64 last)) (hr : refM last at_ ≠ 0) :
    Calls Tryz.prog 109 #[.pointer (some ⟨p, 0, none⟩), .int .i64 at_] w fun e w' => e = .returned (.tuple #[cv ⟨0, 0, 0, 0, 0, 0⟩, .int .i64 (refM last at_)]) ∧ Below w.heap.size w w' := by
  have hp := World.block_lt_of_cell? _ _ h
  have HR := hid (refuses_any p last at_ (w.alloc (.cells #[.int .i64 0, .int .i64 0, .int .i64 0, .int .i64 0, .int .i64 0, .int .i64 0] 98)) (by go_cell))
  generalize refM last at_ = r at *
  have hr' : (r != 0) = true := by simpa using hr
  clear hr h
  go_enter Tryz.func109, Tryz.ntmps109
  go_wp2_with fail
  refine HR.out.mono ?_
  rintro e w1 ⟨rfl, rfl⟩
  go_wp2
  refine bodyPost_ret (v := .tuple #[cv ⟨0, 0, 0, 0, 0, 0⟩, .int .i64 r]) (by simp [results, Tryz.results109, go_sem, cv]) rfl ⟨rfl, ?_⟩
  exact (by repeat (first | (with_reducible exact Below.refl _ _) | (with_reducible refine Below.setCell ?_ (by first | (simp; done) | (simp; omega) | omega) _) | (with_reducible refine Below.alloc ?_ (by first | (simp; done) | (simp; omega) | omega) _) | (with_reducible refine Below.drew ?_) | (with_reducible refine below_drewN ?_ _)))

attribute [local go_sem] Oper.semAt_some

/-- the greatest pass of buckets -/
def maxF (l : List FB) : Int := l.foldl (fun m b => max m b.1.c.pass) 0
theorem maxF_snoc (l : List FB) (x : FB) : maxF (l ++ [x]) = max (maxF l) x.1.c.pass := by simp [maxF]
/-- .. but of that one that begins at b, and of those behind it -/
def mostM (b : Int) (l : List Bkt) : Int := (l.takeWhile fun x => !decide (x.at_ = b)).foldl (fun m x => max m x.c.pass) 0

theorem foldl_max_map (l : List FB) (m : Int) : (l.map (·.1)).foldl (fun m x => max m x.c.pass) m = l.foldl (fun m b => max m b.1.c.pass) m := by rw [List.foldl_map]
theorem takeWhile_part {b : Int} (l : List FB) (rest : List Bkt) (h : ∀ y ∈ l, y.1.at_ ≠ b) : (l.map (·.1) ++ rest).takeWhile (fun x => !decide (x.at_ = b)) = l.map (·.1) ++ rest.takeWhile (fun x => !decide (x.at_ = b)) := by
  induction l with
  | nil => rfl
  | cons y l ih =>
    have := h y (by simp)
    simp only [List.map_cons, List.cons_append]
    rw [List.takeWhile_cons, if_pos (by simpa using this), ih (fun z hz => h z (by simp [hz]))]
theorem mostM_all {b : Int} {l : List FB} (h : ∀ y ∈ l, y.1.at_ ≠ b) : mostM b (l.map (·.1)) = maxF l := by
  have := takeWhile_part l [] h
  simp only [List.append_nil] at this
  unfold mostM maxF
  rw [this]
  simp only [List.takeWhile_nil, List.append_nil]
  exact foldl_max_map l 0
theorem mostM_part {b : Int} {l : List FB} {x : FB} {rest : List Bkt} (h : ∀ y ∈ l, y.1.at_ ≠ b) (hx : x.1.at_ = b) : mostM b (l.map (·.1) ++ ([x].map (·.1) ++ rest)) = maxF l := by
  unfold mostM maxF
  rw [takeWhile_part l _ h]
  simp only [List.map_cons, List.map_nil, List.singleton_append]
  rw [List.takeWhile_cons, if_neg (by simpa using hx), List.append_nil]
  exact foldl_max_map l 0

end Go.Proofs.YtbihelpnojjacaaGreat.WinL

namespace Go.Proofs.YtbihelpnojjacaaGreat.WinN
open WinM WinC WinD WinE WinH WinK WinL

/-- the passes of the buckets from L on -/
def pas (L : Int) : List Bkt → Int
  | [] => 0
  | b :: t => (if L ≤ b.at_ then b.c.pass else 0) + pas L t
/-- the numbers of what was noted in buckets of width q from L on -/
def ev (q : Nat) (L : Int) : List (Nat × Int) → Int
  | [] => 0
  | e :: t => (if L ≤ (begN q e.1 : Int) then e.2 else 0) + ev q L t
def tot : List (Nat × Int) → Int
  | [] => 0
  | e :: t => e.2 + tot t

theorem pas_app (L : Int) (a b : List Bkt) : pas L (a ++ b) = pas L a + pas L b := by
  induction a with
  | nil => simp [pas]
  | cons x t ih => simp only [List.cons_append, pas, ih]; omega
theorem ev_app (q : Nat) (L : Int) (a b : List (Nat × Int)) : ev q L (a ++ b) = ev q L a + ev q L b := by
  induction a with
  | nil => simp [ev]
  | cons x t ih => simp only [List.cons_append, ev, ih]; omega
theorem tot_app (a b : List (Nat × Int)) : tot (a ++ b) = tot a + tot b := by
  induction a with
  | nil => simp [tot]
  | cons x t ih => simp only [List.cons_append, tot, ih]; omega
theorem ev_le (q : Nat) (L : Int) (E : List (Nat × Int)) (h : ∀ e ∈ E, 0 ≤ e.2) : 0 ≤ ev q L E ∧ ev q L E ≤ tot E := by
  induction E with
  | nil => simp [ev, tot]
  | cons x t ih =>
    have h1 := ih fun e he => h e (List.mem_cons_of_mem _ he)
    have h2 := h x List.mem_cons_self
    simp only [ev, tot]
    split <;> omega
theorem pas_pos (L : Int) (l : List Bkt) (h : ∀ x ∈ l, 0 ≤ x.c.pass) : 0 ≤ pas L l := by
  induction l with
  | nil => simp [pas]
  | cons x t ih =>
    have h1 := ih fun e he => h e (List.mem_cons_of_mem _ he)
    have h2 := h x List.mem_cons_self
    simp only [pas]
    split <;> omega
theorem pas_mem (l : List Bkt) (h : ∀ x ∈ l, 0 ≤ x.c.pass) (x : Bkt) (hx : x ∈ l) : x.c.pass ≤ pas x.at_ l := by
  induction l with
  | nil => cases hx
  | cons y t ih =>
    have hp := pas_pos x.at_ t fun e he => h e (List.mem_cons_of_mem _ he)
    have h2 := h y List.mem_cons_self
    simp only [pas]
    rcases List.mem_cons.1 hx with rfl | h3
    · rw [if_pos (Int.le_refl _)]; omega
    · have := ih (fun e he => h e (List.mem_cons_of_mem _ he)) h3
      split <;> omega
theorem pas_stays (lim L : Int) (l : List Bkt) (h : lim ≤ L) : pas L (stays lim l) = pas L l := by
  induction l with
  | nil => rfl
  | cons x t ih =>
    by_cases hx : x.at_ < lim
    · have e : stays lim (x :: t) = stays lim t := by simp [stays, hx]
      rw [e, ih]
      simp only [pas]
      rw [if_neg (by omega)]; omega
    · have e : stays lim (x :: t) = x :: stays lim t := by simp [stays, hx]
      rw [e]
      simp only [pas, ih]

theorem noteM_snoc (b : Int) (c : Cnt) (l : List Bkt) (x : Bkt) : noteM b c (l ++ [x]) = if x.at_ = b then l ++ [⟨b, joinM x.c c⟩] else (l ++ [x]) ++ [⟨b, joinM ⟨0, 0, 0, 0, 0, 0⟩ c⟩] := by
  unfold noteM
  simp

theorem nil_or_snoc (l : List Bkt) : l = [] ∨ ∃ t x, l = t ++ [x] := by
  rcases List.eq_nil_or_concat l with h | ⟨t, x, h⟩
  · exact .inl h
  · exact .inr ⟨t, x, by simpa using h⟩

theorem plusM_small {a b : Int} (h : a + b ≤ 4611686018427387904) : plusM a b = a + b := by unfold plusM; rw [if_neg (by omega)]

theorem pas_note (L b : Int) (c : Cnt) (l : List Bkt) (h0 : c.pass ≤ 4611686018427387904) (h : ∀ x ∈ l, x.c.pass + c.pass ≤ 4611686018427387904) : pas L (noteM b c l) = pas L l + (if L ≤ b then c.pass else 0) := by
  have e0 : (joinM ⟨0, 0, 0, 0, 0, 0⟩ c).pass = c.pass := by show plusM 0 c.pass = _; rw [plusM_small (by omega)]; omega
  rcases nil_or_snoc l with rfl | ⟨t, x, rfl⟩
  · rw [noteM_nil]; simp [pas, e0]
  · rw [noteM_snoc]
    have hx := h x (by simp)
    have e1 : (joinM x.c c).pass = x.c.pass + c.pass := by show plusM x.c.pass c.pass = _; rw [plusM_small hx]
    split
    · rename_i hb
      simp only [pas_app, pas, e1, hb]
      split <;> omega
    · simp only [pas_app, pas, e0]
      split <;> omega

/-- rising, on the grid, within the window at its last time, with right numbers -/
structure Tidy (q : Nat) (s : Win) (last : Nat) : Prop where
  rise : s.bs.Pairwise fun a b => a.at_ < b.at_
  grid : ∀ x ∈ s.bs, ∃ k : Nat, x.at_ = (k * q : Nat)
  low : ∀ x ∈ s.bs, (begN q last : Int) - s.width + q ≤ x.at_
  high : ∀ x ∈ s.bs, x.at_ ≤ begN q last
  fine : ∀ x ∈ s.bs, x.c.Fine

theorem grid_step {q : Nat} {a b : Int} (ha : ∃ k : Nat, a = (k * q : Nat)) (hb : ∃ k : Nat, b = (k * q : Nat)) (h : a < b) : a + q ≤ b := by
  obtain ⟨k, rfl⟩ := ha
  obtain ⟨m, rfl⟩ := hb
  have h1 : k * q < m * q := by omega
  have h2 : k < m := Nat.lt_of_mul_lt_mul_right h1
  have h3 : (k + 1) * q ≤ m * q := Nat.mul_le_mul_right q h2
  rw [Nat.succ_mul] at h3
  omega

theorem len_grid (q : Nat) (hi : Int) : ∀ (l : List Bkt) (lo : Int), l.Pairwise (fun a b => a.at_ < b.at_) → (∀ x ∈ l, ∃ k : Nat, x.at_ = (k * q : Nat)) → (∀ x ∈ l, lo ≤ x.at_) → (∀ x ∈ l, x.at_ ≤ hi) → lo ≤ hi + q → ((l.length * q : Nat) : Int) ≤ hi - lo + q := by
  intro l
  induction l with
  | nil => intro lo _ _ _ _ h; simp; omega
  | cons x t ih =>
    intro lo h1 h2 h3 h4 _
    have h5 := List.pairwise_cons.1 h1
    have hx3 := h3 x List.mem_cons_self
    have hx4 := h4 x List.mem_cons_self
    have := ih (x.at_ + q) h5.2 (fun y hy => h2 y (List.mem_cons_of_mem _ hy)) (fun y hy => grid_step (h2 x List.mem_cons_self) (h2 y (List.mem_cons_of_mem _ hy)) (h5.1 y hy)) (fun y hy => h4 y (List.mem_cons_of_mem _ hy)) (by omega)
    rw [List.length_cons, Nat.succ_mul]
    omega

theorem begN_grid (q a : Nat) : ∃ k : Nat, (begN q a : Int) = (k * q : Nat) := by
  refine ⟨a / q, ?_⟩
  have := Nat.div_add_mod a q
  rw [Nat.mul_comm] at this
  unfold begN
  omega

theorem begN_mono {q a b : Nat} (h : a ≤ b) : begN q a ≤ begN q b := by
  have h1 := Nat.div_add_mod a q
  have h2 := Nat.div_add_mod b q
  have h3 : q * (a / q) ≤ q * (b / q) := Nat.mul_le_mul_left q (Nat.div_le_div_right h)
  unfold begN
  omega

theorem Tidy.len {q : Nat} {s : Win} {last : Nat} (h : Tidy q s last) (hw : s.width = s.size * q) (hq : 0 < q) : s.bs.length ≤ s.size := by
  have := len_grid q (begN q last) s.bs _ h.rise h.grid h.low h.high (by omega)
  have h2 : s.bs.length * q ≤ s.size * q := by omega
  exact Nat.le_of_mul_le_mul_right h2 hq

theorem Tidy.fresh (q wd sz : Nat) : Tidy q ⟨wd, sz, 0, []⟩ 0 := ⟨List.Pairwise.nil, (fun _ h => by cases h), (fun _ h => by cases h), (fun _ h => by cases h), (fun _ h => by cases h)⟩

theorem Tidy.add {q : Nat} {s : Win} {last at_ : Nat} {c : Cnt} (h : Tidy q s last) (hb : last ≤ at_) (hw : q ≤ s.width) (hc : c.Fine) : Tidy q (addM q s at_ c) at_ := by
  have hm := begN_mono (q := q) hb
  have hg := begN_grid q at_
  have hin : ∀ x ∈ stays ((begN q at_ : Int) - s.width + q) s.bs, x ∈ s.bs ∧ (begN q at_ : Int) - s.width + q ≤ x.at_ := fun x hx => by
    have h1 := List.mem_filter.1 hx
    simp at h1
    exact ⟨h1.1, by omega⟩
  have hr : (stays ((begN q at_ : Int) - s.width + q) s.bs).Pairwise fun a b => a.at_ < b.at_ := List.Pairwise.filter _ h.rise
  unfold addM
  have e : ∀ l : List Bkt, (∀ x ∈ l, x ∈ s.bs ∧ (begN q at_ : Int) - s.width + q ≤ x.at_) → l.Pairwise (fun a b => a.at_ < b.at_) → Tidy q { s with last := at_, bs := noteM (begN q at_) c l } at_ := by
    intro l hl hp
    rcases nil_or_snoc l with rfl | ⟨t, x, rfl⟩
    · rw [noteM_nil]
      refine ⟨List.pairwise_singleton _ _, ?_, ?_, ?_, ?_⟩
      all_goals
        intro y hy
        obtain rfl := List.mem_singleton.1 hy
      · exact hg
      · show (begN q at_ : Int) - s.width + q ≤ (begN q at_ : Int); omega
      · exact Int.le_refl _
      · exact joinM_fine zero_fine hc
    · have hp2 := List.pairwise_append.1 hp
      have hx := hl x (by simp)
      have hxh := h.high x hx.1
      rw [noteM_snoc]
      split
      · rename_i hb2
        refine ⟨List.pairwise_append.2 ⟨hp2.1, List.pairwise_singleton _ _, fun a ha b hb3 => ?_⟩, ?_, ?_, ?_, ?_⟩
        · obtain rfl := List.mem_singleton.1 hb3
          have := hp2.2.2 a ha x (List.mem_singleton.2 rfl)
          show a.at_ < (begN q at_ : Int); omega
        all_goals
          intro y hy
          rcases List.mem_append.1 hy with hy | hy
        · exact h.grid y (hl y (by simp [hy])).1
        · obtain rfl := List.mem_singleton.1 hy; exact hg
        · exact (hl y (by simp [hy])).2
        · obtain rfl := List.mem_singleton.1 hy; show (begN q at_ : Int) - s.width + q ≤ (begN q at_ : Int); omega
        · have := h.high y (hl y (by simp [hy])).1; show y.at_ ≤ (begN q at_ : Int); omega
        · obtain rfl := List.mem_singleton.1 hy; exact Int.le_refl _
        · exact h.fine y (hl y (by simp [hy])).1
        · obtain rfl := List.mem_singleton.1 hy; exact joinM_fine (h.fine x hx.1) hc
      · rename_i hb2
        refine ⟨List.pairwise_append.2 ⟨hp, List.pairwise_singleton _ _, fun a ha b hb3 => ?_⟩, ?_, ?_, ?_, ?_⟩
        · obtain rfl := List.mem_singleton.1 hb3
          show a.at_ < (begN q at_ : Int)
          rcases List.mem_append.1 ha with ha | ha
          · have := hp2.2.2 a ha x (List.mem_singleton.2 rfl); omega
          · obtain rfl := List.mem_singleton.1 ha; omega
        all_goals
          intro y hy
          rcases List.mem_append.1 hy with hy | hy
        · exact h.grid y (hl y hy).1
        · obtain rfl := List.mem_singleton.1 hy; exact hg
        · exact (hl y hy).2
        · obtain rfl := List.mem_singleton.1 hy; show (begN q at_ : Int) - s.width + q ≤ (begN q at_ : Int); omega
        · have := h.high y (hl y hy).1; show y.at_ ≤ (begN q at_ : Int); omega
        · obtain rfl := List.mem_singleton.1 hy; exact Int.le_refl _
        · exact h.fine y (hl y hy).1
        · obtain rfl := List.mem_singleton.1 hy; exact joinM_fine zero_fine hc
  exact e _ hin hr

/-- what the window tells is what was noted -/
def Tells (q : Nat) (s : Win) (last : Nat) (E : List (Nat × Int)) : Prop := ∀ L : Int, (begN q last : Int) - s.width + q ≤ L → pas L s.bs = ev q L E

theorem Tells.add {q : Nat} {s : Win} {last at_ : Nat} {E : List (Nat × Int)} {c : Cnt} (h : Tells q s last E) (ht : Tidy q s last) (hb : last ≤ at_) (hE : ∀ e ∈ E, 0 ≤ e.2) (hs : tot E + c.pass ≤ 4611686018427387904) : Tells q (addM q s at_ c) at_ (E ++ [(at_, c.pass)]) := by
  intro L hL
  have hm := begN_mono (q := q) hb
  have hL' : (begN q at_ : Int) - s.width + q ≤ L := hL
  have h0 : (0 : Int) ≤ tot E := by have := ev_le q 0 E hE; omega
  show pas L (noteM (begN q at_) c (stays ((begN q at_ : Int) - s.width + q) s.bs)) = _
  rw [pas_note _ _ _ _ (by omega) (fun x hx => ?_), pas_stays _ _ _ hL', h L (by omega), ev_app]
  · simp [ev]
  · have hx1 := (List.mem_filter.1 hx).1
    have h1 := pas_mem s.bs (fun y hy => (ht.fine y hy).1.1) x hx1
    have h2 := ht.low x hx1
    rw [h x.at_ h2] at h1
    have h3 := ev_le q x.at_ E hE
    omega

theorem stays_tidy {q : Nat} {s : Win} {last : Nat} (h : Tidy q s last) : stays ((begN q last : Int) - s.width + q) s.bs = s.bs := by
  unfold stays
  rw [List.filter_eq_self]
  intro x hx
  have := h.low x hx
  simp; omega

theorem sum_pas (L : Int) : ∀ (l : List Bkt) (a : Cnt), (∀ x ∈ l, 0 ≤ x.c.pass) → (∀ x ∈ l, L ≤ x.at_) → a.pass + pas L l ≤ 4611686018427387904 → (l.foldl (fun s b => joinM s b.c) a).pass = a.pass + pas L l := by
  intro l
  induction l with
  | nil => intro a _ _ _; simp [pas]
  | cons x t ih =>
    intro a h1 h2 h3
    have hx1 := h1 x List.mem_cons_self
    have hx2 := h2 x List.mem_cons_self
    have hp := pas_pos L t fun e he => h1 e (List.mem_cons_of_mem _ he)
    simp only [pas] at h3 ⊢
    rw [if_pos hx2] at h3 ⊢
    have e : (joinM a x.c).pass = a.pass + x.c.pass := by show plusM a.pass x.c.pass = _; rw [plusM_small (by omega)]
    rw [List.foldl_cons, ih (joinM a x.c) (fun e he => h1 e (List.mem_cons_of_mem _ he)) (fun e he => h2 e (List.mem_cons_of_mem _ he)) (by omega)]
    omega

theorem sum_told {q : Nat} {s : Win} {last : Nat} {E : List (Nat × Int)} (h : Tells q s last E) (ht : Tidy q s last) (hE : ∀ e ∈ E, 0 ≤ e.2) (hs : tot E ≤ 4611686018427387904) : (sumM (stays ((begN q last : Int) - s.width + q) s.bs)).pass = ev q ((begN q last : Int) - s.width + q) E := by
  have h1 := h _ (Int.le_refl _)
  have h2 := ev_le q ((begN q last : Int) - s.width + q) E hE
  rw [stays_tidy ht]
  unfold sumM
  rw [sum_pas ((begN q last : Int) - s.width + q) s.bs _ (fun x hx => (ht.fine x hx).1.1) ht.low (by show 0 + _ ≤ _; omega), ← h1]
  show 0 + _ = _; omega

theorem pas_one (b : Int) (q : Nat) (t : List Bkt) (ht : ∀ y ∈ t, y.at_ = b) : pas (b - q) t = pas b t := by
  induction t with
  | nil => rfl
  | cons y u ih =>
    have := ht y List.mem_cons_self
    simp only [pas]
    rw [ih fun z hz => ht z (List.mem_cons_of_mem _ hz), if_pos (by omega), if_pos (by omega)]

theorem most_told {q : Nat} {s : Win} {last : Nat} {E : List (Nat × Int)} (h : Tells q s last E) (ht : Tidy q s last) (hq : 0 < q) (hw : s.width = 2 * q) : mostM (begN q last) (stays ((begN q last : Int) - s.width + q) s.bs) = ev q ((begN q last : Int) - q) E - ev q (begN q last) E := by
  rw [stays_tidy ht]
  have hl : (begN q last : Int) - s.width + q = (begN q last : Int) - q := by rw [hw]; omega
  rw [← h ((begN q last : Int) - q) (by omega), ← h (begN q last) (by omega)]
  have hlow := ht.low
  rw [hl] at hlow
  obtain ⟨_, _, _, bs⟩ := s
  obtain ⟨h1, h2, _, h4, h5⟩ := ht
  dsimp only at *
  have hg := begN_grid q last
  have hat : ∀ x ∈ bs, x.at_ ≠ (begN q last : Int) → x.at_ = (begN q last : Int) - q := fun x hx hn => by
    have := grid_step (h2 x hx) hg (by have := h4 x hx; omega)
    have := hlow x hx
    omega
  rcases bs with _ | ⟨x, t⟩
  · simp [mostM, pas]
  · have hp := List.pairwise_cons.1 h1
    have ht : ∀ y ∈ t, y.at_ = (begN q last : Int) := fun y hy => by
      have := hp.1 y hy
      have := hlow x List.mem_cons_self
      by_cases hn : y.at_ = (begN q last : Int)
      · exact hn
      · have := hat y (List.mem_cons_of_mem _ hy) hn; omega
    have hpt := pas_one (begN q last : Int) q t ht
    by_cases hx : x.at_ = (begN q last : Int)
    · have ht0 : t = [] := by
        rcases t with _ | ⟨y, u⟩
        · rfl
        · have := ht y List.mem_cons_self; have := hp.1 y List.mem_cons_self; omega
      subst ht0
      simp [mostM, pas, hx]
      omega
    · have hxq := hat x List.mem_cons_self hx
      have hpos := (h5 x List.mem_cons_self).1.1
      simp only [pas]
      rw [hpt, if_pos (by omega), if_neg (by omega)]
      have e : mostM (begN q last) (x :: t) = max 0 x.c.pass := by
        unfold mostM
        rw [List.takeWhile_cons_of_pos (by simpa using hx)]
        have e2 : t.takeWhile (fun x => !decide (x.at_ = (begN q last : Int))) = [] := by
          rcases t with _ | ⟨y, u⟩
          · rfl
          · rw [List.takeWhile_cons_of_neg (by simpa using ht y List.mem_cons_self)]
        rw [e2]; rfl
      rw [e]; omega

end Go.Proofs.YtbihelpnojjacaaGreat.WinN
