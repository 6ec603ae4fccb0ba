/- The document's warm-up: its marks, its rate, how it is filled. -/
import Derived.Test.YtamofanfgdjmnaaWrmJ
import Derived.Test.YtamofanfgdjmnaaLawA
import Derived.BigQuiet
namespace Go.Proofs.Ytamofanfgdjmnaa.WrrA
set_option linter.unusedVariables false
open Go.ChangeShapes Go.WideShapes Go.ChangeAt Go.RowKit Base WrmP NumM NumC NumE NumA RefA RefB LawA WrmF WrmG Wri

def seenZ (m : Wm) : Int := if m.bg then (m.sec : Nat) else -1
def rv (m : Wm) : Array Value := #[.int .i64 m.c, .int .i64 m.s, .int .i64 m.tok, .int .i64 (seenZ m), .int .i64 m.last]
/-- the document's warm-up m lies in block p -/
def RAt (w : World) (p : Nat) (m : Wm) : Prop := w.heap[p]? = some (.cells (rv m) 74)
theorem RAt.lt {w : World} {p : Nat} {m : Wm} (h : RAt w p m) : p < w.heap.size := (Array.getElem?_eq_some_iff.1 h).1
theorem RAt.cells {w : World} {p : Nat} {m : Wm} (h : RAt w p m) : w.cell? ⟨p, 0, none⟩ = some (.int .i64 m.c) ∧ w.cell? ⟨p, 1, none⟩ = some (.int .i64 m.s) ∧ w.cell? ⟨p, 2, none⟩ = some (.int .i64 m.tok) ∧ w.cell? ⟨p, 3, none⟩ = some (.int .i64 (seenZ m)) ∧
    w.cell? ⟨p, 4, none⟩ = some (.int .i64 m.last) ∧ ∀ o, w.frozen? ⟨p, o, none⟩ = false := by
  unfold RAt rv at h
  exact ⟨by simp [World.cell?, h], by simp [World.cell?, h], by simp [World.cell?, h], by simp [World.cell?, h], by simp [World.cell?, h], fun o => by simp [World.frozen?, h]⟩
theorem RAt.below {w w' : World} {B p : Nat} {m : Wm} (h : RAt w p m) (hb : Below B w w') (hp : p < B) : RAt w' p m := (hb.block p hp).trans h
theorem RAt.wr {R : Nat → Prop} {w w' : World} {p : Nat} {m : Wm} (h : RAt w p m) (hb : Wr R w w') (hr : ¬ R p) : RAt w' p m := (hb.block p h.lt hr).trans h
theorem RAt.new (w : World) (m : Wm) : RAt (w.alloc (.cells (rv m) 74)) w.heap.size m := heap_alloc_new _ _

theorem drewN_below (w : World) (n B : Nat) : Below B w (w.drewN n) := ⟨rfl, rfl, rfl, Nat.le_refl _, fun _ _ => rfl⟩
theorem wrap_is {z : Int} (h1 : -9223372036854775808 ≤ z) (h2 : z ≤ 9223372036854775807) : wrap64 z = z ∧ IntKind.i64.wrap z = z := ⟨by unfold wrap64; omega, by rw [IntKind.wrap_i64]; omega⟩

set_option maxHeartbeats 1000000 in
theorem rmarks_core (p : Nat) (c s g v : Int) (w : World) (c0 : w.cell? ⟨p, 0, none⟩ = some (.int .i64 c)) (c1 : w.cell? ⟨p, 1, none⟩ = some (.int .i64 s))
    (e1 : wrap64 (s * c) = g) (e1' : IntKind.i64.wrap (s * c) = g) (e2 : wrap64 (g + 1) = g + 1) (e3 : Int.tdiv (g + 1) 2 = v) (e4 : wrap64 v = v) :
    Calls Try.prog 34 #[ptr p] w fun e w' => e = .returned (.tuple #[.int .i64 v, .int .i64 g]) ∧ Below w.heap.size w w' := by
  have E4 := hid e4
  clear e4
  go_enter Try.func34, Try.ntmps34
  go_wp2_with fail
  go_quiet (fail)
  have HB := hid (drewN_below w nq w.heap.size)
  clear c0 c1
  generalize w.drewN nq = wd at *
  go_wp2_with fail
  go_ret2
  refine ⟨?_, HB.out⟩
  show Ending.returned (.tuple #[.int .i64 (wrap64 v), .int .i64 g]) = _
  rw [E4.out]

theorem RMarks_any (p : Nat) (m : Wm) (ho : m.Ok) (w : World) (h : RAt w p m) :
    Calls Try.prog 34 #[ptr p] w fun e w' => e = .returned (.tuple #[.int .i64 (wn m.G : Nat), .int .i64 (m.G : Nat)]) ∧ Below w.heap.size w w' := by
  have hg := ho.g m
  have e : (m.s : Int) * (m.c : Int) = (m.G : Nat) := by unfold Wm.G; rw [Int.natCast_mul]
  have ew := wrap_is (z := (m.s : Int) * (m.c : Int)) (by rw [e]; omega) (by rw [e]; omega)
  refine rmarks_core p m.c m.s _ _ w h.cells.1 h.cells.2.1 (ew.1.trans e) (ew.2.trans e) ?_ ?_ ?_
  · unfold wrap64; omega
  · rw [show ((m.G : Nat) : Int) + 1 = ((m.G + 1 : Nat) : Int) by omega, show (2 : Int) = ((2 : Nat) : Int) from rfl, ← Int.ofNat_tdiv]
    congr 1
    unfold wn; omega
  · unfold wn wrap64; omega

set_option maxHeartbeats 2000000 in
theorem rrate_core (p : Nat) (c x v g d q r e : Int) (w : World) (c0 : w.cell? ⟨p, 0, none⟩ = some (.int .i64 c))
    (HM : Hid (∀ w0 : World, w0 = w → Calls Try.prog 34 #[ptr p] w0 fun e w' => e = .returned (.tuple #[.int .i64 v, .int .i64 g]) ∧ Below w0.heap.size w0 w'))
    (hr : (decide (x < v) = true ∧ r = c) ∨ (decide (x < v) = false ∧ ((v == g) = true ∧ r = c ∨ (v == g) = false ∧ wrap64 (x - v) = x - v ∧ wrap64 (4 * (x - v)) = 4 * (x - v) ∧ wrap64 (4 * (x - v) + g) = d ∧
      Hid (∀ w0 : World, Calls Try.prog 54 #[.int .i64 g, .int .i64 c, .int .i64 d, .bool false] w0 fun e' w' => e' = .returned (.tuple #[.int .i64 q, .int .i64 e]) ∧ Below w0.heap.size w0 w') ∧
      (decide (q < 1) = true ∧ r = 1 ∨ decide (q < 1) = false ∧ r = q)))) :
    Calls Try.prog 46 #[ptr p, .int .i64 x] w fun e w' => e = .returned (.int .i64 r) ∧ Below w.heap.size w w' := by
  go_enter Try.func46, Try.ntmps46
  go_wp2_with fail
  refine (HM.out _ rfl).mono ?_
  rintro e w1 ⟨rfl, hb1⟩
  have k0 : w1.cell? ⟨p, 0, none⟩ = some (.int .i64 c) := WrmA.kc hb1 c0
  have HB1 := hid hb1
  clear hb1 c0 HM
  rcases hr with ⟨h1, rfl⟩ | ⟨h1, ⟨h2, rfl⟩ | ⟨h2, e1, e2, e3, HD, h3⟩⟩
  · go_wp2_with fail
    go_ret
    exact ⟨rfl, HB1.out⟩
  · go_wp2_with fail
    go_ret
    exact ⟨rfl, HB1.out⟩
  · go_wp2_with fail
    refine (HD.out _).mono ?_
    rintro e w2 ⟨rfl, hb2⟩
    have HB2 := hid (WrmA.bl HB1.out hb2)
    clear hb2 HB1 HD e1 e2 e3 k0
    rcases h3 with ⟨h3, rfl⟩ | ⟨h3, rfl⟩
    · go_wp2_with fail
      go_ret
      exact ⟨rfl, HB2.out⟩
    · go_wp2_with fail
      go_ret
      exact ⟨rfl, HB2.out⟩

end Go.Proofs.Ytamofanfgdjmnaa.WrrA
