/- WarmRates: a warm-up beside the tokens and the rates that were told. -/
import Derived.Test.YtamofanfgdjmnaaWrmK
import Derived.Test.YtamofanfgdjmnaaRows2
import Derived.Maps.AppendAt
namespace Go.Proofs.Ytamofanfgdjmnaa.WrmR
set_option linter.unusedVariables false
open Go.ChangeShapes Go.WideShapes Go.ChangeAt Go.RowKit Go.Deep Base WrmP NumM NumC NumE NumA WrmA WrmB WrmC WrmD WrmE WrmF WrmG WrmH WrmI WrmJ WrmK Wri Rows2

theorem infoI : (Try.prog.info? 3).map (fun i => (i.zero, i.size, i.bytes)) = some (some (.int .i64 0), 1, 8) := by kernel_rfl

def OI (B : Nat) (w : World) (v : Value) (xs : List Nat) : Prop := w.ownsRow B 3 1 v xs.length (xs.map fun x => Value.int .i64 (x : Nat))

structure Rt (w0 : World) (p : Nat) (m : Wm) (xs ys : List Nat) (vx vy : Value) (wr : World) : Prop where
  wm : At wr p m
  up : w0.heap.size ≤ p
  own1 : OI w0.heap.size wr vx xs
  own2 : OI w0.heap.size wr vy ys
  far1 : vx.ownBlock ≠ some p
  far2 : vy.ownBlock ≠ some p
  two : ∀ g, vx.ownBlock = some g → vy.ownBlock ≠ some g
  bel : Below w0.heap.size w0 wr

variable {w0 wr w' : World} {p : Nat} {m m' : Wm} {xs ys zs : List Nat} {vx vy v' : Value}

theorem OI.of_block {B : Nat} {w w' : World} {v : Value} {xs : List Nat} (h : OI B w v xs) (e : ∀ g, v.ownBlock = some g → w'.heap[g]? = w.heap[g]?) : OI B w' v xs := owns_keep h e

theorem Rt.below (h : Rt w0 p m xs ys vx vy wr) (hb : Below wr.heap.size wr w') : Rt w0 p m xs ys vx vy w' where
  wm := h.wm.below hb h.wm.lt
  up := h.up
  own1 := h.own1.of_block fun g hg => hb.block g (World.ownsRow.lt h.own1 g hg).2
  own2 := h.own2.of_block fun g hg => hb.block g (World.ownsRow.lt h.own2 g hg).2
  far1 := h.far1
  far2 := h.far2
  two := h.two
  bel := h.bel.trans (hb.mono h.bel.size)
theorem Rt.alloc (h : Rt w0 p m xs ys vx vy wr) (o : Obj) : Rt w0 p m xs ys vx vy (wr.alloc o) := h.below ((Below.refl _ _).alloc (Nat.le_refl _) o)

theorem Rt.filled (h : Rt w0 p m xs ys vx vy wr) (ha : At w' p m') (hw : Wr (fun k => k = p) wr w') : Rt w0 p m' xs ys vx vy w' where
  wm := ha
  up := h.up
  own1 := h.own1.of_block fun g hg => hw.block g (World.ownsRow.lt h.own1 g hg).2 (fun e => h.far1 (by rw [hg, e]))
  own2 := h.own2.of_block fun g hg => hw.block g (World.ownsRow.lt h.own2 g hg).2 (fun e => h.far2 (by rw [hg, e]))
  far1 := h.far1
  far2 := h.far2
  two := h.two
  bel := h.bel.trans (hw.below w0.heap.size h.bel.size (fun k e => by rw [e]; exact h.up))

theorem Rt.pushed1 (h : Rt w0 p m xs ys vx vy wr) (ho : OI w0.heap.size w' v' zs) (hg : wr.grownBy w' vx.ownBlock) (hv : v'.ownBlock = vx.ownBlock ∨ v'.ownBlock = some wr.heap.size) : Rt w0 p m zs ys v' vy w' where
  wm := (hg.block p h.wm.lt (fun e => h.far1 e.symm)).trans h.wm
  up := h.up
  own1 := ho
  own2 := h.own2.of_block fun g eg => hg.block g (World.ownsRow.lt h.own2 g eg).2 (fun e => h.two g e.symm eg)
  far1 := by
    rcases hv with hv | hv
    · rw [hv]; exact h.far1
    · rw [hv]; intro e; have := Option.some.inj e; have := h.wm.lt; omega
  far2 := h.far2
  two := fun g eg e2 => by
    rcases hv with hv | hv
    · exact h.two g (hv.symm.trans eg) e2
    · rw [hv] at eg; obtain rfl := Option.some.inj eg; have := (World.ownsRow.lt h.own2 _ e2).2; omega
  bel := h.bel.grown hg h.bel.size (fun k e => (World.ownsRow.lt h.own1 k e).1)

theorem Rt.pushed2 (h : Rt w0 p m xs ys vx vy wr) (ho : OI w0.heap.size w' v' zs) (hg : wr.grownBy w' vy.ownBlock) (hv : v'.ownBlock = vy.ownBlock ∨ v'.ownBlock = some wr.heap.size) : Rt w0 p m xs zs vx v' w' where
  wm := (hg.block p h.wm.lt (fun e => h.far2 e.symm)).trans h.wm
  up := h.up
  own2 := ho
  own1 := h.own1.of_block fun g eg => hg.block g (World.ownsRow.lt h.own1 g eg).2 (fun e => h.two g eg e.symm)
  far2 := by
    rcases hv with hv | hv
    · rw [hv]; exact h.far2
    · rw [hv]; intro e; have := Option.some.inj e; have := h.wm.lt; omega
  far1 := h.far1
  two := fun g eg e2 => by
    rcases hv with hv | hv
    · exact h.two g eg (hv.symm.trans e2)
    · rw [hv] at e2; obtain rfl := Option.some.inj e2; have := (World.ownsRow.lt h.own1 _ eg).2; omega
  bel := h.bel.grown hg h.bel.size (fun k e => (World.ownsRow.lt h.own2 k e).1)

/-- where the numbers lie -/
theorem OI.at_ {B : Nat} {w : World} {v : Value} {xs : List Nat} (h : OI B w v xs) (h0 : 0 < xs.length) : ∃ g c, v = .slice (some ⟨g, 0, none⟩) xs.length c ∧ g < w.heap.size ∧ ∀ i, i < xs.length → w.cell? ⟨g, i, none⟩ = some (.int .i64 (xs.getD i 0 : Nat)) := by
  obtain ⟨g, c, he, -, hg, hc⟩ := owns_at h h0
  exact ⟨g, c, he, hg, fun i hi => hc i _ hi (by simp [List.getD, hi])⟩

/-- a filling that was told -/
theorem told (m : Wm) (ho : m.Ok) (t past : Int) (h : ref2 m.last t past = 0) : (fillA m t past).c = m.c ∧ (fillA m t past).G = m.G ∧ rateA m t past = (rateN m.c m.G (fillA m t past).tok : Nat) := by
  unfold fillA rateA
  rw [if_pos h, if_pos h]
  exact ⟨rfl, rfl, rfl⟩
theorem told_no (m : Wm) (t past : Int) (h : ref2 m.last t past ≠ 0) : fillA m t past = m := by unfold fillA; rw [if_neg h]

end Go.Proofs.Ytamofanfgdjmnaa.WrmR
