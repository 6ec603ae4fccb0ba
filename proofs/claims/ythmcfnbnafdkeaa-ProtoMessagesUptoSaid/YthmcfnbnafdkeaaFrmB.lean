/- A range over a function that writes memory between its rounds: iterator and body share one invariant. -/
import Derived.Test.YthmcfnbnafdkeaaWri
import Derived.RangeFuncNested
import Derived.RangeFuncBound
import Derived.RangeFuncCalls
import Derived.RangeFuncLeaves
import Derived.RangeFuncBox
import Derived.RangeFuncFrom
import Derived.RangeFuncWrites
import Derived.Shelf.Abstract
import Derived.Shelf.RegionOpen
import Derived.OwnWalkIn
import Derived.TacticsInMore
import Derived.LoopNIn
import Derived.LoopIn
import Derived.Maps.AppendAt
import Derived.Stop.RegionWithIn
namespace Go.Proofs.Ythmcfnbnafdkeaa.FrmB
open Go.ChangeShapes Go.WideShapes Go.ChangeAt Go.RowKit Base Wri
open Go.Shelf
set_option linter.unusedVariables false

/-- one block that is no cells, from B on, is turned -/
def Turn (B : Nat) (U V : World) : Prop := ∃ (l : Nat) (o o' : Obj), B ≤ l ∧ U.heap[l]? = some o ∧ o.isCells = false ∧ V = U.putObj l o'
def Stands (B : Nat) (J : World → Prop) : Prop := ∀ U V, J U → Turn B U V → J V

variable {F : Fence} {n : Nat} {P : Program}

/-- how a round's body ends here: it goes on -/
def goesOn (B : Nat) (J : World → Prop) (W : World) : Exit → Act → World → Prop
  | .normal, _, W' => KeepsFrom B W W' ∧ J W'
  | _, _, _ => False

theorem rf_joint {X : Type} {g : Operand} {ps : Array Tmp} {assign body : Code} {Q : Exit → Act → World → Prop} {a : Act} {w : World}
    (hro : F.round = none) (h1 : 1 ≤ n) {gf : Nat} {lb : Array Value} (hg : a.eval g = .func (.func gf) #[] lb) (hFg : F.fn gf) (eg : ∀ args w, (callFunc gf args).run P w = .ok (.enter gf args) w)
    (encs : X → Array Value) (hps : ∀ x, (encs x).size = ps.size) (A B : X → World → Prop) (Z : World → Prop)
    (hA : ∀ x, Stands w.heap.size (A x)) (hB : ∀ x, Stands w.heap.size (B x)) (hZ : Stands w.heap.size Z) (a₁ : X → Act)
    (hassign : ∀ (l : Nat) (x : X) (W : World) (K : Act → World → Prop), K (a₁ x) W →
      assign.wpIn (F.inRound l) (n - 1 - 1) P (Exit.then K (fun _ _ _ => False)) { tmps := (ps.zip (encs x)).foldl (fun t (p, v) => t.setIfInBounds p v) a.tmps, defers := [] } W)
    (hbody : ∀ (l : Nat) (x : X) (W : World), A x W → body.wpIn (F.inRound l) (n - 1 - 1) P (goesOn w.heap.size (B x) W) (a₁ x) W)
    (hiter : ∀ (l : Nat) (Bk : World → Prop) (W1 : World), (∀ U V, Bk U → KeepsFrom w.heap.size U V → Bk V) →
      (∀ x W, A x W → Bk W → YieldAt F (n - 1 - 1) P l (encs x) W fun e W' => e = .returned (.bool true) ∧ B x W' ∧ Bk W') →
      Bk W1 → (∃ o o' : Obj, W1 = (w.alloc o).alloc o') →
      CallsIn F (n - 1) P gf (#[.func (.yield l) #[] #[]] ++ lb) W1 fun e W' => (∃ v, e = .returned v) ∧ Z W' ∧ Bk W')
    (hdone : ∀ (D : Nat) (W : World), w.heap.size ≤ D → Z W → W.heap[D]? = some (.deferred (some [])) → Q .normal { a with defers := { target := .collected D, args := #[] } :: a.defers } W) :
    (Code.rangeFunc g ps assign body).wpIn F n P Q a w := by
  refine wpIn_rangeFunc fun fn hfn => ?_
  rw [hro]
  let rec_ : LoopState → Loop := fun st => { state := st, pending := none, fn, tmps := a.tmps, params := ps, assign, body, defers := w.heap.size }
  let W1 : World := (w.alloc (.deferred (some []))).alloc (.loop (rec_ .ready))
  let Bk : World → Prop := fun W => W.heap[w.heap.size + 1]? = some (.loop (rec_ .ready)) ∧ W.heap[w.heap.size]? = some (.deferred (some []))
  have hBk1 : Bk W1 := ⟨by
      have := World.alloc_heap_new (w.alloc (.deferred (some []))) (.loop (rec_ .ready))
      rwa [World.size_alloc] at this,
    (Below.heap_alloc _ _ _ (by simp)).trans (World.alloc_heap_new w _)⟩
  have hBkS : ∀ U V, Bk U → KeepsFrom w.heap.size U V → Bk V := fun U V h k => ⟨k.same _ _ (by omega) h.1 rfl, k.same _ _ (Nat.le_refl _) h.2 rfl⟩
  refine ⟨w.heap.size + 1, [{ target := .collected w.heap.size, args := #[] }], W1, { target := .fn (.func gf) lb, args := #[.func (.yield (w.heap.size + 1)) #[] #[]] }, W1, gf,
    #[.func (.yield (w.heap.size + 1)) #[] #[]] ++ lb, W1, run_enterLoop_outer _ _ _ _ _, ?_, ?_, ?_, fun _ => h1, ?_⟩
  · simp only [resolve, hg]
    simp [go_sem]
  · intro f' hf'
    simp [Target.leads] at hf'
    subst hf'
    exact hFg
  · simp [invoke, go_sem, eg]
  · refine (hiter (w.heap.size + 1) Bk W1 hBkS ?_ hBk1 ⟨_, _, rfl⟩).mono ?_
    · intro x W hx hk
      have hlt := (Array.getElem?_eq_some_iff.1 hk.1).1
      refine ⟨fn, _, assign, body, run_yield (P := P) (args := encs x) hk.1 (hps x), roundIn_of_wpIn hfn (hassign _ x W _ ?_)⟩
      refine ⟨_, run_beginRound hk.1 rfl, ?_⟩
      have hl2 : (W.putObj (w.heap.size + 1) (.loop { rec_ .ready with state := .busy })).heap[w.heap.size + 1]? = some (.loop { rec_ .ready with state := .busy }) := World.putObj_heap_same hlt
      have hk2 : (W.putObj (w.heap.size + 1) (.loop { rec_ .ready with state := .busy })).heap[w.heap.size]? = some (.deferred (some [])) := (World.putObj_heap_other (by omega)).trans hk.2
      refine wpIn_mono (hbody _ x _ (hA x W _ hx ⟨_, _, _, by omega, hk.1, rfl, rfl⟩)) ?_
      rintro e a3 W3 hp
      cases e with
      | normal =>
        obtain ⟨hk3, hb3⟩ := hp
        have hl3 := hk3.same _ _ (by omega) hl2 rfl
        have hk4 := hk3.same _ _ (Nat.le_refl _) hk2 rfl
        have hlt3 := (Array.getElem?_eq_some_iff.1 hl3).1
        exact ⟨_, _, run_endRound (P := P) none hl3, rfl, hB x W3 _ hb3 ⟨_, _, _, by omega, hl3, rfl, rfl⟩, World.putObj_heap_same hlt3, (World.putObj_heap_other (by omega)).trans hk4⟩
      | _ => exact hp.elim
    · rintro e W2 ⟨⟨v, rfl⟩, hz, hk⟩
      exact ⟨none, _, run_endLoop (P := P) hk.1 (by show LoopState.ready ≠ LoopState.busy; simp), hdone _ _ (Nat.le_refl _) (hZ W2 _ hz ⟨_, _, _, by omega, hk.1, rfl, rfl⟩) ((World.putObj_heap_other (by omega)).trans hk.2)⟩

end Go.Proofs.Ythmcfnbnafdkeaa.FrmB
