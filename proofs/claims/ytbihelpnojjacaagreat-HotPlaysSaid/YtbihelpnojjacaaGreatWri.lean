/- What a call writes: blocks of a set alone, and new ones. Lists that the call owns. -/
import Derived.Test.YtbihelpnojjacaaGreatWldF
import Derived.Laws.AppendOwnNone
import Derived.Maps.AppendAt
namespace Go.Proofs.YtbihelpnojjacaaGreat.Wri
open Go.ChangeShapes Go.WideShapes Go.ChangeAt Go.RowKit Base

structure Wr (R : Nat → Prop) (w w' : World) : Prop where
  os : w'.os = w.os
  tape : w'.tape = w.tape
  output : w'.output = w.output
  size : w.heap.size ≤ w'.heap.size
  block : ∀ k, k < w.heap.size → ¬ R k → w'.heap[k]? = w.heap[k]?

variable {R R' : Nat → Prop} {w w1 w2 w' : World}

theorem Wr.refl (R : Nat → Prop) (w : World) : Wr R w w := ⟨rfl, rfl, rfl, Nat.le_refl _, fun _ _ _ => rfl⟩
theorem Wr.on (h : Wr R w w1) (h2 : Wr R' w1 w2) (hr : ∀ k, R' k → R k ∨ w.heap.size ≤ k) : Wr R w w2 :=
  ⟨h2.os.trans h.os, h2.tape.trans h.tape, h2.output.trans h.output, Nat.le_trans h.size h2.size, fun k hk hb => (h2.block k (Nat.lt_of_lt_of_le hk h.size) (fun e => (hr k e).elim hb (fun h3 => by omega))).trans (h.block k hk hb)⟩
theorem Wr.trans (h : Wr R w w1) (h2 : Wr R w1 w2) : Wr R w w2 := h.on h2 (fun _ e => .inl e)
theorem Wr.mono (h : Wr R w w1) (hr : ∀ k, R k → R' k) : Wr R' w w1 := ⟨h.os, h.tape, h.output, h.size, fun k hk hb => h.block k hk (fun e => hb (hr k e))⟩
theorem Wr.ofBelow (h : Below w.heap.size w w1) : Wr R w w1 := ⟨h.os, h.tape, h.output, h.size, fun k hk _ => h.block k hk⟩
theorem Wr.ofGrown {row : Option Nat} (h : w.grownBy w1 row) (hr : ∀ k, row = some k → R k) : Wr R w w1 :=
  ⟨h.os, h.tape, h.output, h.size, fun k hk hb => h.block k hk (fun e => hb (hr k e.symm))⟩
theorem Wr.set (a : Addr) (v : Value) (hr : R a.block) : Wr R w (w.setCell a v) := Wr.ofGrown (WldF.grown_set w a v) (fun k e => by cases e; exact hr)
theorem Wr.drewN (h : Wr R w w1) (n : Nat) : Wr R w (w1.drewN n) := ⟨h.os, h.tape, h.output, h.size, h.block⟩
theorem Wr.below (h : Wr R w w1) (B : Nat) (hs : B ≤ w.heap.size) (hr : ∀ k, R k → B ≤ k) : Below B w w1 :=
  ⟨h.os, h.tape, h.output, h.size, fun k hk => h.block k (by omega) (fun e => by have := hr k e; omega)⟩
theorem Wr.cell (h : Wr R w w1) {k : Nat} (o : Nat) (hk : k < w.heap.size) (hr : ¬ R k) : w1.cell? ⟨k, o, none⟩ = w.cell? ⟨k, o, none⟩ := World.cell?_of_block (h.block k hk hr)
theorem Wr.frozen (h : Wr R w w1) {k : Nat} (o : Nat) (hk : k < w.heap.size) (hr : ¬ R k) : w1.frozen? ⟨k, o, none⟩ = w.frozen? ⟨k, o, none⟩ := World.frozen?_of_block (h.block k hk hr)

theorem owns_keep {w w' : World} {base n size : Nat} {e : TypeId} {v : Value} {xs : List Value} (h : w.ownsRow base e size v n xs) (hk : ∀ g, v.ownBlock = some g → w'.heap[g]? = w.heap[g]?) : w'.ownsRow base e size v n xs := by
  refine ⟨h.1, ?_⟩
  rcases h.2 with hn | ⟨g, cap, cur, rfl, hb, hgg, rest⟩
  · exact .inl hn
  · exact .inr ⟨g, cap, cur, rfl, hb, (hk g rfl).trans hgg, rest⟩

theorem owns_wr {R : Nat → Prop} {w w' : World} {base n size : Nat} {e : TypeId} {v : Value} {xs : List Value} (h : w.ownsRow base e size v n xs) (hw : Wr R w w') (hk : ∀ g, v.ownBlock = some g → ¬ R g) : w'.ownsRow base e size v n xs :=
  owns_keep h (fun g hg => hw.block g (h.lt g hg).2 (hk g hg))

theorem owns_shape {w : World} {base n size : Nat} {e : TypeId} {v : Value} {xs : List Value} (h : w.ownsRow base e size v n xs) : ∃ va vc, v = .slice va n vc := by
  rcases h.2 with ⟨rfl, h0⟩ | ⟨g, cap, cur, rfl, _⟩
  · exact ⟨none, 0, by rw [h0]⟩
  · exact ⟨_, _, rfl⟩

/-- a row of cells that take one place each -/
theorem owns_at {w : World} {base n : Nat} {e : TypeId} {v : Value} {xs : List Value} (h : w.ownsRow base e 1 v n xs) (hn : 0 < n) :
    ∃ g c, v = .slice (some ⟨g, 0, none⟩) n c ∧ base ≤ g ∧ g < w.heap.size ∧ ∀ i x, i < n → xs[i]? = some x → w.cell? ⟨g, i, none⟩ = some x := by
  have hlt := h.lt
  obtain ⟨hl, h2⟩ := h
  rcases h2 with ⟨_, h0⟩ | ⟨g, cap, cur, rfl, hg, hh, hc, hm, hs, hcur⟩
  · omega
  · refine ⟨g, cap, rfl, hg, (hlt g rfl).2, fun i x hi hx => ?_⟩
    have h1 : (cur.toList.take (n * 1))[i]? = xs[i]? := by rw [hcur]
    rw [List.getElem?_take, if_pos (by omega), hx] at h1
    have e : cur[i]? = some x := by rw [← Array.getElem?_toList, h1]
    simp [World.cell?, hh, e]

end Go.Proofs.YtbihelpnojjacaaGreat.Wri
