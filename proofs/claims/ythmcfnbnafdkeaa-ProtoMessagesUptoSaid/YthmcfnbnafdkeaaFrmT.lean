/- A reader that takes bytes: what lies in memory meanwhile. -/
import Derived.Test.YthmcfnbnafdkeaaFrmS
namespace Go.Proofs.Ythmcfnbnafdkeaa.FrmT
open Go.ChangeShapes Go.WideShapes Go.ChangeAt Go.RowKit Base Wri FrmP FrmA FrmB FrmC FrmD FrmE FrmF FrmQ FrmR FrmS
open Go.Shelf
set_option linter.unusedVariables false
set_option linter.unusedSimpArgs false

/-- a box that holds a list of bytes, which lies below n0 and in no block of N -/
def BoxA (W : World) (B1 n0 : Nat) (N : Nat → Prop) (s : Bs) : Prop := ∃ ad cp, Boxed W B1 28 (.slice ad s.length cp) ∧ BAt W n0 ad s ∧ s.length ≤ cp ∧ cp ≤ 9223372036854775807 ∧ (0 < s.length → ∀ x, ad = some x → ¬ N x.block)

theorem BoxA.block {W W' : World} {B n0 : Nat} {N : Nat → Prop} {s : Bs} (h : BoxA W B n0 N s) (hb : ∀ k, k < n0 → ¬ N k → W'.heap[k]? = W.heap[k]?) (hB : W'.heap[B]? = W.heap[B]?) : BoxA W' B n0 N s := by
  obtain ⟨ad, cp, h2, h3, h4, h5, h6⟩ := h
  refine ⟨ad, cp, hB.trans h2, fun h0 => ?_, h4, h5, h6⟩
  obtain ⟨g, q, e, hg, hc⟩ := h3 h0
  have hN : ¬ N g := h6 h0 _ e
  exact ⟨g, q, e, hg, fun i x hx => (World.cell?_of_block (a := ⟨g, q + i, none⟩) (hb g hg hN)).trans (hc i x hx)⟩

structure RdJ (w : World) (B p : Nat) (va0 : Value) (s : Bs) (r : Rd) (ps : List Bs) (W : World) (row : Value) (vs : List Value) (va : Value) : Prop where
  b0 : Boxed W w.heap.size 22 row
  pls : Pls W B row vs ps
  rlow : ∀ g, row.ownBlock = some g → w.heap.size + 3 ≤ g
  rd : IsRd W B p va r
  alone : ∀ v ∈ vs, v.ownBlock ≠ va.ownBlock
  vlow : ∀ g, va.ownBlock = some g → va0.ownBlock = some g ∨ w.heap.size + 3 ≤ g
  plow : ∀ v ∈ vs, ∀ g, v.ownBlock = some g → va0.ownBlock = some g ∨ w.heap.size + 3 ≤ g
  b1 : Boxed W (w.heap.size + 1) 24 (.pointer (some ⟨p, 0, none⟩))
  left : BoxA W (w.heap.size + 2) w.heap.size (fun k => k = p ∨ va0.ownBlock = some k) s
  wr : Wr (fun k => k = p ∨ va0.ownBlock = some k) w W
  size : w.heap.size + 3 ≤ W.heap.size
  v0 : ∀ g, va0.ownBlock = some g → g < w.heap.size
  pn : p < w.heap.size
  bn : B ≤ w.heap.size

variable {w W W' : World} {B p : Nat} {va0 row va : Value} {s : Bs} {r : Rd} {ps : List Bs} {vs : List Value}

/-- the blocks in which something lies that the invariant speaks of, each with its kind -/
theorem RdJ.apart (h : RdJ w B p va0 s r ps W row vs va) : (∀ g, va.ownBlock = some g → g ≠ p ∧ row.ownBlock ≠ some g ∧ g ≠ w.heap.size ∧ g ≠ w.heap.size + 1 ∧ g ≠ w.heap.size + 2 ∧ g < W.heap.size) ∧
    (∀ v ∈ vs, ∀ g, v.ownBlock = some g → g ≠ p ∧ row.ownBlock ≠ some g ∧ g ≠ w.heap.size ∧ g ≠ w.heap.size + 1 ∧ g ≠ w.heap.size + 2 ∧ g < W.heap.size) ∧ (∀ g, row.ownBlock = some g → g ≠ p ∧ g < W.heap.size) := by
  have hp := h.rd.blk
  have key : ∀ g cur, W.heap[g]? = some (.cells cur 5 (0, 0)) → g ≠ p := by
    rintro g cur hh rfl
    rw [hp] at hh
    have := Option.some.inj hh
    injection this with _ e _
    exact absurd e (by decide)
  refine ⟨fun g e => ?_, fun v hv g e => ?_, fun g e => ⟨?_, (h.pls.own.lt g e).2⟩⟩
  · have h1 := h.vlow g e
    have h2 : va0.ownBlock = some g → g < w.heap.size := h.v0 g
    have h3 := (h.rd.own.lt g e).2
    have hu : ∃ cur, W.heap[g]? = some (.cells cur 5 (0, 0)) := by
      rcases h.rd.own.2 with ⟨rfl, _⟩ | ⟨g', cap, cur, rfl, _, hh, _⟩
      · cases e
      · cases e; exact ⟨cur, hh⟩
    obtain ⟨cur, hu⟩ := hu
    refine ⟨key g cur hu, fun e2 => ?_, ?_, ?_, ?_, h3⟩
    · rcases h.pls.own.2 with ⟨rfl, _⟩ | ⟨g', cap, cur', rfl, _, hh, _⟩
      · cases e2
      · cases e2
        rw [hu] at hh
        have := Option.some.inj hh
        injection this with _ e _
        exact absurd e (by decide)
    · rcases h1 with h1 | h1
      · have := h2 h1; omega
      · omega
    · rcases h1 with h1 | h1
      · have := h2 h1; omega
      · omega
    · rcases h1 with h1 | h1
      · have := h2 h1; omega
      · omega
  · obtain ⟨g', cur, e', _, hu, hlt⟩ := h.pls.pay hv
    rw [e'] at e; cases e
    have h1 := h.plow v hv g e'
    have h2 : va0.ownBlock = some g → g < w.heap.size := h.v0 g
    refine ⟨key g cur hu, fun e2 => h.pls.out v hv (by rw [e', e2]), ?_, ?_, ?_, hlt⟩
    · rcases h1 with h1 | h1
      · have := h2 h1; omega
      · omega
    · rcases h1 with h1 | h1
      · have := h2 h1; omega
      · omega
    · rcases h1 with h1 | h1
      · have := h2 h1; omega
      · omega
  · have h1 := h.rlow g e
    have := h.pn
    omega

/-- all blocks that count lie as they lay -/
theorem RdJ.keepAll (h : RdJ w B p va0 s r ps W row vs va) (hs : W.heap.size ≤ W'.heap.size) (hk : ∀ k, k < W.heap.size → (W.heap[k]?).any (·.isCells) = true → W'.heap[k]? = W.heap[k]?) (hlow : ∀ k, k < w.heap.size → W'.heap[k]? = W.heap[k]?)
    (hm : W'.os = W.os ∧ W'.tape = W.tape ∧ W'.output = W.output) : RdJ w B p va0 s r ps W' row vs va := by
  have hsz := h.size
  have bx : ∀ {k : Nat} {t : TypeId} {v : Value}, Boxed W k t v → W'.heap[k]? = W.heap[k]? := fun {k t v} hb => hk k hb.lt (by rw [show W.heap[k]? = _ from hb]; rfl)
  have hv : ∀ v ∈ vs, ∀ g, v.ownBlock = some g → W'.heap[g]? = W.heap[g]? := fun v hv g e => by
    obtain ⟨g', cur, e', _, hu, hlt⟩ := h.pls.pay hv
    rw [e'] at e; cases e
    exact hk g hlt (by rw [hu]; rfl)
  have own : ∀ {base n size : Nat} {e : TypeId} {v : Value} {xs : List Value}, W.ownsRow base e size v n xs → ∀ g, v.ownBlock = some g → W'.heap[g]? = W.heap[g]? := fun {base n size e v xs} ho g eg => by
    rcases ho.2 with ⟨rfl, _⟩ | ⟨g', cap, cur, rfl, _, hh, _⟩
    · cases eg
    · cases eg
      exact hk _ (Array.getElem?_eq_some_iff.1 hh).1 (by rw [hh]; rfl)
  refine ⟨(bx h.b0).trans h.b0, h.pls.keep (own h.pls.own) hv, h.rlow, h.rd.keep (hlow p h.pn) (own h.rd.own), h.alone, h.vlow, h.plow, (bx h.b1).trans h.b1, ?_, ?_, Nat.le_trans hsz hs, h.v0, h.pn, h.bn⟩
  · refine h.left.block (fun k hk2 _ => hlow k hk2) ?_
    obtain ⟨ad, cp, hb, _⟩ := h.left
    exact bx hb
  · exact ⟨hm.1.trans h.wr.os, hm.2.1.trans h.wr.tape, hm.2.2.trans h.wr.output, Nat.le_trans h.wr.size hs, fun k hk2 hr => (hlow k hk2).trans (h.wr.block k hk2 hr)⟩

theorem RdJ.drewN (h : RdJ w B p va0 s r ps W row vs va) (m : Nat) : RdJ w B p va0 s r ps (W.drewN m) row vs va :=
  h.keepAll (Nat.le_refl _) (fun _ _ _ => rfl) (fun _ _ => rfl) ⟨rfl, rfl, rfl⟩
theorem RdJ.putObj (h : RdJ w B p va0 s r ps W row vs va) {l : Nat} {o o' : Obj} (hl : w.heap.size ≤ l) (hlo : W.heap[l]? = some o) (ho : o.isCells = false) : RdJ w B p va0 s r ps (W.putObj l o') row vs va := by
  refine h.keepAll (by simp) (fun k hk hc => World.putObj_heap_other (fun e => ?_)) (fun k hk => World.putObj_heap_other (by omega)) ⟨rfl, rfl, rfl⟩
  subst e
  rw [hlo] at hc
  have : o.isCells = true := hc
  rw [this] at ho; cases ho
theorem RdJ.below (h : RdJ w B p va0 s r ps W row vs va) (hb : Below W.heap.size W W') : RdJ w B p va0 s r ps W' row vs va :=
  h.keepAll hb.size (fun k hk _ => hb.block k hk) (fun k hk => hb.block k (by have := h.size; omega)) ⟨hb.os, hb.tape, hb.output⟩

end Go.Proofs.Ythmcfnbnafdkeaa.FrmT
