/- A reader that takes bytes: each step. -/
import Derived.Test.YthmcfnbnafdkeaaFrmT
namespace Go.Proofs.Ythmcfnbnafdkeaa.FrmU
open Go.ChangeShapes Go.WideShapes Go.ChangeAt Go.RowKit Base Wri FrmP FrmA FrmB FrmC FrmD FrmE FrmF FrmQ FrmR FrmS FrmT
open Go.Shelf
set_option linter.unusedVariables false
set_option linter.unusedSimpArgs false

theorem blk_set0 {W : World} {p : Nat} {x y v : Value} {t : TypeId} (h : W.heap[p]? = some (.cells #[x, y] t (0, 0))) : (W.setCell ⟨p, 0, none⟩ v).heap[p]? = some (.cells #[v, y] t (0, 0)) := by
  obtain ⟨hlt, hk⟩ := Array.getElem?_eq_some_iff.1 h
  show (W.heap.modify p _)[p]? = _
  rw [Array.getElem?_eq_getElem (by rw [Array.size_modify]; exact hlt), Array.getElem_modify_self, hk]
  rfl
theorem blk_set1 {W : World} {p : Nat} {x y v : Value} {t : TypeId} (h : W.heap[p]? = some (.cells #[x, y] t (0, 0))) : (W.setCell ⟨p, 1, none⟩ v).heap[p]? = some (.cells #[x, v] t (0, 0)) := by
  obtain ⟨hlt, hk⟩ := Array.getElem?_eq_some_iff.1 h
  show (W.heap.modify p _)[p]? = _
  rw [Array.getElem?_eq_getElem (by rw [Array.size_modify]; exact hlt), Array.getElem_modify_self, hk]
  rfl

variable {w W w5 : World} {B p : Nat} {va0 row va v' : Value} {s s' t : Bs} {r r' : Rd} {ps : List Bs} {vs : List Value}

/-- the reader's block and its row may turn, and new ones come -/
theorem RdJ.turn (h : RdJ w B p va0 s r ps W row vs va) {W' : World} (hk : ∀ k, k < W.heap.size → k ≠ p → va.ownBlock ≠ some k → W'.heap[k]? = W.heap[k]?) (hs : W.heap.size ≤ W'.heap.size) (hm : W'.os = W.os ∧ W'.tape = W.tape ∧ W'.output = W.output)
    (hrd : IsRd W' B p v' r') (hat : v'.ownBlock = none ∨ v'.ownBlock = va.ownBlock ∨ ∃ g, v'.ownBlock = some g ∧ W.heap.size ≤ g) : RdJ w B p va0 s r' ps W' row vs v' := by
  obtain ⟨a1, a2, a3⟩ := h.apart
  have hsz := h.size
  have hpn := h.pn
  have b0 := h.b0.lt
  have b1 := h.b1.lt
  refine ⟨(hk _ b0 (by omega) (fun e => (a1 _ e).2.2.1 rfl)).trans h.b0, h.pls.keep (fun g e => hk g (a3 g e).2 (a3 g e).1 (fun e2 => (a1 g e2).2.1 e)) (fun v hv g e => hk g (a2 v hv g e).2.2.2.2.2 (a2 v hv g e).1 (fun e2 => h.alone v hv (by rw [e, e2]))), h.rlow, hrd, ?_, ?_, h.plow,
    (hk _ b1 (by omega) (fun e => (a1 _ e).2.2.2.1 rfl)).trans h.b1, ?_, ?_, Nat.le_trans hsz hs, h.v0, hpn, h.bn⟩
  · intro v hv e
    obtain ⟨g, cur, e', _, _, hlt⟩ := h.pls.pay hv
    rcases hat with h1 | h1 | ⟨g2, h1, h2⟩
    · rw [h1, e'] at e; cases e
    · exact h.alone v hv (e.trans h1)
    · rw [h1, e'] at e; cases e; omega
  · intro g e
    rcases hat with h1 | h1 | ⟨g2, h1, h2⟩
    · rw [h1] at e; cases e
    · exact h.vlow g (h1 ▸ e)
    · rw [h1] at e; cases e; right; omega
  · refine h.left.block (fun k hk2 hN => hk k (by omega) (fun e => hN (.inl e)) (fun e => ?_)) ?_
    · rcases h.vlow k e with h1 | h1
      · exact hN (.inr h1)
      · omega
    · obtain ⟨ad, cp, hb, _⟩ := h.left
      exact hk _ hb.lt (by omega) (fun e => (a1 _ e).2.2.2.2.1 rfl)
  · exact ⟨hm.1.trans h.wr.os, hm.2.1.trans h.wr.tape, hm.2.2.trans h.wr.output, Nat.le_trans h.wr.size hs, fun k hk2 hr => (hk k (by omega) (fun e => hr (.inl e)) (fun e => by
      rcases h.vlow k e with h1 | h1
      · exact hr (.inr h1)
      · omega)).trans (h.wr.block k hk2 hr)⟩

/-- bytes appended to what has been gathered -/
theorem RdJ.gather (h : RdJ w B p va0 s r ps W row vs va) (hb : r.broken = false) (hown : w5.ownsRow B 5 1 v' (r.g.length + t.length) (r.g.map bv ++ t.map bv)) (hgrow : W.grownBy w5 va.ownBlock) (hat : v'.ownBlock = va.ownBlock ∨ v'.ownBlock = some W.heap.size) :
    w5.heap[p]? = some (.cells #[va, .bool false] 74 (0, 0)) ∧ RdJ w B p va0 s ⟨r.g ++ t, false⟩ ps (w5.setCell ⟨p, 0, none⟩ v') row vs v' := by
  obtain ⟨a1, a2, a3⟩ := h.apart
  have hsz := h.size
  have hpn := h.pn
  have hp5 : w5.heap[p]? = some (.cells #[va, .bool false] 74 (0, 0)) := (hgrow.block p (by omega) (fun e => (a1 p e.symm).1 rfl)).trans (by rw [h.rd.blk, hb])
  refine ⟨hp5, RdJ.turn h (fun k hk h1 h2 => ?_) (by simpa using hgrow.size) ⟨hgrow.os, hgrow.tape, hgrow.output⟩ ⟨blk_set0 hp5, ?_⟩ ?_⟩
  · rw [Below.heap_setCell _ _ _ k h1]
    exact hgrow.block k hk (fun e => h2 e.symm)
  · have e1 : (r.g ++ t).length = r.g.length + t.length := List.length_append
    show (w5.setCell ⟨p, 0, none⟩ v').ownsRow B 5 1 v' (r.g ++ t).length ((r.g ++ t).map bv)
    rw [e1, List.map_append]
    refine owns_keep hown (fun g e => Below.heap_setCell _ _ _ g (fun e2 => ?_))
    subst e2
    rcases hat with h1 | h1
    · exact (a1 _ (h1 ▸ e)).1 rfl
    · rw [h1] at e; cases e; omega
  · rcases hat with h1 | h1
    · exact .inr (.inl h1)
    · exact .inr (.inr ⟨_, h1, Nat.le_refl _⟩)

/-- it has told a payload -/
theorem RdJ.emptied (h : RdJ w B p va0 s r ps W row vs va) (hb : r.broken = false) : RdJ w B p va0 s Rd.zero ps (W.setCell ⟨p, 0, none⟩ (.slice none 0 0)) row vs (.slice none 0 0) :=
  RdJ.turn h (fun k hk h1 h2 => Below.heap_setCell _ _ _ k h1) (by simp) ⟨rfl, rfl, rfl⟩ ⟨blk_set0 (by rw [h.rd.blk, hb]; rfl), World.ownsRow_nil _ _ _ _⟩ (.inl rfl)
/-- it breaks -/
theorem RdJ.broke (h : RdJ w B p va0 s r ps W row vs va) : RdJ w B p va0 s ⟨[], true⟩ ps ((W.setCell ⟨p, 0, none⟩ (.slice none 0 0)).setCell ⟨p, 1, none⟩ (.bool true)) row vs (.slice none 0 0) :=
  RdJ.turn h (fun k hk h1 h2 => by rw [Below.heap_setCell _ _ _ k h1, Below.heap_setCell _ _ _ k h1]) (by simp) ⟨rfl, rfl, rfl⟩ ⟨blk_set1 (blk_set0 h.rd.blk), World.ownsRow_nil _ _ _ _⟩ (.inl rfl)
/-- the payload that is told -/
theorem RdJ.payload (h : RdJ w B p va0 s r ps W row vs va) {q c u : Nat} (hv : va = .slice (some ⟨q, 0, none⟩) r.g.length c) (hu : r.g.length = 4 + u) : PayB (W.setCell ⟨p, 0, none⟩ (.slice none 0 0)) B (.slice (some ⟨q, 4, none⟩) u u) (r.g.drop 4) := by
  subst hv
  obtain ⟨a1, _, _⟩ := h.apart
  rcases h.rd.own.2 with ⟨h0, _⟩ | ⟨g', cap, cur, he, hg, hh, hc, hm, hs, hcur⟩
  · cases h0
  · cases he
    have hl : (r.g.drop 4).length = u := by rw [List.length_drop]; omega
    refine ⟨q, 4, u, cur, by rw [hl], hg, (Below.heap_setCell _ _ _ q (a1 q rfl).1).trans hh, by omega, by omega, by omega, .inr hl.symm, fun i x hx => ?_⟩
    rw [List.getElem?_drop] at hx
    have h1 : (cur.toList.take (r.g.length * 1))[4 + i]? = (r.g.map bv)[4 + i]? := by rw [hcur]
    have hi := (List.getElem?_eq_some_iff.1 hx).1
    rw [List.getElem?_take, if_pos (by omega), List.getElem?_map, hx] at h1
    rw [← Array.getElem?_toList, h1]; rfl

/-- what is left, stored anew -/
theorem RdJ.rest (h : RdJ w B p va0 s r ps W row vs va) {ad : Option Addr} {cp : Nat} (hb : BAt W w.heap.size ad s') (h1 : s'.length ≤ cp) (h2 : cp ≤ 9223372036854775807) (h3 : 0 < s'.length → ∀ x, ad = some x → ¬ (x.block = p ∨ va0.ownBlock = some x.block)) :
    RdJ w B p va0 s' r ps (W.setCell ⟨w.heap.size + 2, 0, none⟩ (.slice ad s'.length cp)) row vs va := by
  obtain ⟨a1, a2, a3⟩ := h.apart
  have hsz := h.size
  have hpn := h.pn
  obtain ⟨ad0, cp0, hbx, _⟩ := h.left
  have hk : ∀ k, k ≠ w.heap.size + 2 → (W.setCell ⟨w.heap.size + 2, 0, none⟩ (.slice ad s'.length cp)).heap[k]? = W.heap[k]? := fun k hk => Below.heap_setCell _ _ _ k hk
  refine ⟨(hk _ (by omega)).trans h.b0, h.pls.keep (fun g e => hk g (by have := h.rlow g e; omega)) (fun v hv g e => hk g (a2 v hv g e).2.2.2.2.1), h.rlow, h.rd.keep (hk p (by omega)) (fun g e => hk g (a1 g e).2.2.2.2.1), h.alone, h.vlow, h.plow, (hk _ (by omega)).trans h.b1, ?_, ?_, by simpa using hsz, h.v0, hpn, h.bn⟩
  · refine ⟨ad, cp, hbx.set _, fun h0 => ?_, h1, h2, h3⟩
    obtain ⟨g, q, e, hg, hc⟩ := hb h0
    exact ⟨g, q, e, hg, fun i x hx => (World.cell?_of_block (a := ⟨g, q + i, none⟩) (hk g (by omega))).trans (hc i x hx)⟩
  · exact ⟨h.wr.os, h.wr.tape, h.wr.output, by simpa using h.wr.size, fun k hk2 hr => (hk k (by omega)).trans (h.wr.block k hk2 hr)⟩

/-- a payload more is kept in the list -/
theorem RdJ.pushed {w6 : World} {o : Obj} {row' v : Value} {pay : Bs} (h : RdJ w B p va0 s r ps W row vs va) (hv : PayB W B v pay) (hf : ∀ v' ∈ vs, v'.ownBlock ≠ v.ownBlock) (hfa : v.ownBlock ≠ va.ownBlock) (hfr : v.ownBlock ≠ row.ownBlock) (hl : ∀ g, v.ownBlock = some g → va0.ownBlock = some g ∨ w.heap.size + 3 ≤ g)
    (hown : w5.ownsRow B 28 1 row' (ps.length + 1) (vs ++ [v])) (hgrow : (W.alloc o).grownBy w5 row.ownBlock) (hat : row'.ownBlock = row.ownBlock ∨ row'.ownBlock = some (W.heap.size + 1)) :
    w5.heap[w.heap.size]? = some (.cells #[row] 22 (0, 0)) ∧ RdJ w B p va0 s r (ps ++ [pay]) (w5.setCell ⟨w.heap.size, 0, none⟩ row') row' (vs ++ [v]) va := by
  obtain ⟨a1, a2, a3⟩ := h.apart
  have hsz := h.size
  have hpn := h.pn
  obtain ⟨gv, cv, ev, hgv, hhv, hlv⟩ := hv.block
  have hlow : ∀ k, k < W.heap.size → row.ownBlock ≠ some k → w5.heap[k]? = W.heap[k]? := fun k hk h1 => by
    rw [hgrow.block k (by simp; omega) (fun e => h1 e.symm), Below.heap_alloc _ _ _ hk]
  have h6 : ∀ k, k ≠ w.heap.size → (w5.setCell ⟨w.heap.size, 0, none⟩ row').heap[k]? = w5.heap[k]? := fun k hk => Below.heap_setCell _ _ _ k hk
  have hk : ∀ k, k < W.heap.size → row.ownBlock ≠ some k → k ≠ w.heap.size → (w5.setCell ⟨w.heap.size, 0, none⟩ row').heap[k]? = W.heap[k]? := fun k h1 h2 h3 => (h6 k h3).trans (hlow k h1 h2)
  have hrow' : ∀ g, row'.ownBlock = some g → w.heap.size + 3 ≤ g := fun g e => by
    rcases hat with h1 | h1
    · exact h.rlow g (h1 ▸ e)
    · rw [h1] at e; cases e; omega
  have hrl : ∀ k, k < w.heap.size + 3 → row.ownBlock ≠ some k := fun k hk e => by have := h.rlow k e; omega
  have hb0 : w5.heap[w.heap.size]? = some (.cells #[row] 22 (0, 0)) := (hlow _ (by omega) (hrl _ (by omega))).trans h.b0
  have hvn : ∀ v' ∈ vs ++ [v], v'.ownBlock ≠ some w.heap.size := by
    intro v' hv'
    rcases List.mem_append.1 hv' with hv' | hv'
    · obtain ⟨g, _, e, _, _, _⟩ := h.pls.pay hv'
      rw [e]; intro e2; cases e2
      exact (a2 v' hv' _ e).2.2.1 rfl
    · obtain rfl := List.mem_singleton.1 hv'
      intro e2
      rcases hl _ e2 with h1 | h1
      · have := h.v0 _ h1; omega
      · omega
  have hown6 : (w5.setCell ⟨w.heap.size, 0, none⟩ row').ownsRow B 28 1 row' (ps.length + 1) (vs ++ [v]) := owns_keep hown (fun g e => h6 g (by have := hrow' g e; omega))
  have hPP := Pls.push (Bp := w.heap.size) (w6 := w5.setCell ⟨w.heap.size, 0, none⟩ row') (p := pay) h.pls hv hf hfr hown hgrow hat hown6 rfl hvn
  refine ⟨hb0, Boxed.set _ hb0, hPP, hrow', h.rd.keep (hk p (by omega) (hrl p (by omega)) (by omega)) (fun g e => hk g (a1 g e).2.2.2.2.2 (a1 g e).2.1 (a1 g e).2.2.1), ?_, h.vlow, ?_, (hk _ h.b1.lt (hrl _ (by omega)) (by omega)).trans h.b1, ?_, ?_, ?_, h.v0, hpn, h.bn⟩
  · intro v' hv'
    rcases List.mem_append.1 hv' with hv' | hv'
    · exact h.alone v' hv'
    · obtain rfl := List.mem_singleton.1 hv'; exact hfa
  · intro v' hv' g e
    rcases List.mem_append.1 hv' with hv' | hv'
    · exact h.plow v' hv' g e
    · obtain rfl := List.mem_singleton.1 hv'; exact hl g e
  · refine h.left.block (fun k hk2 _ => hk k (by omega) (hrl k (by omega)) (by omega)) ?_
    obtain ⟨ad, cp, hb, _⟩ := h.left
    exact hk _ hb.lt (hrl _ (by omega)) (by omega)
  · refine ⟨hgrow.os.trans h.wr.os, hgrow.tape.trans h.wr.tape, hgrow.output.trans h.wr.output, ?_, fun k hk2 hr => (hk k (by omega) (hrl k (by omega)) (by omega)).trans (h.wr.block k hk2 hr)⟩
    have := hgrow.size
    have := h.wr.size
    simp at *; omega
  · have := hgrow.size
    simp at *; omega

end Go.Proofs.Ythmcfnbnafdkeaa.FrmU
