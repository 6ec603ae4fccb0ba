/- Split: the payloads of the whole frames, and the place behind them. -/
import Derived.Test.YthmcfnbnafdkeaaFrmE
namespace Go.Proofs.Ythmcfnbnafdkeaa.FrmF
open Go.ChangeShapes Go.WideShapes Go.ChangeAt Go.RowKit Base Wri FrmP FrmA FrmB FrmC FrmD FrmE
open Go.Shelf
set_option linter.unusedVariables false
set_option linter.unusedSimpArgs false
attribute [local go_sem] Oper.semAt_some

/-- an append, kept whole -/
def app (ats : Array TypeId) (ty : TypeId) (args : Array Value) : Sem Value := Builtin.append_ ats ty args
theorem builtin_app {ats : Array TypeId} {ty : TypeId} {cs : Array Bool} {args : Array Value} : builtin .append ats ty cs args = (do pure (.value (← app ats ty args))) := rfl
attribute [local go_sem ↓ high] builtin_app

theorem infoBs : (Try.prog.info? 28).map (fun i => (i.zero, i.size, i.bytes)) = some (some (.slice none 0 0), 1, 24) := by kernel_rfl

/-- what has been gone through up to a place -/
structure Gone (b : Bs) (p : Nat) (ps : List Bs) : Prop where
  place_ : place ps = p
  cut : sp b = (ps ++ (sp (b.drop p)).1, (sp (b.drop p)).2)
theorem Gone.zero (b : Bs) : Gone b 0 [] := ⟨rfl, by simp⟩
theorem Gone.next {b : Bs} {p : Nat} {ps : List Bs} (h : Gone b p ps) (hw : whole (b.drop p) = true) : Gone b (p + (4 + num4 (b.drop p))) (ps ++ [pay (b.drop p)]) := by
  have h1 := whole_iff.1 hw
  have hpl := pay_len hw
  have h2 := h.place_
  refine ⟨?_, ?_⟩
  · simp only [place, List.map_append, List.sum_append, List.map_cons, List.map_nil, List.sum_cons, List.sum_nil] at *
    omega
  · rw [h.cut, sp_whole hw]
    unfold nxt
    rw [List.drop_drop]
    simp
theorem Gone.count {b : Bs} {p : Nat} {ps : List Bs} (h : Gone b p ps) : 5 * ps.length ≤ b.length := by
  have h1 := sp_count b
  have h2 := congrArg (fun x => x.1.length) h.cut
  simp at h2
  omega
theorem Gone.ends {b : Bs} {p : Nat} {ps : List Bs} (h : Gone b p ps) (hw : whole (b.drop p) = false) : ps = (sp b).1 ∧ b.drop p = (sp b).2 := by
  have := h.cut
  rw [sp_none hw] at this
  rw [this]; simp
theorem Gone.le {b : Bs} {p : Nat} {ps : List Bs} (h : Gone b p ps) : p ≤ b.length := by
  have h1 := sp_place b
  rw [h.cut] at h1
  simp only [place, List.map_append, List.sum_append] at h1
  have := h.place_
  unfold place at this
  omega

/-- boxes of the payloads, of the place, of what is left -/
structure SpI (w : World) (s : Bs) (ps : List Bs) (W : World) : Prop where
  told : ∃ row vs, Boxed W w.heap.size 22 row ∧ Pls W (w.heap.size + 3) row vs ps
  plc : Boxed W (w.heap.size + 1) 3 (.int .i64 (place ps : Nat))
  left : BoxS W (w.heap.size + 2) w.heap.size s
  bel : Below w.heap.size w W
  size : w.heap.size + 3 ≤ W.heap.size

theorem bat_put {W : World} {n0 l : Nat} {ad : Option Addr} {s : Bs} {o : Obj} (h : BAt W n0 ad s) (hl : n0 ≤ l) : BAt (W.putObj l o) n0 ad s := fun h0 => by
  obtain ⟨g, q, e, hg, hc⟩ := h h0
  exact ⟨g, q, e, hg, fun i x hx => (World.cell?_of_block (a := ⟨g, q + i, none⟩) (World.putObj_heap_other (by show g ≠ l; omega))).trans (hc i x hx)⟩
theorem box_put {W : World} {B l : Nat} {t : TypeId} {v : Value} {o : Obj} (h : Boxed W B t v) (hl : B ≠ l) : Boxed (W.putObj l o) B t v := (World.putObj_heap_other hl).trans h
theorem boxs_put {W : World} {B n0 l : Nat} {s : Bs} {o : Obj} (h : BoxS W B n0 s) (hl : n0 ≤ l) (hB : B ≠ l) : BoxS (W.putObj l o) B n0 s := by
  obtain ⟨h1, ad, cp, h2, h3, h4⟩ := h
  exact ⟨by simpa using h1, ad, cp, box_put h2 hB, bat_put h3 hl, h4⟩
theorem pls_put {W : World} {base l : Nat} {row : Value} {vs : List Value} {ps : List Bs} {o o' : Obj} (h : Pls W base row vs ps) (hl : W.heap[l]? = some o) (ho : o.isCells = false) : Pls (W.putObj l o') base row vs ps :=
  ⟨ownsRow_putObj h.own o' hl ho, fun i v p h1 h2 => (h.each i v p h1 h2).keep (fun g e => World.putObj_heap_other (by
      obtain ⟨g', cur, e', _, hh, _⟩ := (h.each i v p h1 h2).block
      rw [e'] at e; cases e
      intro e2; subst e2
      rw [hl] at hh; cases hh; cases ho)), h.apart, h.out⟩
theorem below_put {n0 l : Nat} {W : World} {o o' : Obj} (h : W.heap[l]? = some o) (hl : n0 ≤ l) : Below n0 W (W.putObj l o') :=
  (Below.refl n0 W).grown (grownBy_putObj' W l o') (by have := (Array.getElem?_eq_some_iff.1 h).1; omega) (fun k e => by cases e; exact hl)

theorem SpI.stands {w : World} {s : Bs} {ps : List Bs} {B : Nat} (hB : w.heap.size + 3 ≤ B) : Stands B (SpI w s ps) := by
  rintro U V h ⟨l, o, o', hl, hlo, ho, rfl⟩
  obtain ⟨row, vs, h1, h2⟩ := h.told
  exact ⟨⟨row, vs, box_put h1 (by omega), pls_put h2 hlo ho⟩, box_put h.plc (by omega), boxs_put h.left (by omega) (by omega), h.bel.trans (below_put hlo (by omega)), by simpa using h.size⟩

theorem bat_block {W W' : World} {n0 : Nat} {ad : Option Addr} {s : Bs} (h : BAt W n0 ad s) (hb : ∀ k, k < n0 → W'.heap[k]? = W.heap[k]?) : BAt W' n0 ad s := fun h0 => by
  obtain ⟨g, q, e, hg, hc⟩ := h h0
  exact ⟨g, q, e, hg, fun i x hx => (World.cell?_of_block (a := ⟨g, q + i, none⟩) (hb g hg)).trans (hc i x hx)⟩
theorem boxs_block {W W' : World} {B n0 : Nat} {s : Bs} (h : BoxS W B n0 s) (hs : W.heap.size ≤ W'.heap.size) (hb : ∀ k, k < n0 → W'.heap[k]? = W.heap[k]?) (hB : W'.heap[B]? = W.heap[B]?) : BoxS W' B n0 s := by
  obtain ⟨h1, ad, cp, h2, h3, h4⟩ := h
  exact ⟨Nat.le_trans h1 hs, ad, cp, hB.trans h2, bat_block h3 hb, h4⟩

/-- what is left is stored anew -/
theorem SpI.cutOff {w W : World} {s s' : Bs} {ps : List Bs} {ad : Option Addr} {cp : Nat} (h : SpI w s ps W) (hb : BAt W w.heap.size ad s') (h1 : s'.length ≤ cp) (h2 : cp ≤ 9223372036854775807) :
    SpI w s' ps (W.setCell ⟨w.heap.size + 2, 0, none⟩ (.slice ad s'.length cp)) := by
  obtain ⟨row, vs, b1, b2⟩ := h.told
  obtain ⟨hn, ad0, cp0, bx, _, _⟩ := h.left
  have hk : ∀ k, k ≠ w.heap.size + 2 → (W.setCell ⟨w.heap.size + 2, 0, none⟩ (.slice ad s'.length cp)).heap[k]? = W.heap[k]? := fun k hk => Below.heap_setCell _ _ _ k hk
  refine ⟨⟨row, vs, (hk _ (by omega)).trans b1, b2.keep (fun g e => hk g (by have := (b2.own.lt g e).1; omega)) (fun v hv g e => hk g (by obtain ⟨g', _, e', hb, _⟩ := b2.pay hv; rw [e'] at e; cases e; omega))⟩, (hk _ (by omega)).trans h.plc, ?_, h.bel.setCell (p := ⟨w.heap.size + 2, 0, none⟩) (by show _ ≤ w.heap.size + 2; omega) _, by simpa using h.size⟩
  exact ⟨by simpa using hn, ad, cp, bx.set _, bat_block hb (fun k hk2 => hk k (by omega)), h1, h2⟩

/-- reading leaves all as it is -/
theorem SpI.drewN {w W : World} {s : Bs} {ps : List Bs} (h : SpI w s ps W) (m : Nat) : SpI w s ps (W.drewN m) := by
  obtain ⟨⟨row, vs, b1, b2⟩, h2, h3, h4, h5⟩ := h
  exact ⟨⟨row, vs, b1, ⟨b2.own, b2.each, b2.apart, b2.out⟩⟩, h2, h3, ⟨h4.os, h4.tape, h4.output, h4.size, h4.block⟩, h5⟩
theorem SpI.drew {w W : World} {s : Bs} {ps : List Bs} (h : SpI w s ps W) : SpI w s ps W.drew := h.drewN 1

theorem feed_sp (w : World) (b : Bs) : Feed b (w.heap.size + 2) w.heap.size (fun p W => ∃ ps, Gone b p ps ∧ SpI w (b.drop p) ps W) (fun p W => ∃ ps, Gone b (p + (4 + num4 (b.drop p))) ps ∧ SpI w (b.drop p) ps W) :=
  ⟨fun p W ⟨ps, _, h⟩ => h.left, fun p W m ⟨ps, h1, h⟩ => ⟨ps, h1, h.drewN m⟩, fun p W ⟨ps, _, h⟩ => h.left, fun p W ad cp ⟨ps, h1, h⟩ hb hc hd => ⟨ps, h1, h.cutOff hb hc hd⟩⟩

end Go.Proofs.Ythmcfnbnafdkeaa.FrmF
