/- Cut anywhere, the same is told: pure, and the loop's steps. -/
import Derived.Test.YthmcfnbnafdkeaaFrmM
import Derived.Test.YthmcfnbnafdkeaaFrmG
import Derived.Laws.OwnMore
namespace Go.Proofs.Ythmcfnbnafdkeaa.FrmC2
open Go.ChangeShapes Go.WideShapes Go.ChangeAt Go.RowKit Go.Deep Base Wri FrmP FrmA FrmD FrmE FrmF FrmG FrmQ FrmR FrmW FrmX FrmY FrmL FrmZ FrmO FrmM
set_option linter.unusedVariables false
set_option linter.unusedSimpArgs false

/-- of a stream of right frames, what is told of a beginning, and what is gathered -/
theorem cut_put {ls : List Bs} (hr : ∀ q ∈ ls, Right q) (p k : Nat) : (Rd.mk (sp ((frames ls).take p)).2 false).put (((frames ls).drop p).take k) = ((sp ((sp ((frames ls).take p)).2 ++ ((frames ls).drop p).take k)).1, ⟨(sp ((frames ls).take (p + k))).2, false⟩) ∧
    (sp ((frames ls).take (p + k))).1 = (sp ((frames ls).take p)).1 ++ (sp ((sp ((frames ls).take p)).2 ++ ((frames ls).drop p).take k)).1 := by
  have e : (frames ls).take (p + k) = (frames ls).take p ++ ((frames ls).drop p).take k := List.take_add
  have h1 := sp_app ((frames ls).take p) (((frames ls).drop p).take k)
  rw [← e] at h1
  have h2 := (fine_ahead ls hr ((frames ls).take (p + k)) ((frames ls).drop (p + k)) (List.take_append_drop _ _)).1
  have h3 := congrArg Prod.snd h1
  have h4 := congrArg Prod.fst h1
  dsimp only at h3 h4
  rw [h3] at h2
  exact ⟨by rw [Rd.put_good rfl h2, h3], h4⟩
theorem cut_ok {ls : List Bs} (hr : ∀ q ∈ ls, Right q) (p : Nat) : (Rd.mk (sp ((frames ls).take p)).2 false).Ok :=
  ⟨(fun h => by cases h), whole_left _, (fine_ahead ls hr ((frames ls).take p) ((frames ls).drop p) (List.take_append_drop _ _)).1⟩

/-- a list of lists appended to another one -/
theorem out_run (W : World) (B B' : Nat) (hB : B ≤ W.heap.size) (oa ra : Option Addr) (m n oc rc : Nat) (vs vs' : List Value) (hown : W.ownsRow B 28 1 (.slice oa m oc) m vs) (hrow : W.ownsRow B' 28 1 (.slice ra n rc) n vs') (hm : m + n ≤ 1099511627776) (hone : ∀ u ∈ vs', u.oneCell' = true) :
    ∃ oa' oc' w5, Sem.run Try.prog (app #[22, 22] 22 #[.slice oa m oc, .slice ra n rc]) W = .ok (.slice oa' (m + n) oc') w5 ∧ w5.ownsRow B 28 1 (.slice oa' (m + n) oc') (m + n) (vs ++ vs') ∧ W.grownBy w5 (Value.slice oa m oc).ownBlock := by
  obtain ⟨i0, hi, hz0, hz1, hz2⟩ := info_parts infoBs
  rcases hrow.2 with ⟨h1, h2⟩ | ⟨g, cap, cur, h1, _, hh, _⟩
  · injection h1 with e1 e2 e3
    subst e1 e2 e3
    have hv : vs' = [] := List.eq_nil_of_length_eq_zero (by have := hrow.1; omega)
    subst hv
    refine ⟨oa, oc, W, run_append_owned_none (P := Try.prog) (w := W) B 22 22 28 i0 1 Try.underlying22 hi (.slice oa m oc) m vs hown, by simpa using hown, ⟨rfl, rfl, rfl, Nat.le_refl _, fun _ _ _ => rfl⟩⟩
  · injection h1 with e1 _ e3
    subst e1 e3
    have hl := hrow.1
    obtain ⟨v', w1, hrun, hown', hgrow, _, _⟩ := run_append_own_at (P := Try.prog) W B 22 22 28 i0 (.slice none 0 0) 1 24 Try.underlying22 hi hz0 hz1 hz2 rfl (by decide) (.slice oa m oc) m vs hown ⟨g, 0, none⟩ n rc vs' (by omega)
      (hrow.cells rfl) hone (by unfold maxLen; omega) (by omega) hB
    obtain ⟨oa', oc', rfl⟩ := owns_shape hown'
    exact ⟨oa', oc', w1, hrun, hown', hgrow⟩

theorem out_append {W w5 : World} {B : Nat} {out out' row : Value} {vs vs' : List Value} {ps ps' : List Bs} (h : Out W B out vs ps) (h' : Out W B row vs' ps') (hown : w5.ownsRow B 28 1 out' (ps.length + ps'.length) (vs ++ vs')) (hgrow : W.grownBy w5 out.ownBlock) : Out w5 B out' (vs ++ vs') (ps ++ ps') := by
  have key : ∀ v : Value, (∃ g cur, v.ownBlock = some g ∧ B ≤ g ∧ W.heap[g]? = some (.cells cur 5 (0, 0)) ∧ g < W.heap.size) → ∀ g, v.ownBlock = some g → w5.heap[g]? = W.heap[g]? := by
    rintro v ⟨g, cur, e, _, hg, hlt⟩ g' e'
    rw [e] at e'; cases e'
    refine hgrow.block g hlt (fun e2 => ?_)
    obtain ⟨_, cur2, hg2⟩ := h.rowblk e2.symm
    exact ne_kind hg hg2 (by decide) rfl
  refine ⟨by rw [List.length_append]; exact hown, fun i v q h1 h2 => ?_⟩
  have hl := h.len
  rcases Nat.lt_or_ge i vs.length with hi | hi
  · rw [List.getElem?_append_left hi] at h1
    rw [List.getElem?_append_left (by omega)] at h2
    exact (h.each i v q h1 h2).keep (key v (h.blk (List.mem_of_getElem? h1)))
  · rw [List.getElem?_append_right hi] at h1
    rw [List.getElem?_append_right (by omega), ← hl] at h2
    exact (h'.each _ v q h1 h2).keep (key v (h'.blk (List.mem_of_getElem? h1)))
theorem out_one {W : World} {B : Nat} {row : Value} {vs : List Value} {ps : List Bs} (h : Out W B row vs ps) : ∀ u ∈ vs, u.oneCell' = true := by
  intro u hu
  obtain ⟨i, hi⟩ := List.mem_iff_getElem?.1 hu
  have hl := (List.getElem?_eq_some_iff.1 hi).1
  rw [h.len] at hl
  obtain ⟨g, o, cap, cur, rfl, _⟩ := h.each i u _ hi (List.getElem?_eq_getElem hl)
  rfl
theorem owns_low {W : World} {B B' : Nat} {e : TypeId} {size n : Nat} {v : Value} {xs : List Value} (h : W.ownsRow B e size v n xs) (hb : B' ≤ B) : W.ownsRow B' e size v n xs :=
  ⟨h.1, h.2.elim Or.inl (fun ⟨g, cap, cur, hv, hg, r⟩ => Or.inr ⟨g, cap, cur, hv, Nat.le_trans hb hg, r⟩)⟩
theorem owns_kind {W : World} {B : Nat} {e : TypeId} {size n : Nat} {v : Value} {xs : List Value} (h : W.ownsRow B e size v n xs) {g : Nat} (hg : v.ownBlock = some g) : ∃ cur, W.heap[g]? = some (.cells cur e (0, 0)) := by
  rcases h.2 with ⟨e0, _⟩ | ⟨g', cap, cur, e0, hb, hh, _⟩
  · rw [e0] at hg; cases hg
  · rw [e0] at hg; cases hg; exact ⟨cur, hh⟩
theorem rd_grown {W w5 : World} {B p : Nat} {out va : Value} {vs : List Value} {ps : List Bs} {r : Rd} (h : Out W B out vs ps) (hrd : IsRd W B p va r) (hgrow : W.grownBy w5 out.ownBlock) : IsRd w5 B p va r := by
  refine hrd.keep (hgrow.block p hrd.lt (fun e => ?_)) (fun g e => hgrow.block g (hrd.own.lt g e).2 (fun e2 => ?_))
  · obtain ⟨_, cur2, hg2⟩ := h.rowblk e.symm
    exact ne_kind hrd.blk hg2 (by decide) rfl
  · obtain ⟨_, cur2, hg2⟩ := h.rowblk e2.symm
    rcases hrd.own.2 with ⟨e3, _⟩ | ⟨g2, cap2, cur3, e3, _, hh2, _⟩
    · rw [e3] at e; cases e
    · rw [e3] at e; cases e
      exact ne_kind hh2 hg2 (by decide) rfl

/-- between two pieces -/
structure Cv (w W : World) (P : Nat) (F : Bs) (bw : Value) (out : Value) (p : Nat) : Prop where
  o : ∃ vs va, Out W w.heap.size out vs (sp (F.take p)).1 ∧ IsRd W w.heap.size P va ⟨(sp (F.take p)).2, false⟩ ∧ (∀ v ∈ vs, v.ownBlock ≠ va.ownBlock) ∧ (∀ g, bw.ownBlock = some g → va.ownBlock ≠ some g)
  b : W.ownsRow w.heap.size 5 1 bw F.length (F.map bv)
  le : w.heap.size ≤ P
  bel : Below w.heap.size w W

/-- a piece that is put, and what it tells appended -/
theorem Cv.next {w W w1 w5 : World} {P : Nat} {F : Bs} {bw out out' row : Value} {p k : Nat} {ls : List Bs} (hF : F = frames ls) (hr : ∀ q ∈ ls, Right q) (h : Cv w W P F bw out p) {vs vs' : List Value} {va va' : Value} (ho : Out W w.heap.size out vs (sp (F.take p)).1) (hrd : IsRd W w.heap.size P va ⟨(sp (F.take p)).2, false⟩)
    (hal : ∀ v ∈ vs, v.ownBlock ≠ va.ownBlock) (hbv : ∀ g, bw.ownBlock = some g → va.ownBlock ≠ some g)
    (hpp : PutPost W w.heap.size P va ⟨(sp (F.take (p + k))).2, false⟩ (sp ((sp (F.take p)).2 ++ (F.drop p).take k)).1 w1 row vs' va')
    (hown : w5.ownsRow w.heap.size 28 1 out' ((sp (F.take p)).1.length + (sp ((sp (F.take p)).2 ++ (F.drop p).take k)).1.length) (vs ++ vs')) (hgrow : w1.grownBy w5 out.ownBlock) : Cv w w5 P F bw out' (p + k) := by
  have e := (cut_put hr p k).2
  rw [← hF] at e
  obtain ⟨o1, al1, ro1⟩ := FrmM.Out.put (w := w) ho hrd hal hpp
  have o2 := out_append o1 (Out.ofPls hpp.pls) hown hgrow
  have rd2 := rd_grown o1 hpp.rd hgrow
  have hb1 : w1.ownsRow w.heap.size 5 1 bw F.length (F.map bv) := owns_keep h.b (fun g eg => hpp.wr.block g (h.b.lt g eg).2 (by
    rintro (e1 | e1)
    · obtain ⟨cur, hh⟩ := owns_kind h.b eg
      exact ne_kind hh hrd.blk (by decide) (by exact e1)
    · exact hbv g eg e1))
  refine ⟨⟨vs ++ vs', va', by rw [e]; exact o2, rd2, fun v hv => ?_, fun g eg e2 => ?_⟩, owns_keep hb1 (fun g eg => hgrow.block g (hb1.lt g eg).2 (fun e2 => ?_)), h.le, ?_⟩
  · rcases List.mem_append.1 hv with hv | hv
    · exact al1 v hv
    · exact hpp.alone v hv
  · rcases hpp.vlow g e2 with e3 | e3
    · exact hbv g eg e3
    · have := (h.b.lt g eg).2; omega
  · obtain ⟨cur, hh⟩ := owns_kind hb1 eg
    obtain ⟨_, cur2, hh2⟩ := o1.rowblk e2.symm
    exact ne_kind hh hh2 (by decide) rfl
  · have hs := h.bel.size
    have h1 : Below w.heap.size w w1 := h.bel.trans (hpp.wr.below _ hs (fun g e1 => by
      rcases e1 with e1 | e1
      · have e1 : g = P := e1
        have := h.le; omega
      · exact (hrd.own.lt g e1).1))
    exact Below.grown h1 hgrow h1.size (fun g e1 => (o1.rowblk e1).1)

end Go.Proofs.Ythmcfnbnafdkeaa.FrmC2
