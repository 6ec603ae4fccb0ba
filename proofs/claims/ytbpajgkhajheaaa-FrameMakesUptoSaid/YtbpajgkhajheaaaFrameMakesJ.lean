/- FrameMakes: a payload is framed by its length, and bytes are split into payloads as far as they are frames, as the document says; what is handed in stays, and what is told is the caller's; any payloads and bytes that hold together at most 1048576 values. -/
import Derived.Test.YtbpajgkhajheaaaFrmK4
import Derived.Test.YtbpajgkhajheaaaFrmF2
import Derived.Test.YtbpajgkhajheaaaAlbK
import Derived.Test.YtbpajgkhajheaaaFrmC2
import Derived.Test.YtbpajgkhajheaaaFrmK3
import Derived.Test.YtbpajgkhajheaaaFrmH
import Derived.Test.YtbpajgkhajheaaaFrmO
import Derived.Deep.DeepCutAuto
import Derived.BigQuiet
import Derived.Test.YtbpajgkhajheaaaRows
import Derived.WalkKit
import Derived.ProofKit
import Derived.OpenShut
import Derived.ShutString
import Derived.ChangeOld
import Derived.Below
import Derived.SizedLaws
import Derived.ChangeShapes
import Derived.JoinedCond
import Derived.Test.YtbpajgkhajheaaaOpn
import Derived.Test.YtbpajgkhajheaaaFrmZ

/- Both readers side by side: what each step leaves of them. -/
namespace Go.Proofs.Ytbpajgkhajheaaa.FrmTw
open Go.ChangeShapes Go.WideShapes Go.ChangeAt Go.RowKit Base Wri FrmP FrmA FrmD FrmE FrmR FrmU FrmW FrmX FrmM FrmC2 FrmJ FrmK FrmK4
set_option linter.unusedVariables false
set_option linter.unusedSimpArgs false

theorem drKeep {W W' : World} {p c : Nat} {a : Option Addr} {r : Rd} (h : IsDr W p a c r) (hs : W.heap.size ≤ W'.heap.size) (hp : W'.heap[p]? = W.heap[p]?) (hk : 0 < r.g.length → ∀ g o, a = some ⟨g, o, none⟩ → g < W.heap.size → W'.heap[g]? = W.heap[g]?) : IsDr W' p a c r :=
  ⟨hp.trans h.blk, fun h0 => by
    obtain ⟨g, q, e, hg, hc⟩ := h.bytes h0
    exact ⟨g, q, e, Nat.lt_of_lt_of_le hg hs, fun i x hx => (World.cell?_of_block (a := ⟨g, q + i, none⟩) (hk h0 g q e hg)).trans (hc i x hx)⟩, h.room⟩

/-- the program's reader at P and the document's at Q hold the same, apart -/
structure Two (w W : World) (P Q : Nat) (r : Rd) : Prop where
  both : ∃ va a c, IsRd W w.heap.size P va r ∧ IsDr W Q a c r ∧ (0 < r.g.length → ∀ g o, a = some ⟨g, o, none⟩ → va.ownBlock ≠ some g)
  low : w.heap.size ≤ P ∧ w.heap.size ≤ Q
  bel : Below w.heap.size w W
  ok : r.Ok

variable {w W W' : World} {P Q : Nat} {r : Rd}

theorem Two.below (h : Two w W P Q r) (hb : Below W.heap.size W W') : Two w W' P Q r := by
  obtain ⟨va, a, c, h1, h2, h3⟩ := h.both
  exact ⟨⟨va, a, c, h1.below hb, h2.below hb, h3⟩, h.low, h.bel.trans (hb.mono h.bel.size), h.ok⟩
theorem Two.drewN (h : Two w W P Q r) (m : Nat) : Two w (W.drewN m) P Q r := by
  obtain ⟨va, a, c, h1, h2, h3⟩ := h.both
  exact ⟨⟨va, a, c, h1.drewN m, h2.drewN m, h3⟩, h.low, ⟨h.bel.os, h.bel.tape, h.bel.output, h.bel.size, h.bel.block⟩, h.ok⟩
theorem Two.ne (h : Two w W P Q r) : P ≠ Q := by
  obtain ⟨va, a, c, h1, h2, h3⟩ := h.both
  exact ne_kind h1.blk h2.blk (by decide)

/-- what is written elsewhere leaves them -/
theorem Two.wr {R : Nat → Prop} (h : Two w W P Q r) (hw : Wr R W W') (hP : ¬ R P) (hQ : ¬ R Q) (hv : ∀ va a c, IsRd W w.heap.size P va r → IsDr W Q a c r → (∀ g, va.ownBlock = some g → ¬ R g) ∧ (0 < r.g.length → ∀ g o, a = some ⟨g, o, none⟩ → ¬ R g)) (hR : ∀ k, R k → w.heap.size ≤ k) : Two w W' P Q r := by
  obtain ⟨va, a, c, h1, h2, h3⟩ := h.both
  obtain ⟨k1, k2⟩ := hv va a c h1 h2
  refine ⟨⟨va, a, c, h1.keep (hw.block P h1.lt hP) (fun g e => hw.block g (h1.own.lt g e).2 (k1 g e)), drKeep h2 hw.size (hw.block Q h2.lt hQ) (fun h0 g o e hg => hw.block g hg (k2 h0 g o e)), h3⟩, h.low, h.bel.trans (hw.below _ h.bel.size hR), h.ok⟩

/-- a new reader each -/
theorem Two.anew (h : Two w W P Q r) : Two w (((W.setCell ⟨P, 0, none⟩ (.slice none 0 0)).setCell ⟨P, 1, none⟩ (.bool false)).alloc (.cells #[.slice none 0 0, .bool false] 86)) P ((W.setCell ⟨P, 0, none⟩ (.slice none 0 0)).setCell ⟨P, 1, none⟩ (.bool false)).heap.size Rd.zero := by
  obtain ⟨va, a, c, h1, h2, h3⟩ := h.both
  have hw : Wr (fun k => k = P) W ((W.setCell ⟨P, 0, none⟩ (.slice none 0 0)).setCell ⟨P, 1, none⟩ (.bool false)) := (Wr.set (R := fun k => k = P) ⟨P, 0, none⟩ (.slice none 0 0) rfl).trans (Wr.set ⟨P, 1, none⟩ (.bool false) rfl)
  have hb : Below w.heap.size w ((W.setCell ⟨P, 0, none⟩ (.slice none 0 0)).setCell ⟨P, 1, none⟩ (.bool false)) := h.bel.trans (hw.below _ h.bel.size (fun k e => by have e : k = P := e; have := h.low.1; omega))
  refine ⟨⟨.slice none 0 0, none, 0, ⟨?_, World.ownsRow_nil _ _ _ _⟩, new_dr _, fun h0 => absurd h0 (by decide)⟩, ⟨h.low.1, hb.size⟩, hb.alloc hb.size _, Rd.zero_ok⟩
  have hp : P < ((W.setCell ⟨P, 0, none⟩ (.slice none 0 0)).setCell ⟨P, 1, none⟩ (.bool false)).heap.size := by have := hw.size; have := h1.lt; omega
  exact (Below.heap_alloc _ _ P hp).trans (blk_set1 (blk_set0 h1.blk))

/-- both take the same bytes -/
theorem Two.puts {W5 W6 : World} {b : Bs} {row : Value} {vs vs' : List Value} {va va' : Value} {a a' : Option Addr} {c c' rc : Nat} {ra : Option Addr} (h : Two w W P Q r) (h1 : IsRd W w.heap.size P va r) (hpp : PutPost W w.heap.size P va (r.put b).2 (r.put b).1 W5 row vs va')
    (hd : IsDr W6 Q a' c' (r.put b).2) (ha : ∀ ad, a' = some ad → W5.heap.size ≤ ad.block ∨ (r.put b).2.g.length = 0) (hw : Wr (fun k => k = Q) W5 W6) : Two w W6 P Q (r.put b).2 ∧ Pls W6 w.heap.size row vs (r.put b).1 := by
  have hQ := h.low.2
  have hsz := h.bel.size
  have hblk5 : ∃ cs, W5.heap[Q]? = some (.cells cs 86 (0, 0)) := by
    obtain ⟨va0, a0, c0, k1, k2, k3⟩ := h.both
    have hnP : ¬ (Q = P ∨ va.ownBlock = some Q) := by
      rintro (e2 | e2)
      · exact ne_kind k1.blk k2.blk (by decide) e2.symm
      · obtain ⟨cur2, hh2⟩ := owns_kind h1.own e2
        exact ne_kind hh2 k2.blk (by decide) rfl
    exact ⟨_, (hpp.wr.block Q k2.lt hnP).trans k2.blk⟩
  obtain ⟨csQ, hbQ⟩ := hblk5
  have hQ5 : ∀ g, va'.ownBlock = some g → ¬ g = Q := fun g e => by
    obtain ⟨cur, hh⟩ := owns_kind hpp.rd.own e
    exact ne_kind hh hbQ (by decide)
  have hPQ : P ≠ Q := h.ne
  have hrd : IsRd W6 w.heap.size P va' (r.put b).2 := hpp.rd.keep (hw.block P hpp.rd.lt hPQ) (fun g e => hw.block g (hpp.rd.own.lt g e).2 (hQ5 g e))
  have hbel : Below w.heap.size w W6 := (h.bel.trans (hpp.wr.below _ hsz (fun k e => by
    rcases e with e | e
    · have e : k = P := e; have := h.low.1; omega
    · exact (h1.own.lt k e).1))).trans (hw.below _ (Nat.le_trans hsz hpp.wr.size) (fun k e => by have e : k = Q := e; omega))
  refine ⟨⟨⟨va', a', c', hrd, hd, fun h0 g o e e2 => ?_⟩, h.low, hbel, Rd.put_ok h.ok b⟩, ?_⟩
  · rcases ha _ e with h4 | h4
    · have := (hpp.rd.own.lt g e2).2
      have h4 : W5.heap.size ≤ g := h4
      omega
    · omega
  · refine hpp.pls.keep (fun g e => hw.block g (hpp.pls.own.lt g e).2 ?_) (fun v hv g e => ?_)
    · obtain ⟨cur, hh⟩ := owns_kind hpp.pls.own e
      exact ne_kind hh hbQ (by decide)
    · obtain ⟨g', cur, e2, _, hh, hlt⟩ := hpp.pls.pay hv
      rw [e] at e2
      cases e2
      exact hw.block g hlt (ne_kind hh hbQ (by decide))

end Go.Proofs.Ytbpajgkhajheaaa.FrmTw

/- Both readers, and the payloads that were told, side by side. -/
namespace Go.Proofs.Ytbpajgkhajheaaa.FrmTx
open Go.ChangeShapes Go.WideShapes Go.ChangeAt Go.RowKit Go.Deep Base AloA Wri FrmP FrmA FrmD FrmE FrmR FrmU FrmW FrmX FrmM FrmC2 FrmJ FrmK FrmK4 FrmTw AlbE AlbC AlbD AlbG AlbH AlbT AlbK
set_option linter.unusedVariables false
set_option linter.unusedSimpArgs false

structure Aft (w W : World) (P Q : Nat) (r : Rd) (row : Value) (vs : List Value) (ps : List Bs) (va : Value) (a : Option Addr) (c : Nat) : Prop where
  rd : IsRd W w.heap.size P va r
  dr : IsDr W Q a c r
  sep : 0 < r.g.length → ∀ g o, a = some ⟨g, o, none⟩ → va.ownBlock ≠ some g
  low : w.heap.size ≤ P ∧ w.heap.size ≤ Q
  bel : Below w.heap.size w W
  ok : r.Ok
  pls : Pls W w.heap.size row vs ps
  alone : ∀ v ∈ vs, v.ownBlock ≠ va.ownBlock
  off : 0 < r.g.length → ∀ g o, a = some ⟨g, o, none⟩ → ∀ v ∈ vs, v.ownBlock ≠ some g

theorem Aft.of {w W W5 W6 : World} {P Q : Nat} {r : Rd} {b : Bs} {row : Value} {vs : List Value} {va va' : Value} {a' : Option Addr} {c' : Nat} (h : Two w W P Q r) (h1 : IsRd W w.heap.size P va r) (hpp : PutPost W w.heap.size P va (r.put b).2 (r.put b).1 W5 row vs va')
    (hd : IsDr W6 Q a' c' (r.put b).2) (ha : ∀ ad, a' = some ad → W5.heap.size ≤ ad.block ∨ (r.put b).2.g.length = 0) (hw : Wr (fun k => k = Q) W5 W6) : Aft w W6 P Q (r.put b).2 row vs (r.put b).1 va' a' c' := by
  obtain ⟨hT, hpl⟩ := Two.puts (rc := 0) (ra := none) (a := none) (c := 0) (vs' := []) h h1 hpp hd ha hw
  obtain ⟨va2, a2, c2, k1, k2, k3⟩ := hT.both
  have e1 : va2 = va' := by
    have e := (hw.block P hpp.rd.lt h.ne).trans hpp.rd.blk
    rw [k1.blk] at e
    have := Option.some.inj e
    injection this with e2 _ _
    simpa using e2
  subst e1
  have e2 : a2 = a' := by
    have e := k2.blk
    rw [hd.blk] at e
    have := Option.some.inj e
    injection this with e2 _ _
    have e3 : Value.slice a' (r.put b).2.g.length c' = Value.slice a2 (r.put b).2.g.length c2 := by simpa using e2
    injection e3 with e4 _ _
    exact e4.symm
  subst e2
  refine ⟨k1, hd, k3, hT.low, hT.bel, hT.ok, hpl, hpp.alone, fun h0 g o e v hv e2 => ?_⟩
  rcases ha _ e with h4 | h4
  · obtain ⟨g', cur, e3, _, _, hlt⟩ := hpp.pls.pay hv
    rw [e3] at e2
    cases e2
    have h4 : W5.heap.size ≤ g := h4
    omega
  · omega

variable {w W W' : World} {P Q c : Nat} {r : Rd} {row va : Value} {vs : List Value} {ps : List Bs} {a : Option Addr}

theorem Aft.two (h : Aft w W P Q r row vs ps va a c) : Two w W P Q r := ⟨⟨va, a, c, h.rd, h.dr, h.sep⟩, h.low, h.bel, h.ok⟩

theorem Aft.wr {R : Nat → Prop} (h : Aft w W P Q r row vs ps va a c) (hw : Wr R W W') (hP : ¬ R P) (hQ : ¬ R Q) (h1 : ∀ g, va.ownBlock = some g → ¬ R g) (h2 : 0 < r.g.length → ∀ g o, a = some ⟨g, o, none⟩ → ¬ R g) (h3 : ∀ g, row.ownBlock = some g → ¬ R g) (h4 : ∀ v ∈ vs, ∀ g, v.ownBlock = some g → ¬ R g) (hR : ∀ k, R k → w.heap.size ≤ k) : Aft w W' P Q r row vs ps va a c :=
  ⟨h.rd.keep (hw.block P h.rd.lt hP) (fun g e => hw.block g (h.rd.own.lt g e).2 (h1 g e)), drKeep h.dr hw.size (hw.block Q h.dr.lt hQ) (fun h0 g o e hg => hw.block g hg (h2 h0 g o e)), h.sep, h.low, h.bel.trans (hw.below _ h.bel.size hR), h.ok,
   h.pls.keep (fun g e => hw.block g (h.pls.own.lt g e).2 (h3 g e)) (fun v hv g e => by
     obtain ⟨g', cur, e2, _, hh, hlt⟩ := h.pls.pay hv
     rw [e] at e2
     cases e2
     exact hw.block g hlt (h4 v hv g e)), h.alone, h.off⟩

theorem Aft.below (h : Aft w W P Q r row vs ps va a c) (hb : Below W.heap.size W W') : Aft w W' P Q r row vs ps va a c :=
  h.wr (R := fun _ => False) (Wr.ofBelow hb) id id (fun _ _ => id) (fun _ _ _ _ => id) (fun _ _ => id) (fun _ _ _ _ => id) (fun _ h => h.elim)
theorem Aft.drewN (h : Aft w W P Q r row vs ps va a c) (m : Nat) : Aft w (W.drewN m) P Q r row vs ps va a c :=
  h.wr (R := fun _ => False) ((Wr.refl _ _).drewN m) id id (fun _ _ => id) (fun _ _ _ _ => id) (fun _ _ => id) (fun _ _ _ _ => id) (fun _ h => h.elim)

/-- a block apart from both readers and from what was told -/
def Off (H P Q : Nat) (r : Rd) (row : Value) (vs : List Value) (va : Value) (a : Option Addr) : Prop :=
  H ≠ P ∧ H ≠ Q ∧ va.ownBlock ≠ some H ∧ (0 < r.g.length → ∀ g o, a = some ⟨g, o, none⟩ → g ≠ H) ∧ row.ownBlock ≠ some H ∧ ∀ v ∈ vs, v.ownBlock ≠ some H

theorem Aft.wr1 {H : Nat} (h : Aft w W P Q r row vs ps va a c) (ho : Off H P Q r row vs va a) (hw : Wr (fun k => k = H) W W') (hH : w.heap.size ≤ H) : Aft w W' P Q r row vs ps va a c :=
  h.wr hw (fun e => ho.1 e.symm) (fun e => ho.2.1 e.symm) (fun g e e2 => ho.2.2.1 (by rw [e, e2])) (fun h0 g o e e2 => ho.2.2.2.1 h0 g o e e2) (fun g e e2 => ho.2.2.2.2.1 (by rw [e, e2])) (fun v hv g e e2 => ho.2.2.2.2.2 v hv (by rw [e, e2])) (fun k e => by have e : k = H := e; omega)

/-- a new block -/
theorem Aft.off_new (h : Aft w W P Q r row vs ps va a c) {H : Nat} (hH : W.heap.size ≤ H) : Off H P Q r row vs va a := by
  have h1 := h.rd.lt
  have h2 := h.dr.lt
  refine ⟨by omega, by omega, fun e => by have := (h.rd.own.lt _ e).2; omega, fun h0 g o e => ?_, fun e => by have := (h.pls.own.lt _ e).2; omega, fun v hv e => ?_⟩
  · obtain ⟨g', o', e2, hg, _⟩ := h.dr.bytes h0
    rw [e] at e2
    cases e2
    omega
  · obtain ⟨g', cur, e2, _, hh, hlt⟩ := h.pls.pay hv
    rw [e] at e2
    cases e2
    omega

/-- the book has looked -/
theorem Aft.done {N b : Nat} {L : Nat → Value} (h : Aft w W P Q r row vs ps va a c) (ho : Off b P Q r row vs va a) (hb : w.heap.size ≤ b) (hL : ∀ i, i < N → L i ∈ vs) (hw : Wr (fun k => k = b ∨ Mine N L k) W W') : Two w W' P Q r := by
  have hm : ∀ k, Mine N L k → ∃ v, v ∈ vs ∧ v.ownBlock = some k := fun k ⟨i, hi, e⟩ => ⟨_, hL i hi, e⟩
  refine h.two.wr hw ?_ ?_ (fun va0 a0 c0 k1 k2 => ⟨fun g e e2 => ?_, fun h0 g o e e2 => ?_⟩) (fun k e => ?_)
  · rintro (e | e)
    · exact ho.1 e.symm
    · obtain ⟨v, hv, e⟩ := hm _ e
      obtain ⟨g', cur, e2, _, hh, hlt⟩ := h.pls.pay hv
      rw [e] at e2
      cases e2
      exact ne_kind hh h.rd.blk (by decide) rfl
  · rintro (e | e)
    · exact ho.2.1 e.symm
    · obtain ⟨v, hv, e⟩ := hm _ e
      obtain ⟨g', cur, e2, _, hh, hlt⟩ := h.pls.pay hv
      rw [e] at e2
      cases e2
      exact ne_kind hh h.dr.blk (by decide) rfl
  · have e1 : va0 = va := by
      have e := k1.blk
      rw [h.rd.blk] at e
      have := Option.some.inj e
      injection this with e2 _ _
      simpa using e2.symm
    subst e1
    rcases e2 with e2 | e2
    · exact ho.2.2.1 (by rw [e, e2])
    · obtain ⟨v, hv, e3⟩ := hm _ e2
      exact h.alone v hv (by rw [e3, e])
  · have e1 : a0 = a := by
      have e := k2.blk
      rw [h.dr.blk] at e
      have := Option.some.inj e
      injection this with e2 _ _
      have e3 : Value.slice a r.g.length c = Value.slice a0 r.g.length c0 := by simpa using e2
      injection e3 with e4 _ _
      exact e4.symm
    subst e1
    rcases e2 with e2 | e2
    · exact ho.2.2.2.1 h0 g o e e2
    · obtain ⟨v, hv, e3⟩ := hm _ e2
      exact h.off h0 g o e v hv e3
  · rcases e with e | e
    · omega
    · obtain ⟨v, hv, e⟩ := hm _ e
      obtain ⟨g', cur, e2, hb2, hh, hlt⟩ := h.pls.pay hv
      rw [e] at e2
      cases e2
      exact hb2

theorem put_few (r : Rd) (b : Bs) (h1 : b.length ≤ 1048576) (h2 : r.g.length ≤ 4398046511104) : (r.put b).1.length ≤ 1099511627776 := by
  cases hb : r.broken with
  | true => rw [Rd.put_broken hb]; exact Nat.zero_le _
  | false =>
    have hc := sp_count (r.g ++ b)
    rw [List.length_append] at hc
    cases h3 : bad (sp (r.g ++ b)).2 with
    | true => rw [Rd.put_bad hb h3]; dsimp only; omega
    | false => rw [Rd.put_good hb h3]; dsimp only; omega

theorem book_at {W : World} {b : Nat} (hnp : W.heap[b]? = some (.cells #[.slice none 0 0, .slice none 0 0, .slice none 0 0, .slice none 0 0, .slice none 0 0, .slice none 0 0, .slice none 0 0, .slice none 0 0] 44 (0, 0))) : ∀ j, j < 8 → W.cell? ⟨b, j, none⟩ = some (.slice none 0 0) ∧ W.frozen? ⟨b, j, none⟩ = false := by
  intro j hj
  have : j = 0 ∨ j = 1 ∨ j = 2 ∨ j = 3 ∨ j = 4 ∨ j = 5 ∨ j = 6 ∨ j = 7 := by omega
  rcases this with rfl | rfl | rfl | rfl | rfl | rfl | rfl | rfl <;> exact ⟨by simp [World.cell?, hnp], by simp [World.frozen?, hnp]⟩
theorem book_cells (w : World) : ∀ j, j < 8 → (w.alloc (.cells #[.slice none 0 0, .slice none 0 0, .slice none 0 0, .slice none 0 0, .slice none 0 0, .slice none 0 0, .slice none 0 0, .slice none 0 0] 44)).cell? ⟨w.heap.size, j, none⟩ = some (.slice none 0 0) ∧ (w.alloc (.cells #[.slice none 0 0, .slice none 0 0, .slice none 0 0, .slice none 0 0, .slice none 0 0, .slice none 0 0, .slice none 0 0, .slice none 0 0] 44)).frozen? ⟨w.heap.size, j, none⟩ = false := by
  exact book_at (heap_alloc_new w _)

set_option maxRecDepth 20000 in
set_option maxHeartbeats 400000 in
theorem takes_none (b rc : Nat) (ra : Option Addr) (w : World) : Calls Try.prog 21 #[.pointer (some ⟨b, 0, none⟩), .slice ra 0 rc] w fun e w' => e = .returned (.tuple #[]) ∧ w' = w := by
  go_enter Try.func21, Try.ntmps21
  go_wp2_with fail
  go_loopw [4] (fun i wr => i = .int .i64 0 ∧ wr = w) (fun _ _ => 0)
  case atStart => exact ⟨rfl, rfl⟩
  case round =>
    obtain ⟨rfl, rfl⟩ := hrel
    go_wp2_with fail
    go_end0
    exact ⟨rfl, rfl⟩

/-- what the book holds when it took what was told -/
def Took (W : World) (B b m : Nat) (vs : List Value) (W' : World) : Prop := m = 0 ∧ W' = W ∨ 0 < m ∧ Bk W B b m none vs W'

theorem isL_of {W : World} {B : Nat} {row : Value} {vs : List Value} {ps : List Bs} (h : Pls W B row vs ps) : ∀ v ∈ vs, IsL v := fun v hv => by
  obtain ⟨i, hi⟩ := List.mem_iff_getElem?.1 hv
  have hl := (List.getElem?_eq_some_iff.1 hi).1
  rw [h.len] at hl
  obtain ⟨g, o, cap, cur, rfl, _⟩ := h.each i v _ hi (List.getElem?_eq_getElem hl)
  exact ⟨_, _, _, rfl⟩

theorem took_any {W : World} {B b rc : Nat} {ra : Option Addr} {vs : List Value} {ps : List Bs} (h : Pls W B (.slice ra ps.length rc) vs ps) (hB : B ≤ W.heap.size) (hb : b < W.heap.size) (hm : ps.length ≤ 1099511627776) (hc : ∀ j, j < 8 → W.cell? ⟨b, j, none⟩ = some (.slice none 0 0) ∧ W.frozen? ⟨b, j, none⟩ = false) (hn : (Value.slice ra ps.length rc).ownBlock ≠ some b) :
    Calls Try.prog 21 #[.pointer (some ⟨b, 0, none⟩), .slice ra ps.length rc] W fun e w' => e = .returned (.tuple #[]) ∧ Took W B b ps.length vs w' := by
  rcases Nat.eq_zero_or_pos ps.length with h0 | h0
  · rw [h0]
    exact (takes_none b rc ra W).mono (fun e w' ⟨h1, h2⟩ => ⟨h1, .inl ⟨rfl, h2⟩⟩)
  · refine (takes_core b B 0 ps.length rc none ra 0 [] vs W hB hb (by omega) (hc 0 (by omega)).1 (hc 0 (by omega)).2 (World.ownsRow_nil _ _ _ _) (fun g e => by cases e) h.len (hid (isL_of h)) (hid (fun _ => ?_))).mono (fun e w' ⟨h1, h2⟩ => ⟨h1, .inr ⟨h0, by rw [Nat.zero_add] at h2; exact h2⟩⟩)
    obtain ⟨g, c, e, hb2, hg, hcl⟩ := owns_at h.own h0
    injection e with e1 _ _
    subst e1
    refine ⟨g, 0, rfl, hg, fun e2 => hn (by rw [← e2]; rfl), (fun e2 => by cases e2), fun i v hv => ?_⟩
    rw [Nat.zero_add]
    have := (List.getElem?_eq_some_iff.1 hv).1
    exact hcl i v (by rw [← h.len]; exact this) hv

theorem took_alone {w W w' : World} {P Q c b : Nat} {r : Rd} {row va : Value} {vs : List Value} {ps : List Bs} {a : Option Addr} (h : Aft w W P Q r row vs ps va a c) (ho : Off b P Q r row vs va a) (ht : Took W w.heap.size b ps.length vs w') (hb : b < W.heap.size) (hB : w.heap.size ≤ b) (hc : ∀ j, j < 8 → W.cell? ⟨b, j, none⟩ = some (.slice none 0 0) ∧ W.frozen? ⟨b, j, none⟩ = false)
    (hm : ps.length ≤ 1099511627776) (hs : ∀ p ∈ ps, 1 ≤ p.length ∧ p.length ≤ 4096) :
    Calls Try.prog 22 #[.pointer (some ⟨b, 0, none⟩)] w' fun e w2 => e = .returned (.bool true) ∧ Two w w2 P Q r := by
  rcases ht with ⟨h0, rfl⟩ | ⟨h0, hbk⟩
  · refine (alone_none b w' (fun j hj => (hc j hj).2) (fun j hj => (hc j hj).1)).mono ?_
    rintro e w2 ⟨rfl, hw⟩
    exact ⟨rfl, h.done (N := 0) (L := fun _ => .slice none 0 0) ho hB (fun i hi => absurd hi (Nat.not_lt_zero _)) (hw.mono (fun k e => .inl e))⟩
  · have hA := h.wr1 ho (hbk.wr.mono (fun k e => e.elim id (fun e => by cases e))) hB
    have hlen := h.pls.len
    obtain ⟨bb, bc, HL⟩ := lists_of (ps := ps) hbk h0 hm hlen rfl hB (Nat.lt_of_lt_of_le hb hbk.wr.size) (fun i v p h1 h2 => ⟨hA.pls.each i v p h1 h2, by have := hs p (List.mem_of_getElem? h2); omega⟩) (fun i j v v' h1 h2 h3 => hA.pls.apart i j v v' h1 h2 h3) (fun v hv => ho.2.2.2.2.2 v hv)
    obtain ⟨_, _, _, hf0, _, _⟩ := hbk.row
    refine (alone_some b w.heap.size bb ps.length bc _ _ w' (hid HL) (fun j hj => ?_) (fun j hj h1 => ?_)).mono ?_
    · by_cases e : j = 0
      · subst e; exact hf0
      · exact (hbk.rest j e).2.trans (hc j hj).2
    · exact (hbk.rest j h1).1.trans (hc j hj).1
    · rintro e w2 ⟨rfl, hw⟩
      refine ⟨rfl, hA.done ho hB (fun i hi => ?_) hw⟩
      have hv : vs[i]? = some (vs[i]'(by omega)) := List.getElem?_eq_getElem _
      rw [show vs.getD i (.slice none 0 0) = vs[i]'(by omega) from by simp [List.getD, hv]]
      exact List.getElem_mem _

end Go.Proofs.Ytbpajgkhajheaaa.FrmTx

/- What a book took: lists of bytes, each apart from the others. -/
namespace Go.Proofs.Ytbpajgkhajheaaa.FrmBg
open Go.ChangeShapes Go.WideShapes Go.ChangeAt Go.RowKit Go.Deep Base AloA WldF Wri FrmP FrmA FrmE FrmM FrmC2 AlbC AlbD AlbE AlbG AlbH AlbT AlbK
set_option linter.unusedVariables false

/-- a list of bytes of one's own -/
def Itm (W : World) (B : Nat) (v : Value) (s : Bs) : Prop := W.ownsRow B 5 1 v s.length (s.map bv) ∨ PayB W B v s ∧ 0 < s.length

variable {W W' : World} {B b : Nat} {v : Value} {s : Bs} {vs vs' : List Value} {ps ps' : List Bs}

theorem Itm.pb (h : Itm W B v s) : ∃ xs, Pb W B v s.length xs := by
  rcases h with h | ⟨h, h0⟩
  · exact ⟨_, .inl h⟩
  · exact ⟨_, payb_pb h h0⟩
theorem Itm.blk (h : Itm W B v s) {g : Nat} (e : v.ownBlock = some g) : B ≤ g ∧ g < W.heap.size ∧ ∃ cur, W.heap[g]? = some (.cells cur 5 (0, 0)) := by
  rcases h with h | ⟨h, h0⟩
  · exact ⟨(h.lt g e).1, (h.lt g e).2, owns_kind h e⟩
  · obtain ⟨g', cur, e2, h1, h2, h3⟩ := h.block
    rw [e] at e2
    cases e2
    exact ⟨h1, h3, cur, h2⟩
theorem Itm.keep (h : Itm W B v s) (hk : ∀ g, v.ownBlock = some g → W'.heap[g]? = W.heap[g]?) : Itm W' B v s :=
  h.elim (fun h => .inl (owns_keep h hk)) (fun ⟨h, h0⟩ => .inr ⟨h.keep hk, h0⟩)
theorem Itm.shape (h : Itm W B v s) : ∃ a c, v = .slice a s.length c := by
  obtain ⟨xs, h⟩ := h.pb
  exact h.shape

structure Bag (W : World) (B : Nat) (vs : List Value) (ps : List Bs) : Prop where
  len : vs.length = ps.length
  each : ∀ (i : Nat) v s, vs[i]? = some v → ps[i]? = some s → Itm W B v s
  apart : ∀ (i j : Nat) v v' g, i < j → vs[i]? = some v → vs[j]? = some v' → v.ownBlock = some g → v'.ownBlock ≠ some g

theorem Bag.itm (h : Bag W B vs ps) {v : Value} (hv : v ∈ vs) : ∃ s, Itm W B v s := by
  obtain ⟨i, hi⟩ := List.mem_iff_getElem?.1 hv
  have hl := (List.getElem?_eq_some_iff.1 hi).1
  rw [h.len] at hl
  exact ⟨_, h.each i v _ hi (List.getElem?_eq_getElem hl)⟩
theorem Bag.keep (h : Bag W B vs ps) (hk : ∀ v ∈ vs, ∀ g, v.ownBlock = some g → W'.heap[g]? = W.heap[g]?) : Bag W' B vs ps :=
  ⟨h.len, fun i v s h1 h2 => (h.each i v s h1 h2).keep (hk v (List.mem_of_getElem? h1)), h.apart⟩
theorem Bag.wr {R : Nat → Prop} (h : Bag W B vs ps) (hw : Wr R W W') (hR : ∀ v ∈ vs, ∀ g, v.ownBlock = some g → ¬ R g) : Bag W' B vs ps :=
  h.keep (fun v hv g e => by
    obtain ⟨s, hs⟩ := h.itm hv
    exact hw.block g (hs.blk e).2.1 (hR v hv g e))
theorem Bag.below (h : Bag W B vs ps) (hb : Below W.heap.size W W') : Bag W' B vs ps := h.wr (R := fun _ => False) (Wr.ofBelow hb) (fun _ _ _ _ => id)
theorem Bag.isL (h : Bag W B vs ps) : ∀ v ∈ vs, IsL v := fun v hv => by
  obtain ⟨s, hs⟩ := h.itm hv
  obtain ⟨a, c, rfl⟩ := hs.shape
  exact ⟨a, _, c, rfl⟩
/-- a block of another kind is none of them -/
theorem Bag.kind (h : Bag W B vs ps) {g : Nat} {cur : Array Value} {t : TypeId} {fr : Nat × Nat} (hg : W.heap[g]? = some (.cells cur t fr)) (ht : t ≠ 5) : ∀ v ∈ vs, v.ownBlock ≠ some g := fun v hv e => by
  obtain ⟨s, hs⟩ := h.itm hv
  obtain ⟨_, _, cur2, h2⟩ := hs.blk e
  rw [hg] at h2
  have := Option.some.inj h2
  injection this with _ e2 _
  exact ht e2
theorem Bag.one (h : W.ownsRow B 5 1 v s.length (s.map bv)) : Bag W B [v] [s] :=
  ⟨rfl, fun i v' s' h1 h2 => by
    match i, h1, h2 with
    | 0, h1, h2 => simp at h1 h2; subst h1 h2; exact .inl h
    | i + 1, h1, h2 => simp at h1, fun i j v v' g h1 h2 h3 => by
    have := (List.getElem?_eq_some_iff.1 h3).1
    simp at this
    omega⟩
theorem Bag.ofPls {row : Value} (h : Pls W B row vs ps) (hp : ∀ p ∈ ps, 1 ≤ p.length ∧ p.length ≤ 4096) : Bag W B vs ps :=
  ⟨h.len, fun i v s h1 h2 => .inr ⟨h.each i v s h1 h2, (hp s (List.mem_of_getElem? h2)).1⟩, fun i j v v' g h1 h2 h3 e e2 => h.apart i j v v' h1 h2 h3 (e.trans e2.symm)⟩
theorem Bag.low {B' : Nat} (h : Bag W B vs ps) (hb : B' ≤ B) : Bag W B' vs ps :=
  ⟨h.len, fun i v s h1 h2 => (h.each i v s h1 h2).elim (fun h => .inl (owns_low h hb)) (fun ⟨h, h0⟩ => .inr ⟨h.low hb, h0⟩), h.apart⟩
/-- those of before and those of behind -/
theorem Bag.app (h : Bag W B vs ps) (h' : Bag W B vs' ps') (S : Nat) (h1 : ∀ v ∈ vs, ∀ g, v.ownBlock = some g → g < S) (h2 : ∀ v ∈ vs', ∀ g, v.ownBlock = some g → S ≤ g) : Bag W B (vs ++ vs') (ps ++ ps') := by
  have hl := h.len
  refine ⟨by simp [h.len, h'.len], fun i v s h3 h4 => ?_, fun i j v v' g hij h3 h4 e e2 => ?_⟩
  · rcases Nat.lt_or_ge i vs.length with hi | hi
    · rw [List.getElem?_append_left hi] at h3
      rw [List.getElem?_append_left (by omega)] at h4
      exact h.each i v s h3 h4
    · rw [List.getElem?_append_right hi] at h3
      rw [List.getElem?_append_right (by omega), ← hl] at h4
      exact h'.each _ v s h3 h4
  · rcases Nat.lt_or_ge j vs.length with hj | hj
    · rw [List.getElem?_append_left (by omega)] at h3
      rw [List.getElem?_append_left hj] at h4
      exact h.apart i j v v' g hij h3 h4 e e2
    · rw [List.getElem?_append_right hj] at h4
      rcases Nat.lt_or_ge i vs.length with hi | hi
      · rw [List.getElem?_append_left hi] at h3
        have := h1 v (List.mem_of_getElem? h3) g e
        have := h2 v' (List.mem_of_getElem? h4) g e2
        omega
      · rw [List.getElem?_append_right hi] at h3
        exact h'.apart _ _ v v' g (by omega) h3 h4 e e2

/-- the lists of a book that took them -/
theorem lists_bag {N : Nat} {va : Option Addr} {vc : Nat} (hbg : Bag W B vs ps) (h1 : W.cell? ⟨b, 0, none⟩ = some (.slice va N vc)) (hown : W.ownsRow B 23 1 (.slice va N vc) N vs) (hN : 0 < N) (hN2 : N ≤ 1099511627776) (hB : B ≤ b) (hb : b < W.heap.size) (hnb : ∀ g, (Value.slice va N vc).ownBlock = some g → g ≠ b)
    (hp : ∀ p ∈ ps, p.length ≤ 4398046511104) (hoff : ∀ v ∈ vs, v.ownBlock ≠ some b) :
    ∃ bb bc, Lists W B b bb N bc (fun i => vs.getD i (.slice none 0 0)) (fun i => (ps.getD i []).length) := by
  have hlv : vs.length = N := by have := hown.1; omega
  have hlp : ps.length = N := by rw [← hbg.len]; exact hlv
  have hL : ∀ i, i < N → ∃ v p, vs[i]? = some v ∧ ps[i]? = some p ∧ vs.getD i (.slice none 0 0) = v ∧ ps.getD i [] = p := fun i hi => by
    obtain ⟨v, hv⟩ : ∃ v, vs[i]? = some v := ⟨_, List.getElem?_eq_getElem (by omega)⟩
    obtain ⟨p, hq⟩ : ∃ p, ps[i]? = some p := ⟨_, List.getElem?_eq_getElem (by omega)⟩
    exact ⟨v, p, hv, hq, by simp [List.getD, hv], by simp [List.getD, hq]⟩
  obtain ⟨bb, bc, e, hbb, hbl, hc⟩ := owns_at hown hN
  cases e
  obtain ⟨curb, hrb⟩ := owns_kind hown (g := bb) rfl
  have hk := hbg.kind hrb (by decide)
  refine ⟨bb, vc, ⟨hN, hN2, fun i hi => ?_, ⟨hB, hbb⟩, ⟨hb, hbl⟩, h1, fun i hi => ?_, fun i hi => ?_, fun i k g hi hk e1 e2 => ?_, fun i g hi e1 => ?_⟩⟩
  · obtain ⟨v, p, hv, hq, ev, ep⟩ := hL i hi
    rw [ep]; exact hp p (List.mem_of_getElem? hq)
  · obtain ⟨v, p, hv, hq, ev, ep⟩ := hL i hi
    rw [ev]; exact hc i v hi hv
  · obtain ⟨v, p, hv, hq, ev, ep⟩ := hL i hi
    rw [ev, ep]; exact (hbg.each i v p hv hq).pb
  · obtain ⟨v, p, hv, hq, ev, ep⟩ := hL i hi
    obtain ⟨v', p', hv', hq', ev', ep'⟩ := hL k hk
    rw [ev] at e1
    rw [ev'] at e2
    rcases Nat.lt_trichotomy i k with h | h | h
    · exact absurd e2 (hbg.apart i k v v' g h hv hv' e1)
    · exact h
    · exact absurd e1 (hbg.apart k i v' v g h hv' hv e2)
  · obtain ⟨v, p, hv, hq, ev, ep⟩ := hL i hi
    rw [ev] at e1
    obtain ⟨k1, k2, _⟩ := (hbg.each i v p hv hq).blk e1
    exact ⟨fun h => hoff v (List.mem_of_getElem? hv) (by rw [e1, h]), fun h => hk v (List.mem_of_getElem? hv) (by rw [e1, h]), k2, k1⟩

/-- a book in block b, made in w0, that took lists -/
structure Shf (w0 : World) (B b S N : Nat) (vs : List Value) (ps : List Bs) (W : World) : Prop where
  row : ∃ va vc, W.cell? ⟨b, 0, none⟩ = some (.slice va ps.length vc) ∧ W.frozen? ⟨b, 0, none⟩ = false ∧ W.ownsRow B 23 1 (.slice va ps.length vc) ps.length vs ∧ (∀ g, (Value.slice va ps.length vc).ownBlock = some g → g ≠ b ∧ S ≤ g ∧ g < N)
  rest : ∀ j, j < 8 → j ≠ 0 → W.cell? ⟨b, j, none⟩ = some (.slice none 0 0) ∧ W.frozen? ⟨b, j, none⟩ = false
  off : ∀ v ∈ vs, v.ownBlock ≠ some b
  bag : Bag W B vs ps
  low : B ≤ b ∧ b < S ∧ S ≤ N ∧ N ≤ W.heap.size
  wr : Wr (fun k => k = b) w0 W
  old : w0.heap.size = S

theorem Shf.start {w0 : World} (hb : b < w0.heap.size) (hB : B ≤ b) (hc : ∀ j, j < 8 → w0.cell? ⟨b, j, none⟩ = some (.slice none 0 0) ∧ w0.frozen? ⟨b, j, none⟩ = false) : Shf w0 B b w0.heap.size w0.heap.size [] [] w0 :=
  ⟨⟨none, 0, (hc 0 (by omega)).1, (hc 0 (by omega)).2, World.ownsRow_nil _ _ _ _, fun g e => by cases e⟩, fun j hj _ => hc j hj, (fun v h => by simp at h), ⟨rfl, fun i v s h => by simp at h, fun i j v v' g _ h => by simp at h⟩, ⟨hB, hb, Nat.le_refl _, Nat.le_refl _⟩, Wr.refl _ _, rfl⟩

variable {w0 : World} {S N : Nat}

theorem Shf.below (h : Shf w0 B b S N vs ps W) (hb : Below W.heap.size W W') : Shf w0 B b S N vs ps W' := by
  have hlt := h.low
  have hbb : W'.heap[b]? = W.heap[b]? := hb.block b (by omega)
  obtain ⟨va, vc, h1, h2, h3, h4⟩ := h.row
  exact ⟨⟨va, vc, (World.cell?_of_block hbb).trans h1, (World.frozen?_of_block hbb).trans h2, owns_keep h3 (fun g e => hb.block g (h3.lt g e).2), h4⟩, fun j hj h0 => ⟨(World.cell?_of_block (a := ⟨b, j, none⟩) hbb).trans (h.rest j hj h0).1, (World.frozen?_of_block (a := ⟨b, j, none⟩) hbb).trans (h.rest j hj h0).2⟩, h.off, h.bag.below hb, ⟨hlt.1, hlt.2.1, hlt.2.2.1, Nat.le_trans hlt.2.2.2 hb.size⟩, h.wr.trans (Wr.ofBelow hb), h.old⟩

theorem Shf.take (h : Shf w0 B b S N vs ps W) (hn : ps.length ≤ 1099511627776) {la : Option Addr} {lc : Nat} {s : Bs} (hi : Bag W B (vs ++ [.slice la s.length lc]) (ps ++ [s])) (hne : (Value.slice la s.length lc).ownBlock ≠ some b) :
    Calls Try.prog 20 #[.pointer (some ⟨b, 0, none⟩), .slice la s.length lc] W fun e W' => e = .returned (.tuple #[]) ∧ Shf w0 B b S W'.heap.size (vs ++ [.slice la s.length lc]) (ps ++ [s]) W' ∧ W.heap.size ≤ W'.heap.size := by
  obtain ⟨va, vc, h1, h2, h3, h4⟩ := h.row
  have hlow := h.low
  have hlt : b < W.heap.size := by omega
  refine (take_core b B ps.length va vc vs la s.length lc W (by omega) hlt hn h1 h2 h3 (fun g e => (h4 g e).1)).mono ?_
  rintro e w2 ⟨rfl, va', vc', z1, z2, z3, z4, z5, z6, z7⟩
  have hof : ∀ v ∈ vs ++ [.slice la s.length lc], v.ownBlock ≠ some b := fun v hv => by
    rcases List.mem_append.1 hv with hv | hv
    · exact h.off v hv
    · obtain rfl := List.mem_singleton.1 hv
      exact hne
  refine ⟨rfl, ⟨⟨va', vc', by rw [List.length_append]; exact z1, z2, by rw [List.length_append]; exact z3, fun g hg => ?_⟩, fun j hj h0 => ⟨(z7 j h0).1.trans (h.rest j hj h0).1, (z7 j h0).2.trans (h.rest j hj h0).2⟩, hof, ?_, ⟨hlow.1, hlow.2.1, by have := z6.size; omega, Nat.le_refl _⟩, ?_, h.old⟩, z6.size⟩
  · have hg' : (Value.slice va' (ps.length + 1) vc').ownBlock = some g := by
      have := hg
      rw [List.length_append] at this
      exact this
    refine ⟨z4 g hg', ?_, (z3.lt g hg').2⟩
    rcases z5 with e | e
    · exact (h4 g (e.symm.trans hg')).2.1
    · have e2 := e.symm.trans hg'
      cases e2
      omega
  · refine hi.keep (fun v hv g e => ?_)
    obtain ⟨s', hs'⟩ := hi.itm hv
    obtain ⟨k1, k2, cur, k3⟩ := hs'.blk e
    refine z6.block g k2 ?_
    rintro (e2 | e2)
    · exact hof v hv (by rw [e, e2])
    · obtain ⟨cur2, hc⟩ := owns_kind h3 e2
      exact hi.kind hc (by decide) v hv e
  · refine h.wr.on z6 (fun k hk => ?_)
    rcases hk with e | e
    · exact .inl e
    · have := (h4 k e).2.1
      rw [h.old]
      exact .inr this

set_option maxRecDepth 20000 in
set_option maxHeartbeats 400000 in
theorem takes0 (b rc : Nat) (ra : Option Addr) (w : World) : Calls Try.prog 21 #[.pointer (some ⟨b, 0, none⟩), .slice ra 0 rc] w fun e w' => e = .returned (.tuple #[]) ∧ w' = w := by
  go_enter Try.func21, Try.ntmps21
  go_wp2_with fail
  go_loopw [4] (fun i wr => i = .int .i64 0 ∧ wr = w) (fun _ _ => 0)
  case atStart => exact ⟨rfl, rfl⟩
  case round =>
    obtain ⟨rfl, rfl⟩ := hrel
    go_wp2_with fail
    go_end0
    exact ⟨rfl, rfl⟩

theorem Shf.takes (h : Shf w0 B b S N vs ps W) {ra : Option Addr} {rc B' : Nat} {us : List Value} {qs : List Bs} (hm : ps.length + qs.length ≤ 1099511627776) (hrow : W.ownsRow B' 23 1 (.slice ra qs.length rc) qs.length us) (hi : Bag W B (vs ++ us) (ps ++ qs)) (hof : ∀ v ∈ us, v.ownBlock ≠ some b) (hne : ∀ g, (Value.slice ra qs.length rc).ownBlock = some g → g ≠ b ∧ (g < S ∨ N ≤ g)) :
    Calls Try.prog 21 #[.pointer (some ⟨b, 0, none⟩), .slice ra qs.length rc] W fun e W' => e = .returned (.tuple #[]) ∧ Shf w0 B b S W'.heap.size (vs ++ us) (ps ++ qs) W' ∧ W.heap.size ≤ W'.heap.size := by
  obtain ⟨va, vc, h1, h2, h3, h4⟩ := h.row
  have hlow := h.low
  have hlt : b < W.heap.size := by omega
  have hlu : us.length = qs.length := by have := hrow.1; omega
  rcases Nat.eq_zero_or_pos qs.length with h0 | h0
  · have hq : qs = [] := List.eq_nil_of_length_eq_zero h0
    have hu : us = [] := List.eq_nil_of_length_eq_zero (by omega)
    subst hq hu
    refine (takes0 b rc ra W).mono ?_
    rintro e w2 ⟨rfl, rfl⟩
    rw [List.append_nil, List.append_nil]
    exact ⟨rfl, ⟨⟨va, vc, h1, h2, h3, fun g e => ⟨(h4 g e).1, (h4 g e).2.1, (h3.lt g e).2⟩⟩, h.rest, h.off, h.bag, ⟨hlow.1, hlow.2.1, by omega, Nat.le_refl _⟩, h.wr, h.old⟩, Nat.le_refl _⟩
  · have hof2 : ∀ v ∈ vs ++ us, v.ownBlock ≠ some b := fun v hv => by
      rcases List.mem_append.1 hv with hv | hv
      · exact h.off v hv
      · exact hof v hv
    refine (takes_core b B ps.length qs.length rc va ra vc vs us W (by omega) hlt hm h1 h2 h3 (fun g e => (h4 g e).1) hlu (hid (fun v hv => hi.isL v (List.mem_append_right _ hv))) (hid (fun _ => ?_))).mono ?_
    · obtain ⟨g, c, e, hb2, hg, hcl⟩ := owns_at hrow h0
      injection e with e1 _ _
      subst e1
      have hn := hne g rfl
      refine ⟨g, 0, rfl, hg, hn.1, (fun e2 => ?_), fun i v hv => ?_⟩
      · have := h4 g e2
        omega
      · rw [Nat.zero_add]
        have := (List.getElem?_eq_some_iff.1 hv).1
        exact hcl i v (by omega) hv
    · rintro e w2 ⟨rfl, hbk⟩
      obtain ⟨va', vc', z1, z2, z3, z4⟩ := hbk.row
      refine ⟨rfl, ⟨⟨va', vc', by rw [List.length_append]; exact z1, z2, by rw [List.length_append]; exact z3, fun g hg => ?_⟩, fun j hj h0 => ⟨(hbk.rest j h0).1.trans (h.rest j hj h0).1, (hbk.rest j h0).2.trans (h.rest j hj h0).2⟩, hof2, ?_, ⟨hlow.1, hlow.2.1, by have := hbk.wr.size; omega, Nat.le_refl _⟩, ?_, h.old⟩, hbk.wr.size⟩
      · have hg' : (Value.slice va' (ps.length + qs.length) vc').ownBlock = some g := by
          have := hg
          rw [List.length_append] at this
          exact this
        refine ⟨(z4 g hg').1, ?_, (z3.lt g hg').2⟩
        rcases (z4 g hg').2 with e | e
        · exact (h4 g e).2.1
        · omega
      · refine hi.keep (fun v hv g e => ?_)
        obtain ⟨s', hs'⟩ := hi.itm hv
        obtain ⟨k1, k2, cur, k3⟩ := hs'.blk e
        refine hbk.wr.block g k2 ?_
        rintro (e2 | e2)
        · exact hof2 v hv (by rw [e, e2])
        · obtain ⟨cur2, hc⟩ := owns_kind h3 e2
          exact hi.kind hc (by decide) v hv e
      · refine h.wr.on hbk.wr (fun k hk => ?_)
        rcases hk with e | e
        · exact .inl e
        · have := (h4 k e).2.1
          rw [h.old]
          exact .inr this

theorem Shf.alone (h : Shf w0 B b S N vs ps W) (h0 : 0 < ps.length) (hm : ps.length ≤ 1099511627776) (hs : ∀ p ∈ ps, p.length ≤ 4398046511104) :
    Calls Try.prog 22 #[.pointer (some ⟨b, 0, none⟩)] W fun e W' => e = .returned (.bool true) ∧ Wr (fun k => k = b ∨ ∃ v ∈ vs, v.ownBlock = some k) W W' := by
  obtain ⟨va, vc, h1, h2, h3, h4⟩ := h.row
  have hlow := h.low
  have hlen := h.bag.len
  obtain ⟨bb, bc, HL⟩ := lists_bag h.bag h1 h3 h0 hm hlow.1 (by omega) (fun g e => (h4 g e).1) hs h.off
  refine (alone_some b B bb ps.length bc _ _ W (hid HL) (fun j hj => ?_) (fun j hj h1 => (h.rest j hj h1).1)).mono ?_
  · by_cases e : j = 0
    · subst e; exact h2
    · exact (h.rest j hj e).2
  · rintro e w2 ⟨rfl, hw⟩
    refine ⟨rfl, hw.mono (fun k hk => hk.elim .inl (fun ⟨i, hi, e⟩ => .inr ⟨_, ?_, e⟩))⟩
    have hv : vs[i]? = some (vs[i]'(by omega)) := List.getElem?_eq_getElem _
    dsimp only
    rw [show vs.getD i (.slice none 0 0) = vs[i]'(by omega) from by simp [List.getD, hv]]
    exact List.getElem_mem _

end Go.Proofs.Ytbpajgkhajheaaa.FrmBg

/- FrameMakes: its walk. -/
namespace Go.Proofs.Ytbpajgkhajheaaa.FrmMk
open Go.ChangeShapes Go.WideShapes Go.ChangeAt Go.RowKit Go.Deep Base AloA Wri FrmP FrmA FrmD FrmE FrmG FrmI FrmR FrmU FrmW FrmX FrmY FrmL FrmZ FrmM FrmO FrmC2 FrmJ FrmK FrmK2 FrmK3 FrmK4 FrmDc FrmH FrmBg Vrw
set_option linter.unusedVariables false
set_option linter.unusedSimpArgs false

/-- lists that were handed in, in a list of one's own -/
structure Hnds (w W : World) (k : Nat) (ls : List Bs) (va : Option Addr) (vc : Nat) (vs : List Value) : Prop where
  own : W.ownsRow w.heap.size 23 1 (.slice va k vc) k vs
  each : ∀ (i : Nat) q, i < k → ls[i]? = some q → ∃ g, vs[i]? = some (.slice (some ⟨g, 0, none⟩) q.length (q.length + 9)) ∧ g < W.heap.size ∧ VRow W g (q.length + 9) (markB q) ∧ (Value.slice va k vc).ownBlock ≠ some g

theorem Hnds.below {w W W' : World} {k vc : Nat} {ls : List Bs} {va : Option Addr} {vs : List Value} (h : Hnds w W k ls va vc vs) (hb : Below W.heap.size W W') : Hnds w W' k ls va vc vs :=
  ⟨owns_keep h.own (fun g e => hb.block g (h.own.lt g e).2), fun i q hi hq => by
    obtain ⟨g, h1, h2, h3, h4⟩ := h.each i q hi hq
    exact ⟨g, h1, Nat.lt_of_lt_of_le h2 hb.size, h3.of_block (hb.block g h2), h4⟩⟩

theorem Hnds.next {w W W2 w6 : World} {k vc vc' : Nat} {ls : List Bs} {va va' : Option Addr} {vs : List Value} {q : Bs} (h : Hnds w W k ls va vc vs) (hq : ls[k]? = some q) (hb : Below W.heap.size W W2) (hrow : VRow W2 W.heap.size (q.length + 9) (markB q)) (hlt : W.heap.size < W2.heap.size)
    (hown : w6.ownsRow w.heap.size 23 1 (.slice va' (k + 1) vc') (k + 1) (vs ++ [.slice (some ⟨W.heap.size, 0, none⟩) q.length (q.length + 9)])) (hgr : (W2.alloc (.cells #[.slice (some ⟨W.heap.size, 0, none⟩) q.length (q.length + 9)] 23)).grownBy w6 (Value.slice va k vc).ownBlock)
    (hat : (Value.slice va' (k + 1) vc').ownBlock = (Value.slice va k vc).ownBlock ∨ (Value.slice va' (k + 1) vc').ownBlock = some (W2.heap.size + 1)) : Hnds w w6 (k + 1) ls va' vc' (vs ++ [.slice (some ⟨W.heap.size, 0, none⟩) q.length (q.length + 9)]) := by
  have hsz := hgr.size
  simp at hsz
  have hbs := hb.size
  have hlv : vs.length = k := by have := h.own.1; omega
  have hnew : ∀ g, g < W2.heap.size → (Value.slice va k vc).ownBlock ≠ some g → w6.heap[g]? = W2.heap[g]? := fun g h1 h2 => (hgr.block g (by simp; omega) (fun e => h2 e.symm)).trans (AloC.heap_alloc_old _ _ _ h1)
  have hv : ∀ g, (Value.slice va k vc).ownBlock ≠ some g → g < W2.heap.size → (Value.slice va' (k + 1) vc').ownBlock ≠ some g := fun g h1 h2 e => by
    rcases hat with e2 | e2
    · exact h1 (e2 ▸ e)
    · rw [e2] at e
      cases e
      omega
  refine ⟨hown, fun i q' hi hq' => ?_⟩
  by_cases hik : i = k
  · subst hik
    rw [hq] at hq'
    cases hq'
    have hW : (Value.slice va i vc).ownBlock ≠ some W.heap.size := fun e => by have := (h.own.lt _ e).2; omega
    refine ⟨W.heap.size, by rw [List.getElem?_append_right (by omega), hlv, Nat.sub_self]; rfl, by omega, hrow.of_block (hnew _ hlt hW), hv _ hW hlt⟩
  · obtain ⟨g, h1, h2, h3, h4⟩ := h.each i q' (by omega) hq'
    have hg : g < W2.heap.size := by omega
    exact ⟨g, by rw [List.getElem?_append_left (by omega)]; exact h1, by omega, (h3.of_block (hb.block g h2)).of_block (hnew g hg h4), hv g h4 hg⟩

theorem Hnds.pat {w W : World} {k vc : Nat} {ls : List Bs} {va : Option Addr} {vs : List Value} (h : Hnds w W k ls va vc vs) (hk : ls.length = k) (hs : ∀ q ∈ ls, q.length ≤ 1048576) : PAt W W.heap.size va ls (whereAt vs) := by
  intro h0
  obtain ⟨g, c, e, hb, hg, hc⟩ := owns_at h.own (by omega)
  injection e with e1 _ _
  subst e1
  refine ⟨g, 0, rfl, hg, fun i q hq => ?_⟩
  have hi := (List.getElem?_eq_some_iff.1 hq).1
  obtain ⟨g2, h1, h2, h3, h4⟩ := h.each i q (by omega) hq
  have := hs q (List.mem_of_getElem? hq)
  rw [whereAt_eq h1, Nat.zero_add]
  exact ⟨hc i _ (by omega) h1, vrow_bat h3 (by omega) h2, by dsimp only; omega, by dsimp only; omega⟩

theorem frames_room {ls : List Bs} : (frames ls).length ≤ sumL ls + 4 * ls.length := by
  rw [frames_len]
  unfold place sumL
  induction ls with
  | nil => simp
  | cons q r ih => simp only [List.map_cons, List.sum_cons, List.length_cons] at *; omega

/-- what Frames told, or nothing -/
def toldF (e : Int) (s : Bs) : Bs := if e = 0 then s else []
theorem told_own {W : World} {B : Nat} {v : Value} {e : Int} {s : Bs} (h1 : e = 0 → W.ownsRow B 5 1 v s.length (s.map bv)) (h2 : e ≠ 0 → v = .slice none 0 0) : ∃ xa xc, v = .slice xa (toldF e s).length xc ∧ W.ownsRow B 5 1 v (toldF e s).length ((toldF e s).map bv) := by
  unfold toldF
  by_cases h : e = 0
  · rw [if_pos h]
    obtain ⟨xa, xc, e2⟩ := owns_shape (h1 h)
    exact ⟨xa, xc, e2, h1 h⟩
  · rw [if_neg h, h2 h]
    exact ⟨none, 0, rfl, World.ownsRow_nil _ _ _ _⟩
theorem told_len {e : Int} {s : Bs} : (toldF e s).length ≤ s.length := by
  unfold toldF
  split
  · exact Nat.le_refl _
  · exact Nat.zero_le _

/-- bytes that came in -/
theorem bytes_arg {H : Type} {enc : TypeId × Value → H} {w : World} {base : Nat} {held : Bool} {a1 : Option Addr} {len1 cap1 : Nat} {d : DataW H} {p : List MemPlace} (h : DataW.Trod enc Try.prog w base (fun _ => true) held 23 (.slice a1 len1 cap1) d p) (hb : Rows.uptoBulk d ≤ 1048576) :
    ∃ s : Bs, s.length = len1 ∧ BAt w w.heap.size a1 s ∧ len1 ≤ cap1 ∧ cap1 ≤ 1048576 := by
  obtain ⟨fuel, hf⟩ := h
  have hf : DataW.trod enc Try.prog w base (fun _ => true) held fuel 23 [.slice a1 len1 cap1] = some (d, p) := by simpa [Value.cells] using hf
  obtain ⟨a, cap, s, e, h1, h2, h3⟩ := bytes_bulk hf
  injection e with e1 e2 e3
  subst e1 e2 e3
  exact ⟨s, rfl, h1, h2, by dsimp only at h3; omega⟩

end Go.Proofs.Ytbpajgkhajheaaa.FrmMk

/- FrameMakes: its walk. -/
namespace Go.Proofs.Ytbpajgkhajheaaa.FrmMl
open Go.ChangeShapes Go.WideShapes Go.ChangeAt Go.RowKit Go.Deep Base AloA Wri FrmP FrmA FrmD FrmE FrmG FrmI FrmR FrmU FrmW FrmX FrmY FrmL FrmZ FrmM FrmO FrmC2 FrmJ FrmK FrmK2 FrmK3 FrmK4 FrmDc FrmH FrmBg FrmMk FrmF FrmV FrmQ Vrw
set_option linter.unusedVariables false
set_option linter.unusedSimpArgs false

set_option maxRecDepth 100000 in
set_option maxHeartbeats 10000000 in
theorem makes_core (a0 a1 : Option Addr) (len0 cap0 cap1 : Nat) (ls : List Bs) (f : Nat → Option Addr × Nat) (bs : Bs) (hl : ls.length = len0) (w : World) (hn : len0 ≤ 1048576) (hs : sumL ls ≤ 1048576) (hb1 : bs.length ≤ 1048576) (hc1 : bs.length ≤ cap1) (hc2 : cap1 ≤ 1048576) (HP : Hid (PAt w w.heap.size a0 ls f)) (HB : Hid (BAt w w.heap.size a1 bs)) :
    Calls Try.prog 3 #[.slice a0 len0 cap0, .slice a1 bs.length cap1] w fun e w' => e = .returned (.bool true) ∧ Below w.heap.size w w' := by
  obtain ⟨i0, hi, hz0, hz1, hz2⟩ := info_parts infoBs
  have HL := hid hl
  have hroom := frames_room (ls := ls)
  have HONE : Hid (∀ q ∈ ls, q.length ≤ 1048576) := hid (fun q hq => by
    obtain ⟨i, hi⟩ := List.mem_iff_getElem?.1 hq
    have := sumL_in hi
    omega)
  obtain ⟨L1, hL1⟩ : ∃ L1, bs.length = L1 := ⟨_, rfl⟩
  have HL1 := hid hL1
  rw [hL1] at hb1 hc1 ⊢
  have HX := hid (fun (wx : World) (hb : Below w.heap.size w wx) => show PAt wx wx.heap.size a0 ls f ∧ BAt wx wx.heap.size a1 bs from ⟨by
    have := HP.out.below hb
    intro h0
    obtain ⟨g, o, e, hg, hc⟩ := this h0
    exact ⟨g, o, e, Nat.lt_of_lt_of_le hg hb.size, fun i q hq => ⟨(hc i q hq).1, (hc i q hq).2.1.mono hb.size, (hc i q hq).2.2⟩⟩, (HB.out.below hb).mono hb.size⟩)
  have hrm : (frames ls).length ≤ 5242880 := by omega
  clear hl hL1 hroom
  go_enter Try.func3, Try.ntmps3
  go_wp2_with fail
  go_loopw [5, 6] (fun v i wr => ∃ (k vc : Nat) (va : Option Addr) (vs : List Value), k ≤ len0 ∧ v = .slice va k vc ∧ i = .int .i64 k ∧ Hnds w wr k ls va vc vs ∧ Below w.heap.size w wr) (fun _ i _ => len0 - (intOf i).toNat)
  case atStart => exact ⟨0, 0, none, [], Nat.zero_le _, rfl, rfl, ⟨World.ownsRow_nil _ _ _ _, fun i q h => absurd h (Nat.not_lt_zero _)⟩, Below.refl _ _⟩
  case round =>
    obtain ⟨k, vc, va, vs, hk, rfl, rfl, hh, hb⟩ := hrel
    have HH := hid hh
    have HBl := hid hb
    clear hh hb
    by_cases hlt : k < len0
    · obtain ⟨g, o, rfl, hg, hc⟩ := HP.out (by rw [HL.out]; omega)
      obtain ⟨q, hq⟩ : ∃ q, ls[k]? = some q := ⟨ls[k]'(by rw [HL.out]; exact hlt), List.getElem?_eq_getElem _⟩
      obtain ⟨h1, h2, h3, h4⟩ := hc k q hq
      have hql := HONE.out q (List.mem_of_getElem? hq)
      have x0 : wr.cell? ⟨g, o + k, none⟩ = some (.slice (f k).1 q.length (f k).2) := (HBl.out.cell (p := ⟨g, o + k, none⟩) hg).trans h1
      have HC := hid (hand_bytes (f k).1 (f k).2 q wr (by omega) (hid ((h2.below HBl.out).mono HBl.out.size)))
      have HQ := hid hq
      obtain ⟨L, hL⟩ : ∃ L, q.length = L := ⟨_, rfl⟩
      have HQL := hid hL
      rw [hL] at x0 HC hql
      clear hc hq h1 h2 h3 h4 hL
      generalize (f k).1 = fa at *
      generalize (f k).2 = fc at *
      go_wp2_with fail
      refine HC.out.mono ?_
      rintro e w3 ⟨rfl, hrow3, hb3, hlt3⟩
      have hown1 : (w3.alloc (.cells #[.slice (some ⟨wr.heap.size, 0, none⟩) L (L + 9)] 23)).ownsRow w.heap.size 23 1 (.slice va k vc) k vs := World.ownsRow.alloc (owns_keep HH.out.own (fun g e => hb3.block g (HH.out.own.lt g e).2)) _
      have HO1 := hid hown1
      have H3 := hid (And.intro hrow3 (And.intro hb3 hlt3))
      have hs3 : w.heap.size ≤ w3.heap.size := Nat.le_trans HBl.out.size hb3.size
      clear hrow3 hb3 hlt3 hown1 HC
      go_wp2_with (at_builtin
                   go_loud (refine wpList_append_own_at _ rfl _ _ 22 rfl w.heap.size 23 i0 (.slice none 0 0) 1 24 Try.underlying22 hi hz0 hz1 hz2 rfl (by decide) (Value.slice va k vc) _ _ rfl HO1.out ⟨w3.heap.size, 0, none⟩ 1 1 [.slice (some ⟨wr.heap.size, 0, none⟩) L (L + 9)] rfl rfl (AlbC.cell_one _ _ _) (by intro u hu; obtain rfl := List.mem_singleton.1 hu; rfl) (by unfold maxLen; omega) (by omega) (by simp; omega) ?_)
                   intro v6 w6 hown6 hgr6 hnil6 hat6
                   obtain ⟨vb, vd, rfl⟩ := owns_shape hown6
                   have H6 := hid (And.intro hown6 (And.intro hgr6 (by simpa using hat6)))
                   clear hown6 hgr6 hnil6 hat6)
      go_roundw
      case rel =>
        refine ⟨k + 1, _, _, _, by omega, rfl, by go_num, by
          have := HH.out.next HQ.out H3.out.2.1 (by rw [HQL.out]; exact H3.out.1) H3.out.2.2 (by rw [HQL.out]; exact H6.out.1) (by rw [HQL.out]; exact H6.out.2.1) H6.out.2.2
          exact this, ?_⟩
        have h5 : Below w.heap.size w (w3.alloc (.cells #[.slice (some ⟨wr.heap.size, 0, none⟩) L (L + 9)] 23)) := (HBl.out.trans (H3.out.2.1.mono HBl.out.size)).alloc hs3 _
        exact Below.grown h5 H6.out.2.1 h5.size (fun g e => (HH.out.own.lt g e).1)
      case measure => simp [intOf]; omega
    · obtain rfl : len0 = k := by omega
      have HPT := hid (HH.out.pat HL.out HONE.out)
      have HC := hid (hand_bytes a1 cap1 bs wr (by rw [HL1.out]; omega) (hid (HX.out wr HBl.out).2))
      rw [HL1.out] at HC
      go_wp2_with fail
      refine HC.out.mono ?_
      rintro e w2 ⟨rfl, hrow2, hb2, hlt2⟩
      have HB2 := hid (HBl.out.trans (hb2.mono HBl.out.size))
      have HH2 := hid (HH.out.below hb2)
      have HPT2 := hid (show PAt w2 w2.heap.size va ls (whereAt vs) from HH2.out.pat HL.out HONE.out)
      have HFM := hid (frames_any va vc ls (whereAt vs) w2 (by rw [HL.out]; omega) (by omega) HPT2)
      rw [HL.out] at HFM
      have HR2 := hid hrow2
      have HLT2 := hid hlt2
      obtain ⟨D, hD⟩ : ∃ D, wr.heap.size = D := ⟨_, rfl⟩
      rw [hD] at HR2 HLT2 ⊢
      have HDD : Hid (w.heap.size ≤ D) := hid (by rw [← hD]; exact HBl.out.size)
      clear HC hrow2 hb2 hlt2 hD HPT HH
      go_wp2_with fail
      refine HFM.out.mono ?_
      rintro e w3 ⟨⟨x, rfl, hx1, hx2⟩, hb3⟩
      obtain ⟨xa, xc, rfl, hx3⟩ := told_own (fun h => (hx1 h).2) hx2
      have HB3 := hid (HB2.out.trans (hb3.mono HB2.out.size))
      have HX3 := hid hx3
      have HW3 := hid hb3
      have HRM := hid (rframes_any a0 cap0 ls f w3 (by rw [HL.out]; omega) (by omega) (fun q hq => by have := HONE.out q hq; omega) (hid (HX.out w3 HB3.out).1))
      rw [HL.out] at HRM
      clear hx1 hx2 hx3 hb3 HFM
      go_wp2_with fail
      refine HRM.out.mono ?_
      rintro e w4 ⟨⟨y, rfl, hy1, hy2⟩, hb4⟩
      obtain ⟨ya, yc, rfl, hy3⟩ := told_own (fun h => (hy1 h).2) hy2
      have HB4 := hid (HB3.out.trans (hb4.mono HB3.out.size))
      have HY4 := hid hy3
      have HW4 := hid hb4
      have h24 : Below w2.heap.size w2 w4 := HW3.out.trans (hb4.mono HW3.out.size)
      have HD4 := hid (HR2.out.of_block (h24.block D HLT2.out))
      have HSL := hid (split_any (some ⟨D, 0, none⟩) (L1 + 9) bs w4 (by rw [HL1.out]; omega) (by rw [HL1.out]; omega) (by omega) (hid (vrow_bat HD4.out (by rw [HL1.out]; omega) (by have := h24.size; have := HLT2.out; omega))))
      rw [HL1.out] at HSL
      clear hy1 hy2 hy3 hb4 HRM
      go_wp2_with fail
      refine HSL.out.mono ?_
      rintro e w5 ⟨row, us, rfl, hu, hb5⟩
      obtain ⟨ua, uc, rfl⟩ := owns_shape hu.own
      have HU5 := hid hu
      have HW5 := hid hb5
      have HB5 := hid (HB4.out.trans (hb5.mono HB4.out.size))
      have HRS := hid (rsplit_any a1 cap1 bs w5 (by rw [HL1.out]; omega) (by rw [HL1.out]; omega) (by omega) (hid (HX.out w5 HB5.out).2))
      rw [HL1.out] at HRS
      clear hu hb5 HSL h24
      go_wp2_with fail
      refine HRS.out.mono ?_
      rintro e w6 ⟨ra, rc, ws, rfl, hown6, hcut6, hb6⟩
      have HW6 := hid hb6
      have HC6 := hid (And.intro hown6 hcut6)
      have HB6 := hid (HB5.out.trans (hb6.mono HB5.out.size))
      have HLV := hid (live_any w6)
      clear hown6 hcut6 hb6 HRS
      go_wp2_with fail
      refine HLV.out.mono ?_
      rintro e w7 ⟨rfl, hb7⟩
      have h67 := hb7
      have h57 : Below w5.heap.size w5 w7 := HW6.out.trans (hb7.mono HW6.out.size)
      have h47 : Below w4.heap.size w4 w7 := HW5.out.trans (h57.mono HW5.out.size)
      have h37 : Below w3.heap.size w3 w7 := HW4.out.trans (h47.mono HW4.out.size)
      have h27 : Below w2.heap.size w2 w7 := HW3.out.trans (h37.mono HW3.out.size)
      have HB7 : Hid (Below w.heap.size w w7) := hid (HB6.out.trans (hb7.mono HB6.out.size))
      have HH7 := hid (HH2.out.below h27)
      have HD7 := hid (HR2.out.of_block (h27.block D HLT2.out))
      have HX7 := hid (owns_keep HX3.out (fun g e => h37.block g (HX3.out.lt g e).2))
      have HY7 := hid (owns_keep HY4.out (fun g e => h47.block g (HY4.out.lt g e).2))
      have HU7 := hid (HU5.out.below h57)
      have hcut7 : Cuts w7 w7.heap.size ws (sp bs).1 := fun i v q h1 h2 => by
        obtain ⟨a, c, e, h3⟩ := HC6.out.2 i v q h1 h2
        exact ⟨a, c, e, (h3.below h57).mono h57.size⟩
      have hown7 := owns_keep HC6.out.1 (fun g e => h67.block g (HC6.out.1.lt g e).2)
      have HSZ := hid (sp_sizes bs)
      have HCN : Hid (5 * (sp bs).1.length ≤ 1048576) := hid (by have := sp_count bs; rw [HL1.out] at this; omega)
      have HSZS : Hid (D < w2.heap.size ∧ w2.heap.size ≤ w3.heap.size ∧ w3.heap.size ≤ w4.heap.size ∧ w4.heap.size ≤ w5.heap.size ∧ w5.heap.size ≤ w7.heap.size ∧ w.heap.size ≤ D) := hid ⟨HLT2.out, HW3.out.size, HW4.out.size, HW5.out.size, h57.size, HDD.out⟩
      have htl : (toldF (firstErr ls) (frames ls)).length ≤ 5242880 := Nat.le_trans told_len hrm
      obtain ⟨SS, hSS⟩ : ∃ SS, toldF (firstErr ls) (frames ls) = SS := ⟨_, rfl⟩
      rw [hSS] at HX3 HY4 HX7 HY7 htl ⊢
      have HSM := hid (same_bytes xa ya xc yc SS w7 (by omega) (hid (own_room HX7.out rfl).2.2.2.1) (hid (own_room HY7.out rfl).2.2.2.1))
      obtain ⟨o1, o2, ho1, hpq⟩ := Out.pat (Out.ofPls HU7.out) (fun p hp => (HSZ.out p hp).2)
      injection ho1 with ho1 hx1 hx2
      subst ho1
      subst hx2
      clear hx1
      have HPQ := hid hpq
      have HCP := hid (cuts_pat hown7 hcut7 (fun p hp => (HSZ.out p hp).2))
      have HSP := hid (fun m => same_pays ua ra uc rc (sp bs).1 _ _ (w7.drewN m) (by have := HCN.out; omega) (hid (show PQt w7 w7.heap.size ua (sp bs).1 (whereAt us) from HPQ.out)) (hid (show PQt w7 w7.heap.size ra (sp bs).1 (whereAt ws) from HCP.out)))
      have HKP : Hid (∀ m, Calls Try.prog 17 #[.slice (some ⟨D, 0, none⟩) L1 (L1 + 9), .slice a1 L1 cap1] (w7.drewN m) fun e w' => e = .returned (.bool true) ∧ ∃ m', w7.drewN m' = w') := hid (fun m => by
        have := kept_bytes a1 D cap1 bs (w7.drewN m) (by rw [HL1.out]; omega) (show D < w7.heap.size by have := HSZS.out; omega) (hid (show BAt w7 w7.heap.size a1 bs from (HX.out w7 HB7.out).2)) (by rw [HL1.out]; exact HD7.out)
        rw [HL1.out] at this
        exact this.mono fun e w' ⟨h5, m5, h6⟩ => ⟨h5, m + m5, by rw [← h6, World.drewN_drewN]⟩)
      have HXS := hid htl
      have HXO : Hid (∀ g, (Value.slice xa SS.length xc).ownBlock = some g → w2.heap.size ≤ g ∧ g < w4.heap.size) := hid (fun g e => by have := HX3.out.lt g e; have := HW4.out.size; omega)
      have HSP2 : Hid (∀ wx : World, D < wx.heap.size → VRow wx D (L1 + 9) (markB bs) → Calls Try.prog 12 #[.slice (some ⟨D, 0, none⟩) L1 (L1 + 9)] wx fun e w' => ∃ row vs, e = .returned (.tuple #[row, .int .i64 (place (sp bs).1 : Nat), .int .i64 (errOf (sp bs).2)]) ∧ Pls w' (wx.heap.size + 3) row vs (sp bs).1 ∧ Below wx.heap.size wx w') := hid (fun wx h1 h2 => by
        have := split_any (some ⟨D, 0, none⟩) (L1 + 9) bs wx (by rw [HL1.out]; omega) (by rw [HL1.out]; omega) (by omega) (hid (vrow_bat h2 (by rw [HL1.out]; omega) h1))
        rw [HL1.out] at this
        exact this)
      clear hSS hb7 h67 h57 h47 h37 h27 hcut7 hown7 hpq HR2 HB2 HPT2 HB3 HB4 HB5 HB6 HU5 HX3 HY4 HW3 HW4 HW5 HW6 HC6 HD4 HLT2 HDD HH2 HLV hrm htl
      generalize firstErr ls = E0 at *
      generalize place (sp bs).1 = PL at *
      generalize errOf (sp bs).2 = E1 at *
      generalize (sp bs).1 = ps at *
      obtain ⟨SN, hSN⟩ : ∃ SN, SS.length = SN := ⟨_, rfl⟩
      rw [hSN] at HSM HX7 HXS HXO ⊢
      have HSN := hid hSN
      clear hSN
      obtain ⟨PN, hPN⟩ : ∃ PN, ps.length = PN := ⟨_, rfl⟩
      rw [hPN] at HSP HCN ⊢
      have HPN := hid hPN
      clear hPN
      go_wp2_with (first
          | (go_at_call 15
             refine HSM.out.mono ?_
             rintro e w8 ⟨rfl, m8, rfl⟩)
          | (go_at_call 16
             refine (HSP.out _).mono ?_
             rintro e w9 ⟨rfl, m9, rfl⟩
             rw [World.drewN_drewN])
          | (go_at_call 17
             refine (HKP.out _).mono ?_
             rintro e w9 ⟨rfl, m12, rfl⟩))
      have hbd : Below w7.heap.size w7 (w7.drewN m12) := ⟨rfl, rfl, rfl, Nat.le_refl _, fun _ _ => rfl⟩
      have HB8 : Hid (Below w.heap.size w (w7.drewN m12)) := hid (HB7.out.trans (hbd.mono HB7.out.size))
      have HH8 := hid (HH7.out.below hbd)
      have HD8 : Hid (VRow (w7.drewN m12) D (L1 + 9) (markB bs)) := hid HD7.out
      have HX8 : Hid ((w7.drewN m12).ownsRow w2.heap.size 5 1 (.slice xa SN xc) SN (SS.map bv)) := hid HX7.out
      have HU8 := hid (HU7.out.below hbd)
      have HZ8 : Hid (D < w2.heap.size ∧ w2.heap.size ≤ w3.heap.size ∧ w3.heap.size ≤ w4.heap.size ∧ w4.heap.size ≤ (w7.drewN m12).heap.size ∧ w.heap.size ≤ D) := hid (by have := HSZS.out; exact ⟨this.1, this.2.1, this.2.2.1, Nat.le_trans this.2.2.2.1 this.2.2.2.2.1, this.2.2.2.2.2⟩)
      clear hbd HB7 HH7 HD7 HX7 HY7 HU7 HSZS HSM HSP HKP HPQ HCP
      generalize w7.drewN m12 = w8 at *
      go_loopw [18] (fun i wx => ∃ k : Nat, k ≤ len0 ∧ i = .int .i64 k ∧ Below w8.heap.size w8 wx) (fun i _ => len0 - (intOf i).toNat)
      case atStart => exact ⟨0, Nat.zero_le _, rfl, Below.refl _ _⟩
      case round =>
        obtain ⟨k, hk, rfl, hbk⟩ := hrel
        have HBK := hid hbk
        clear hbk
        by_cases hlt2 : k < len0
        · obtain ⟨g, o, rfl, hg, hc⟩ := HP.out (by rw [HL.out]; omega)
          obtain ⟨q, hq⟩ : ∃ q, ls[k]? = some q := ⟨ls[k]'(by rw [HL.out]; exact hlt2), List.getElem?_eq_getElem _⟩
          obtain ⟨h1, h2, h3, h4⟩ := hc k q hq
          have hql := HONE.out q (List.mem_of_getElem? hq)
          obtain ⟨ga, ca, ea, hga, hgal, hgac⟩ := owns_at HH8.out.own (by omega)
          injection ea with ea1 ea2 ea3
          subst ea1
          subst ea3
          clear ea2
          obtain ⟨g2, hv2, hg2, hr2, -⟩ := HH8.out.each k q hlt2 hq
          have hz0 := hgac k _ hlt2 hv2
          obtain ⟨L, hL⟩ : ∃ L, q.length = L := ⟨_, rfl⟩
          have HQL := hid hL
          have HXW := hid (fun (wx : World) (hb : Below w8.heap.size w8 wx) => show wx.cell? ⟨g, o + k, none⟩ = some (.slice (f k).1 L (f k).2) ∧ wx.cell? ⟨ga, k, none⟩ = some (.slice (some ⟨g2, 0, none⟩) L (L + 9)) ∧ BAt wx wx.heap.size (f k).1 q ∧ VRow wx g2 (L + 9) (markB q) ∧ g2 < wx.heap.size from by
            have hbw := HB8.out.trans (hb.mono HB8.out.size)
            refine ⟨(hbw.cell (p := ⟨g, o + k, none⟩) hg).trans (by rw [← hL]; exact h1), (hb.cell (p := ⟨ga, k, none⟩) hgal).trans (by rw [← hL]; exact hz0), (h2.below hbw).mono hbw.size, ?_, Nat.lt_of_lt_of_le hg2 hb.size⟩
            rw [← hL]
            exact hr2.of_block (hb.block g2 hg2))
          rw [hL] at h3 hql
          clear hc hq h1 h2 hgac hv2 hg2 hr2 hz0 hL hga hgal
          generalize (f k).1 = fa at *
          generalize (f k).2 = fc at *
          obtain ⟨y0, y1, -, -, -⟩ := HXW.out wr HBK.out
          have hbat : BAt wr wr.heap.size (some ⟨g2, 0, none⟩) q := vrow_bat (HXW.out wr HBK.out).2.2.2.1 (by rw [HQL.out]; omega) (HXW.out wr HBK.out).2.2.2.2
          have HFR := hid (frame_any (some ⟨g2, 0, none⟩) (L + 9) q wr (by rw [HQL.out]; omega) (by rw [HQL.out]; omega) (by omega) (hid hbat))
          rw [HQL.out] at HFR
          clear hbat
          go_wp2_with fail
          refine HFR.out.mono ?_
          rintro e w9 ⟨⟨v9, rfl, p1, p2⟩, hb9⟩
          obtain ⟨pa, pc, rfl, p3⟩ := told_own (fun h => (p1 h).2) p2
          have HP9 := hid p3
          have HW9 := hid hb9
          have HB9 : Hid (Below w8.heap.size w8 w9) := hid (HBK.out.trans (hb9.mono HBK.out.size))
          have HRF := hid (rframe_any fa fc q w9 (by rw [HQL.out]; omega) (hid (HXW.out w9 HB9.out).2.2.1))
          rw [HQL.out] at HRF
          have y2 := (HXW.out w9 HB9.out).1
          have y3 := (HXW.out w9 HB9.out).2.1
          clear p1 p2 p3 hb9 HFR
          go_wp2_with fail
          refine HRF.out.mono ?_
          rintro e w10 ⟨⟨v10, rfl, p1, p2⟩, hb10⟩
          obtain ⟨qa, qc, rfl, p3⟩ := told_own (fun h => (p1 h).2) p2
          have HB10 : Hid (Below w8.heap.size w8 w10) := hid (HB9.out.trans (hb10.mono HB9.out.size))
          have hfl : (toldF (firstErr [q]) (frame q)).length ≤ 1048580 := Nat.le_trans told_len (by rw [frame_len, HQL.out]; omega)
          have p9 := owns_keep HP9.out (fun g e => hb10.block g (HP9.out.lt g e).2)
          generalize toldF (firstErr [q]) (frame q) = S2 at *
          have HSS : Hid (∀ j, Calls Try.prog 15 #[.slice pa S2.length pc, .slice qa S2.length qc] (w10.drewN j) fun e w' => e = .returned (.bool true) ∧ ∃ m, w' = w10.drewN m) := hid (fun j => (same_bytes pa qa pc qc S2 (w10.drewN j) (by omega) (hid (show BAt w10 w10.heap.size pa S2 from (own_room p9 rfl).2.2.2.1)) (hid (show BAt w10 w10.heap.size qa S2 from (own_room p3 rfl).2.2.2.1))).mono fun e w' ⟨h5, m5, h6⟩ => ⟨h5, j + m5, by rw [← h6, World.drewN_drewN]⟩)
          have HKK : Hid (∀ j, Calls Try.prog 17 #[.slice (some ⟨g2, 0, none⟩) L (L + 9), .slice fa L fc] (w10.drewN j) fun e w' => e = .returned (.bool true) ∧ ∃ m, w' = w10.drewN m) := hid (fun j => by
            have hx10 := HXW.out w10 HB10.out
            have := kept_bytes fa g2 fc q (w10.drewN j) (by rw [HQL.out]; omega) (show g2 < w10.heap.size from hx10.2.2.2.2) (hid (show BAt w10 w10.heap.size fa q from hx10.2.2.1)) (by rw [HQL.out]; exact hx10.2.2.2.1)
            rw [HQL.out] at this
            exact this.mono fun e w' ⟨h5, m5, h6⟩ => ⟨h5, j + m5, by rw [← h6, World.drewN_drewN]⟩)
          obtain ⟨z0, z1, -, -, -⟩ := HXW.out w10 HB10.out
          clear p1 p2 p3 p9 hb10 HRF HP9 HW9 hfl y0 y1 y2 y3
          generalize S2.length = S2N at *
          generalize firstErr [q] = E2 at *
          go_wp2_with fail
          go_quiet ((first | (go_at_call 15; exact HSS.out _) | (go_at_call 17; exact HKK.out _)))
          go_wp2_with fail
          go_roundw
          case rel => exact ⟨k + 1, by omega, by go_num, ⟨HB10.out.os, HB10.out.tape, HB10.out.output, HB10.out.size, HB10.out.block⟩⟩
          case measure => simp [intOf]; omega
        · obtain rfl : len0 = k := by omega
          go_wp2_with fail
          have HB9 := hid (HB8.out.trans (HBK.out.mono HB8.out.size))
          have hba : Below wr.heap.size wr (wr.alloc (.cells #[.slice none 0 0, .slice none 0 0, .slice none 0 0, .slice none 0 0, .slice none 0 0, .slice none 0 0, .slice none 0 0, .slice none 0 0] 44)) := (Below.refl wr.heap.size wr).alloc (Nat.le_refl _) _
          have hbk : Below w8.heap.size w8 (wr.alloc (.cells #[.slice none 0 0, .slice none 0 0, .slice none 0 0, .slice none 0 0, .slice none 0 0, .slice none 0 0, .slice none 0 0, .slice none 0 0] 44)) := HBK.out.trans (hba.mono HBK.out.size)
          have HBA := hid hbk
          have hz8 := HZ8.out
          have hsk := HBK.out.size
          have HZ9 : Hid (D < w2.heap.size ∧ w2.heap.size ≤ w3.heap.size ∧ w3.heap.size ≤ w4.heap.size ∧ w4.heap.size ≤ w8.heap.size ∧ w8.heap.size ≤ wr.heap.size ∧ w.heap.size ≤ D) := hid ⟨hz8.1, hz8.2.1, hz8.2.2.1, hz8.2.2.2.1, hsk, hz8.2.2.2.2⟩
          have HS0 := hid (Shf.start (B := w.heap.size) (show wr.heap.size < (wr.alloc (.cells #[.slice none 0 0, .slice none 0 0, .slice none 0 0, .slice none 0 0, .slice none 0 0, .slice none 0 0, .slice none 0 0, .slice none 0 0] 44)).heap.size from by simp) HB9.out.size (FrmTx.book_cells wr))
          have HB10 := hid (HB8.out.trans (hbk.mono HB8.out.size))
          have HD10 := hid (HD8.out.of_block (hbk.block D (by omega)))
          have HX10 := hid (owns_keep HX8.out (fun g e => hbk.block g (HX8.out.lt g e).2))
          have HU10 := hid (HU8.out.below hbk)
          have HS10 : Hid (wr.heap.size + 1 = (wr.alloc (.cells #[.slice none 0 0, .slice none 0 0, .slice none 0 0, .slice none 0 0, .slice none 0 0, .slice none 0 0, .slice none 0 0, .slice none 0 0] 44)).heap.size) := hid (by simp)
          have HXB : Hid (∀ g, (Value.slice xa SN xc).ownBlock = some g → w2.heap.size ≤ g ∧ g < w4.heap.size) := hid HXO.out
          have HXN : Hid (∀ g, (Value.slice xa SN xc).ownBlock = some g → g ≠ wr.heap.size) := hid (fun g e => by have := HXB.out g e; omega)
          have HUB : Hid (∀ v ∈ us, ∀ g, v.ownBlock = some g → w4.heap.size + 3 ≤ g ∧ g < w8.heap.size) := hid (fun v hv g e => by
            obtain ⟨g', cur, e2, h1, _, h2⟩ := HU8.out.pay hv
            rw [e] at e2
            cases e2
            exact ⟨h1, h2⟩)
          have HRB : Hid (∀ g, (Value.slice ua ps.length uc).ownBlock = some g → g < w8.heap.size) := hid (fun g e => (HU8.out.own.lt g e).2)
          generalize wr.alloc (.cells #[.slice none 0 0, .slice none 0 0, .slice none 0 0, .slice none 0 0, .slice none 0 0, .slice none 0 0, .slice none 0 0, .slice none 0 0] 44) = w10 at *
          generalize wr.heap.size = bk at *
          clear hba hbk hz8 hsk
          have HTK := hid (HS0.out.take (la := xa) (lc := xc) (s := SS) (Nat.zero_le _) (by
            rw [List.nil_append, List.nil_append]
            exact Bag.one (owns_low (by rw [HSN.out]; exact HX10.out) (by have := HZ9.out; omega))) (by rw [HSN.out]; exact fun e => HXN.out _ e rfl))
          rw [HSN.out] at HTK
          go_wp2_with fail
          refine HTK.out.mono ?_
          rintro e w12 ⟨rfl, hs12, hsz12⟩
          rw [List.nil_append, List.nil_append] at hs12
          have HS12 := hid hs12
          have hw12 := hs12.wr
          have HU12 := hid (HU10.out.keep (fun g e => hw12.block g (HU10.out.own.lt g e).2 (fun e2 => by
            have := HRB.out g e
            have e2 : g = bk := e2
            have := HZ9.out
            omega)) (fun v hv g e => by
            have h1 := HUB.out v hv g e
            have h2 := HZ9.out
            exact hw12.block g (by have := HS10.out; omega) (fun e2 => by have e2 : g = bk := e2; omega)))
          have HTS := hid (HS12.out.takes (ra := ua) (rc := uc) (us := us) (qs := ps) (by have := HCN.out; have := HPN.out; simp; omega) HU12.out.own (HS12.out.bag.app ((Bag.ofPls HU12.out HSZ.out).low (by have := HZ9.out; omega)) w4.heap.size (fun v hv g e => by
              obtain rfl := List.mem_singleton.1 hv
              exact (HXB.out g e).2) (fun v hv g e => by have := HUB.out v hv g e; omega)) (fun v hv e => by
              have := HUB.out v hv _ e
              have := HZ9.out
              omega) (fun g e => by
              have := HRB.out g e
              have := HZ9.out
              have := HS10.out
              omega))
          rw [HPN.out] at HTS
          have HZ12 := hid hsz12
          clear hs12 hw12 hsz12 HTK HS0
          go_wp2_with fail
          refine HTS.out.mono ?_
          rintro e w13 ⟨rfl, hs13, hsz13⟩
          have HS13 := hid hs13
          have hw13 := hs13.wr
          have HB13 : Hid (Below w.heap.size w w13) := hid (HB10.out.trans (hw13.below _ HB10.out.size (fun k e => by have e : k = bk := e; have := HZ9.out; omega)))
          have HD13 := hid (HD10.out.of_block (hw13.block D (by have := HZ9.out; have := HS10.out; omega) (fun e => by have e : D = bk := e; have := HZ9.out; omega)))
          have HZ13 : Hid (D < w13.heap.size ∧ bk < w13.heap.size ∧ w8.heap.size ≤ w13.heap.size) := hid (by
            have := HZ9.out
            have := HS10.out
            have := HZ12.out
            omega)
          have HSL := hid (HSP2.out w13 HZ13.out.1 HD13.out)
          clear hs13 hw13 hsz13 HTS
          go_wp2_with fail
          refine HSL.out.mono ?_
          rintro e w14 ⟨row2, vs2, rfl, hu2, hb14⟩
          obtain ⟨qa, qc, rfl⟩ := owns_shape hu2.own
          have HU14 := hid hu2
          have HS14 := hid (HS13.out.below hb14)
          have HB14 := hid (HB13.out.trans (hb14.mono HB13.out.size))
          have HD14 := hid (HD13.out.of_block (hb14.block D HZ13.out.1))
          have HTS2 := hid (HS14.out.takes (ra := qa) (rc := qc) (us := vs2) (qs := ps) (by have := HCN.out; have := HPN.out; simp; omega) HU14.out.own (HS14.out.bag.app ((Bag.ofPls HU14.out HSZ.out).low (by have := HZ9.out; have := HZ13.out; omega)) w13.heap.size (fun v hv g e => by
              obtain ⟨s, hs⟩ := HS13.out.bag.itm hv
              exact (hs.blk e).2.1) (fun v hv g e => by
              obtain ⟨g', cur, e2, h1, _, h2⟩ := HU14.out.pay hv
              rw [e] at e2
              cases e2
              omega)) (fun v hv e => by
              obtain ⟨g', cur, e2, h1, _, h2⟩ := HU14.out.pay hv
              rw [e] at e2
              cases e2
              have := HZ13.out
              omega) (fun g e => by
              have := (HU14.out.own.lt g e).1
              have := HZ13.out
              have := HS13.out.low
              omega))
          have HVB : Hid (∀ v ∈ ([.slice xa SN xc] ++ us) ++ vs2, ∀ g, v.ownBlock = some g → D < g) := hid (fun v hv g e => by
            have hz := HZ9.out
            have hz2 := HZ13.out
            rcases List.mem_append.1 hv with hv | hv
            · rcases List.mem_append.1 hv with hv | hv
              · obtain rfl := List.mem_singleton.1 hv
                have := HXB.out g e
                omega
              · have := HUB.out v hv g e
                omega
            · obtain ⟨g', cur, e2, h1, _, h2⟩ := HU14.out.pay hv
              rw [e] at e2
              cases e2
              omega)
          clear hu2 hb14 HSL
          go_wp2_with fail
          refine HTS2.out.mono ?_
          rintro e w15 ⟨rfl, hs15, hsz15⟩
          have HS15 := hid hs15
          have hw15 := hs15.wr
          have HB15 : Hid (Below w.heap.size w w15) := hid (HB10.out.trans (hw15.below _ HB10.out.size (fun k e => by have e : k = bk := e; have := HZ9.out; omega)))
          have HD15 := hid (HD10.out.of_block (hw15.block D (by have := HZ9.out; have := HS10.out; omega) (fun e => by have e : D = bk := e; have := HZ9.out; omega)))
          have HAL := hid (HS15.out.alone (by simp) (by have := HCN.out; have := HPN.out; simp; omega) (fun p hp => by
            have hxs := HXS.out
            have hsn := HSN.out
            simp only [List.mem_append, List.mem_singleton] at hp
            rcases hp with (hp | hp) | hp
            · rw [hp, hsn]; omega
            · have := HSZ.out p hp; omega
            · have := HSZ.out p hp; omega))
          have HZ15 : Hid (D < w15.heap.size) := hid (by have := HZ9.out; have := HS10.out; have := hw15.size; omega)
          clear hs15 hw15 hsz15 HTS2
          go_wp2_with fail
          refine HAL.out.mono ?_
          rintro e w16 ⟨rfl, hw16⟩
          have HB16 : Hid (Below w.heap.size w w16) := hid (HB15.out.trans (hw16.below _ HB15.out.size (fun k e => by
            have hz := HZ9.out
            rcases e with e | ⟨v, hv, e⟩
            · omega
            · have := HVB.out v hv k e
              omega)))
          have HD16 := hid (HD15.out.of_block (hw16.block D HZ15.out (by
            have hz := HZ9.out
            rintro (e | ⟨v, hv, e⟩)
            · omega
            · have := HVB.out v hv D e
              omega)))
          have HKP := hid (kept_bytes a1 D cap1 bs w16 (by rw [HL1.out]; omega) (by have := HZ15.out; have := hw16.size; omega) (hid (HX.out w16 HB16.out).2) (by rw [HL1.out]; exact HD16.out))
          rw [HL1.out] at HKP
          clear hw16 HAL
          go_wp2_with fail
          refine HKP.out.mono ?_
          rintro e w17 ⟨rfl, m17, rfl⟩
          go_wp2_with fail
          go_ret
          exact ⟨rfl, ⟨HB16.out.os, HB16.out.tape, HB16.out.output, HB16.out.size, HB16.out.block⟩⟩

end Go.Proofs.Ytbpajgkhajheaaa.FrmMl

namespace Go.Proofs.Ytbpajgkhajheaaa.frameMakes
open Go.ChangeShapes Go.WideShapes Go.ChangeAt Go.RowKit Go.Deep
open Go.ChangeMaps (open_string shut_string)
set_option linter.unusedVariables false

theorem own : ownKnob Try.prog.godebug = none := by kernel_rfl
theorem laidOut : laidOutB Try.prog = true := by kernel_rfl

set_option maxRecDepth 100000 in
theorem held (H : Type) (enc : TypeId × Value → H) (W : World) (base : Nat) (args : Array Value) (ds gs : List (DataW H)) (before : List MemPlace)
    (hval0 : ∀ (j : Nat) t v, Try.f3.params[j]? = some t → args[j]? = some v → Value.okWide Try.prog W .any base t v)
    (hW : DataW.Whole enc Try.prog Try.f3.params.toList Rows.frameMakesSpec.vars false W args.toList ds gs before) (hk : Rows.uptoSmall H (ds ++ gs) = true) :
    Calls Try.prog 3 args W fun e W' => ∃ v, e = .returned v ∧ Rows.frameMakesSpec.post enc Try.prog Try.f3 false true false false W args v W' := by
  have hval : ∀ (j : Nat) t v, Try.f3.params[j]? = some t → args[j]? = some v → Value.okWide Try.prog W .any base t v := hval0
  have hW' := hW
  obtain ⟨p, q, hA0, hV, rfl, hfz, hnd⟩ := hW
  have hA : DataW.TrodAll enc Try.prog W 0 (fun _ => true) true Try.f3.params.toList args.toList ds p := hA0
  rw [Try.params3] at hA hval
  obtain ⟨v0, vs0, d0, ds0, p0, q0, hargs, rfl, rfl, h0, r0⟩ := trodAll_cons hA
  obtain ⟨v1, vs1, d1, ds1, p1, q1, rfl, rfl, rfl, h1, r1⟩ := trodAll_cons r0
  obtain ⟨rfl, rfl, rfl⟩ := trodAll_nil r1
  obtain rfl : args = #[v0, v1] := by cases args; simp_all
  obtain ⟨rfl, rfl⟩ := trodVars_none hV
  have k0 := h0
  have lt0 : ∀ x ∈ p0, x.block < W.heap.size := by obtain ⟨m, hm⟩ := k0; exact DataW.trod_lt m _ _ _ hm
  have k1 := h1
  have lt1 : ∀ x ∈ p1, x.block < W.heap.size := by obtain ⟨m, hm⟩ := k1; exact DataW.trod_lt m _ _ _ hm
  clear hA0 hval0
  have hb : Rows.uptoBulkAll ([d0, d1] ++ ([] : List (DataW H))) ≤ 1048576 := of_decide_eq_true hk
  have hb0 : Rows.uptoBulk d0 ≤ 1048576 := Nat.le_trans (FrmZ.bulk_in (by simp)) hb
  have hb1 : Rows.uptoBulk d1 ≤ 1048576 := Nat.le_trans (FrmZ.bulk_in (by simp)) hb
  obtain ⟨a0, len0, cap0, rfl⟩ := okWide_slice Try.underlying22 (hval 0 22 v0 rfl rfl)
  obtain ⟨a1, len1, cap1, rfl⟩ := okWide_slice Try.underlying23 (hval 1 23 v1 rfl rfl)
  obtain ⟨ls, f, hl, hP, hlc, hcm, hsm, hln⟩ := FrmZ.pieces_bulk h0 hb0
  obtain ⟨s, rfl, hB, hc1, hc2⟩ := FrmMk.bytes_arg h1 hb1
  refine (FrmMl.makes_core a0 a1 len0 cap0 cap1 ls f s hl W hln hsm (by omega) hc1 hc2 (Base.hid hP) (Base.hid hB)).mono fun e W' ⟨he, bel⟩ => ?_

  subst he
  exact ⟨_, rfl, _, _, _, [], _, [], hW', trodAll_mk1 (shut_bool Try.underlying4 _), (trodAll_cons_mk (Below.trod laidOut (by kernel_rfl) (of_decide_eq_true (by kernel_rfl)) k0 bel lt0) (trodAll_cons_mk (Below.trod laidOut (by kernel_rfl) (of_decide_eq_true (by kernel_rfl)) k1 bel lt1) trodAll_mk0)), rfl, bel.frame _, fun h => by cases h⟩

set_option maxRecDepth 100000 in
theorem lifted (os : Os) (started : os.Started) (H : Type) (enc : TypeId × Value → H) (F : Stop.Interp) :
    ReturnsInHanded {} Try.checked os 3 .any ((Rows.OpenSpec.upto Rows.frameMakesSpec).pre6 enc Try.prog Try.f3 Rows.frameMakesUptoRow.domain false) (((Rows.OpenSpec.upto Rows.frameMakesSpec).at F).post enc Try.prog Try.f3 false true false false) := by
  refine returnsInHanded_of_cond (C := Try.checked) (s := Rows.OpenSpec.upto Rows.frameMakesSpec) (k := Rows.uptoSmall) rfl own started (by kernel_rfl) Try.func3
    (OpenSpec.witness (enc := enc) (C := Try.checked) (s := Rows.OpenSpec.upto Rows.frameMakesSpec) (k := Rows.uptoSmall) rfl false ⟨#[], #[.slice none 0 0, .slice none 0 0], []⟩ 8 (by kernel_rfl) (by kernel_rfl) (by kernel_rfl)
      (x := ([.nil, .nil], [], [])) (by kernel_rfl) rfl (by kernel_rfl)) ?_
  intro W base args ds gs before hval hW _ hk _
  exact held H enc W base args ds gs before hval hW hk

theorem over : Rows.frameMakesUptoRow.holds Try.pinned (Rows.OpenSpec.upto Rows.frameMakesSpec) :=
  OpenClaim.holds_of_cond 3 Try.f3 rfl rfl rfl rfl rfl rfl rfl ⟨rfl, rfl, rfl, rfl, rfl⟩ rfl rfl rfl rfl rfl (by kernel_rfl) Try.func3 (by kernel_rfl)
    (of_decide_eq_true (by kernel_rfl)) (by unfold Func.isWrapper; first | (rw [if_pos (by decide +kernel)]; kernel_rfl) | (rw [if_neg (by decide +kernel)]; exact ⟨rfl, rfl⟩))
    (fun os started H enc _ F => lifted os started H enc F)

theorem proved : Rows.FrameMakesUptoSaid := over
#print axioms proved
end Go.Proofs.Ytbpajgkhajheaaa.frameMakes
