/- FrameReads: a reader tells payloads as they become whole, and is broken by what is none, as the document's reader does; any pieces of bytes that hold together at most 1048576 values. -/
import Derived.Test.YtbpajgkhajheaaaFrmK4
import Derived.Test.YtbpajgkhajheaaaFrmF2
import Derived.Test.YtbpajgkhajheaaaAlbK
import Derived.Test.YtbpajgkhajheaaaFrmH
import Derived.Test.YtbpajgkhajheaaaFrmO
import Derived.Deep.DeepCutAuto
import Derived.Test.YtbpajgkhajheaaaRows
import Derived.WalkKit
import Derived.ProofKit
import Derived.OpenShut
import Derived.ShutString
import Derived.ChangeOld
import Derived.Below
import Derived.SizedLaws
import Derived.ChangeShapes
import Derived.JoinedCond
import Derived.Test.YtbpajgkhajheaaaOpn
import Derived.Test.YtbpajgkhajheaaaFrmZ

/- Both readers side by side: what each step leaves of them. -/
namespace Go.Proofs.Ytbpajgkhajheaaa.FrmTw
open Go.ChangeShapes Go.WideShapes Go.ChangeAt Go.RowKit Base Wri FrmP FrmA FrmD FrmE FrmR FrmU FrmW FrmX FrmM FrmC2 FrmJ FrmK FrmK4
set_option linter.unusedVariables false
set_option linter.unusedSimpArgs false

theorem drKeep {W W' : World} {p c : Nat} {a : Option Addr} {r : Rd} (h : IsDr W p a c r) (hs : W.heap.size ≤ W'.heap.size) (hp : W'.heap[p]? = W.heap[p]?) (hk : 0 < r.g.length → ∀ g o, a = some ⟨g, o, none⟩ → g < W.heap.size → W'.heap[g]? = W.heap[g]?) : IsDr W' p a c r :=
  ⟨hp.trans h.blk, fun h0 => by
    obtain ⟨g, q, e, hg, hc⟩ := h.bytes h0
    exact ⟨g, q, e, Nat.lt_of_lt_of_le hg hs, fun i x hx => (World.cell?_of_block (a := ⟨g, q + i, none⟩) (hk h0 g q e hg)).trans (hc i x hx)⟩, h.room⟩

/-- the program's reader at P and the document's at Q hold the same, apart -/
structure Two (w W : World) (P Q : Nat) (r : Rd) : Prop where
  both : ∃ va a c, IsRd W w.heap.size P va r ∧ IsDr W Q a c r ∧ (0 < r.g.length → ∀ g o, a = some ⟨g, o, none⟩ → va.ownBlock ≠ some g)
  low : w.heap.size ≤ P ∧ w.heap.size ≤ Q
  bel : Below w.heap.size w W
  ok : r.Ok

variable {w W W' : World} {P Q : Nat} {r : Rd}

theorem Two.below (h : Two w W P Q r) (hb : Below W.heap.size W W') : Two w W' P Q r := by
  obtain ⟨va, a, c, h1, h2, h3⟩ := h.both
  exact ⟨⟨va, a, c, h1.below hb, h2.below hb, h3⟩, h.low, h.bel.trans (hb.mono h.bel.size), h.ok⟩
theorem Two.drewN (h : Two w W P Q r) (m : Nat) : Two w (W.drewN m) P Q r := by
  obtain ⟨va, a, c, h1, h2, h3⟩ := h.both
  exact ⟨⟨va, a, c, h1.drewN m, h2.drewN m, h3⟩, h.low, ⟨h.bel.os, h.bel.tape, h.bel.output, h.bel.size, h.bel.block⟩, h.ok⟩
theorem Two.ne (h : Two w W P Q r) : P ≠ Q := by
  obtain ⟨va, a, c, h1, h2, h3⟩ := h.both
  exact ne_kind h1.blk h2.blk (by decide)

/-- what is written elsewhere leaves them -/
theorem Two.wr {R : Nat → Prop} (h : Two w W P Q r) (hw : Wr R W W') (hP : ¬ R P) (hQ : ¬ R Q) (hv : ∀ va a c, IsRd W w.heap.size P va r → IsDr W Q a c r → (∀ g, va.ownBlock = some g → ¬ R g) ∧ (0 < r.g.length → ∀ g o, a = some ⟨g, o, none⟩ → ¬ R g)) (hR : ∀ k, R k → w.heap.size ≤ k) : Two w W' P Q r := by
  obtain ⟨va, a, c, h1, h2, h3⟩ := h.both
  obtain ⟨k1, k2⟩ := hv va a c h1 h2
  refine ⟨⟨va, a, c, h1.keep (hw.block P h1.lt hP) (fun g e => hw.block g (h1.own.lt g e).2 (k1 g e)), drKeep h2 hw.size (hw.block Q h2.lt hQ) (fun h0 g o e hg => hw.block g hg (k2 h0 g o e)), h3⟩, h.low, h.bel.trans (hw.below _ h.bel.size hR), h.ok⟩

/-- a new reader each -/
theorem Two.anew (h : Two w W P Q r) : Two w (((W.setCell ⟨P, 0, none⟩ (.slice none 0 0)).setCell ⟨P, 1, none⟩ (.bool false)).alloc (.cells #[.slice none 0 0, .bool false] 86)) P ((W.setCell ⟨P, 0, none⟩ (.slice none 0 0)).setCell ⟨P, 1, none⟩ (.bool false)).heap.size Rd.zero := by
  obtain ⟨va, a, c, h1, h2, h3⟩ := h.both
  have hw : Wr (fun k => k = P) W ((W.setCell ⟨P, 0, none⟩ (.slice none 0 0)).setCell ⟨P, 1, none⟩ (.bool false)) := (Wr.set (R := fun k => k = P) ⟨P, 0, none⟩ (.slice none 0 0) rfl).trans (Wr.set ⟨P, 1, none⟩ (.bool false) rfl)
  have hb : Below w.heap.size w ((W.setCell ⟨P, 0, none⟩ (.slice none 0 0)).setCell ⟨P, 1, none⟩ (.bool false)) := h.bel.trans (hw.below _ h.bel.size (fun k e => by have e : k = P := e; have := h.low.1; omega))
  refine ⟨⟨.slice none 0 0, none, 0, ⟨?_, World.ownsRow_nil _ _ _ _⟩, new_dr _, fun h0 => absurd h0 (by decide)⟩, ⟨h.low.1, hb.size⟩, hb.alloc hb.size _, Rd.zero_ok⟩
  have hp : P < ((W.setCell ⟨P, 0, none⟩ (.slice none 0 0)).setCell ⟨P, 1, none⟩ (.bool false)).heap.size := by have := hw.size; have := h1.lt; omega
  exact (Below.heap_alloc _ _ P hp).trans (blk_set1 (blk_set0 h1.blk))

/-- both take the same bytes -/
theorem Two.puts {W5 W6 : World} {b : Bs} {row : Value} {vs vs' : List Value} {va va' : Value} {a a' : Option Addr} {c c' rc : Nat} {ra : Option Addr} (h : Two w W P Q r) (h1 : IsRd W w.heap.size P va r) (hpp : PutPost W w.heap.size P va (r.put b).2 (r.put b).1 W5 row vs va')
    (hd : IsDr W6 Q a' c' (r.put b).2) (ha : ∀ ad, a' = some ad → W5.heap.size ≤ ad.block ∨ (r.put b).2.g.length = 0) (hw : Wr (fun k => k = Q) W5 W6) : Two w W6 P Q (r.put b).2 ∧ Pls W6 w.heap.size row vs (r.put b).1 := by
  have hQ := h.low.2
  have hsz := h.bel.size
  have hblk5 : ∃ cs, W5.heap[Q]? = some (.cells cs 86 (0, 0)) := by
    obtain ⟨va0, a0, c0, k1, k2, k3⟩ := h.both
    have hnP : ¬ (Q = P ∨ va.ownBlock = some Q) := by
      rintro (e2 | e2)
      · exact ne_kind k1.blk k2.blk (by decide) e2.symm
      · obtain ⟨cur2, hh2⟩ := owns_kind h1.own e2
        exact ne_kind hh2 k2.blk (by decide) rfl
    exact ⟨_, (hpp.wr.block Q k2.lt hnP).trans k2.blk⟩
  obtain ⟨csQ, hbQ⟩ := hblk5
  have hQ5 : ∀ g, va'.ownBlock = some g → ¬ g = Q := fun g e => by
    obtain ⟨cur, hh⟩ := owns_kind hpp.rd.own e
    exact ne_kind hh hbQ (by decide)
  have hPQ : P ≠ Q := h.ne
  have hrd : IsRd W6 w.heap.size P va' (r.put b).2 := hpp.rd.keep (hw.block P hpp.rd.lt hPQ) (fun g e => hw.block g (hpp.rd.own.lt g e).2 (hQ5 g e))
  have hbel : Below w.heap.size w W6 := (h.bel.trans (hpp.wr.below _ hsz (fun k e => by
    rcases e with e | e
    · have e : k = P := e; have := h.low.1; omega
    · exact (h1.own.lt k e).1))).trans (hw.below _ (Nat.le_trans hsz hpp.wr.size) (fun k e => by have e : k = Q := e; omega))
  refine ⟨⟨⟨va', a', c', hrd, hd, fun h0 g o e e2 => ?_⟩, h.low, hbel, Rd.put_ok h.ok b⟩, ?_⟩
  · rcases ha _ e with h4 | h4
    · have := (hpp.rd.own.lt g e2).2
      have h4 : W5.heap.size ≤ g := h4
      omega
    · omega
  · refine hpp.pls.keep (fun g e => hw.block g (hpp.pls.own.lt g e).2 ?_) (fun v hv g e => ?_)
    · obtain ⟨cur, hh⟩ := owns_kind hpp.pls.own e
      exact ne_kind hh hbQ (by decide)
    · obtain ⟨g', cur, e2, _, hh, hlt⟩ := hpp.pls.pay hv
      rw [e] at e2
      cases e2
      exact hw.block g hlt (ne_kind hh hbQ (by decide))

end Go.Proofs.Ytbpajgkhajheaaa.FrmTw

/- Both readers, and the payloads that were told, side by side. -/
namespace Go.Proofs.Ytbpajgkhajheaaa.FrmTx
open Go.ChangeShapes Go.WideShapes Go.ChangeAt Go.RowKit Go.Deep Base AloA Wri FrmP FrmA FrmD FrmE FrmR FrmU FrmW FrmX FrmM FrmC2 FrmJ FrmK FrmK4 FrmTw AlbE AlbC AlbD AlbG AlbH AlbT AlbK
set_option linter.unusedVariables false
set_option linter.unusedSimpArgs false

structure Aft (w W : World) (P Q : Nat) (r : Rd) (row : Value) (vs : List Value) (ps : List Bs) (va : Value) (a : Option Addr) (c : Nat) : Prop where
  rd : IsRd W w.heap.size P va r
  dr : IsDr W Q a c r
  sep : 0 < r.g.length → ∀ g o, a = some ⟨g, o, none⟩ → va.ownBlock ≠ some g
  low : w.heap.size ≤ P ∧ w.heap.size ≤ Q
  bel : Below w.heap.size w W
  ok : r.Ok
  pls : Pls W w.heap.size row vs ps
  alone : ∀ v ∈ vs, v.ownBlock ≠ va.ownBlock
  off : 0 < r.g.length → ∀ g o, a = some ⟨g, o, none⟩ → ∀ v ∈ vs, v.ownBlock ≠ some g

theorem Aft.of {w W W5 W6 : World} {P Q : Nat} {r : Rd} {b : Bs} {row : Value} {vs : List Value} {va va' : Value} {a' : Option Addr} {c' : Nat} (h : Two w W P Q r) (h1 : IsRd W w.heap.size P va r) (hpp : PutPost W w.heap.size P va (r.put b).2 (r.put b).1 W5 row vs va')
    (hd : IsDr W6 Q a' c' (r.put b).2) (ha : ∀ ad, a' = some ad → W5.heap.size ≤ ad.block ∨ (r.put b).2.g.length = 0) (hw : Wr (fun k => k = Q) W5 W6) : Aft w W6 P Q (r.put b).2 row vs (r.put b).1 va' a' c' := by
  obtain ⟨hT, hpl⟩ := Two.puts (rc := 0) (ra := none) (a := none) (c := 0) (vs' := []) h h1 hpp hd ha hw
  obtain ⟨va2, a2, c2, k1, k2, k3⟩ := hT.both
  have e1 : va2 = va' := by
    have e := (hw.block P hpp.rd.lt h.ne).trans hpp.rd.blk
    rw [k1.blk] at e
    have := Option.some.inj e
    injection this with e2 _ _
    simpa using e2
  subst e1
  have e2 : a2 = a' := by
    have e := k2.blk
    rw [hd.blk] at e
    have := Option.some.inj e
    injection this with e2 _ _
    have e3 : Value.slice a' (r.put b).2.g.length c' = Value.slice a2 (r.put b).2.g.length c2 := by simpa using e2
    injection e3 with e4 _ _
    exact e4.symm
  subst e2
  refine ⟨k1, hd, k3, hT.low, hT.bel, hT.ok, hpl, hpp.alone, fun h0 g o e v hv e2 => ?_⟩
  rcases ha _ e with h4 | h4
  · obtain ⟨g', cur, e3, _, _, hlt⟩ := hpp.pls.pay hv
    rw [e3] at e2
    cases e2
    have h4 : W5.heap.size ≤ g := h4
    omega
  · omega

variable {w W W' : World} {P Q c : Nat} {r : Rd} {row va : Value} {vs : List Value} {ps : List Bs} {a : Option Addr}

theorem Aft.two (h : Aft w W P Q r row vs ps va a c) : Two w W P Q r := ⟨⟨va, a, c, h.rd, h.dr, h.sep⟩, h.low, h.bel, h.ok⟩

theorem Aft.wr {R : Nat → Prop} (h : Aft w W P Q r row vs ps va a c) (hw : Wr R W W') (hP : ¬ R P) (hQ : ¬ R Q) (h1 : ∀ g, va.ownBlock = some g → ¬ R g) (h2 : 0 < r.g.length → ∀ g o, a = some ⟨g, o, none⟩ → ¬ R g) (h3 : ∀ g, row.ownBlock = some g → ¬ R g) (h4 : ∀ v ∈ vs, ∀ g, v.ownBlock = some g → ¬ R g) (hR : ∀ k, R k → w.heap.size ≤ k) : Aft w W' P Q r row vs ps va a c :=
  ⟨h.rd.keep (hw.block P h.rd.lt hP) (fun g e => hw.block g (h.rd.own.lt g e).2 (h1 g e)), drKeep h.dr hw.size (hw.block Q h.dr.lt hQ) (fun h0 g o e hg => hw.block g hg (h2 h0 g o e)), h.sep, h.low, h.bel.trans (hw.below _ h.bel.size hR), h.ok,
   h.pls.keep (fun g e => hw.block g (h.pls.own.lt g e).2 (h3 g e)) (fun v hv g e => by
     obtain ⟨g', cur, e2, _, hh, hlt⟩ := h.pls.pay hv
     rw [e] at e2
     cases e2
     exact hw.block g hlt (h4 v hv g e)), h.alone, h.off⟩

theorem Aft.below (h : Aft w W P Q r row vs ps va a c) (hb : Below W.heap.size W W') : Aft w W' P Q r row vs ps va a c :=
  h.wr (R := fun _ => False) (Wr.ofBelow hb) id id (fun _ _ => id) (fun _ _ _ _ => id) (fun _ _ => id) (fun _ _ _ _ => id) (fun _ h => h.elim)
theorem Aft.drewN (h : Aft w W P Q r row vs ps va a c) (m : Nat) : Aft w (W.drewN m) P Q r row vs ps va a c :=
  h.wr (R := fun _ => False) ((Wr.refl _ _).drewN m) id id (fun _ _ => id) (fun _ _ _ _ => id) (fun _ _ => id) (fun _ _ _ _ => id) (fun _ h => h.elim)

/-- a block apart from both readers and from what was told -/
def Off (H P Q : Nat) (r : Rd) (row : Value) (vs : List Value) (va : Value) (a : Option Addr) : Prop :=
  H ≠ P ∧ H ≠ Q ∧ va.ownBlock ≠ some H ∧ (0 < r.g.length → ∀ g o, a = some ⟨g, o, none⟩ → g ≠ H) ∧ row.ownBlock ≠ some H ∧ ∀ v ∈ vs, v.ownBlock ≠ some H

theorem Aft.wr1 {H : Nat} (h : Aft w W P Q r row vs ps va a c) (ho : Off H P Q r row vs va a) (hw : Wr (fun k => k = H) W W') (hH : w.heap.size ≤ H) : Aft w W' P Q r row vs ps va a c :=
  h.wr hw (fun e => ho.1 e.symm) (fun e => ho.2.1 e.symm) (fun g e e2 => ho.2.2.1 (by rw [e, e2])) (fun h0 g o e e2 => ho.2.2.2.1 h0 g o e e2) (fun g e e2 => ho.2.2.2.2.1 (by rw [e, e2])) (fun v hv g e e2 => ho.2.2.2.2.2 v hv (by rw [e, e2])) (fun k e => by have e : k = H := e; omega)

/-- a new block -/
theorem Aft.off_new (h : Aft w W P Q r row vs ps va a c) {H : Nat} (hH : W.heap.size ≤ H) : Off H P Q r row vs va a := by
  have h1 := h.rd.lt
  have h2 := h.dr.lt
  refine ⟨by omega, by omega, fun e => by have := (h.rd.own.lt _ e).2; omega, fun h0 g o e => ?_, fun e => by have := (h.pls.own.lt _ e).2; omega, fun v hv e => ?_⟩
  · obtain ⟨g', o', e2, hg, _⟩ := h.dr.bytes h0
    rw [e] at e2
    cases e2
    omega
  · obtain ⟨g', cur, e2, _, hh, hlt⟩ := h.pls.pay hv
    rw [e] at e2
    cases e2
    omega

/-- the book has looked -/
theorem Aft.done {N b : Nat} {L : Nat → Value} (h : Aft w W P Q r row vs ps va a c) (ho : Off b P Q r row vs va a) (hb : w.heap.size ≤ b) (hL : ∀ i, i < N → L i ∈ vs) (hw : Wr (fun k => k = b ∨ Mine N L k) W W') : Two w W' P Q r := by
  have hm : ∀ k, Mine N L k → ∃ v, v ∈ vs ∧ v.ownBlock = some k := fun k ⟨i, hi, e⟩ => ⟨_, hL i hi, e⟩
  refine h.two.wr hw ?_ ?_ (fun va0 a0 c0 k1 k2 => ⟨fun g e e2 => ?_, fun h0 g o e e2 => ?_⟩) (fun k e => ?_)
  · rintro (e | e)
    · exact ho.1 e.symm
    · obtain ⟨v, hv, e⟩ := hm _ e
      obtain ⟨g', cur, e2, _, hh, hlt⟩ := h.pls.pay hv
      rw [e] at e2
      cases e2
      exact ne_kind hh h.rd.blk (by decide) rfl
  · rintro (e | e)
    · exact ho.2.1 e.symm
    · obtain ⟨v, hv, e⟩ := hm _ e
      obtain ⟨g', cur, e2, _, hh, hlt⟩ := h.pls.pay hv
      rw [e] at e2
      cases e2
      exact ne_kind hh h.dr.blk (by decide) rfl
  · have e1 : va0 = va := by
      have e := k1.blk
      rw [h.rd.blk] at e
      have := Option.some.inj e
      injection this with e2 _ _
      simpa using e2.symm
    subst e1
    rcases e2 with e2 | e2
    · exact ho.2.2.1 (by rw [e, e2])
    · obtain ⟨v, hv, e3⟩ := hm _ e2
      exact h.alone v hv (by rw [e3, e])
  · have e1 : a0 = a := by
      have e := k2.blk
      rw [h.dr.blk] at e
      have := Option.some.inj e
      injection this with e2 _ _
      have e3 : Value.slice a r.g.length c = Value.slice a0 r.g.length c0 := by simpa using e2
      injection e3 with e4 _ _
      exact e4.symm
    subst e1
    rcases e2 with e2 | e2
    · exact ho.2.2.2.1 h0 g o e e2
    · obtain ⟨v, hv, e3⟩ := hm _ e2
      exact h.off h0 g o e v hv e3
  · rcases e with e | e
    · omega
    · obtain ⟨v, hv, e⟩ := hm _ e
      obtain ⟨g', cur, e2, hb2, hh, hlt⟩ := h.pls.pay hv
      rw [e] at e2
      cases e2
      exact hb2

theorem put_few (r : Rd) (b : Bs) (h1 : b.length ≤ 1048576) (h2 : r.g.length ≤ 4398046511104) : (r.put b).1.length ≤ 1099511627776 := by
  cases hb : r.broken with
  | true => rw [Rd.put_broken hb]; exact Nat.zero_le _
  | false =>
    have hc := sp_count (r.g ++ b)
    rw [List.length_append] at hc
    cases h3 : bad (sp (r.g ++ b)).2 with
    | true => rw [Rd.put_bad hb h3]; dsimp only; omega
    | false => rw [Rd.put_good hb h3]; dsimp only; omega

theorem book_at {W : World} {b : Nat} (hnp : W.heap[b]? = some (.cells #[.slice none 0 0, .slice none 0 0, .slice none 0 0, .slice none 0 0, .slice none 0 0, .slice none 0 0, .slice none 0 0, .slice none 0 0] 44 (0, 0))) : ∀ j, j < 8 → W.cell? ⟨b, j, none⟩ = some (.slice none 0 0) ∧ W.frozen? ⟨b, j, none⟩ = false := by
  intro j hj
  have : j = 0 ∨ j = 1 ∨ j = 2 ∨ j = 3 ∨ j = 4 ∨ j = 5 ∨ j = 6 ∨ j = 7 := by omega
  rcases this with rfl | rfl | rfl | rfl | rfl | rfl | rfl | rfl <;> exact ⟨by simp [World.cell?, hnp], by simp [World.frozen?, hnp]⟩
theorem book_cells (w : World) : ∀ j, j < 8 → (w.alloc (.cells #[.slice none 0 0, .slice none 0 0, .slice none 0 0, .slice none 0 0, .slice none 0 0, .slice none 0 0, .slice none 0 0, .slice none 0 0] 44)).cell? ⟨w.heap.size, j, none⟩ = some (.slice none 0 0) ∧ (w.alloc (.cells #[.slice none 0 0, .slice none 0 0, .slice none 0 0, .slice none 0 0, .slice none 0 0, .slice none 0 0, .slice none 0 0, .slice none 0 0] 44)).frozen? ⟨w.heap.size, j, none⟩ = false := by
  exact book_at (heap_alloc_new w _)

set_option maxRecDepth 20000 in
set_option maxHeartbeats 400000 in
theorem takes_none (b rc : Nat) (ra : Option Addr) (w : World) : Calls Try.prog 21 #[.pointer (some ⟨b, 0, none⟩), .slice ra 0 rc] w fun e w' => e = .returned (.tuple #[]) ∧ w' = w := by
  go_enter Try.func21, Try.ntmps21
  go_wp2_with fail
  go_loopw [4] (fun i wr => i = .int .i64 0 ∧ wr = w) (fun _ _ => 0)
  case atStart => exact ⟨rfl, rfl⟩
  case round =>
    obtain ⟨rfl, rfl⟩ := hrel
    go_wp2_with fail
    go_end0
    exact ⟨rfl, rfl⟩

/-- what the book holds when it took what was told -/
def Took (W : World) (B b m : Nat) (vs : List Value) (W' : World) : Prop := m = 0 ∧ W' = W ∨ 0 < m ∧ Bk W B b m none vs W'

theorem isL_of {W : World} {B : Nat} {row : Value} {vs : List Value} {ps : List Bs} (h : Pls W B row vs ps) : ∀ v ∈ vs, IsL v := fun v hv => by
  obtain ⟨i, hi⟩ := List.mem_iff_getElem?.1 hv
  have hl := (List.getElem?_eq_some_iff.1 hi).1
  rw [h.len] at hl
  obtain ⟨g, o, cap, cur, rfl, _⟩ := h.each i v _ hi (List.getElem?_eq_getElem hl)
  exact ⟨_, _, _, rfl⟩

theorem took_any {W : World} {B b rc : Nat} {ra : Option Addr} {vs : List Value} {ps : List Bs} (h : Pls W B (.slice ra ps.length rc) vs ps) (hB : B ≤ W.heap.size) (hb : b < W.heap.size) (hm : ps.length ≤ 1099511627776) (hc : ∀ j, j < 8 → W.cell? ⟨b, j, none⟩ = some (.slice none 0 0) ∧ W.frozen? ⟨b, j, none⟩ = false) (hn : (Value.slice ra ps.length rc).ownBlock ≠ some b) :
    Calls Try.prog 21 #[.pointer (some ⟨b, 0, none⟩), .slice ra ps.length rc] W fun e w' => e = .returned (.tuple #[]) ∧ Took W B b ps.length vs w' := by
  rcases Nat.eq_zero_or_pos ps.length with h0 | h0
  · rw [h0]
    exact (takes_none b rc ra W).mono (fun e w' ⟨h1, h2⟩ => ⟨h1, .inl ⟨rfl, h2⟩⟩)
  · refine (takes_core b B 0 ps.length rc none ra 0 [] vs W hB hb (by omega) (hc 0 (by omega)).1 (hc 0 (by omega)).2 (World.ownsRow_nil _ _ _ _) (fun g e => by cases e) h.len (hid (isL_of h)) (hid (fun _ => ?_))).mono (fun e w' ⟨h1, h2⟩ => ⟨h1, .inr ⟨h0, by rw [Nat.zero_add] at h2; exact h2⟩⟩)
    obtain ⟨g, c, e, hb2, hg, hcl⟩ := owns_at h.own h0
    injection e with e1 _ _
    subst e1
    refine ⟨g, 0, rfl, hg, fun e2 => hn (by rw [← e2]; rfl), (fun e2 => by cases e2), fun i v hv => ?_⟩
    rw [Nat.zero_add]
    have := (List.getElem?_eq_some_iff.1 hv).1
    exact hcl i v (by rw [← h.len]; exact this) hv

theorem took_alone {w W w' : World} {P Q c b : Nat} {r : Rd} {row va : Value} {vs : List Value} {ps : List Bs} {a : Option Addr} (h : Aft w W P Q r row vs ps va a c) (ho : Off b P Q r row vs va a) (ht : Took W w.heap.size b ps.length vs w') (hb : b < W.heap.size) (hB : w.heap.size ≤ b) (hc : ∀ j, j < 8 → W.cell? ⟨b, j, none⟩ = some (.slice none 0 0) ∧ W.frozen? ⟨b, j, none⟩ = false)
    (hm : ps.length ≤ 1099511627776) (hs : ∀ p ∈ ps, 1 ≤ p.length ∧ p.length ≤ 4096) :
    Calls Try.prog 22 #[.pointer (some ⟨b, 0, none⟩)] w' fun e w2 => e = .returned (.bool true) ∧ Two w w2 P Q r := by
  rcases ht with ⟨h0, rfl⟩ | ⟨h0, hbk⟩
  · refine (alone_none b w' (fun j hj => (hc j hj).2) (fun j hj => (hc j hj).1)).mono ?_
    rintro e w2 ⟨rfl, hw⟩
    exact ⟨rfl, h.done (N := 0) (L := fun _ => .slice none 0 0) ho hB (fun i hi => absurd hi (Nat.not_lt_zero _)) (hw.mono (fun k e => .inl e))⟩
  · have hA := h.wr1 ho (hbk.wr.mono (fun k e => e.elim id (fun e => by cases e))) hB
    have hlen := h.pls.len
    obtain ⟨bb, bc, HL⟩ := lists_of (ps := ps) hbk h0 hm hlen rfl hB (Nat.lt_of_lt_of_le hb hbk.wr.size) (fun i v p h1 h2 => ⟨hA.pls.each i v p h1 h2, by have := hs p (List.mem_of_getElem? h2); omega⟩) (fun i j v v' h1 h2 h3 => hA.pls.apart i j v v' h1 h2 h3) (fun v hv => ho.2.2.2.2.2 v hv)
    obtain ⟨_, _, _, hf0, _, _⟩ := hbk.row
    refine (alone_some b w.heap.size bb ps.length bc _ _ w' (hid HL) (fun j hj => ?_) (fun j hj h1 => ?_)).mono ?_
    · by_cases e : j = 0
      · subst e; exact hf0
      · exact (hbk.rest j e).2.trans (hc j hj).2
    · exact (hbk.rest j h1).1.trans (hc j hj).1
    · rintro e w2 ⟨rfl, hw⟩
      refine ⟨rfl, hA.done ho hB (fun i hi => ?_) hw⟩
      have hv : vs[i]? = some (vs[i]'(by omega)) := List.getElem?_eq_getElem _
      rw [show vs.getD i (.slice none 0 0) = vs[i]'(by omega) from by simp [List.getD, hv]]
      exact List.getElem_mem _

end Go.Proofs.Ytbpajgkhajheaaa.FrmTx

/- FrameReads: its walk. -/
namespace Go.Proofs.Ytbpajgkhajheaaa.FrmRd
open Go.ChangeShapes Go.WideShapes Go.ChangeAt Go.RowKit Go.Deep Base Wri FrmP FrmA FrmD FrmE FrmR FrmU FrmW FrmX FrmL FrmZ FrmM FrmO FrmC2 FrmJ FrmK FrmK2 FrmK3 FrmK4 FrmF2 FrmH FrmTw FrmTx Vrw AlbE AlbK AlbT
set_option linter.unusedVariables false
set_option linter.unusedSimpArgs false

set_option maxRecDepth 100000 in
set_option maxHeartbeats 10000000 in
theorem reads_core (a0 : Option Addr) (len0 cap0 : Nat) (ls : List Bs) (f : Nat → Option Addr × Nat) (hl : ls.length = len0) (w : World) (hn : len0 ≤ 1048576) (hs : sumL ls ≤ 1048576) (HP : Hid (PAt w w.heap.size a0 ls f)) :
    Calls Try.prog 4 #[.slice a0 len0 cap0] w fun e w' => e = .returned (.bool true) ∧ Below w.heap.size w w' := by
  have HL := hid hl
  clear hl
  have H0 := hid (live_any w)
  go_enter Try.func4, Try.ntmps4
  go_wp2_with fail
  refine H0.out.mono ?_
  rintro e w1 ⟨rfl, hb1⟩
  have HB1 := hid hb1
  clear hb1 H0
  go_wp2_with fail
  refine (New_any w1).mono ?_
  rintro e w2 ⟨rfl, hw2⟩
  go_wp2_with fail
  refine (rnew_any w2).mono ?_
  rintro e w3 ⟨rfl, hw3⟩
  have hT3 : Two w w3 w1.heap.size w2.heap.size Rd.zero := by
    have hb2 : Below w.heap.size w w2 := by rw [← hw2]; exact HB1.out.alloc HB1.out.size _
    have h2 : IsRd w2 w.heap.size w1.heap.size (.slice none 0 0) Rd.zero := by rw [← hw2]; exact new_rd _ _
    rw [← hw3]
    exact ⟨⟨.slice none 0 0, none, 0, h2.below ((Below.refl _ _).alloc (Nat.le_refl _) _), new_dr _, fun h0 => absurd h0 (by decide)⟩, ⟨HB1.out.size, hb2.size⟩, hb2.alloc hb2.size _, Rd.zero_ok⟩
  have HT3 := hid hT3
  clear hw2 hw3 hT3
  generalize w1.heap.size = P at *
  generalize w2.heap.size = Q0 at *
  go_wp2_with fail
  go_loopw [4, 5] (fun qv i wr => ∃ (k Q : Nat) (r : Rd), k ≤ len0 ∧ qv = .pointer (some ⟨Q, 0, none⟩) ∧ i = .int .i64 k ∧ Two w wr P Q r) (fun _ i _ => len0 - (intOf i).toNat)
  case atStart => exact ⟨0, Q0, Rd.zero, Nat.zero_le _, rfl, rfl, HT3.out⟩
  case round =>
    obtain ⟨k, Q, r, hk, rfl, rfl, hT⟩ := hrel
    have HT := hid hT
    clear hT
    by_cases hlt : k < len0
    · obtain ⟨g, o, rfl, hg, hc⟩ := HP.out (by rw [HL.out]; omega)
      obtain ⟨q, hq⟩ : ∃ q, ls[k]? = some q := ⟨ls[k]'(by rw [HL.out]; exact hlt), List.getElem?_eq_getElem _⟩
      obtain ⟨h1, h2, h3, h4⟩ := hc k q hq
      have hql := sumL_in hq
      have x0 : wr.cell? ⟨g, o + k, none⟩ = some (.slice (f k).1 q.length (f k).2) := (HT.out.bel.cell (p := ⟨g, o + k, none⟩) hg).trans h1
      obtain ⟨L, hL⟩ : ∃ L, q.length = L := ⟨_, rfl⟩
      have HQL := hid hL
      have HX := hid (fun (wx : World) (hb : Below w.heap.size w wx) => show wx.cell? ⟨g, o + k, none⟩ = some (.slice (f k).1 L (f k).2) ∧ BAt wx w.heap.size (f k).1 q from ⟨(hb.cell (p := ⟨g, o + k, none⟩) hg).trans (by rw [← hL]; exact h1), h2.below hb⟩)
      rw [hL] at x0 h3 hql
      clear hc hq h1 h2 hL
      generalize (f k).1 = fa at *
      generalize (f k).2 = fc at *
      go_upto_region 8 with fail
      go_cut [35] from 19 to 135 (fun s wx => ∃ B : Bool, s = .bool B ∧ wx = wr)
      case first =>
        by_cases hz : L = 0
        · subst hz
          go_wp2_with fail
          all_goals go_meet
          all_goals exact ⟨_, rfl, rfl⟩
        · go_wp2_with fail
          all_goals go_meet
          all_goals exact ⟨_, rfl, rfl⟩
      case rest =>
       obtain ⟨B, rfl, rfl⟩ := hcut
       go_upto_if 35 with fail
       go_cut [4] from 19 to 135 (fun qv wx => ∃ Q' r', qv = .pointer (some ⟨Q', 0, none⟩) ∧ Two w wx P Q' r')
       case first =>
        obtain ⟨va, a, c, hrd, hdr, _⟩ := HT.out.both
        obtain ⟨ra, rc, rfl, _, _⟩ := hrd.slice
        have HRS := hid (reset_any P (.slice ra r.g.length rc) (.bool r.broken) ra r.g.length rc _ rfl hrd.blk r.broken rfl)
        clear hrd hdr
        cases B with
        | true =>
          go_wp2_with (first
              | (go_at_call 25
                 refine HRS.out.mono ?_
                 rintro e w4 ⟨rfl, rfl⟩)
              | (go_at_call 24
                 refine (rnew_any _).mono ?_
                 rintro e w5 ⟨rfl, rfl⟩))
          all_goals go_meet
          all_goals exact ⟨_, Rd.zero, rfl, by simpa using HT.out.anew⟩
        | false =>
          go_wp2_with fail
          all_goals go_meet
          all_goals exact ⟨Q, r, rfl, HT.out⟩
       case rest =>
        obtain ⟨Q1, r1, rfl, hT1⟩ := hcut
        have HT1 := hid hT1
        clear hT1 HT x0 HP HT3
        obtain ⟨va, a, c, hrd, hdr, hap⟩ := HT1.out.both
        have hleft := HT1.out.ok.left
        have HF := hid (fork_any w.heap.size P va r1 wc hrd hleft)
        have HRD := hid hrd
        have HDR := hid hdr
        have HAP := hid hap
        clear hrd hdr hap
        go_wp2_with fail
        refine HF.out.mono ?_
        rintro e w4 ⟨F1, vf, rfl, hf1, hf1low, hb4⟩
        have HF2 := hid (rfork_any Q1 c a r1 w4 (HDR.out.below hb4) (by omega))
        have H4 := hid (And.intro hf1 (And.intro hf1low hb4))
        clear hf1 hf1low hb4 HF
        go_wp2_with fail
        refine HF2.out.mono ?_
        rintro e w5 ⟨F2, af, cf, rfl, hf2, hf2n, hf2low, hb5⟩
        have hb5' : Below wc.heap.size wc w5 := H4.out.2.2.trans (hb5.mono H4.out.2.2.size)
        have HT5 := hid (HT1.out.below hb5')
        have x5 := (HX.out w5 HT5.out.bel).1
        have HH := hid (hand_bytes fa fc q w5 (by rw [HQL.out]; omega) (hid ((HX.out w5 HT5.out.bel).2.mono HT5.out.bel.size)))
        rw [HQL.out] at HH
        have H5 := hid (And.intro hf2 (And.intro hf2n (And.intro hf2low (And.intro hb5 hb5'))))
        clear hf2 hf2n hf2low hb5 hb5' HF2
        go_wp2_with fail
        refine HH.out.mono ?_
        rintro e w6 ⟨rfl, hrow6, hb6, hlt6⟩
        have HT6 := hid (HT5.out.below hb6)
        have hbc6 : Below wc.heap.size wc w6 := H5.out.2.2.2.2.trans (hb6.mono H5.out.2.2.2.2.size)
        have hatH : BAt w6 w6.heap.size (some ⟨w5.heap.size, 0, none⟩) q := vrow_bat hrow6 (by rw [HQL.out]; omega) hlt6
        have hs5 := H5.out.2.2.2.2.size
        have hPlt := HRD.out.lt
        have HPU := hid (put_any w.heap.size P va r1 (some ⟨w5.heap.size, 0, none⟩) (L + 9) q w6 (HRD.out.below hbc6) HT1.out.ok HT6.out.bel.size (by rw [HQL.out]; omega) (by rw [HQL.out]; omega) (by omega) (hid hatH) (fun h0 x e => by
          cases e
          rintro (e2 | e2)
          · have e2 : w5.heap.size = P := e2; omega
          · have := (HRD.out.own.lt _ e2).2
            have this : w5.heap.size < wc.heap.size := this
            omega))
        rw [HQL.out] at HPU
        have H6 := hid (And.intro hrow6 (And.intro hb6 (And.intro hlt6 (And.intro hbc6 hatH))))
        clear hrow6 hb6 hlt6 hbc6 hatH HH
        go_wp2_with fail
        refine HPU.out.mono ?_
        rintro e w7 ⟨row, vs, va', rfl, hpp⟩
        have hw67 := hpp.wr
        have hdr7 : IsDr w7 Q1 a c r1 := by
          have hdr6 := HDR.out.below H6.out.2.2.2.1
          have hrd6 := HRD.out.below H6.out.2.2.2.1
          refine drKeep hdr6 hw67.size (hw67.block Q1 hdr6.lt ?_) (fun h0 g1 o1 e hg1 => hw67.block g1 hg1 ?_)
          · rintro (e2 | e2)
            · exact HT1.out.ne e2.symm
            · obtain ⟨cur, hh⟩ := owns_kind hrd6.own e2
              exact ne_kind hh hdr6.blk (by decide) rfl
          · rintro (e2 | e2)
            · have e2 : g1 = P := e2
              subst e2
              obtain ⟨ua, uc, hva, _, _⟩ := hrd6.slice
              have hbk := hrd6.blk
              rw [hva] at hbk
              exact bat_ne hdr6.bytes hbk h0 _ e rfl
            · exact HAP.out h0 g1 o1 e e2
        have hT7 : Below w.heap.size w w7 := HT6.out.bel.trans (hw67.below _ HT6.out.bel.size (fun k2 e => by
          rcases e with e | e
          · have e : k2 = P := e
            have := HT1.out.low.1; omega
          · exact (HRD.out.own.lt _ e).1))
        have x7 := (HX.out w7 hT7).1
        have HPR := hid (rput_any Q1 c fc a fa r1 q w7 hdr7 (hid ((HX.out w7 hT7).2.mono hT7.size)) (by rw [HQL.out]; omega) HT1.out.ok)
        rw [HQL.out] at HPR
        have HPP := hid hpp
        clear hpp hdr7 hT7 hw67 HPU
        obtain ⟨ra, rc, rfl⟩ := owns_shape HPP.out.pls.own
        go_wp2_with fail
        refine HPR.out.mono ?_
        rintro e w8 ⟨rb, rd, ws, a', c', rfl, hown8, hcut8, hdr8, hlow8, hw8⟩
        have HA8 := hid (Aft.of HT6.out (HRD.out.below H6.out.2.2.2.1) HPP.out hdr8 (fun ad e => (hlow8 ad e).symm) hw8)
        have hq1 := HDR.out.lt
        have h65 := H6.out.2.2.1
        have h76 := HPP.out.wr.size
        have HOF : Hid (Off w5.heap.size P Q1 (r1.put q).2 (.slice ra (r1.put q).1.length rc) vs va' a') := hid (by
          refine ⟨by omega, by omega, fun e => ?_, fun h0 g o e => ?_, fun e => ?_, fun v hv e => ?_⟩
          · rcases HPP.out.vlow _ e with e2 | e2
            · have := (HRD.out.own.lt _ e2).2; omega
            · omega
          · rcases hlow8 _ e with e2 | e2
            · omega
            · have e2 : w7.heap.size ≤ g := e2
              omega
          · have := HPP.out.rlow _ e; omega
          · rcases HPP.out.plow v hv _ e with e2 | e2
            · have := (HRD.out.own.lt _ e2).2; omega
            · omega)
        have HRW : Hid (VRow w8 w5.heap.size (L + 9) (markB q)) := hid ((H6.out.1.of_block (HPP.out.wr.block _ h65 (by
          rintro (e | e)
          · have e : w5.heap.size = P := e; omega
          · have := (HRD.out.own.lt _ e).2; omega))).of_block (hw8.block _ (by omega) (fun e => by have e : w5.heap.size = Q1 := e; omega)))
        have hf1c := H4.out.1.cells
        have hf1lt := H4.out.1.lt
        have hf1n : ∀ g, va.ownBlock = some g → g < wc.heap.size := fun g e => (HRD.out.own.lt _ e).2
        obtain ⟨sa, sc, hvf, -, -⟩ := H4.out.1.slice
        have hs54 := H5.out.2.2.2.1.size
        have keep8 : ∀ g, wc.heap.size ≤ g → g < w5.heap.size → w8.heap[g]? = w5.heap[g]? := fun g h1 h2 => by
          have k1 := H6.out.2.1.block g h2
          have k2 := HPP.out.wr.block g (by omega) (by
            rintro (e | e)
            · have e : g = P := e; omega
            · have := hf1n g e; omega)
          have k3 := hw8.block g (by omega) (fun e => by have e : g = Q1 := e; omega)
          rw [k3, k2, k1]
        have hs5c := H4.out.2.2.size
        have hF1 : w8.heap[F1]? = some (.cells #[.slice sa r1.g.length sc, .bool r1.broken] 84 (0, 0)) := by
          rw [keep8 F1 (by have := H4.out.2.1; omega) (by omega), H5.out.2.2.2.1.block F1 hf1lt, H4.out.1.blk, hvf]
        have hF2 : w8.heap[F2]? = some (.cells #[.slice af r1.g.length cf, .bool r1.broken] 86 (0, 0)) := by
          rw [keep8 F2 (by have := H5.out.2.2.1; omega) H5.out.1.lt, H5.out.1.blk]
        have HSZ := hid (put_sizes r1 q)
        have HCN : Hid ((r1.put q).1.length ≤ 1099511627776) := hid (put_few r1 q (by rw [HQL.out]; omega) (by omega))
        obtain ⟨o1, o2, ho1, hpq⟩ := Out.pat (Out.ofPls HA8.out.pls) (fun p hp => (HSZ.out p hp).2)
        injection ho1 with ho1 hx1 hx2
        subst ho1
        subst hx2
        clear hx1
        have HSP := hid (same_pays ra rb rc rd (r1.put q).1 _ _ w8 (by have := HCN.out; omega) (hid hpq) (hid (cuts_pat hown8 hcut8 (fun p hp => (HSZ.out p hp).2))))
        have hpn := HA8.out.rd.cells
        obtain ⟨pa, pc, hpv, -, -⟩ := HA8.out.rd.slice
        rw [hpv] at hpn
        have hqn := hdr8.cells
        have hok8 := HA8.out.ok
        have hleft8 := hok8.left
        have HMI : Hid (∀ m, Calls Try.prog 32 #[.pointer (some ⟨P, 0, none⟩)] (w8.drewN m) fun e w' => e = .returned (.int .i64 ((r1.put q).2.missing : Nat)) ∧ ∃ m', w8.drewN m' = w') := hid (fun m => (missing_any w.heap.size P va' (r1.put q).2 (w8.drewN m) (HA8.out.rd.drewN m) hok8).mono fun e w' ⟨h5, m5, h6⟩ => ⟨h5, m + m5, by rw [← h6, World.drewN_drewN]⟩)
        have HMR : Hid (∀ m, Calls Try.prog 33 #[.pointer (some ⟨Q1, 0, none⟩)] (w8.drewN m) fun e w' => e = .returned (.int .i64 ((r1.put q).2.missing : Nat)) ∧ ∃ m', w8.drewN m' = w') := hid (fun m => (rmissing_any Q1 c' a' (r1.put q).2 (w8.drewN m) (hdr8.drewN m) hok8).mono fun e w' ⟨h5, m5, h6⟩ => ⟨h5, m + m5, by rw [← h6, World.drewN_drewN]⟩)
        have HLP := hid (fun m => left_any P (r1.put q).2.g.length pc pa (w8.drewN m) (by omega) hpn.1)
        have HLQ := hid (fun m => rleft_any Q1 (r1.put q).2.g.length c' a' (w8.drewN m) (by omega) hqn.1)
        have HBP := hid (fun m => broken_any P (r1.put q).2.broken (w8.drewN m) hpn.2.1)
        have HBQ := hid (fun m => rbroken_any Q1 (r1.put q).2.broken (w8.drewN m) hqn.2.1)
        have HLF := hid (fun m => left_any F1 r1.g.length sc sa (w8.drewN m) (by omega) (show (w8.drewN m).cell? ⟨F1, 0, none⟩ = _ from by simp [World.cell?, hF1]))
        have HLG := hid (fun m => rleft_any F2 r1.g.length cf af (w8.drewN m) (by omega) (show (w8.drewN m).cell? ⟨F2, 0, none⟩ = _ from by simp [World.cell?, hF2]))
        have HBF := hid (fun m => broken_any F1 r1.broken (w8.drewN m) (show (w8.drewN m).cell? ⟨F1, 1, none⟩ = _ from by simp [World.cell?, hF1]))
        have HBG := hid (fun m => rbroken_any F2 r1.broken (w8.drewN m) (show (w8.drewN m).cell? ⟨F2, 1, none⟩ = _ from by simp [World.cell?, hF2]))
        have hbel8 := HA8.out.bel
        have HKP : Hid (∀ m, Calls Try.prog 17 #[.slice (some ⟨w5.heap.size, 0, none⟩) L (L + 9), .slice fa L fc] (w8.drewN m) fun e w' => e = .returned (.bool true) ∧ ∃ m', w8.drewN m' = w') := hid (fun m => by
          have := kept_bytes fa w5.heap.size fc q (w8.drewN m) (by rw [HQL.out]; omega) (show w5.heap.size < w8.heap.size by have := hw8.size; omega) (hid (show BAt w8 w8.heap.size fa q from (HX.out w8 hbel8).2.mono hbel8.size)) (by rw [HQL.out]; exact HRW.out)
          rw [HQL.out] at this
          exact this.mono fun e w' ⟨h5, m5, h6⟩ => ⟨h5, m + m5, by rw [← h6, World.drewN_drewN]⟩)
        have HXP := hid (fun m => show (w8.drewN m).cell? ⟨g, o + k, none⟩ = some (.slice fa L fc) from (HX.out w8 hbel8).1)
        have HLW : Hid (w.heap.size ≤ w5.heap.size ∧ w5.heap.size < w8.heap.size) := hid ⟨HT5.out.bel.size, by have := hw8.size; omega⟩
        have hEr : (if (r1.put q).2.broken = true then (50 : Int) else 0) = (r1.put q).2.err := rfl
        rw [hEr]
        clear hEr hown8 hcut8 hdr8 hlow8 hw8 hq1 h65 h76 hf1c hf1lt hf1n hvf hs54 keep8 hs5c hF1 hF2 hpq hpn hpv hqn hok8 hleft8 hbel8 HPP HPR
        generalize (r1.put q).1 = ps at *
        generalize (r1.put q).2 = r2 at *
        generalize w5.heap.size = HB0 at *
        go_wp2_with (first
          | (go_at_call 16
             refine HSP.out.mono ?_
             rintro e w9 ⟨rfl, m9, rfl⟩
             have y9 := HXP.out m9)
          | (go_at_call 30
             first | with_reducible refine (HLP.out _).mono ?_ | with_reducible refine (HLF.out _).mono ?_
             rintro e w9 ⟨rfl, rfl⟩)
          | (go_at_call 31
             first | with_reducible refine (HLQ.out _).mono ?_ | with_reducible refine (HLG.out _).mono ?_
             rintro e w9 ⟨rfl, rfl⟩)
          | (go_at_call 32
             refine (HMI.out _).mono ?_
             rintro e w9 ⟨rfl, m10, rfl⟩
             have y10 := HXP.out m10)
          | (go_at_call 33
             refine (HMR.out _).mono ?_
             rintro e w9 ⟨rfl, m11, rfl⟩
             have y11 := HXP.out m11)
          | (go_at_call 34
             first | with_reducible refine (HBP.out _).mono ?_ | with_reducible refine (HBF.out _).mono ?_
             rintro e w9 ⟨rfl, rfl⟩)
          | (go_at_call 35
             first | with_reducible refine (HBQ.out _).mono ?_ | with_reducible refine (HBG.out _).mono ?_
             rintro e w9 ⟨rfl, rfl⟩)
          | (go_at_call 17
             refine (HKP.out _).mono ?_
             rintro e w9 ⟨rfl, m12, rfl⟩))
        have HA9 := hid (HA8.out.drewN m12)
        have HR9 : Hid (VRow (w8.drewN m12) HB0 (L + 9) (markB q)) := hid HRW.out
        have HL9 : Hid (w.heap.size ≤ HB0 ∧ HB0 < (w8.drewN m12).heap.size) := hid HLW.out
        clear HXP HKP HBG HBF HBQ HBP HLG HLF HLQ HLP HMR HMI HSP HRW HLW HA8 y9 y10 y11 H4 H5 H6 HT5 HT6 HX x5 x7
        generalize w8.drewN m12 = w9 at *
        go_loopw [13] (fun i wx => ∃ j : Nat, j ≤ L ∧ i = .int .i64 j ∧ Wr (fun k => k = HB0) w9 wx ∧ ∃ fv, VRow wx HB0 (L + 9) fv ∧ ∀ y, j ≤ y → y < L → fv y = markB q y) (fun i _ => L - (intOf i).toNat)
        case atStart => exact ⟨0, Nat.zero_le _, rfl, Wr.refl _ _, _, HR9.out, fun _ _ _ => rfl⟩
        case round =>
          obtain ⟨j, hj, rfl, hwj, fv, hvr, hfv⟩ := hrel
          have HWJ := hid hwj
          have HVR := hid hvr
          have HFV := hid hfv
          clear hwj hvr hfv
          by_cases hjl : j < L
          · obtain ⟨x, hx⟩ : ∃ x, q[j]? = some x := ⟨q[j]'(by rw [HQL.out]; exact hjl), List.getElem?_eq_getElem _⟩
            obtain ⟨z0, zf⟩ := HVR.out j (by omega)
            rw [HFV.out j (Nat.le_refl _) hjl, markB_in hx] at z0
            unfold bv at z0
            have hx256 : (x.toNat : Int) < 256 := by have := UInt8.toNat_lt x; omega
            have hx0 : 0 ≤ (x.toNat : Int) := by omega
            clear hx
            generalize (x.toNat : Int) = y at *
            go_wp2_with fail
            go_roundw
            case rel => exact ⟨j + 1, by omega, by go_num, HWJ.out.trans (Wr.set _ _ rfl), _, HVR.out.set j (by omega) _, fun y h1 h2 => by rw [if_neg (by omega)]; exact HFV.out y (by omega) h2⟩
            case measure => simp [intOf]; omega
          · obtain rfl : j = L := by omega
            go_wp2_with fail
            have HA10 := hid (HA9.out.wr1 HOF.out HWJ.out HL9.out.1)
            have HA11 := hid (HA10.out.below ((Below.refl wr.heap.size wr).alloc (Nat.le_refl _) (.cells #[.slice none 0 0, .slice none 0 0, .slice none 0 0, .slice none 0 0, .slice none 0 0, .slice none 0 0, .slice none 0 0, .slice none 0 0] 44)))
            have HOB := hid (HA10.out.off_new (Nat.le_refl _))
            have HBC := hid (book_cells wr)
            have HBB : Hid (w.heap.size ≤ wr.heap.size) := hid HA10.out.bel.size
            have hbs : wr.heap.size < (wr.alloc (.cells #[.slice none 0 0, .slice none 0 0, .slice none 0 0, .slice none 0 0, .slice none 0 0, .slice none 0 0, .slice none 0 0, .slice none 0 0] 44)).heap.size := by simp
            have HTK := hid (took_any HA11.out.pls HA11.out.bel.size hbs HCN.out HBC.out HOB.out.2.2.2.2.1)
            have HLT := hid hbs
            clear hbs
            refine HTK.out.mono ?_
            rintro e w11 ⟨rfl, ht⟩
            have HAL := hid (took_alone HA11.out HOB.out ht HLT.out HBB.out HBC.out HCN.out HSZ.out)
            clear ht HTK HBC HA10 HA9 HVR HWJ HFV HR9 HOF HOB
            go_wp2_with fail
            refine HAL.out.mono ?_
            rintro e w12 ⟨rfl, h2⟩
            have HT12 := hid h2
            clear h2 HAL
            go_wp2_with fail
            go_roundw
            case rel => exact ⟨k + 1, Q1, r2, by omega, rfl, by go_num, HT12.out⟩
            case measure => simp [intOf]; omega
    · obtain rfl : k = len0 := by omega
      go_wp2_with fail
      go_ret
      exact ⟨rfl, HT.out.bel⟩

end Go.Proofs.Ytbpajgkhajheaaa.FrmRd

namespace Go.Proofs.Ytbpajgkhajheaaa.frameReads
open Go.ChangeShapes Go.WideShapes Go.ChangeAt Go.RowKit Go.Deep
open Go.ChangeMaps (open_string shut_string)
set_option linter.unusedVariables false

theorem own : ownKnob Try.prog.godebug = none := by kernel_rfl
theorem laidOut : laidOutB Try.prog = true := by kernel_rfl

set_option maxRecDepth 100000 in
theorem held (H : Type) (enc : TypeId × Value → H) (W : World) (base : Nat) (args : Array Value) (ds gs : List (DataW H)) (before : List MemPlace)
    (hval0 : ∀ (j : Nat) t v, Try.f4.params[j]? = some t → args[j]? = some v → Value.okWide Try.prog W .any base t v)
    (hW : DataW.Whole enc Try.prog Try.f4.params.toList Rows.frameReadsSpec.vars false W args.toList ds gs before) (hk : Rows.uptoSmall H (ds ++ gs) = true) :
    Calls Try.prog 4 args W fun e W' => ∃ v, e = .returned v ∧ Rows.frameReadsSpec.post enc Try.prog Try.f4 false true false false W args v W' := by
  have hval : ∀ (j : Nat) t v, Try.f4.params[j]? = some t → args[j]? = some v → Value.okWide Try.prog W .any base t v := hval0
  have hW' := hW
  obtain ⟨p, q, hA0, hV, rfl, hfz, hnd⟩ := hW
  have hA : DataW.TrodAll enc Try.prog W 0 (fun _ => true) true Try.f4.params.toList args.toList ds p := hA0
  rw [Try.params4] at hA hval
  obtain ⟨v0, vs0, d0, ds0, p0, q0, hargs, rfl, rfl, h0, r0⟩ := trodAll_cons hA
  obtain ⟨rfl, rfl, rfl⟩ := trodAll_nil r0
  obtain rfl : args = #[v0] := by cases args; simp_all
  obtain ⟨rfl, rfl⟩ := trodVars_none hV
  have k0 := h0
  have lt0 : ∀ x ∈ p0, x.block < W.heap.size := by obtain ⟨m, hm⟩ := k0; exact DataW.trod_lt m _ _ _ hm
  clear hA0 hval0
  have hb : Rows.uptoBulkAll ([d0] ++ ([] : List (DataW H))) ≤ 1048576 := of_decide_eq_true hk
  have hb0 : Rows.uptoBulk d0 ≤ 1048576 := Nat.le_trans (FrmZ.bulk_in (by simp)) hb
  obtain ⟨a0, len0, cap0, rfl⟩ := okWide_slice Try.underlying22 (hval 0 22 v0 rfl rfl)
  obtain ⟨ls, f, hl, hP, hlc, hcm, hsm, hln⟩ := FrmZ.pieces_bulk h0 hb0
  refine (FrmRd.reads_core a0 len0 cap0 ls f hl W hln hsm (Base.hid hP)).mono fun e W' ⟨he, bel⟩ => ?_

  subst he
  exact ⟨_, rfl, _, _, _, [], _, [], hW', trodAll_mk1 (shut_bool Try.underlying4 _), (trodAll_cons_mk (Below.trod laidOut (by kernel_rfl) (of_decide_eq_true (by kernel_rfl)) k0 bel lt0) trodAll_mk0), rfl, bel.frame _, fun h => by cases h⟩

set_option maxRecDepth 100000 in
theorem lifted (os : Os) (started : os.Started) (H : Type) (enc : TypeId × Value → H) (F : Stop.Interp) :
    ReturnsInHanded {} Try.checked os 4 .any ((Rows.OpenSpec.upto Rows.frameReadsSpec).pre6 enc Try.prog Try.f4 Rows.frameReadsUptoRow.domain false) (((Rows.OpenSpec.upto Rows.frameReadsSpec).at F).post enc Try.prog Try.f4 false true false false) := by
  refine returnsInHanded_of_cond (C := Try.checked) (s := Rows.OpenSpec.upto Rows.frameReadsSpec) (k := Rows.uptoSmall) rfl own started (by kernel_rfl) Try.func4
    (OpenSpec.witness (enc := enc) (C := Try.checked) (s := Rows.OpenSpec.upto Rows.frameReadsSpec) (k := Rows.uptoSmall) rfl false ⟨#[], #[.slice none 0 0], []⟩ 8 (by kernel_rfl) (by kernel_rfl) (by kernel_rfl)
      (x := ([.nil], [], [])) (by kernel_rfl) rfl (by kernel_rfl)) ?_
  intro W base args ds gs before hval hW _ hk _
  exact held H enc W base args ds gs before hval hW hk

theorem over : Rows.frameReadsUptoRow.holds Try.pinned (Rows.OpenSpec.upto Rows.frameReadsSpec) :=
  OpenClaim.holds_of_cond 4 Try.f4 rfl rfl rfl rfl rfl rfl rfl ⟨rfl, rfl, rfl, rfl, rfl⟩ rfl rfl rfl rfl rfl (by kernel_rfl) Try.func4 (by kernel_rfl)
    (of_decide_eq_true (by kernel_rfl)) (by unfold Func.isWrapper; first | (rw [if_pos (by decide +kernel)]; kernel_rfl) | (rw [if_neg (by decide +kernel)]; exact ⟨rfl, rfl⟩))
    (fun os started H enc _ F => lifted os started H enc F)

theorem proved : Rows.FrameReadsUptoSaid := over
#print axioms proved
end Go.Proofs.Ytbpajgkhajheaaa.frameReads
