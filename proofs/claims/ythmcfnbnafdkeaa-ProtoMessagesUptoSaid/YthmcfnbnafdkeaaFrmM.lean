/- Lists of payloads held against each other; lists that were told, as they lie. -/
import Derived.Test.YthmcfnbnafdkeaaFrmO
namespace Go.Proofs.Ythmcfnbnafdkeaa.FrmM
open Go.ChangeShapes Go.WideShapes Go.ChangeAt Go.RowKit Go.Deep Base Wri FrmP FrmA FrmD FrmE FrmQ FrmR FrmW FrmX FrmY FrmL FrmZ FrmO
set_option linter.unusedVariables false
set_option linter.unusedSimpArgs false

/-- lists of bytes that lie in a list, with whatever room -/
def PQt (w : World) (n0 : Nat) (a : Option Addr) (ls : List Bs) (f : Nat → Option Addr × Nat) : Prop :=
  0 < ls.length → ∃ g o, a = some ⟨g, o, none⟩ ∧ g < n0 ∧ ∀ i q, ls[i]? = some q → w.cell? ⟨g, o + i, none⟩ = some (.slice (f i).1 q.length (f i).2) ∧ BAt w n0 (f i).1 q ∧ q.length ≤ 9223372036854775807
theorem PQt.of {w : World} {n0 : Nat} {a : Option Addr} {ls : List Bs} {f : Nat → Option Addr × Nat} (h : PAt w n0 a ls f) : PQt w n0 a ls f := fun h0 => by
  obtain ⟨g, o, e, hg, hc⟩ := h h0
  refine ⟨g, o, e, hg, fun i q hq => ?_⟩
  obtain ⟨h1, h2, h3, h4⟩ := hc i q hq
  exact ⟨h1, h2, by omega⟩
theorem PQt.below {w w' : World} {n0 : Nat} {a : Option Addr} {ls : List Bs} {f : Nat → Option Addr × Nat} (h : PQt w n0 a ls f) (hb : Below n0 w w') : PQt w' n0 a ls f := fun h0 => by
  obtain ⟨g, o, ha, hg, hc⟩ := h h0
  refine ⟨g, o, ha, hg, fun i q hq => ?_⟩
  obtain ⟨h1, h2, h3⟩ := hc i q hq
  exact ⟨(hb.cell (p := ⟨g, o + i, none⟩) hg).trans h1, h2.below hb, h3⟩
theorem PQt.mono {w : World} {n0 n1 : Nat} {a : Option Addr} {ls : List Bs} {f : Nat → Option Addr × Nat} (h : PQt w n0 a ls f) (hb : n0 ≤ n1) : PQt w n1 a ls f := fun h0 => by
  obtain ⟨g, o, ha, hg, hc⟩ := h h0
  refine ⟨g, o, ha, by omega, fun i q hq => ?_⟩
  obtain ⟨h1, h2, h3⟩ := hc i q hq
  exact ⟨h1, h2.mono hb, h3⟩

set_option maxRecDepth 20000 in
set_option maxHeartbeats 1000000 in
theorem same_pays (a a' : Option Addr) (cap cap' : Nat) (ls : List Bs) (f f' : Nat → Option Addr × Nat) (w : World) (hn : ls.length ≤ 9223372036854775807) (H : Hid (PQt w w.heap.size a ls f)) (H' : Hid (PQt w w.heap.size a' ls f')) :
    Calls Try.prog 17 #[.slice a ls.length cap, .slice a' ls.length cap'] w fun e w' => e = .returned (.bool true) ∧ ∃ m, w.drewN m = w' := by
  obtain ⟨n, hln⟩ : ∃ n, ls.length = n := ⟨_, rfl⟩
  have HL := hid hln
  rw [hln] at hn ⊢
  clear hln
  go_enter Try.func17, Try.ntmps17
  go_wp2
  go_loopw [5] (fun i wr => ∃ k m : Nat, k ≤ n ∧ i = .int .i64 k ∧ w.drewN m = wr) (fun i _ => n - (intOf i).toNat)
  case atStart => exact ⟨0, 0, Nat.zero_le _, rfl, rfl⟩
  case round =>
    obtain ⟨k, m, hk, rfl, hwr⟩ := hrel
    have HW := hid hwr
    by_cases hlt : k < n
    · obtain ⟨g, o, rfl, _, hc⟩ := H.out (by rw [HL.out]; omega)
      obtain ⟨g', o', rfl, _, hc'⟩ := H'.out (by rw [HL.out]; omega)
      obtain ⟨q, hq⟩ : ∃ q, ls[k]? = some q := ⟨ls[k]'(by rw [HL.out]; exact hlt), List.getElem?_eq_getElem _⟩
      obtain ⟨h1, h2, h3⟩ := hc k q hq
      obtain ⟨h1', h2', h3'⟩ := hc' k q hq
      have x1 : wr.cell? ⟨g, o + k, none⟩ = some (.slice (f k).1 q.length (f k).2) := by rw [← hwr]; exact h1
      have x2 : wr.cell? ⟨g', o' + k, none⟩ = some (.slice (f' k).1 q.length (f' k).2) := by rw [← hwr]; exact h1'
      have HS : Hid (∀ j, Calls Try.prog 32 #[.slice (f k).1 q.length (f k).2, .slice (f' k).1 q.length (f' k).2] (wr.drewN j) fun e w' => e = .returned (.bool true) ∧ ∃ m, w' = wr.drewN m) := hid (fun j => (same_bytes (f k).1 (f' k).1 (f k).2 (f' k).2 q (wr.drewN j) (by omega) (hid (by rw [← hwr]; exact h2)) (hid (by rw [← hwr]; exact h2'))).mono fun e w' ⟨h5, m5, h6⟩ => ⟨h5, j + m5, by rw [← h6, World.drewN_drewN]⟩)
      clear hwr hc hc' hq h1 h1' h2 h2' h3 h3'
      generalize (f k).1 = a1 at *
      generalize (f k).2 = c1 at *
      generalize (f' k).1 = a2 at *
      generalize (f' k).2 = c2 at *
      generalize q.length = L at *
      go_wp2_with fail
      go_quiet ((go_at_call 32; exact HS.out _))
      go_wp2_with fail
      go_roundw
      case rel => exact ⟨k + 1, m + _, by omega, by go_num, by rw [← HW.out, World.drewN_drewN]⟩
      case measure => simp [intOf]; omega
    · go_wp2
      go_ret
      exact ⟨rfl, m, hwr⟩

/-- where the payloads of a list lie -/
def whereAt (vs : List Value) (i : Nat) : Option Addr × Nat := match vs[i]? with
  | some (.slice a _ c) => (a, c)
  | _ => (none, 0)
theorem whereAt_eq {vs : List Value} {i n c : Nat} {a : Option Addr} (h : vs[i]? = some (.slice a n c)) : whereAt vs i = (a, c) := by unfold whereAt; rw [h]

/-- a list of payloads of one's own -/
structure Out (W : World) (B : Nat) (row : Value) (vs : List Value) (ps : List Bs) : Prop where
  own : W.ownsRow B 28 1 row ps.length vs
  each : ∀ (i : Nat) v q, vs[i]? = some v → ps[i]? = some q → PayB W B v q

theorem Out.pat {W : World} {B : Nat} {row : Value} {vs : List Value} {ps : List Bs} (h : Out W B row vs ps) (hps : ∀ q ∈ ps, q.length ≤ 4096) : ∃ a c, row = .slice a ps.length c ∧ PQt W W.heap.size a ps (whereAt vs) := by
  have hl : vs.length = ps.length := by have := h.own.1; omega
  have hcl : ∀ g, row.ownBlock = some g → ∀ j u, vs[j]? = some u → W.cell? ((⟨g, 0, none⟩ : Addr).add j) = some u := fun g e => h.own.cells e
  have hlt := h.own.lt
  rcases h.own.2 with ⟨rfl, h0⟩ | ⟨g, cap, cur, rfl, hb, hh, hc, hm, hs, hcur⟩
  · exact ⟨none, 0, by rw [h0], fun h1 => by omega⟩
  · refine ⟨some ⟨g, 0, none⟩, cap, rfl, fun h1 => ⟨g, 0, rfl, (hlt g rfl).2, fun i q hq => ?_⟩⟩
    have hi := (List.getElem?_eq_some_iff.1 hq).1
    obtain ⟨v, hv⟩ : ∃ v, vs[i]? = some v := ⟨vs[i]'(by omega), List.getElem?_eq_getElem _⟩
    have hp := h.each i v q hv hq
    obtain ⟨g2, o2, cap2, cur2, rfl, h1, h2, h3, h4, h5, h6, h7⟩ := hp
    have hwa := whereAt_eq hv
    have hc1 := hcl g rfl i _ hv
    rw [Go.WideShapes.add_plain] at hc1
    rw [hwa]
    have := hps q (List.mem_of_getElem? hq)
    exact ⟨hc1, fun _ => ⟨g2, o2, rfl, (Array.getElem?_eq_some_iff.1 h2).1, fun j x hx => by simp [World.cell?, h2, h7 j x hx]⟩, by omega⟩

theorem Out.ofPls {W : World} {B : Nat} {row : Value} {vs : List Value} {ps : List Bs} (h : Pls W B row vs ps) : Out W B row vs ps := ⟨h.own, h.each⟩

/-- what was told keeps lying, whatever the reader takes -/
theorem Out.keep {W W' : World} {B : Nat} {row : Value} {vs : List Value} {ps : List Bs} (h : Out W B row vs ps) (hr : ∀ g, row.ownBlock = some g → W'.heap[g]? = W.heap[g]?) (hv : ∀ v ∈ vs, ∀ g, v.ownBlock = some g → W'.heap[g]? = W.heap[g]?) : Out W' B row vs ps :=
  ⟨owns_keep h.own hr, fun i v q h1 h2 => (h.each i v q h1 h2).keep (hv v (List.mem_of_getElem? h1))⟩
theorem Out.len {W : World} {B : Nat} {row : Value} {vs : List Value} {ps : List Bs} (h : Out W B row vs ps) : vs.length = ps.length := by have := h.own.1; omega
theorem Out.blk {W : World} {B : Nat} {row : Value} {vs : List Value} {ps : List Bs} (h : Out W B row vs ps) {v : Value} (hv : v ∈ vs) : ∃ g cur, v.ownBlock = some g ∧ B ≤ g ∧ W.heap[g]? = some (.cells cur 5 (0, 0)) ∧ g < W.heap.size := by
  obtain ⟨i, hi⟩ := List.mem_iff_getElem?.1 hv
  have hl := (List.getElem?_eq_some_iff.1 hi).1
  rw [h.len] at hl
  exact (h.each i v _ hi (List.getElem?_eq_getElem hl)).block
theorem Out.rowblk {W : World} {B : Nat} {row : Value} {vs : List Value} {ps : List Bs} (h : Out W B row vs ps) {g : Nat} (e : row.ownBlock = some g) : B ≤ g ∧ ∃ cur, W.heap[g]? = some (.cells cur 28 (0, 0)) := by
  rcases h.own.2 with ⟨e0, _⟩ | ⟨g', cap, cur, e0, hb, hh, _⟩
  · rw [e0] at e; cases e
  · rw [e0] at e; cases e; exact ⟨hb, cur, hh⟩

theorem ne_kind {W : World} {a b : Nat} {c1 c2 : Array Value} {t1 t2 : TypeId} {f1 f2 : Nat × Nat} (h1 : W.heap[a]? = some (.cells c1 t1 f1)) (h2 : W.heap[b]? = some (.cells c2 t2 f2)) (h : t1 ≠ t2) : a ≠ b := by
  rintro rfl
  rw [h1] at h2
  have := Option.some.inj h2
  injection this with _ e _
  exact h e

/-- a Put leaves what was told before -/
theorem Out.put {w W : World} {B p : Nat} {va row0 row va' : Value} {r' : Rd} {vs0 vs : List Value} {ps0 ps : List Bs} {w' : World} {r : Rd} (h : Out W B row0 vs0 ps0) (hrd : IsRd W B p va r) (hal : ∀ v ∈ vs0, v.ownBlock ≠ va.ownBlock) (hpp : PutPost W B p va r' ps w' row vs va') :
    Out w' B row0 vs0 ps0 ∧ (∀ v ∈ vs0, v.ownBlock ≠ va'.ownBlock) ∧ ∀ g, row0.ownBlock = some g → row.ownBlock ≠ some g := by
  have hbp := hrd.blk
  have key : ∀ g cur t, W.heap[g]? = some (.cells cur t (0, 0)) → t ≠ 74 → (va.ownBlock ≠ some g) → w'.heap[g]? = W.heap[g]? := fun g cur t hg ht hv => hpp.wr.block g (Array.getElem?_eq_some_iff.1 hg).1 (by
    rintro (e | e)
    · exact ne_kind hg hbp ht (by exact e)
    · exact hv e)
  refine ⟨h.keep (fun g e => ?_) (fun v hv g e => ?_), fun v hv e => ?_, fun g e e2 => ?_⟩
  · obtain ⟨_, cur, hg⟩ := h.rowblk e
    refine key g cur _ hg (by decide) (fun e2 => ?_)
    rcases hrd.own.2 with ⟨e3, _⟩ | ⟨g2, cap2, cur2, e3, _, hh2, _⟩
    · rw [e3] at e2; cases e2
    · rw [e3] at e2; cases e2
      exact ne_kind hg hh2 (by decide) rfl
  · obtain ⟨g', cur, e', _, hg, _⟩ := h.blk hv
    rw [e'] at e; cases e
    exact key g cur _ hg (by decide) (fun e2 => hal v hv (by rw [e', e2]))
  · obtain ⟨g', cur, e', _, hg, hlt⟩ := h.blk hv
    rcases hpp.vlow g' (by rw [← e, e']) with e2 | e2
    · exact hal v hv (by rw [e', e2])
    · omega
  · have h1 := hpp.rlow g e2
    have h2 := (h.own.lt g e).2
    omega

end Go.Proofs.Ythmcfnbnafdkeaa.FrmM
