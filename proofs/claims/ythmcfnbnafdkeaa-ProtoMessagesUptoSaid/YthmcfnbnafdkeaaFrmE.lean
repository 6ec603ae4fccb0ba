/- Payloads that were told: a list of lists of bytes, each in a block of its own. -/
import Derived.Test.YthmcfnbnafdkeaaFrmD
namespace Go.Proofs.Ythmcfnbnafdkeaa.FrmE
open Go.ChangeShapes Go.WideShapes Go.ChangeAt Go.RowKit Base Wri FrmP FrmA FrmB FrmC FrmD
open Go.Shelf
set_option linter.unusedVariables false
set_option linter.unusedSimpArgs false

/-- bytes in a block: from a place on; the room behind them ends with the block, or there is none -/
def PayB (W : World) (base : Nat) (v : Value) (p : Bs) : Prop :=
  ∃ g o cap cur, v = .slice (some ⟨g, o, none⟩) p.length cap ∧ base ≤ g ∧ W.heap[g]? = some (.cells cur 5 (0, 0)) ∧ p.length ≤ cap ∧ cap ≤ maxLen ∧ o + cap ≤ cur.size ∧ (o = 0 ∧ cur.size = cap ∨ cap = p.length) ∧
    ∀ i x, p[i]? = some x → cur[o + i]? = some (bv x)

theorem PayB.keep {W W' : World} {base : Nat} {v : Value} {p : Bs} (h : PayB W base v p) (hk : ∀ g, v.ownBlock = some g → W'.heap[g]? = W.heap[g]?) : PayB W' base v p := by
  obtain ⟨g, o, cap, cur, rfl, h1, h2, h3, h4, h5, h6, h7⟩ := h
  exact ⟨g, o, cap, cur, rfl, h1, (hk g rfl).trans h2, h3, h4, h5, h6, h7⟩
theorem PayB.block {W : World} {base : Nat} {v : Value} {p : Bs} (h : PayB W base v p) : ∃ g cur, v.ownBlock = some g ∧ base ≤ g ∧ W.heap[g]? = some (.cells cur 5 (0, 0)) ∧ g < W.heap.size := by
  obtain ⟨g, o, cap, cur, rfl, h1, h2, h3, h4, h5, h6, h7⟩ := h
  exact ⟨g, cur, rfl, h1, h2, (Array.getElem?_eq_some_iff.1 h2).1⟩
theorem PayB.low {W : World} {base base' : Nat} {v : Value} {p : Bs} (h : PayB W base v p) (hb : base' ≤ base) : PayB W base' v p := by
  obtain ⟨g, o, cap, cur, rfl, h1, rest⟩ := h
  exact ⟨g, o, cap, cur, rfl, by omega, rest⟩
theorem PayB.at_ {W : World} {base : Nat} {v : Value} {p : Bs} (h : PayB W base v p) : ∃ g o cap, v = .slice (some ⟨g, o, none⟩) p.length cap ∧ g < W.heap.size ∧ p.length ≤ cap ∧ cap ≤ maxLen ∧ ∀ i x, p[i]? = some x → W.cell? ⟨g, o + i, none⟩ = some (bv x) := by
  obtain ⟨g, o, cap, cur, rfl, h1, h2, h3, h4, h5, h6, h7⟩ := h
  exact ⟨g, o, cap, rfl, (Array.getElem?_eq_some_iff.1 h2).1, h3, h4, fun i x hx => by simp [World.cell?, h2, h7 i x hx]⟩
theorem PayB.own {W : World} {base : Nat} {v : Value} {p : Bs} (h : W.ownsRow base 5 1 v p.length (p.map bv)) (hp : 0 < p.length) : PayB W base v p := by
  obtain ⟨hl, ⟨_, h0⟩ | ⟨g, cap, cur, rfl, hb, hh, hc, hm, hs, hcur⟩⟩ := h
  · omega
  · refine ⟨g, 0, cap, cur, rfl, hb, hh, hc, hm, by omega, .inl ⟨rfl, by omega⟩, fun i x hx => ?_⟩
    have hi := (List.getElem?_eq_some_iff.1 hx).1
    have h1 : (cur.toList.take (p.length * 1))[i]? = (p.map bv)[i]? := by rw [hcur]
    rw [List.getElem?_take, if_pos (by omega), List.getElem?_map, hx] at h1
    rw [Nat.zero_add, ← Array.getElem?_toList, h1]; rfl

/-- a list of payloads -/
structure Pls (W : World) (base : Nat) (row : Value) (vs : List Value) (ps : List Bs) : Prop where
  own : W.ownsRow base 28 1 row ps.length vs
  each : ∀ (i : Nat) v p, vs[i]? = some v → ps[i]? = some p → PayB W base v p
  apart : ∀ (i j : Nat) v v', i < j → vs[i]? = some v → vs[j]? = some v' → v.ownBlock ≠ v'.ownBlock
  out : ∀ v, v ∈ vs → v.ownBlock ≠ row.ownBlock

theorem Pls.len {W : World} {base : Nat} {row : Value} {vs : List Value} {ps : List Bs} (h : Pls W base row vs ps) : vs.length = ps.length := by have := h.own.1; omega
theorem Pls.nil (W : World) (base : Nat) : Pls W base (.slice none 0 0) [] [] := ⟨World.ownsRow_nil _ _ _ _, (fun i v p h => by simp at h), (fun i j v v' _ h => by simp at h), (fun v h => by cases h)⟩
theorem Pls.pay {W : World} {base : Nat} {row : Value} {vs : List Value} {ps : List Bs} (h : Pls W base row vs ps) {v : Value} (hv : v ∈ vs) : ∃ g cur, v.ownBlock = some g ∧ base ≤ g ∧ W.heap[g]? = some (.cells cur 5 (0, 0)) ∧ g < W.heap.size := by
  obtain ⟨i, hi⟩ := List.mem_iff_getElem?.1 hv
  have hl := (List.getElem?_eq_some_iff.1 hi).1
  rw [h.len] at hl
  exact (h.each i v _ hi (List.getElem?_eq_getElem hl)).block
theorem Pls.keep {W W' : World} {base : Nat} {row : Value} {vs : List Value} {ps : List Bs} (h : Pls W base row vs ps) (hr : ∀ g, row.ownBlock = some g → W'.heap[g]? = W.heap[g]?) (hv : ∀ v ∈ vs, ∀ g, v.ownBlock = some g → W'.heap[g]? = W.heap[g]?) : Pls W' base row vs ps :=
  ⟨owns_keep h.own hr, fun i v p h1 h2 => (h.each i v p h1 h2).keep (hv v (List.mem_of_getElem? h1)), h.apart, h.out⟩
theorem Pls.below {W W' : World} {base : Nat} {row : Value} {vs : List Value} {ps : List Bs} (h : Pls W base row vs ps) (hb : Below W.heap.size W W') : Pls W' base row vs ps :=
  h.keep (fun g e => hb.block g (h.own.lt g e).2) (fun v hv g e => by
    obtain ⟨g', cur, e', _, _, hlt⟩ := h.pay hv
    rw [e'] at e; cases e
    exact hb.block g hlt)
/-- a block that holds other things than bytes is none of the payloads' -/
theorem Pls.not_pay {W : World} {base : Nat} {row : Value} {vs : List Value} {ps : List Bs} (h : Pls W base row vs ps) {b : Nat} {o : Obj} (hb : W.heap[b]? = some o) (ho : ∀ cur fr, o ≠ .cells cur 5 fr) {v : Value} (hv : v ∈ vs) : v.ownBlock ≠ some b := by
  obtain ⟨g, cur, e, _, hg, _⟩ := h.pay hv
  rw [e]
  intro e2
  cases e2
  rw [hb] at hg
  exact ho _ _ (Option.some.inj hg)

/-- one payload more -/
theorem Pls.push {W w5 w6 : World} {base : Nat} {row row' v : Value} {vs : List Value} {ps : List Bs} {p : Bs} {Bp : Nat} {o : Obj} (h : Pls W base row vs ps) (hp : PayB W base v p) (hf : ∀ v' ∈ vs, v'.ownBlock ≠ v.ownBlock) (hfr : v.ownBlock ≠ row.ownBlock)
    (hown : w5.ownsRow base 28 1 row' (ps.length + 1) (vs ++ [v])) (hgrow : (W.alloc o).grownBy w5 row.ownBlock) (hat : row'.ownBlock = row.ownBlock ∨ row'.ownBlock = some (W.heap.size + 1))
    (h6 : w6.ownsRow base 28 1 row' (ps.length + 1) (vs ++ [v])) (hset : w6 = w5.setCell ⟨Bp, 0, none⟩ row') (hBp : ∀ v' ∈ vs ++ [v], v'.ownBlock ≠ some Bp) : Pls w6 base row' (vs ++ [v]) (ps ++ [p]) := by
  have hk : ∀ v' ∈ vs ++ [v], ∀ g, v'.ownBlock = some g → g < W.heap.size → v'.ownBlock ≠ row.ownBlock → w6.heap[g]? = W.heap[g]? := by
    intro v' hv' g e hlt hne
    have h1 : w5.heap[g]? = (W.alloc o).heap[g]? := hgrow.block g (by simp; omega) (by rw [← e]; exact hne)
    have h2 : (W.alloc o).heap[g]? = W.heap[g]? := Below.heap_alloc _ _ _ hlt
    rw [hset, Below.heap_setCell _ _ _ g (by intro e2; exact hBp v' hv' (by rw [e]; exact congrArg some e2)), h1, h2]
  have hrow : ∀ g, row.ownBlock = some g → g < W.heap.size := fun g e => (h.own.lt g e).2
  have hl := h.len
  have hvs : ∀ v' ∈ vs ++ [v], v'.ownBlock ≠ row.ownBlock ∧ ∃ g, v'.ownBlock = some g ∧ g < W.heap.size := by
    intro v' hv'
    rcases List.mem_append.1 hv' with hv' | hv'
    · obtain ⟨g, _, e, _, _, hlt⟩ := h.pay hv'
      exact ⟨h.out v' hv', g, e, hlt⟩
    · obtain rfl := List.mem_singleton.1 hv'
      obtain ⟨g, _, e, _, _, hlt⟩ := hp.block
      exact ⟨hfr, g, e, hlt⟩
  refine ⟨by simpa using h6, ?_, ?_, ?_⟩
  · intro i v' p' h1 h2
    have hm := List.mem_of_getElem? h1
    rcases Nat.lt_or_ge i vs.length with hi | hi
    · rw [List.getElem?_append_left hi] at h1
      rw [List.getElem?_append_left (by omega)] at h2
      exact (h.each i v' p' h1 h2).keep (fun g e => hk v' hm g e (by obtain ⟨_, g', e', hlt⟩ := hvs v' hm; rw [e'] at e; cases e; exact hlt) (hvs v' hm).1)
    · rw [List.getElem?_append_right hi] at h1
      rw [List.getElem?_append_right (by omega), ← hl] at h2
      obtain ⟨k, hk2⟩ : ∃ k, i - vs.length = k := ⟨_, rfl⟩
      rw [hk2] at h1 h2
      cases k with
      | succ k => simp at h1
      | zero =>
        obtain rfl : v = v' := by simpa using h1
        obtain rfl : p = p' := by simpa using h2
        exact hp.keep (fun g e => hk v hm g e (by obtain ⟨_, g', e', hlt⟩ := hvs v hm; rw [e'] at e; cases e; exact hlt) (hvs v hm).1)
  · intro i j v1 v2 hij h1 h2
    have hj := (List.getElem?_eq_some_iff.1 h2).1
    rw [List.length_append, List.length_singleton] at hj
    rw [List.getElem?_append_left (by omega)] at h1
    rcases Nat.lt_or_ge j vs.length with hj2 | hj2
    · rw [List.getElem?_append_left hj2] at h2
      exact h.apart i j v1 v2 hij h1 h2
    · rw [List.getElem?_append_right hj2, show j - vs.length = 0 by omega] at h2
      obtain rfl : v = v2 := by simpa using h2
      exact hf v1 (List.mem_of_getElem? h1)
  · intro v' hv'
    obtain ⟨hne, g, e, hlt⟩ := hvs v' hv'
    rcases hat with e2 | e2
    · rw [e2]; exact hne
    · rw [e2, e]; intro e3; cases e3; omega

end Go.Proofs.Ythmcfnbnafdkeaa.FrmE
