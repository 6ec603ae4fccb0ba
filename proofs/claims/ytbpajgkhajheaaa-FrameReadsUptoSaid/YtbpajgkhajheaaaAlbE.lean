/- A book's lists of bytes: what each loop of aloneBytes leaves. -/
import Derived.Test.YtbpajgkhajheaaaAlbD
namespace Go.Proofs.Ytbpajgkhajheaaa.AlbE
open Go.ChangeShapes Go.WideShapes Go.ChangeAt Go.RowKit Base AloA WldF Wri AlbC AlbD
set_option linter.unusedVariables false

/-- N lists L of so many bytes each, each apart from the others, from the book in block b and from its list in block bb -/
structure Lists (w : World) (B b bb N : Nat) (bc : Nat) (L : Nat → Value) (l : Nat → Nat) : Prop where
  pos : 0 < N
  top : N ≤ 1099511627776
  few : ∀ i, i < N → l i ≤ 4398046511104
  low : B ≤ b ∧ B ≤ bb
  lt : b < w.heap.size ∧ bb < w.heap.size
  book : w.cell? ⟨b, 0, none⟩ = some (.slice (some ⟨bb, 0, none⟩) N bc)
  row : ∀ i, i < N → w.cell? ⟨bb, i, none⟩ = some (L i)
  own : ∀ i, i < N → ∃ xs, Pb w B (L i) (l i) xs
  apart : ∀ i k g, i < N → k < N → (L i).ownBlock = some g → (L k).ownBlock = some g → i = k
  off : ∀ i g, i < N → (L i).ownBlock = some g → g ≠ b ∧ g ≠ bb ∧ g < w.heap.size ∧ B ≤ g

def Mine (N : Nat) (L : Nat → Value) (k : Nat) : Prop := ∃ i, i < N ∧ (L i).ownBlock = some k

def mkB (j : Nat) : Value := .int .u8 (48 + (j : Int) % 200)

/-- the lists before m are filled, and y places of list m -/
structure Fill (w : World) (B N : Nat) (L : Nat → Value) (l : Nat → Nat) (m y : Nat) (wr : World) : Prop where
  wrote : Wr (Mine N L) w wr
  own : ∀ j, j < N → ∃ xs, Pb wr B (L j) (l j) xs ∧ ∀ q, q < l j → (j < m ∨ j = m ∧ q < y) → xs[q]? = some (mkB j)

variable {w wr : World} {B b bb N bc : Nat} {L : Nat → Value} {l : Nat → Nat} {m y : Nat}

theorem Fill.start (h : Lists w B b bb N bc L l) : Fill w B N L l 0 0 w :=
  ⟨Wr.refl _ _, fun j hj => by obtain ⟨xs, hx⟩ := h.own j hj; exact ⟨xs, hx, fun q hq h2 => by omega⟩⟩

theorem Fill.next (h : Fill w B N L l m (l m) wr) : Fill w B N L l (m + 1) 0 wr :=
  ⟨h.wrote, fun j hj => by
    obtain ⟨xs, hx, hq⟩ := h.own j hj
    refine ⟨xs, hx, fun q hql h2 => hq q hql ?_⟩
    by_cases e : j = m
    · subst e; exact .inr ⟨rfl, hql⟩
    · exact .inl (by omega)⟩

theorem Lists.mine_off (h : Lists w B b bb N bc L l) {k : Nat} (hk : Mine N L k) : k ≠ b ∧ k ≠ bb ∧ B ≤ k := by
  obtain ⟨i, hi, hg⟩ := hk
  have := h.off i k hi hg
  exact ⟨this.1, this.2.1, this.2.2.2⟩

theorem Fill.book (h : Lists w B b bb N bc L l) (hw : Wr (Mine N L) w wr) : wr.cell? ⟨b, 0, none⟩ = some (.slice (some ⟨bb, 0, none⟩) N bc) :=
  (hw.cell 0 h.lt.1 (fun e => (h.mine_off e).1 rfl)).trans h.book

theorem Fill.row (h : Lists w B b bb N bc L l) (hw : Wr (Mine N L) w wr) {i : Nat} (hi : i < N) : wr.cell? ⟨bb, i, none⟩ = some (L i) :=
  (hw.cell i h.lt.2 (fun e => (h.mine_off e).2.1 rfl)).trans (h.row i hi)

theorem shapeL (h : Lists w B b bb N bc L l) {i : Nat} (hi : i < N) : ∃ a c, L i = .slice a (l i) c := by
  obtain ⟨xs, hx⟩ := h.own i hi
  exact hx.shape

/-- a place of a list: it can be written -/
theorem place {v : Value} {n : Nat} {xs : List Value} (h : Pb wr B v n xs) (hy : y < n) :
    ∃ g o c u, v = .slice (some ⟨g, o, none⟩) n c ∧ wr.cell? ⟨g, o + y, none⟩ = some u ∧ wr.frozen? ⟨g, o + y, none⟩ = false := by
  obtain ⟨g, o, c, e, _, hc⟩ := h.at_ (by omega)
  obtain ⟨x, hx⟩ : ∃ x, xs[y]? = some x := ⟨_, List.getElem?_eq_getElem (by rw [h.len]; exact hy)⟩
  exact ⟨g, o, c, x, e, (hc y x hx).1, (hc y x hx).2⟩

theorem Fill.step (hL : Lists w B b bb N bc L l) (h : Fill w B N L l m y wr) (hm : m < N) (hy : y < l m) {g o c : Nat} (hg : L m = .slice (some ⟨g, o, none⟩) (l m) c) : Fill w B N L l m (y + 1) (wr.setCell ⟨g, o + y, none⟩ (mkB m)) := by
  have hgb : (L m).ownBlock = some g := by rw [hg]; rfl
  refine ⟨h.wrote.trans (Wr.set (R := Mine N L) ⟨g, o + y, none⟩ (mkB m) ⟨m, hm, hgb⟩), fun j hj => ?_⟩
  obtain ⟨xs, hx, hq⟩ := h.own j hj
  by_cases e : j = m
  · subst e
    rw [hg] at hx ⊢
    refine ⟨_, hx.set y (mkB j), fun q hql h2 => ?_⟩
    rw [List.getElem?_set]
    split
    · rename_i e2; subst e2; rw [if_pos (by have := hx.len; omega)]
    · exact hq q hql (by omega)
  · refine ⟨xs, hx.keep (fun k hk => ?_), fun q hql h2 => hq q hql (by omega)⟩
    refine (grown_set wr ⟨g, o + y, none⟩ (mkB m)).block k (hx.lt k hk).2 (fun e2 => ?_)
    cases e2
    exact e (hL.apart j m g hj hm hk hgb)

theorem Fill.done (h : Fill w B N L l N 0 wr) : ∀ j, j < N → Pb wr B (L j) (l j) (List.replicate (l j) (mkB j)) := by
  intro j hj
  obtain ⟨xs, hx, hq⟩ := h.own j hj
  have hl : xs.length = l j := hx.len
  have e : xs = List.replicate (l j) (mkB j) := by
    refine List.ext_getElem? (fun q => ?_)
    by_cases h2 : q < l j
    · rw [hq q h2 (.inl hj)]; simp [h2]
    · rw [List.getElem?_eq_none (by omega), List.getElem?_eq_none (by simp; omega)]
  rw [← e]; exact hx

/-- y times u appended onto the list v of n times u -/
structure App (w1 : World) (B : Nat) (v : Value) (n : Nat) (u : Value) (y : Nat) (gv : Value) (wr : World) : Prop where
  wrote : Wr (fun k => v.ownBlock = some k) w1 wr
  own : Pb wr B gv (n + y) (List.replicate (n + y) u)
  at_ : gv.ownBlock = v.ownBlock ∨ ∃ k, gv.ownBlock = some k ∧ w1.heap.size ≤ k
  same : ∀ g o c o' c', v = .slice (some ⟨g, o, none⟩) n c → gv = .slice (some ⟨g, o', none⟩) (n + y) c' → o' = o
  orig : ∀ g o c, v = .slice (some ⟨g, o, none⟩) n c → ∀ q, q < n → wr.cell? ⟨g, o + q, none⟩ = some u

variable {w1 w5 w6 : World} {n : Nat} {v gv gv' va va' u : Value} {ys : List Value} {ob : Obj}

theorem App.start (h : Pb w1 B v n (List.replicate n u)) : App w1 B v n u 0 v w1 :=
  ⟨Wr.refl _ _, h, .inl rfl, fun g o c o' c' e e' => by rw [e] at e'; cases e'; rfl, fun g o c e q hq => by
    obtain ⟨g', o', c', e2, _, hc⟩ := h.at_ (by omega)
    rw [e] at e2
    cases e2
    exact (hc q u (by simp [hq])).1⟩

theorem App.step (h : App w1 B v n u y gv wr) (hv : ∀ g, v.ownBlock = some g → g < w1.heap.size) (hz0 : n + y = 0 → ∀ g o c, v = .slice (some ⟨g, o, none⟩) n c → o = 0) (hown : w6.ownsRow B 5 1 gv' (n + y + 1) (List.replicate (n + y) u ++ [u])) (hgr : (wr.alloc ob).grownBy w6 gv.ownBlock)
    (hat : gv'.ownBlock = gv.ownBlock ∨ gv'.ownBlock = some (wr.alloc ob).heap.size) (hsm : ∀ g o c o' c', gv = .slice (some ⟨g, o, none⟩) (n + y) c → gv' = .slice (some ⟨g, o', none⟩) (n + y + 1) c' → o' = o)
    (hk : ∀ g o c, gv = .slice (some ⟨g, o, none⟩) (n + y) c → ∀ q, q < n + y → w6.cell? ⟨g, o + q, none⟩ = (wr.alloc ob).cell? ⟨g, o + q, none⟩) : App w1 B v n u (y + 1) gv' w6 := by
  have hal : Below wr.heap.size wr (wr.alloc ob) := (Below.refl _ _).alloc (Nat.le_refl _) _
  have hs1 := h.wrote.size
  have hs2 := hal.size
  refine ⟨?_, ?_, ?_, fun g o c o' c' e e' => ?_, fun g o c e q hq => ?_⟩
  · refine Wr.on (Wr.on h.wrote (Wr.ofBelow (R := fun _ => False) hal) (fun k e => e.elim)) (Wr.ofGrown hgr (R := fun k => gv.ownBlock = some k) (fun k e => e)) (fun k e => ?_)
    rcases h.at_ with ha | ⟨k', ha, hk'⟩
    · exact .inl (ha ▸ e)
    · rw [ha] at e; cases e; exact .inr hk'
  · rw [show List.replicate (n + (y + 1)) u = List.replicate (n + y) u ++ [u] by rw [← Nat.add_assoc, List.replicate_succ']]
    exact .inl hown
  · rcases hat with e | e
    · rw [e]; exact h.at_
    · exact .inr ⟨_, e, by omega⟩
  · have hgl := hv g (by rw [e]; rfl)
    have hb : gv.ownBlock = some g := by
      rcases hat with e2 | e2
      · rw [← e2, e']; rfl
      · rw [e'] at e2
        have e3 : g = (wr.alloc ob).heap.size := Option.some.inj e2
        omega
    by_cases h0 : 0 < n + y
    · obtain ⟨g2, o2, c2, e2, _⟩ := h.own.at_ h0
      have hg2 : g2 = g := by rw [e2] at hb; cases hb; rfl
      subst hg2
      rw [hsm g2 o2 c2 o' c' e2 e']
      exact h.same g2 o c o2 c2 e e2
    · rw [hz0 (by omega) g o c e]
      rcases hown.2 with ⟨e5, _⟩ | ⟨g5, c5, cur5, e5, _⟩
      · rw [e'] at e5; cases e5
      · rw [e'] at e5; cases e5; rfl
  · have hgl := hv g (by rw [e]; rfl)
    have hc : (wr.alloc ob).cell? ⟨g, o + q, none⟩ = some u := (hal.cell (p := ⟨g, o + q, none⟩) (by show g < _; omega)).trans (h.orig g o c e q hq)
    by_cases e3 : gv.ownBlock = some g
    · obtain ⟨g2, o2, c2, e2, _⟩ := h.own.at_ (by omega)
      have hg2 : g2 = g := by rw [e2] at e3; cases e3; rfl
      subst hg2
      have := h.same g2 o c o2 c2 e e2
      subst this
      rw [hk g2 o2 c2 e2 q (by omega)]; exact hc
    · exact (World.cell?_of_block (a := ⟨g, o + q, none⟩) (hgr.block g (by omega) (fun e2 => e3 e2.symm))).trans hc

end Go.Proofs.Ytbpajgkhajheaaa.AlbE
