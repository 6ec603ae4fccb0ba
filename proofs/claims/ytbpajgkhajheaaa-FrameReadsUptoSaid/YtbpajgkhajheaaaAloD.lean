/- A book's lists of ints: what each loop of aloneInts leaves. -/
import Derived.Test.YtbpajgkhajheaaaAloC
import Derived.Laws.OwnMore
namespace Go.Proofs.Ytbpajgkhajheaaa.AloD
open Go.ChangeShapes Go.WideShapes Go.ChangeAt Go.RowKit Base AloA WldF Wri AloC
set_option linter.unusedVariables false

/-- N lists L of so many ints each, owned, each apart from the others, from the book in block b and from its list in block bb -/
structure Lists (w : World) (B b bb N : Nat) (bc : Nat) (L : Nat → Value) (l : Nat → Nat) : Prop where
  pos : 0 < N
  top : N ≤ 1000000
  few : ∀ i, i < N → l i ≤ 1000000
  low : B ≤ b ∧ B ≤ bb
  lt : b < w.heap.size ∧ bb < w.heap.size
  book : w.cell? ⟨b, 2, none⟩ = some (.slice (some ⟨bb, 0, none⟩) N bc)
  row : ∀ i, i < N → w.cell? ⟨bb, i, none⟩ = some (L i)
  own : ∀ i, i < N → ∃ xs, w.ownsRow B 3 1 (L i) (l i) xs
  apart : ∀ i k g, i < N → k < N → (L i).ownBlock = some g → (L k).ownBlock = some g → i = k
  off : ∀ i g, i < N → (L i).ownBlock = some g → g ≠ b ∧ g ≠ bb ∧ g < w.heap.size ∧ B ≤ g

def Mine (N : Nat) (L : Nat → Value) (k : Nat) : Prop := ∃ i, i < N ∧ (L i).ownBlock = some k

def num (j : Nat) : Value := .int .i64 (-9000 - (j : Int))

/-- the lists before m are filled, and y places of list m -/
structure Fill (w : World) (B N : Nat) (L : Nat → Value) (l : Nat → Nat) (m y : Nat) (wr : World) : Prop where
  wrote : Wr (Mine N L) w wr
  own : ∀ j, j < N → ∃ xs, wr.ownsRow B 3 1 (L j) (l j) xs ∧ ∀ q, q < l j → (j < m ∨ j = m ∧ q < y) → xs[q]? = some (num j)

variable {w wr : World} {B b bb N bc : Nat} {L : Nat → Value} {l : Nat → Nat} {m y : Nat}

theorem Fill.start (h : Lists w B b bb N bc L l) : Fill w B N L l 0 0 w :=
  ⟨Wr.refl _ _, fun j hj => by obtain ⟨xs, hx⟩ := h.own j hj; exact ⟨xs, hx, fun q hq h2 => by omega⟩⟩

theorem Fill.next (h : Fill w B N L l m (l m) wr) : Fill w B N L l (m + 1) 0 wr :=
  ⟨h.wrote, fun j hj => by
    obtain ⟨xs, hx, hq⟩ := h.own j hj
    refine ⟨xs, hx, fun q hql h2 => hq q hql ?_⟩
    by_cases e : j = m
    · subst e; exact .inr ⟨rfl, hql⟩
    · exact .inl (by omega)⟩

theorem Lists.mine_off (h : Lists w B b bb N bc L l) {k : Nat} (hk : Mine N L k) : k ≠ b ∧ k ≠ bb ∧ B ≤ k := by
  obtain ⟨i, hi, hg⟩ := hk
  have := h.off i k hi hg
  exact ⟨this.1, this.2.1, this.2.2.2⟩

theorem Fill.book (h : Lists w B b bb N bc L l) (hw : Wr (Mine N L) w wr) : wr.cell? ⟨b, 2, none⟩ = some (.slice (some ⟨bb, 0, none⟩) N bc) :=
  (hw.cell 2 h.lt.1 (fun e => (h.mine_off e).1 rfl)).trans h.book

theorem Fill.row (h : Lists w B b bb N bc L l) (hw : Wr (Mine N L) w wr) {i : Nat} (hi : i < N) : wr.cell? ⟨bb, i, none⟩ = some (L i) :=
  (hw.cell i h.lt.2 (fun e => (h.mine_off e).2.1 rfl)).trans (h.row i hi)

theorem shapeL (h : Lists w B b bb N bc L l) {i : Nat} (hi : i < N) : ∃ a c, L i = .slice a (l i) c := by
  obtain ⟨xs, hx⟩ := h.own i hi
  exact owns_shape hx

/-- a place of an owned list of ints: it can be written -/
theorem place {v : Value} {n : Nat} {xs : List Value} (h : wr.ownsRow B 3 1 v n xs) (hy : y < n) :
    ∃ g c u, v = .slice (some ⟨g, 0, none⟩) n c ∧ wr.cell? ⟨g, y, none⟩ = some u ∧ wr.frozen? ⟨g, y, none⟩ = false := by
  obtain ⟨hl, h2⟩ := h
  rcases h2 with ⟨_, h0⟩ | ⟨g, c, cur, rfl, hg, hh, hc, hm, hs, hcur⟩
  · omega
  · have hyc : y < cur.size := by rw [hs]; omega
    refine ⟨g, c, cur[y]'hyc, rfl, ?_, ?_⟩
    · simp [World.cell?, hh, hyc]
    · simp [World.frozen?, hh]

theorem Fill.step (hL : Lists w B b bb N bc L l) (h : Fill w B N L l m y wr) (hm : m < N) (hy : y < l m) {g c : Nat} (hg : L m = .slice (some ⟨g, 0, none⟩) (l m) c) : Fill w B N L l m (y + 1) (wr.setCell ⟨g, y, none⟩ (num m)) := by
  have hgb : (L m).ownBlock = some g := by rw [hg]; rfl
  refine ⟨h.wrote.trans (Wr.set (R := Mine N L) ⟨g, y, none⟩ (num m) ⟨m, hm, hgb⟩), fun j hj => ?_⟩
  obtain ⟨xs, hx, hq⟩ := h.own j hj
  by_cases e : j = m
  · subst e
    rw [hg] at hx ⊢
    refine ⟨_, (World.ownsRow.stored hx y (num j)).1, fun q hql h2 => ?_⟩
    rw [List.getElem?_set]
    split
    · rename_i e2; subst e2; rw [if_pos (by have := hx.1; omega)]
    · exact hq q hql (by omega)
  · refine ⟨xs, owns_keep hx (fun k hk => ?_), fun q hql h2 => hq q hql (by omega)⟩
    refine (grown_set wr ⟨g, y, none⟩ (num m)).block k (hx.lt k hk).2 (fun e2 => ?_)
    cases e2
    exact e (hL.apart j m g hj hm hk hgb)

end Go.Proofs.Ytbpajgkhajheaaa.AloD
