/- What a call leaves but one block; rows of ints; a chance's numbers: plain, and the contracts of Below. -/
import Derived.Test.YtbihelpnojjacaaGreatWldF
import Derived.Deep.QuietTactic
import Derived.BigQuiet
import Derived.BigRegion
namespace Go.Proofs.YtbihelpnojjacaaGreat.WldG
open Go.ChangeShapes Go.WideShapes Go.ChangeAt Go.RowKit Base ClkM Clk WldA WldF

/-- what a call leaves as it lay: every block but b -/
def Keeps (b : Nat) (w w' : World) : Prop := w.grownBy w' (some b)

theorem Keeps.refl (b : Nat) (w : World) : Keeps b w w := ⟨rfl, rfl, rfl, Nat.le_refl _, fun _ _ _ => rfl⟩
theorem Keeps.trans {b : Nat} {w w1 w2 : World} (h : Keeps b w w1) (h2 : Keeps b w1 w2) : Keeps b w w2 :=
  ⟨h2.os.trans h.os, h2.tape.trans h.tape, h2.output.trans h.output, Nat.le_trans h.size h2.size, fun k hk hb => (h2.block k (Nat.lt_of_lt_of_le hk h.size) hb).trans (h.block k hk hb)⟩
theorem Keeps.grown {b : Nat} {w w' w2 : World} (h : Keeps b w w') {row : Option Nat} (hg : w'.grownBy w2 row) (hr : ∀ k, row = some k → w.heap.size ≤ k ∨ k = b) : Keeps b w w2 :=
  have hz : ∀ k, k < w.heap.size → some k ≠ some b → some k ≠ row := fun k hk hb e => (hr k e.symm).elim (fun h1 => absurd h1 (by omega)) (fun h1 => hb (by rw [h1]))
  ⟨hg.os.trans h.os, hg.tape.trans h.tape, hg.output.trans h.output, Nat.le_trans h.size hg.size, fun k hk hb => (hg.block k (Nat.lt_of_lt_of_le hk h.size) (hz k hk hb)).trans (h.block k hk hb)⟩
theorem Keeps.alloc {b : Nat} {w w' : World} (h : Keeps b w w') (o : Obj) : Keeps b w (w'.alloc o) := h.grown (World.grownBy_alloc w' o none) (fun _ e => by cases e)
theorem Keeps.set {b : Nat} {w w' : World} (h : Keeps b w w') (o : Nat) (v : Value) : Keeps b w (w'.setCell ⟨b, o, none⟩ v) := h.grown (grown_set w' ⟨b, o, none⟩ v) (fun k e => by cases e; exact .inr rfl)
theorem Keeps.setNew {b : Nat} {w w' : World} (h : Keeps b w w') (g : Nat) (hg : w.heap.size ≤ g) (o : Nat) (v : Value) : Keeps b w (w'.setCell ⟨g, o, none⟩ v) := h.grown (grown_set w' ⟨g, o, none⟩ v) (fun k e => by cases e; exact .inl hg)
theorem Keeps.drewN {b : Nat} {w w' : World} (h : Keeps b w w') (n : Nat) : Keeps b w (w'.drewN n) := ⟨h.os, h.tape, h.output, h.size, h.block⟩
theorem Keeps.belowOf {b : Nat} {w w1 : World} (h : Below w.heap.size w w1) : Keeps b w w1 := ⟨h.os, h.tape, h.output, h.size, fun k hk _ => h.block k hk⟩
theorem Keeps.toBelow {b : Nat} {w w1 : World} (h : Keeps b w w1) (B : Nat) (hb : B ≤ b) (hs : B ≤ w.heap.size) : Below B w w1 := (Below.refl B w).grown h hs (fun k e => by cases e; exact hb)
theorem Keeps.cell {b : Nat} {w w' : World} (h : Keeps b w w') {k : Nat} (o : Nat) (hk : k < w.heap.size) (hb : k ≠ b) : w'.cell? ⟨k, o, none⟩ = w.cell? ⟨k, o, none⟩ := World.cell?_of_block (h.block k hk (fun e => hb (Option.some.inj e)))
theorem Keeps.frozen {b : Nat} {w w' : World} (h : Keeps b w w') {k : Nat} (o : Nat) (hk : k < w.heap.size) (hb : k ≠ b) : w'.frozen? ⟨k, o, none⟩ = w.frozen? ⟨k, o, none⟩ := World.frozen?_of_block (h.block k hk (fun e => hb (Option.some.inj e)))

/-- a row of ints in block g -/
def Row (w : World) (g n : Nat) (f : Nat → Int) : Prop := ∀ j, j < n → w.cell? ⟨g, j, none⟩ = some (.int .i64 (f j)) ∧ w.frozen? ⟨g, j, none⟩ = false

theorem Row.of_block {w w' : World} {g n : Nat} {f : Nat → Int} (h : Row w g n f) (e : w'.heap[g]? = w.heap[g]?) : Row w' g n f :=
  fun j hj => ⟨(World.cell?_of_block (a := ⟨g, j, none⟩) e).trans (h j hj).1, (World.frozen?_of_block (a := ⟨g, j, none⟩) e).trans (h j hj).2⟩
theorem Row.keeps {b : Nat} {w w' : World} {g n : Nat} {f : Nat → Int} (h : Row w g n f) (hk : Keeps b w w') (hg : g < w.heap.size) (hb : g ≠ b) : Row w' g n f := h.of_block (hk.block g hg (fun e => hb (Option.some.inj e)))
theorem Row.set {w : World} {g n : Nat} {f : Nat → Int} (h : Row w g n f) (i : Nat) (hi : i < n) (x : Int) : Row (w.setCell ⟨g, i, none⟩ (.int .i64 x)) g n (fun j => if j = i then x else f j) := by
  intro j hj
  rw [World.frozen?_setCell]
  refine ⟨?_, (h j hj).2⟩
  by_cases e : j = i
  · subst e; simp only [if_true]; exact World.cell?_setCell_same w _ _ (h j hj).1
  · simp only [e, if_false]; rw [World.cell?_setCell_other w _ _ _ (by intro e2; cases e2; exact e rfl)]; exact (h j hj).1
theorem Row.drewN {w : World} {g n : Nat} {f : Nat → Int} (h : Row w g n f) (m : Nat) : Row (w.drewN m) g n f := h
theorem Row.congr {w : World} {g n : Nat} {f f' : Nat → Int} (h : Row w g n f) (e : ∀ j, j < n → f j = f' j) : Row w g n f' := fun j hj => by rw [← e j hj]; exact h j hj

theorem Row.owned {w : World} {base g n cap : Nat} {xs : List Value} {f : Nat → Int} (h : w.ownsRow base 3 1 (.slice (some ⟨g, 0, none⟩) n cap) n xs) (hx : ∀ j, j < n → xs[j]? = some (.int .i64 (f j))) : Row w g n f := by
  obtain ⟨hl, h⟩ := h
  rcases h with ⟨h0, _⟩ | ⟨g', cap', cur, hv, hg, hh, hc, hm, hs, hcur⟩
  · cases h0
  · cases hv
    intro j hj
    have e : cur[j]? = some (.int .i64 (f j)) := by
      have h1 : (cur.toList.take (n * 1))[j]? = xs[j]? := by rw [hcur]
      rw [List.getElem?_take, if_pos (by omega), hx j hj] at h1
      rw [← Array.getElem?_toList, h1]
    exact ⟨by simp [World.cell?, hh, e], by simp [World.frozen?, hh]⟩

/-- the numbers of a chance: what Below tells, and two places exchanged -/
def swapF (f : Nat → Int) (i j : Nat) : Nat → Int := fun k => if k = j then f i else if k = i then f j else f k
def shufF : Nat → Nat → (Nat → Int) → (Nat → Int) × Nat
  | 0, s, f => (f, s)
  | i + 1, s, f => shufF i (stepN s) (swapF f (i + 1) (mixN (stepN s) % (i + 2)))

/-- below n, each once -/
def Good (n : Nat) (f : Nat → Int) : Prop := (∀ i, i < n → 0 ≤ f i ∧ f i < n) ∧ ∀ i j, i < n → j < n → f i = f j → i = j

theorem swapF_good {n i j : Nat} {f : Nat → Int} (h : Good n f) (hi : i < n) (hj : j < n) : Good n (swapF f i j) := by
  constructor
  · intro k hk
    unfold swapF
    split
    · exact h.1 i hi
    · split
      · exact h.1 j hj
      · exact h.1 k hk
  · intro a b ha hb he
    unfold swapF at he
    have q : ∀ c, c < n → ∃ c', c' < n ∧ (if c = j then f i else if c = i then f j else f c) = f c' ∧ ((c = j ∧ c' = i) ∨ (c ≠ j ∧ c = i ∧ c' = j) ∨ (c ≠ j ∧ c ≠ i ∧ c' = c)) := by
      intro c hc
      by_cases c1 : c = j
      · exact ⟨i, hi, by rw [if_pos c1], .inl ⟨c1, rfl⟩⟩
      · by_cases c2 : c = i
        · exact ⟨j, hj, by rw [if_neg c1, if_pos c2], .inr (.inl ⟨c1, c2, rfl⟩)⟩
        · exact ⟨c, hc, by rw [if_neg c1, if_neg c2], .inr (.inr ⟨c1, c2, rfl⟩)⟩
    obtain ⟨a', ha', ea, ca⟩ := q a ha
    obtain ⟨b', hb', eb, cb⟩ := q b hb
    rw [ea, eb] at he
    have := h.2 a' b' ha' hb' he
    omega

theorem shufF_good {n : Nat} : ∀ (i s : Nat) (f : Nat → Int), i < n → Good n f → Good n (shufF i s f).1
  | 0, _, _, _, h => h
  | i + 1, s, _, hi, h => shufF_good i _ _ (by omega) (swapF_good h hi (by have := Nat.mod_lt (mixN (stepN s)) (show 0 < i + 2 by omega); omega))

def idF : Nat → Int := fun k => k
theorem idF_good (n : Nat) : Good n idF := ⟨fun i hi => by unfold idF; omega, fun i j _ _ h => by unfold idF at h; omega⟩

theorem shufF_lt : ∀ (i s : Nat) (f : Nat → Int), s < 18446744073709551616 → (shufF i s f).2 < 18446744073709551616
  | 0, _, _, h => h
  | i + 1, s, _, _ => shufF_lt i _ _ (stepN_lt s)

end Go.Proofs.YtbihelpnojjacaaGreat.WldG
