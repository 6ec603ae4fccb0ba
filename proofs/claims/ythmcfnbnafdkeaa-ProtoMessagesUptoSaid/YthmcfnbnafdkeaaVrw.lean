/- Rows of cells of any values, made and filled. -/
import Derived.Test.YthmcfnbnafdkeaaWldG
import Derived.Lib.SliceRun
namespace Go.Proofs.Ythmcfnbnafdkeaa.Vrw
open Go.ChangeShapes Go.WideShapes Go.ChangeAt Go.RowKit Base
set_option linter.unusedVariables false

def VRow (w : World) (g n : Nat) (f : Nat → Value) : Prop := ∀ j, j < n → w.cell? ⟨g, j, none⟩ = some (f j) ∧ w.frozen? ⟨g, j, none⟩ = false
theorem VRow.of_block {w w' : World} {g n : Nat} {f : Nat → Value} (h : VRow w g n f) (e : w'.heap[g]? = w.heap[g]?) : VRow w' g n f :=
  fun j hj => ⟨(World.cell?_of_block (a := ⟨g, j, none⟩) e).trans (h j hj).1, (World.frozen?_of_block (a := ⟨g, j, none⟩) e).trans (h j hj).2⟩
theorem VRow.set {w : World} {g n : Nat} {f : Nat → Value} (h : VRow w g n f) (i : Nat) (hi : i < n) (x : Value) : VRow (w.setCell ⟨g, i, none⟩ x) g n (fun j => if j = i then x else f j) := by
  intro j hj
  rw [World.frozen?_setCell]
  refine ⟨?_, (h j hj).2⟩
  by_cases e : j = i
  · subst e; simp only [if_true]; exact World.cell?_setCell_same w _ _ (h j hj).1
  · simp only [e, if_false]; rw [World.cell?_setCell_other w _ _ _ (by intro e2; cases e2; exact e rfl)]; exact (h j hj).1
theorem VRow.congr {w : World} {g n : Nat} {f f' : Nat → Value} (h : VRow w g n f) (e : ∀ j, j < n → f j = f' j) : VRow w g n f' := fun j hj => by rw [← e j hj]; exact h j hj
theorem VRow.owned {w : World} {base g n c cap : Nat} {e : TypeId} {xs : List Value} {f : Nat → Value} (h : w.ownsRow base e c (.slice (some ⟨g, 0, none⟩) n cap) n xs) (hx : ∀ j, j < n * c → xs[j]? = some (f j)) : VRow w g (n * c) f := by
  obtain ⟨hl, h⟩ := h
  rcases h with ⟨h0, _⟩ | ⟨g', cap', cur, hv, hg, hh, hc, hm, hs, hcur⟩
  · cases h0
  · cases hv
    intro j hj
    have e : cur[j]? = some (f j) := by
      have h1 : (cur.toList.take (n * c))[j]? = xs[j]? := by rw [hcur]
      rw [List.getElem?_take, if_pos (by omega), hx j hj] at h1
      rw [← Array.getElem?_toList, h1]
    exact ⟨by simp [World.cell?, hh, e], by simp [World.frozen?, hh]⟩

/-- made places (z of them), the first k filled by g -/
def fillV (z : Nat → Value) (k : Nat) (g : Nat → Value) : Nat → Value := fun j => if j < k then g j else z j
theorem fillV_set (z : Nat → Value) (k : Nat) (g : Nat → Value) : (fun j => if j = k then g k else fillV z k g j) = fillV z (k + 1) g := by
  funext j
  unfold fillV
  by_cases h : j = k
  · subst h; simp
  · by_cases h2 : j < k
    · simp [h, h2, Nat.lt_succ_of_lt h2]
    · simp [h, h2]; omega

end Go.Proofs.Ythmcfnbnafdkeaa.Vrw
