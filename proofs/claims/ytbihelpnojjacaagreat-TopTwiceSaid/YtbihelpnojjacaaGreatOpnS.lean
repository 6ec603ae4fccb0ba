/- A list of texts that came in, opened. -/
import Derived.Test.YtbihelpnojjacaaGreatOpn
import Derived.Deep.Strs
namespace Go.Proofs.YtbihelpnojjacaaGreat.OpnS
open Go.ChangeShapes Go.WideShapes Go.Deep Go.RowKit

section
variable {H : Type} {enc : TypeId × Value → H} {P : Program} {w : World} {base : Nat} {spare : Nat → Bool} {held : Bool}

theorem strs_of {t e : TypeId} {k : Nat} {v : Value} {z : DataW H × List MemPlace} (ht : P.underlying t = some (.slice e)) (he : P.underlying e = some .string) (hc : P.cellsOf e = 1)
    (h : DataW.trod enc P w base spare held k t [v] = some z) :
    ∃ (a : Option Addr) (n cap : Nat) (f : Nat → ByteArray), v = .slice a n cap ∧ n ≤ 9223372036854775807 ∧ (∀ i, i < n → (f i).size ≤ maxLen) ∧
      (0 < n → ∃ g o, a = some ⟨g, o, none⟩ ∧ g < w.heap.size ∧ ∀ i, i < n → w.cell? ⟨g, o + i, none⟩ = some (.string (f i))) := by
  rcases open_strs ht he hc h with ⟨hn, _⟩ | ⟨a, l, c, m, f, hcs, _, hl, hm, hmm, _, hi⟩
  · simp at hn
    exact ⟨none, 0, 0, fun _ => ⟨#[]⟩, hn, by omega, fun i h => by omega, fun h => by omega⟩
  · simp at hcs
    have hlm : l ≤ m := by rw [hmm]; split <;> omega
    unfold maxLen at hm
    refine ⟨some a, l, c, f, hcs, by omega, fun i h => (hi i (by omega)).2, fun h0 => ?_⟩
    obtain ⟨b, off, spot⟩ := a
    have h00 := (hi 0 (by omega)).1
    have hspot : spot = none := by simpa [Addr.add] using World.cell?_spot h00
    subst hspot
    refine ⟨b, off, rfl, by have := World.block_lt_of_cell? _ _ h00; simpa [Addr.add] using this, fun i h => ?_⟩
    have := (hi i (by omega)).1
    rwa [Go.WideShapes.add_plain] at this

end

end Go.Proofs.YtbihelpnojjacaaGreat.OpnS
