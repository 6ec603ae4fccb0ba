/- Helpers: a fact kept from the walk, what a call by contract leaves of old memory, and a slice of ints that came in. -/
import Derived.Test.YtbihelpnojjacaaGreatRows
import Derived.WalkKit
import Derived.ProofKit
import Derived.WalkSpells
import Derived.Outline
import Derived.OpenShut
namespace Go.Proofs.YtbihelpnojjacaaGreat.Base
open Go.RowKit Go

theorem hid {p : Prop} (h : p) : Hid p := h

theorem bcell {W w1 : World} (hb : Below W.heap.size W w1) : (∀ b o, b < W.heap.size → w1.cell? ⟨b, o, none⟩ = W.cell? ⟨b, o, none⟩) ∧ (∀ b o, b < W.heap.size → w1.frozen? ⟨b, o, none⟩ = W.frozen? ⟨b, o, none⟩) :=
  ⟨fun b o h => hb.cell (p := ⟨b, o, none⟩) h, fun b o h => hb.frozen (p := ⟨b, o, none⟩) h⟩

/-- a slice of ints that came in, as the law's frame tells it -/
def IsRow (k : IntKind) (w : World) (a : Option Addr) (len cap : Nat) (zs : List Int) : Prop :=
  (a = none ∧ len = 0 ∧ cap = 0 ∧ zs = []) ∨
  ∃ x, a = some x ∧ len ≤ cap ∧ cap ≤ maxLen ∧ zs.length = cap ∧ (∀ i, i < zs.length → w.cell? (x.add i) = some (.int k (zs.getD i 0))) ∧ ∀ n ∈ zs, (Lit.int k n).wf = true

/-- a row with elements: its place -/
theorem IsRow.at {k : IntKind} {w : World} {a : Option Addr} {len cap : Nat} {zs : List Int} (h : IsRow k w a len cap zs) (hl : 0 < len) :
    ∃ p q, a = some ⟨p, q, none⟩ ∧ p < w.heap.size ∧ len ≤ 9223372036854775807 ∧ len ≤ zs.length ∧ (∀ i, i < len → w.cell? ⟨p, q + i, none⟩ = some (.int k ((zs.take len).getD i 0))) ∧ ∀ n ∈ zs, (Lit.int k n).wf = true := by
  rcases h with ⟨_, h0, _, _⟩ | ⟨x, rfl, h1, h2, h3, h4, h5⟩
  · omega
  · obtain ⟨b, off, rfl, hc⟩ := ints_at h4 (by omega)
    refine ⟨b, off, rfl, ?_, by unfold maxLen at h2; omega, by omega, fun i hi => ?_, h5⟩
    · exact World.block_lt_of_cell? _ _ (h4 0 (by omega))
    · rw [hc i (by omega)]
      simp [List.getD, hi]

theorem wf_getD {zs : List Int} (h : ∀ n ∈ zs, (Lit.int .i64 n).wf = true) (j len : Nat) : -9223372036854775808 ≤ (zs.take len).getD j 0 ∧ (zs.take len).getD j 0 ≤ 9223372036854775807 := by
  have := range_i64 (zs := zs.take len) (fun n hn => h n (List.mem_of_mem_take hn)) j
  simpa [List.getD] using this

end Go.Proofs.YtbihelpnojjacaaGreat.Base
