/- A flow rule; flow rules in memory. -/
import Derived.Test.YtakmfcnmcjbbgaaTxt
import Derived.Test.YtakmfcnmcjbbgaaWri
namespace Go.Proofs.Ytakmfcnmcjbbgaa.RejA
set_option linter.unusedVariables false
open Go.ChangeShapes Go.WideShapes Go.ChangeAt Go.RowKit Base Txt

theorem ret_bool {a b : Bool} (h : a = b) : Ending.returned (.bool a) = .returned (.bool b) := by rw [h]

/-- a flow rule -/
structure Flow where
  res : ByteArray
  org : ByteArray
  thr : Bool
  cnt : Int
  strat : Nat
  ref : ByteArray
  shape : Nat
  warm : Int
  queue : Int
  clus : Bool
  id_ : Int
  fall : Bool

def fv (f : Flow) : Array Value := #[.string f.res, .string f.org, .bool f.thr, .int .i64 f.cnt, .int .u8 f.strat, .string f.ref, .int .u8 f.shape, .int .i64 f.warm, .int .i64 f.queue, .bool f.clus, .int .i64 f.id_, .bool f.fall]

/-- flow rules in memory -/
structure Flows (w : World) (a : Option Addr) (n : Nat) (L : Nat → Flow) : Prop where
  at_ : 0 < n → ∃ g o, a = some ⟨g, o, none⟩ ∧ g < w.heap.size ∧ ∀ i, i < n → ∀ (j : Nat) v, (fv (L i))[j]? = some v → w.cell? ⟨g, o + i * 12 + j, none⟩ = some v
  s1 : ∀ i, i < n → (L i).res.size ≤ maxLen
  s2 : ∀ i, i < n → (L i).org.size ≤ maxLen
  s3 : ∀ i, i < n → (L i).ref.size ≤ maxLen

theorem Flows.below {w w' : World} {a : Option Addr} {n : Nat} {L : Nat → Flow} (h : Flows w a n L) (hb : Below w.heap.size w w') : Flows w' a n L := by
  refine ⟨fun h0 => ?_, h.s1, h.s2, h.s3⟩
  obtain ⟨g, o, rfl, hg, hc⟩ := h.at_ h0
  exact ⟨g, o, rfl, Nat.lt_of_lt_of_le hg hb.size, fun i hi j v hv => (hb.cell (p := ⟨g, o + i * 12 + j, none⟩) hg).trans (hc i hi j v hv)⟩

theorem cell_of {w : World} {b : Nat} {cs : Array Value} {ty : TypeId} (h : w.heap[b]? = some (.cells cs ty)) (j : Nat) (v : Value) (hv : cs[j]? = some v) : w.cell? ⟨b, j, none⟩ = some v := by
  unfold World.cell?; rw [h]; exact hv

end Go.Proofs.Ytakmfcnmcjbbgaa.RejA
