/-
  No cell of these rows narrows 'for every input' (looked for: loops, veiled, ifaces, maps, wideKeys, modest, calm, conditions, laid).
  DERIVED. THE GIVEN ROWS OF THIS SEAT. 6 by the template 'for every input the law returns true; each argument reads behind the call as it read before'; 0 by the template 'total and deterministic' (their statements: YtcmklahbophclaaTotals.lean).
  GIVEN WITH THE SEED: the statements are not yours to turn. If you find one false, say at which input.
  Laid BY PROGRAM, IN A SANDBOX (cutbox-rows.mjs): the forced cells as the released guide's own fill.sh prints them over the translation ed92101f4ff5fad9… (all of the seat's roots in one cut). By AI agents, Wed Nov 11 2026. No macro, syntax, notation, axiom, sorry.
-/
import Derived.Test.YtcmklahbophclaaChecked
import GoSem.Claim
import GoSem.ClaimJoined
import GoSem.ClaimMapViews
import Derived.JoinedTies
import Derived.KernelRfl
namespace Go.Proofs.Ytcmklahbophclaa
/- THE CELL 'sum', in the pinned program and in every row, IS THE sha256 OF THE DUMP (.gsa) THAT YtcmklahbophclaaProg.lean LOADS. Nothing in Lean hashes anything: it is a label: what it is worth is what the hold of that sum in a sandbox is worth. -/
noncomputable def Try.pinned : Pinned := { name := "ytcmklahbophclaa", sum := "ed92101f4ff5fad98b672363b74ab5d24f35ce4ce43ec82ac663cdcbddc70940", checked := Try.checked }
namespace Rows
def none {H : Type} : Left H := { results := [], args := [] }

/-- 'spillwaylaw14.BreakerAll': WHATEVER THE INPUT: true; the input reads as it did. -/
def breakerAllSpec : ChangeSpec := { name := "breakerAll", fn := fun _ => fun
  | [d1, d2, d3] => { results := [.lit (.bool true)], args := [d1, d2, d3] }
  | _ => none }
def breakerAllRow : OpenClaim := { program := "ytcmklahbophclaa", sum := "ed92101f4ff5fad98b672363b74ab5d24f35ce4ce43ec82ac663cdcbddc70940", func := "spillway/spillwaylaw14.BreakerAll", spec := "breakerAll", unfollowed := true, recurses := true, apart := false }
def BreakerAllSaid : Prop := breakerAllRow.holds Try.pinned (OpenSpec.ofChange breakerAllSpec)

/-- ITS FALSE NEIGHBOUR: 'it returns false'. Refute it at one input. -/
def breakerAllWrong : ChangeSpec := { name := "breakerAll", fn := fun _ => fun
  | [d1, d2, d3] => { results := [.lit (.bool false)], args := [d1, d2, d3] }
  | _ => none }
def BreakerAllWrongFalsely : Prop := breakerAllRow.holds Try.pinned (OpenSpec.ofChange breakerAllWrong)

/-- 'spillwaylaw14.BreakerHolds': WHATEVER THE INPUT: true; the input reads as it did. -/
def breakerHoldsSpec : ChangeSpec := { name := "breakerHolds", fn := fun _ => fun
  | [d1, d2] => { results := [.lit (.bool true)], args := [d1, d2] }
  | _ => none }
def breakerHoldsRow : OpenClaim := { program := "ytcmklahbophclaa", sum := "ed92101f4ff5fad98b672363b74ab5d24f35ce4ce43ec82ac663cdcbddc70940", func := "spillway/spillwaylaw14.BreakerHolds", spec := "breakerHolds", unfollowed := true, recurses := true, apart := false }
def BreakerHoldsSaid : Prop := breakerHoldsRow.holds Try.pinned (OpenSpec.ofChange breakerHoldsSpec)

/-- ITS FALSE NEIGHBOUR: 'it returns false'. Refute it at one input. -/
def breakerHoldsWrong : ChangeSpec := { name := "breakerHolds", fn := fun _ => fun
  | [d1, d2] => { results := [.lit (.bool false)], args := [d1, d2] }
  | _ => none }
def BreakerHoldsWrongFalsely : Prop := breakerHoldsRow.holds Try.pinned (OpenSpec.ofChange breakerHoldsWrong)

/-- 'spillwaylaw14.BreakerEnds': WHATEVER THE INPUT: true; the input reads as it did. -/
def breakerEndsSpec : ChangeSpec := { name := "breakerEnds", fn := fun _ => fun
  | [d1, d2, d3] => { results := [.lit (.bool true)], args := [d1, d2, d3] }
  | _ => none }
def breakerEndsRow : OpenClaim := { program := "ytcmklahbophclaa", sum := "ed92101f4ff5fad98b672363b74ab5d24f35ce4ce43ec82ac663cdcbddc70940", func := "spillway/spillwaylaw14.BreakerEnds", spec := "breakerEnds", unfollowed := true, recurses := true, apart := false }
def BreakerEndsSaid : Prop := breakerEndsRow.holds Try.pinned (OpenSpec.ofChange breakerEndsSpec)

/-- ITS FALSE NEIGHBOUR: 'it returns false'. Refute it at one input. -/
def breakerEndsWrong : ChangeSpec := { name := "breakerEnds", fn := fun _ => fun
  | [d1, d2, d3] => { results := [.lit (.bool false)], args := [d1, d2, d3] }
  | _ => none }
def BreakerEndsWrongFalsely : Prop := breakerEndsRow.holds Try.pinned (OpenSpec.ofChange breakerEndsWrong)

/-- 'spillwaylaw14.BreakerBetter': WHATEVER THE INPUT: true; the input reads as it did. -/
def breakerBetterSpec : ChangeSpec := { name := "breakerBetter", fn := fun _ => fun
  | [d1, d2, d3] => { results := [.lit (.bool true)], args := [d1, d2, d3] }
  | _ => none }
def breakerBetterRow : OpenClaim := { program := "ytcmklahbophclaa", sum := "ed92101f4ff5fad98b672363b74ab5d24f35ce4ce43ec82ac663cdcbddc70940", func := "spillway/spillwaylaw14.BreakerBetter", spec := "breakerBetter", unfollowed := true, recurses := true, apart := false }
def BreakerBetterSaid : Prop := breakerBetterRow.holds Try.pinned (OpenSpec.ofChange breakerBetterSpec)

/-- ITS FALSE NEIGHBOUR: 'it returns false'. Refute it at one input. -/
def breakerBetterWrong : ChangeSpec := { name := "breakerBetter", fn := fun _ => fun
  | [d1, d2, d3] => { results := [.lit (.bool false)], args := [d1, d2, d3] }
  | _ => none }
def BreakerBetterWrongFalsely : Prop := breakerBetterRow.holds Try.pinned (OpenSpec.ofChange breakerBetterWrong)

/-- 'spillwaylaw14.BreakerNone': WHATEVER THE INPUT: true; the input reads as it did. -/
def breakerNoneSpec : ChangeSpec := { name := "breakerNone", fn := fun _ => fun
  | [d1, d2] => { results := [.lit (.bool true)], args := [d1, d2] }
  | _ => none }
def breakerNoneRow : OpenClaim := { program := "ytcmklahbophclaa", sum := "ed92101f4ff5fad98b672363b74ab5d24f35ce4ce43ec82ac663cdcbddc70940", func := "spillway/spillwaylaw14.BreakerNone", spec := "breakerNone", unfollowed := true, recurses := true, apart := false }
def BreakerNoneSaid : Prop := breakerNoneRow.holds Try.pinned (OpenSpec.ofChange breakerNoneSpec)

/-- ITS FALSE NEIGHBOUR: 'it returns false'. Refute it at one input. -/
def breakerNoneWrong : ChangeSpec := { name := "breakerNone", fn := fun _ => fun
  | [d1, d2] => { results := [.lit (.bool false)], args := [d1, d2] }
  | _ => none }
def BreakerNoneWrongFalsely : Prop := breakerNoneRow.holds Try.pinned (OpenSpec.ofChange breakerNoneWrong)

/-- 'spillwaytop.TopProbe': WHATEVER THE INPUT: true; the input reads as it did. -/
def topProbeSpec : ChangeSpec := { name := "topProbe", fn := fun _ => fun
  | [d1, d2] => { results := [.lit (.bool true)], args := [d1, d2] }
  | _ => none }
def topProbeRow : OpenClaim := { program := "ytcmklahbophclaa", sum := "ed92101f4ff5fad98b672363b74ab5d24f35ce4ce43ec82ac663cdcbddc70940", func := "spillway/spillwaytop.TopProbe", spec := "topProbe", inPlace := ["math/bits.Add64"], unfollowed := true, recurses := true, named := ["math/bits.divideError", "math/bits.overflowError"], apart := false }
def TopProbeSaid : Prop := topProbeRow.holds Try.pinned (OpenSpec.ofChange topProbeSpec)

/-- ITS FALSE NEIGHBOUR: 'it returns false'. Refute it at one input. -/
def topProbeWrong : ChangeSpec := { name := "topProbe", fn := fun _ => fun
  | [d1, d2] => { results := [.lit (.bool false)], args := [d1, d2] }
  | _ => none }
def TopProbeWrongFalsely : Prop := topProbeRow.holds Try.pinned (OpenSpec.ofChange topProbeWrong)

/- THE SECOND FORM. 'bulk': how many values and letters a reading holds, each counted each time it is reached (what is shared counts as often as it is met; a slice's spare places count too). A statement '..UptoSaid' is the law's where the arguments, and the package variables that the reading takes, are together of bulk at most 1048576: NARROWER than '..Said'. Prove '..Said' where nothing that the law and all that it calls make is longer than what came in: it says more and counts as full. Else prove '..UptoSaid'. A law counts once. -/
mutual
def uptoBulk {H : Type} : DataW H → Nat
  | .lit (.string bytes) => bytes.length + 1
  | .lit _ => 1
  | .nil => 1
  | .ptr d => uptoBulk d + 1
  | .slice elems spare => uptoBulkAll elems + uptoBulkAll spare + 1
  | .agg parts => uptoBulkAll parts + 1
  | .iface _ d => uptoBulk d + 1
  | .map entries => uptoBulkEntries entries + 1
  | .held _ => 1
def uptoBulkAll {H : Type} : List (DataW H) → Nat
  | [] => 0
  | d :: r => uptoBulk d + uptoBulkAll r
def uptoBulkEntries {H : Type} : List (Lit × DataW H) → Nat
  | [] => 0
  | x :: r => uptoBulkEntry x + uptoBulkEntries r
def uptoBulkEntry {H : Type} : Lit × DataW H → Nat
  | (.string bytes, d) => bytes.length + uptoBulk d + 1
  | (_, d) => uptoBulk d + 1
 end
def uptoSmall : (H : Type) → List (DataW H) → Bool := fun _ ds => decide (uptoBulkAll ds ≤ 1048576)
def OpenSpec.upto (s : _root_.Go.ChangeSpec) : _root_.Go.OpenSpec := { _root_.Go.OpenSpec.ofChange s with cond := some uptoSmall }

/-- 'spillwaylaw14.BreakerAll', WHERE WHAT IT READS IS OF BULK AT MOST 1048576: true; the input reads as it did. -/
def breakerAllUptoRow : OpenClaim := { program := "ytcmklahbophclaa", sum := "ed92101f4ff5fad98b672363b74ab5d24f35ce4ce43ec82ac663cdcbddc70940", func := "spillway/spillwaylaw14.BreakerAll", spec := "breakerAll", unfollowed := true, recurses := true, apart := false, narrowed := true }
def BreakerAllUptoSaid : Prop := breakerAllUptoRow.holds Try.pinned (OpenSpec.upto breakerAllSpec)

/-- 'spillwaylaw14.BreakerHolds', WHERE WHAT IT READS IS OF BULK AT MOST 1048576: true; the input reads as it did. -/
def breakerHoldsUptoRow : OpenClaim := { program := "ytcmklahbophclaa", sum := "ed92101f4ff5fad98b672363b74ab5d24f35ce4ce43ec82ac663cdcbddc70940", func := "spillway/spillwaylaw14.BreakerHolds", spec := "breakerHolds", unfollowed := true, recurses := true, apart := false, narrowed := true }
def BreakerHoldsUptoSaid : Prop := breakerHoldsUptoRow.holds Try.pinned (OpenSpec.upto breakerHoldsSpec)

/-- 'spillwaylaw14.BreakerEnds', WHERE WHAT IT READS IS OF BULK AT MOST 1048576: true; the input reads as it did. -/
def breakerEndsUptoRow : OpenClaim := { program := "ytcmklahbophclaa", sum := "ed92101f4ff5fad98b672363b74ab5d24f35ce4ce43ec82ac663cdcbddc70940", func := "spillway/spillwaylaw14.BreakerEnds", spec := "breakerEnds", unfollowed := true, recurses := true, apart := false, narrowed := true }
def BreakerEndsUptoSaid : Prop := breakerEndsUptoRow.holds Try.pinned (OpenSpec.upto breakerEndsSpec)

/-- 'spillwaylaw14.BreakerBetter', WHERE WHAT IT READS IS OF BULK AT MOST 1048576: true; the input reads as it did. -/
def breakerBetterUptoRow : OpenClaim := { program := "ytcmklahbophclaa", sum := "ed92101f4ff5fad98b672363b74ab5d24f35ce4ce43ec82ac663cdcbddc70940", func := "spillway/spillwaylaw14.BreakerBetter", spec := "breakerBetter", unfollowed := true, recurses := true, apart := false, narrowed := true }
def BreakerBetterUptoSaid : Prop := breakerBetterUptoRow.holds Try.pinned (OpenSpec.upto breakerBetterSpec)

/-- 'spillwaylaw14.BreakerNone', WHERE WHAT IT READS IS OF BULK AT MOST 1048576: true; the input reads as it did. -/
def breakerNoneUptoRow : OpenClaim := { program := "ytcmklahbophclaa", sum := "ed92101f4ff5fad98b672363b74ab5d24f35ce4ce43ec82ac663cdcbddc70940", func := "spillway/spillwaylaw14.BreakerNone", spec := "breakerNone", unfollowed := true, recurses := true, apart := false, narrowed := true }
def BreakerNoneUptoSaid : Prop := breakerNoneUptoRow.holds Try.pinned (OpenSpec.upto breakerNoneSpec)

/-- 'spillwaytop.TopProbe', WHERE WHAT IT READS IS OF BULK AT MOST 1048576: true; the input reads as it did. -/
def topProbeUptoRow : OpenClaim := { program := "ytcmklahbophclaa", sum := "ed92101f4ff5fad98b672363b74ab5d24f35ce4ce43ec82ac663cdcbddc70940", func := "spillway/spillwaytop.TopProbe", spec := "topProbe", inPlace := ["math/bits.Add64"], unfollowed := true, recurses := true, named := ["math/bits.divideError", "math/bits.overflowError"], apart := false, narrowed := true }
def TopProbeUptoSaid : Prop := topProbeUptoRow.holds Try.pinned (OpenSpec.upto topProbeSpec)

end Rows
end Go.Proofs.Ytcmklahbophclaa
