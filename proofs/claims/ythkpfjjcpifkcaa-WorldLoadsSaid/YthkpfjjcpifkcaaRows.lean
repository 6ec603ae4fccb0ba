/-
  No cell of these rows narrows 'for every input' (looked for: loops, veiled, ifaces, maps, wideKeys, modest, calm, conditions, laid).
  DERIVED. THE GIVEN ROWS OF THIS SEAT. 4 by the template 'for every input the law returns true; each argument reads behind the call as it read before'; 0 by the template 'total and deterministic' (their statements: YthkpfjjcpifkcaaTotals.lean).
  GIVEN WITH THE SEED: the statements are not yours to turn. If you find one false, say at which input.
  Laid BY PROGRAM, IN A SANDBOX (cutbox-rows.mjs): the forced cells as the released guide's own fill.sh prints them over the translation 0042cf8da664f9d8… (all of the seat's roots in one cut). By AI agents, Wed Nov 11 2026. No macro, syntax, notation, axiom, sorry.
-/
import Derived.Test.YthkpfjjcpifkcaaChecked
import GoSem.Claim
import GoSem.ClaimJoined
import GoSem.ClaimMapViews
import Derived.JoinedTies
import Derived.KernelRfl
namespace Go.Proofs.Ythkpfjjcpifkcaa
/- THE CELL 'sum', in the pinned program and in every row, IS THE sha256 OF THE DUMP (.gsa) THAT YthkpfjjcpifkcaaProg.lean LOADS. Nothing in Lean hashes anything: it is a label: what it is worth is what the hold of that sum in a sandbox is worth. -/
noncomputable def Try.pinned : Pinned := { name := "ythkpfjjcpifkcaa", sum := "0042cf8da664f9d81afd19577281d4fbea73e2ae8f5eb0e639c81fe5630756ce", checked := Try.checked }
namespace Rows
def none {H : Type} : Left H := { results := [], args := [] }

/-- 'spillwaylaw02.WorldShuffles': WHATEVER THE INPUT: true; the input reads as it did. -/
def worldShufflesSpec : ChangeSpec := { name := "worldShuffles", fn := fun _ => fun
  | [d1, d2, d3] => { results := [.lit (.bool true)], args := [d1, d2, d3] }
  | _ => none }
def worldShufflesRow : OpenClaim := { program := "ythkpfjjcpifkcaa", sum := "0042cf8da664f9d81afd19577281d4fbea73e2ae8f5eb0e639c81fe5630756ce", func := "spillway/spillwaylaw02.WorldShuffles", spec := "worldShuffles", unfollowed := true, recurses := true, apart := false }
def WorldShufflesSaid : Prop := worldShufflesRow.holds Try.pinned (OpenSpec.ofChange worldShufflesSpec)

/-- ITS FALSE NEIGHBOUR: 'it returns false'. Refute it at one input. -/
def worldShufflesWrong : ChangeSpec := { name := "worldShuffles", fn := fun _ => fun
  | [d1, d2, d3] => { results := [.lit (.bool false)], args := [d1, d2, d3] }
  | _ => none }
def WorldShufflesWrongFalsely : Prop := worldShufflesRow.holds Try.pinned (OpenSpec.ofChange worldShufflesWrong)

/-- 'spillwaylaw02.WorldLoads': WHATEVER THE INPUT: true; the input reads as it did. -/
def worldLoadsSpec : ChangeSpec := { name := "worldLoads", fn := fun _ => fun
  | [d1, d2, d3] => { results := [.lit (.bool true)], args := [d1, d2, d3] }
  | _ => none }
def worldLoadsRow : OpenClaim := { program := "ythkpfjjcpifkcaa", sum := "0042cf8da664f9d81afd19577281d4fbea73e2ae8f5eb0e639c81fe5630756ce", func := "spillway/spillwaylaw02.WorldLoads", spec := "worldLoads", unfollowed := true, recurses := true, apart := false }
def WorldLoadsSaid : Prop := worldLoadsRow.holds Try.pinned (OpenSpec.ofChange worldLoadsSpec)

/-- ITS FALSE NEIGHBOUR: 'it returns false'. Refute it at one input. -/
def worldLoadsWrong : ChangeSpec := { name := "worldLoads", fn := fun _ => fun
  | [d1, d2, d3] => { results := [.lit (.bool false)], args := [d1, d2, d3] }
  | _ => none }
def WorldLoadsWrongFalsely : Prop := worldLoadsRow.holds Try.pinned (OpenSpec.ofChange worldLoadsWrong)

/-- 'spillwaylaw07.RulesMany': WHATEVER THE INPUT: true; the input reads as it did. -/
def rulesManySpec : ChangeSpec := { name := "rulesMany", fn := fun _ => fun
  | [d1, d2] => { results := [.lit (.bool true)], args := [d1, d2] }
  | _ => none }
def rulesManyRow : OpenClaim := { program := "ythkpfjjcpifkcaa", sum := "0042cf8da664f9d81afd19577281d4fbea73e2ae8f5eb0e639c81fe5630756ce", func := "spillway/spillwaylaw07.RulesMany", spec := "rulesMany", unfollowed := true, recurses := true, apart := false }
def RulesManySaid : Prop := rulesManyRow.holds Try.pinned (OpenSpec.ofChange rulesManySpec)

/-- ITS FALSE NEIGHBOUR: 'it returns false'. Refute it at one input. -/
def rulesManyWrong : ChangeSpec := { name := "rulesMany", fn := fun _ => fun
  | [d1, d2] => { results := [.lit (.bool false)], args := [d1, d2] }
  | _ => none }
def RulesManyWrongFalsely : Prop := rulesManyRow.holds Try.pinned (OpenSpec.ofChange rulesManyWrong)

/-- 'spillwaylaw07.RulesCopies': WHATEVER THE INPUT: true; the input reads as it did. -/
def rulesCopiesSpec : ChangeSpec := { name := "rulesCopies", fn := fun _ => fun
  | [d1, d2] => { results := [.lit (.bool true)], args := [d1, d2] }
  | _ => none }
def rulesCopiesRow : OpenClaim := { program := "ythkpfjjcpifkcaa", sum := "0042cf8da664f9d81afd19577281d4fbea73e2ae8f5eb0e639c81fe5630756ce", func := "spillway/spillwaylaw07.RulesCopies", spec := "rulesCopies", unfollowed := true, recurses := true, apart := false }
def RulesCopiesSaid : Prop := rulesCopiesRow.holds Try.pinned (OpenSpec.ofChange rulesCopiesSpec)

/-- ITS FALSE NEIGHBOUR: 'it returns false'. Refute it at one input. -/
def rulesCopiesWrong : ChangeSpec := { name := "rulesCopies", fn := fun _ => fun
  | [d1, d2] => { results := [.lit (.bool false)], args := [d1, d2] }
  | _ => none }
def RulesCopiesWrongFalsely : Prop := rulesCopiesRow.holds Try.pinned (OpenSpec.ofChange rulesCopiesWrong)

/- THE SECOND FORM. 'bulk': how many values and letters a reading holds, each counted each time it is reached (what is shared counts as often as it is met; a slice's spare places count too). A statement '..UptoSaid' is the law's where the arguments, and the package variables that the reading takes, are together of bulk at most 1048576: NARROWER than '..Said'. Prove '..Said' where nothing that the law and all that it calls make is longer than what came in: it says more and counts as full. Else prove '..UptoSaid'. A law counts once. -/
mutual
def uptoBulk {H : Type} : DataW H → Nat
  | .lit (.string bytes) => bytes.length + 1
  | .lit _ => 1
  | .nil => 1
  | .ptr d => uptoBulk d + 1
  | .slice elems spare => uptoBulkAll elems + uptoBulkAll spare + 1
  | .agg parts => uptoBulkAll parts + 1
  | .iface _ d => uptoBulk d + 1
  | .map entries => uptoBulkEntries entries + 1
  | .held _ => 1
def uptoBulkAll {H : Type} : List (DataW H) → Nat
  | [] => 0
  | d :: r => uptoBulk d + uptoBulkAll r
def uptoBulkEntries {H : Type} : List (Lit × DataW H) → Nat
  | [] => 0
  | x :: r => uptoBulkEntry x + uptoBulkEntries r
def uptoBulkEntry {H : Type} : Lit × DataW H → Nat
  | (.string bytes, d) => bytes.length + uptoBulk d + 1
  | (_, d) => uptoBulk d + 1
 end
def uptoSmall : (H : Type) → List (DataW H) → Bool := fun _ ds => decide (uptoBulkAll ds ≤ 1048576)
def OpenSpec.upto (s : _root_.Go.ChangeSpec) : _root_.Go.OpenSpec := { _root_.Go.OpenSpec.ofChange s with cond := some uptoSmall }

/-- 'spillwaylaw02.WorldShuffles', WHERE WHAT IT READS IS OF BULK AT MOST 1048576: true; the input reads as it did. -/
def worldShufflesUptoRow : OpenClaim := { program := "ythkpfjjcpifkcaa", sum := "0042cf8da664f9d81afd19577281d4fbea73e2ae8f5eb0e639c81fe5630756ce", func := "spillway/spillwaylaw02.WorldShuffles", spec := "worldShuffles", unfollowed := true, recurses := true, apart := false, narrowed := true }
def WorldShufflesUptoSaid : Prop := worldShufflesUptoRow.holds Try.pinned (OpenSpec.upto worldShufflesSpec)

/-- 'spillwaylaw02.WorldLoads', WHERE WHAT IT READS IS OF BULK AT MOST 1048576: true; the input reads as it did. -/
def worldLoadsUptoRow : OpenClaim := { program := "ythkpfjjcpifkcaa", sum := "0042cf8da664f9d81afd19577281d4fbea73e2ae8f5eb0e639c81fe5630756ce", func := "spillway/spillwaylaw02.WorldLoads", spec := "worldLoads", unfollowed := true, recurses := true, apart := false, narrowed := true }
def WorldLoadsUptoSaid : Prop := worldLoadsUptoRow.holds Try.pinned (OpenSpec.upto worldLoadsSpec)

/-- 'spillwaylaw07.RulesMany', WHERE WHAT IT READS IS OF BULK AT MOST 1048576: true; the input reads as it did. -/
def rulesManyUptoRow : OpenClaim := { program := "ythkpfjjcpifkcaa", sum := "0042cf8da664f9d81afd19577281d4fbea73e2ae8f5eb0e639c81fe5630756ce", func := "spillway/spillwaylaw07.RulesMany", spec := "rulesMany", unfollowed := true, recurses := true, apart := false, narrowed := true }
def RulesManyUptoSaid : Prop := rulesManyUptoRow.holds Try.pinned (OpenSpec.upto rulesManySpec)

/-- 'spillwaylaw07.RulesCopies', WHERE WHAT IT READS IS OF BULK AT MOST 1048576: true; the input reads as it did. -/
def rulesCopiesUptoRow : OpenClaim := { program := "ythkpfjjcpifkcaa", sum := "0042cf8da664f9d81afd19577281d4fbea73e2ae8f5eb0e639c81fe5630756ce", func := "spillway/spillwaylaw07.RulesCopies", spec := "rulesCopies", unfollowed := true, recurses := true, apart := false, narrowed := true }
def RulesCopiesUptoSaid : Prop := rulesCopiesUptoRow.holds Try.pinned (OpenSpec.upto rulesCopiesSpec)

end Rows
end Go.Proofs.Ythkpfjjcpifkcaa
