/-
  No cell of these rows narrows 'for every input' (looked for: loops, veiled, ifaces, maps, wideKeys, modest, calm, conditions, laid).
  DERIVED. THE GIVEN ROWS OF THIS SEAT. 6 by the template 'for every input the law returns true; each argument reads behind the call as it read before'; 0 by the template 'total and deterministic' (their statements: YtbihelpnojjacaaGreatTotals.lean).
  GIVEN WITH THE SEED: the statements are not yours to turn. If you find one false, say at which input.
  Laid BY PROGRAM, IN A SANDBOX (cutbox-rows.mjs): the forced cells as the released guide's own fill.sh prints them over the translation 9392afb62ed3a744… (all of the seat's roots in one cut). By AI agents, Wed Nov 11 2026. No macro, syntax, notation, axiom, sorry.
-/
import Derived.Test.YtbihelpnojjacaaGreatChecked
import GoSem.Claim
import GoSem.ClaimJoined
import GoSem.ClaimMapViews
import Derived.JoinedTies
import Derived.KernelRfl
namespace Go.Proofs.YtbihelpnojjacaaGreat
/- THE CELL 'sum', in the pinned program and in every row, IS THE sha256 OF THE DUMP (.gsa) THAT YtbihelpnojjacaaGreatProg.lean LOADS. Nothing in Lean hashes anything: it is a label: what it is worth is what the hold of that sum in a sandbox is worth. -/
noncomputable def Tryz.pinned : Pinned := { name := "ytbihelpnojjacaagreat", sum := "9392afb62ed3a744a4b58d7c717036a25bd85bfd0b272c98662397b4a1c4c82d", checked := Tryz.checked }
namespace Rows
def none {H : Type} : Left H := { results := [], args := [] }

/-- 'spillwaylaw15.HotPlays': WHATEVER THE INPUT: true; the input reads as it did. -/
def hotPlaysSpec : ChangeSpec := { name := "hotPlays", fn := fun _ => fun
  | [d1, d2] => { results := [.lit (.bool true)], args := [d1, d2] }
  | _ => none }
def hotPlaysRow : OpenClaim := { program := "ytbihelpnojjacaagreat", sum := "9392afb62ed3a744a4b58d7c717036a25bd85bfd0b272c98662397b4a1c4c82d", func := "spillway/spillwaylaw15.HotPlays", spec := "hotPlays", inPlace := ["maps.clone"], unfollowed := true, recurses := true, plainKeys := false, apart := false }
def HotPlaysSaid : Prop := hotPlaysRow.holds Tryz.pinned (OpenSpec.ofChange hotPlaysSpec)

/-- ITS FALSE NEIGHBOUR: 'it returns false'. Refute it at one input. -/
def hotPlaysWrong : ChangeSpec := { name := "hotPlays", fn := fun _ => fun
  | [d1, d2] => { results := [.lit (.bool false)], args := [d1, d2] }
  | _ => none }
def HotPlaysWrongFalsely : Prop := hotPlaysRow.holds Tryz.pinned (OpenSpec.ofChange hotPlaysWrong)

/-- 'spillwaylaw15.HotBounds': WHATEVER THE INPUT: true; the input reads as it did. -/
def hotBoundsSpec : ChangeSpec := { name := "hotBounds", fn := fun _ => fun
  | [d1, d2] => { results := [.lit (.bool true)], args := [d1, d2] }
  | _ => none }
def hotBoundsRow : OpenClaim := { program := "ytbihelpnojjacaagreat", sum := "9392afb62ed3a744a4b58d7c717036a25bd85bfd0b272c98662397b4a1c4c82d", func := "spillway/spillwaylaw15.HotBounds", spec := "hotBounds", unfollowed := true, recurses := true, plainKeys := false, apart := false }
def HotBoundsSaid : Prop := hotBoundsRow.holds Tryz.pinned (OpenSpec.ofChange hotBoundsSpec)

/-- ITS FALSE NEIGHBOUR: 'it returns false'. Refute it at one input. -/
def hotBoundsWrong : ChangeSpec := { name := "hotBounds", fn := fun _ => fun
  | [d1, d2] => { results := [.lit (.bool false)], args := [d1, d2] }
  | _ => none }
def HotBoundsWrongFalsely : Prop := hotBoundsRow.holds Tryz.pinned (OpenSpec.ofChange hotBoundsWrong)

/-- 'spillwaylaw15.HotLooks': WHATEVER THE INPUT: true; the input reads as it did. -/
def hotLooksSpec : ChangeSpec := { name := "hotLooks", fn := fun _ => fun
  | [d1, d2] => { results := [.lit (.bool true)], args := [d1, d2] }
  | _ => none }
def hotLooksRow : OpenClaim := { program := "ytbihelpnojjacaagreat", sum := "9392afb62ed3a744a4b58d7c717036a25bd85bfd0b272c98662397b4a1c4c82d", func := "spillway/spillwaylaw15.HotLooks", spec := "hotLooks", unfollowed := true, recurses := true, plainKeys := false, apart := false }
def HotLooksSaid : Prop := hotLooksRow.holds Tryz.pinned (OpenSpec.ofChange hotLooksSpec)

/-- ITS FALSE NEIGHBOUR: 'it returns false'. Refute it at one input. -/
def hotLooksWrong : ChangeSpec := { name := "hotLooks", fn := fun _ => fun
  | [d1, d2] => { results := [.lit (.bool false)], args := [d1, d2] }
  | _ => none }
def HotLooksWrongFalsely : Prop := hotLooksRow.holds Tryz.pinned (OpenSpec.ofChange hotLooksWrong)

/-- 'spillwaylaw15.HotNone': WHATEVER THE INPUT: true; the input reads as it did. -/
def hotNoneSpec : ChangeSpec := { name := "hotNone", fn := fun _ => fun
  | [d1, d2] => { results := [.lit (.bool true)], args := [d1, d2] }
  | _ => none }
def hotNoneRow : OpenClaim := { program := "ytbihelpnojjacaagreat", sum := "9392afb62ed3a744a4b58d7c717036a25bd85bfd0b272c98662397b4a1c4c82d", func := "spillway/spillwaylaw15.HotNone", spec := "hotNone", inPlace := ["maps.clone"], unfollowed := true, recurses := true, plainKeys := false, apart := false }
def HotNoneSaid : Prop := hotNoneRow.holds Tryz.pinned (OpenSpec.ofChange hotNoneSpec)

/-- ITS FALSE NEIGHBOUR: 'it returns false'. Refute it at one input. -/
def hotNoneWrong : ChangeSpec := { name := "hotNone", fn := fun _ => fun
  | [d1, d2] => { results := [.lit (.bool false)], args := [d1, d2] }
  | _ => none }
def HotNoneWrongFalsely : Prop := hotNoneRow.holds Tryz.pinned (OpenSpec.ofChange hotNoneWrong)

/-- 'spillwaylaw15.HotApart': WHATEVER THE INPUT: true; the input reads as it did. -/
def hotApartSpec : ChangeSpec := { name := "hotApart", fn := fun _ => fun
  | [d1, d2] => { results := [.lit (.bool true)], args := [d1, d2] }
  | _ => none }
def hotApartRow : OpenClaim := { program := "ytbihelpnojjacaagreat", sum := "9392afb62ed3a744a4b58d7c717036a25bd85bfd0b272c98662397b4a1c4c82d", func := "spillway/spillwaylaw15.HotApart", spec := "hotApart", inPlace := ["maps.clone"], unfollowed := true, recurses := true, plainKeys := false, apart := false }
def HotApartSaid : Prop := hotApartRow.holds Tryz.pinned (OpenSpec.ofChange hotApartSpec)

/-- ITS FALSE NEIGHBOUR: 'it returns false'. Refute it at one input. -/
def hotApartWrong : ChangeSpec := { name := "hotApart", fn := fun _ => fun
  | [d1, d2] => { results := [.lit (.bool false)], args := [d1, d2] }
  | _ => none }
def HotApartWrongFalsely : Prop := hotApartRow.holds Tryz.pinned (OpenSpec.ofChange hotApartWrong)

/-- 'spillwaytop.TopTwice': WHATEVER THE INPUT: true; the input reads as it did. -/
def topTwiceSpec : ChangeSpec := { name := "topTwice", fn := fun _ => fun
  | [d1, d2] => { results := [.lit (.bool true)], args := [d1, d2] }
  | _ => none }
def topTwiceRow : OpenClaim := { program := "ytbihelpnojjacaagreat", sum := "9392afb62ed3a744a4b58d7c717036a25bd85bfd0b272c98662397b4a1c4c82d", func := "spillway/spillwaytop.TopTwice", spec := "topTwice", unfollowed := true, recurses := true, plainKeys := false, apart := false }
def TopTwiceSaid : Prop := topTwiceRow.holds Tryz.pinned (OpenSpec.ofChange topTwiceSpec)

/-- ITS FALSE NEIGHBOUR: 'it returns false'. Refute it at one input. -/
def topTwiceWrong : ChangeSpec := { name := "topTwice", fn := fun _ => fun
  | [d1, d2] => { results := [.lit (.bool false)], args := [d1, d2] }
  | _ => none }
def TopTwiceWrongFalsely : Prop := topTwiceRow.holds Tryz.pinned (OpenSpec.ofChange topTwiceWrong)

/- THE SECOND FORM. 'bulk': how many values and letters a reading holds, each counted each time it is reached (what is shared counts as often as it is met; a slice's spare places count too). A statement '..UptoSaid' is the law's where the arguments, and the package variables that the reading takes, are together of bulk at most 1048576: NARROWER than '..Said'. Prove '..Said' where nothing that the law and all that it calls make is longer than what came in: it says more and counts as full. Else prove '..UptoSaid'. A law counts once. -/
mutual
def uptoBulk {H : Type} : DataW H → Nat
  | .lit (.string bytes) => bytes.length + 1
  | .lit _ => 1
  | .nil => 1
  | .ptr d => uptoBulk d + 1
  | .slice elems spare => uptoBulkAll elems + uptoBulkAll spare + 1
  | .agg parts => uptoBulkAll parts + 1
  | .iface _ d => uptoBulk d + 1
  | .map entries => uptoBulkEntries entries + 1
  | .held _ => 1
def uptoBulkAll {H : Type} : List (DataW H) → Nat
  | [] => 0
  | d :: r => uptoBulk d + uptoBulkAll r
def uptoBulkEntries {H : Type} : List (Lit × DataW H) → Nat
  | [] => 0
  | x :: r => uptoBulkEntry x + uptoBulkEntries r
def uptoBulkEntry {H : Type} : Lit × DataW H → Nat
  | (.string bytes, d) => bytes.length + uptoBulk d + 1
  | (_, d) => uptoBulk d + 1
 end
def uptoSmall : (H : Type) → List (DataW H) → Bool := fun _ ds => decide (uptoBulkAll ds ≤ 1048576)
def OpenSpec.upto (s : _root_.Go.ChangeSpec) : _root_.Go.OpenSpec := { _root_.Go.OpenSpec.ofChange s with cond := some uptoSmall }

/-- 'spillwaylaw15.HotPlays', WHERE WHAT IT READS IS OF BULK AT MOST 1048576: true; the input reads as it did. -/
def hotPlaysUptoRow : OpenClaim := { program := "ytbihelpnojjacaagreat", sum := "9392afb62ed3a744a4b58d7c717036a25bd85bfd0b272c98662397b4a1c4c82d", func := "spillway/spillwaylaw15.HotPlays", spec := "hotPlays", inPlace := ["maps.clone"], unfollowed := true, recurses := true, plainKeys := false, apart := false, narrowed := true }
def HotPlaysUptoSaid : Prop := hotPlaysUptoRow.holds Tryz.pinned (OpenSpec.upto hotPlaysSpec)

/-- 'spillwaylaw15.HotBounds', WHERE WHAT IT READS IS OF BULK AT MOST 1048576: true; the input reads as it did. -/
def hotBoundsUptoRow : OpenClaim := { program := "ytbihelpnojjacaagreat", sum := "9392afb62ed3a744a4b58d7c717036a25bd85bfd0b272c98662397b4a1c4c82d", func := "spillway/spillwaylaw15.HotBounds", spec := "hotBounds", unfollowed := true, recurses := true, plainKeys := false, apart := false, narrowed := true }
def HotBoundsUptoSaid : Prop := hotBoundsUptoRow.holds Tryz.pinned (OpenSpec.upto hotBoundsSpec)

/-- 'spillwaylaw15.HotLooks', WHERE WHAT IT READS IS OF BULK AT MOST 1048576: true; the input reads as it did. -/
def hotLooksUptoRow : OpenClaim := { program := "ytbihelpnojjacaagreat", sum := "9392afb62ed3a744a4b58d7c717036a25bd85bfd0b272c98662397b4a1c4c82d", func := "spillway/spillwaylaw15.HotLooks", spec := "hotLooks", unfollowed := true, recurses := true, plainKeys := false, apart := false, narrowed := true }
def HotLooksUptoSaid : Prop := hotLooksUptoRow.holds Tryz.pinned (OpenSpec.upto hotLooksSpec)

/-- 'spillwaylaw15.HotNone', WHERE WHAT IT READS IS OF BULK AT MOST 1048576: true; the input reads as it did. -/
def hotNoneUptoRow : OpenClaim := { program := "ytbihelpnojjacaagreat", sum := "9392afb62ed3a744a4b58d7c717036a25bd85bfd0b272c98662397b4a1c4c82d", func := "spillway/spillwaylaw15.HotNone", spec := "hotNone", inPlace := ["maps.clone"], unfollowed := true, recurses := true, plainKeys := false, apart := false, narrowed := true }
def HotNoneUptoSaid : Prop := hotNoneUptoRow.holds Tryz.pinned (OpenSpec.upto hotNoneSpec)

/-- 'spillwaylaw15.HotApart', WHERE WHAT IT READS IS OF BULK AT MOST 1048576: true; the input reads as it did. -/
def hotApartUptoRow : OpenClaim := { program := "ytbihelpnojjacaagreat", sum := "9392afb62ed3a744a4b58d7c717036a25bd85bfd0b272c98662397b4a1c4c82d", func := "spillway/spillwaylaw15.HotApart", spec := "hotApart", inPlace := ["maps.clone"], unfollowed := true, recurses := true, plainKeys := false, apart := false, narrowed := true }
def HotApartUptoSaid : Prop := hotApartUptoRow.holds Tryz.pinned (OpenSpec.upto hotApartSpec)

/-- 'spillwaytop.TopTwice', WHERE WHAT IT READS IS OF BULK AT MOST 1048576: true; the input reads as it did. -/
def topTwiceUptoRow : OpenClaim := { program := "ytbihelpnojjacaagreat", sum := "9392afb62ed3a744a4b58d7c717036a25bd85bfd0b272c98662397b4a1c4c82d", func := "spillway/spillwaytop.TopTwice", spec := "topTwice", unfollowed := true, recurses := true, plainKeys := false, apart := false, narrowed := true }
def TopTwiceUptoSaid : Prop := topTwiceUptoRow.holds Tryz.pinned (OpenSpec.upto topTwiceSpec)

end Rows
end Go.Proofs.YtbihelpnojjacaaGreat
