/- Contracts of world's chance and of clocks' Set and Fork. -/
import Derived.Test.YtbihelpnojjacaaGreatClk
import Derived.Laws.Bits64
namespace Go.Proofs.YtbihelpnojjacaaGreat.WldA
open Go.ChangeShapes Go.WideShapes Go.ChangeAt Go.RowKit Base ClkM Clk

/-- what a state says -/
def mixN (x : Nat) : Nat :=
  let a := (x ^^^ x / 1073741824) * 13787848793156543929 % 18446744073709551616
  let b := (a ^^^ a / 134217728) * 10723151780598845931 % 18446744073709551616
  b ^^^ b / 2147483648

theorem mix_eq (x : Nat) (hx : x < 18446744073709551616) :
    bits BinOp.xor IntKind.u64
      (IntKind.u64.wrap (bits BinOp.xor IntKind.u64 (IntKind.u64.wrap (bits BinOp.xor IntKind.u64 (x : Int) ((x : Int) / 1073741824) * 13787848793156543929)) (IntKind.u64.wrap (bits BinOp.xor IntKind.u64 (x : Int) ((x : Int) / 1073741824) * 13787848793156543929) / 134217728) * 10723151780598845931))
      (IntKind.u64.wrap (bits BinOp.xor IntKind.u64 (IntKind.u64.wrap (bits BinOp.xor IntKind.u64 (x : Int) ((x : Int) / 1073741824) * 13787848793156543929)) (IntKind.u64.wrap (bits BinOp.xor IntKind.u64 (x : Int) ((x : Int) / 1073741824) * 13787848793156543929) / 134217728) * 10723151780598845931) / 2147483648) = ((mixN x : Nat) : Int) := by
  unfold mixN
  dsimp only
  have e1 : IntKind.u64.wrap (bits .xor .u64 (x : Int) ((x : Int) / 1073741824) * 13787848793156543929) = _ := mixStep_u64 x 1073741824 13787848793156543929 hx
  rw [e1]
  obtain ⟨A, hA⟩ : ∃ A, A = (x ^^^ x / 1073741824) * 13787848793156543929 % 18446744073709551616 := ⟨_, rfl⟩
  have hA' : A < 18446744073709551616 := by rw [hA]; exact Nat.mod_lt _ (by decide)
  rw [← hA]
  clear hA e1
  have e2 : IntKind.u64.wrap (bits .xor .u64 (A : Int) ((A : Int) / 134217728) * 10723151780598845931) = _ := mixStep_u64 A 134217728 10723151780598845931 hA'
  rw [e2]
  obtain ⟨B, hB⟩ : ∃ B, B = (A ^^^ A / 134217728) * 10723151780598845931 % 18446744073709551616 := ⟨_, rfl⟩
  have hB' : B < 18446744073709551616 := by rw [hB]; exact Nat.mod_lt _ (by decide)
  rw [← hB]
  exact xorShift_u64 B 2147483648 hB'

set_option maxHeartbeats 400000 in
theorem mix_look (x : Nat) (hx : x < 18446744073709551616) (w : World) :
    Calls Tryz.prog 139 #[.int .u64 x] w fun e w' => e = .returned (.int .u64 (mixN x)) ∧ w = w' := by
  have e := mix_eq x hx
  clear hx
  go_enter Tryz.func139, Tryz.ntmps139
  go_wp2
  go_ret
  exact ⟨rfl, rfl⟩

/-- the state behind a number -/
def stepN (x : Nat) : Nat := (x + 11400714819323198485) % 18446744073709551616

theorem stepN_lt (x : Nat) : stepN x < 18446744073709551616 := Nat.mod_lt _ (by decide)

theorem step_eq (x : Nat) : IntKind.u64.wrap ((x : Int) + 11400714819323198485) = ((stepN x : Nat) : Int) := by
  unfold stepN
  rw [IntKind.wrap_u64, Int.natCast_emod]
  rfl

end Go.Proofs.YtbihelpnojjacaaGreat.WldA
