/- Contracts of the document's own wide numbers: size, Of, plus, small, told. -/
import Derived.Test.YtoilakjlnflpbaaNumA
namespace Go.Proofs.Ytoilakjlnflpbaa.RefA
open Go.ChangeShapes Go.WideShapes Go.ChangeAt Go.RowKit Base NumM NumA

theorem call_sub64 (x y b : Nat) (hb : b ≤ 1) (w : World) :
    (callFunc 95 #[.int .u64 x, .int .u64 y, .int .u64 b]).run Try.prog w =
      .ok (.value (.tuple #[.int .u64 (((x + 18446744073709551616 - y - b) % 18446744073709551616 : Nat) : Int), .int .u64 ((if x < y + b then 1 else 0 : Nat) : Int)])) w := by
  rw [run_callFunc_extern (show Try.prog.funcs[95]? = some Try.f95 from by kernel_rfl) (by kernel_rfl) (by kernel_rfl) (by kernel_rfl) (e := fun args => do
    let (x, y, b) ← Extern.MathBitsCarry.three "Sub64" args
    pure (Extern.MathBitsCarry.pair ((x + Extern.MathBitsCarry.m64 - y - b) % Extern.MathBitsCarry.m64) (if x < y + b then 1 else 0))) (by kernel_rfl)]
  have : b = 0 ∨ b = 1 := by omega
  rcases this with rfl | rfl <;> rfl

/-- sign and size of a number, as the document keeps it -/
def hiM (m : Nat) : Nat := m / 18446744073709551616
def loM (m : Nat) : Nat := m % 18446744073709551616
abbrev S (b : Bool) (m : Nat) : Value := .agg #[.bool b, .int .u64 (hiM m : Int), .int .u64 (loM m : Int)]
def sgn (b : Bool) (m : Nat) : Int := if b then -(m : Int) else m

set_option maxHeartbeats 400000 in
theorem size_core (n m : Int) (w : World) (h : (n < 0 ∧ IntKind.u64.wrap (-IntKind.u64.wrap n) = m) ∨ (¬ n < 0 ∧ IntKind.u64.wrap n = m)) :
    Calls Try.prog 79 #[.int .i64 n] w fun e w' => e = .returned (.int .u64 m) ∧ w = w' := by
  rcases h with ⟨h1, h2⟩ | ⟨h1, h2⟩
  · go_enter Try.func79, Try.ntmps79
    go_wp2
    go_ret
    exact ⟨rfl, rfl⟩
  · go_enter Try.func79, Try.ntmps79
    go_wp2
    go_ret
    exact ⟨rfl, rfl⟩

theorem size_ref (n : Int) (h : Fits n) (w : World) :
    Calls Try.prog 79 #[.int .i64 n] w fun e w' => e = .returned (.int .u64 (n.natAbs : Int)) ∧ w = w' := by
  refine size_core n _ w ?_
  unfold Fits at h
  by_cases hn : n < 0
  · exact .inl ⟨hn, by simp only [IntKind.wrap_u64]; omega⟩
  · exact .inr ⟨hn, by simp only [IntKind.wrap_u64]; omega⟩

set_option maxHeartbeats 400000 in
theorem of_core (n m : Int) (b : Bool) (w : World) (hb : decide (n < 0) = b) (HS : Hid (∀ w, Calls Try.prog 79 #[.int .i64 n] w fun e w' => e = .returned (.int .u64 m) ∧ w = w')) :
    Calls Try.prog 82 #[.int .i64 n] w fun e w' => e = .returned (.agg #[.bool b, .int .u64 0, .int .u64 m]) ∧ Below w.heap.size w w' := by
  go_enter Try.func82, Try.ntmps82
  go_wp2_with fail
  refine (HS.out _).mono ?_
  rintro e w1 ⟨rfl, rfl⟩
  go_wp2
  exact bodyPost_ret (v := .agg #[.bool b, .int .u64 0, .int .u64 m]) (by simp [results, Try.results82, go_sem]) rfl ⟨rfl, (by repeat (first | (with_reducible exact Below.refl _ _) | (with_reducible refine Below.setCell ?_ (by first | (simp; done) | (simp; omega) | omega) _) | (with_reducible refine Below.alloc ?_ (by first | (simp; done) | (simp; omega) | omega) _) | (with_reducible refine Below.drew ?_)))⟩

theorem of_any (n : Int) (h : Fits n) (w : World) :
    Calls Try.prog 82 #[.int .i64 n] w fun e w' => e = .returned (S (neg n) n.natAbs) ∧ Below w.heap.size w w' := by
  have e1 : hiM n.natAbs = 0 := by unfold Fits at h; unfold hiM; omega
  have e2 : loM n.natAbs = n.natAbs := by unfold Fits at h; unfold loM; omega
  have := of_core n n.natAbs (neg n) w rfl (hid fun w => size_ref n h w)
  unfold S
  rw [e1, e2]
  exact this

set_option maxHeartbeats 400000 in
theorem told_any (n : Int) (ok : Bool) (w : World) :
    Calls Try.prog 63 #[.int .i64 n, .bool ok] w fun e w' => e = .returned (.tuple #[.int .i64 (if ok then n else 0), .int .i64 (if ok then 0 else 8)]) ∧ w = w' := by
  cases ok
  · go_enter Try.func63, Try.ntmps63
    go_wp2
    go_ret2
    exact ⟨rfl, rfl⟩
  · go_enter Try.func63, Try.ntmps63
    go_wp2
    go_ret2
    exact ⟨rfl, rfl⟩

end Go.Proofs.Ytoilakjlnflpbaa.RefA
