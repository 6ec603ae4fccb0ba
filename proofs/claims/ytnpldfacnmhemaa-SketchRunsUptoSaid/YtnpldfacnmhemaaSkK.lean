/- The places of a sketch as keys of maps. -/
import Derived.Test.YtnpldfacnmhemaaMap
import Derived.DeepKeys5
namespace Go.Proofs.Ytnpldfacnmhemaa.SkK
open Go.ChangeShapes Go.WideShapes Go.ChangeAt Go.RowKit Base Wri Map
open Go.Maps (Keyed)

theorem laid : laidOutB Try.prog = true := by kernel_rfl
theorem keyed : Keyed Try.prog 91 := Keyed.of_law (deep_law_gate laid (by decide +kernel) (by decide +kernel) (by kernel_rfl) (by kernel_rfl))

def pv (r c : Nat) : Value := .agg #[.int .i64 r, .int .i64 c]

theorem pv_inj {r c r' c' : Nat} (h : pv r c = pv r' c') : r = r' ∧ c = c' := by
  unfold pv at h
  simp at h
  omega

theorem kty : Try.prog.keyType 91 = true := by kernel_rfl

theorem cellsP : Try.prog.cellsOf 91 = 2 := by kernel_rfl
theorem cellsI : Try.prog.cellsOf 3 = 1 := by kernel_rfl

theorem lits_of (d : Nat) (r c : Int) (hr : (Lit.int .i64 r).wf = true) (hc : (Lit.int .i64 c).wf = true) : ∃ a, Try.prog.keyLits (d + 1 + 1) 91 [.int .i64 r, .int .i64 c] = some a := by
  unfold Program.keyLits
  rw [Try.underlying91]
  simp [cellsP, cellsI, Program.keyLits, Try.underlying3, hr, hc]

theorem key_of (r c : Nat) (hr : r < 8) (hc : c < 4096) : ∃ kl, keyOf Try.prog 91 (pv r c) = some kl := by
  have hp : 1 ≤ Try.prog.types.size := Nat.le_of_ble_eq_true (by kernel_rfl)
  obtain ⟨n, hn⟩ : ∃ n, Try.prog.types.size = n + 1 := ⟨Try.prog.types.size - 1, by omega⟩
  obtain ⟨a, ha⟩ := lits_of n r c (by simp [Lit.wf, IntKind.min, IntKind.max, IntKind.bits, IntKind.signed]; omega) (by simp [Lit.wf, IntKind.min, IntKind.max, IntKind.bits, IntKind.signed]; omega)
  unfold keyOf pv
  rw [Try.underlying91, kty]
  have h2 : Value.formed Try.prog 91 (.agg #[.int .i64 r, .int .i64 c]) = true := by simp [Value.formed, Try.underlying91, cellsP]
  have h3 : (Value.agg #[.int .i64 r, .int .i64 c]).cells.toList = [.int .i64 r, .int .i64 c] := rfl
  simp only [h2, h3, Bool.and_self, if_true]
  rw [hn, ha]
  exact ⟨_, rfl⟩

end Go.Proofs.Ytnpldfacnmhemaa.SkK
