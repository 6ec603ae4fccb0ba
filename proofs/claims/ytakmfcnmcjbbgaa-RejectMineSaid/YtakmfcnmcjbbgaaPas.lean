/- What a flow rule lets pass. -/
import Derived.Test.YtakmfcnmcjbbgaaNumA
namespace Go.Proofs.Ytakmfcnmcjbbgaa.Pas
set_option linter.unusedVariables false
open Go.ChangeShapes Go.WideShapes Go.ChangeAt Go.RowKit Base NumM NumA

/-- does it let pass? -/
def passF (thr : Bool) (cnt passed flight count : Int) : Bool := if thr then decide (flight < cnt) else if Fits (passed + count) then decide (passed + count ≤ cnt) else decide (passed < 0)

set_option maxRecDepth 20000 in
set_option maxHeartbeats 1000000 in
theorem Passes_any (res org : ByteArray) (thr : Bool) (cnt : Int) (strat : Int) (ref : ByteArray) (shape warm queue : Int) (clus : Bool) (id_ : Int) (fall : Bool) (passed flight count : Int) (hp : Fits passed) (hc : Fits count) (w : World) :
    Calls Try.prog 11 #[.agg #[.string res, .string org, .bool thr, .int .i64 cnt, .int .u8 strat, .string ref, .int .u8 shape, .int .i64 warm, .int .i64 queue, .bool clus, .int .i64 id_, .bool fall], .int .i64 passed, .int .i64 flight, .int .i64 count] w fun e w' => e = .returned (.bool (passF thr cnt passed flight count)) ∧ Below w.heap.size w w' := by
  unfold passF
  have HA := hid (fun w => add_any passed count hp hc w)
  unfold tellN tellE at HA
  cases thr with
  | true =>
    go_enter Try.func11, Try.ntmps11
    go_wp2
    go_ret
    exact ⟨rfl, (Below.refl w.heap.size w).alloc (Nat.le_refl _) _⟩
  | false =>
    by_cases hf : Fits (passed + count)
    · rw [if_pos hf]
      simp only [if_pos hf] at HA
      generalize passed + count = x at *
      clear hf hp hc
      go_enter Try.func11, Try.ntmps11
      go_wp2_with fail
      refine (HA.out _).mono ?_
      rintro e w2 ⟨rfl, hb⟩
      have HB : Hid (Below w.heap.size w w2) := hid (((Below.refl w.heap.size w).alloc (Nat.le_refl _) _).trans (hb.mono (by simp)))
      have c3 : w2.cell? ⟨w.heap.size, 3, none⟩ = some (.int .i64 cnt) := (hb.cell (p := ⟨w.heap.size, 3, none⟩) (by simp)).trans (by go_cell)
      clear hb HA
      go_wp2_with fail
      go_ret
      exact ⟨rfl, HB.out⟩
    · rw [if_neg hf]
      simp only [if_neg hf] at HA
      clear hf hp hc
      go_enter Try.func11, Try.ntmps11
      go_wp2_with fail
      refine (HA.out _).mono ?_
      rintro e w2 ⟨rfl, hb⟩
      have HB : Hid (Below w.heap.size w w2) := hid (((Below.refl w.heap.size w).alloc (Nat.le_refl _) _).trans (hb.mono (by simp)))
      clear hb HA
      go_wp2_with fail
      go_ret
      exact ⟨rfl, HB.out⟩

end Go.Proofs.Ytakmfcnmcjbbgaa.Pas
