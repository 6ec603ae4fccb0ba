/- SketchNone. -/
import Derived.Test.YtnpldfacnmhemaaSkR
namespace Go.Proofs.Ytnpldfacnmhemaa.SkS
set_option linter.unusedVariables false
open Go.ChangeShapes Go.WideShapes Go.ChangeAt Go.RowKit Base Wri Map WldF WldG SkK SkA SkB SkC SkD SkE SkF SkG SkH SkI SkJ SkL SkM SkN SkP SkQ SkR

set_option maxHeartbeats 400000 in
theorem estimate_nil (t : Int) (s : ByteArray) (w : World) :
    Calls Try.prog 28 #[.pointer none, .int .i64 t, .string s] w fun e w' => e = .returned (.tuple #[.int .i64 0, .int .i64 1]) ∧ w = w' := by
  go_enter Try.func28, Try.ntmps28
  go_wp2_with fail
  refine (refuses_nil t true w).mono ?_
  rintro e w1 ⟨rfl, rfl⟩
  go_wp2_with fail
  go_ret2
  exact ⟨rfl, rfl⟩
set_option maxHeartbeats 400000 in
theorem total_nil (t : Int) (w : World) :
    Calls Try.prog 29 #[.pointer none, .int .i64 t] w fun e w' => e = .returned (.tuple #[.int .i64 0, .int .i64 1]) ∧ w = w' := by
  go_enter Try.func29, Try.ntmps29
  go_wp2_with fail
  refine (refuses_nil t true w).mono ?_
  rintro e w1 ⟨rfl, rfl⟩
  go_wp2_with fail
  go_ret2
  exact ⟨rfl, rfl⟩
set_option maxHeartbeats 400000 in
theorem top_nil (t : Int) (v : Value) (w : World) :
    Calls Try.prog 17 #[.pointer none, .int .i64 t, .int .i64 1, v] w fun e w' => e = .returned (.tuple #[.slice none 0 0, .int .i64 1]) ∧ w = w' := by
  go_enter Try.func17, Try.ntmps17
  go_wp2_with fail
  refine (refuses_nil t true w).mono ?_
  rintro e w1 ⟨rfl, rfl⟩
  go_wp2_with fail
  go_ret2
  exact ⟨rfl, rfl⟩
set_option maxHeartbeats 400000 in
theorem column_nil (r : Int) (s : ByteArray) (w : World) :
    Calls Try.prog 21 #[.pointer none, .int .i64 r, .string s] w fun e w' => e = .returned (.tuple #[.int .i64 0, .int .i64 1]) ∧ w = w' := by
  go_enter Try.func21, Try.ntmps21
  go_wp2
  go_ret2
  exact ⟨rfl, rfl⟩
set_option maxHeartbeats 400000 in
theorem last_nil (w : World) :
    Calls Try.prog 45 #[.pointer none] w fun e w' => e = .returned (.int .i64 0) ∧ w = w' := by
  go_enter Try.func45, Try.ntmps45
  go_wp2
  go_ret
  exact ⟨rfl, rfl⟩
set_option maxHeartbeats 400000 in
theorem fork_nil (w : World) :
    Calls Try.prog 8 #[.pointer none] w fun e w' => e = .returned (.pointer none) ∧ w = w' := by
  go_enter Try.func8, Try.ntmps8
  go_wp2
  go_ret
  exact ⟨rfl, rfl⟩
set_option maxHeartbeats 400000 in
theorem add_nil (t : Int) (s : ByteArray) (a : Option Addr) (n cap : Nat) (f : Nat → Int) (w : World) (hn : n ≤ 9223372036854775807) (hI : Ints w a n f) :
    Calls Try.prog 11 #[.pointer none, .int .i64 t, .string s, .slice a n cap] w fun e w' => e = .returned (.int .i64 1) ∧ w = w' := by
  have HA := hid (areCounts_any a n cap _ w hn hI)
  generalize goodC f n = b at HA
  clear hI
  go_enter Try.func11, Try.ntmps11
  go_wp2_with fail
  refine HA.out.mono ?_
  rintro e w1 ⟨rfl, rfl⟩
  go_wp2_with fail
  refine (refuses_nil t b w).mono ?_
  rintro e w1 ⟨rfl, rfl⟩
  go_wp2_with fail
  go_ret
  exact ⟨rfl, rfl⟩

theorem one_int (w : World) : Ints (w.alloc (.cells #[.int .i64 1] 3)) (some ⟨w.heap.size, 0, none⟩) 1 (fun _ => 1) := fun _ => ⟨w.heap.size, 0, rfl, by simp, fun i hi => by
  have hnp := heap_alloc_new w (.cells #[.int .i64 1] 3)
  rcases (show i = 0 by omega) with rfl
  unfold World.cell?; rw [hnp]; rfl⟩

end Go.Proofs.Ytnpldfacnmhemaa.SkS
