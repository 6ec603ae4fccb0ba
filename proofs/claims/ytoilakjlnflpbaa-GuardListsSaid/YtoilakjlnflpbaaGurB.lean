/- KeptSystems. -/
import Derived.Test.YtoilakjlnflpbaaGurA
namespace Go.Proofs.Ytoilakjlnflpbaa.GurB
open Go.ChangeShapes Go.WideShapes Go.ChangeAt Go.RowKit Go.Deep Base Opn WldF WldG Mem GurA
set_option linter.unusedVariables false

set_option maxHeartbeats 400000 in
theorem ssys_none (a a' : Option Addr) (cap cap' : Nat) (w : World) :
    Calls Try.prog 36 #[.slice a 0 cap, .slice a' 0 cap'] w fun e w' => e = .returned (.bool true) ∧ ∃ m, w.drewN m = w' := by
  go_enter Try.func36, Try.ntmps36
  go_wp2
  go_loop [5] (fun i => i = .int .i64 0) (fun i => 0)
  case atStart => rfl
  case round =>
    obtain rfl := hrel
    go_wp2
    go_ret
    exact ⟨rfl, 0, rfl⟩

theorem ssys_any (a : Option Addr) (g n N cap cap' : Nat) (F : Nat → Nat → Int) (w : World) (hn : n ≤ 9223372036854775807) (hN : n * 5 ≤ N) (hr : Row w g N (mark5 n F)) (h' : RowsI w a n 5 F) :
    Calls Try.prog 36 #[.slice (some ⟨g, 0, none⟩) n cap, .slice a n cap'] w fun e w' => e = .returned (.bool true) ∧ ∃ m, w.drewN m = w' := by
  by_cases h0 : n = 0
  · subst h0; exact ssys_none _ a cap cap' w
  · obtain ⟨g', o', rfl, _, hr'⟩ := h'.1 (by omega)
    refine ssys_core g 0 g' o' n cap cap' F w hn (hid fun i hi j hj => ?_) (hid hr')
    rw [show 0 + i * 5 + j = i * 5 + j by omega, ← mark5_in (F := F) hi hj]
    exact (hr (i * 5 + j) (by omega)).1

set_option maxRecDepth 20000 in
set_option maxHeartbeats 1000000 in
theorem kept_sys (a : Option Addr) (g n cap : Nat) (F : Nat → Nat → Int) (w : World) (hn : n ≤ 4000000000000) (hin : RowsI w a n 5 F) (hr : Row w g ((n + 9) * 5) (mark5 n F)) :
    Calls Try.prog 13 #[.slice (some ⟨g, 0, none⟩) n (n + 9), .slice a n cap] w fun e w' => e = .returned (.bool true) ∧ ∃ m, w.drewN m = w' := by
  have HS := hid (ssys_any a g n ((n + 9) * 5) (n + 9) cap F w (by omega) (by omega) hr hin)
  have HR := hid hr
  clear hr hin
  go_enter Try.func13, Try.ntmps13
  go_wp2_with fail
  refine HS.out.mono ?_
  rintro e w1 ⟨rfl, m1, hw1⟩
  clear HS
  go_wp2_with fail
  go_loopw [6] (fun i wr => ∃ k m : Nat, k ≤ n + 9 ∧ n ≤ k ∧ i = .int .i64 k ∧ w.drewN m = wr) (fun i _ => n + 9 - (intOf i).toNat)
  case atStart => exact ⟨n, m1, by omega, Nat.le_refl _, rfl, hw1⟩
  case round =>
    obtain ⟨k, m, hk, hnk, rfl, hwr⟩ := hrel
    by_cases hlt : k < n + 9
    · have h0 : wr.cell? ⟨g, k * 5, none⟩ = some (.int .i64 (-700 - (k : Int) + n)) := by
        rw [← hwr, ← mark5_out0 (F := F) hnk]; exact (HR.out (k * 5) (by omega)).1
      have h1 : wr.cell? ⟨g, k * 5 + 1, none⟩ = some (.int .i64 0) := by
        rw [← hwr, ← mark5_out (F := F) (j := 1) hnk (by omega) (by omega)]; exact (HR.out (k * 5 + 1) (by omega)).1
      have h2 : wr.cell? ⟨g, k * 5 + 2, none⟩ = some (.int .i64 0) := by
        rw [← hwr, ← mark5_out (F := F) (j := 2) hnk (by omega) (by omega)]; exact (HR.out (k * 5 + 2) (by omega)).1
      have h3 : wr.cell? ⟨g, k * 5 + 3, none⟩ = some (.int .i64 0) := by
        rw [← hwr, ← mark5_out (F := F) (j := 3) hnk (by omega) (by omega)]; exact (HR.out (k * 5 + 3) (by omega)).1
      have h4 : wr.cell? ⟨g, k * 5 + 4, none⟩ = some (.int .i64 0) := by
        rw [← hwr, ← mark5_out (F := F) (j := 4) hnk (by omega) (by omega)]; exact (HR.out (k * 5 + 4) (by omega)).1
      have HW := hid hwr
      clear hwr hw1
      go_wp2_with fail
      go_roundw
      case rel => exact ⟨k + 1, m, by omega, by omega, by go_num, HW.out⟩
      case measure => simp [intOf]; omega
    · go_wp2
      go_ret
      exact ⟨rfl, m, hwr⟩

end Go.Proofs.Ytoilakjlnflpbaa.GurB
