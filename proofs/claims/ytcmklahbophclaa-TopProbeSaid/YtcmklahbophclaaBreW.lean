/- Breakers: the program's own, what trips it and what closes it. -/
import Derived.Test.YtcmklahbophclaaBreV
import Derived.Test.YtcmklahbophclaaWinN
import Derived.Test.YtcmklahbophclaaStaA
import Derived.Deep.DeepCutAuto
namespace Go.Proofs.Ytcmklahbophclaa.BreW
set_option linter.unusedVariables false
open Go.ChangeShapes Go.WideShapes Go.ChangeAt Go.RowKit Base WinM WinA WinC WinE WinH WinI WinK BreP BreA BreV

theorem bl {w w1 w2 : World} (h : Below w.heap.size w w1) (h2 : Below w1.heap.size w1 w2) : Below w.heap.size w w2 := h.trans (h2.mono h.size)

set_option maxRecDepth 20000 in
set_option maxHeartbeats 2000000 in
theorem isBroken_core (nm : ByteArray) (g : Nat) (ct sl ls wd rc c1 c2 c3 c4 c5 c6 : Int) (te td : Int) (r : Bool) (w : World)
    (HR : Hid (decide (c3 < ls) = true ∧ r = false ∨ decide (c3 < ls) = false ∧ (g = 2 ∧ decide (ct < c4) = r ∨ ((g : Int) == 2) = false ∧ (ct = 1000 ∧ (c4 == c3) = r ∨ (ct == 1000) = false ∧ decide (td < te) = r ∧
      Hid (∀ w, Calls Try.prog 93 #[.int .i64 1000, .int .i64 c4] w fun e w' => e = .returned (.int .i64 te) ∧ Below w.heap.size w w') ∧ Hid (∀ w, Calls Try.prog 93 #[.int .i64 ct, .int .i64 c3] w fun e w' => e = .returned (.int .i64 td) ∧ Below w.heap.size w w'))))) :
    Calls Try.prog 67 #[.agg #[.string nm, .int .u8 (g : Nat), .int .i64 ct, .int .i64 sl, .int .i64 ls, .int .i64 wd, .int .i64 rc], .agg #[.int .i64 c1, .int .i64 c2, .int .i64 c3, .int .i64 c4, .int .i64 c5, .int .i64 c6]] w fun e w' => e = .returned (.bool r) ∧ Below w.heap.size w w' := by
  have kb : Below w.heap.size w ((w.alloc (.cells #[.string nm, .int .u8 (g : Nat), .int .i64 ct, .int .i64 sl, .int .i64 ls, .int .i64 wd, .int .i64 rc] 77)).alloc (.cells #[.int .i64 c1, .int .i64 c2, .int .i64 c3, .int .i64 c4, .int .i64 c5, .int .i64 c6] 64)) := ((Below.refl w.heap.size w).alloc (Nat.le_refl _) _).alloc (by simp) _
  have q1 : ((w.alloc (.cells #[.string nm, .int .u8 (g : Nat), .int .i64 ct, .int .i64 sl, .int .i64 ls, .int .i64 wd, .int .i64 rc] 77)).alloc (.cells #[.int .i64 c1, .int .i64 c2, .int .i64 c3, .int .i64 c4, .int .i64 c5, .int .i64 c6] 64)).cell? ⟨w.heap.size, 1, none⟩ = some (.int .u8 (g : Nat)) := by go_cell
  have q2 : ((w.alloc (.cells #[.string nm, .int .u8 (g : Nat), .int .i64 ct, .int .i64 sl, .int .i64 ls, .int .i64 wd, .int .i64 rc] 77)).alloc (.cells #[.int .i64 c1, .int .i64 c2, .int .i64 c3, .int .i64 c4, .int .i64 c5, .int .i64 c6] 64)).cell? ⟨w.heap.size, 2, none⟩ = some (.int .i64 ct) := by go_cell
  have q4 : ((w.alloc (.cells #[.string nm, .int .u8 (g : Nat), .int .i64 ct, .int .i64 sl, .int .i64 ls, .int .i64 wd, .int .i64 rc] 77)).alloc (.cells #[.int .i64 c1, .int .i64 c2, .int .i64 c3, .int .i64 c4, .int .i64 c5, .int .i64 c6] 64)).cell? ⟨w.heap.size, 4, none⟩ = some (.int .i64 ls) := by go_cell
  have d2 : ((w.alloc (.cells #[.string nm, .int .u8 (g : Nat), .int .i64 ct, .int .i64 sl, .int .i64 ls, .int .i64 wd, .int .i64 rc] 77)).alloc (.cells #[.int .i64 c1, .int .i64 c2, .int .i64 c3, .int .i64 c4, .int .i64 c5, .int .i64 c6] 64)).cell? ⟨w.heap.size + 1, 2, none⟩ = some (.int .i64 c3) := by go_cell
  have d3 : ((w.alloc (.cells #[.string nm, .int .u8 (g : Nat), .int .i64 ct, .int .i64 sl, .int .i64 ls, .int .i64 wd, .int .i64 rc] 77)).alloc (.cells #[.int .i64 c1, .int .i64 c2, .int .i64 c3, .int .i64 c4, .int .i64 c5, .int .i64 c6] 64)).cell? ⟨w.heap.size + 1, 3, none⟩ = some (.int .i64 c4) := by go_cell
  go_enter Try.func67, Try.ntmps67
  go_upto_region 1 with fail
  generalize ((w.alloc (.cells #[.string nm, .int .u8 (g : Nat), .int .i64 ct, .int .i64 sl, .int .i64 ls, .int .i64 wd, .int .i64 rc] 77)).alloc (.cells #[.int .i64 c1, .int .i64 c2, .int .i64 c3, .int .i64 c4, .int .i64 c5, .int .i64 c6] 64)) = wz at *
  rcases HR.out with ⟨h1, rfl⟩ | ⟨h1, ⟨rfl, h2⟩ | ⟨h2, ⟨rfl, h3⟩ | ⟨h3, h4, HT, HU⟩⟩⟩
  · go_wp2_with fail
    go_ret
    exact ⟨rfl, kb⟩
  · go_wp2_with fail
    go_ret
    exact ⟨by subst h2; rfl, kb⟩
  · go_wp2_with fail
    go_ret
    exact ⟨by subst h3; rfl, kb⟩
  · go_upto_region 7 with fail
    have H4 := hid h4
    clear h4 HR h1 h2 h3
    go_region_held3 (fun w' => w'.cell? ⟨w.heap.size, 2, none⟩ = some (.int .i64 ct) ∧ w'.cell? ⟨w.heap.size + 1, 2, none⟩ = some (.int .i64 c3) ∧ w'.cell? ⟨w.heap.size + 1, 3, none⟩ = some (.int .i64 c4)) (first | assumption | go_keep)
        (first
           | (go_at_call 93
              first
                | with_reducible refine (HT.out _).mono ?_
                | with_reducible refine (HU.out _).mono ?_
              rintro e w3 ⟨rfl, hb3⟩
              have q1 : w3.cell? ⟨w.heap.size, 1, none⟩ = some (.int .u8 (g : Nat)) := kc hb3 (by first | assumption | go_cell)
              have q2 : w3.cell? ⟨w.heap.size, 2, none⟩ = some (.int .i64 ct) := kc hb3 (by first | assumption | go_cell)
              have q4 : w3.cell? ⟨w.heap.size, 4, none⟩ = some (.int .i64 ls) := kc hb3 (by first | assumption | go_cell)
              have d2 : w3.cell? ⟨w.heap.size + 1, 2, none⟩ = some (.int .i64 c3) := kc hb3 (by first | assumption | go_cell)
              have d3 : w3.cell? ⟨w.heap.size + 1, 3, none⟩ = some (.int .i64 c4) := kc hb3 (by first | assumption | go_cell)
              have kb : Below w.heap.size w w3 := bl (by first | assumption | exact (Below.drew (by assumption))) hb3))
    all_goals
      go_wp2_with fail
      go_ret
      exact ⟨by rw [← H4.out]; rfl, by first | assumption | exact (Below.drew (by assumption))⟩

end Go.Proofs.Ytcmklahbophclaa.BreW
