/- The document's bounded map: Get, Peek, Drop and those that tell. -/
import Derived.Test.YtkdldcigooiljaaRefM
namespace Go.Proofs.Ytkdldcigooiljaa.RefN
open Go.ChangeShapes Go.WideShapes Go.ChangeAt Go.RowKit Base Wri Str LruA RefL RefM

variable {w0 w w' : World} {rb most : Nat} {v : Value} {ps : List (ByteArray × Int)}

set_option maxHeartbeats 1000000 in
theorem rget_no {s : ByteArray} (h : RM w0 w rb most v ps) (hp : placeI s ps = -1) (hl : ps.length ≤ 4096) :
    Calls Try.prog 62 #[ptr rb, .string s] w fun e w' => e = .returned (.tuple #[.int .i64 0, .bool false]) ∧ w = w' := by
  have HP := hid (place_any s h (by omega))
  rw [hp] at HP
  clear h hp
  unfold ptr at *
  go_enter Try.func62, Try.ntmps62
  go_wp2_with fail
  refine HP.out.mono ?_
  rintro e w1 ⟨rfl, rfl⟩
  go_wp2_with fail
  go_ret2
  exact ⟨rfl, rfl⟩

set_option maxHeartbeats 1000000 in
theorem rpeek_no {s : ByteArray} (h : RM w0 w rb most v ps) (hp : placeI s ps = -1) (hl : ps.length ≤ 4096) :
    Calls Try.prog 63 #[ptr rb, .string s] w fun e w' => e = .returned (.tuple #[.int .i64 0, .bool false]) ∧ w = w' := by
  have HP := hid (place_any s h (by omega))
  rw [hp] at HP
  clear h hp
  unfold ptr at *
  go_enter Try.func63, Try.ntmps63
  go_wp2_with fail
  refine HP.out.mono ?_
  rintro e w1 ⟨rfl, rfl⟩
  go_wp2_with fail
  go_ret2
  exact ⟨rfl, rfl⟩

set_option maxHeartbeats 1000000 in
theorem rpeek_yes {i : Nat} {s : ByteArray} {p : ByteArray × Int} (h : RM w0 w rb most v ps) (hp : placeI s ps = i) (hi : ps[i]? = some p) (hl : ps.length ≤ 4096) :
    Calls Try.prog 63 #[ptr rb, .string s] w fun e w' => e = .returned (.tuple #[.int .i64 p.2, .bool true]) ∧ w = w' := by
  have HP := hid (place_any s h (by omega))
  rw [hp] at HP
  have hil : i < ps.length := (List.getElem?_eq_some_iff.1 hi).1
  obtain ⟨g, c, rfl, hc1, _, hg, hcc⟩ := h.at_ (by omega)
  have g1 : w.cell? ⟨g, i * 2 + 1, none⟩ = some (.int .i64 p.2) := hcc _ _ (cellsP_get hi).2
  have k1 := h.cells.2.1
  have hlt := h.lt
  clear h hp hcc hi
  unfold ptr at *
  go_enter Try.func63, Try.ntmps63
  go_wp2_with fail
  refine HP.out.mono ?_
  rintro e w1 ⟨rfl, rfl⟩
  go_wp2_with fail
  go_ret2
  exact ⟨rfl, rfl⟩

set_option maxHeartbeats 1000000 in
theorem rlen_any (h : RM w0 w rb most v ps) : Calls Try.prog 27 #[ptr rb] w fun e w' => e = .returned (.int .i64 ps.length) ∧ w = w' := by
  obtain ⟨va, vc, rfl⟩ := owns_shape h.row
  have k1 := h.cells.2.1
  have hlt := h.lt
  clear h
  unfold ptr at *
  go_enter Try.func27, Try.ntmps27
  go_wp2
  go_ret
  exact ⟨rfl, rfl⟩

set_option maxHeartbeats 1000000 in
theorem rmost_any (h : RM w0 w rb most v ps) : Calls Try.prog 28 #[ptr rb] w fun e w' => e = .returned (.int .i64 most) ∧ w = w' := by
  have k1 := h.cells.1
  have hlt := h.lt
  clear h
  unfold ptr at *
  go_enter Try.func28, Try.ntmps28
  go_wp2
  go_ret
  exact ⟨rfl, rfl⟩

set_option maxHeartbeats 1000000 in
theorem rnew_yes (most : Nat) (w : World) (h1 : 1 ≤ most) (h2 : most ≤ 4096) :
    Calls Try.prog 16 #[.int .i64 most] w fun e w' => e = .returned (.tuple #[ptr w.heap.size, .int .i64 0]) ∧ w.alloc (.cells #[.int .i64 most, .slice none 0 0] 121) = w' := by
  unfold ptr at *
  go_enter Try.func16, Try.ntmps16
  go_wp2
  go_ret2
  exact ⟨rfl, rfl⟩

set_option maxHeartbeats 1000000 in
theorem rnew_no (most : Int) (w : World) (h : ¬ (1 ≤ most ∧ most ≤ 4096)) :
    Calls Try.prog 16 #[.int .i64 most] w fun e w' => e = .returned (.tuple #[.pointer none, .int .i64 2]) ∧ w = w' := by
  by_cases h1 : most < 1
  · clear h
    go_enter Try.func16, Try.ntmps16
    go_wp2
    go_ret2
    exact ⟨rfl, rfl⟩
  · have h2 : 4096 < most := by omega
    have h0 : 1 ≤ most := by omega
    clear h h1
    go_enter Try.func16, Try.ntmps16
    go_wp2
    go_ret2
    exact ⟨rfl, rfl⟩

end Go.Proofs.Ytkdldcigooiljaa.RefN
