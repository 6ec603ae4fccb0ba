/- The walk of StatNone. -/
import Derived.Test.YtekfmpnfpoapfaaStaF
import Derived.Laws.StructEq
namespace Go.Proofs.Ytekfmpnfpoapfaa.StaG
open Go.ChangeShapes Go.WideShapes Go.ChangeAt Go.RowKit Base WinM WinA WinB WinC WinD WinE WinF WinG WinH WinI WinJ WinK WinL StaA StaB StaC StaD StaE StaF WldF WldG

set_option maxRecDepth 20000 in
set_option maxHeartbeats 4000000 in
theorem none_walk (a r : Int) (w : World) :
    Calls Try.prog 10 #[.int .i64 a, .int .i64 r] w fun e w' => e = .returned (.bool true) ∧ Below w.heap.size w w' := by
  obtain ⟨B, hB⟩ : ∃ B, w.heap.size = B := ⟨_, rfl⟩
  have HBe := hid hB
  have HS := hid (nsum_nil a w)
  go_enter Try.func10, Try.ntmps10
  rw [hB]
  rw [hB] at HS
  clear hB
  go_wp2_with fail
  refine HS.out.mono ?_
  rintro e w1 ⟨rfl, hb⟩
  have HB1 := hid hb
  clear HS hb
  have hs1 : B ≤ w1.heap.size := by have := HB1.out.size; rw [HBe.out] at this; exact this
  go_wp2_with fail
  refine (npast_nil a _).mono ?_
  rintro e w2 ⟨rfl, hb⟩
  have HB2 : Hid (Below B w w2) := hid ((HB1.out.alloc hs1 _).trans (hb.mono (by simp; omega)))
  clear hb HB1 hs1
  have H := hid (nmost_nil a w2)
  go_wp2_with fail
  refine H.out.mono ?_
  rintro e w3 ⟨rfl, hb⟩
  have HB3 : Hid (Below B w w3) := hid (HB2.out.trans (hb.mono (by rw [← HBe.out]; exact HB2.out.size)))
  clear H hb HB2
  have H := hid (nleast_nil a w3)
  go_wp2_with fail
  refine H.out.mono ?_
  rintro e w4 ⟨rfl, hb⟩
  have HB4 : Hid (Below B w w4) := hid (HB3.out.trans (hb.mono (by rw [← HBe.out]; exact HB3.out.size)))
  clear H hb HB3
  have H := hid (nmean_nil a w4)
  go_wp2_with fail
  refine H.out.mono ?_
  rintro e w5 ⟨rfl, hb⟩
  have HB5 : Hid (Below B w w5) := hid (HB4.out.trans (hb.mono (by rw [← HBe.out]; exact HB4.out.size)))
  clear H hb HB4
  have H := hid (nratio_nil a w5)
  go_wp2_with fail
  refine H.out.mono ?_
  rintro e w6 ⟨rfl, hb⟩
  have HB6 : Hid (Below B w w6) := hid (HB5.out.trans (hb.mono (by rw [← HBe.out]; exact HB5.out.size)))
  clear H hb HB5
  have hs6 : w.heap.size ≤ w6.heap.size := HB6.out.size
  rw [HBe.out] at hs6
  go_wp2_with fail
  refine (join_nils a w6.heap.size _ (by go_cell) (by go_cell) (by simp)).mono ?_
  rintro e w7 ⟨rfl, hb⟩
  have HB7 : Hid (Below B w w7) := hid ((HB6.out.alloc hs6 _).trans (hb.mono (by simp; omega)))
  have hs7 : B ≤ w7.heap.size := by have := HB7.out.size; rw [HBe.out] at this; exact this
  clear hb HB6 hs6
  go_wp2_with fail
  refine (live_look _).mono ?_
  rintro e w8 ⟨rfl, hb⟩
  have HB8 : Hid (Below B w w8) := hid ((HB7.out.alloc hs7 _).trans (hb.mono (by simp; omega)))
  have hs8 : B ≤ w8.heap.size := by have := HB8.out.size; rw [HBe.out] at this; exact this
  have hl8 : w7.heap.size < w8.heap.size := by have := hb.size; simp only [World.size_alloc] at this; omega
  obtain ⟨hc, hf⟩ := bcell hb
  have c0 : w8.cell? ⟨w7.heap.size, 0, none⟩ = some (.int .i64 0) := by rw [hc _ _ (by simp)]; go_cell
  have c1 : w8.cell? ⟨w7.heap.size, 1, none⟩ = some (.int .i64 0) := by rw [hc _ _ (by simp)]; go_cell
  have c2 : w8.cell? ⟨w7.heap.size, 2, none⟩ = some (.int .i64 0) := by rw [hc _ _ (by simp)]; go_cell
  have c3 : w8.cell? ⟨w7.heap.size, 3, none⟩ = some (.int .i64 0) := by rw [hc _ _ (by simp)]; go_cell
  have c4 : w8.cell? ⟨w7.heap.size, 4, none⟩ = some (.int .i64 0) := by rw [hc _ _ (by simp)]; go_cell
  have c5 : w8.cell? ⟨w7.heap.size, 5, none⟩ = some (.int .i64 0) := by rw [hc _ _ (by simp)]; go_cell
  clear hb HB7 hs7 hc hf
  go_wp2_with fail
  have d0 : (w8.alloc (.cells #[.int .i64 r] 3)).cell? ⟨w7.heap.size, 0, none⟩ = some (.int .i64 0) := by go_cell
  have d1 : (w8.alloc (.cells #[.int .i64 r] 3)).cell? ⟨w7.heap.size, 1, none⟩ = some (.int .i64 0) := by go_cell
  have d2 : (w8.alloc (.cells #[.int .i64 r] 3)).cell? ⟨w7.heap.size, 2, none⟩ = some (.int .i64 0) := by go_cell
  have d3 : (w8.alloc (.cells #[.int .i64 r] 3)).cell? ⟨w7.heap.size, 3, none⟩ = some (.int .i64 0) := by go_cell
  have d4 : (w8.alloc (.cells #[.int .i64 r] 3)).cell? ⟨w7.heap.size, 4, none⟩ = some (.int .i64 0) := by go_cell
  have d5 : (w8.alloc (.cells #[.int .i64 r] 3)).cell? ⟨w7.heap.size, 5, none⟩ = some (.int .i64 0) := by go_cell
  refine (pass_nil a (some ⟨w8.heap.size, 0, none⟩) 1 1 (fun _ => r) _ (by omega) (ints_one w8 r)).mono ?_
  rintro e w9 ⟨rfl, hw9⟩
  have HB9 : Hid (Below B w w9) := hid (hw9 ▸ HB8.out.alloc hs8 _)
  have hs9 : B ≤ w9.heap.size := by rw [← hw9]; simp; omega
  have hl9 : w7.heap.size < w9.heap.size := by rw [← hw9]; simp; omega
  rw [hw9] at d0 d1 d2 d3 d4 d5
  clear HB8 hs8 hl8 c0 c1 c2 c3 c4 c5 hw9
  go_wp2_with fail
  have a0 : (w9.alloc (.cells #[.int .i64 r] 3)).cell? ⟨w7.heap.size, 0, none⟩ = some (.int .i64 0) := by go_cell
  have a1 : (w9.alloc (.cells #[.int .i64 r] 3)).cell? ⟨w7.heap.size, 1, none⟩ = some (.int .i64 0) := by go_cell
  have a2 : (w9.alloc (.cells #[.int .i64 r] 3)).cell? ⟨w7.heap.size, 2, none⟩ = some (.int .i64 0) := by go_cell
  have a3 : (w9.alloc (.cells #[.int .i64 r] 3)).cell? ⟨w7.heap.size, 3, none⟩ = some (.int .i64 0) := by go_cell
  have a4 : (w9.alloc (.cells #[.int .i64 r] 3)).cell? ⟨w7.heap.size, 4, none⟩ = some (.int .i64 0) := by go_cell
  have a5 : (w9.alloc (.cells #[.int .i64 r] 3)).cell? ⟨w7.heap.size, 5, none⟩ = some (.int .i64 0) := by go_cell
  refine (block_nil a (some ⟨w9.heap.size, 0, none⟩) 1 1 (fun _ => r) _ (by omega) (ints_one w9 r)).mono ?_
  rintro e wa ⟨rfl, hw9⟩
  have HBa : Hid (Below B w wa) := hid (hw9 ▸ HB9.out.alloc hs9 _)
  rw [hw9] at a0 a1 a2 a3 a4 a5
  clear HB9 hs9 hl9 d0 d1 d2 d3 d4 d5 hw9
  go_wp2_with fail
  refine (done_nil a r true _).mono ?_
  rintro e w9 ⟨rfl, rfl⟩
  go_wp2_with fail
  refine (flight_nil _).mono ?_
  rintro e w9 ⟨rfl, rfl⟩
  go_wp2_with fail
  refine (last_nil _).mono ?_
  rintro e w9 ⟨rfl, rfl⟩
  go_wp2_with fail
  refine (fork_nil _).mono ?_
  rintro e w9 ⟨rfl, rfl⟩
  go_wp2_with fail
  go_ret
  exact ⟨rfl, by first | exact HBa.out | (rw [HBe.out]; exact HBa.out)⟩

theorem noneAll (a0 : Int) (a1 : Int) (_ : (Lit.int .i64 a0).wf = true) (_ : (Lit.int .i64 a1).wf = true) (w : World) :
    Calls Try.prog 10 #[.int .i64 a0, .int .i64 a1] w fun e w' => e = .returned (.bool true) ∧ Below w.heap.size w w' := none_walk a0 a1 w

end Go.Proofs.Ytekfmpnfpoapfaa.StaG
