/- The walk of live (stat). -/
import Derived.Test.YtfpbjkmnipacdaaStaD
namespace Go.Proofs.Ytfpbjkmnipacdaa.StaE
open Go.ChangeShapes Go.WideShapes Go.ChangeAt Go.RowKit Base WinM WinA WinB WinC WinD WinE WinF WinG WinH WinI WinJ WinK WinL StaA StaB StaC StaD WldF WldG

set_option maxRecDepth 20000 in
set_option maxHeartbeats 1000000 in
theorem live_look (w : World) :
    Calls Try.prog 15 #[] w fun e w' => e = .returned (.bool true) ∧ Below w.heap.size w w' := by
  obtain ⟨B, hB⟩ : ∃ B, w.heap.size = B := ⟨_, rfl⟩
  obtain ⟨n, hn⟩ : ∃ n, w.heap.size + 2 = n := ⟨_, rfl⟩
  have HNew := hid (live_new w)
  rw [hn, hB] at HNew
  have HBe := hid hB
  clear hB hn
  go_enter Try.func15, Try.ntmps15
  go_wp2_with fail
  refine HNew.out.mono ?_
  rintro e w1 ⟨rfl, hm1, hb1, hz1⟩
  have hs1 : B ≤ w1.heap.size := by omega
  have HB1 := hid hb1
  have HP1 := hid (live_pass1 B _ n w1 hs1 hm1)
  clear HNew hm1 hb1 hz1
  go_wp2_with fail
  refine HP1.out.mono ?_
  rintro e w2 ⟨rfl, hm2, hb2, hs2, _⟩
  simp only [World.size_alloc] at hs2
  have HB2 : Hid (Below B w w2) := hid ((HB1.out.alloc hs1 _).trans hb2)
  have hs2' : B ≤ w2.heap.size := by omega
  have HP2 := hid (live_pass2 B _ n w2 hs2' hm2)
  clear HP1 HB1 hm2 hb2
  go_wp2_with fail
  refine HP2.out.mono ?_
  rintro e w3 ⟨rfl, hm3, hb3, hs3, _⟩
  simp only [World.size_alloc] at hs3
  have HB3 : Hid (Below B w w3) := hid ((HB2.out.alloc hs2' _).trans hb3)
  have HM3 := hid hm3
  have HS1 := hid (live_sum1 B _ n w3 hm3)
  clear HP2 HB2 hm3 hb3
  go_wp2_with fail
  refine HS1.out.mono ?_
  rintro e w4 ⟨rfl, hb4⟩
  have hs4 := hb4.size
  have HB4 : Hid (Below B w w4) := hid (HB3.out.trans (hb4.mono (by omega)))
  have HM4 := hid ((HM3.out.below hb4).below ((Below.refl _ w4).alloc (Nat.le_refl _) (.cells #[.int .i64 4, .int .i64 0, .int .i64 0, .int .i64 0, .int .i64 0, .int .i64 0] 30)))
  have HS2 := hid (live_sum2 B _ n _ HM4.out)
  clear HS1 HB3 HM3 hb4
  go_wp2_with fail
  refine HS2.out.mono ?_
  rintro e w5 ⟨rfl, hb5⟩
  have hs5 := hb5.size
  simp only [World.size_alloc] at hs5
  obtain ⟨hc5, hf5⟩ := bcell hb5
  have a0 : w5.cell? ⟨w4.heap.size, 0, none⟩ = some (.int .i64 4) := by rw [hc5 _ _ (by simp)]; go_cell
  have HB5 : Hid (Below B w w5) := hid ((HB4.out.alloc (by omega) _).trans (hb5.mono (by simp; omega)))
  have HM5 := hid ((HM4.out.below hb5).below ((Below.refl _ w5).alloc (Nat.le_refl _) (.cells #[.int .i64 1, .int .i64 0, .int .i64 0, .int .i64 0, .int .i64 0, .int .i64 0] 30)))
  have HPa := hid (live_past B _ n _ HM5.out)
  clear HS2 HB4 HM4 hb5 hc5 hf5
  go_wp2_with fail
  refine HPa.out.mono ?_
  rintro e w6 ⟨rfl, hb6⟩
  have hs6 := hb6.size
  simp only [World.size_alloc] at hs6
  obtain ⟨hc6, hf6⟩ := bcell hb6
  have zz : w4.heap.size < w5.heap.size := by omega
  have b0 : w6.cell? ⟨w4.heap.size, 0, none⟩ = some (.int .i64 4) := by rw [hc6 _ _ (by simp; omega)]; go_cell
  have b1 : w6.cell? ⟨w5.heap.size, 0, none⟩ = some (.int .i64 1) := by rw [hc6 _ _ (by simp)]; go_cell
  have HB6 : Hid (Below B w w6) := hid ((HB5.out.alloc (by omega) _).trans (hb6.mono (by simp; omega)))
  have HM6 := hid (HM5.out.below hb6)
  have HDo := hid (live_done B _ n w6 (by omega) HM6.out)
  clear HPa HB5 HM5 hb6 hc6 hf6 a0
  go_wp2_with fail
  refine HDo.out.mono ?_
  rintro e w7 ⟨rfl, hm7, hb7, hs7, hk7⟩
  have d0 : w7.cell? ⟨w4.heap.size, 0, none⟩ = some (.int .i64 4) := (World.cell?_of_block (a := ⟨w4.heap.size, 0, none⟩) (hk7 w4.heap.size hs4 (by omega))).trans b0
  have d1 : w7.cell? ⟨w5.heap.size, 0, none⟩ = some (.int .i64 1) := (World.cell?_of_block (a := ⟨w5.heap.size, 0, none⟩) (hk7 w5.heap.size (by omega) (by omega))).trans b1
  have HB7 : Hid (Below B w w7) := hid (HB6.out.trans hb7)
  have HM7 := hid hm7
  have HMe := hid (live_mean B _ n w7 hm7)
  clear HDo HB6 HM6 hb7 hm7 hk7 b0 b1
  go_wp2_with fail
  refine HMe.out.mono ?_
  rintro e w8 ⟨rfl, hb8⟩
  have hs8 := hb8.size
  obtain ⟨hc8, hf8⟩ := bcell hb8
  have e0 : w8.cell? ⟨w4.heap.size, 0, none⟩ = some (.int .i64 4) := by rw [hc8 _ _ (by omega)]; exact d0
  have e1 : w8.cell? ⟨w5.heap.size, 0, none⟩ = some (.int .i64 1) := by rw [hc8 _ _ (by omega)]; exact d1
  have HB8 : Hid (Below B w w8) := hid (HB7.out.trans (hb8.mono (by omega)))
  have HFl := hid (live_flight B _ n w8 (HM7.out.below hb8))
  clear HMe HB7 HM7 hb8 hc8 hf8 d0 d1
  go_wp2_with fail
  refine HFl.out.mono ?_
  rintro e w9 ⟨rfl, rfl⟩
  go_wp2
  go_ret
  exact ⟨rfl, by rw [HBe.out]; exact HB8.out⟩

end Go.Proofs.Ytfpbjkmnipacdaa.StaE
