/- WorldShuffles where the number may not be shuffled; the law's main. -/
import Derived.Test.YthkpfjjcpifkcaaWlsM
namespace Go.Proofs.Ythkpfjjcpifkcaa.WlsN
open Go.ChangeShapes Go.WideShapes Go.ChangeAt Go.RowKit Base ClkM Clk WldA WldD WldF WldG WldH WldI WldK WlsI Wri Mem AloC AloD AloH WlsM
set_option linter.unusedVariables false

set_option maxRecDepth 100000 in
set_option maxHeartbeats 2000000 in
theorem no_core (x : Nat) (n y : Int) (w : World) (hn : ¬ (0 ≤ n ∧ n ≤ 4096)) (hy : y ≤ 9223372036854775807) :
    Calls Try.prog 3 #[.int .u64 x, .int .i64 n, .int .i64 y] w fun e w' => e = .returned (.bool true) ∧ Below w.heap.size w w' := by
  have HY := hid hy
  have HNO := hid hn
  clear hy hn
  go_enter Try.func3, Try.ntmps3
  go_wp2_with fail
  refine (live_look _).mono ?_
  rintro e w1 ⟨rfl, hb1⟩
  have HB1 := hid hb1
  clear hb1
  go_wp2_with fail
  refine (newChance_any x _).mono ?_
  rintro e w2 ⟨rfl, rfl⟩
  go_wp2_with fail
  refine (newChance_any x _).mono ?_
  rintro e w2 ⟨rfl, rfl⟩
  obtain ⟨c, hc⟩ : ∃ c, w1.heap.size = c := ⟨_, rfl⟩
  have HB2 : Hid (Below w.heap.size w ((w1.alloc (.cells #[.int .u64 x] 110)).alloc (.cells #[.int .u64 x] 110))) := hid ((HB1.out.alloc HB1.out.size _).alloc (by have := HB1.out.size; simp; omega) _)
  have hc1 : ((w1.alloc (.cells #[.int .u64 x] 110)).alloc (.cells #[.int .u64 x] 110)).cell? ⟨w1.heap.size, 0, none⟩ = some (.int .u64 x) := by go_cell
  have hf1 : ((w1.alloc (.cells #[.int .u64 x] 110)).alloc (.cells #[.int .u64 x] 110)).frozen? ⟨w1.heap.size, 0, none⟩ = false := by go_cell
  have hc2 : ((w1.alloc (.cells #[.int .u64 x] 110)).alloc (.cells #[.int .u64 x] 110)).cell? ⟨w1.heap.size + 1, 0, none⟩ = some (.int .u64 x) := by go_cell
  have hf2 : ((w1.alloc (.cells #[.int .u64 x] 110)).alloc (.cells #[.int .u64 x] 110)).frozen? ⟨w1.heap.size + 1, 0, none⟩ = false := by go_cell
  have hwc : w.heap.size ≤ w1.heap.size := HB1.out.size
  have hsz : ((w1.alloc (.cells #[.int .u64 x] 110)).alloc (.cells #[.int .u64 x] 110)).heap.size = w1.heap.size + 2 := by simp
  clear HB1
  go_wp2_with fail
  generalize (w1.alloc (.cells #[.int .u64 x] 110)).alloc (.cells #[.int .u64 x] 110) = wa at *
  rw [hc] at *
  have hs1 : c + 2 ≤ wa.heap.size := by omega
  clear hc hsz
  refine (shuffle_no c n wa HNO.out).mono ?_
  rintro e w3 ⟨rfl, rfl⟩
  go_wp2_with fail
  refine (shuffle_no (c + 1) n wa HNO.out).mono ?_
  rintro e w3 ⟨rfl, rfl⟩
  go_wp2_with fail
  refine (same_none none none 0 0 wa).mono ?_
  rintro e w5 ⟨rfl, m5, rfl⟩
  have hcc : (wa.drewN m5).cell? ⟨c, 0, none⟩ = some (.int .u64 x) := hc1
  have hcf : (wa.drewN m5).frozen? ⟨c, 0, none⟩ = false := hf1
  have HB5 : Hid (Below w.heap.size w (wa.drewN m5)) := hid (below_drewN HB2.out _)
  have hs5 : c + 2 ≤ (wa.drewN m5).heap.size := hs1
  clear hc1 hf1 hc2 hf2 HB2 hs1
  generalize wa.drewN m5 = w5 at *
  obtain ⟨i0, hi, hz0, hz1, hz2⟩ := info_parts infoBool
  go_wp2_with (at_make; refine wpList_make_full _ rfl _ _ 31 rfl w5.heap.size 4 i0 (.bool false) 1 Try.underlying31 hi hz0 hz1 .i64 .i64 0 0 0 rfl rfl rfl rfl ?b2 ?b3 (Nat.le_refl _) ?_; rotate_left 2; intro w6 hown hgrow)
  case b2 => rw [hz2]; omega
  case b3 => unfold maxLen; omega
  have hsw : w.heap.size ≤ w5.heap.size := HB5.out.size
  have hcc6 : w6.cell? ⟨c, 0, none⟩ = some (.int .u64 x) := (World.cell?_of_block (a := ⟨c, 0, none⟩) (hgrow.block c (by omega) (fun e => by cases e))).trans hcc
  have hcf6 : w6.frozen? ⟨c, 0, none⟩ = false := (World.frozen?_of_block (a := ⟨c, 0, none⟩) (hgrow.block c (by omega) (fun e => by cases e))).trans hcf
  have HBW : Hid (Below w.heap.size w w6) := hid (HB5.out.grown hgrow hsw (fun _ e => by cases e))
  clear hown hgrow HB5 hcc hcf
  go_loop [14] (fun i => i = .int .i64 0) (fun i => 0)
  case atStart => rfl
  case round =>
    obtain rfl := hrel
    generalize w6 = wr at *
    by_cases hy1 : y < 1
    · have hd1 : decide (1 ≤ y) = false := by simp; omega
      go_wp2_with fail
      refine (below_no c y wr hy1).mono ?_
      rintro e w8 ⟨rfl, rfl⟩
      have HBl := HBW
      clear hcc6 hcf6 hy1 HBW
      generalize hbb : wr.heap.size = b at *
      have hfr : Fresh (wr.alloc (.cells #[.slice none 0 0, .slice none 0 0, .slice none 0 0, .slice none 0 0, .slice none 0 0, .slice none 0 0, .slice none 0 0, .slice none 0 0] 44)) b := by
        intro j hj
        rw [← hbb]
        have hnp := heap_alloc_new wr (.cells #[.slice none 0 0, .slice none 0 0, .slice none 0 0, .slice none 0 0, .slice none 0 0, .slice none 0 0, .slice none 0 0, .slice none 0 0] 44)
        rcases (show j = 0 ∨ j = 1 ∨ j = 2 ∨ j = 3 ∨ j = 4 ∨ j = 5 ∨ j = 6 ∨ j = 7 by omega) with rfl | rfl | rfl | rfl | rfl | rfl | rfl | rfl <;> exact ⟨by unfold World.cell?; rw [hnp]; rfl, by unfold World.frozen?; rw [hnp]; rfl⟩
      have HBK : Hid (Below w.heap.size w (wr.alloc (.cells #[.slice none 0 0, .slice none 0 0, .slice none 0 0, .slice none 0 0, .slice none 0 0, .slice none 0 0, .slice none 0 0, .slice none 0 0] 44))) := hid (HBl.out.alloc HBl.out.size _)
      have hbs : b < (wr.alloc (.cells #[.slice none 0 0, .slice none 0 0, .slice none 0 0, .slice none 0 0, .slice none 0 0, .slice none 0 0, .slice none 0 0, .slice none 0 0] 44)).heap.size := by simp; omega
      have hwb : w.heap.size ≤ b := by have := HBl.out.size; omega
      have HFR := hid hfr
      have HBB := hid hbb
      clear HBl hbb hfr
      go_wp2_with fail
      rw [HBB.out]
      clear HBB
      generalize wr.alloc (.cells #[.slice none 0 0, .slice none 0 0, .slice none 0 0, .slice none 0 0, .slice none 0 0, .slice none 0 0, .slice none 0 0, .slice none 0 0] 44) = w6 at *
      refine (take_core b w6.heap.size 0 none 0 [] none 0 0 w6 (Nat.le_refl _) hbs (by omega) (HFR.out 2 (by omega)).1 (HFR.out 2 (by omega)).2 ⟨rfl, .inl ⟨rfl, rfl⟩⟩ (fun g hg => by cases hg)).mono ?_
      rintro e w7 ⟨rfl, va1, vc1, ht7⟩
      have HT7 : Hid (Took b w6.heap.size 0 none 0 [] (.slice none 0 0) w6 w7 va1 vc1) := hid ht7
      clear ht7
      go_wp2_with fail
      refine (take_core b w6.heap.size 1 va1 vc1 [.slice none 0 0] none 0 0 w7 HT7.out.2.2.2.2.1.size (Nat.lt_of_lt_of_le hbs HT7.out.2.2.2.2.1.size) (by omega) HT7.out.1 HT7.out.2.1 HT7.out.2.2.1 HT7.out.2.2.2.1).mono ?_
      rintro e w8 ⟨rfl, va2, vc2, ht8⟩
      have HT8 : Hid (Took b w6.heap.size 1 va1 vc1 [.slice none 0 0] (.slice none 0 0) w7 w8 va2 vc2) := hid ht8
      clear ht8
      have HB8 : Hid (Below w.heap.size w w8) := hid (Below.trans HBK.out (Below.trans (HT7.out.2.2.2.2.1.below w.heap.size (by omega) (fun z hz => by rcases hz with rfl | hz; exact hwb; cases hz)) (HT8.out.2.2.2.2.1.below w.heap.size (by have := HT7.out.2.2.2.2.1.size; omega) (fun z hz => by rcases hz with rfl | hz; exact hwb; have := (HT7.out.2.2.1.lt z hz).1; omega))))
      obtain ⟨bb, bc, hL, hN⟩ := lists_two (l0 := 0) (l1 := 0) (B := w.heap.size) hwb hbs HFR.out ⟨[], rfl, .inl ⟨rfl, rfl⟩⟩ ⟨[], rfl, .inl ⟨rfl, rfl⟩⟩ (fun z hz => by cases hz) (fun z hz => by cases hz) (fun z hz e => by cases hz) (by omega) (by omega) HT7.out HT8.out
      have HAL := hid (alone_two hL hN)
      clear hL hN HFR
      go_wp2_with fail
      refine HAL.out.mono ?_
      rintro e w9 ⟨rfl, hb9⟩
      have HB9 := hid (Below.trans HB8.out hb9)
      clear hb9
      go_wp2_with fail
      go_ret
      exact ⟨rfl, HB9.out⟩
    · have hd1 : decide (1 ≤ y) = true := by simp; omega
      have HBY := hid (below_yes c x y wr (by omega) HY.out hcc6 hcf6)
      obtain ⟨r, hr⟩ : ∃ r, mixN (stepN x) % y.toNat = r := ⟨_, rfl⟩
      have hr2 : r < y.toNat := by rw [← hr]; exact Nat.mod_lt _ (by omega)
      rw [hr] at HBY
      have hd2 : decide (y ≤ (r : Int)) = false := by simp; omega
      have HBl : Hid (Below w.heap.size w (wr.setCell ⟨c, 0, none⟩ (.int .u64 (stepN x)))) := hid (HBW.out.setCell (by show _ ≤ c; omega) _)
      generalize wr.setCell ⟨c, 0, none⟩ (.int .u64 (stepN x)) = wd at *
      clear hcc6 hcf6 hy1 hr hr2 HBW
      go_wp2_with fail
      refine HBY.out.mono ?_
      rintro e w8 ⟨rfl, rfl⟩
      clear HBY
      generalize hbb : wd.heap.size = b at *
      have hfr : Fresh (wd.alloc (.cells #[.slice none 0 0, .slice none 0 0, .slice none 0 0, .slice none 0 0, .slice none 0 0, .slice none 0 0, .slice none 0 0, .slice none 0 0] 44)) b := by
        intro j hj
        rw [← hbb]
        have hnp := heap_alloc_new wd (.cells #[.slice none 0 0, .slice none 0 0, .slice none 0 0, .slice none 0 0, .slice none 0 0, .slice none 0 0, .slice none 0 0, .slice none 0 0] 44)
        rcases (show j = 0 ∨ j = 1 ∨ j = 2 ∨ j = 3 ∨ j = 4 ∨ j = 5 ∨ j = 6 ∨ j = 7 by omega) with rfl | rfl | rfl | rfl | rfl | rfl | rfl | rfl <;> exact ⟨by unfold World.cell?; rw [hnp]; rfl, by unfold World.frozen?; rw [hnp]; rfl⟩
      have HBK : Hid (Below w.heap.size w (wd.alloc (.cells #[.slice none 0 0, .slice none 0 0, .slice none 0 0, .slice none 0 0, .slice none 0 0, .slice none 0 0, .slice none 0 0, .slice none 0 0] 44))) := hid (HBl.out.alloc HBl.out.size _)
      have hbs : b < (wd.alloc (.cells #[.slice none 0 0, .slice none 0 0, .slice none 0 0, .slice none 0 0, .slice none 0 0, .slice none 0 0, .slice none 0 0, .slice none 0 0] 44)).heap.size := by simp; omega
      have hwb : w.heap.size ≤ b := by have := HBl.out.size; omega
      have HFR := hid hfr
      have HBB := hid hbb
      clear HBl hbb hfr
      go_wp2_with fail
      rw [HBB.out]
      clear HBB
      generalize wd.alloc (.cells #[.slice none 0 0, .slice none 0 0, .slice none 0 0, .slice none 0 0, .slice none 0 0, .slice none 0 0, .slice none 0 0, .slice none 0 0] 44) = w6 at *
      refine (take_core b w6.heap.size 0 none 0 [] none 0 0 w6 (Nat.le_refl _) hbs (by omega) (HFR.out 2 (by omega)).1 (HFR.out 2 (by omega)).2 ⟨rfl, .inl ⟨rfl, rfl⟩⟩ (fun g hg => by cases hg)).mono ?_
      rintro e w7 ⟨rfl, va1, vc1, ht7⟩
      have HT7 : Hid (Took b w6.heap.size 0 none 0 [] (.slice none 0 0) w6 w7 va1 vc1) := hid ht7
      clear ht7
      go_wp2_with fail
      refine (take_core b w6.heap.size 1 va1 vc1 [.slice none 0 0] none 0 0 w7 HT7.out.2.2.2.2.1.size (Nat.lt_of_lt_of_le hbs HT7.out.2.2.2.2.1.size) (by omega) HT7.out.1 HT7.out.2.1 HT7.out.2.2.1 HT7.out.2.2.2.1).mono ?_
      rintro e w8 ⟨rfl, va2, vc2, ht8⟩
      have HT8 : Hid (Took b w6.heap.size 1 va1 vc1 [.slice none 0 0] (.slice none 0 0) w7 w8 va2 vc2) := hid ht8
      clear ht8
      have HB8 : Hid (Below w.heap.size w w8) := hid (Below.trans HBK.out (Below.trans (HT7.out.2.2.2.2.1.below w.heap.size (by omega) (fun z hz => by rcases hz with rfl | hz; exact hwb; cases hz)) (HT8.out.2.2.2.2.1.below w.heap.size (by have := HT7.out.2.2.2.2.1.size; omega) (fun z hz => by rcases hz with rfl | hz; exact hwb; have := (HT7.out.2.2.1.lt z hz).1; omega))))
      obtain ⟨bb, bc, hL, hN⟩ := lists_two (l0 := 0) (l1 := 0) (B := w.heap.size) hwb hbs HFR.out ⟨[], rfl, .inl ⟨rfl, rfl⟩⟩ ⟨[], rfl, .inl ⟨rfl, rfl⟩⟩ (fun z hz => by cases hz) (fun z hz => by cases hz) (fun z hz e => by cases hz) (by omega) (by omega) HT7.out HT8.out
      have HAL := hid (alone_two hL hN)
      clear hL hN HFR
      go_wp2_with fail
      refine HAL.out.mono ?_
      rintro e w9 ⟨rfl, hb9⟩
      have HB9 := hid (Below.trans HB8.out hb9)
      clear hb9
      go_wp2_with fail
      go_ret
      exact ⟨rfl, HB9.out⟩

theorem main {W : World} (a0 : Int) (w0 : (Lit.int .u64 a0).wf = true) (a1 : Int) (w1 : (Lit.int .i64 a1).wf = true) (a2 : Int) (w2 : (Lit.int .i64 a2).wf = true) :
    Calls Try.prog 3 #[.int .u64 a0, .int .i64 a1, .int .i64 a2] W fun e w' => e = .returned (.bool true) ∧ Below W.heap.size W w' := by
  have h0 := (Go.bounds_u64 w0).1
  have h2 : a2 ≤ 9223372036854775807 := by have := Go.bounds_i64 w2; omega
  obtain ⟨x, rfl⟩ : ∃ x : Nat, a0 = x := ⟨a0.toNat, by omega⟩
  by_cases hn : 0 ≤ a1 ∧ a1 ≤ 4096
  · obtain ⟨n, rfl⟩ : ∃ n : Nat, a1 = n := ⟨a1.toNat, by omega⟩
    exact yes_core x n a2 W (by omega) h2
  · exact no_core x a1 a2 W hn h2

end Go.Proofs.Ythkpfjjcpifkcaa.WlsN
