/- The walk of WorldShuffles. -/
import Derived.Test.YthkpfjjcpifkcaaAloH
import Derived.Test.YthkpfjjcpifkcaaWlsI
import Derived.Test.YthkpfjjcpifkcaaWldK
import Derived.Test.YthkpfjjcpifkcaaWldD
import Derived.Test.YthkpfjjcpifkcaaMem
import Derived.Deep.RegionHeld3
namespace Go.Proofs.Ythkpfjjcpifkcaa.WlsM
open Go.ChangeShapes Go.WideShapes Go.ChangeAt Go.RowKit Base ClkM Clk WldA WldD WldF WldG WldH WldI WldK WlsI Wri Mem AloC AloD AloH
set_option linter.unusedVariables false

/-- which numbers the first k are -/
def seenF (f : Nat → Int) : Nat → Nat → Bool
  | 0, _ => false
  | k + 1, j => seenF f k j || decide (f k = (j : Int))

theorem seenF_in {f : Nat → Int} : ∀ {k j : Nat}, seenF f k j = true → ∃ i, i < k ∧ f i = (j : Int)
  | k + 1, j, h => by
    unfold seenF at h
    rcases Bool.or_eq_true_iff.1 h with h | h
    · obtain ⟨i, hi, e⟩ := seenF_in h
      exact ⟨i, by omega, e⟩
    · exact ⟨k, by omega, by simpa using h⟩

def BRow (w : World) (s n : Nat) (F : Nat → Bool) : Prop := ∀ j, j < n → w.cell? ⟨s, j, none⟩ = some (.bool (F j)) ∧ w.frozen? ⟨s, j, none⟩ = false

theorem BRow.set {w : World} {s n : Nat} {F : Nat → Bool} (h : BRow w s n F) (i : Nat) (hi : i < n) : BRow (w.setCell ⟨s, i, none⟩ (.bool true)) s n (fun j => F j || decide (i = j)) := by
  intro j hj
  rw [World.frozen?_setCell]
  refine ⟨?_, (h j hj).2⟩
  by_cases e : i = j
  · subst e; simp only [decide_true, Bool.or_true]; exact World.cell?_setCell_same w _ _ (h i hi).1
  · simp only [e, decide_false, Bool.or_false]; rw [World.cell?_setCell_other w _ _ _ (by intro e2; cases e2; exact e rfl)]; exact (h j hj).1

theorem BRow.owned {w : World} {base s n cap : Nat} {xs : List Value} (h : w.ownsRow base 4 1 (.slice (some ⟨s, 0, none⟩) n cap) n xs) (hx : ∀ j, j < n → xs[j]? = some (.bool false)) : BRow w s n (fun _ => false) := fun j hj =>
  ⟨(World.ownsRow.cellAt h j (by omega)).trans (hx j hj), World.ownsRow.frozenAt h j⟩

theorem infoBool : (Try.prog.info? 4).map (fun i => (i.zero, i.size, i.bytes)) = some (some (.bool false), 1, 1) := by kernel_rfl

set_option maxRecDepth 100000 in
set_option maxHeartbeats 2000000 in
theorem yes_core (x n : Nat) (y : Int) (w : World) (hn : n ≤ 4096) (hy : y ≤ 9223372036854775807) :
    Calls Try.prog 3 #[.int .u64 x, .int .i64 n, .int .i64 y] w fun e w' => e = .returned (.bool true) ∧ Below w.heap.size w w' := by
  have HY := hid hy
  clear hy
  go_enter Try.func3, Try.ntmps3
  go_wp2_with fail
  refine (live_look _).mono ?_
  rintro e w1 ⟨rfl, hb1⟩
  have HB1 := hid hb1
  clear hb1
  go_wp2_with fail
  refine (newChance_any x _).mono ?_
  rintro e w2 ⟨rfl, rfl⟩
  go_wp2_with fail
  refine (newChance_any x _).mono ?_
  rintro e w2 ⟨rfl, rfl⟩
  obtain ⟨c, hc⟩ : ∃ c, w1.heap.size = c := ⟨_, rfl⟩
  have HB2 : Hid (Below w.heap.size w ((w1.alloc (.cells #[.int .u64 x] 110)).alloc (.cells #[.int .u64 x] 110))) := hid ((HB1.out.alloc HB1.out.size _).alloc (by have := HB1.out.size; simp; omega) _)
  have hc1 : ((w1.alloc (.cells #[.int .u64 x] 110)).alloc (.cells #[.int .u64 x] 110)).cell? ⟨w1.heap.size, 0, none⟩ = some (.int .u64 x) := by go_cell
  have hf1 : ((w1.alloc (.cells #[.int .u64 x] 110)).alloc (.cells #[.int .u64 x] 110)).frozen? ⟨w1.heap.size, 0, none⟩ = false := by go_cell
  have hc2 : ((w1.alloc (.cells #[.int .u64 x] 110)).alloc (.cells #[.int .u64 x] 110)).cell? ⟨w1.heap.size + 1, 0, none⟩ = some (.int .u64 x) := by go_cell
  have hf2 : ((w1.alloc (.cells #[.int .u64 x] 110)).alloc (.cells #[.int .u64 x] 110)).frozen? ⟨w1.heap.size + 1, 0, none⟩ = false := by go_cell
  have hwc : w.heap.size ≤ w1.heap.size := HB1.out.size
  have hsz : ((w1.alloc (.cells #[.int .u64 x] 110)).alloc (.cells #[.int .u64 x] 110)).heap.size = w1.heap.size + 2 := by simp
  clear HB1
  go_wp2_with fail
  generalize (w1.alloc (.cells #[.int .u64 x] 110)).alloc (.cells #[.int .u64 x] 110) = wa at *
  rw [hc] at *
  have hs1 : c + 2 ≤ wa.heap.size := by omega
  clear hc hsz
  refine (shuffle_own c x n wa hn hc1 hf1).mono ?_
  rintro e w3 ⟨g, rfl, hg1, hg2, hrow, hc3, hf3, hk3⟩
  have hc4 := (hk3.cell (k := c + 1) 0 (by omega) (by omega)).trans hc2
  have hf4 := (hk3.frozen (k := c + 1) 0 (by omega) (by omega)).trans hf2
  have HB3 := hid ((Below.trans HB2.out (hk3.toBelow w.heap.size hwc (by omega))))
  clear hc1 hf1 hc2 hf2 HB2
  have hs3 := hk3.size
  have HG := hid (shufF_good (n := n) (n - 1) x idF)
  have HR := hid hrow
  have HC3 := hid hc3
  have HF3 := hid hf3
  clear hk3 hrow hc3 hf3
  generalize hsh : shufF (n - 1) x idF = S at *
  have HSH := hid hsh
  clear hsh
  go_wp2_with fail
  refine (shuffle_own (c + 1) x n w3 hn hc4 hf4).mono ?_
  rintro e w4 ⟨g', rfl, hg1', hg2', hrow', hc5, hf5, hk4⟩
  rw [HSH.out] at hrow'
  have HR2 : Hid (RowO w4 g n S.1) := hid (HR.out.of_block (hk4.block g hg2 (fun e => by cases e; omega)))
  have HR3 := hid hrow'
  have HC4 : Hid (w4.cell? ⟨c, 0, none⟩ = some (.int .u64 S.2)) := hid ((hk4.cell (k := c) 0 (by omega) (by omega)).trans HC3.out)
  have HF4 : Hid (w4.frozen? ⟨c, 0, none⟩ = false) := hid ((hk4.frozen (k := c) 0 (by omega) (by omega)).trans HF3.out)
  have HB4 := hid (Below.trans HB3.out (hk4.toBelow w.heap.size (by omega) (by omega)))
  have hs4 := hk4.size
  clear HR HB3 hk4 hrow' hc5 hf5 hc4 hf4 HC3 HF3
  go_wp2_with fail
  refine (same_any _ _ n n n S.1 w4 (by omega) (Row.intsAt HR2.out.1 (by omega) n (Nat.le_refl _)) (Row.intsAt HR3.out.1 hg2' n (Nat.le_refl _))).mono ?_
  rintro e w5 ⟨rfl, m5, rfl⟩
  have HR4 : Hid (RowO (w4.drewN m5) g n S.1) := HR2
  have HR5 : Hid (RowO (w4.drewN m5) g' n S.1) := HR3
  have HC5 : Hid ((w4.drewN m5).cell? ⟨c, 0, none⟩ = some (.int .u64 S.2)) := HC4
  have HF5 : Hid ((w4.drewN m5).frozen? ⟨c, 0, none⟩ = false) := HF4
  have HB5 : Hid (Below w.heap.size w (w4.drewN m5)) := hid (below_drewN HB4.out _)
  have hg5 : g' < (w4.drewN m5).heap.size := hg2'
  clear HR2 HR3 HC4 HF4 HB4 hs4 hg2'
  generalize w4.drewN m5 = w5 at *
  obtain ⟨i0, hi, hz0, hz1, hz2⟩ := info_parts infoBool
  go_wp2_with (at_make; refine wpList_make_full _ rfl _ _ 31 rfl w5.heap.size 4 i0 (.bool false) 1 Try.underlying31 hi hz0 hz1 .i64 .i64 n n n rfl rfl rfl rfl ?b2 ?b3 (Nat.le_refl _) ?_; rotate_left 2; intro w6 hown hgrow)
  case b2 => rw [hz2]; omega
  case b3 => unfold maxLen; omega
  have HB6 : Hid (BRow w6 w5.heap.size n (seenF S.1 0)) := hid (BRow.owned hown (fun j hj => by simp [madeCells, Value.cells, hj, Nat.mod_one]))
  have HK6 : Hid (Keeps w5.heap.size w5 w6) := hid ((Keeps.refl _ _).grown hgrow (fun _ e => by cases e))
  have hs6 : w5.heap.size < w6.heap.size := (hown.lt _ rfl).2
  clear hown hgrow
  go_loopw [14] (fun i wr => ∃ k : Nat, k ≤ n ∧ i = .int .i64 k ∧ BRow wr w5.heap.size n (seenF S.1 k) ∧ Keeps w5.heap.size w5 wr ∧ w5.heap.size < wr.heap.size) (fun i _ => n - (intOf i).toNat)
  case atStart => exact ⟨0, Nat.zero_le _, rfl, HB6.out, HK6.out, hs6⟩
  case round =>
    obtain ⟨k, hk, rfl, hbr, hkp, hsz⟩ := hrel
    have HBR := hid hbr
    have HKP := hid hkp
    clear hbr hkp
    by_cases hlt : k < n
    · obtain ⟨hgr, hgi⟩ := HG.out (by omega) (idF_good n)
      obtain ⟨U, hU⟩ : ∃ U : Nat, S.1 k = U := ⟨(S.1 k).toNat, by have := (hgr k hlt).1; omega⟩
      have hUn : U < n := by have := (hgr k hlt).2; omega
      have hcl := (HR4.out.1.keeps HKP.out (by omega) (by omega) k hlt).1
      rw [hU] at hcl
      have hno : seenF S.1 k U = false := by
        cases e : seenF S.1 k U
        · rfl
        · obtain ⟨i, hik, e2⟩ := seenF_in e
          have := hgi i k (by omega) hlt (by rw [e2, hU])
          omega
      obtain ⟨hsc, hsf⟩ := HBR.out U hUn
      rw [hno] at hsc
      have HN : Hid (BRow (wr.setCell ⟨w5.heap.size, U, none⟩ (.bool true)) w5.heap.size n (seenF S.1 (k + 1))) := hid (by
        have h9 := HBR.out.set U hUn
        have e9 : (fun j => seenF S.1 k j || decide (U = j)) = seenF S.1 (k + 1) := by funext j; show _ = (seenF S.1 k j || decide (S.1 k = (j : Int))); rw [hU]; congr 1; rw [Bool.eq_iff_iff]; simp; omega
        rw [e9] at h9; exact h9)
      have HK2 := hid (HKP.out.set U (.bool true))
      have hge : decide ((n : Int) ≤ (U : Int)) = false := by simp; omega
      clear hgr hgi hU hno
      go_wp2_with fail
      exact ⟨⟨k + 1, by omega, by go_num, HN.out, HK2.out, by simpa using hsz⟩, by simp [intOf]; omega⟩
    · obtain rfl : k = n := by omega
      have HRA : Hid (RowO wr g k S.1) := hid (HR4.out.of_block (HKP.out.block g (by omega) (fun e => by cases e; omega)))
      have HRB : Hid (RowO wr g' k S.1) := hid (HR5.out.of_block (HKP.out.block g' (by omega) (fun e => by cases e; omega)))
      have hcc : wr.cell? ⟨c, 0, none⟩ = some (.int .u64 S.2) := (HKP.out.cell 0 (by omega) (by omega)).trans HC5.out
      have hcf : wr.frozen? ⟨c, 0, none⟩ = false := (HKP.out.frozen 0 (by omega) (by omega)).trans HF5.out
      have hsw : w.heap.size ≤ w5.heap.size := HB5.out.size
      have HBW : Hid (Below w.heap.size w wr) := hid (Below.trans HB5.out (HKP.out.toBelow w.heap.size (by omega) (by omega)))
      clear HBR HKP HB6 HK6 HR4 HR5 HC5 HF5 HB5 hlt
      have hgw : g' < wr.heap.size := by omega
      by_cases hy1 : y < 1
      · have hd1 : decide (1 ≤ y) = false := by simp; omega
        go_wp2_with fail
        refine (below_no c y wr hy1).mono ?_
        rintro e w8 ⟨rfl, rfl⟩
        have HRa := HRA
        have HRb := HRB
        have HBl := HBW
        have hgz := hgw
        clear hcc hcf hy1 HRA HRB HBW
        generalize hbb : wr.heap.size = b at *
        have hfr : Fresh (wr.alloc (.cells #[.slice none 0 0, .slice none 0 0, .slice none 0 0, .slice none 0 0, .slice none 0 0, .slice none 0 0, .slice none 0 0, .slice none 0 0] 44)) b := by
          intro j hj
          rw [← hbb]
          have hnp := heap_alloc_new wr (.cells #[.slice none 0 0, .slice none 0 0, .slice none 0 0, .slice none 0 0, .slice none 0 0, .slice none 0 0, .slice none 0 0, .slice none 0 0] 44)
          rcases (show j = 0 ∨ j = 1 ∨ j = 2 ∨ j = 3 ∨ j = 4 ∨ j = 5 ∨ j = 6 ∨ j = 7 by omega) with rfl | rfl | rfl | rfl | rfl | rfl | rfl | rfl <;> exact ⟨by unfold World.cell?; rw [hnp]; rfl, by unfold World.frozen?; rw [hnp]; rfl⟩
        have HBK : Hid (Below w.heap.size w (wr.alloc (.cells #[.slice none 0 0, .slice none 0 0, .slice none 0 0, .slice none 0 0, .slice none 0 0, .slice none 0 0, .slice none 0 0, .slice none 0 0] 44))) := hid (HBl.out.alloc HBl.out.size _)
        have HRc : Hid (RowO (wr.alloc (.cells #[.slice none 0 0, .slice none 0 0, .slice none 0 0, .slice none 0 0, .slice none 0 0, .slice none 0 0, .slice none 0 0, .slice none 0 0] 44)) g k S.1) := hid (HRa.out.of_block (AloC.heap_alloc_old _ _ _ (by omega)))
        have HRd : Hid (RowO (wr.alloc (.cells #[.slice none 0 0, .slice none 0 0, .slice none 0 0, .slice none 0 0, .slice none 0 0, .slice none 0 0, .slice none 0 0, .slice none 0 0] 44)) g' k S.1) := hid (HRb.out.of_block (AloC.heap_alloc_old _ _ _ (by omega)))
        have hbs : b < (wr.alloc (.cells #[.slice none 0 0, .slice none 0 0, .slice none 0 0, .slice none 0 0, .slice none 0 0, .slice none 0 0, .slice none 0 0, .slice none 0 0] 44)).heap.size := by simp; omega
        have hwb : w.heap.size ≤ b := by have := HBl.out.size; omega
        have HFR := hid hfr
        have HBB := hid hbb
        clear HRa HRb HBl hbb hfr
        go_wp2_with fail
        rw [HBB.out]
        clear HBB
        generalize wr.alloc (.cells #[.slice none 0 0, .slice none 0 0, .slice none 0 0, .slice none 0 0, .slice none 0 0, .slice none 0 0, .slice none 0 0, .slice none 0 0] 44) = w6 at *
        refine (take_core b w6.heap.size 0 none 0 [] (some ⟨g, 0, none⟩) k k w6 (Nat.le_refl _) hbs (by omega) (HFR.out 2 (by omega)).1 (HFR.out 2 (by omega)).2 ⟨rfl, .inl ⟨rfl, rfl⟩⟩ (fun g hg => by cases hg)).mono ?_
        rintro e w7 ⟨rfl, va1, vc1, ht7⟩
        have HT7 : Hid (Took b w6.heap.size 0 none 0 [] (.slice (some ⟨g, 0, none⟩) k k) w6 w7 va1 vc1) := hid ht7
        clear ht7
        go_wp2_with fail
        refine (take_core b w6.heap.size 1 va1 vc1 [.slice (some ⟨g, 0, none⟩) k k] (some ⟨g', 0, none⟩) k k w7 HT7.out.2.2.2.2.1.size (Nat.lt_of_lt_of_le hbs HT7.out.2.2.2.2.1.size) (by omega) HT7.out.1 HT7.out.2.1 HT7.out.2.2.1 HT7.out.2.2.2.1).mono ?_
        rintro e w8 ⟨rfl, va2, vc2, ht8⟩
        have HT8 : Hid (Took b w6.heap.size 1 va1 vc1 [.slice (some ⟨g, 0, none⟩) k k] (.slice (some ⟨g', 0, none⟩) k k) w7 w8 va2 vc2) := hid ht8
        clear ht8
        have HB8 : Hid (Below w.heap.size w w8) := hid (Below.trans HBK.out (Below.trans (HT7.out.2.2.2.2.1.below w.heap.size (by omega) (fun z hz => by rcases hz with rfl | hz; exact hwb; cases hz)) (HT8.out.2.2.2.2.1.below w.heap.size (by have := HT7.out.2.2.2.2.1.size; omega) (fun z hz => by rcases hz with rfl | hz; exact hwb; have := (HT7.out.2.2.1.lt z hz).1; omega))))
        obtain ⟨bb, bc, hL, hN⟩ := lists_two (l0 := k) (l1 := k) (B := w.heap.size) hwb hbs HFR.out (Own1.base HRc.out.2 (by omega)) (Own1.base HRd.out.2 (by omega)) (fun z hz => by have h1 : g = z := Option.some.inj hz; omega) (fun z hz => by have h1 : g' = z := Option.some.inj hz; omega) (fun z hz e => by have h1 : g = z := Option.some.inj hz; have h2 : g' = z := Option.some.inj e; omega) (by omega) (by omega) HT7.out HT8.out
        have HAL := hid (alone_two hL hN)
        clear hL hN HFR
        go_wp2_with fail
        refine HAL.out.mono ?_
        rintro e w9 ⟨rfl, hb9⟩
        have HB9 := hid (Below.trans HB8.out hb9)
        clear hb9
        go_wp2_with fail
        go_ret
        exact ⟨rfl, HB9.out⟩
      · have hd1 : decide (1 ≤ y) = true := by simp; omega
        have HBY := hid (below_yes c S.2 y wr (by omega) HY.out hcc hcf)
        obtain ⟨r, hr⟩ : ∃ r, mixN (stepN S.2) % y.toNat = r := ⟨_, rfl⟩
        have hr2 : r < y.toNat := by rw [← hr]; exact Nat.mod_lt _ (by omega)
        rw [hr] at HBY
        have hd2 : decide (y ≤ (r : Int)) = false := by simp; omega
        have HRa : Hid (RowO (wr.setCell ⟨c, 0, none⟩ (.int .u64 (stepN S.2))) g k S.1) := hid (HRA.out.of_block (heap_setCell_other _ _ _ _ (by show g ≠ c; omega)))
        have HRb : Hid (RowO (wr.setCell ⟨c, 0, none⟩ (.int .u64 (stepN S.2))) g' k S.1) := hid (HRB.out.of_block (heap_setCell_other _ _ _ _ (by show g' ≠ c; omega)))
        have HBl : Hid (Below w.heap.size w (wr.setCell ⟨c, 0, none⟩ (.int .u64 (stepN S.2)))) := hid (HBW.out.setCell (by show _ ≤ c; omega) _)
        have hgz : g' < (wr.setCell ⟨c, 0, none⟩ (.int .u64 (stepN S.2))).heap.size := by simpa using hgw
        generalize wr.setCell ⟨c, 0, none⟩ (.int .u64 (stepN S.2)) = wd at *
        clear hcc hcf hy1 hr hr2 HRA HRB HBW
        go_wp2_with fail
        refine HBY.out.mono ?_
        rintro e w8 ⟨rfl, rfl⟩
        clear HBY
        generalize hbb : wd.heap.size = b at *
        have hfr : Fresh (wd.alloc (.cells #[.slice none 0 0, .slice none 0 0, .slice none 0 0, .slice none 0 0, .slice none 0 0, .slice none 0 0, .slice none 0 0, .slice none 0 0] 44)) b := by
          intro j hj
          rw [← hbb]
          have hnp := heap_alloc_new wd (.cells #[.slice none 0 0, .slice none 0 0, .slice none 0 0, .slice none 0 0, .slice none 0 0, .slice none 0 0, .slice none 0 0, .slice none 0 0] 44)
          rcases (show j = 0 ∨ j = 1 ∨ j = 2 ∨ j = 3 ∨ j = 4 ∨ j = 5 ∨ j = 6 ∨ j = 7 by omega) with rfl | rfl | rfl | rfl | rfl | rfl | rfl | rfl <;> exact ⟨by unfold World.cell?; rw [hnp]; rfl, by unfold World.frozen?; rw [hnp]; rfl⟩
        have HBK : Hid (Below w.heap.size w (wd.alloc (.cells #[.slice none 0 0, .slice none 0 0, .slice none 0 0, .slice none 0 0, .slice none 0 0, .slice none 0 0, .slice none 0 0, .slice none 0 0] 44))) := hid (HBl.out.alloc HBl.out.size _)
        have HRc : Hid (RowO (wd.alloc (.cells #[.slice none 0 0, .slice none 0 0, .slice none 0 0, .slice none 0 0, .slice none 0 0, .slice none 0 0, .slice none 0 0, .slice none 0 0] 44)) g k S.1) := hid (HRa.out.of_block (AloC.heap_alloc_old _ _ _ (by omega)))
        have HRd : Hid (RowO (wd.alloc (.cells #[.slice none 0 0, .slice none 0 0, .slice none 0 0, .slice none 0 0, .slice none 0 0, .slice none 0 0, .slice none 0 0, .slice none 0 0] 44)) g' k S.1) := hid (HRb.out.of_block (AloC.heap_alloc_old _ _ _ (by omega)))
        have hbs : b < (wd.alloc (.cells #[.slice none 0 0, .slice none 0 0, .slice none 0 0, .slice none 0 0, .slice none 0 0, .slice none 0 0, .slice none 0 0, .slice none 0 0] 44)).heap.size := by simp; omega
        have hwb : w.heap.size ≤ b := by have := HBl.out.size; omega
        have HFR := hid hfr
        have HBB := hid hbb
        clear HRa HRb HBl hbb hfr
        go_wp2_with fail
        rw [HBB.out]
        clear HBB
        generalize wd.alloc (.cells #[.slice none 0 0, .slice none 0 0, .slice none 0 0, .slice none 0 0, .slice none 0 0, .slice none 0 0, .slice none 0 0, .slice none 0 0] 44) = w6 at *
        refine (take_core b w6.heap.size 0 none 0 [] (some ⟨g, 0, none⟩) k k w6 (Nat.le_refl _) hbs (by omega) (HFR.out 2 (by omega)).1 (HFR.out 2 (by omega)).2 ⟨rfl, .inl ⟨rfl, rfl⟩⟩ (fun g hg => by cases hg)).mono ?_
        rintro e w7 ⟨rfl, va1, vc1, ht7⟩
        have HT7 : Hid (Took b w6.heap.size 0 none 0 [] (.slice (some ⟨g, 0, none⟩) k k) w6 w7 va1 vc1) := hid ht7
        clear ht7
        go_wp2_with fail
        refine (take_core b w6.heap.size 1 va1 vc1 [.slice (some ⟨g, 0, none⟩) k k] (some ⟨g', 0, none⟩) k k w7 HT7.out.2.2.2.2.1.size (Nat.lt_of_lt_of_le hbs HT7.out.2.2.2.2.1.size) (by omega) HT7.out.1 HT7.out.2.1 HT7.out.2.2.1 HT7.out.2.2.2.1).mono ?_
        rintro e w8 ⟨rfl, va2, vc2, ht8⟩
        have HT8 : Hid (Took b w6.heap.size 1 va1 vc1 [.slice (some ⟨g, 0, none⟩) k k] (.slice (some ⟨g', 0, none⟩) k k) w7 w8 va2 vc2) := hid ht8
        clear ht8
        have HB8 : Hid (Below w.heap.size w w8) := hid (Below.trans HBK.out (Below.trans (HT7.out.2.2.2.2.1.below w.heap.size (by omega) (fun z hz => by rcases hz with rfl | hz; exact hwb; cases hz)) (HT8.out.2.2.2.2.1.below w.heap.size (by have := HT7.out.2.2.2.2.1.size; omega) (fun z hz => by rcases hz with rfl | hz; exact hwb; have := (HT7.out.2.2.1.lt z hz).1; omega))))
        obtain ⟨bb, bc, hL, hN⟩ := lists_two (l0 := k) (l1 := k) (B := w.heap.size) hwb hbs HFR.out (Own1.base HRc.out.2 (by omega)) (Own1.base HRd.out.2 (by omega)) (fun z hz => by have h1 : g = z := Option.some.inj hz; omega) (fun z hz => by have h1 : g' = z := Option.some.inj hz; omega) (fun z hz e => by have h1 : g = z := Option.some.inj hz; have h2 : g' = z := Option.some.inj e; omega) (by omega) (by omega) HT7.out HT8.out
        have HAL := hid (alone_two hL hN)
        clear hL hN HFR
        go_wp2_with fail
        refine HAL.out.mono ?_
        rintro e w9 ⟨rfl, hb9⟩
        have HB9 := hid (Below.trans HB8.out hb9)
        clear hb9
        go_wp2_with fail
        go_ret
        exact ⟨rfl, HB9.out⟩

end Go.Proofs.Ythkpfjjcpifkcaa.WlsM
