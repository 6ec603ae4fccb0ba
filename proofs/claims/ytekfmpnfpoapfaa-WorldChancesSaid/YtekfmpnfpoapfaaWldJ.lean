/- Contract of the document's Shuffle. -/
import Derived.Test.YtekfmpnfpoapfaaWldI
namespace Go.Proofs.Ytekfmpnfpoapfaa.WldJ
open Go.ChangeShapes Go.WideShapes Go.ChangeAt Go.RowKit Base ClkM Clk WldA WldF WldG WldH WldI

theorem belowRef_step (b s i1 : Nat) (f : Nat → Int) (wr : World) (h0 : 0 < i1) (h1 : i1 ≤ 4096) (hc : wr.cell? ⟨b, 0, none⟩ = some (.int .u64 s)) (hf : wr.frozen? ⟨b, 0, none⟩ = false) :
    ∃ j s2 : Nat, j < i1 + 1 ∧ shufF i1 s f = shufF (i1 - 1) s2 (swapF f i1 j) ∧
      Calls Try.prog 31 #[.pointer (some ⟨b, 0, none⟩), .int .i64 ((i1 : Int) + 1)] wr fun e w' => e = .returned (.tuple #[.int .i64 (j : Int), .int .i64 0]) ∧ wr.setCell ⟨b, 0, none⟩ (.int .u64 s2) = w' := by
  refine ⟨mixN (stepN s) % ((i1 : Int) + 1).toNat, stepN s, Nat.lt_of_lt_of_le (Nat.mod_lt _ (by omega)) (by omega), ?_, belowRef_yes b s ((i1 : Int) + 1) wr (by omega) (by omega) hc hf⟩
  obtain ⟨m, rfl⟩ : ∃ m, i1 = m + 1 := ⟨i1 - 1, by omega⟩
  rw [show (((m + 1 : Nat) : Int) + 1).toNat = m + 2 from by omega]
  rfl


set_option maxRecDepth 100000 in
set_option maxHeartbeats 1000000 in
theorem shuffleRef_yes (b x n : Nat) (w : World) (hn : n ≤ 4096) (h : w.cell? ⟨b, 0, none⟩ = some (.int .u64 x)) (hf : w.frozen? ⟨b, 0, none⟩ = false) :
    Calls Try.prog 28 #[.pointer (some ⟨b, 0, none⟩), .int .i64 n] w (ShufOk b x n w) := by
  obtain ⟨i0, hi, hz0, hz1, hz2⟩ := info_parts infoInt
  have hb := World.block_lt_of_cell? _ _ h
  go_enter Try.func28, Try.ntmps28
  go_wp2
  have HK1 := hid (Keeps.refl b w)
  have HC1 := hid h
  have HF1 := hid hf
  clear h hf
  go_loopw [6, 7] (fun l i wr => ∃ (k : Nat) (v : Value), v = l ∧ k ≤ n ∧ i = .int .i64 k ∧ wr.ownsRow w.heap.size 3 1 v k ((firsts idF k).map (Value.int .i64)) ∧ wr.cell? ⟨b, 0, none⟩ = some (.int .u64 x) ∧ wr.frozen? ⟨b, 0, none⟩ = false ∧ Keeps b w wr) (fun _ i _ => n - (intOf i).toNat)
  case atStart => exact ⟨0, .slice none 0 0, rfl, Nat.zero_le _, rfl, ⟨rfl, .inl ⟨rfl, rfl⟩⟩, HC1.out, HF1.out, HK1.out⟩
  case round =>
    obtain ⟨k, v, rfl, hk, rfl, hown, hc, hf, hkeep⟩ := hrel
    have HO := hid hown
    have HC := hid hc
    have HF := hid hf
    have HK := hid hkeep
    have hsz := hkeep.size
    clear hown hc hf hkeep
    by_cases hlt : k < n
    · have hownd := HO.out.kept (World.grownBy_alloc wr (.cells #[.int .i64 (k : Int)] 3) none) (by cases v.ownBlock; exact .inl rfl; exact .inr (by simp))
      go_wp2_with (at_builtin; refine wpList_append_own _ rfl _ _ 32 rfl w.heap.size 3 i0 (.int .i64 0) 1 8 Try.underlying32 hi hz0 hz1 hz2 rfl (by decide) _ _ _ rfl hownd ⟨wr.heap.size, 0, none⟩ 1 1 [.int .i64 (k : Int)] rfl ?c1 ?c2 ?c3 ?c4 ?c5 ?c6 ?_; rotate_left 6; intro v2 w2 hown1 hgrow hnil)
      case c1 => rfl
      case c2 => exact cell_one_new _ _ _
      case c3 => exact ints_oneCell .i64 [(k : Int)]
      case c4 => unfold maxLen; omega
      case c5 => omega
      case c6 => simp; omega
      have hk2 : Keeps b w w2 := (HK.out.alloc (.cells #[.int .i64 (k : Int)] 3)).grown hgrow (fun j e => .inl (hownd.lt j e).1)
      have hne : some b ≠ v.ownBlock := fun e => by have := (hownd.lt b e.symm).1; omega
      have hc2 : w2.cell? ⟨b, 0, none⟩ = some (.int .u64 x) := by rw [World.cell?_of_block (a := ⟨b, 0, none⟩) (hgrow.block b (by simp; omega) hne), (Keeps.alloc (Keeps.refl (b + 1) wr) _).cell 0 (by omega) (by omega)]; exact HC.out
      have hf2 : w2.frozen? ⟨b, 0, none⟩ = false := by rw [World.frozen?_of_block (a := ⟨b, 0, none⟩) (hgrow.block b (by simp; omega) hne), (Keeps.alloc (Keeps.refl (b + 1) wr) _).frozen 0 (by omega) (by omega)]; exact HF.out
      have HC2 := hid hc2
      have HF2 := hid hf2
      have HK2 := hid hk2
      have HO2 : Hid (w2.ownsRow w.heap.size 3 1 v2 (k + 1) ((firsts idF (k + 1)).map (Value.int .i64))) := hid (by rw [firsts_succ, List.map_append]; exact hown1)
      clear hownd hown1 hgrow hnil hne hk2 hc2 hf2
      exact ⟨⟨k + 1, v2, rfl, by omega, by go_num, HO2.out, HC2.out, HF2.out, HK2.out⟩, by simp [intOf]; omega⟩
    · obtain rfl : k = n := by omega
      obtain ⟨a, cap, hv, hrow⟩ : ∃ a cap, v = .slice a k cap ∧ (0 < k → ∃ g, a = some ⟨g, 0, none⟩ ∧ w.heap.size ≤ g ∧ g < wr.heap.size ∧ Row wr g k idF) := by
        have HOO := HO.out
        rcases HO.out.2 with ⟨rfl, h0⟩ | ⟨g, cap, cur, rfl, hg, _⟩
        · exact ⟨none, 0, by rw [h0], fun h => by omega⟩
        · exact ⟨_, cap, rfl, fun _ => ⟨g, rfl, hg, (HOO.lt g rfl).2, Row.owned HOO (fun j hj => by simp [firsts, hj])⟩⟩
      subst hv
      have HR0 := hid hrow
      clear hrow
      go_wp2
      by_cases hk0 : k = 0
      · subst hk0
        go_loopw [8] (fun i wq => i = .int .i64 (-1) ∧ wq = wr) (fun i _ => 0)
        case atStart => exact ⟨by go_num, rfl⟩
        case round =>
          obtain ⟨rfl, rfl⟩ := hrel
          go_wp2
          go_ret2
          exact ⟨a, cap, rfl, fun h => by omega, HC.out, HF.out, HK.out⟩
      · obtain ⟨g, rfl, hgw, hgs, hrow⟩ := HR0.out (by omega)
        have HR2 := hid hrow
        clear hrow HR0
        have hbg : b ≠ g := by omega
        have hgb : g ≠ b := by omega
        go_loopw [8] (fun i wq => Rel2 b g k (shufF (k - 1) x idF) w i wq) (fun i _ => (intOf i).toNat)
        case atStart => exact ⟨(k : Int) - 1, x, idF, by go_num, by omega, by omega, by rw [show ((k : Int) - 1).toNat = k - 1 from by omega], HR2.out, HC.out, HF.out, HK.out, hgs⟩
        case round =>
          obtain ⟨z, s, f, rfl, hz0, hz1, hR, hrow, hc, hf, hkeep, hsz2⟩ := hrel
          have HC2 := hid hc
          have HR := hid hrow
          have HK2 := hid hkeep
          have HRR := hid hR
          have HF2 := hid hf
          by_cases hpos : 0 < z
          · obtain ⟨i1, hi1⟩ : ∃ i1 : Nat, z = i1 := ⟨z.toNat, by omega⟩
            subst hi1
            have hi2 : i1 < k := by omega
            have hi3 : 0 < i1 := by omega
            obtain ⟨j, s2, hj, hsh, hB⟩ := belowRef_step b s i1 f wr hi3 (by omega) hc hf
            have hj0 : j < k := by omega
            have HSh := hid hsh
            have HB := hid hB
            rw [show (i1 : Int).toNat = i1 from by omega] at HRR
            clear hj hsh hB
            have hrow2 : Row (wr.setCell ⟨b, 0, none⟩ (.int .u64 s2)) g k f := hrow.of_block (heap_setCell_other _ _ _ _ (by simp; omega))
            have hc2 : (wr.setCell ⟨b, 0, none⟩ (.int .u64 s2)).cell? ⟨b, 0, none⟩ = some (.int .u64 s2) := World.cell?_setCell_same _ _ _ hc
            have hf2 : (wr.setCell ⟨b, 0, none⟩ (.int .u64 s2)).frozen? ⟨b, 0, none⟩ = false := by rw [World.frozen?_setCell]; exact hf
            have hk2 : Keeps b w (wr.setCell ⟨b, 0, none⟩ (.int .u64 s2)) := hkeep.set _ _
            have hs2 : g < (wr.setCell ⟨b, 0, none⟩ (.int .u64 s2)).heap.size := by simp; omega
            clear hc hrow hkeep hR hf HC2 HR HK2 HF2 HK HC HF
            go_wp2_with fail
            refine HB.out.mono ?_
            rintro e wd ⟨rfl, hwd⟩
            rw [hwd] at hrow2 hc2 hf2 hk2 hs2
            have HR := hid hrow2
            have HC2 := hid hc2
            have HF2 := hid hf2
            have HK2 := hid hk2
            have hci := (hrow2 i1 hi2).1
            have hfi := (hrow2 i1 hi2).2
            have hcj := (hrow2 j hj0).1
            have hfj := (hrow2 j hj0).2
            clear hrow2 hc2 hf2 hk2 hwd HB hsz2
            obtain ⟨u, hu⟩ : ∃ u, f i1 = u := ⟨_, rfl⟩
            obtain ⟨v, hv⟩ : ∃ v, f j = v := ⟨_, rfl⟩
            rw [hu] at hci
            rw [hv] at hcj
            have HU := hid hu
            have HV := hid hv
            clear hu hv
            by_cases hij : i1 = j
            · subst hij
              obtain rfl : u = v := by rw [← HU.out, HV.out]
              clear hcj hfj hj0
              go_wp2_with fail
              go_region
              go_wp2
              exact ⟨⟨(i1 : Int) - 1, s2, swapF f i1 i1, by go_num, by omega, by omega, by rw [show ((i1 : Int) - 1).toNat = i1 - 1 from by omega, ← HSh.out, HRR.out], swap_row HR.out i1 i1 hi2 hi2 u u HU.out HV.out, by have := HC2.out; go_cell, by have := HF2.out; go_cell, ((HK2.out.setNew _ hgw _ _).setNew _ hgw _ _).drewN 1, by simp; omega⟩, by simp [intOf]; omega⟩
            · go_wp2_with fail
              go_region
              go_wp2
              exact ⟨⟨(i1 : Int) - 1, s2, swapF f i1 j, by go_num, by omega, by omega, by rw [show ((i1 : Int) - 1).toNat = i1 - 1 from by omega, ← HSh.out, HRR.out], swap_row HR.out i1 j hi2 hj0 u v HU.out HV.out, by have := HC2.out; go_cell, by have := HF2.out; go_cell, ((HK2.out.setNew _ hgw _ _).setNew _ hgw _ _).drewN 1, by simp; omega⟩, by simp [intOf]; omega⟩
          · have hz2 : z.toNat = 0 := by omega
            rw [hz2] at HRR
            have HRa : Hid (f = (shufF (k - 1) x idF).1 ∧ s = (shufF (k - 1) x idF).2) := hid (by rw [← HRR.out]; exact ⟨rfl, rfl⟩)
            have hposf : decide (1 ≤ z) = false := by simp; omega
            clear hpos hz2 hR
            go_wp2
            go_ret2
            refine ⟨some ⟨g, 0, none⟩, cap, rfl, fun _ => ⟨g, rfl, hgw, hsz2, by rw [← HRa.out.1]; exact hrow⟩, by rw [← HRa.out.2]; exact HC2.out, HF2.out, HK2.out⟩

end Go.Proofs.Ytekfmpnfpoapfaa.WldJ
