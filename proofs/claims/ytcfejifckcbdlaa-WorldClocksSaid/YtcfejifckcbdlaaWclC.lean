/- The walk of WorldClocks. -/
import Derived.Test.YtcfejifckcbdlaaWclB
import Derived.Deep.RegionHeld3
namespace Go.Proofs.Ytcfejifckcbdlaa.WclC
open Go.ChangeShapes Go.WideShapes Go.ChangeAt Go.RowKit Base ClkM Clk WldA WldF WldG Mem Wri WclA WclB

structure Deed where
  kind : Int
  at_ : Int
  a : Option Addr
  n : Nat
  cap : Nat
  f : Nat → Int

def dv (d : Deed) : Array Value := #[.int .i64 d.kind, .int .i64 d.at_, .slice d.a d.n d.cap]

def Deeds (w : World) (a : Option Addr) (len : Nat) (D : Nat → Deed) : Prop :=
  len ≤ 9223372036854775807 ∧ (0 < len → ∃ p q, a = some ⟨p, q, none⟩ ∧ p < w.heap.size ∧ ∀ i, i < len → ∀ (j : Nat) v, (dv (D i))[j]? = some v → w.cell? ⟨p, q + i * 3 + j, none⟩ = some v) ∧
  ∀ i, i < len → (D i).n ≤ 17592186044416 ∧ IntsAt w (D i).a (D i).n (D i).f

def Rel (w : World) (rb len : Nat) (vc vo vs i : Value) (wr : World) : Prop :=
  ∃ (k cb : Nat) (s : Int) (bs : List Nat) (ss : List Int) (xo xs : Value), k ≤ len ∧ i = .int .i64 k ∧ vc = ptr cb ∧ xo = vo ∧ xs = vs ∧ ss.length = bs.length ∧ bs.length ≤ 6 ∧ (∀ b ∈ bs, b ≠ cb) ∧ IsT s ∧ Wc w cb rb s s bs ss xo xs wr

theorem infoPtr : (Try.prog.info? 23).map (fun i => (i.zero, i.size, i.bytes)) = some (some (.pointer none), 1, 8) := by kernel_rfl

set_option maxRecDepth 100000 in
set_option maxHeartbeats 4000000 in
theorem clocks_yes (at_ : Int) (hat : IsT at_) (a : Option Addr) (len cap : Nat) (D : Nat → Deed) (sv : Value) (hsv : sv = .slice a len cap) (w : World) (HC : Hid (Deeds w a len D)) :
    Calls Try.prog 3 #[.int .i64 at_, sv] w fun e w' => e = .returned (.bool true) ∧ Below w.heap.size w w' := by
  subst hsv
  obtain ⟨i0, hi, hz0, hz1, hz2⟩ := info_parts infoInt
  obtain ⟨j0, hj, hy0, hy1, hy2⟩ := info_parts infoPtr
  have HAT := hid hat
  clear hat
  go_enter Try.func3, Try.ntmps3
  go_wp2_with fail
  refine (newClock_yes at_ HAT.out _).mono ?_
  rintro e w1 ⟨rfl, hw1⟩
  go_wp2_with fail
  refine (rnew_yes at_ HAT.out _).mono ?_
  rintro e w2 ⟨rfl, hw2⟩
  have hs1 : w1.heap.size = w.heap.size + 1 := by rw [← hw1]; simp
  have hs2 : w2.heap.size = w.heap.size + 2 := by rw [← hw2]; simp [hs1]
  have HW0 : Hid (Wc w w.heap.size w1.heap.size at_ at_ [] [] (.slice none 0 0) (.slice none 0 0) w2) := hid (by
    have e1 : w2.cell? ⟨w.heap.size, 0, none⟩ = some (.int .i64 at_) := by subst hw2; subst hw1; go_cell
    have e2 : w2.frozen? ⟨w.heap.size, 0, none⟩ = false := by subst hw2; subst hw1; go_cell
    have e3 : w2.cell? ⟨w1.heap.size, 0, none⟩ = some (.int .i64 at_) := by subst hw2; subst hw1; go_cell
    have e4 : w2.frozen? ⟨w1.heap.size, 0, none⟩ = false := by subst hw2; subst hw1; go_cell
    exact { c := e1, cf := e2, r := e3, rf := e4, cr := by omega, lc := Nat.le_refl _, lr := by omega, old := fun i b h => by simp at h, own1 := ⟨rfl, .inl ⟨rfl, rfl⟩⟩, own2 := ⟨rfl, .inl ⟨rfl, rfl⟩⟩, f1 := by simp [Value.ownBlock], f2 := by simp [Value.ownBlock], f12 := by simp [Value.ownBlock], bel := by rw [← hw2, ← hw1]; exact ((Below.refl _ _).alloc (Nat.le_refl _) _).alloc (by simp) _ })
  clear hw1 hw2
  obtain ⟨cb, hcb⟩ : ∃ b, w.heap.size = b := ⟨_, rfl⟩
  obtain ⟨rb, hrb⟩ : ∃ b, w1.heap.size = b := ⟨_, rfl⟩
  rw [hrb] at HW0 ⊢
  have HCB := hid hcb
  go_wp2_with fail
  refine (WldD.live_look _).mono ?_
  rintro e w3 ⟨rfl, hb3⟩
  have HW := hid (HW0.out.below hb3)
  clear hb3 HW0 hs1 hs2 hrb
  go_wp2_with fail
  go_loopw [5, 9, 10, 11] (fun vc vo vs i wr => Rel w rb len vc vo vs i wr) (fun _ _ _ i _ => len - (intOf i).toNat)
  case atStart => exact ⟨0, cb, at_, [], [], _, _, Nat.zero_le _, rfl, by rw [← HCB.out]; rfl, rfl, rfl, rfl, by simp, by simp, HAT.out, by rw [← HCB.out]; exact HW.out⟩
  case round =>
    obtain ⟨k, cb, s, bs, ss, xo, xs, hk, rfl, rfl, rfl, rfl, hl, h6, hfree, hs, hwc⟩ := hrel
    have HWC := hid hwc
    have HFR := hid hfree
    have HIS := hid hs
    clear hwc hfree hs HW HCB hcb
    by_cases hlt : k < len
    · obtain ⟨hlen, hcs, hds⟩ := HC.out
      obtain ⟨p, q, rfl, hp, hcp⟩ := hcs (by omega)
      obtain ⟨hdn, hdi⟩ := hds k hlt
      have hcp := hcp k hlt
      obtain ⟨⟨dk, da, ca, cl, cc, cf⟩, hD⟩ : ∃ d, D k = d := ⟨_, rfl⟩
      rw [hD] at hcp hdn hdi
      dsimp only at hcp hdn hdi
      have HP : Hid (∀ wx, Below w.heap.size w wx → wx.cell? ⟨p, q + k * 3, none⟩ = some (.int .i64 dk) ∧ wx.cell? ⟨p, q + k * 3 + 1, none⟩ = some (.int .i64 da) ∧ wx.cell? ⟨p, q + k * 3 + 2, none⟩ = some (.slice ca cl cc) ∧ p < wx.heap.size) := hid (fun wx hb =>
        ⟨(hb.cell (p := ⟨p, q + k * 3, none⟩) hp).trans (hcp 0 _ rfl), (hb.cell (p := ⟨p, q + k * 3 + 1, none⟩) hp).trans (hcp 1 _ rfl), (hb.cell (p := ⟨p, q + k * 3 + 2, none⟩) hp).trans (hcp 2 _ rfl), Nat.lt_of_lt_of_le hp hb.size⟩)
      have HDI := hid hdi
      clear hcs hds hcp hD hdi
      obtain ⟨c0, c1, c2, hz⟩ := HP.out wr HWC.out.bel
      have HH := hid (hand_any ca cl cc cf wr hdn (HDI.out.below (HWC.out.bel)))
      go_wp2_with fail
      refine HH.out.mono ?_
      rintro e w4 ⟨rfl, hrow, hb4, hs4⟩
      have HW4 := hid (HWC.out.below hb4)
      obtain ⟨hb, hhb⟩ : ∃ b, wr.heap.size = b := ⟨_, rfl⟩
      have HFH : Hid (hb ≠ cb ∧ hb ≠ rb) := hid ⟨by have := HWC.out.clt; omega, by have := HWC.out.rlt; omega⟩
      have HFB : Hid ((∀ g, xo.ownBlock = some g → hb ≠ g) ∧ (∀ g, xs.ownBlock = some g → hb ≠ g)) := hid ⟨fun g e => by have := (HWC.out.own1.lt g e).2; omega, fun g e => by have := (HWC.out.own2.lt g e).2; omega⟩
      have HB0 : Hid (w.heap.size ≤ hb) := hid (by have := HWC.out.size; omega)
      rw [hhb] at hrow hs4 ⊢
      have HROW := hid hrow
      clear HH hrow hb4 hhb c0 c1 c2 hz HWC
      obtain ⟨c0, c1, c2, hz⟩ := HP.out w4 HW4.out.bel
      by_cases hk0 : dk = 0
      · subst hk0
        have HT := hid (tick_any cb s (some ⟨hb, 0, none⟩) cl (cl + 9) (markF cl cf) w4 HW4.out.c HW4.out.cf (by omega) (Row.intsAt HROW.out hs4 cl (by omega)) HIS.out)
        rw [show firsts (markF cl cf) cl = firsts cf cl from List.map_congr_left (fun i hi => by have := List.mem_range.1 hi; simp [markF, this])] at HT
        have HT2 := hid (rtick_any rb s ca cl cc cf w4 HW4.out.r HW4.out.rf (by omega) (HDI.out.below HW4.out.bel) HIS.out)
        unfold ptr
        go_wp2_with fail
        refine HT.out.mono ?_
        clear HT
        rcases hto : tickF s (firsts cf cl) with _ | t
        · rw [hto] at HT2
          rintro e w5 ⟨rfl, rfl⟩
          go_wp2_with fail
          refine HT2.out.mono ?_
          rintro e w5 ⟨rfl, rfl⟩
          clear HT2 hto c0 c1 c2 hz
          have hr9 := HW4.out.r
          have hc2x := (HP.out w4 HW4.out.bel).2.2.1
          have hzx := (HP.out w4 HW4.out.bel).2.2.2
          have HNow := hid (now_any cb s w4.drew HW4.out.c)
          have HKept := hid (kept_any ca hb cl cc cf w4.drew hdn hs4 (HDI.out.below HW4.out.bel.drew) HROW.out)
          go_wp2_with fail
          go_region_held3 (fun w' => w'.cell? ⟨rb, 0, none⟩ = some (.int .i64 s) ∧ w'.cell? ⟨p, q + k * 3 + 2, none⟩ = some (.slice ca cl cc))
            (first | assumption | go_keep) (first
              | (go_at_call 15; go_loud (refine HNow.out.mono ?_; rintro e w7 ⟨rfl, rfl⟩))
              | (go_at_call 16; go_loud (refine HKept.out.mono ?_; rintro e w8 ⟨rfl, m8, rfl⟩)))
          have HWZ := hid (HW4.out.drewN (1 + m8))
          clear HNow HKept hr9 hc2x hzx
          generalize w4.drewN (1 + m8) = wd at *
          go_wp2_with fail
          go_roundw
          case rel => exact ⟨k + 1, cb, s, bs, ss, _, _, by omega, by go_num, rfl, rfl, rfl, hl, h6, HFR.out, HIS.out, HWZ.out⟩
          case measure => simp [intOf]; omega
        · clear HT2
          rintro e w5 ⟨rfl, hw5⟩
          have HW5 := hid (show Wc w cb rb t s bs ss _ _ w5 by rw [← hw5]; exact HW4.out.setC HFR.out t)
          have HROW5 := hid (show Row w5 hb (cl + 9) (markF cl cf) from HROW.out.of_block (by rw [← hw5]; exact heap_setCell_other _ _ _ _ HFH.out.1))
          have hs5 : hb < w5.heap.size := by rw [← hw5]; simpa using hs4
          have HIS5 := hid (tickF_some HIS.out hto).1
          clear hw5 HW4 HROW c0 c1 c2 hz
          obtain ⟨c0, c1, c2, hz⟩ := HP.out w5 HW5.out.bel
          have HT := hid (rtick_any rb s ca cl cc cf w5 HW5.out.r HW5.out.rf (by omega) (HDI.out.below HW5.out.bel) HIS.out)
          rw [hto] at HT
          go_wp2_with fail
          refine HT.out.mono ?_
          rintro e w6 ⟨rfl, hw6⟩
          have HW6 := hid (show Wc w cb rb t t bs ss _ _ w6 by rw [← hw6]; exact HW5.out.setR t)
          have HROW6 := hid (show Row w6 hb (cl + 9) (markF cl cf) from HROW5.out.of_block (by rw [← hw6]; exact heap_setCell_other _ _ _ _ HFH.out.2))
          have hs6 : hb < w6.heap.size := by rw [← hw6]; simpa using hs5
          clear hw6 HW5 HROW5 c0 c1 c2 hz HT hto
          have hr9 := HW6.out.r
          have hc2x := (HP.out w6 HW6.out.bel).2.2.1
          have hzx := (HP.out w6 HW6.out.bel).2.2.2
          have HNow := hid (now_any cb t w6.drew HW6.out.c)
          have HKept := hid (kept_any ca hb cl cc cf w6.drew hdn hs6 (HDI.out.below HW6.out.bel.drew) HROW6.out)
          go_wp2_with fail
          go_region_held3 (fun w' => w'.cell? ⟨rb, 0, none⟩ = some (.int .i64 t) ∧ w'.cell? ⟨p, q + k * 3 + 2, none⟩ = some (.slice ca cl cc))
            (first | assumption | go_keep) (first
              | (go_at_call 15; go_loud (refine HNow.out.mono ?_; rintro e w7 ⟨rfl, rfl⟩))
              | (go_at_call 16; go_loud (refine HKept.out.mono ?_; rintro e w8 ⟨rfl, m8, rfl⟩)))
          have HWZ := hid (HW6.out.drewN (1 + m8))
          clear HNow HKept hr9 hc2x hzx
          generalize w6.drewN (1 + m8) = wd at *
          go_wp2_with fail
          go_roundw
          case rel => exact ⟨k + 1, cb, t, bs, ss, _, _, by omega, by go_num, rfl, rfl, rfl, hl, h6, HFR.out, HIS5.out, HWZ.out⟩
          case measure => simp [intOf]; omega
      · by_cases hk1 : dk = 1
        · subst hk1
          have H1 := hid (set_any cb s da w4.drew HW4.out.c HW4.out.cf)
          unfold SetPost at H1
          obtain ⟨r, hr⟩ : ∃ r : Int, (if ¬ IsT da then 2 else if da < s then 7 else 0) = r := ⟨_, rfl⟩
          have HR := hid hr
          clear hr
          by_cases hset : IsT da ∧ s ≤ da
          · obtain ⟨ht1, ht2⟩ := hset
            have HTA := hid ht1
            clear ht1
            have H1' := hid (H1.out.mono (R' := fun e w' => e = .returned (.int .i64 r) ∧ w4.drew.setCell ⟨cb, 0, none⟩ (.int .i64 da) = w') (fun e w' h => ⟨by obtain ⟨r2, e2, e3⟩ := h.1; rw [e3, e2, HR.out], h.2.elim (fun h => h.2.2) (fun h => absurd ⟨HTA.out, ht2⟩ h.1)⟩))
            have HW5 := hid ((show Wc w cb rb s s bs ss _ _ w4.drew from HW4.out.drewN 1).setC HFR.out da)
            have H2 := hid (rset_any rb s da _ HW5.out.r HW5.out.rf)
            unfold SetPost at H2
            have H2' := hid (H2.out.mono (R' := fun e w' => e = .returned (.int .i64 r) ∧ (w4.drew.setCell ⟨cb, 0, none⟩ (.int .i64 da)).setCell ⟨rb, 0, none⟩ (.int .i64 da) = w') (fun e w' h => ⟨by obtain ⟨r2, e2, e3⟩ := h.1; rw [e3, e2, HR.out], h.2.elim (fun h => h.2.2) (fun h => absurd ⟨HTA.out, ht2⟩ h.1)⟩))
            have HW6 := hid (show Wc w cb rb da da bs ss _ _ ((w4.setCell ⟨cb, 0, none⟩ (.int .i64 da)).setCell ⟨rb, 0, none⟩ (.int .i64 da)).drew from ((HW4.out.setC HFR.out da).setR da).drewN 1)
            have HROW6 := hid (show Row ((w4.setCell ⟨cb, 0, none⟩ (.int .i64 da)).setCell ⟨rb, 0, none⟩ (.int .i64 da)).drew hb (cl + 9) (markF cl cf) from Row.drewN ((Row.of_block HROW.out (heap_setCell_other _ _ _ _ HFH.out.1)).of_block (heap_setCell_other _ _ _ _ HFH.out.2)) 1)
            have hs6 : hb < ((w4.setCell ⟨cb, 0, none⟩ (.int .i64 da)).setCell ⟨rb, 0, none⟩ (.int .i64 da)).drew.heap.size := show hb < ((w4.setCell ⟨cb, 0, none⟩ (.int .i64 da)).setCell ⟨rb, 0, none⟩ (.int .i64 da)).heap.size by simpa using hs4
            have k5 := (HP.out _ HW5.out.bel).2.1
            have k6 := (HP.out _ (HW5.out.setR da).bel).2.1
            clear H1 H2 HW4 HROW HW5
            unfold ptr
            go_wp2_with fail
            go_region_held3 (fun w' => w'.cell? ⟨p, q + k * 3 + 1, none⟩ = some (.int .i64 da))
              (first | assumption | go_keep) (first
                | (go_at_call 12; go_loud (refine H1'.out.mono ?_; rintro e w7 ⟨rfl, rfl⟩))
                | (go_at_call 13; go_loud (refine H2'.out.mono ?_; rintro e w8 ⟨rfl, rfl⟩)))
            clear k5 k6 c0 c1 c2 hz H1' H2' HR
            generalize ((w4.setCell ⟨cb, 0, none⟩ (.int .i64 da)).setCell ⟨rb, 0, none⟩ (.int .i64 da)).drew = w6 at *
            have hr9 := HW6.out.r
            have hc2x := (HP.out w6 HW6.out.bel).2.2.1
            have hzx := (HP.out w6 HW6.out.bel).2.2.2
            have HNow := hid (now_any cb da w6.drew HW6.out.c)
            have HKept := hid (kept_any ca hb cl cc cf w6.drew hdn hs6 (HDI.out.below HW6.out.bel.drew) HROW6.out)
            go_wp2_with fail
            go_region_held3 (fun w' => w'.cell? ⟨rb, 0, none⟩ = some (.int .i64 da) ∧ w'.cell? ⟨p, q + k * 3 + 2, none⟩ = some (.slice ca cl cc))
              (first | assumption | go_keep) (first
                | (go_at_call 15; go_loud (refine HNow.out.mono ?_; rintro e w7 ⟨rfl, rfl⟩))
                | (go_at_call 16; go_loud (refine HKept.out.mono ?_; rintro e w8 ⟨rfl, m8, rfl⟩)))
            have HWZ := hid (HW6.out.drewN (1 + m8))
            clear HNow HKept hr9 hc2x hzx
            generalize w6.drewN (1 + m8) = wd at *
            go_wp2_with fail
            go_roundw
            case rel => exact ⟨k + 1, cb, da, bs, ss, _, _, by omega, by go_num, rfl, rfl, rfl, hl, h6, HFR.out, HTA.out, HWZ.out⟩
            case measure => simp [intOf]; omega
          · have H1' := hid (H1.out.mono (R' := fun e w' => e = .returned (.int .i64 r) ∧ w4.drew = w') (fun e w' h => ⟨by obtain ⟨r2, e2, e3⟩ := h.1; rw [e3, e2, HR.out], h.2.elim (fun h => absurd ⟨h.1, h.2.1⟩ hset) (fun h => h.2)⟩))
            have H2 := hid (rset_any rb s da w4.drew HW4.out.r HW4.out.rf)
            unfold SetPost at H2
            have H2' := hid (H2.out.mono (R' := fun e w' => e = .returned (.int .i64 r) ∧ w4.drew = w') (fun e w' h => ⟨by obtain ⟨r2, e2, e3⟩ := h.1; rw [e3, e2, HR.out], h.2.elim (fun h => absurd ⟨h.1, h.2.1⟩ hset) (fun h => h.2)⟩))
            clear H1 H2 hset
            unfold ptr
            go_wp2_with fail
            go_region_held3 (fun w' => w'.cell? ⟨p, q + k * 3 + 1, none⟩ = some (.int .i64 da))
              (first | assumption | go_keep) (first
                | (go_at_call 12; go_loud (refine H1'.out.mono ?_; rintro e w7 ⟨rfl, rfl⟩))
                | (go_at_call 13; go_loud (refine H2'.out.mono ?_; rintro e w8 ⟨rfl, rfl⟩)))
            have HW6 := hid (show Wc w cb rb s s bs ss _ _ w4.drew from HW4.out.drewN 1)
            have HROW6 := hid (show Row w4.drew hb (cl + 9) (markF cl cf) from Row.drewN HROW.out 1)
            have hs6 : hb < w4.drew.heap.size := hs4
            clear c0 c1 c2 hz H1' H2' HR HW4 HROW hs4
            generalize w4.drew = w6 at *
            have hr9 := HW6.out.r
            have hc2x := (HP.out w6 HW6.out.bel).2.2.1
            have hzx := (HP.out w6 HW6.out.bel).2.2.2
            have HNow := hid (now_any cb s w6.drew HW6.out.c)
            have HKept := hid (kept_any ca hb cl cc cf w6.drew hdn hs6 (HDI.out.below HW6.out.bel.drew) HROW6.out)
            go_wp2_with fail
            go_region_held3 (fun w' => w'.cell? ⟨rb, 0, none⟩ = some (.int .i64 s) ∧ w'.cell? ⟨p, q + k * 3 + 2, none⟩ = some (.slice ca cl cc))
              (first | assumption | go_keep) (first
                | (go_at_call 15; go_loud (refine HNow.out.mono ?_; rintro e w7 ⟨rfl, rfl⟩))
                | (go_at_call 16; go_loud (refine HKept.out.mono ?_; rintro e w8 ⟨rfl, m8, rfl⟩)))
            have HWZ := hid (HW6.out.drewN (1 + m8))
            clear HNow HKept hr9 hc2x hzx
            generalize w6.drewN (1 + m8) = wd at *
            go_wp2_with fail
            go_roundw
            case rel => exact ⟨k + 1, cb, s, bs, ss, _, _, by omega, by go_num, rfl, rfl, rfl, hl, h6, HFR.out, HIS.out, HWZ.out⟩
            case measure => simp [intOf]; omega
        · by_cases hk2 : dk = 2
          · subst hk2
            obtain ⟨va, vc, rfl⟩ := owns_shape HW4.out.own1
            by_cases hl6 : bs.length < 6
            · have hown1 : (w4.alloc (.cells #[.pointer (some ⟨cb, 0, none⟩)] 23)).ownsRow w.heap.size 23 1 (.slice va bs.length vc) bs.length (bs.map ptr) := World.ownsRow.alloc HW4.out.own1 _
              unfold ptr
              go_wp2_with (at_builtin; (first
                | (refine wpList_append_own_at _ rfl _ _ 31 rfl w.heap.size 23 j0 (.pointer none) 1 8 Try.underlying31 hj hy0 hy1 hy2 rfl (by decide) _ _ _ rfl hown1 ⟨w4.heap.size, 0, none⟩ 1 1 [ptr cb] rfl (by rfl) (cell_one_new _ _ _) (by intro u hu; obtain rfl := List.mem_singleton.1 hu; rfl) (by unfold maxLen; omega) (by omega) (by have := HW4.out.size; simp; omega) ?_; intro v5 w5 hown5 hgr5 hnil5 hat5
                   have HW5 := hid ((HW4.out.alloc (.cells #[.pointer (some ⟨cb, 0, none⟩)] 23)).pushO hl hown5 hgr5 hat5)
                   have hs5 : hb < w5.heap.size := by have := hgr5.size; simp only [World.size_alloc] at this; omega
                   have HROW5 := hid (show Row w5 hb (cl + 9) (markF cl cf) from HROW.out.of_block ((hgr5.block hb (by simp; omega) (fun e => HFB.out.1 _ e.symm rfl)).trans (Below.heap_alloc w4 _ hb hs4)))
                   have hr5 := HW5.out.r
                   have hown2 : (w5.alloc (.cells #[.int .i64 s] 3)).ownsRow w.heap.size 3 1 xs ss.length (ss.map (Value.int .i64)) := World.ownsRow.alloc HW5.out.own2 _
                   clear hown5 hgr5 hnil5 hat5 hown1 HW4 HROW hs4)
                | (refine wpList_append_own_at _ rfl _ _ 32 rfl w.heap.size 3 i0 (.int .i64 0) 1 8 Try.underlying32 hi hz0 hz1 hz2 rfl (by decide) _ _ _ rfl hown2 ⟨w5.heap.size, 0, none⟩ 1 1 [.int .i64 s] rfl (by rfl) (cell_one_new _ _ _) (ints_oneCell .i64 [s]) (by unfold maxLen; omega) (by omega) (by have := HW5.out.size; simp; omega) ?_; intro v6 w6 hown6 hgr6 hnil6 hat6
                   have HW6 := hid ((HW5.out.alloc (.cells #[.int .i64 s] 3)).pushS hl hown6 hgr6 hat6)
                   have hs6 : hb < w6.heap.size := by have := hgr6.size; simp only [World.size_alloc] at this; omega
                   have HROW6 := hid (show Row w6 hb (cl + 9) (markF cl cf) from HROW5.out.of_block ((hgr6.block hb (by simp; omega) (fun e => HFB.out.2 _ e.symm rfl)).trans (Below.heap_alloc w5 _ hb hs5)))
                   clear hown6 hgr6 hnil6 hat6 hown2 HW5 HROW5 hs5 hr5)))
              refine (fork_any cb s w6 HW6.out.c).mono ?_
              rintro e w7 ⟨rfl, hw7⟩
              have HW7 := hid (show Wc w w6.heap.size rb s s (bs ++ [cb]) (ss ++ [s]) _ _ w7 by rw [← hw7]; exact HW6.out.fork.1)
              have HFR7 := hid (HW6.out.fork.2)
              have HROW7 := hid (show Row w7 hb (cl + 9) (markF cl cf) from HROW6.out.of_block (by rw [← hw7]; exact Below.heap_alloc w6 _ hb hs6))
              have hs7 : hb < w7.heap.size := by rw [← hw7]; simp; omega
              clear hw7 HW6 HROW6 hs6 c0 c1 c2 hz
              obtain ⟨nb, hnb⟩ : ∃ nb, w6.heap.size = nb := ⟨_, rfl⟩
              rw [hnb] at HW7 HFR7 ⊢
              clear hnb
              have hr9 := HW7.out.r
              have hc2x := (HP.out w7 HW7.out.bel).2.2.1
              have hzx := (HP.out w7 HW7.out.bel).2.2.2
              have HNow := hid (now_any nb s w7.drew HW7.out.c)
              have HKept := hid (kept_any ca hb cl cc cf w7.drew hdn hs7 (HDI.out.below HW7.out.bel.drew) HROW7.out)
              go_wp2_with fail
              go_region_held3 (fun w' => w'.cell? ⟨rb, 0, none⟩ = some (.int .i64 s) ∧ w'.cell? ⟨p, q + k * 3 + 2, none⟩ = some (.slice ca cl cc))
                (first | assumption | go_keep) (first
                  | (go_at_call 15; go_loud (refine HNow.out.mono ?_; rintro e w7 ⟨rfl, rfl⟩))
                  | (go_at_call 16; go_loud (refine HKept.out.mono ?_; rintro e w8 ⟨rfl, m8, rfl⟩)))
              have HWZ := hid (HW7.out.drewN (1 + m8))
              clear HNow HKept hr9 hc2x hzx
              generalize w7.drewN (1 + m8) = wd at *
              go_wp2_with fail
              go_roundw
              case rel => exact ⟨k + 1, nb, s, bs ++ [cb], ss ++ [s], _, _, by omega, by go_num, rfl, rfl, rfl, by simp; omega, by simp; omega, HFR7.out, HIS.out, HWZ.out⟩
              case measure => simp [intOf]; omega
            · unfold ptr
              clear c1
              have hr9 := HW4.out.r
              have hc2x := (HP.out w4 HW4.out.bel).2.2.1
              have hzx := (HP.out w4 HW4.out.bel).2.2.2
              have HNow := hid (now_any cb s w4.drew HW4.out.c)
              have HKept := hid (kept_any ca hb cl cc cf w4.drew hdn hs4 (HDI.out.below HW4.out.bel.drew) HROW.out)
              go_wp2_with fail
              go_region_held3 (fun w' => w'.cell? ⟨rb, 0, none⟩ = some (.int .i64 s) ∧ w'.cell? ⟨p, q + k * 3 + 2, none⟩ = some (.slice ca cl cc))
                (first | assumption | go_keep) (first
                  | (go_at_call 15; go_loud (refine HNow.out.mono ?_; rintro e w7 ⟨rfl, rfl⟩))
                  | (go_at_call 16; go_loud (refine HKept.out.mono ?_; rintro e w8 ⟨rfl, m8, rfl⟩)))
              have HWZ := hid (HW4.out.drewN (1 + m8))
              clear HNow HKept hr9 hc2x hzx
              generalize w4.drewN (1 + m8) = wd at *
              go_wp2_with fail
              go_roundw
              case rel => exact ⟨k + 1, cb, s, bs, ss, _, _, by omega, by go_num, rfl, rfl, rfl, hl, h6, HFR.out, HIS.out, HWZ.out⟩
              case measure => simp [intOf]; omega
          · unfold ptr
            clear c1 c2
            have hr9 := HW4.out.r
            have hc2x := (HP.out w4 HW4.out.bel).2.2.1
            have hzx := (HP.out w4 HW4.out.bel).2.2.2
            have HNow := hid (now_any cb s w4.drew HW4.out.c)
            have HKept := hid (kept_any ca hb cl cc cf w4.drew hdn hs4 (HDI.out.below HW4.out.bel.drew) HROW.out)
            go_wp2_with fail
            go_region_held3 (fun w' => w'.cell? ⟨rb, 0, none⟩ = some (.int .i64 s) ∧ w'.cell? ⟨p, q + k * 3 + 2, none⟩ = some (.slice ca cl cc))
              (first | assumption | go_keep) (first
                | (go_at_call 15; go_loud (refine HNow.out.mono ?_; rintro e w7 ⟨rfl, rfl⟩))
                | (go_at_call 16; go_loud (refine HKept.out.mono ?_; rintro e w8 ⟨rfl, m8, rfl⟩)))
            have HWZ := hid (HW4.out.drewN (1 + m8))
            clear HNow HKept hr9 hc2x hzx
            generalize w4.drewN (1 + m8) = wd at *
            go_wp2_with fail
            go_roundw
            case rel => exact ⟨k + 1, cb, s, bs, ss, _, _, by omega, by go_num, rfl, rfl, rfl, hl, h6, HFR.out, HIS.out, HWZ.out⟩
            case measure => simp [intOf]; omega
    · obtain rfl : k = len := by omega
      obtain ⟨va, vc, rfl⟩ := owns_shape HWC.out.own1
      have hl1 : ss.length ≤ bs.length := by omega
      have hl2 : bs.length ≤ ss.length := by omega
      clear hl
      unfold ptr
      go_wp2_with fail
      go_loopw [17] (fun i wx => ∃ (j m : Nat), j ≤ bs.length ∧ i = .int .i64 j ∧ wr.drewN m = wx) (fun i _ => bs.length - (intOf i).toNat)
      case atStart => exact ⟨0, 0, Nat.zero_le _, rfl, rfl⟩
      case round =>
        obtain ⟨j, m, hj, rfl, hwx⟩ := hrel
        have HX := hid (show Wc w cb rb s s bs ss _ _ wr by rw [← hwx]; exact HWC.out.drewN m)
        have HWX := hid hwx
        clear hwx
        by_cases hjl : j < bs.length
        · obtain ⟨g1, q1, hv1, _, hg1, hr1⟩ := owns_at HX.out.own1 (by omega)
          obtain ⟨g2, q2, hv2, _, hg2, hr2⟩ := owns_at HX.out.own2 (by omega)
          obtain ⟨b, hb⟩ : ∃ b, bs[j]? = some b := ⟨bs[j], List.getElem?_eq_getElem hjl⟩
          obtain ⟨x, hx⟩ : ∃ x, ss[j]? = some x := ⟨ss[j], List.getElem?_eq_getElem (by omega)⟩
          have y1 : wr.cell? ⟨g1, j, none⟩ = some (.pointer (some ⟨b, 0, none⟩)) := hr1 j _ hjl (by rw [List.getElem?_map, hb]; rfl)
          have y2 : wr.cell? ⟨g2, j, none⟩ = some (.int .i64 x) := hr2 j _ (by omega) (by rw [List.getElem?_map, hx]; rfl)
          have HNow := hid (now_any b x wr.drew ((HX.out.old j b hb).2.2.2 x hx))
          injection hv1 with e1 e2 e3
          subst e1
          subst hv2
          have hjs : j < ss.length := by omega
          clear hr1 hr2 hb hx e2 e3
          go_wp2_with fail
          go_region_held3 (fun w' => w'.cell? ⟨g1, j, none⟩ = some (.pointer (some ⟨b, 0, none⟩)) ∧ w'.cell? ⟨g2, j, none⟩ = some (.int .i64 x))
            (first | assumption | go_keep) (first | (go_at_call 15; go_loud (refine HNow.out.mono ?_; rintro e w7 ⟨rfl, rfl⟩)))
          go_wp2_with fail
          go_roundw
          case rel => exact ⟨j + 1, m + 1, by omega, by go_num, by rw [← HWX.out]; rfl⟩
          case measure => simp [intOf]; omega
        · obtain rfl : j = bs.length := by omega
          go_wp2_with fail
          go_ret
          exact ⟨rfl, HX.out.bel⟩

end Go.Proofs.Ytcfejifckcbdlaa.WclC
