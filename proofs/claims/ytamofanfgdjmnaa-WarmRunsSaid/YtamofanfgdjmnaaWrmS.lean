/- WarmRates: the walk. -/
import Derived.Test.YtamofanfgdjmnaaWrmR
import Derived.Deep.RegionHeld3
import Derived.BigQuiet
import Derived.Deep.Cut
namespace Go.Proofs.Ytamofanfgdjmnaa.WrmS
set_option linter.unusedVariables false
open Go.ChangeShapes Go.WideShapes Go.ChangeAt Go.RowKit Go.Deep Base WrmP NumM NumC NumE NumA WrmA WrmB WrmC WrmD WrmE WrmF WrmG WrmH WrmI WrmJ WrmK Wri Rows2 WrmR

set_option maxRecDepth 20000 in
set_option maxHeartbeats 4000000 in
theorem rates_core (c s : Int) (a : Option Addr) (n cap : Nat) (F : Nat → Nat → Int) (w : World) (hn : n ≤ 9223372036854775807) (HR : Hid (RowsI w a n 5 F)) :
    Calls Try.prog 5 #[.int .i64 c, .int .i64 s, .slice a n cap] w fun e w' => e = .returned (.bool true) ∧ Below w.heap.size w w' := by
  obtain ⟨i0, hi, hz0, hz1, hz2⟩ := info_parts infoI
  go_enter Try.func5, Try.ntmps5
  go_wp2_with fail
  refine (live_any w).mono ?_
  rintro e w1 ⟨rfl, hb1⟩
  have HB1 := hid hb1
  clear hb1
  go_wp2_with fail
  refine (New_any c s w1).mono ?_
  rintro e w2 (⟨cn, sn, hc, hs, ho, rfl, ha, hb⟩ | ⟨h, rfl, rfl⟩)
  rotate_left
  · clear h
    go_wp2_with fail
    go_ret
    exact ⟨rfl, HB1.out⟩
  have HC := hid hc
  have HC1 := hid ho.c1
  have HC2 := hid ho.c2
  have HO := hid ho
  have HM0 := Marks_any w1.heap.size (fresh cn sn) ho w2 ha
  obtain ⟨G, hG⟩ : ∃ G, (fresh cn sn).G = G := ⟨_, rfl⟩
  rw [hG] at HM0
  have HM := hid HM0
  have HGp := hid (ho.g (fresh cn sn))
  rw [hG] at HGp
  have HG := hid hG
  have HA := hid ha
  have HB2 := hid (bl HB1.out hb)
  have HP := hid (show w.heap.size ≤ w1.heap.size from HB1.out.size)
  clear hc hs ho ha hb HM0 hG
  obtain ⟨p, hp⟩ : ∃ p, w1.heap.size = p := ⟨_, rfl⟩
  rw [hp] at HM HA HP ⊢
  clear hp HB1
  go_wp2_with fail
  refine HM.out.mono ?_
  rintro e w3 ⟨rfl, hb3⟩
  have HRt : Hid (Rt w p (fresh cn sn) [] [] (.slice none 0 0) (.slice none 0 0) w3) := hid
    { wm := HA.out.below hb3 HA.out.lt, up := HP.out, own1 := ⟨rfl, .inl ⟨rfl, rfl⟩⟩, own2 := ⟨rfl, .inl ⟨rfl, rfl⟩⟩, far1 := by simp [Value.ownBlock], far2 := by simp [Value.ownBlock], two := by simp [Value.ownBlock], bel := HB2.out.trans (hb3.mono HB2.out.size) }
  clear hb3 HA HB2 HP HM
  generalize wn G = wng at *
  go_wp2_with fail
  go_loopw [11, 12, 13] (fun tv rv i wr => ∃ (k : Nat) (m : Wm) (E : List Nat) (vx vy : Value), vx = tv ∧ vy = rv ∧ i = .int .i64 k ∧ k ≤ n ∧ E.length ≤ k ∧ E.length ≤ 300 ∧ m.Ok ∧ m.c = cn ∧ m.G = G ∧ Rt w p m E (E.map (rateN cn G)) vx vy wr) (fun _ _ i _ => n - (intOf i).toNat)
  case atStart => exact ⟨0, _, [], _, _, rfl, rfl, rfl, Nat.zero_le _, Nat.zero_le _, Nat.zero_le _, HO.out, rfl, HG.out, HRt.out⟩
  case round =>
    obtain ⟨k, m, E, vx, vy, rfl, rfl, rfl, hk, hEk, hE3, ho, hmc, hmG, hrt⟩ := hrel
    have HOk := hid ho
    have HMc := hid (And.intro hmc hmG)
    have HRk := hid hrt
    clear ho hmc hmG hrt
    by_cases hend : k < n ∧ k < 300
    · obtain ⟨hlt, hl3⟩ := hend
      have hd1 : decide ((k : Int) < n) = true := by simpa using hlt
      have hd2 : decide ((k : Int) < 300) = true := by simp; omega
      have hki : (k : Int) < n := by omega
      have hki0 : (0 : Int) ≤ k := by omega
      obtain ⟨g, o, rfl, hg, hcell⟩ := HR.out.1 (by omega)
      have x1 : wr.cell? ⟨g, o + k * 5 + 1, none⟩ = some (.int .i64 (F k 1)) := (HRk.out.bel.cell (p := ⟨g, o + k * 5 + 1, none⟩) hg).trans (hcell k hlt 1 (by omega))
      have x2 : wr.cell? ⟨g, o + k * 5 + 2, none⟩ = some (.int .i64 (F k 2)) := (HRk.out.bel.cell (p := ⟨g, o + k * 5 + 2, none⟩) hg).trans (hcell k hlt 2 (by omega))
      have hpg : p ≠ g := by have := HRk.out.up; omega
      clear hcell
      generalize F k 1 = t at *
      generalize F k 2 = past at *
      have HF := hid (Fill_any p m HOk.out t past wr.drew HRk.out.wm)
      obtain ⟨r, hr⟩ : ∃ r, rateA m t past = r := ⟨_, rfl⟩
      obtain ⟨er, her⟩ : ∃ er, ref2 m.last t past = er := ⟨_, rfl⟩
      rw [hr, her] at HF
      have HE := hid (And.intro hr her)
      clear hr her
      have hgr : g < wr.drew.heap.size := Nat.lt_of_lt_of_le hg HRk.out.bel.size
      go_wp2_with fail
      go_region_held3 (fun w' => w'.cell? ⟨g, o + k * 5 + 1, none⟩ = some (.int .i64 t) ∧ w'.cell? ⟨g, o + k * 5 + 2, none⟩ = some (.int .i64 past)) (first | assumption | go_keep)
        (first | (go_at_call 22; refine HF.out.mono ?_; rintro e w4 ⟨rfl, ha4, hw4⟩
                  have y1 : w4.cell? ⟨g, o + k * 5 + 1, none⟩ = some (.int .i64 t) := (hw4.cell _ hgr (fun e => hpg e.symm)).trans x1
                  have y2 : w4.cell? ⟨g, o + k * 5 + 2, none⟩ = some (.int .i64 past) := (hw4.cell _ hgr (fun e => hpg e.symm)).trans x2
                  have HR4 := hid (Rt.filled (HRk.out.below ((Below.refl _ wr).drew)) ha4 hw4)
                  clear ha4 hw4))
      clear HF x1 x2
      by_cases he : er = 0
      · subst he
        obtain ⟨ht1, ht2, ht3⟩ := told m HOk.out t past HE.out.2
        have hok' := fillA_ok m HOk.out t past
        rw [HMc.out.1, HMc.out.2] at ht3
        have hrR := HE.out.1.symm.trans ht3
        have HO5 := hid hok'
        have HC5 := hid (And.intro (ht1.trans HMc.out.1) (ht2.trans HMc.out.2))
        have htok : (fillA m t past).tok ≤ G := by have := hok'.tok; rw [ht2, HMc.out.2] at this; exact this
        clear ht1 ht2 ht3 hok' HE
        generalize fillA m t past = m5 at *
        subst hrR
        obtain ⟨tok, htk⟩ : ∃ tok, m5.tok = tok := ⟨_, rfl⟩
        have HTk := hid htk
        have HTok : Hid (∀ w : World, At w p m5 → Calls Try.prog 23 #[ptr p] w fun e w' => e = .returned (.int .i64 (tok : Nat)) ∧ w = w') := hid (fun w h => by rw [← htk]; exact Tokens_any p m5 w h)
        rw [htk] at htok ⊢
        have hR1 := rate_le cn G tok HC1.out
        have hR2 := rate_pos cn G tok HC1.out
        have hR3 := rate_third cn G tok (by have := HGp.out.1; have := HC1.out; omega) htok
        have HAnti : Hid (∀ x, (x < tok → rateN cn G tok ≤ rateN cn G x) ∧ (tok < x → rateN cn G x ≤ rateN cn G tok)) := hid (fun x => ⟨fun h => rate_anti cn G x tok HC1.out (by have := HGp.out.1; have := HC1.out; omega) (by omega), fun h => rate_anti cn G tok x HC1.out (by have := HGp.out.1; have := HC1.out; omega) (by omega)⟩)
        have HRate := hid (show rateN cn G tok = rateN cn G tok from rfl)
        obtain ⟨R, hRR⟩ : ∃ R, rateN cn G tok = R := ⟨_, rfl⟩
        rw [hRR] at hR1 hR2 hR3 HAnti ⊢
        have HRR := hid hRR
        have hcc := HC.out
        have hd3 : decide (c < (R : Int)) = false := by simp; omega
        have hd4 : decide ((R : Int) < 1) = false := by simp; omega
        have hc0 : 0 ≤ c := by omega
        obtain ⟨q, hq⟩ : ∃ q, c / 3 = q := ⟨_, rfl⟩
        have hq2 : Int.tdiv c 3 = q := by rw [← hq]; exact Int.tdiv_eq_ediv_of_nonneg hc0
        have hq3 : wrap64 q = q := by have : cn ≤ 1099511627776 := HC2.out; unfold wrap64; omega
        have hd5 : decide ((R : Int) < q) = false := by simp; omega
        have hd6 : decide ((tok : Int) < 0) = false := by simp
        have hd7 : ¬ G < tok := by omega
        have hd8 : decide ((G : Int) < (tok : Int)) = false := by simp; omega
        clear hR1 hR2 hR3 hcc hRR htk
        go_wp2_with fail
        refine (HTok.out _ HR4.out.wm).mono ?_
        rintro e w5 ⟨rfl, rfl⟩
        go_wp2_with fail
        refine (HTok.out _ HR4.out.wm).mono ?_
        rintro e w5 ⟨rfl, rfl⟩
        go_wp2_with fail
        clear y1 y2 hd1 hd2 hd3 hd4 hd5 hd6 hd7 hd8 hq hq2 hq3 hc0
        obtain ⟨va, vc, hvx⟩ := owns_shape HR4.out.own1
        obtain ⟨ya, yc, hvy⟩ := owns_shape HR4.out.own2
        have hly : (E.map (rateN cn G)).length = E.length := by simp
        rw [hly] at hvy
        subst hvx
        subst hvy
        have HLen := hid hly
        clear hly
        obtain ⟨len, hlen⟩ : ∃ len, E.length = len := ⟨_, rfl⟩
        rw [hlen] at hEk hE3 ⊢
        have HLn := hid hlen
        clear hlen
        go_loopw [16] (fun j wx => ∃ j' : Nat, j = .int .i64 j' ∧ j' ≤ len ∧ Below w4.heap.size w4 wx) (fun j _ => len - (intOf j).toNat)
        case atStart => exact ⟨0, rfl, Nat.zero_le _, Below.refl _ _⟩
        case round =>
          obtain ⟨j, rfl, hj, hbj⟩ := hrel
          have HBj := hid hbj
          have HRj := hid (HR4.out.below hbj)
          clear hbj
          by_cases hjl : j < len
          · obtain ⟨gx, cx, ex, hgx, hcx⟩ := HRj.out.own1.at_ (by have := HLn.out; omega)
            obtain ⟨gy, cy, ey, hgy, hcy⟩ := HRj.out.own2.at_ (by have := HLn.out; have := HLen.out; omega)
            rw [HLn.out] at ex hcx
            cases ex
            rw [HLen.out, HLn.out] at ey
            cases ey
            have z1 := hcx j hjl
            have z2 := hcy j (by have := HLn.out; have := HLen.out; omega)
            have ez : (E.map (rateN cn G)).getD j 0 = rateN cn G (E.getD j 0) := by simp [List.getD, show j < E.length by rw [HLn.out]; exact hjl]
            rw [ez] at z2
            have HAx := HAnti.out (E.getD j 0)
            clear hcx hcy ez
            generalize E.getD j 0 = x at *
            obtain ⟨y, hy⟩ : ∃ y, rateN cn G x = y := ⟨_, rfl⟩
            rw [hy] at z2 HAx
            clear hy
            have hji : (j : Int) < len := by omega
            have hji0 : (0 : Int) ≤ (j : Int) := by omega
            have hji2 : decide ((j : Int) < len) = true := by simp; omega
            have HTq := hid (fun nq => HTok.out (wr.drewN nq) HRj.out.wm)
            rcases Nat.lt_trichotomy x tok with h | h | h
            · have d1 : decide ((x : Int) < (tok : Int)) = true := by simp; omega
              have d1n : decide (x < tok) = true := by simp; omega
              have d2 : decide ((y : Int) < (R : Int)) = false := by have := HAx.1 h; simp; omega
              have d2n : decide (y < R) = false := by have := HAx.1 h; simp; omega
              have d3 : decide ((tok : Int) < (x : Int)) = false := by simp; omega
              have d3n : decide (tok < x) = false := by simp; omega
              clear h HAx
              go_wp2_with fail
              go_quiet ((go_at_call 23; exact Calls.quiet_of_same ((HTq.out _).mono fun _ _ h => ⟨h.1, h.2.symm⟩)))
              have HBq := hid (HBj.out.trans (show Below w4.heap.size wr (wr.drewN nq) from ⟨rfl, rfl, rfl, Nat.le_refl _, fun _ _ => rfl⟩))
              clear z1 z2 HBj HRj HTq hgx hgy
              generalize wr.drewN nq = wd at *
              go_wp2_with fail
              go_roundw
              case rel => exact ⟨j + 1, by go_num, by omega, HBq.out⟩
              case measure => simp [intOf]; omega
            · have d1 : decide ((x : Int) < (tok : Int)) = false := by simp; omega
              have d1n : decide (x < tok) = false := by simp; omega
              have d3 : decide ((tok : Int) < (x : Int)) = false := by simp; omega
              have d3n : decide (tok < x) = false := by simp; omega
              clear h HAx
              go_wp2_with fail
              go_quiet ((go_at_call 23; exact Calls.quiet_of_same ((HTq.out _).mono fun _ _ h => ⟨h.1, h.2.symm⟩)))
              have HBq := hid (HBj.out.trans (show Below w4.heap.size wr (wr.drewN nq) from ⟨rfl, rfl, rfl, Nat.le_refl _, fun _ _ => rfl⟩))
              clear z1 z2 HBj HRj HTq hgx hgy
              generalize wr.drewN nq = wd at *
              go_wp2_with fail
              go_roundw
              case rel => exact ⟨j + 1, by go_num, by omega, HBq.out⟩
              case measure => simp [intOf]; omega
            · have d1 : decide ((x : Int) < (tok : Int)) = false := by simp; omega
              have d1n : decide (x < tok) = false := by simp; omega
              have d2 : decide ((R : Int) < (y : Int)) = false := by have := HAx.2 h; simp; omega
              have d2n : decide (R < y) = false := by have := HAx.2 h; simp; omega
              have d3 : decide ((tok : Int) < (x : Int)) = true := by simp; omega
              have d3n : decide (tok < x) = true := by simp; omega
              clear h HAx
              go_wp2_with fail
              go_quiet ((go_at_call 23; exact Calls.quiet_of_same ((HTq.out _).mono fun _ _ h => ⟨h.1, h.2.symm⟩)))
              have HBq := hid (HBj.out.trans (show Below w4.heap.size wr (wr.drewN nq) from ⟨rfl, rfl, rfl, Nat.le_refl _, fun _ _ => rfl⟩))
              clear z1 z2 HBj HRj HTq hgx hgy
              generalize wr.drewN nq = wd at *
              go_wp2_with fail
              go_roundw
              case rel => exact ⟨j + 1, by go_num, by omega, HBq.out⟩
              case measure => simp [intOf]; omega
          · have hji2 : decide ((j : Int) < len) = false := by simp; omega
            have hjin : decide (j < len) = false := by simp; omega
            rw [HLn.out] at HRj
            have hown1 : (wr.alloc (.cells #[.int .i64 (tok : Nat)] 3)).ownsRow w.heap.size 3 1 (.slice va len vc) E.length (E.map fun x => Value.int .i64 (x : Nat)) := World.ownsRow.alloc HRj.out.own1 _
            have hll := HLn.out
            have hll2 := HLen.out
            go_wp2_with fail
            refine (HTok.out _ HRj.out.wm).mono ?_
            rintro e w5 ⟨rfl, rfl⟩
            go_wp2_with (at_builtin; (first
                | (refine wpList_append_own_at _ rfl _ _ 40 rfl w.heap.size 3 i0 (.int .i64 0) 1 8 Try.underlying40 hi hz0 hz1 hz2 rfl (by decide) _ _ _ rfl hown1 ⟨wr.heap.size, 0, none⟩ 1 1 [.int .i64 (tok : Nat)] rfl (by rfl) (cell_one_new _ _ _) (by intro u hu; obtain rfl := List.mem_singleton.1 hu; rfl) (by unfold maxLen; omega) (by omega) (by simp; have := HRj.out.bel.size; omega) ?_; intro v5 w5 hown5 hgr5 hnil5 hat5
                   have HR5 := hid ((HRj.out.alloc (.cells #[.int .i64 (tok : Nat)] 3)).pushed1 (zs := E ++ [tok]) (by unfold OI; rw [List.length_append, List.map_append]; exact hown5) hgr5 hat5)
                   have hown2 : (w5.alloc (.cells #[.int .i64 (R : Nat)] 3)).ownsRow w.heap.size 3 1 (.slice ya len yc) (E.map (rateN cn G)).length ((E.map (rateN cn G)).map fun x => Value.int .i64 (x : Nat)) := World.ownsRow.alloc HR5.out.own2 _
                   clear hown5 hgr5 hnil5 hat5 hown1)
                | (refine wpList_append_own_at _ rfl _ _ 40 rfl w.heap.size 3 i0 (.int .i64 0) 1 8 Try.underlying40 hi hz0 hz1 hz2 rfl (by decide) _ _ _ rfl hown2 ⟨w5.heap.size, 0, none⟩ 1 1 [.int .i64 (R : Nat)] rfl (by rfl) (cell_one_new _ _ _) (by intro u hu; obtain rfl := List.mem_singleton.1 hu; rfl) (by unfold maxLen; omega) (by omega) (by simp; have := HR5.out.bel.size; omega) ?_; intro v6 w6 hown6 hgr6 hnil6 hat6
                   have HR6 := hid ((HR5.out.alloc (.cells #[.int .i64 (R : Nat)] 3)).pushed2 (zs := E.map (rateN cn G) ++ [R]) (by unfold OI; rw [List.length_append, List.map_append]; exact hown6) hgr6 hat6)
                   clear hown6 hgr6 hnil6 hat6 hown2)))
            go_roundw
            case rel => exact ⟨k + 1, m5, E ++ [tok], _, _, rfl, rfl, by go_num, by omega, by rw [List.length_append]; simp; omega, by rw [List.length_append]; simp; omega, HO5.out, HC5.out.1, HC5.out.2, by rw [List.map_append, List.map_cons, List.map_nil, HRR.out]; exact HR6.out⟩
            case measure => simp [intOf]; omega
      · have hne : (er != 0) = true := by simpa using he
        have hsame := told_no m t past (by rw [HE.out.2]; exact he)
        rw [hsame] at HR4
        clear he
        go_wp2_with fail
        go_roundw
        case rel => exact ⟨k + 1, m, E, _, _, rfl, rfl, by go_num, by omega, by omega, by omega, HOk.out, HMc.out.1, HMc.out.2, HR4.out⟩
        case measure => simp [intOf]; omega
    · by_cases hlt : k < n
      · have hd1 : decide ((k : Int) < n) = true := by simpa using hlt
        have hd2 : decide ((k : Int) < 300) = false := by simp; omega
        clear hend
        go_wp2_with fail
        go_ret
        exact ⟨rfl, HRk.out.bel⟩
      · have hd1 : decide ((k : Int) < n) = false := by simpa using hlt
        clear hend
        go_wp2_with fail
        go_ret
        exact ⟨rfl, HRk.out.bel⟩

theorem underDeed : ∃ fs, Try.prog.underlying 35 = some (.struct fs) ∧ oneCellFields Try.prog fs = true ∧ Try.prog.cellsOf 35 = fs.size ∧ fs.size = 5 ∧ fs[0]?.map (·.type) = some 3 ∧ fs[1]?.map (·.type) = some 3 ∧ fs[2]?.map (·.type) = some 3 ∧ fs[3]?.map (·.type) = some 3 ∧ fs[4]?.map (·.type) = some 3 := ⟨_, Try.underlying35, by kernel_rfl, by kernel_rfl, by kernel_rfl, by kernel_rfl, by kernel_rfl, by kernel_rfl, by kernel_rfl, by kernel_rfl⟩

theorem main {H : Type} {enc : TypeId × Value → H} {W : World} {base : Nat} {spare : Nat → Bool} {held : Bool} {d2 : DataW H} {p2 : List MemPlace} (a0 : Int) (w0 : (Lit.int .i64 a0).wf = true) (a1 : Int) (w1 : (Lit.int .i64 a1).wf = true) (a2 : Option Addr) (len2 cap2 : Nat)
    (h2 : ∃ fuel, DataW.trod enc Try.prog W base spare held fuel 22 [.slice a2 len2 cap2] = some (d2, p2)) :
    Calls Try.prog 5 #[.int .i64 a0, .int .i64 a1, .slice a2 len2 cap2] W fun e w' => e = .returned (.bool true) ∧ Below W.heap.size W w' := by
  obtain ⟨k2, h2⟩ := h2
  obtain ⟨fs, hu, q1, q2, q3, f0, f1, f2, f3, f4⟩ := underDeed
  obtain ⟨hn, F, hF⟩ := rows_arg Try.underlying22 hu q1 q2 q3 (by omega) (fun j hj => by rcases (by omega : j = 0 ∨ j = 1 ∨ j = 2 ∨ j = 3 ∨ j = 4) with rfl | rfl | rfl | rfl | rfl <;> assumption) h2
  exact rates_core a0 a1 a2 len2 cap2 F W hn (hid hF)

end Go.Proofs.Ytamofanfgdjmnaa.WrmS
