/- PacingPlays: the walk. -/
import Derived.Test.YtcnfgngkejjecaaPacB
import Derived.Test.YtcnfgngkejjecaaPacE
import Derived.Test.YtcnfgngkejjecaaRows2
import Derived.Deep.RegionHeld3
import Derived.BigQuiet
namespace Go.Proofs.Ytcnfgngkejjecaa.PacF
set_option linter.unusedVariables false
open Go.ChangeShapes Go.WideShapes Go.ChangeAt Go.RowKit Go.Deep Base NumM NumA NumE WrmA Wri Rows2 PacP PacM PacB PacE

theorem ok_in {c q : Int} {cn qn : Nat} (hc : c = cn) (hq : q = qn) (ho : (fresh cn qn).Ok) : (tokB c && inW q 0 3600000000) = true := by
  have h1 : 1 ≤ cn := ho.c1
  have h2 : cn ≤ 1099511627776 := ho.c2
  have h3 : qn ≤ 3600000000 := ho.q
  rw [tokB_iff.2 ⟨by omega, by omega⟩, inW_iff.2 ⟨by omega, by omega⟩]
  rfl

set_option maxRecDepth 20000 in
set_option maxHeartbeats 4000000 in
theorem core (c q : Int) (a : Option Addr) (n cap : Nat) (F : Nat → Nat → Int) (w : World) (hn : n ≤ 9223372036854775807) (HR : Hid (RowsI w a n 4 F)) :
    Calls Try.prog 3 #[.int .i64 c, .int .i64 q, .slice a n cap] w fun e w' => e = .returned (.bool true) ∧ Below w.heap.size w w' := by
  go_enter Try.func3, Try.ntmps3
  go_wp2_with fail
  refine (New_any c q w).mono ?_
  rintro e w1 (⟨cn, qn, hc, hq, ho, rfl, ha, hb⟩ | ⟨h, rfl, rfl⟩)
  rotate_left
  · have H := hid h
    clear h
    go_wp2_with fail
    refine (PacA.New_any c q w).mono ?_
    rintro e w2 (⟨cn, qn, hc, hq, ho, -⟩ | ⟨-, rfl, rfl⟩)
    · exact absurd (H.out.symm.trans (ok_in hc hq ho)) (by simp)
    clear H
    go_wp2_with fail
    refine (live_any w).mono ?_
    rintro e w3 ⟨rfl, hb3⟩
    have HB3 := hid hb3
    have HWS := hid hb3.size
    have HP3 : Hid (MIs w3 (.pointer none) none) := hid rfl
    have HQ3 : Hid (RIs w3 (.pointer none) none) := hid rfl
    have HLP : Hid ((∀ k, (Value.pointer none) = ptr k → w.heap.size ≤ k) ∧ (∀ k, (Value.pointer none) = ptr k → w.heap.size ≤ k)) := hid ⟨fun k e => by simp at e, fun k e => by simp at e⟩
    clear hb3
    go_upto_region 5 with fail

    go_wp2_with fail
    refine (fork_o (Value.pointer none) (none : Option Pc) w3 HP3.out).mono ?_
    rintro e w4 ⟨vf, rfl, hf, hb, hlo⟩
    have HF4 := hid hf
    have HLF := hid hlo
    have HP4 := hid (HP3.out.below hb)
    have HQ4 := hid (HQ3.out.below hb)
    have HB4 := hid (bl HB3.out hb)
    clear hf hb hlo HB3
    go_wp2_with fail
    refine (Rfork_o (Value.pointer none) (none : Option Pc) w4 HQ4.out).mono ?_
    rintro e w5 ⟨vs, rfl, hf, hb, hlo⟩
    have HAW : Hid ((∀ k, vf = ptr k → (Value.pointer none) ≠ ptr k) ∧ (∀ k, vs = ptr k → (Value.pointer none) ≠ ptr k) ∧ (∀ k, (Value.pointer none) = ptr k → w.heap.size ≤ k) ∧ (∀ k, (Value.pointer none) = ptr k → w.heap.size ≤ k)) := hid ⟨fun k e e' => by have := HLF.out k e; have := HP3.out.lt k e'; omega, fun k e e' => by have := hlo k e; have := HQ4.out.lt k e'; omega, HLP.out.1, HLP.out.2⟩
    have HLO : Hid (∀ k, both vf vs k → w.heap.size ≤ k) := hid fun k h => h.elim (fun h => Nat.le_trans HWS.out (HLF.out k h)) (fun h => Nat.le_trans HB4.out.size (hlo k h))
    have HS : Hid (MIs w5 (Value.pointer none) (none : Option Pc) ∧ RIs w5 (Value.pointer none) (none : Option Pc) ∧ MIs w5 vf (none : Option Pc) ∧ RIs w5 vs (none : Option Pc) ∧ Below w.heap.size w w5) := hid ⟨HP4.out.below hb, HQ4.out.below hb, HF4.out.below hb, hf, bl HB4.out hb⟩
    clear hf hb hlo HP3 HQ3 HP4 HQ4 HF4 HB4 HLF HWS HLP

    have HLV := hid (rfl : (0 : Int) = 0)
    go_wp2_with fail
    go_loopw [13] (fun i wr => ∃ (k : Nat) (o : Option Pc), i = .int .i64 k ∧ k ≤ n ∧ MIs wr (Value.pointer none) o ∧ RIs wr (Value.pointer none) o ∧ MIs wr vf (none : Option Pc) ∧ RIs wr vs (none : Option Pc) ∧ Below w.heap.size w wr) (fun i _ => n - (intOf i).toNat)
    case atStart => exact ⟨0, (none : Option Pc), rfl, Nat.zero_le _, HS.out⟩
    case round =>
      obtain ⟨k, o, rfl, hk, hst⟩ := hrel
      have HSk := hid hst
      clear hst HS
      by_cases hend : k < n ∧ k < 100
      · obtain ⟨hlt, hl3⟩ := hend
        have hd1 : decide ((k : Int) < n) = true := by simpa using hlt
        have hd2 : decide ((k : Int) < 100) = true := by simp; omega
        have hki : (k : Int) < n := by omega
        have hki0 : (0 : Int) ≤ k := by omega
        obtain ⟨g, of, rfl, hg, hcell⟩ := HR.out.1 (by omega)
        have HX : Hid (∀ wx, Below w.heap.size w wx → g < wx.heap.size ∧ wx.cell? ⟨g, of + k * 4, none⟩ = some (.int .i64 (F k 0)) ∧ wx.cell? ⟨g, of + k * 4 + 1, none⟩ = some (.int .i64 (F k 1)) ∧ wx.cell? ⟨g, of + k * 4 + 2, none⟩ = some (.int .i64 (F k 2)) ∧ wx.cell? ⟨g, of + k * 4 + 3, none⟩ = some (.int .i64 (F k 3))) := hid fun wx hb => ⟨Nat.lt_of_lt_of_le hg hb.size, (hb.cell (p := ⟨g, of + k * 4, none⟩) hg).trans (hcell k hlt 0 (by omega)), (hb.cell (p := ⟨g, of + k * 4 + 1, none⟩) hg).trans (hcell k hlt 1 (by omega)), (hb.cell (p := ⟨g, of + k * 4 + 2, none⟩) hg).trans (hcell k hlt 2 (by omega)), (hb.cell (p := ⟨g, of + k * 4 + 3, none⟩) hg).trans (hcell k hlt 3 (by omega))⟩
        clear hcell hg
        generalize F k 0 = kd at *
        generalize F k 1 = t at *
        generalize F k 2 = cnt at *
        generalize F k 3 = rt at *
        obtain ⟨hgr, x0, x1, x2, x3⟩ := HX.out _ HSk.out.2.2.2.2
        have HC1 := hid (cost_any cnt rt wr.drew)
        go_upto_region 9 with fail
        go_region_held3 (fun w' => w'.cell? ⟨g, of + k * 4 + 2, none⟩ = some (.int .i64 cnt) ∧ w'.cell? ⟨g, of + k * 4 + 3, none⟩ = some (.int .i64 rt)) (first | assumption | go_keep)
          (first | (go_at_call 12; refine HC1.out.mono ?_; rintro e w4 ⟨rfl, hb4⟩
                    have hb' : Below wr.heap.size wr w4 := (Below.drew (Below.refl _ wr)).trans hb4
                    have HS4 : Hid (MIs w4 (Value.pointer none) o ∧ RIs w4 (Value.pointer none) o ∧ MIs w4 vf (none : Option Pc) ∧ RIs w4 vs (none : Option Pc) ∧ Below w.heap.size w w4) := hid ⟨HSk.out.1.below hb', HSk.out.2.1.below hb', HSk.out.2.2.1.below hb', HSk.out.2.2.2.1.below hb', HSk.out.2.2.2.2.trans (hb'.mono HSk.out.2.2.2.2.size)⟩
                    obtain ⟨hg4, y0, y1, y2, y3⟩ := HX.out _ HS4.out.2.2.2.2
                    clear hb4 hb'))
        all_goals
          clear HC1 HSk x0 x1 x2 x3 hgr
          have HC2 := hid (PacA.cost_any cnt rt w4.drew)
          go_upto_region 10 with fail
          go_region_held3 (fun w' => w'.cell? ⟨g, of + k * 4 + 2, none⟩ = some (.int .i64 cnt) ∧ w'.cell? ⟨g, of + k * 4 + 3, none⟩ = some (.int .i64 rt)) (first | assumption | go_keep)
            (first | (go_at_call 13; refine HC2.out.mono ?_; rintro e w5 ⟨rfl, hb5⟩
                      have hb' : Below w4.heap.size w4 w5 := (Below.drew (Below.refl _ w4)).trans hb5
                      have HS5 : Hid (MIs w5 (Value.pointer none) o ∧ RIs w5 (Value.pointer none) o ∧ MIs w5 vf (none : Option Pc) ∧ RIs w5 vs (none : Option Pc) ∧ Below w.heap.size w w5) := hid ⟨HS4.out.1.below hb', HS4.out.2.1.below hb', HS4.out.2.2.1.below hb', HS4.out.2.2.2.1.below hb', HS4.out.2.2.2.2.trans (hb'.mono HS4.out.2.2.2.2.size)⟩
                      obtain ⟨hg5, z0, z1, z2, z3⟩ := HX.out _ HS5.out.2.2.2.2
                      clear hb5 hb'))
          all_goals
            clear HC2 HS4 y0 y1 y2 y3 hg4
            generalize costA cnt rt = ca at *
            generalize refC cnt rt = ce at *
            have q1 : (ca == ca) = true := by simp
            have q2 : (ce == ce) = true := by simp
            go_wp2_with fail
            refine (do_any (Value.pointer none) (Value.pointer none) o kd t cnt rt w5 HS5.out.1 HS5.out.2.1).mono ?_
            rintro e w6 ⟨rfl, hp6, hq6, hw6⟩
            have HS6 : Hid (MIs w6 (Value.pointer none) (stepD o kd t cnt rt) ∧ RIs w6 (Value.pointer none) (stepD o kd t cnt rt) ∧ MIs w6 vf (none : Option Pc) ∧ RIs w6 vs (none : Option Pc) ∧ Below w.heap.size w w6) := hid ⟨hp6, hq6, HS5.out.2.2.1.wr hw6 (fun k e h => h.elim (fun h => HAW.out.1 k e h) (fun h => (apart HS5.out.2.2.1 HS5.out.2.1) k e h)), HS5.out.2.2.2.1.wr hw6 (fun k e h => h.elim (fun h => (apart HS5.out.1 HS5.out.2.2.2.1) k h e) (fun h => HAW.out.2.1 k e h)), HS5.out.2.2.2.2.trans (hw6.below _ HS5.out.2.2.2.2.size (fun k h => h.elim (fun h => HAW.out.2.2.1 k h) (fun h => HAW.out.2.2.2 k h)))⟩
            clear hp6 hq6 hw6 HS5 HX z0 z1 z2 z3 hg5 q1 q2
            go_wp2_with fail
            go_roundw
            case rel => exact ⟨k + 1, _, by go_num, by omega, HS6.out⟩
            case measure => simp [intOf]; omega
      · by_cases hlt : k < n
        · have hd1 : decide ((k : Int) < n) = true := by simpa using hlt
          have hd2 : decide ((k : Int) < 100) = false := by simp; omega
          clear hend
          go_wp2_with fail
          refine (do_any vf vs (none : Option Pc) 0 0 1 0 wr HSk.out.2.2.1 HSk.out.2.2.2.1).mono ?_
          rintro e w9 ⟨rfl, -, -, hw9⟩
          have HB9 : Hid (Below w.heap.size w w9) := hid (HSk.out.2.2.2.2.trans (hw9.below _ HSk.out.2.2.2.2.size (fun k h => HLO.out k h)))
          clear hw9
          go_wp2_with fail
          go_ret
          exact ⟨rfl, HB9.out⟩
        · have hd1 : decide ((k : Int) < n) = false := by simpa using hlt
          clear hend
          go_wp2_with fail
          refine (do_any vf vs (none : Option Pc) 0 0 1 0 wr HSk.out.2.2.1 HSk.out.2.2.2.1).mono ?_
          rintro e w9 ⟨rfl, -, -, hw9⟩
          have HB9 : Hid (Below w.heap.size w w9) := hid (HSk.out.2.2.2.2.trans (hw9.below _ HSk.out.2.2.2.2.size (fun k h => HLO.out k h)))
          clear hw9
          go_wp2_with fail
          go_ret
          exact ⟨rfl, HB9.out⟩
  have HC := hid (And.intro hc (And.intro hq ho))
  have HP1 := hid ha
  have HB1 := hid hb
  clear hc hq ho ha hb
  go_wp2_with fail
  refine (PacA.New_any c q w1).mono ?_
  rintro e w2 (⟨cn2, qn2, hc2, hq2, ho2, rfl, ha2, hb2⟩ | ⟨h, -⟩)
  rotate_left
  · exact absurd (h.symm.trans (ok_in HC.out.1 HC.out.2.1 HC.out.2.2)) (by simp)
  obtain rfl : cn2 = cn := by have := HC.out.1; omega
  obtain rfl : qn2 = qn := by have := HC.out.2.1; omega
  have HQ2 := hid ha2
  have HB2 := hid hb2
  clear hc2 hq2 ho2 ha2 hb2
  go_wp2_with fail
  refine (live_any w2).mono ?_
  rintro e w3 ⟨rfl, hb3⟩
  have HB3 : Hid (Below w.heap.size w w3) := hid (bl (bl HB1.out HB2.out) hb3)
  have HWS := hid HB3.out.size
  have HP3 : Hid (MIs w3 (ptr w.heap.size) (some (fresh cn2 qn2))) := hid ⟨HC.out.2.2, _, rfl, (HP1.out.below HB2.out HP1.out.lt).below hb3 (Nat.lt_of_lt_of_le HP1.out.lt HB2.out.size)⟩
  have HQ3 : Hid (RIs w3 (ptr w1.heap.size) (some (fresh cn2 qn2))) := hid ⟨HC.out.2.2, _, rfl, HQ2.out.below hb3 HQ2.out.lt⟩
  have HLP : Hid ((∀ k, ptr w.heap.size = ptr k → w.heap.size ≤ k) ∧ (∀ k, ptr w1.heap.size = ptr k → w.heap.size ≤ k)) := hid ⟨fun k e => by have := ptr_inj e; omega, fun k e => by have := ptr_inj e; have := HB1.out.size; omega⟩
  clear hb3 HP1 HB1 HQ2 HB2 HC
  generalize some (fresh cn2 qn2) = o0 at *
  go_upto_region 5 with fail
  obtain ⟨vp, hvp⟩ : ∃ vp, ptr w.heap.size = vp := ⟨_, rfl⟩
  obtain ⟨vq, hvq⟩ : ∃ vq, ptr w1.heap.size = vq := ⟨_, rfl⟩
  rw [hvp] at HP3 HLP ⊢
  rw [hvq] at HQ3 HLP ⊢
  clear hvp hvq

  go_wp2_with fail
  refine (fork_o vp o0 w3 HP3.out).mono ?_
  rintro e w4 ⟨vf, rfl, hf, hb, hlo⟩
  have HF4 := hid hf
  have HLF := hid hlo
  have HP4 := hid (HP3.out.below hb)
  have HQ4 := hid (HQ3.out.below hb)
  have HB4 := hid (bl HB3.out hb)
  clear hf hb hlo HB3
  go_wp2_with fail
  refine (Rfork_o vq o0 w4 HQ4.out).mono ?_
  rintro e w5 ⟨vs, rfl, hf, hb, hlo⟩
  have HAW : Hid ((∀ k, vf = ptr k → vp ≠ ptr k) ∧ (∀ k, vs = ptr k → vq ≠ ptr k) ∧ (∀ k, vp = ptr k → w.heap.size ≤ k) ∧ (∀ k, vq = ptr k → w.heap.size ≤ k)) := hid ⟨fun k e e' => by have := HLF.out k e; have := HP3.out.lt k e'; omega, fun k e e' => by have := hlo k e; have := HQ4.out.lt k e'; omega, HLP.out.1, HLP.out.2⟩
  have HLO : Hid (∀ k, both vf vs k → w.heap.size ≤ k) := hid fun k h => h.elim (fun h => Nat.le_trans HWS.out (HLF.out k h)) (fun h => Nat.le_trans HB4.out.size (hlo k h))
  have HS : Hid (MIs w5 vp o0 ∧ RIs w5 vq o0 ∧ MIs w5 vf o0 ∧ RIs w5 vs o0 ∧ Below w.heap.size w w5) := hid ⟨HP4.out.below hb, HQ4.out.below hb, HF4.out.below hb, hf, bl HB4.out hb⟩
  clear hf hb hlo HP3 HQ3 HP4 HQ4 HF4 HB4 HLF HWS HLP

  have HLV := hid (rfl : (0 : Int) = 0)
  go_wp2_with fail
  go_loopw [13] (fun i wr => ∃ (k : Nat) (o : Option Pc), i = .int .i64 k ∧ k ≤ n ∧ MIs wr vp o ∧ RIs wr vq o ∧ MIs wr vf o0 ∧ RIs wr vs o0 ∧ Below w.heap.size w wr) (fun i _ => n - (intOf i).toNat)
  case atStart => exact ⟨0, o0, rfl, Nat.zero_le _, HS.out⟩
  case round =>
    obtain ⟨k, o, rfl, hk, hst⟩ := hrel
    have HSk := hid hst
    clear hst HS
    by_cases hend : k < n ∧ k < 100
    · obtain ⟨hlt, hl3⟩ := hend
      have hd1 : decide ((k : Int) < n) = true := by simpa using hlt
      have hd2 : decide ((k : Int) < 100) = true := by simp; omega
      have hki : (k : Int) < n := by omega
      have hki0 : (0 : Int) ≤ k := by omega
      obtain ⟨g, of, rfl, hg, hcell⟩ := HR.out.1 (by omega)
      have HX : Hid (∀ wx, Below w.heap.size w wx → g < wx.heap.size ∧ wx.cell? ⟨g, of + k * 4, none⟩ = some (.int .i64 (F k 0)) ∧ wx.cell? ⟨g, of + k * 4 + 1, none⟩ = some (.int .i64 (F k 1)) ∧ wx.cell? ⟨g, of + k * 4 + 2, none⟩ = some (.int .i64 (F k 2)) ∧ wx.cell? ⟨g, of + k * 4 + 3, none⟩ = some (.int .i64 (F k 3))) := hid fun wx hb => ⟨Nat.lt_of_lt_of_le hg hb.size, (hb.cell (p := ⟨g, of + k * 4, none⟩) hg).trans (hcell k hlt 0 (by omega)), (hb.cell (p := ⟨g, of + k * 4 + 1, none⟩) hg).trans (hcell k hlt 1 (by omega)), (hb.cell (p := ⟨g, of + k * 4 + 2, none⟩) hg).trans (hcell k hlt 2 (by omega)), (hb.cell (p := ⟨g, of + k * 4 + 3, none⟩) hg).trans (hcell k hlt 3 (by omega))⟩
      clear hcell hg
      generalize F k 0 = kd at *
      generalize F k 1 = t at *
      generalize F k 2 = cnt at *
      generalize F k 3 = rt at *
      obtain ⟨hgr, x0, x1, x2, x3⟩ := HX.out _ HSk.out.2.2.2.2
      have HC1 := hid (cost_any cnt rt wr.drew)
      go_upto_region 9 with fail
      go_region_held3 (fun w' => w'.cell? ⟨g, of + k * 4 + 2, none⟩ = some (.int .i64 cnt) ∧ w'.cell? ⟨g, of + k * 4 + 3, none⟩ = some (.int .i64 rt)) (first | assumption | go_keep)
        (first | (go_at_call 12; refine HC1.out.mono ?_; rintro e w4 ⟨rfl, hb4⟩
                  have hb' : Below wr.heap.size wr w4 := (Below.drew (Below.refl _ wr)).trans hb4
                  have HS4 : Hid (MIs w4 vp o ∧ RIs w4 vq o ∧ MIs w4 vf o0 ∧ RIs w4 vs o0 ∧ Below w.heap.size w w4) := hid ⟨HSk.out.1.below hb', HSk.out.2.1.below hb', HSk.out.2.2.1.below hb', HSk.out.2.2.2.1.below hb', HSk.out.2.2.2.2.trans (hb'.mono HSk.out.2.2.2.2.size)⟩
                  obtain ⟨hg4, y0, y1, y2, y3⟩ := HX.out _ HS4.out.2.2.2.2
                  clear hb4 hb'))
      all_goals
        clear HC1 HSk x0 x1 x2 x3 hgr
        have HC2 := hid (PacA.cost_any cnt rt w4.drew)
        go_upto_region 10 with fail
        go_region_held3 (fun w' => w'.cell? ⟨g, of + k * 4 + 2, none⟩ = some (.int .i64 cnt) ∧ w'.cell? ⟨g, of + k * 4 + 3, none⟩ = some (.int .i64 rt)) (first | assumption | go_keep)
          (first | (go_at_call 13; refine HC2.out.mono ?_; rintro e w5 ⟨rfl, hb5⟩
                    have hb' : Below w4.heap.size w4 w5 := (Below.drew (Below.refl _ w4)).trans hb5
                    have HS5 : Hid (MIs w5 vp o ∧ RIs w5 vq o ∧ MIs w5 vf o0 ∧ RIs w5 vs o0 ∧ Below w.heap.size w w5) := hid ⟨HS4.out.1.below hb', HS4.out.2.1.below hb', HS4.out.2.2.1.below hb', HS4.out.2.2.2.1.below hb', HS4.out.2.2.2.2.trans (hb'.mono HS4.out.2.2.2.2.size)⟩
                    obtain ⟨hg5, z0, z1, z2, z3⟩ := HX.out _ HS5.out.2.2.2.2
                    clear hb5 hb'))
        all_goals
          clear HC2 HS4 y0 y1 y2 y3 hg4
          generalize costA cnt rt = ca at *
          generalize refC cnt rt = ce at *
          have q1 : (ca == ca) = true := by simp
          have q2 : (ce == ce) = true := by simp
          go_wp2_with fail
          refine (do_any vp vq o kd t cnt rt w5 HS5.out.1 HS5.out.2.1).mono ?_
          rintro e w6 ⟨rfl, hp6, hq6, hw6⟩
          have HS6 : Hid (MIs w6 vp (stepD o kd t cnt rt) ∧ RIs w6 vq (stepD o kd t cnt rt) ∧ MIs w6 vf o0 ∧ RIs w6 vs o0 ∧ Below w.heap.size w w6) := hid ⟨hp6, hq6, HS5.out.2.2.1.wr hw6 (fun k e h => h.elim (fun h => HAW.out.1 k e h) (fun h => (apart HS5.out.2.2.1 HS5.out.2.1) k e h)), HS5.out.2.2.2.1.wr hw6 (fun k e h => h.elim (fun h => (apart HS5.out.1 HS5.out.2.2.2.1) k h e) (fun h => HAW.out.2.1 k e h)), HS5.out.2.2.2.2.trans (hw6.below _ HS5.out.2.2.2.2.size (fun k h => h.elim (fun h => HAW.out.2.2.1 k h) (fun h => HAW.out.2.2.2 k h)))⟩
          clear hp6 hq6 hw6 HS5 HX z0 z1 z2 z3 hg5 q1 q2
          go_wp2_with fail
          go_roundw
          case rel => exact ⟨k + 1, _, by go_num, by omega, HS6.out⟩
          case measure => simp [intOf]; omega
    · by_cases hlt : k < n
      · have hd1 : decide ((k : Int) < n) = true := by simpa using hlt
        have hd2 : decide ((k : Int) < 100) = false := by simp; omega
        clear hend
        go_wp2_with fail
        refine (do_any vf vs o0 0 0 1 0 wr HSk.out.2.2.1 HSk.out.2.2.2.1).mono ?_
        rintro e w9 ⟨rfl, -, -, hw9⟩
        have HB9 : Hid (Below w.heap.size w w9) := hid (HSk.out.2.2.2.2.trans (hw9.below _ HSk.out.2.2.2.2.size (fun k h => HLO.out k h)))
        clear hw9
        go_wp2_with fail
        go_ret
        exact ⟨rfl, HB9.out⟩
      · have hd1 : decide ((k : Int) < n) = false := by simpa using hlt
        clear hend
        go_wp2_with fail
        refine (do_any vf vs o0 0 0 1 0 wr HSk.out.2.2.1 HSk.out.2.2.2.1).mono ?_
        rintro e w9 ⟨rfl, -, -, hw9⟩
        have HB9 : Hid (Below w.heap.size w w9) := hid (HSk.out.2.2.2.2.trans (hw9.below _ HSk.out.2.2.2.2.size (fun k h => HLO.out k h)))
        clear hw9
        go_wp2_with fail
        go_ret
        exact ⟨rfl, HB9.out⟩

theorem underDeed : ∃ fs, Try.prog.underlying 36 = some (.struct fs) ∧ oneCellFields Try.prog fs = true ∧ Try.prog.cellsOf 36 = fs.size ∧ fs.size = 4 ∧ fs[0]?.map (·.type) = some 3 ∧ fs[1]?.map (·.type) = some 3 ∧ fs[2]?.map (·.type) = some 3 ∧ fs[3]?.map (·.type) = some 3 := ⟨_, Try.underlying36, by kernel_rfl, by kernel_rfl, by kernel_rfl, by kernel_rfl, by kernel_rfl, by kernel_rfl, by kernel_rfl⟩

theorem main {H : Type} {enc : TypeId × Value → H} {W : World} {base : Nat} {spare : Nat → Bool} {held : Bool} {d2 : DataW H} {p2 : List MemPlace} (a0 : Int) (w0 : (Lit.int .i64 a0).wf = true) (a1 : Int) (w1 : (Lit.int .i64 a1).wf = true) (a2 : Option Addr) (len2 cap2 : Nat)
    (h2 : ∃ fuel, DataW.trod enc Try.prog W base spare held fuel 22 [.slice a2 len2 cap2] = some (d2, p2)) :
    Calls Try.prog 3 #[.int .i64 a0, .int .i64 a1, .slice a2 len2 cap2] W fun e w' => e = .returned (.bool true) ∧ Below W.heap.size W w' := by
  obtain ⟨k2, h2⟩ := h2
  obtain ⟨fs, hu, q1, q2, q3, f0, f1, f2, f3⟩ := underDeed
  obtain ⟨hn, F, hF⟩ := rows_arg Try.underlying22 hu q1 q2 q3 (by omega) (fun j hj => by rcases (by omega : j = 0 ∨ j = 1 ∨ j = 2 ∨ j = 3) with rfl | rfl | rfl | rfl <;> assumption) h2
  exact core a0 a1 a2 len2 cap2 F W hn (hid hF)

end Go.Proofs.Ytcnfgngkejjecaa.PacF
