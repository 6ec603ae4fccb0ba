/- PacingSpaces: the walk. -/
import Derived.Test.YtcnfgngkejjecaaPacB
import Derived.Test.YtcnfgngkejjecaaRows2
import Derived.Deep.RegionHeld3
import Derived.BigQuiet
namespace Go.Proofs.Ytcnfgngkejjecaa.PacD
set_option linter.unusedVariables false
open Go.ChangeShapes Go.WideShapes Go.ChangeAt Go.RowKit Go.Deep Base NumM NumA NumE WrmA Wri Rows2 PacP PacM PacB

theorem stays {m : Pc} {t n r : Int} (h : gA m t n r = false) : (stepA m t n r).next = m.next ∧ (stepA m t n r).some = m.some := by
  unfold stepA
  split
  · rename_i hz
    unfold gA at h
    rw [hz] at h
    simp only [decide_true, Bool.true_and] at h
    rw [h]
    simp
  · exact ⟨rfl, rfl⟩
theorem step_count (m : Pc) (t n r : Int) : (stepA m t n r).count = m.count ∧ (stepA m t n r).queue = m.queue := by
  unfold stepA
  split <;> exact ⟨rfl, rfl⟩

theorem spaced {m : Pc} (ho : m.Ok) {t n : Int} (h : gA m t n m.count = true) : refW m t n m.count = 0 ∧ refC n m.count = 0 ∧ 0 ≤ wA m t n m.count ∧ wA m t n m.count ≤ m.queue ∧ 0 ≤ t ∧ t ≤ 1152921504606846976 ∧ 0 ≤ costA n m.count ∧ costA n m.count ≤ 1099511627776000001 ∧
    ((stepA m t n m.count).next : Int) = t + wA m t n m.count ∧ (stepA m t n m.count).some = true ∧ (m.some = true → (m.next : Int) + costA n m.count ≤ t + wA m t n m.count) := by
  have hz : refW m t n m.count = 0 := by
    unfold gA at h
    simp only [Bool.and_eq_true, decide_eq_true_eq] at h
    exact h.1
  obtain ⟨tn, nn, rn, rfl, rfl, hr, h1, h2, h3, h4, h5, h6⟩ := refW_zero hz
  have hrn : rn = m.count := by omega
  subst hrn
  have t1 : tokB (nn : Nat) = true := tokB_iff.2 ⟨by omega, by omega⟩
  have t2 : tokB (m.count : Nat) = true := tokB_iff.2 ⟨by omega, by omega⟩
  have hw := waitN_le m tn nn m.count
  have hc := costN_le nn m.count h4 h5
  have hg : goesB m tn nn m.count = true := by
    unfold gA at h
    simpa [hz] using h
  unfold wA costA refC stepA
  rw [hz, t1, t2]
  simp only [Int.toNat_natCast, if_true, Bool.and_self, hg, Bool.or_true]
  refine ⟨trivial, trivial, by omega, by omega, by omega, by omega, by omega, by omega, by omega, trivial, fun hs => ?_⟩
  unfold waitN
  rw [if_pos ⟨hg, hs⟩]
  omega

set_option maxRecDepth 20000 in
set_option maxHeartbeats 4000000 in
theorem core (c q : Int) (a : Option Addr) (n cap : Nat) (F : Nat → Nat → Int) (w : World) (hn : n ≤ 9223372036854775807) (HR : Hid (RowsI w a n 4 F)) :
    Calls Try.prog 4 #[.int .i64 c, .int .i64 q, .slice a n cap] w fun e w' => e = .returned (.bool true) ∧ Below w.heap.size w w' := by
  go_enter Try.func4, Try.ntmps4
  go_wp2_with fail
  refine (New_any c q w).mono ?_
  rintro e w1 (⟨cn, qn, hc, hq, ho, rfl, ha, hb⟩ | ⟨h, rfl, rfl⟩)
  rotate_left
  · clear h
    go_wp2_with fail
    refine (live_any w).mono ?_
    rintro e w1 ⟨rfl, hb1⟩
    have HB1 := hid hb1
    clear hb1
    go_wp2_with fail
    go_ret
    exact ⟨rfl, HB1.out⟩
  have HCQ := hid (And.intro hc hq)
  have HOK := hid ho
  have HA := hid ha
  have HB := hid hb
  have HP := hid (Nat.le_refl w.heap.size)
  clear hc hq ho ha hb
  obtain ⟨p, hp⟩ : ∃ p, w.heap.size = p := ⟨_, rfl⟩
  have HPP : Hid (w.heap.size = p) := hid hp
  rw [show At w1 w.heap.size (fresh cn qn) ↔ At w1 p (fresh cn qn) by rw [hp]] at HA
  have hptr : ptr w.heap.size = ptr p := by rw [hp]
  rw [hptr]
  clear hptr hp HP
  go_wp2_with fail
  go_loopw [9, 10, 11] (fun lv sv i wr => ∃ (k : Nat) (m : Pc), lv = .int .i64 m.next ∧ sv = .bool m.some ∧ i = .int .i64 k ∧ k ≤ n ∧ m.Ok ∧ m.count = cn ∧ m.queue = qn ∧ At wr p m ∧ Below w.heap.size w wr) (fun _ _ i _ => n - (intOf i).toNat)
  case atStart => exact ⟨0, _, rfl, rfl, rfl, Nat.zero_le _, HOK.out, rfl, rfl, HA.out, HB.out⟩
  case round =>
    obtain ⟨k, m, rfl, rfl, rfl, hk, ho, hmc, hmq, hat, hbel⟩ := hrel
    have HOk := hid ho
    have HMc := hid (And.intro hmc hmq)
    have HAk := hid hat
    have HBk := hid hbel
    clear ho hmc hmq hat hbel HOK HA HB
    by_cases hend : k < n ∧ k < 100
    · obtain ⟨hlt, hl3⟩ := hend
      have hd1 : decide ((k : Int) < n) = true := by simpa using hlt
      have hd2 : decide ((k : Int) < 100) = true := by simp; omega
      have hki : (k : Int) < n := by omega
      have hki0 : (0 : Int) ≤ k := by omega
      obtain ⟨g, o, rfl, hg, hcell⟩ := HR.out.1 (by omega)
      have HX : Hid (∀ wx, Below w.heap.size w wx → wx.cell? ⟨g, o + k * 4 + 1, none⟩ = some (.int .i64 (F k 1)) ∧ wx.cell? ⟨g, o + k * 4 + 2, none⟩ = some (.int .i64 (F k 2))) := hid fun wx hb => ⟨(hb.cell (p := ⟨g, o + k * 4 + 1, none⟩) hg).trans (hcell k hlt 1 (by omega)), (hb.cell (p := ⟨g, o + k * 4 + 2, none⟩) hg).trans (hcell k hlt 2 (by omega))⟩
      clear hcell
      generalize F k 1 = t at *
      generalize F k 2 = cnt at *
      obtain ⟨x1, x2⟩ := HX.out _ HBk.out
      have hgr : g < wr.heap.size := Nat.lt_of_lt_of_le hg HBk.out.size
      have HF := hid (Go_any p m HOk.out t cnt wr.drew (HAk.out.below (Below.drew (Below.refl _ wr)) HAk.out.lt))
      have HOs := hid (stepA_ok HOk.out t cnt m.count)
      have HSc := hid (step_count m t cnt m.count)
      have HG1 := hid (@stays m t cnt m.count)
      have HG2 := hid (@spaced m HOk.out t cnt)
      have HCC := hid (cost_any cnt m.count)
      have hcm : (m.count : Int) = c := by rw [HMc.out.1]; exact HCQ.out.1.symm
      rw [hcm] at HF HOs HSc HG1 HG2 HCC
      clear hcm
      generalize stepA m t cnt c = m5 at *
      generalize gA m t cnt c = gg at *
      generalize refW m t cnt c = er at *
      generalize wA m t cnt c = wt at *
      generalize refC cnt c = fc at *
      generalize costA cnt c = kc_ at *
      go_upto_region 8 with fail
      go_region_held3 (fun w' => w'.cell? ⟨g, o + k * 4 + 1, none⟩ = some (.int .i64 t) ∧ w'.cell? ⟨g, o + k * 4 + 2, none⟩ = some (.int .i64 cnt)) (first | assumption | go_keep)
        (first | (go_at_call 15; refine HF.out.mono ?_; rintro e w4 ⟨rfl, ha4, hw4⟩
                  have hw' : Wr (fun j => j = p) wr w4 := (Wr.ofBelow (Below.drew (Below.refl _ wr))).trans hw4
                  have HA4 := hid ha4
                  have HB4 := hid (wbel HBk.out hw' (Nat.le_of_eq HPP.out))
                  obtain ⟨y1, y2⟩ := HX.out _ HB4.out
                  clear ha4 hw4 hw'))
      all_goals
        clear HF HAk HBk x1 x2
        have hgr4 : g < w4.heap.size := Nat.lt_of_lt_of_le hg HB4.out.size
        cases gg
        · obtain ⟨g1, g2⟩ := HG1.out rfl
          have HG := hid (And.intro g1 g2)
          clear g1 g2 HG1 HG2 HCC
          by_cases h0 : er = 0
          · subst h0
            go_wp2_with fail
            go_roundw
            case rel => exact ⟨k + 1, m5, by rw [HG.out.1], by rw [HG.out.2], by go_num, by omega, HOs.out, HSc.out.1.trans HMc.out.1, HSc.out.2.trans HMc.out.2, HA4.out, HB4.out⟩
            case measure => simp [intOf]; omega
          · have hne : (er != 0) = true := by simpa using h0
            clear h0
            go_wp2_with fail
            go_roundw
            case rel => exact ⟨k + 1, m5, by rw [HG.out.1], by rw [HG.out.2], by go_num, by omega, HOs.out, HSc.out.1.trans HMc.out.1, HSc.out.2.trans HMc.out.2, HA4.out, HB4.out⟩
            case measure => simp [intOf]; omega
        · obtain ⟨h0, h00, h1, h2, h3, h4, h5, h6, h7, h8, h9⟩ := HG2.out rfl
          subst h0
          subst h00
          have hq2 : (m.queue : Int) ≤ q := by have := HMc.out.2; have := HCQ.out.2; omega
          have hq3 := HOk.out.q
          have hnx := HOk.out.next
          have z1 : wrap64 (t + wt) = t + wt := by unfold wrap64; omega
          have z2 : decide (wt < 0) = false := by simp; omega
          have z3 : decide (q < wt) = false := by simp; omega
          have HN5 := hid (And.intro h7 h8)
          have z4 : wrap64 (t + wt - (m.next : Nat)) = t + wt - (m.next : Nat) := by unfold wrap64; omega
          have z5 : m.some = true → decide (t + wt - (m.next : Nat) < kc_) = false := fun hs => by have := h9 hs; simp; omega
          clear h1 h2 h3 h4 h5 h6 h7 h8 h9 hq2 hq3 hnx HG1 HG2
          go_wp2_with fail
          refine (HCC.out w4).mono ?_
          rintro e w5 ⟨rfl, hb5⟩
          have HA5 := hid (HA4.out.below hb5 HA4.out.lt)
          have HB5 := hid (bl HB4.out hb5)
          obtain ⟨v1, v2⟩ := HX.out _ HB5.out
          have hgr5 : g < w5.heap.size := Nat.lt_of_lt_of_le hg HB5.out.size
          clear hb5 HA4 HB4 HX HCC y1 y2 hgr hgr4
          cases hs : m.some
          · clear z4 z5
            go_wp2_with fail
            go_roundw
            case rel => exact ⟨k + 1, m5, by first | (rw [HN5.out.1, z1]) | rw [HN5.out.1], by rw [HN5.out.2], by go_num, by omega, HOs.out, HSc.out.1.trans HMc.out.1, HSc.out.2.trans HMc.out.2, HA5.out, HB5.out⟩
            case measure => simp [intOf]; omega
          · have z6 := z5 hs
            clear z5
            go_wp2_with fail
            go_roundw
            case rel => exact ⟨k + 1, m5, by first | (rw [HN5.out.1, z1]) | rw [HN5.out.1], by rw [HN5.out.2], by go_num, by omega, HOs.out, HSc.out.1.trans HMc.out.1, HSc.out.2.trans HMc.out.2, HA5.out, HB5.out⟩
            case measure => simp [intOf]; omega
    · by_cases hlt : k < n
      · have hd1 : decide ((k : Int) < n) = true := by simpa using hlt
        have hd2 : decide ((k : Int) < 100) = false := by simp; omega
        clear hend
        go_wp2_with fail
        refine (live_any wr).mono ?_
        rintro e w9 ⟨rfl, hb9⟩
        have HB9 := hid (bl HBk.out hb9)
        clear hb9
        go_wp2_with fail
        go_ret
        exact ⟨rfl, HB9.out⟩
      · have hd1 : decide ((k : Int) < n) = false := by simpa using hlt
        clear hend
        go_wp2_with fail
        refine (live_any wr).mono ?_
        rintro e w9 ⟨rfl, hb9⟩
        have HB9 := hid (bl HBk.out hb9)
        clear hb9
        go_wp2_with fail
        go_ret
        exact ⟨rfl, HB9.out⟩

theorem underDeed : ∃ fs, Try.prog.underlying 36 = some (.struct fs) ∧ oneCellFields Try.prog fs = true ∧ Try.prog.cellsOf 36 = fs.size ∧ fs.size = 4 ∧ fs[0]?.map (·.type) = some 3 ∧ fs[1]?.map (·.type) = some 3 ∧ fs[2]?.map (·.type) = some 3 ∧ fs[3]?.map (·.type) = some 3 := ⟨_, Try.underlying36, by kernel_rfl, by kernel_rfl, by kernel_rfl, by kernel_rfl, by kernel_rfl, by kernel_rfl, by kernel_rfl⟩

theorem main {H : Type} {enc : TypeId × Value → H} {W : World} {base : Nat} {spare : Nat → Bool} {held : Bool} {d2 : DataW H} {p2 : List MemPlace} (a0 : Int) (w0 : (Lit.int .i64 a0).wf = true) (a1 : Int) (w1 : (Lit.int .i64 a1).wf = true) (a2 : Option Addr) (len2 cap2 : Nat)
    (h2 : ∃ fuel, DataW.trod enc Try.prog W base spare held fuel 22 [.slice a2 len2 cap2] = some (d2, p2)) :
    Calls Try.prog 4 #[.int .i64 a0, .int .i64 a1, .slice a2 len2 cap2] W fun e w' => e = .returned (.bool true) ∧ Below W.heap.size W w' := by
  obtain ⟨k2, h2⟩ := h2
  obtain ⟨fs, hu, q1, q2, q3, f0, f1, f2, f3⟩ := underDeed
  obtain ⟨hn, F, hF⟩ := rows_arg Try.underlying22 hu q1 q2 q3 (by omega) (fun j hj => by rcases (by omega : j = 0 ∨ j = 1 ∨ j = 2 ∨ j = 3) with rfl | rfl | rfl | rfl <;> assumption) h2
  exact core a0 a1 a2 len2 cap2 F W hn (hid hF)

end Go.Proofs.Ytcnfgngkejjecaa.PacD
