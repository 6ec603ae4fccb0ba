/- PacingStays: the walk. -/
import Derived.Test.YtcnfgngkejjecaaPacB
import Derived.Test.YtcnfgngkejjecaaRows2
import Derived.Deep.RegionHeld3
import Derived.BigQuiet
namespace Go.Proofs.Ytcnfgngkejjecaa.PacC
set_option linter.unusedVariables false
open Go.ChangeShapes Go.WideShapes Go.ChangeAt Go.RowKit Go.Deep Base NumM NumA NumE WrmA Wri Rows2 PacP PacM PacB

theorem stays {m : Pc} {t n r : Int} (h : gA m t n r = false) : (stepA m t n r).next = m.next ∧ (stepA m t n r).some = m.some := by
  unfold stepA
  split
  · rename_i hz
    unfold gA at h
    rw [hz] at h
    simp only [decide_true, Bool.true_and] at h
    rw [h]
    simp
  · exact ⟨rfl, rfl⟩
theorem goes {m : Pc} {t n r : Int} (h : gA m t n r = true) : refW m t n r = 0 := by
  unfold gA at h
  simp only [Bool.and_eq_true, decide_eq_true_eq] at h
  exact h.1

set_option maxRecDepth 20000 in
set_option maxHeartbeats 4000000 in
theorem core (c q : Int) (a : Option Addr) (n cap : Nat) (F : Nat → Nat → Int) (w : World) (hn : n ≤ 9223372036854775807) (HR : Hid (RowsI w a n 4 F)) :
    Calls Try.prog 5 #[.int .i64 c, .int .i64 q, .slice a n cap] w fun e w' => e = .returned (.bool true) ∧ Below w.heap.size w w' := by
  go_enter Try.func5, Try.ntmps5
  go_wp2_with fail
  refine (New_any c q w).mono ?_
  rintro e w1 (⟨cn, qn, hc, hq, ho, rfl, ha, hb⟩ | ⟨h, rfl, rfl⟩)
  rotate_left
  · clear h
    go_wp2_with fail
    refine (live_any w).mono ?_
    rintro e w1 ⟨rfl, hb1⟩
    have HB1 := hid hb1
    clear hb1
    go_wp2_with fail
    go_ret
    exact ⟨rfl, HB1.out⟩
  have HCQ := hid (And.intro hc hq)
  have HOK := hid ho
  have HA := hid ha
  have HB := hid hb
  have HP := hid (Nat.le_refl w.heap.size)
  clear hc hq ho ha hb
  obtain ⟨p, hp⟩ : ∃ p, w.heap.size = p := ⟨_, rfl⟩
  have HPP : Hid (w.heap.size = p) := hid hp
  rw [show At w1 w.heap.size (fresh cn qn) ↔ At w1 p (fresh cn qn) by rw [hp]] at HA
  have hptr : ptr w.heap.size = ptr p := by rw [hp]
  rw [hptr]
  clear hptr hp HP
  go_wp2_with fail
  go_loopw [9] (fun i wr => ∃ (k : Nat) (m : Pc), i = .int .i64 k ∧ k ≤ n ∧ m.Ok ∧ At wr p m ∧ Below w.heap.size w wr) (fun i _ => n - (intOf i).toNat)
  case atStart => exact ⟨0, _, rfl, Nat.zero_le _, HOK.out, HA.out, HB.out⟩
  case round =>
    obtain ⟨k, m, rfl, hk, ho, hat, hbel⟩ := hrel
    have HOk := hid ho
    have HAk := hid hat
    have HBk := hid hbel
    clear ho hat hbel HOK HA HB
    by_cases hend : k < n ∧ k < 100
    · obtain ⟨hlt, hl3⟩ := hend
      have hd1 : decide ((k : Int) < n) = true := by simpa using hlt
      have hd2 : decide ((k : Int) < 100) = true := by simp; omega
      have hki : (k : Int) < n := by omega
      have hki0 : (0 : Int) ≤ k := by omega
      obtain ⟨g, o, rfl, hg, hcell⟩ := HR.out.1 (by omega)
      have HX : Hid (∀ wx, Below w.heap.size w wx → wx.cell? ⟨g, o + k * 4 + 1, none⟩ = some (.int .i64 (F k 1)) ∧ wx.cell? ⟨g, o + k * 4 + 2, none⟩ = some (.int .i64 (F k 2))) := hid fun wx hb => ⟨(hb.cell (p := ⟨g, o + k * 4 + 1, none⟩) hg).trans (hcell k hlt 1 (by omega)), (hb.cell (p := ⟨g, o + k * 4 + 2, none⟩) hg).trans (hcell k hlt 2 (by omega))⟩
      clear hcell
      generalize F k 1 = t at *
      generalize F k 2 = cnt at *
      go_wp2_with fail
      refine (Next_any p m HOk.out wr HAk.out).mono ?_
      rintro e w2 ⟨rfl, hb2⟩
      have HA2 := hid (HAk.out.below hb2 HAk.out.lt)
      have HB2 := hid (bl HBk.out hb2)
      obtain ⟨x1, x2⟩ := HX.out _ HB2.out
      have hgr : g < w2.heap.size := Nat.lt_of_lt_of_le hg HB2.out.size
      clear hb2
      have HF := hid (Go_any p m HOk.out t cnt w2.drew (HA2.out.below (Below.drew (Below.refl _ w2)) HA2.out.lt))
      have HOs := hid (stepA_ok HOk.out t cnt m.count)
      have HG1 := hid (@stays m t cnt m.count)
      have HG2 := hid (@goes m t cnt m.count)
      generalize stepA m t cnt m.count = m5 at *
      generalize gA m t cnt m.count = gg at *
      generalize refW m t cnt m.count = er at *
      generalize wA m t cnt m.count = wt at *
      clear HAk
      go_upto_region 8 with fail
      go_region_held3 (fun w' => w'.cell? ⟨g, o + k * 4 + 1, none⟩ = some (.int .i64 t) ∧ w'.cell? ⟨g, o + k * 4 + 2, none⟩ = some (.int .i64 cnt)) (first | assumption | go_keep)
        (first | (go_at_call 15; refine HF.out.mono ?_; rintro e w4 ⟨rfl, ha4, hw4⟩
                  have hw' : Wr (fun j => j = p) w2 w4 := (Wr.ofBelow (Below.drew (Below.refl _ w2))).trans hw4
                  have HA4 := hid ha4
                  have HB4 := hid (wbel HB2.out hw' (Nat.le_of_eq HPP.out))
                  obtain ⟨y1, y2⟩ := HX.out _ HB4.out
                  clear ha4 hw4 hw'))
      all_goals
        clear HF HA2 HB2
        go_wp2_with fail
        refine (Next_any p m5 HOs.out w4 HA4.out).mono ?_
        rintro e w5 ⟨rfl, hb5⟩
        have HA5 := hid (HA4.out.below hb5 HA4.out.lt)
        have HB5 := hid (bl HB4.out hb5)
        clear hb5 HA4 HB4 HX
        cases gg
        · obtain ⟨g1, g2⟩ := HG1.out rfl
          have z1 : ((m.next : Int) == (m.next : Int)) = true := by simp
          have z2 : (m.some == m.some) = true := by simp
          rw [g1, g2]
          generalize ((m.next : Nat) : Int) = v1 at *
          generalize m.some = v2 at *
          clear g1 g2
          go_wp2_with fail
          go_roundw
          case rel => exact ⟨k + 1, m5, by go_num, by omega, HOs.out, HA5.out, HB5.out⟩
          case measure => simp [intOf]; omega
        · have h0 := HG2.out rfl
          subst h0
          go_wp2_with fail
          go_roundw
          case rel => exact ⟨k + 1, m5, by go_num, by omega, HOs.out, HA5.out, HB5.out⟩
          case measure => simp [intOf]; omega
    · by_cases hlt : k < n
      · have hd1 : decide ((k : Int) < n) = true := by simpa using hlt
        have hd2 : decide ((k : Int) < 100) = false := by simp; omega
        clear hend
        go_wp2_with fail
        refine (live_any wr).mono ?_
        rintro e w9 ⟨rfl, hb9⟩
        have HB9 := hid (bl HBk.out hb9)
        clear hb9
        go_wp2_with fail
        go_ret
        exact ⟨rfl, HB9.out⟩
      · have hd1 : decide ((k : Int) < n) = false := by simpa using hlt
        clear hend
        go_wp2_with fail
        refine (live_any wr).mono ?_
        rintro e w9 ⟨rfl, hb9⟩
        have HB9 := hid (bl HBk.out hb9)
        clear hb9
        go_wp2_with fail
        go_ret
        exact ⟨rfl, HB9.out⟩

theorem underDeed : ∃ fs, Try.prog.underlying 36 = some (.struct fs) ∧ oneCellFields Try.prog fs = true ∧ Try.prog.cellsOf 36 = fs.size ∧ fs.size = 4 ∧ fs[0]?.map (·.type) = some 3 ∧ fs[1]?.map (·.type) = some 3 ∧ fs[2]?.map (·.type) = some 3 ∧ fs[3]?.map (·.type) = some 3 := ⟨_, Try.underlying36, by kernel_rfl, by kernel_rfl, by kernel_rfl, by kernel_rfl, by kernel_rfl, by kernel_rfl, by kernel_rfl⟩

theorem main {H : Type} {enc : TypeId × Value → H} {W : World} {base : Nat} {spare : Nat → Bool} {held : Bool} {d2 : DataW H} {p2 : List MemPlace} (a0 : Int) (w0 : (Lit.int .i64 a0).wf = true) (a1 : Int) (w1 : (Lit.int .i64 a1).wf = true) (a2 : Option Addr) (len2 cap2 : Nat)
    (h2 : ∃ fuel, DataW.trod enc Try.prog W base spare held fuel 22 [.slice a2 len2 cap2] = some (d2, p2)) :
    Calls Try.prog 5 #[.int .i64 a0, .int .i64 a1, .slice a2 len2 cap2] W fun e w' => e = .returned (.bool true) ∧ Below W.heap.size W w' := by
  obtain ⟨k2, h2⟩ := h2
  obtain ⟨fs, hu, q1, q2, q3, f0, f1, f2, f3⟩ := underDeed
  obtain ⟨hn, F, hF⟩ := rows_arg Try.underlying22 hu q1 q2 q3 (by omega) (fun j hj => by rcases (by omega : j = 0 ∨ j = 1 ∨ j = 2 ∨ j = 3) with rfl | rfl | rfl | rfl <;> assumption) h2
  exact core a0 a1 a2 len2 cap2 F W hn (hid hF)

end Go.Proofs.Ytcnfgngkejjecaa.PacC
