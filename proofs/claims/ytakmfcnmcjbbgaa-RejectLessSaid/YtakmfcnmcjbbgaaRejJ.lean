/- RejectLess. -/
import Derived.Test.YtakmfcnmcjbbgaaRejI
import Derived.Deep.Cut
namespace Go.Proofs.Ytakmfcnmcjbbgaa.RejJ
set_option linter.unusedVariables false
open Go.ChangeShapes Go.WideShapes Go.ChangeAt Go.RowKit Base RejA RejB RejD RejE RejF RejG RejH RejI Pas Txt NumM NumA

theorem pass_less {thr : Bool} {cnt xp xf xc yp yf yc : Int} (h : passF thr cnt xp xf xc = true) (hp : yp ≤ xp) (hf : yf ≤ xf) (hc : yc ≤ xc) (f1 : Fits xp) (f2 : Fits xc) (f3 : Fits yp) (f4 : Fits yc) : passF thr cnt yp yf yc = true := by
  unfold passF at *
  cases thr with
  | true =>
    simp only [if_true, decide_eq_true_eq] at *
    omega
  | false =>
    simp only [Bool.false_eq_true, if_false] at *
    by_cases hX : Fits (xp + xc)
    · rw [if_pos hX] at h
      simp only [decide_eq_true_eq] at h
      by_cases hY : Fits (yp + yc)
      · rw [if_pos hY]; simp only [decide_eq_true_eq]; omega
      · rw [if_neg hY]; unfold Fits at *; simp only [decide_eq_true_eq]; omega
    · rw [if_neg hX] at h
      simp only [decide_eq_true_eq] at h
      have hY : ¬ Fits (yp + yc) := by unfold Fits at *; omega
      rw [if_neg hY]; simp only [decide_eq_true_eq]; omega
theorem pass_more {thr : Bool} {cnt xp xf xc : Int} (h : passF thr cnt xp xf xc = true) (hm : cnt ≤ 9223372036854775807) (f1 : Fits xp) (f2 : Fits xc) : passF thr 9223372036854775807 xp xf xc = true := by
  unfold passF at *
  cases thr with
  | true =>
    simp only [if_true, decide_eq_true_eq] at *
    omega
  | false =>
    simp only [Bool.false_eq_true, if_false] at *
    by_cases hF : Fits (xp + xc)
    · rw [if_pos hF]
      unfold Fits at hF
      simp only [decide_eq_true_eq]; omega
    · rw [if_neg hF] at *
      exact h

set_option maxRecDepth 20000 in
set_option maxHeartbeats 4000000 in
theorem less_core (res org : ByteArray) (thr : Bool) (cnt strat : Int) (ref : ByteArray) (shape warm queue : Int) (clus : Bool) (id_ : Int) (fall : Bool) (xp xf xc yp yf yc : Int) (HX : Hid (Fits xp ∧ Fits xc ∧ Fits yp ∧ Fits yc ∧ cnt ≤ 9223372036854775807)) (w : World) :
    Calls Try.prog 6 #[.agg #[.string res, .string org, .bool thr, .int .i64 cnt, .int .u8 strat, .string ref, .int .u8 shape, .int .i64 warm, .int .i64 queue, .bool clus, .int .i64 id_, .bool fall], .agg #[.int .i64 xp, .int .i64 xf, .int .i64 xc], .agg #[.int .i64 yp, .int .i64 yf, .int .i64 yc]] w fun e w' => e = .returned (.bool true) ∧ Below w.heap.size w w' := by
  have HP := hid (fun w => Passes_any res org thr cnt strat ref shape warm queue clus id_ fall xp xf xc HX.out.1 HX.out.2.1 w)
  have HQ := hid (fun w => Passes_any res org thr cnt strat ref shape warm queue clus id_ fall yp yf yc HX.out.2.2.1 HX.out.2.2.2.1 w)
  have HM := hid (fun w => Passes_any res org thr 9223372036854775807 strat ref shape warm queue clus id_ fall xp xf xc HX.out.1 HX.out.2.1 w)
  have HB0 := hid (show Below w.heap.size w (((w.alloc (.cells #[.string res, .string org, .bool thr, .int .i64 cnt, .int .u8 strat, .string ref, .int .u8 shape, .int .i64 warm, .int .i64 queue, .bool clus, .int .i64 id_, .bool fall] 25)).alloc (.cells #[.int .i64 xp, .int .i64 xf, .int .i64 xc] 37)).alloc (.cells #[.int .i64 yp, .int .i64 yf, .int .i64 yc] 37)) from ((((Below.refl w.heap.size w).alloc (Nat.le_refl _) _).alloc (by simp) _).alloc (by simp; omega) _))
  have p0 : (((w.alloc (.cells #[.string res, .string org, .bool thr, .int .i64 cnt, .int .u8 strat, .string ref, .int .u8 shape, .int .i64 warm, .int .i64 queue, .bool clus, .int .i64 id_, .bool fall] 25)).alloc (.cells #[.int .i64 xp, .int .i64 xf, .int .i64 xc] 37)).alloc (.cells #[.int .i64 yp, .int .i64 yf, .int .i64 yc] 37)).cell? ⟨w.heap.size, 0, none⟩ = some (.string res) := by go_cell
  have p1 : (((w.alloc (.cells #[.string res, .string org, .bool thr, .int .i64 cnt, .int .u8 strat, .string ref, .int .u8 shape, .int .i64 warm, .int .i64 queue, .bool clus, .int .i64 id_, .bool fall] 25)).alloc (.cells #[.int .i64 xp, .int .i64 xf, .int .i64 xc] 37)).alloc (.cells #[.int .i64 yp, .int .i64 yf, .int .i64 yc] 37)).cell? ⟨w.heap.size, 1, none⟩ = some (.string org) := by go_cell
  have p2 : (((w.alloc (.cells #[.string res, .string org, .bool thr, .int .i64 cnt, .int .u8 strat, .string ref, .int .u8 shape, .int .i64 warm, .int .i64 queue, .bool clus, .int .i64 id_, .bool fall] 25)).alloc (.cells #[.int .i64 xp, .int .i64 xf, .int .i64 xc] 37)).alloc (.cells #[.int .i64 yp, .int .i64 yf, .int .i64 yc] 37)).cell? ⟨w.heap.size, 2, none⟩ = some (.bool thr) := by go_cell
  have p3 : (((w.alloc (.cells #[.string res, .string org, .bool thr, .int .i64 cnt, .int .u8 strat, .string ref, .int .u8 shape, .int .i64 warm, .int .i64 queue, .bool clus, .int .i64 id_, .bool fall] 25)).alloc (.cells #[.int .i64 xp, .int .i64 xf, .int .i64 xc] 37)).alloc (.cells #[.int .i64 yp, .int .i64 yf, .int .i64 yc] 37)).cell? ⟨w.heap.size, 3, none⟩ = some (.int .i64 cnt) := by go_cell
  have p4 : (((w.alloc (.cells #[.string res, .string org, .bool thr, .int .i64 cnt, .int .u8 strat, .string ref, .int .u8 shape, .int .i64 warm, .int .i64 queue, .bool clus, .int .i64 id_, .bool fall] 25)).alloc (.cells #[.int .i64 xp, .int .i64 xf, .int .i64 xc] 37)).alloc (.cells #[.int .i64 yp, .int .i64 yf, .int .i64 yc] 37)).cell? ⟨w.heap.size, 4, none⟩ = some (.int .u8 strat) := by go_cell
  have p5 : (((w.alloc (.cells #[.string res, .string org, .bool thr, .int .i64 cnt, .int .u8 strat, .string ref, .int .u8 shape, .int .i64 warm, .int .i64 queue, .bool clus, .int .i64 id_, .bool fall] 25)).alloc (.cells #[.int .i64 xp, .int .i64 xf, .int .i64 xc] 37)).alloc (.cells #[.int .i64 yp, .int .i64 yf, .int .i64 yc] 37)).cell? ⟨w.heap.size, 5, none⟩ = some (.string ref) := by go_cell
  have p6 : (((w.alloc (.cells #[.string res, .string org, .bool thr, .int .i64 cnt, .int .u8 strat, .string ref, .int .u8 shape, .int .i64 warm, .int .i64 queue, .bool clus, .int .i64 id_, .bool fall] 25)).alloc (.cells #[.int .i64 xp, .int .i64 xf, .int .i64 xc] 37)).alloc (.cells #[.int .i64 yp, .int .i64 yf, .int .i64 yc] 37)).cell? ⟨w.heap.size, 6, none⟩ = some (.int .u8 shape) := by go_cell
  have p7 : (((w.alloc (.cells #[.string res, .string org, .bool thr, .int .i64 cnt, .int .u8 strat, .string ref, .int .u8 shape, .int .i64 warm, .int .i64 queue, .bool clus, .int .i64 id_, .bool fall] 25)).alloc (.cells #[.int .i64 xp, .int .i64 xf, .int .i64 xc] 37)).alloc (.cells #[.int .i64 yp, .int .i64 yf, .int .i64 yc] 37)).cell? ⟨w.heap.size, 7, none⟩ = some (.int .i64 warm) := by go_cell
  have p8 : (((w.alloc (.cells #[.string res, .string org, .bool thr, .int .i64 cnt, .int .u8 strat, .string ref, .int .u8 shape, .int .i64 warm, .int .i64 queue, .bool clus, .int .i64 id_, .bool fall] 25)).alloc (.cells #[.int .i64 xp, .int .i64 xf, .int .i64 xc] 37)).alloc (.cells #[.int .i64 yp, .int .i64 yf, .int .i64 yc] 37)).cell? ⟨w.heap.size, 8, none⟩ = some (.int .i64 queue) := by go_cell
  have p9 : (((w.alloc (.cells #[.string res, .string org, .bool thr, .int .i64 cnt, .int .u8 strat, .string ref, .int .u8 shape, .int .i64 warm, .int .i64 queue, .bool clus, .int .i64 id_, .bool fall] 25)).alloc (.cells #[.int .i64 xp, .int .i64 xf, .int .i64 xc] 37)).alloc (.cells #[.int .i64 yp, .int .i64 yf, .int .i64 yc] 37)).cell? ⟨w.heap.size, 9, none⟩ = some (.bool clus) := by go_cell
  have p10 : (((w.alloc (.cells #[.string res, .string org, .bool thr, .int .i64 cnt, .int .u8 strat, .string ref, .int .u8 shape, .int .i64 warm, .int .i64 queue, .bool clus, .int .i64 id_, .bool fall] 25)).alloc (.cells #[.int .i64 xp, .int .i64 xf, .int .i64 xc] 37)).alloc (.cells #[.int .i64 yp, .int .i64 yf, .int .i64 yc] 37)).cell? ⟨w.heap.size, 10, none⟩ = some (.int .i64 id_) := by go_cell
  have p11 : (((w.alloc (.cells #[.string res, .string org, .bool thr, .int .i64 cnt, .int .u8 strat, .string ref, .int .u8 shape, .int .i64 warm, .int .i64 queue, .bool clus, .int .i64 id_, .bool fall] 25)).alloc (.cells #[.int .i64 xp, .int .i64 xf, .int .i64 xc] 37)).alloc (.cells #[.int .i64 yp, .int .i64 yf, .int .i64 yc] 37)).cell? ⟨w.heap.size, 11, none⟩ = some (.bool fall) := by go_cell
  have q0 : (((w.alloc (.cells #[.string res, .string org, .bool thr, .int .i64 cnt, .int .u8 strat, .string ref, .int .u8 shape, .int .i64 warm, .int .i64 queue, .bool clus, .int .i64 id_, .bool fall] 25)).alloc (.cells #[.int .i64 xp, .int .i64 xf, .int .i64 xc] 37)).alloc (.cells #[.int .i64 yp, .int .i64 yf, .int .i64 yc] 37)).cell? ⟨w.heap.size + 1, 0, none⟩ = some (.int .i64 xp) := by go_cell
  have q1 : (((w.alloc (.cells #[.string res, .string org, .bool thr, .int .i64 cnt, .int .u8 strat, .string ref, .int .u8 shape, .int .i64 warm, .int .i64 queue, .bool clus, .int .i64 id_, .bool fall] 25)).alloc (.cells #[.int .i64 xp, .int .i64 xf, .int .i64 xc] 37)).alloc (.cells #[.int .i64 yp, .int .i64 yf, .int .i64 yc] 37)).cell? ⟨w.heap.size + 1, 1, none⟩ = some (.int .i64 xf) := by go_cell
  have q2 : (((w.alloc (.cells #[.string res, .string org, .bool thr, .int .i64 cnt, .int .u8 strat, .string ref, .int .u8 shape, .int .i64 warm, .int .i64 queue, .bool clus, .int .i64 id_, .bool fall] 25)).alloc (.cells #[.int .i64 xp, .int .i64 xf, .int .i64 xc] 37)).alloc (.cells #[.int .i64 yp, .int .i64 yf, .int .i64 yc] 37)).cell? ⟨w.heap.size + 1, 2, none⟩ = some (.int .i64 xc) := by go_cell
  have r0 : (((w.alloc (.cells #[.string res, .string org, .bool thr, .int .i64 cnt, .int .u8 strat, .string ref, .int .u8 shape, .int .i64 warm, .int .i64 queue, .bool clus, .int .i64 id_, .bool fall] 25)).alloc (.cells #[.int .i64 xp, .int .i64 xf, .int .i64 xc] 37)).alloc (.cells #[.int .i64 yp, .int .i64 yf, .int .i64 yc] 37)).cell? ⟨w.heap.size + 2, 0, none⟩ = some (.int .i64 yp) := by go_cell
  have r1 : (((w.alloc (.cells #[.string res, .string org, .bool thr, .int .i64 cnt, .int .u8 strat, .string ref, .int .u8 shape, .int .i64 warm, .int .i64 queue, .bool clus, .int .i64 id_, .bool fall] 25)).alloc (.cells #[.int .i64 xp, .int .i64 xf, .int .i64 xc] 37)).alloc (.cells #[.int .i64 yp, .int .i64 yf, .int .i64 yc] 37)).cell? ⟨w.heap.size + 2, 1, none⟩ = some (.int .i64 yf) := by go_cell
  have r2 : (((w.alloc (.cells #[.string res, .string org, .bool thr, .int .i64 cnt, .int .u8 strat, .string ref, .int .u8 shape, .int .i64 warm, .int .i64 queue, .bool clus, .int .i64 id_, .bool fall] 25)).alloc (.cells #[.int .i64 xp, .int .i64 xf, .int .i64 xc] 37)).alloc (.cells #[.int .i64 yp, .int .i64 yf, .int .i64 yc] 37)).cell? ⟨w.heap.size + 2, 2, none⟩ = some (.int .i64 yc) := by go_cell
  obtain ⟨b, hb⟩ : ∃ b, passF thr cnt xp xf xc = b := ⟨_, rfl⟩
  have HBE := hid hb
  rw [hb] at HP
  clear hb
  go_enter Try.func6, Try.ntmps6
  go_upto_region 1 with fail
  generalize (((w.alloc (.cells #[.string res, .string org, .bool thr, .int .i64 cnt, .int .u8 strat, .string ref, .int .u8 shape, .int .i64 warm, .int .i64 queue, .bool clus, .int .i64 id_, .bool fall] 25)).alloc (.cells #[.int .i64 xp, .int .i64 xf, .int .i64 xc] 37)).alloc (.cells #[.int .i64 yp, .int .i64 yf, .int .i64 yc] 37)) = w0 at *
  go_wp2_with fail
  refine (HP.out _).mono ?_
  rintro e w1 ⟨rfl, hb1⟩
  have p0 : w1.cell? ⟨w.heap.size, 0, none⟩ = some (.string res) := kc hb1 (by assumption)
  have p1 : w1.cell? ⟨w.heap.size, 1, none⟩ = some (.string org) := kc hb1 (by assumption)
  have p2 : w1.cell? ⟨w.heap.size, 2, none⟩ = some (.bool thr) := kc hb1 (by assumption)
  have p3 : w1.cell? ⟨w.heap.size, 3, none⟩ = some (.int .i64 cnt) := kc hb1 (by assumption)
  have p4 : w1.cell? ⟨w.heap.size, 4, none⟩ = some (.int .u8 strat) := kc hb1 (by assumption)
  have p5 : w1.cell? ⟨w.heap.size, 5, none⟩ = some (.string ref) := kc hb1 (by assumption)
  have p6 : w1.cell? ⟨w.heap.size, 6, none⟩ = some (.int .u8 shape) := kc hb1 (by assumption)
  have p7 : w1.cell? ⟨w.heap.size, 7, none⟩ = some (.int .i64 warm) := kc hb1 (by assumption)
  have p8 : w1.cell? ⟨w.heap.size, 8, none⟩ = some (.int .i64 queue) := kc hb1 (by assumption)
  have p9 : w1.cell? ⟨w.heap.size, 9, none⟩ = some (.bool clus) := kc hb1 (by assumption)
  have p10 : w1.cell? ⟨w.heap.size, 10, none⟩ = some (.int .i64 id_) := kc hb1 (by assumption)
  have p11 : w1.cell? ⟨w.heap.size, 11, none⟩ = some (.bool fall) := kc hb1 (by assumption)
  have q0 : w1.cell? ⟨w.heap.size + 1, 0, none⟩ = some (.int .i64 xp) := kc hb1 (by assumption)
  have q1 : w1.cell? ⟨w.heap.size + 1, 1, none⟩ = some (.int .i64 xf) := kc hb1 (by assumption)
  have q2 : w1.cell? ⟨w.heap.size + 1, 2, none⟩ = some (.int .i64 xc) := kc hb1 (by assumption)
  have r0 : w1.cell? ⟨w.heap.size + 2, 0, none⟩ = some (.int .i64 yp) := kc hb1 (by assumption)
  have r1 : w1.cell? ⟨w.heap.size + 2, 1, none⟩ = some (.int .i64 yf) := kc hb1 (by assumption)
  have r2 : w1.cell? ⟨w.heap.size + 2, 2, none⟩ = some (.int .i64 yc) := kc hb1 (by assumption)
  have HB1 := hid (bl HB0.out hb1)
  clear HP HB0 hb1
  have early : ∀ z : World, Hid (Below w.heap.size w z) → Calls Try.prog 10 #[] z fun e w' => e = .returned (.bool true) ∧ Hid (Below w.heap.size w w') := fun z hz => (live_any z).mono fun e w' h => ⟨h.1, hid (bl hz.out h.2)⟩
  have HE := hid early
  clear early
  cases b with
  | false =>
    go_wp2_with fail
    refine (HE.out _ HB1).mono ?_
    rintro e w2 ⟨rfl, HB2⟩
    go_wp2_with fail
    go_ret
    exact ⟨rfl, HB2.out⟩
  | true =>
    by_cases h1 : xp < yp
    · have d1 : decide (xp < yp) = true := by simpa using h1
      go_wp2_with fail
      refine (HE.out _ HB1).mono ?_
      rintro e w2 ⟨rfl, HB2⟩
      go_wp2_with fail
      go_ret
      exact ⟨rfl, HB2.out⟩
    · have d1 : decide (xp < yp) = false := by simpa using h1
      by_cases h2 : xf < yf
      · have d2 : decide (xf < yf) = true := by simpa using h2
        clear h1
        go_wp2_with fail
        refine (HE.out _ HB1).mono ?_
        rintro e w2 ⟨rfl, HB2⟩
        go_wp2_with fail
        go_ret
        exact ⟨rfl, HB2.out⟩
      · have d2 : decide (xf < yf) = false := by simpa using h2
        by_cases h3 : xc < yc
        · have d3 : decide (xc < yc) = true := by simpa using h3
          clear h1 h2
          go_wp2_with fail
          refine (HE.out _ HB1).mono ?_
          rintro e w2 ⟨rfl, HB2⟩
          go_wp2_with fail
          go_ret
          exact ⟨rfl, HB2.out⟩
        · have d3 : decide (xc < yc) = false := by simpa using h3
          have HL : Hid (passF thr cnt yp yf yc = true ∧ passF thr 9223372036854775807 xp xf xc = true) := hid ⟨pass_less HBE.out (by omega) (by omega) (by omega) HX.out.1 HX.out.2.1 HX.out.2.2.1 HX.out.2.2.2.1, pass_more HBE.out HX.out.2.2.2.2 HX.out.1 HX.out.2.1⟩
          rw [HL.out.1] at HQ
          rw [HL.out.2] at HM
          clear h1 h2 h3
          go_upto_region 5 with fail
          have hba : Below w1.heap.size w1 (w1.alloc (.cells #[.string res, .string org, .bool thr, .int .i64 9223372036854775807, .int .u8 strat, .string ref, .int .u8 shape, .int .i64 warm, .int .i64 queue, .bool clus, .int .i64 id_, .bool fall] 25)) := (Below.refl _ _).alloc (Nat.le_refl _) _
          have hnew := heap_alloc_new w1 (.cells #[.string res, .string org, .bool thr, .int .i64 9223372036854775807, .int .u8 strat, .string ref, .int .u8 shape, .int .i64 warm, .int .i64 queue, .bool clus, .int .i64 id_, .bool fall] 25)
          generalize w1.alloc (.cells #[.string res, .string org, .bool thr, .int .i64 9223372036854775807, .int .u8 strat, .string ref, .int .u8 shape, .int .i64 warm, .int .i64 queue, .bool clus, .int .i64 id_, .bool fall] 25) = wa at *
          obtain ⟨mb, hmb⟩ : ∃ mb, w1.heap.size = mb := ⟨_, rfl⟩
          rw [hmb] at hnew ⊢
          have p0 : wa.cell? ⟨w.heap.size, 0, none⟩ = some (.string res) := kc hba (by assumption)
          have p1 : wa.cell? ⟨w.heap.size, 1, none⟩ = some (.string org) := kc hba (by assumption)
          have p2 : wa.cell? ⟨w.heap.size, 2, none⟩ = some (.bool thr) := kc hba (by assumption)
          have p3 : wa.cell? ⟨w.heap.size, 3, none⟩ = some (.int .i64 cnt) := kc hba (by assumption)
          have p4 : wa.cell? ⟨w.heap.size, 4, none⟩ = some (.int .u8 strat) := kc hba (by assumption)
          have p5 : wa.cell? ⟨w.heap.size, 5, none⟩ = some (.string ref) := kc hba (by assumption)
          have p6 : wa.cell? ⟨w.heap.size, 6, none⟩ = some (.int .u8 shape) := kc hba (by assumption)
          have p7 : wa.cell? ⟨w.heap.size, 7, none⟩ = some (.int .i64 warm) := kc hba (by assumption)
          have p8 : wa.cell? ⟨w.heap.size, 8, none⟩ = some (.int .i64 queue) := kc hba (by assumption)
          have p9 : wa.cell? ⟨w.heap.size, 9, none⟩ = some (.bool clus) := kc hba (by assumption)
          have p10 : wa.cell? ⟨w.heap.size, 10, none⟩ = some (.int .i64 id_) := kc hba (by assumption)
          have p11 : wa.cell? ⟨w.heap.size, 11, none⟩ = some (.bool fall) := kc hba (by assumption)
          have q0 : wa.cell? ⟨w.heap.size + 1, 0, none⟩ = some (.int .i64 xp) := kc hba (by assumption)
          have q1 : wa.cell? ⟨w.heap.size + 1, 1, none⟩ = some (.int .i64 xf) := kc hba (by assumption)
          have q2 : wa.cell? ⟨w.heap.size + 1, 2, none⟩ = some (.int .i64 xc) := kc hba (by assumption)
          have r0 : wa.cell? ⟨w.heap.size + 2, 0, none⟩ = some (.int .i64 yp) := kc hba (by assumption)
          have r1 : wa.cell? ⟨w.heap.size + 2, 1, none⟩ = some (.int .i64 yf) := kc hba (by assumption)
          have r2 : wa.cell? ⟨w.heap.size + 2, 2, none⟩ = some (.int .i64 yc) := kc hba (by assumption)
          have s0 : wa.cell? ⟨mb, 0, none⟩ = some (.string res) := by simp [World.cell?, hnew]
          have s1 : wa.cell? ⟨mb, 1, none⟩ = some (.string org) := by simp [World.cell?, hnew]
          have s2 : wa.cell? ⟨mb, 2, none⟩ = some (.bool thr) := by simp [World.cell?, hnew]
          have s3 : wa.cell? ⟨mb, 3, none⟩ = some (.int .i64 9223372036854775807) := by simp [World.cell?, hnew]
          have s4 : wa.cell? ⟨mb, 4, none⟩ = some (.int .u8 strat) := by simp [World.cell?, hnew]
          have s5 : wa.cell? ⟨mb, 5, none⟩ = some (.string ref) := by simp [World.cell?, hnew]
          have s6 : wa.cell? ⟨mb, 6, none⟩ = some (.int .u8 shape) := by simp [World.cell?, hnew]
          have s7 : wa.cell? ⟨mb, 7, none⟩ = some (.int .i64 warm) := by simp [World.cell?, hnew]
          have s8 : wa.cell? ⟨mb, 8, none⟩ = some (.int .i64 queue) := by simp [World.cell?, hnew]
          have s9 : wa.cell? ⟨mb, 9, none⟩ = some (.bool clus) := by simp [World.cell?, hnew]
          have s10 : wa.cell? ⟨mb, 10, none⟩ = some (.int .i64 id_) := by simp [World.cell?, hnew]
          have s11 : wa.cell? ⟨mb, 11, none⟩ = some (.bool fall) := by simp [World.cell?, hnew]
          have HBa := hid (bl HB1.out hba)
          clear hba hnew hmb HB1
          go_wp2_with fail
          refine (live_any wa).mono ?_
          rintro e w2 ⟨rfl, hb2⟩
          have p0 : w2.cell? ⟨w.heap.size, 0, none⟩ = some (.string res) := kc hb2 (by assumption)
          have p1 : w2.cell? ⟨w.heap.size, 1, none⟩ = some (.string org) := kc hb2 (by assumption)
          have p2 : w2.cell? ⟨w.heap.size, 2, none⟩ = some (.bool thr) := kc hb2 (by assumption)
          have p3 : w2.cell? ⟨w.heap.size, 3, none⟩ = some (.int .i64 cnt) := kc hb2 (by assumption)
          have p4 : w2.cell? ⟨w.heap.size, 4, none⟩ = some (.int .u8 strat) := kc hb2 (by assumption)
          have p5 : w2.cell? ⟨w.heap.size, 5, none⟩ = some (.string ref) := kc hb2 (by assumption)
          have p6 : w2.cell? ⟨w.heap.size, 6, none⟩ = some (.int .u8 shape) := kc hb2 (by assumption)
          have p7 : w2.cell? ⟨w.heap.size, 7, none⟩ = some (.int .i64 warm) := kc hb2 (by assumption)
          have p8 : w2.cell? ⟨w.heap.size, 8, none⟩ = some (.int .i64 queue) := kc hb2 (by assumption)
          have p9 : w2.cell? ⟨w.heap.size, 9, none⟩ = some (.bool clus) := kc hb2 (by assumption)
          have p10 : w2.cell? ⟨w.heap.size, 10, none⟩ = some (.int .i64 id_) := kc hb2 (by assumption)
          have p11 : w2.cell? ⟨w.heap.size, 11, none⟩ = some (.bool fall) := kc hb2 (by assumption)
          have q0 : w2.cell? ⟨w.heap.size + 1, 0, none⟩ = some (.int .i64 xp) := kc hb2 (by assumption)
          have q1 : w2.cell? ⟨w.heap.size + 1, 1, none⟩ = some (.int .i64 xf) := kc hb2 (by assumption)
          have q2 : w2.cell? ⟨w.heap.size + 1, 2, none⟩ = some (.int .i64 xc) := kc hb2 (by assumption)
          have r0 : w2.cell? ⟨w.heap.size + 2, 0, none⟩ = some (.int .i64 yp) := kc hb2 (by assumption)
          have r1 : w2.cell? ⟨w.heap.size + 2, 1, none⟩ = some (.int .i64 yf) := kc hb2 (by assumption)
          have r2 : w2.cell? ⟨w.heap.size + 2, 2, none⟩ = some (.int .i64 yc) := kc hb2 (by assumption)
          have s0 : w2.cell? ⟨mb, 0, none⟩ = some (.string res) := kc hb2 (by assumption)
          have s1 : w2.cell? ⟨mb, 1, none⟩ = some (.string org) := kc hb2 (by assumption)
          have s2 : w2.cell? ⟨mb, 2, none⟩ = some (.bool thr) := kc hb2 (by assumption)
          have s3 : w2.cell? ⟨mb, 3, none⟩ = some (.int .i64 9223372036854775807) := kc hb2 (by assumption)
          have s4 : w2.cell? ⟨mb, 4, none⟩ = some (.int .u8 strat) := kc hb2 (by assumption)
          have s5 : w2.cell? ⟨mb, 5, none⟩ = some (.string ref) := kc hb2 (by assumption)
          have s6 : w2.cell? ⟨mb, 6, none⟩ = some (.int .u8 shape) := kc hb2 (by assumption)
          have s7 : w2.cell? ⟨mb, 7, none⟩ = some (.int .i64 warm) := kc hb2 (by assumption)
          have s8 : w2.cell? ⟨mb, 8, none⟩ = some (.int .i64 queue) := kc hb2 (by assumption)
          have s9 : w2.cell? ⟨mb, 9, none⟩ = some (.bool clus) := kc hb2 (by assumption)
          have s10 : w2.cell? ⟨mb, 10, none⟩ = some (.int .i64 id_) := kc hb2 (by assumption)
          have s11 : w2.cell? ⟨mb, 11, none⟩ = some (.bool fall) := kc hb2 (by assumption)
          have HB2 := hid (bl HBa.out hb2)
          clear hb2 HBa
          go_wp2_with fail
          refine (HQ.out _).mono ?_
          rintro e w3 ⟨rfl, hb3⟩
          have p0 : w3.cell? ⟨w.heap.size, 0, none⟩ = some (.string res) := kc hb3 (by assumption)
          have p1 : w3.cell? ⟨w.heap.size, 1, none⟩ = some (.string org) := kc hb3 (by assumption)
          have p2 : w3.cell? ⟨w.heap.size, 2, none⟩ = some (.bool thr) := kc hb3 (by assumption)
          have p3 : w3.cell? ⟨w.heap.size, 3, none⟩ = some (.int .i64 cnt) := kc hb3 (by assumption)
          have p4 : w3.cell? ⟨w.heap.size, 4, none⟩ = some (.int .u8 strat) := kc hb3 (by assumption)
          have p5 : w3.cell? ⟨w.heap.size, 5, none⟩ = some (.string ref) := kc hb3 (by assumption)
          have p6 : w3.cell? ⟨w.heap.size, 6, none⟩ = some (.int .u8 shape) := kc hb3 (by assumption)
          have p7 : w3.cell? ⟨w.heap.size, 7, none⟩ = some (.int .i64 warm) := kc hb3 (by assumption)
          have p8 : w3.cell? ⟨w.heap.size, 8, none⟩ = some (.int .i64 queue) := kc hb3 (by assumption)
          have p9 : w3.cell? ⟨w.heap.size, 9, none⟩ = some (.bool clus) := kc hb3 (by assumption)
          have p10 : w3.cell? ⟨w.heap.size, 10, none⟩ = some (.int .i64 id_) := kc hb3 (by assumption)
          have p11 : w3.cell? ⟨w.heap.size, 11, none⟩ = some (.bool fall) := kc hb3 (by assumption)
          have q0 : w3.cell? ⟨w.heap.size + 1, 0, none⟩ = some (.int .i64 xp) := kc hb3 (by assumption)
          have q1 : w3.cell? ⟨w.heap.size + 1, 1, none⟩ = some (.int .i64 xf) := kc hb3 (by assumption)
          have q2 : w3.cell? ⟨w.heap.size + 1, 2, none⟩ = some (.int .i64 xc) := kc hb3 (by assumption)
          have r0 : w3.cell? ⟨w.heap.size + 2, 0, none⟩ = some (.int .i64 yp) := kc hb3 (by assumption)
          have r1 : w3.cell? ⟨w.heap.size + 2, 1, none⟩ = some (.int .i64 yf) := kc hb3 (by assumption)
          have r2 : w3.cell? ⟨w.heap.size + 2, 2, none⟩ = some (.int .i64 yc) := kc hb3 (by assumption)
          have s0 : w3.cell? ⟨mb, 0, none⟩ = some (.string res) := kc hb3 (by assumption)
          have s1 : w3.cell? ⟨mb, 1, none⟩ = some (.string org) := kc hb3 (by assumption)
          have s2 : w3.cell? ⟨mb, 2, none⟩ = some (.bool thr) := kc hb3 (by assumption)
          have s3 : w3.cell? ⟨mb, 3, none⟩ = some (.int .i64 9223372036854775807) := kc hb3 (by assumption)
          have s4 : w3.cell? ⟨mb, 4, none⟩ = some (.int .u8 strat) := kc hb3 (by assumption)
          have s5 : w3.cell? ⟨mb, 5, none⟩ = some (.string ref) := kc hb3 (by assumption)
          have s6 : w3.cell? ⟨mb, 6, none⟩ = some (.int .u8 shape) := kc hb3 (by assumption)
          have s7 : w3.cell? ⟨mb, 7, none⟩ = some (.int .i64 warm) := kc hb3 (by assumption)
          have s8 : w3.cell? ⟨mb, 8, none⟩ = some (.int .i64 queue) := kc hb3 (by assumption)
          have s9 : w3.cell? ⟨mb, 9, none⟩ = some (.bool clus) := kc hb3 (by assumption)
          have s10 : w3.cell? ⟨mb, 10, none⟩ = some (.int .i64 id_) := kc hb3 (by assumption)
          have s11 : w3.cell? ⟨mb, 11, none⟩ = some (.bool fall) := kc hb3 (by assumption)
          have HB3 := hid (bl HB2.out hb3)
          clear hb3 HB2 HQ
          go_wp2_with fail
          refine (HM.out _).mono ?_
          rintro e w4 ⟨rfl, hb4⟩
          have HB4 := hid (bl HB3.out hb4)
          clear hb4 HB3 HM
          go_wp2_with fail
          go_ret
          exact ⟨rfl, HB4.out⟩

theorem main {W : World} (F : Flow) (f1 : F.res.size ≤ maxLen) (f2 : F.org.size ≤ maxLen) (f3 : F.ref.size ≤ maxLen) (f4 : (Lit.int .i64 F.cnt).wf = true) (x y z : Int) (w0 : (Lit.int .i64 x).wf = true) (w1 : (Lit.int .i64 y).wf = true) (w2 : (Lit.int .i64 z).wf = true)
    (x' y' z' : Int) (v0 : (Lit.int .i64 x').wf = true) (v1 : (Lit.int .i64 y').wf = true) (v2 : (Lit.int .i64 z').wf = true) :
    Calls Try.prog 6 #[.agg (fv F), .agg #[.int .i64 x, .int .i64 y, .int .i64 z], .agg #[.int .i64 x', .int .i64 y', .int .i64 z']] W fun e w' => e = .returned (.bool true) ∧ Below W.heap.size W w' := by
  obtain ⟨res, org, thr, cnt, strat, ref, shape, warm, queue, clus, id_, fall⟩ := F
  exact less_core res org thr cnt strat ref shape warm queue clus id_ fall x y z x' y' z' (hid ⟨wf_fits w0, wf_fits w2, wf_fits v0, wf_fits v2, (wf_fits f4).2⟩) W

end Go.Proofs.Ytakmfcnmcjbbgaa.RejJ
