/- BreakerHolds, whatever the breaker is made of. -/
import Derived.Test.YtcmklahbophclaaBreX
import Derived.Test.YtcmklahbophclaaBreB
import Derived.Deep.RegionHeld3
import Derived.Deep.DeepCutAuto
import Derived.BigQuiet
import Derived.Deep.CutBlock
namespace Go.Proofs.Ytcmklahbophclaa.BreH
set_option linter.unusedVariables false
open Go.ChangeShapes Go.WideShapes Go.ChangeAt Go.RowKit Go.Deep Base WinM WinE BreP BreA BreB

theorem kc {w1 w2 : World} {p o : Nat} {v : Value} (h2 : Below w1.heap.size w1 w2) (h : w1.cell? ⟨p, o, none⟩ = some v) : w2.cell? ⟨p, o, none⟩ = some v :=
  (h2.cell (p := ⟨p, o, none⟩) (World.block_lt_of_cell? _ _ h)).trans h
theorem my_bel0 {I : Inv} {w0 w : World} {p : Nat} {B : Bk} (h : My I w0 w p B) : Below w0.heap.size w0 w := by obtain ⟨H, -, -, h⟩ := h; exact h
theorem deed_at {w : World} {a : Option Addr} {n : Nat} {D : Nat → Dd} (h : Deeds w a n D) {k : Nat} (hk : k < n) : ∃ g o, a = some ⟨g, o, none⟩ ∧ g < w.heap.size ∧ ∀ wx, Below w.heap.size w wx → g < wx.heap.size ∧ wx.cell? ⟨g, o + k * 5, none⟩ = some (.int .i64 (D k).kd) ∧ wx.cell? ⟨g, o + k * 5 + 1, none⟩ = some (.int .i64 (D k).t) ∧ wx.cell? ⟨g, o + k * 5 + 2, none⟩ = some (.int .i64 (D k).rt) ∧ wx.cell? ⟨g, o + k * 5 + 3, none⟩ = some (.bool (D k).f) ∧ wx.cell? ⟨g, o + k * 5 + 4, none⟩ = some (.bool (D k).pr) := by
  obtain ⟨g, o, rfl, hg, hc⟩ := h (by omega)
  obtain ⟨c0, c1, c2, c3, c4⟩ := hc k hk
  exact ⟨g, o, rfl, hg, fun wx hb => ⟨Nat.lt_of_lt_of_le hg hb.size, (hb.cell (p := ⟨g, o + k * 5, none⟩) hg).trans c0, (hb.cell (p := ⟨g, o + k * 5 + 1, none⟩) hg).trans c1, (hb.cell (p := ⟨g, o + k * 5 + 2, none⟩) hg).trans c2, (hb.cell (p := ⟨g, o + k * 5 + 3, none⟩) hg).trans c3, (hb.cell (p := ⟨g, o + k * 5 + 4, none⟩) hg).trans c4⟩⟩

theorem Kept.trans {S : List Nat} {w w1 w2 : World} (h : Kept S w w1) (h2 : Kept S w1 w2) : Kept S w w2 := fun s hs => (h2 s hs).trans (h s hs)
def prB (B : Bk) : Int := if B.st = 3 then 1 else 0

theorem enter1 {B : Bk} {t : Int} (h : B.st = 1) (hz : refT B t 0 = 0) : goesB B t = true ∧ (goesB B t && decide (B.st = 2)) = false ∧ enterB B t = { B with last := t.toNat } := by
  unfold goesB enterB passB; simp [h, hz]
theorem enter2t {B : Bk} {t : Int} (h : B.st = 2) (hz : refT B t 0 = 0) (hp : (B.til : Int) ≤ t) : goesB B t = true ∧ (goesB B t && decide (B.st = 2)) = true ∧ enterB B t = { B with last := t.toNat, st := 3 } := by
  unfold goesB enterB passB; simp [h, hz, hp]
theorem enter2f {B : Bk} {t : Int} (h : B.st = 2) (hz : refT B t 0 = 0) (hp : ¬ (B.til : Int) ≤ t) : goesB B t = false ∧ (goesB B t && decide (B.st = 2)) = false ∧ enterB B t = { B with last := t.toNat } := by
  unfold goesB enterB passB; simp [h, hz, hp]
theorem enter3 {B : Bk} {t : Int} (h : B.st = 3) (hz : refT B t 0 = 0) : goesB B t = false ∧ (goesB B t && decide (B.st = 2)) = false ∧ enterB B t = { B with last := t.toNat } := by
  unfold goesB enterB passB; simp [h, hz]
theorem enterN {B : Bk} {t : Int} (hz : ¬ refT B t 0 = 0) : enterB B t = B := by unfold enterB; rw [if_neg hz]
theorem doneN {B : Bk} {t rt : Int} {f pr : Bool} (hz : ¬ refD B t rt pr = 0) : doneB B t rt f pr = B := by unfold doneB; rw [if_neg hz]
theorem giveN {B : Bk} {t : Int} (hz : ¬ refG B t = 0) : giveB B t = B := by unfold giveB; rw [if_neg hz]
theorem giveY {B : Bk} {t : Int} (hz : refG B t = 0) : B.st = 3 ∧ giveB B t = { B with last := t.toNat, st := 2 } := by
  refine ⟨?_, by unfold giveB; rw [if_pos hz]⟩
  unfold refG at hz
  split at hz
  · split at hz
    · simp at hz
    · rename_i h; exact Decidable.byContradiction h
  · rename_i h; exact absurd hz h
theorem doneP {B : Bk} {t rt : Int} {f : Bool} (hz : refD B t rt true = 0) : B.st = 3 ∧ ((doneB B t rt f true).st = 1 ∨ (doneB B t rt f true).st = 2) := by
  refine ⟨(refD_zero hz).2 rfl, ?_⟩
  unfold doneB
  rw [if_pos hz, if_pos rfl]
  split
  · exact .inr rfl
  · exact .inl rfl
theorem doneQ {B : Bk} {t rt : Int} {f : Bool} (hz : refD B t rt false = 0) : (B.st = 1 ∧ ((doneB B t rt f false).st = 1 ∨ ((doneB B t rt f false).st = 2 ∧ (doneB B t rt f false).til = BreP.plusM t B.r.rcv))) ∨ (B.st ≠ 1 ∧ (doneB B t rt f false).st = B.st) := by
  unfold doneB
  rw [if_pos hz, if_neg (by simp)]
  by_cases h : B.st = 1
  · refine .inl ⟨h, ?_⟩
    rw [if_pos h]
    unfold countB
    split
    · exact .inr ⟨rfl, rfl⟩
    · exact .inl h
  · exact .inr ⟨h, by rw [if_neg h]⟩
theorem step_r (B : Bk) (kd t rt : Int) (f pr : Bool) : (stepB B kd t rt f pr).r = B.r := by
  unfold stepB enterB doneB giveB countB tripB
  (repeat' split) <;> rfl
theorem plus_sum {t c : Int} (h1 : 0 ≤ t) (h2 : t ≤ 1152921504606846976) (h3 : 0 ≤ c) (h4 : c ≤ 3600000000) : ((BreP.plusM t c : Nat) : Int) = t + c := by unfold BreP.plusM; omega

set_option maxRecDepth 20000 in
set_option maxHeartbeats 8000000 in
theorem core {I : Inv} {refR : Rule → Int} (A : Api I refR) (nm : ByteArray) (g0 : Nat) (ct sl ls wd_ rc : Int) (hs : nm.size ≤ maxLen) (a : Option Addr) (n cap : Nat) (D : Nat → Dd) (w : World) (hn : n ≤ 4400000000000) (HD : Hid (Deeds w a n D)) :
    Calls Try.prog 4 #[.agg #[.string nm, .int .u8 g0, .int .i64 ct, .int .i64 sl, .int .i64 ls, .int .i64 wd_, .int .i64 rc], .slice a n cap] w fun e w' => e = .returned (.bool true) ∧ Below w.heap.size w w' := by
  have hB0 : Below w.heap.size w (w.alloc (.cells #[.string nm, .int .u8 (g0 : Nat), .int .i64 ct, .int .i64 sl, .int .i64 ls, .int .i64 wd_, .int .i64 rc] 24)) := (Below.refl _ _).alloc (Nat.le_refl _) _
  have hlt0 : w.heap.size < ((w.alloc (.cells #[.string nm, .int .u8 (g0 : Nat), .int .i64 ct, .int .i64 sl, .int .i64 ls, .int .i64 wd_, .int .i64 rc] 24))).heap.size := by simp
  have k0 : (w.alloc (.cells #[.string nm, .int .u8 (g0 : Nat), .int .i64 ct, .int .i64 sl, .int .i64 ls, .int .i64 wd_, .int .i64 rc] 24)).cell? ⟨w.heap.size, 0, none⟩ = some (.string nm) := by go_cell
  have k1 : (w.alloc (.cells #[.string nm, .int .u8 (g0 : Nat), .int .i64 ct, .int .i64 sl, .int .i64 ls, .int .i64 wd_, .int .i64 rc] 24)).cell? ⟨w.heap.size, 1, none⟩ = some (.int .u8 (g0 : Nat)) := by go_cell
  have k2 : (w.alloc (.cells #[.string nm, .int .u8 (g0 : Nat), .int .i64 ct, .int .i64 sl, .int .i64 ls, .int .i64 wd_, .int .i64 rc] 24)).cell? ⟨w.heap.size, 2, none⟩ = some (.int .i64 ct) := by go_cell
  have k3 : (w.alloc (.cells #[.string nm, .int .u8 (g0 : Nat), .int .i64 ct, .int .i64 sl, .int .i64 ls, .int .i64 wd_, .int .i64 rc] 24)).cell? ⟨w.heap.size, 3, none⟩ = some (.int .i64 sl) := by go_cell
  have k4 : (w.alloc (.cells #[.string nm, .int .u8 (g0 : Nat), .int .i64 ct, .int .i64 sl, .int .i64 ls, .int .i64 wd_, .int .i64 rc] 24)).cell? ⟨w.heap.size, 4, none⟩ = some (.int .i64 ls) := by go_cell
  have k5 : (w.alloc (.cells #[.string nm, .int .u8 (g0 : Nat), .int .i64 ct, .int .i64 sl, .int .i64 ls, .int .i64 wd_, .int .i64 rc] 24)).cell? ⟨w.heap.size, 5, none⟩ = some (.int .i64 wd_) := by go_cell
  have k6 : (w.alloc (.cells #[.string nm, .int .u8 (g0 : Nat), .int .i64 ct, .int .i64 sl, .int .i64 ls, .int .i64 wd_, .int .i64 rc] 24)).cell? ⟨w.heap.size, 6, none⟩ = some (.int .i64 rc) := by go_cell
  have HA := hid A
  clear A
  go_enter Try.func4, Try.ntmps4
  go_upto_region 1 with fail
  generalize (w.alloc (.cells #[.string nm, .int .u8 (g0 : Nat), .int .i64 ct, .int .i64 sl, .int .i64 ls, .int .i64 wd_, .int .i64 rc] 24)) = w0 at *
  have HB0 := hid hB0
  have HL0 := hid hlt0
  have HN : Hid (∀ {wx : World}, Below w0.heap.size w0 wx → Calls Try.prog 10 #[.agg #[.string nm, .int .u8 g0, .int .i64 ct, .int .i64 sl, .int .i64 ls, .int .i64 wd_, .int .i64 rc]] wx fun e w' => (∃ p, e = .returned (.tuple #[ptr p, .int .i64 0]) ∧ refR ⟨nm, g0, ct, sl, ls, wd_, rc⟩ = 0 ∧ RuleGood ⟨nm, g0, ct, sl, ls, wd_, rc⟩ ∧ My I w0 w' p (fresh ⟨nm, g0, ct, sl, ls, wd_, rc⟩)) ∨ (refR ⟨nm, g0, ct, sl, ls, wd_, rc⟩ ≠ 0 ∧ e = .returned (.tuple #[.pointer none, .int .i64 (refR ⟨nm, g0, ct, sl, ls, wd_, rc⟩)]) ∧ Below w0.heap.size w0 w')) := hid fun hb => HA.out.new ⟨nm, g0, ct, sl, ls, wd_, rc⟩ hs hb
  generalize hr : refR ⟨nm, g0, ct, sl, ls, wd_, rc⟩ = er at HN
  clear hr hB0 hlt0
  have HK6 := hid k6
  go_wp2_with fail
  refine (HA.out.live_ _).mono ?_
  rintro e w1 ⟨rfl, hb1⟩
  have j0 : w1.cell? ⟨w.heap.size, 0, none⟩ = some (.string nm) := kc hb1 (by assumption)
  have j1 : w1.cell? ⟨w.heap.size, 1, none⟩ = some (.int .u8 (g0 : Nat)) := kc hb1 (by assumption)
  have j2 : w1.cell? ⟨w.heap.size, 2, none⟩ = some (.int .i64 ct) := kc hb1 (by assumption)
  have j3 : w1.cell? ⟨w.heap.size, 3, none⟩ = some (.int .i64 sl) := kc hb1 (by assumption)
  have j4 : w1.cell? ⟨w.heap.size, 4, none⟩ = some (.int .i64 ls) := kc hb1 (by assumption)
  have j5 : w1.cell? ⟨w.heap.size, 5, none⟩ = some (.int .i64 wd_) := kc hb1 (by assumption)
  have j6 : w1.cell? ⟨w.heap.size, 6, none⟩ = some (.int .i64 rc) := kc hb1 (by assumption)
  have HB1 := hid hb1
  clear hb1 k0 k1 k2 k3 k4 k5 k6
  go_wp2_with fail
  refine (HN.out HB1.out).mono ?_
  rintro e w2 (⟨p, rfl, h0, h1, hm⟩ | ⟨h0, rfl, hb2⟩)
  rotate_left
  · have HB2 : Hid (Below w.heap.size w w2) := hid (HB0.out.trans (hb2.mono HB0.out.size))
    have hne : (er != 0) = true := by simpa using h0
    clear h0 hb2 HN j0 j1 j2 j3 j4 j5 j6
    go_wp2_with fail
    go_ret
    exact ⟨rfl, HB2.out⟩
  have HM := hid hm
  have HRC : Hid (0 ≤ rc ∧ rc ≤ 3600000000) := hid ⟨h1.rcv0, h1.rcv1⟩
  clear h0 h1 hm HN HB1 j0 j1 j2 j3 j4 j5 j6
  go_wp2_with fail
  go_loopw [7, 8] (fun pv i wr => ∃ (k : Nat) (B : Bk), pv = .int .i64 (prB B) ∧ i = .int .i64 k ∧ k ≤ n ∧ B.n ≤ k ∧ B.r.rcv = rc ∧ My I w0 wr p B) (fun _ i _ => n - (intOf i).toNat)
  case atStart => exact ⟨0, _, rfl, rfl, Nat.zero_le _, Nat.le_refl _, rfl, HM.out⟩
  case round =>
    obtain ⟨k, B, rfl, rfl, hk, htr, hrc, hmy⟩ := hrel
    have HMk := hid hmy
    have HT := hid htr
    have HRR := hid hrc
    clear hmy htr hrc HM
    by_cases hlt : k < n
    · have hki : (k : Int) < n := by omega
      have hki0 : (0 : Int) ≤ k := by omega
      obtain ⟨g, o, rfl, hg, hx⟩ := deed_at HD.out hlt
      have HX := hid hx
      clear hx
      generalize (D k).kd = kd at *
      generalize (D k).t = t at *
      generalize (D k).rt = rt at *
      generalize (D k).f = f at *
      generalize (D k).pr = pr at *
      obtain ⟨hgr, x0, x1, x2, x3, x4⟩ := HX.out wr (HB0.out.trans ((my_bel HMk.out).mono HB0.out.size))
      have HTR := hid (n_le B kd t rt f pr)
      have HSR := hid (step_r B kd t rt f pr)
      have HSB := hid (boxS HA.out HMk.out (.cells #[.int .i64 kd, .int .i64 t, .int .i64 rt, .bool f, .bool pr] 42))
      have y0 : (wr.alloc (.cells #[.int .i64 kd, .int .i64 t, .int .i64 rt, .bool f, .bool pr] 42)).cell? ⟨wr.heap.size, 0, none⟩ = some (.int .i64 kd) := by go_cell
      have y1 : (wr.alloc (.cells #[.int .i64 kd, .int .i64 t, .int .i64 rt, .bool f, .bool pr] 42)).cell? ⟨wr.heap.size, 1, none⟩ = some (.int .i64 t) := by go_cell
      have y2 : (wr.alloc (.cells #[.int .i64 kd, .int .i64 t, .int .i64 rt, .bool f, .bool pr] 42)).cell? ⟨wr.heap.size, 2, none⟩ = some (.int .i64 rt) := by go_cell
      have y3 : (wr.alloc (.cells #[.int .i64 kd, .int .i64 t, .int .i64 rt, .bool f, .bool pr] 42)).cell? ⟨wr.heap.size, 3, none⟩ = some (.bool f) := by go_cell
      have y4 : (wr.alloc (.cells #[.int .i64 kd, .int .i64 t, .int .i64 rt, .bool f, .bool pr] 42)).cell? ⟨wr.heap.size, 4, none⟩ = some (.bool pr) := by go_cell
      go_upto_region 11 with fail
      clear x0 x1 x2 x3 x4 HX hgr
      generalize (wr.alloc (.cells #[.int .i64 kd, .int .i64 t, .int .i64 rt, .bool f, .bool pr] 42)) = wd at *
      generalize wr.heap.size = db at *
      have HY : Hid (∀ wx, Kept [db] wd wx → wx.cell? ⟨db, 0, none⟩ = some (.int .i64 kd) ∧ wx.cell? ⟨db, 1, none⟩ = some (.int .i64 t) ∧ wx.cell? ⟨db, 2, none⟩ = some (.int .i64 rt) ∧ wx.cell? ⟨db, 3, none⟩ = some (.bool f) ∧ wx.cell? ⟨db, 4, none⟩ = some (.bool pr)) := hid fun wx h => ⟨h.cell (by simp) y0, h.cell (by simp) y1, h.cell (by simp) y2, h.cell (by simp) y3, h.cell (by simp) y4⟩
      clear y0 y1 y2 y3 y4
      obtain ⟨s0, hs0⟩ : ∃ s0 : Int, ((B.st : Nat) : Int) = s0 := ⟨_, rfl⟩
      obtain ⟨u0, hu0⟩ : ∃ u : Int, ((if B.st = 1 then 0 else B.til : Nat) : Int) = u := ⟨_, rfl⟩
      obtain ⟨b0, hb0⟩ : ∃ u : Bool, decide (B.st ≠ 1) = u := ⟨_, rfl⟩
      obtain ⟨pv, hpv⟩ : ∃ u : Int, prB B = u := ⟨_, rfl⟩
      have HS0 := hid (And.intro hs0 (And.intro hu0 (And.intro hb0 hpv)))
      rw [hpv]
      clear hs0 hu0 hb0 hpv
      go_wp2_with fail
      refine (stateS HA.out s0 HS0.out.1 HSB.out).mono ?_
      rintro e w4 ⟨rfl, hm, hkp⟩
      have HM4 := hid hm
      have HK4 := hid hkp
      clear hm hkp HSB HMk
      go_wp2_with fail
      refine (untilS HA.out u0 b0 HS0.out.2.1 HS0.out.2.2.1 HM4.out).mono ?_
      rintro e w5 ⟨rfl, hm, hkp⟩
      have HM5 := hid hm
      have HK5 := hid (Kept.trans HK4.out hkp)
      clear hm hkp HM4 HK4
      obtain ⟨x0, x1, x2, x3, x4⟩ := HY.out w5 HK5.out
      go_upto_block 2 with fail
      go_cut [7] (fun s7 wx => ∃ B' : Bk, s7 = .int .i64 (prB B') ∧ B'.r = B.r ∧ B'.n ≤ k + 1 ∧ MyS I w0 wx [db] p B' ∧ Kept [db] wd wx ∧ (B.st = 1 → B'.st = 1 ∨ (B'.st = 2 ∧ (B'.til : Int) = t + rc ∧ 0 ≤ t ∧ t ≤ 1152921504606846976)))
      case first =>
        by_cases h0 : kd = 0
        · subst h0
          by_cases hz : refT B t 0 = 0
          · rcases (HA.out.myOk HM5.out.my).st with hst | hst | hst
            · obtain rfl : s0 = 1 := by have := HS0.out.1; omega
              obtain rfl : pv = 0 := by rw [← HS0.out.2.2.2]; unfold prB; simp [hst]
              obtain ⟨e1, e2, e3⟩ := enter1 hst hz
              go_wp2_with fail
              refine (enterS HA.out t _ _ _ e1 e2 hz e3 HM5.out).mono ?_
              rintro e w6 ⟨rfl, hm, hkp⟩
              have HM6 := hid hm
              have HK6' := hid (Kept.trans HK5.out hkp)
              obtain ⟨z0, z1, z2, z3, z4⟩ := HY.out w6 HK6'.out
              clear hm hkp x0 x1 x2 x3 x4 e1 e2 e3 HM5
              go_wp2_with fail
              go_meet
              exact ⟨{ B with last := t.toNat }, by first | rfl | (unfold prB; simp [hst]), rfl, by have := HT.out; show B.n ≤ k + 1; omega, HM6.out, HK6'.out, fun h => .inl h⟩
            · obtain rfl : s0 = 2 := by have := HS0.out.1; omega
              obtain rfl : pv = 0 := by rw [← HS0.out.2.2.2]; unfold prB; simp [hst]
              have hu : ((B.til : Nat) : Int) = u0 := by have := HS0.out.2.1; simpa [hst] using this
              by_cases hp : (B.til : Int) ≤ t
              · have hd : decide (u0 ≤ t) = true := decide_eq_true (by omega)
                obtain ⟨e1, e2, e3⟩ := enter2t hst hz hp
                go_wp2_with fail
                refine (enterS HA.out t _ _ _ e1 e2 hz e3 HM5.out).mono ?_
                rintro e w6 ⟨rfl, hm, hkp⟩
                have HM6 := hid hm
                have HK6' := hid (Kept.trans HK5.out hkp)
                obtain ⟨z0, z1, z2, z3, z4⟩ := HY.out w6 HK6'.out
                clear hm hkp x0 x1 x2 x3 x4 e1 e2 e3 HM5
                go_wp2_with fail
                go_meet
                exact ⟨{ B with last := t.toNat, st := 3 }, by first | rfl | (unfold prB; simp [hst]), rfl, by have := HT.out; show B.n ≤ k + 1; omega, HM6.out, HK6'.out, fun h => absurd h (by omega)⟩
              · have hd : decide (u0 ≤ t) = false := decide_eq_false (by omega)
                obtain ⟨e1, e2, e3⟩ := enter2f hst hz hp
                go_wp2_with fail
                refine (enterS HA.out t _ _ _ e1 e2 hz e3 HM5.out).mono ?_
                rintro e w6 ⟨rfl, hm, hkp⟩
                have HM6 := hid hm
                have HK6' := hid (Kept.trans HK5.out hkp)
                obtain ⟨z0, z1, z2, z3, z4⟩ := HY.out w6 HK6'.out
                clear hm hkp x0 x1 x2 x3 x4 e1 e2 e3 HM5
                go_wp2_with fail
                go_meet
                exact ⟨{ B with last := t.toNat }, by first | rfl | (unfold prB; simp [hst]), rfl, by have := HT.out; show B.n ≤ k + 1; omega, HM6.out, HK6'.out, fun h => absurd h (by omega)⟩
            · obtain rfl : s0 = 3 := by have := HS0.out.1; omega
              obtain rfl : pv = 1 := by rw [← HS0.out.2.2.2]; unfold prB; simp [hst]
              obtain ⟨e1, e2, e3⟩ := enter3 hst hz
              go_wp2_with fail
              refine (enterS HA.out t _ _ _ e1 e2 hz e3 HM5.out).mono ?_
              rintro e w6 ⟨rfl, hm, hkp⟩
              have HM6 := hid hm
              have HK6' := hid (Kept.trans HK5.out hkp)
              obtain ⟨z0, z1, z2, z3, z4⟩ := HY.out w6 HK6'.out
              clear hm hkp x0 x1 x2 x3 x4 e1 e2 e3 HM5
              go_wp2_with fail
              go_meet
              exact ⟨{ B with last := t.toNat }, by first | rfl | (unfold prB; simp [hst]), rfl, by have := HT.out; show B.n ≤ k + 1; omega, HM6.out, HK6'.out, fun h => absurd h (by omega)⟩
          · have hne : (refT B t 0 != 0) = true := by simpa using hz
            generalize hx : goesB B t = q1 at *
            have HEN := hid (enterS HA.out t q1 _ _ hx rfl rfl (enterN hz) HM5.out)
            rw [hx] at HEN
            generalize refT B t 0 = er2 at *
            generalize (q1 && decide (B.st = 2)) = q2 at *
            clear hz hx
            go_wp2_with fail
            refine HEN.out.mono ?_
            rintro e w6 ⟨rfl, hm, hkp⟩
            have HM6 := hid hm
            clear hm hkp x0 x1 x2 x3 x4 HEN HM5
            go_wp2_with fail
            exact ⟨⟨k + 1, B, by rw [HS0.out.2.2.2], by go_num, by omega, by have := HT.out; omega, HRR.out, HM6.out.my⟩, by simp [intOf]; omega⟩
        · have e0 : (kd == 0) = false := by simpa using h0
          by_cases h1 : kd = 1
          · subst h1
            have hstp : stepB B 1 t rt f pr = doneB B t rt f pr := by unfold stepB; rw [if_neg (by decide), if_pos rfl]
            rw [hstp] at HTR HSR
            clear e0 h0 hstp
            by_cases hz : refD B t rt pr = 0
            · obtain ⟨B', hB'⟩ : ∃ B', doneB B t rt f pr = B' := ⟨_, rfl⟩
              rw [hB'] at HTR HSR
              cases pr
              · have hq := doneQ (f := f) hz
                rw [hB'] at hq
                have HQ := hid hq
                have HTZ := hid (refT_zero (refD_zero hz).1)
                have HD1 := hid (doneS HA.out t rt f false 0 hz hB' HM5.out (by have := HTR.out; have := HT.out; omega))
                clear hq hz hB'
                go_wp2_with fail
                refine HD1.out.mono ?_
                rintro e w6 ⟨rfl, hm, hkp⟩
                clear HD1
                have HM6 := hid hm
                have HK6' := hid (Kept.trans HK5.out hkp)
                obtain ⟨z0, z1, z2, z3, z4⟩ := HY.out w6 HK6'.out
                clear hm hkp x0 x1 x2 x3 x4 HM5
                go_wp2_with fail
                go_meet
                refine ⟨B', ?_, HSR.out, by have := HTR.out; have := HT.out; omega, HM6.out, HK6'.out, fun h => ?_⟩
                · rw [← HS0.out.2.2.2]
                  unfold prB
                  rcases HQ.out with ⟨a1, a2 | ⟨a2, -⟩⟩ | ⟨a1, a2⟩ <;> simp [a1, a2]
                · rcases HQ.out with ⟨a1, a2 | ⟨a2, a3⟩⟩ | ⟨a1, a2⟩
                  · exact .inl a2
                  · obtain ⟨b1, b2, -⟩ := HTZ.out
                    refine .inr ⟨a2, ?_, b1, b2⟩
                    rw [a3, HRR.out]
                    exact plus_sum b1 b2 HRC.out.1 HRC.out.2
                  · exact absurd h a1
              · obtain ⟨hst, hq⟩ := doneP (f := f) hz
                rw [hB'] at hq
                have HQ := hid hq
                obtain rfl : pv = 1 := by rw [← HS0.out.2.2.2]; unfold prB; simp [hst]
                have HD1 := hid (doneS HA.out t rt f true 0 hz hB' HM5.out (by have := HTR.out; have := HT.out; omega))
                clear hq hz hB'
                go_wp2_with fail
                refine HD1.out.mono ?_
                rintro e w6 ⟨rfl, hm, hkp⟩
                clear HD1
                have HM6 := hid hm
                have HK6' := hid (Kept.trans HK5.out hkp)
                obtain ⟨z0, z1, z2, z3, z4⟩ := HY.out w6 HK6'.out
                clear hm hkp x0 x1 x2 x3 x4 HM5
                go_wp2_with fail
                go_meet
                exact ⟨B', by unfold prB; rcases HQ.out with a | a <;> simp [a], HSR.out, by have := HTR.out; have := HT.out; omega, HM6.out, HK6'.out, fun h => absurd h (by omega)⟩
            · have hne : (refD B t rt pr == 0) = false := by simpa using hz
              have HD1 := hid (doneS HA.out t rt f pr _ rfl (doneN hz) HM5.out (by have := HT.out; omega))
              generalize refD B t rt pr = er2 at *
              clear hz
              go_wp2_with fail
              refine HD1.out.mono ?_
              rintro e w6 ⟨rfl, hm, hkp⟩
              clear HD1
              have HM6 := hid hm
              have HK6' := hid (Kept.trans HK5.out hkp)
              obtain ⟨z0, z1, z2, z3, z4⟩ := HY.out w6 HK6'.out
              clear hm hkp x0 x1 x2 x3 x4 HM5
              go_wp2_with fail
              go_meet
              exact ⟨B, by rw [HS0.out.2.2.2], rfl, by have := HT.out; omega, HM6.out, HK6'.out, fun h => .inl h⟩
          · have e1 : (kd == 1) = false := by simpa using h1
            by_cases h2 : kd = 2
            · subst h2
              clear e0 e1 h0 h1
              by_cases hz : refG B t = 0
              · obtain ⟨hst, hB'⟩ := giveY hz
                obtain rfl : pv = 1 := by rw [← HS0.out.2.2.2]; unfold prB; simp [hst]
                have HD1 := hid (giveS HA.out t 0 hz hB' HM5.out)
                clear hz hB'
                go_wp2_with fail
                refine HD1.out.mono ?_
                rintro e w6 ⟨rfl, hm, hkp⟩
                clear HD1
                have HM6 := hid hm
                have HK6' := hid (Kept.trans HK5.out hkp)
                obtain ⟨z0, z1, z2, z3, z4⟩ := HY.out w6 HK6'.out
                clear hm hkp x0 x1 x2 x3 x4 HM5
                go_wp2_with fail
                go_meet
                exact ⟨{ B with last := t.toNat, st := 2 }, rfl, rfl, by have := HT.out; show B.n ≤ k + 1; omega, HM6.out, HK6'.out, fun h => absurd h (by omega)⟩
              · have hne : (refG B t == 0) = false := by simpa using hz
                have HD1 := hid (giveS HA.out t _ rfl (giveN hz) HM5.out)
                generalize refG B t = er2 at *
                clear hz
                go_wp2_with fail
                refine HD1.out.mono ?_
                rintro e w6 ⟨rfl, hm, hkp⟩
                clear HD1
                have HM6 := hid hm
                have HK6' := hid (Kept.trans HK5.out hkp)
                obtain ⟨z0, z1, z2, z3, z4⟩ := HY.out w6 HK6'.out
                clear hm hkp x0 x1 x2 x3 x4 HM5
                go_wp2_with fail
                go_meet
                exact ⟨B, by rw [HS0.out.2.2.2], rfl, by have := HT.out; omega, HM6.out, HK6'.out, fun h => .inl h⟩
            · have e2 : (kd == 2) = false := by simpa using h2
              clear h0 h1 h2
              have HM6 := HM5
              have HK6' := HK5
              go_wp2_with fail
              go_meet
              exact ⟨B, by rw [HS0.out.2.2.2], rfl, by have := HT.out; omega, HM6.out, HK6'.out, fun h => .inl h⟩
      case rest =>
        obtain ⟨B', rfl, hr', htr', hm, hkp, himp⟩ := hcut
        have HRR' := hid ((congrArg Rule.rcv hr').trans HRR.out)
        have HM6 := hid hm
        have HK6' := hid hkp
        have HIM := hid himp
        clear hr' hm hkp himp HM5 HK5 x0 x1 x2 x3 x4
        obtain ⟨pv', hpv'⟩ : ∃ u : Int, prB B' = u := ⟨_, rfl⟩
        obtain ⟨s1, hs1⟩ : ∃ s0 : Int, ((B'.st : Nat) : Int) = s0 := ⟨_, rfl⟩
        obtain ⟨u1, hu1⟩ : ∃ u : Int, ((if B'.st = 1 then 0 else B'.til : Nat) : Int) = u := ⟨_, rfl⟩
        obtain ⟨b1, hb1⟩ : ∃ u : Bool, decide (B'.st ≠ 1) = u := ⟨_, rfl⟩
        rw [hpv']
        have hP : pv' = 0 ∧ s1 ≠ 3 ∨ pv' = 1 ∧ s1 = 3 := by
          rw [← hpv', ← hs1]
          unfold prB
          by_cases h : B'.st = 3
          · rw [if_pos h]; exact .inr ⟨rfl, by omega⟩
          · rw [if_neg h]; exact .inl ⟨rfl, by omega⟩
        have d1 : decide (pv' < 0) = false := decide_eq_false (by omega)
        have d2 : decide (1 < pv') = false := decide_eq_false (by omega)
        obtain ⟨bb, hbb⟩ : ∃ u : Bool, (pv' == 1) = u := ⟨_, rfl⟩
        have hbb2 : (s1 == 3) = bb := by rw [← hbb]; rcases hP with ⟨a, b⟩ | ⟨a, b⟩ <;> simp [a, b]
        have hbb3 : (bb != bb) = false := by cases bb <;> rfl
        have HPV := hid hpv'
        have HS1 := hid (And.intro hs1 (And.intro hu1 hb1))
        clear hpv' hs1 hu1 hb1 hP
        go_wp2_with fail
        refine (stateS HA.out s1 HS1.out.1 HM6.out).mono ?_
        rintro e w7 ⟨rfl, hm, hkp⟩
        have HM7 := hid hm
        have HK7 := hid (Kept.trans HK6'.out hkp)
        clear hm hkp HM6 HK6'
        go_wp2_with fail
        refine (untilS HA.out u1 b1 HS1.out.2.1 HS1.out.2.2 HM7.out).mono ?_
        rintro e w8 ⟨rfl, hm, hkp⟩
        have HM8 := hid hm
        have HK8 := hid (Kept.trans HK7.out hkp)
        clear hm hkp HM7 HK7 d1 d2 hbb hbb2 hbb3
        go_wp2_with fail
        refine (stateS HA.out s1 HS1.out.1 HM8.out).mono ?_
        rintro e w9 ⟨rfl, hm, hkp⟩
        have HM9 := hid hm
        have HK9 := hid (Kept.trans HK8.out hkp)
        clear hm hkp HM8 HK8
        by_cases c1 : B'.st = 1
        · obtain rfl : s1 = 1 := by have := HS1.out.1; omega
          clear c1
          go_wp2_with fail
          exact ⟨⟨k + 1, B', by rw [HPV.out], by go_num, by omega, htr', HRR'.out, HM9.out.my⟩, by simp [intOf]; omega⟩
        · have z1n : ¬ s1 = 1 := by have := HS1.out.1; omega
          have z1 : (s1 == 1) = false := by simpa using z1n
          have z1b : (s1 != 1) = true := by simpa using z1n
          by_cases c2 : B.st = 1
          · obtain rfl : s0 = 1 := by have := HS0.out.1; omega
            obtain ⟨h2, h3, h4, h5⟩ := (HIM.out c2).resolve_left c1
            obtain rfl : u1 = t + rc := by rw [← HS1.out.2.1, if_neg c1]; exact h3
            obtain rfl : b1 = true := by rw [← HS1.out.2.2]; exact decide_eq_true c1
            obtain ⟨x0, x1, x2, x3, x4⟩ := HY.out w9 HK9.out
            have x6 : w9.cell? ⟨w.heap.size, 6, none⟩ = some (.int .i64 rc) := (HM9.out.bel.cell (p := ⟨w.heap.size, 6, none⟩) HL0.out).trans HK6.out
            have q1 : wrap64 (4611686018427387904 - t) = 4611686018427387904 - t := by unfold wrap64; omega
            have q2 : decide (4611686018427387904 - t < rc) = false := decide_eq_false (by have := HRC.out; omega)
            have q3 : wrap64 (t + rc) = t + rc := by have := HRC.out; unfold wrap64; omega
            have HPL := hid (plus_ref t rc (t + rc) q1 q2 q3 w9)
            have q4 : (t + rc == t + rc) = true := by simp
            clear c1 c2 h2 h3 h4 h5 q1 q2 q3
            generalize t + rc = tr at *
            go_wp2_with fail
            refine HPL.out.mono ?_
            rintro e w10 ⟨rfl, rfl⟩
            go_wp2_with fail
            exact ⟨⟨k + 1, B', by rw [HPV.out], by go_num, by omega, htr', HRR'.out, HM9.out.my⟩, by simp [intOf]; omega⟩
          · have z2n : ¬ s0 = 1 := by have := HS0.out.1; omega
            have z2 : (s0 == 1) = false := by simpa using z2n
            clear c1 c2
            go_wp2_with fail
            exact ⟨⟨k + 1, B', by rw [HPV.out], by go_num, by omega, htr', HRR'.out, HM9.out.my⟩, by simp [intOf]; omega⟩
    · obtain rfl : k = n := by omega
      go_wp2_with fail
      go_ret
      exact ⟨rfl, HB0.out.trans ((my_bel HMk.out).mono HB0.out.size)⟩

end Go.Proofs.Ytcmklahbophclaa.BreH
