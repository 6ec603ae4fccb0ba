/- BreakerEnds, whatever the breaker is made of. -/
import Derived.Test.YtcmklahbophclaaBreX
import Derived.Deep.RegionHeld3
import Derived.Deep.DeepCutAuto
import Derived.BigQuiet
namespace Go.Proofs.Ytcmklahbophclaa.BreE
set_option linter.unusedVariables false
open Go.ChangeShapes Go.WideShapes Go.ChangeAt Go.RowKit Go.Deep Base WinM WinE BreP BreA

theorem kc {w1 w2 : World} {p o : Nat} {v : Value} (h2 : Below w1.heap.size w1 w2) (h : w1.cell? ⟨p, o, none⟩ = some v) : w2.cell? ⟨p, o, none⟩ = some v :=
  (h2.cell (p := ⟨p, o, none⟩) (World.block_lt_of_cell? _ _ h)).trans h
theorem my_bel {I : Inv} {w0 w : World} {p : Nat} {B : Bk} (h : My I w0 w p B) : Below w0.heap.size w0 w := by obtain ⟨H, -, -, h⟩ := h; exact h
theorem deed_at {w : World} {a : Option Addr} {n : Nat} {D : Nat → Dd} (h : Deeds w a n D) {k : Nat} (hk : k < n) : ∃ g o, a = some ⟨g, o, none⟩ ∧ g < w.heap.size ∧ ∀ wx, Below w.heap.size w wx → g < wx.heap.size ∧ wx.cell? ⟨g, o + k * 5, none⟩ = some (.int .i64 (D k).kd) ∧ wx.cell? ⟨g, o + k * 5 + 1, none⟩ = some (.int .i64 (D k).t) ∧ wx.cell? ⟨g, o + k * 5 + 2, none⟩ = some (.int .i64 (D k).rt) ∧ wx.cell? ⟨g, o + k * 5 + 3, none⟩ = some (.bool (D k).f) ∧ wx.cell? ⟨g, o + k * 5 + 4, none⟩ = some (.bool (D k).pr) := by
  obtain ⟨g, o, rfl, hg, hc⟩ := h (by omega)
  obtain ⟨c0, c1, c2, c3, c4⟩ := hc k hk
  exact ⟨g, o, rfl, hg, fun wx hb => ⟨Nat.lt_of_lt_of_le hg hb.size, (hb.cell (p := ⟨g, o + k * 5, none⟩) hg).trans c0, (hb.cell (p := ⟨g, o + k * 5 + 1, none⟩) hg).trans c1, (hb.cell (p := ⟨g, o + k * 5 + 2, none⟩) hg).trans c2, (hb.cell (p := ⟨g, o + k * 5 + 3, none⟩) hg).trans c3, (hb.cell (p := ⟨g, o + k * 5 + 4, none⟩) hg).trans c4⟩⟩

set_option maxRecDepth 20000 in
set_option maxHeartbeats 4000000 in
theorem core {I : Inv} {refR : Rule → Int} (A : Api I refR) (nm : ByteArray) (g0 : Nat) (ct sl ls wd rc : Int) (hs : nm.size ≤ maxLen) (a : Option Addr) (n cap : Nat) (D : Nat → Dd) (a2 : Option Addr) (n2 cap2 : Nat) (D2 : Nat → Dd) (w : World) (hn : n ≤ 4400000000000) (hn2 : n2 ≤ 4400000000000) (HD : Hid (Deeds w a n D)) (HD2 : Hid (Deeds w a2 n2 D2)) :
    Calls Try.prog 5 #[.agg #[.string nm, .int .u8 g0, .int .i64 ct, .int .i64 sl, .int .i64 ls, .int .i64 wd, .int .i64 rc], .slice a n cap, .slice a2 n2 cap2] w fun e w' => e = .returned (.bool true) ∧ Below w.heap.size w w' := by
  have HN : Hid (∀ {wx : World}, Below w.heap.size w wx → Calls Try.prog 10 #[.agg #[.string nm, .int .u8 g0, .int .i64 ct, .int .i64 sl, .int .i64 ls, .int .i64 wd, .int .i64 rc]] wx fun e w' => (∃ p, e = .returned (.tuple #[ptr p, .int .i64 0]) ∧ refR ⟨nm, g0, ct, sl, ls, wd, rc⟩ = 0 ∧ RuleGood ⟨nm, g0, ct, sl, ls, wd, rc⟩ ∧ My I w w' p (fresh ⟨nm, g0, ct, sl, ls, wd, rc⟩)) ∨ (refR ⟨nm, g0, ct, sl, ls, wd, rc⟩ ≠ 0 ∧ e = .returned (.tuple #[.pointer none, .int .i64 (refR ⟨nm, g0, ct, sl, ls, wd, rc⟩)]) ∧ Below w.heap.size w w')) := hid fun hb => A.new ⟨nm, g0, ct, sl, ls, wd, rc⟩ hs hb
  have HA := hid A
  clear A
  generalize hr : refR ⟨nm, g0, ct, sl, ls, wd, rc⟩ = er at HN
  clear hr
  go_enter Try.func5, Try.ntmps5
  go_wp2_with fail
  refine (HA.out.live_ _).mono ?_
  rintro e w1 ⟨rfl, hb1⟩
  have k0 : w1.cell? ⟨w.heap.size, 0, none⟩ = some (.string nm) := kc hb1 (by go_cell)
  have k1 : w1.cell? ⟨w.heap.size, 1, none⟩ = some (.int .u8 (g0 : Nat)) := kc hb1 (by go_cell)
  have k2 : w1.cell? ⟨w.heap.size, 2, none⟩ = some (.int .i64 ct) := kc hb1 (by go_cell)
  have k3 : w1.cell? ⟨w.heap.size, 3, none⟩ = some (.int .i64 sl) := kc hb1 (by go_cell)
  have k4 : w1.cell? ⟨w.heap.size, 4, none⟩ = some (.int .i64 ls) := kc hb1 (by go_cell)
  have k5 : w1.cell? ⟨w.heap.size, 5, none⟩ = some (.int .i64 wd) := kc hb1 (by go_cell)
  have k6 : w1.cell? ⟨w.heap.size, 6, none⟩ = some (.int .i64 rc) := kc hb1 (by go_cell)
  have HB1 : Hid (Below w.heap.size w w1) := hid (((Below.refl _ _).alloc (Nat.le_refl _) _).trans (hb1.mono (by simp)))
  clear hb1
  go_wp2_with fail
  refine (HN.out HB1.out).mono ?_
  rintro e w2 (⟨p, rfl, h0, h1, hm⟩ | ⟨h0, rfl, hb2⟩)
  rotate_left
  · have HB2 := hid hb2
    have hne : (er != 0) = true := by simpa using h0
    clear h0 hb2 HN k0 k1 k2 k3 k4 k5 k6
    go_wp2_with fail
    go_ret
    exact ⟨rfl, HB2.out⟩
  have HM := hid hm
  clear h0 h1 hm HN HB1 k0 k1 k2 k3 k4 k5 k6
  go_wp2_with fail
  go_loopw [9] (fun i wr => ∃ (k : Nat) (B : Bk), i = .int .i64 k ∧ k ≤ n ∧ B.n ≤ k ∧ My I w wr p B) (fun i _ => n - (intOf i).toNat)
  case atStart => exact ⟨0, _, rfl, Nat.zero_le _, Nat.le_refl _, HM.out⟩
  case round =>
    obtain ⟨k, B, rfl, hk, htr, hmy⟩ := hrel
    have HMk := hid hmy
    have HT := hid htr
    clear hmy htr HM
    by_cases hlt : k < n
    · have hki : (k : Int) < n := by omega
      have hki0 : (0 : Int) ≤ k := by omega
      obtain ⟨g, o, rfl, hg, hx⟩ := deed_at HD.out hlt
      have HX := hid hx
      clear hx
      generalize (D k).kd = kd at *
      generalize (D k).t = t at *
      generalize (D k).rt = rt at *
      generalize (D k).f = f at *
      generalize (D k).pr = pr at *
      obtain ⟨hgr, x0, x1, x2, x3, x4⟩ := HX.out wr (my_bel HMk.out)
      have HTR := hid (n_le B kd t rt f pr)
      have HST : Hid (stepB B kd t rt f pr = if kd = 0 then enterB B t else if kd = 1 then doneB B t rt f pr else if kd = 2 then giveB B t else B) := hid rfl
      by_cases h0 : kd = 0
      · subst h0
        rw [if_pos rfl] at HST
        go_wp2_with fail
        refine (HA.out.enter t HMk.out).mono ?_
        rintro e w4 ⟨rfl, hm⟩
        have HM4 := hid hm
        clear hm HMk x0 x1 x2 x3 x4
        generalize goesB B t = q1 at *
        generalize refT B t 0 = q2 at *
        go_wp2_with fail
        go_roundw
        case rel => exact ⟨k + 1, _, by go_num, by omega, by have := HTR.out.2; rw [HST.out] at this; have := HT.out; omega, HM4.out⟩
        case measure => simp [intOf]; omega
      · rw [if_neg h0] at HST
        have e0 : (kd == 0) = false := by simpa using h0
        by_cases h1 : kd = 1
        · subst h1
          rw [if_pos rfl] at HST
          have HC := hid (HA.out.done t rt f pr (HA.out.below HMk.out (Below.drew (Below.refl _ wr))) (by have := HTR.out.2; rw [HST.out] at this; have := HT.out; omega))
          clear e0 h0
          go_upto_region 13 with fail
          go_region_held3 (fun w' => w'.cell? ⟨g, o + k * 5 + 1, none⟩ = some (.int .i64 t) ∧ w'.cell? ⟨g, o + k * 5 + 2, none⟩ = some (.int .i64 rt) ∧ w'.cell? ⟨g, o + k * 5 + 3, none⟩ = some (.bool f) ∧ w'.cell? ⟨g, o + k * 5 + 4, none⟩ = some (.bool pr)) (first | assumption | go_keep)
            (first | (go_at_call 18; refine HC.out.mono ?_; rintro e w4 ⟨rfl, hm⟩
                      have HM4 := hid hm
                      obtain ⟨hgr4, y0, y1, y2, y3, y4⟩ := HX.out w4 (my_bel hm)
                      clear hm))
          all_goals
            go_wp2_with fail
            go_roundw
            case rel => exact ⟨k + 1, _, by go_num, by omega, by have := HTR.out.2; rw [HST.out] at this; have := HT.out; omega, HM4.out⟩
            case measure => simp [intOf]; omega
        · rw [if_neg h1] at HST
          have e1 : (kd == 1) = false := by simpa using h1
          by_cases h2 : kd = 2
          · subst h2
            rw [if_pos rfl] at HST
            clear e0 e1 h0 h1
            go_wp2_with fail
            refine (HA.out.give t HMk.out).mono ?_
            rintro e w4 ⟨rfl, hm⟩
            have HM4 := hid hm
            clear hm HMk x0 x1 x2 x3 x4
            generalize refG B t = q2 at *
            go_wp2_with fail
            go_roundw
            case rel => exact ⟨k + 1, _, by go_num, by omega, by have := HTR.out.2; rw [HST.out] at this; have := HT.out; omega, HM4.out⟩
            case measure => simp [intOf]; omega
          · have e2 : (kd == 2) = false := by simpa using h2
            clear h0 h1 h2
            go_wp2_with fail
            go_roundw
            case rel => exact ⟨k + 1, B, by go_num, by omega, by have := HT.out; omega, HMk.out⟩
            case measure => simp [intOf]; omega
    · obtain rfl : k = n := by omega
      obtain ⟨u, hu⟩ : ∃ u : Int, ((if B.st = 1 then 0 else B.til : Nat) : Int) = u := ⟨_, rfl⟩
      obtain ⟨ub, hub⟩ : ∃ u : Bool, decide (B.st ≠ 1) = u := ⟨_, rfl⟩
      obtain ⟨sv, hsv⟩ : ∃ u : Int, ((B.st : Nat) : Int) = u := ⟨_, rfl⟩
      obtain ⟨tv, htv⟩ : ∃ u : Int, ((B.trips : Nat) : Int) = u := ⟨_, rfl⟩
      have HU := hid hu
      have HUB := hid hub
      have HSV := hid hsv
      have HTV := hid htv
      clear hu hub hsv htv
      have HS1 := hid (HA.out.state HMk.out)
      rw [HSV.out] at HS1
      go_wp2_with fail
      refine HS1.out.mono ?_
      rintro e w3 ⟨rfl, hm, -⟩
      have HM3 := hid hm
      clear hm HMk HS1
      have HU1 := hid (HA.out.until HM3.out)
      rw [HU.out, HUB.out] at HU1
      go_wp2_with fail
      refine HU1.out.mono ?_
      rintro e w4 ⟨rfl, hm, -⟩
      have HM4 := hid hm
      clear hm HM3 HU1
      have HT1 := hid (HA.out.trips HM4.out)
      rw [HTV.out] at HT1
      go_wp2_with fail
      refine HT1.out.mono ?_
      rintro e w5 ⟨rfl, hm, -⟩
      have HM5 := hid hm
      clear hm HM4 HT1
      by_cases h1 : B.st = 1
      · have z1 : (sv == 1) = true := by have := HSV.out; simp; omega
        go_wp2_with fail
        go_ret
        exact ⟨rfl, my_bel HM5.out⟩
      · have z1 : (sv == 1) = false := by have := HSV.out; simp; omega
        have H1 := hid h1
        clear h1
        go_wp2_with fail
        go_loopw [14] (fun i wr => ∃ (j : Nat) (x y : Nat), i = .int .i64 j ∧ j ≤ n2 ∧ y ≤ B.n + j ∧ My I w wr p { B with last := x, n := y }) (fun i _ => n2 - (intOf i).toNat)
        case atStart => exact ⟨0, B.last, B.n, rfl, Nat.zero_le _, Nat.le_refl _, HM5.out⟩
        case round =>
          obtain ⟨j, x, y, rfl, hj, hy, hmy⟩ := hrel
          have HMj := hid hmy
          clear hmy HM5
          by_cases hlt : j < n2
          · have hji : (j : Int) < n2 := by omega
            have hji0 : (0 : Int) ≤ j := by omega
            obtain ⟨g, o, rfl, hg, hx⟩ := deed_at HD2.out hlt
            have HX := hid hx
            clear hx
            generalize (D2 j).kd = kd at *
            generalize (D2 j).t = t at *
            generalize (D2 j).rt = rt at *
            generalize (D2 j).f = f at *
            generalize (D2 j).pr = pr at *
            obtain ⟨hgr, x0, x1, x2, x3, x4⟩ := HX.out wr (my_bel HMj.out)
            obtain ⟨x', y', hx', hy'⟩ := done_still (B := { B with last := x, n := y }) H1.out t rt f
            have hy2 : y' ≤ y + 1 := hy'
            have HC := hid (HA.out.done t rt f false (HA.out.below HMj.out (Below.drew (Below.refl _ wr))) (by rw [hx']; have := HT.out; show y' ≤ _; omega))
            rw [hx'] at HC
            clear hx' hy'
            go_upto_region 24 with fail
            go_region_held3 (fun w' => w'.cell? ⟨g, o + j * 5 + 1, none⟩ = some (.int .i64 t) ∧ w'.cell? ⟨g, o + j * 5 + 2, none⟩ = some (.int .i64 rt) ∧ w'.cell? ⟨g, o + j * 5 + 3, none⟩ = some (.bool f)) (first | assumption | go_keep)
              (first | (go_at_call 18; refine HC.out.mono ?_; rintro e w6 ⟨rfl, hm⟩
                        have HM6 := hid hm
                        obtain ⟨hgr4, y0, y1, y2, y3, y4⟩ := HX.out w6 (my_bel hm)
                        clear hm))
            all_goals
              go_wp2_with fail
              go_roundw
              case rel => exact ⟨j + 1, x', y', by go_num, by omega, by omega, HM6.out⟩
              case measure => simp [intOf]; omega
          · obtain rfl : j = n2 := by omega
            have HU2 := hid (HA.out.until HMj.out)
            dsimp only at HU2
            rw [HU.out, HUB.out] at HU2
            go_wp2_with fail
            refine HU2.out.mono ?_
            rintro e w6 ⟨rfl, hm, -⟩
            have HM6 := hid hm
            clear hm HMj HU2
            have HS2 := hid (HA.out.state HM6.out)
            dsimp only at HS2
            rw [HSV.out] at HS2
            have q1 : (sv == sv) = true := by simp
            have q2 : (u == u) = true := by simp
            have q3 : (tv == tv) = true := by simp
            go_wp2_with fail
            refine HS2.out.mono ?_
            rintro e w7 ⟨rfl, hm, -⟩
            have HM7 := hid hm
            clear hm HM6 HS2
            have HT2 := hid (HA.out.trips HM7.out)
            dsimp only at HT2
            rw [HTV.out] at HT2
            go_wp2_with fail
            refine HT2.out.mono ?_
            rintro e w8 ⟨rfl, hm, -⟩
            have HM8 := hid hm
            clear hm HM7 HT2
            go_wp2_with fail
            go_ret
            exact ⟨rfl, my_bel HM8.out⟩

end Go.Proofs.Ytcmklahbophclaa.BreE
