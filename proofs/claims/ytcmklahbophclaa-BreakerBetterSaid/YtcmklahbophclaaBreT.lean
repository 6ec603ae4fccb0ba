/- BreakerBetter, whatever the breaker is made of. -/
import Derived.Test.YtcmklahbophclaaBreX
import Derived.Test.YtcmklahbophclaaBreC
import Derived.Test.YtcmklahbophclaaBreQ
import Derived.Deep.RegionHeld3
import Derived.Deep.DeepCutAuto
import Derived.BigQuiet
import Derived.Deep.CutBlock
namespace Go.Proofs.Ytcmklahbophclaa.BreT
set_option linter.unusedVariables false
open Go.ChangeShapes Go.WideShapes Go.ChangeAt Go.RowKit Go.Deep Base WinM WinE BreP BreA BreB BreC BreQ

theorem kc {w1 w2 : World} {p o : Nat} {v : Value} (h2 : Below w1.heap.size w1 w2) (h : w1.cell? ⟨p, o, none⟩ = some v) : w2.cell? ⟨p, o, none⟩ = some v :=
  (h2.cell (p := ⟨p, o, none⟩) (World.block_lt_of_cell? _ _ h)).trans h
theorem my_bel0 {I : Inv} {w0 w : World} {p : Nat} {B : Bk} (h : My I w0 w p B) : Below w0.heap.size w0 w := by obtain ⟨H, -, -, h⟩ := h; exact h
theorem deed_at {w : World} {a : Option Addr} {n : Nat} {D : Nat → Dd} (h : Deeds w a n D) {k : Nat} (hk : k < n) : ∃ g o, a = some ⟨g, o, none⟩ ∧ g < w.heap.size ∧ ∀ wx, Below w.heap.size w wx → g < wx.heap.size ∧ wx.cell? ⟨g, o + k * 5, none⟩ = some (.int .i64 (D k).kd) ∧ wx.cell? ⟨g, o + k * 5 + 1, none⟩ = some (.int .i64 (D k).t) ∧ wx.cell? ⟨g, o + k * 5 + 2, none⟩ = some (.int .i64 (D k).rt) ∧ wx.cell? ⟨g, o + k * 5 + 3, none⟩ = some (.bool (D k).f) ∧ wx.cell? ⟨g, o + k * 5 + 4, none⟩ = some (.bool (D k).pr) := by
  obtain ⟨g, o, rfl, hg, hc⟩ := h (by omega)
  obtain ⟨c0, c1, c2, c3, c4⟩ := hc k hk
  exact ⟨g, o, rfl, hg, fun wx hb => ⟨Nat.lt_of_lt_of_le hg hb.size, (hb.cell (p := ⟨g, o + k * 5, none⟩) hg).trans c0, (hb.cell (p := ⟨g, o + k * 5 + 1, none⟩) hg).trans c1, (hb.cell (p := ⟨g, o + k * 5 + 2, none⟩) hg).trans c2, (hb.cell (p := ⟨g, o + k * 5 + 3, none⟩) hg).trans c3, (hb.cell (p := ⟨g, o + k * 5 + 4, none⟩) hg).trans c4⟩⟩

theorem step_r (B : Bk) (kd t rt : Int) (f pr : Bool) : (stepB B kd t rt f pr).r = B.r := by
  unfold stepB enterB doneB giveB countB tripB
  (repeat' split) <;> rfl
theorem Kept.trans {S : List Nat} {w w1 w2 : World} (h : Kept S w w1) (h2 : Kept S w1 w2) : Kept S w w2 := fun s hs => (h2 s hs).trans (h s hs)
theorem bool_at {w : World} {a : Option Addr} {n : Nat} {D : Nat → Bool} (h : Bools w a n D) {k : Nat} (hk : k < n) : ∃ g o, a = some ⟨g, o, none⟩ ∧ g < w.heap.size ∧ ∀ wx, Below w.heap.size w wx → g < wx.heap.size ∧ wx.cell? ⟨g, o + k, none⟩ = some (.bool (D k)) := by
  obtain ⟨g, o, rfl, hg, hc⟩ := h (by omega)
  exact ⟨g, o, rfl, hg, fun wx hb => ⟨Nat.lt_of_lt_of_le hg hb.size, (hb.cell (p := ⟨g, o + k, none⟩) hg).trans (hc k hk)⟩⟩
theorem well_ref (B : Bk) (t rt : Int) (h1 : 0 ≤ rt) (h2 : rt ≤ 1152921504606846976) : refT B t rt = refT B t 0 := by
  unfold refT
  rw [inT_iff.2 ⟨h1, h2⟩, show inT 0 = true from by decide]
theorem well_bad (B : Bk) (h : B.r.g = 0 → 0 ≤ B.r.slow) : badB B 0 false = false := by
  unfold badB
  split
  · rename_i hg; have := h hg; simp; omega
  · rfl

set_option maxRecDepth 20000 in
set_option maxHeartbeats 8000000 in
theorem core {I : Inv} {refR : Rule → Int} (A : Api I refR) (nm : ByteArray) (g0 : Nat) (ct sl ls wd_ rc : Int) (hs : nm.size ≤ maxLen) (a : Option Addr) (n cap : Nat) (D : Nat → Dd) (a3 : Option Addr) (n3 cap3 : Nat) (W : Nat → Bool) (w : World) (hn : n ≤ 4400000000000) (hn3 : n3 ≤ 9223372036854775807) (HD : Hid (Deeds w a n D)) (HW : Hid (Bools w a3 n3 W)) :
    Calls Try.prog 6 #[.agg #[.string nm, .int .u8 g0, .int .i64 ct, .int .i64 sl, .int .i64 ls, .int .i64 wd_, .int .i64 rc], .slice a n cap, .slice a3 n3 cap3] w fun e w' => e = .returned (.bool true) ∧ Below w.heap.size w w' := by
  have hB0 : Below w.heap.size w (w.alloc (.cells #[.string nm, .int .u8 (g0 : Nat), .int .i64 ct, .int .i64 sl, .int .i64 ls, .int .i64 wd_, .int .i64 rc] 24)) := (Below.refl _ _).alloc (Nat.le_refl _) _
  have hlt0 : w.heap.size < ((w.alloc (.cells #[.string nm, .int .u8 (g0 : Nat), .int .i64 ct, .int .i64 sl, .int .i64 ls, .int .i64 wd_, .int .i64 rc] 24))).heap.size := by simp
  have k0 : (w.alloc (.cells #[.string nm, .int .u8 (g0 : Nat), .int .i64 ct, .int .i64 sl, .int .i64 ls, .int .i64 wd_, .int .i64 rc] 24)).cell? ⟨w.heap.size, 0, none⟩ = some (.string nm) := by go_cell
  have k1 : (w.alloc (.cells #[.string nm, .int .u8 (g0 : Nat), .int .i64 ct, .int .i64 sl, .int .i64 ls, .int .i64 wd_, .int .i64 rc] 24)).cell? ⟨w.heap.size, 1, none⟩ = some (.int .u8 (g0 : Nat)) := by go_cell
  have k2 : (w.alloc (.cells #[.string nm, .int .u8 (g0 : Nat), .int .i64 ct, .int .i64 sl, .int .i64 ls, .int .i64 wd_, .int .i64 rc] 24)).cell? ⟨w.heap.size, 2, none⟩ = some (.int .i64 ct) := by go_cell
  have k3 : (w.alloc (.cells #[.string nm, .int .u8 (g0 : Nat), .int .i64 ct, .int .i64 sl, .int .i64 ls, .int .i64 wd_, .int .i64 rc] 24)).cell? ⟨w.heap.size, 3, none⟩ = some (.int .i64 sl) := by go_cell
  have k4 : (w.alloc (.cells #[.string nm, .int .u8 (g0 : Nat), .int .i64 ct, .int .i64 sl, .int .i64 ls, .int .i64 wd_, .int .i64 rc] 24)).cell? ⟨w.heap.size, 4, none⟩ = some (.int .i64 ls) := by go_cell
  have k5 : (w.alloc (.cells #[.string nm, .int .u8 (g0 : Nat), .int .i64 ct, .int .i64 sl, .int .i64 ls, .int .i64 wd_, .int .i64 rc] 24)).cell? ⟨w.heap.size, 5, none⟩ = some (.int .i64 wd_) := by go_cell
  have k6 : (w.alloc (.cells #[.string nm, .int .u8 (g0 : Nat), .int .i64 ct, .int .i64 sl, .int .i64 ls, .int .i64 wd_, .int .i64 rc] 24)).cell? ⟨w.heap.size, 6, none⟩ = some (.int .i64 rc) := by go_cell
  have HA := hid A
  clear A
  go_enter Try.func6, Try.ntmps6
  go_upto_region 1 with fail
  generalize (w.alloc (.cells #[.string nm, .int .u8 (g0 : Nat), .int .i64 ct, .int .i64 sl, .int .i64 ls, .int .i64 wd_, .int .i64 rc] 24)) = w0 at *
  have HB0 := hid hB0
  have HL0 := hid hlt0
  have HNa : Hid (∀ {wx : World}, Below w0.heap.size w0 wx → Calls Try.prog 10 #[.agg #[.string nm, .int .u8 g0, .int .i64 ct, .int .i64 sl, .int .i64 ls, .int .i64 wd_, .int .i64 rc]] wx fun e w' => (∃ p, e = .returned (.tuple #[ptr p, .int .i64 0]) ∧ refR ⟨nm, g0, ct, sl, ls, wd_, rc⟩ = 0 ∧ RuleGood ⟨nm, g0, ct, sl, ls, wd_, rc⟩ ∧ My I w0 w' p (fresh ⟨nm, g0, ct, sl, ls, wd_, rc⟩)) ∨ (refR ⟨nm, g0, ct, sl, ls, wd_, rc⟩ ≠ 0 ∧ e = .returned (.tuple #[.pointer none, .int .i64 (refR ⟨nm, g0, ct, sl, ls, wd_, rc⟩)]) ∧ Below w0.heap.size w0 w')) := hid fun hb => HA.out.new ⟨nm, g0, ct, sl, ls, wd_, rc⟩ hs hb
  have HNb : Hid (∀ wx : World, Calls Try.prog 10 #[.agg #[.string nm, .int .u8 g0, .int .i64 ct, .int .i64 sl, .int .i64 ls, .int .i64 wd_, .int .i64 rc]] wx fun e w' => (∃ p H, e = .returned (.tuple #[ptr p, .int .i64 0]) ∧ refR ⟨nm, g0, ct, sl, ls, wd_, rc⟩ = 0 ∧ RuleGood ⟨nm, g0, ct, sl, ls, wd_, rc⟩ ∧ I w' p H (fresh ⟨nm, g0, ct, sl, ls, wd_, rc⟩) ∧ (∀ k, H k → wx.heap.size ≤ k) ∧ Below wx.heap.size wx w') ∨ (refR ⟨nm, g0, ct, sl, ls, wd_, rc⟩ ≠ 0 ∧ e = .returned (.tuple #[.pointer none, .int .i64 (refR ⟨nm, g0, ct, sl, ls, wd_, rc⟩)]) ∧ Below wx.heap.size wx w')) := hid fun wx => HA.out.new_ ⟨nm, g0, ct, sl, ls, wd_, rc⟩ wx hs
  generalize hr : refR ⟨nm, g0, ct, sl, ls, wd_, rc⟩ = er at HNa HNb
  clear hr hB0 hlt0
  have HKS : Hid (∀ wx, Below w0.heap.size w0 wx → wx.cell? ⟨w.heap.size, 0, none⟩ = some (.string nm) ∧ wx.cell? ⟨w.heap.size, 1, none⟩ = some (.int .u8 (g0 : Nat)) ∧ wx.cell? ⟨w.heap.size, 2, none⟩ = some (.int .i64 ct) ∧ wx.cell? ⟨w.heap.size, 3, none⟩ = some (.int .i64 sl) ∧ wx.cell? ⟨w.heap.size, 4, none⟩ = some (.int .i64 ls) ∧ wx.cell? ⟨w.heap.size, 5, none⟩ = some (.int .i64 wd_) ∧ wx.cell? ⟨w.heap.size, 6, none⟩ = some (.int .i64 rc)) := hid fun wx hb => ⟨kc hb k0, kc hb k1, kc hb k2, kc hb k3, kc hb k4, kc hb k5, kc hb k6⟩
  go_wp2_with fail
  refine (HA.out.live_ _).mono ?_
  rintro e w1 ⟨rfl, hb1⟩
  obtain ⟨j0, j1, j2, j3, j4, j5, j6⟩ := HKS.out w1 hb1
  have HB1 := hid hb1
  clear hb1 k0 k1 k2 k3 k4 k5 k6
  go_wp2_with fail
  refine (HNa.out HB1.out).mono ?_
  rintro e w2 (⟨p, rfl, h0, h1, hm⟩ | ⟨h0, rfl, hb2⟩)
  rotate_left
  · obtain ⟨i0, i1, i2, i3, i4, i5, i6⟩ := HKS.out w2 hb2
    have HB2 := hid hb2
    clear hb2 HB1 HNa j0 j1 j2 j3 j4 j5 j6
    go_wp2_with fail
    refine (HNb.out w2).mono ?_
    rintro e w3 (⟨q, K, rfl, h2, -⟩ | ⟨-, rfl, hb3⟩)
    · exact absurd h2 h0
    have HB3 : Hid (Below w.heap.size w w3) := hid (HB0.out.trans ((HB2.out.trans (hb3.mono HB2.out.size)).mono HB0.out.size))
    have hne : (er != 0) = true := by simpa using h0
    have heq : (er == er) = true := by simp
    clear h0 hb3 HNb i0 i1 i2 i3 i4 i5 i6 HKS
    go_wp2_with fail
    go_ret
    exact ⟨rfl, HB3.out⟩
  have HM := hid hm
  have HG := hid h1
  obtain ⟨i0, i1, i2, i3, i4, i5, i6⟩ := HKS.out w2 (my_bel hm)
  clear h1 hm HNa HB1 j0 j1 j2 j3 j4 j5 j6
  go_wp2_with fail
  refine (HNb.out w2).mono ?_
  rintro e w3 (⟨q, K, rfl, -, -, hK1, hK2, hK3⟩ | ⟨h2, -⟩)
  rotate_left
  · exact absurd h0 h2
  have HP := hid (pair_new HA.out HM.out hK1 hK2 hK3)
  clear h0 hK1 hK2 hK3 HNb HM HKS i0 i1 i2 i3 i4 i5 i6
  go_wp2_with fail
  go_loopw [11] (fun i wr => ∃ (k : Nat) (A B : Bk), i = .int .i64 k ∧ k ≤ n ∧ A.n ≤ k ∧ B.n ≤ k ∧ (A.r.g = 0 → 0 ≤ A.r.slow) ∧ BL A B ∧ My2 I w0 wr [] p q A B) (fun i _ => n - (intOf i).toNat)
  case atStart => exact ⟨0, _, _, rfl, Nat.zero_le _, Nat.le_refl _, Nat.le_refl _, HG.out.slow, fresh_BL _, HP.out⟩
  case round =>
    obtain ⟨k, A, B, rfl, hk, hA, hB, hsl, hbl, hmy⟩ := hrel
    have HMk := hid hmy
    have HT := hid (And.intro hA hB)
    have HSL := hid hsl
    have HBL := hid hbl
    clear hmy hA hB hsl hbl HP
    by_cases hlt : k < n
    · have hki : (k : Int) < n := by omega
      have hki0 : (0 : Int) ≤ k := by omega
      obtain ⟨g, o, rfl, hg, hx⟩ := deed_at HD.out hlt
      have HX := hid hx
      clear hx
      generalize (D k).kd = kd at *
      generalize (D k).t = t at *
      generalize (D k).rt = rt at *
      generalize (D k).f = f at *
      generalize (D k).pr = pr at *
      have hbw : Below w.heap.size w wr := HB0.out.trans (HMk.out.bel.mono HB0.out.size)
      obtain ⟨hgr, x0, x1, x2, x3, x4⟩ := HX.out wr hbw
      have HS4 := hid (box2 HA.out HMk.out (.cells #[.int .i64 kd, .int .i64 t, .int .i64 rt, .bool f, .bool pr] 42))
      have y0 : (wr.alloc (.cells #[.int .i64 kd, .int .i64 t, .int .i64 rt, .bool f, .bool pr] 42)).cell? ⟨wr.heap.size, 0, none⟩ = some (.int .i64 kd) := by go_cell
      have y1 : (wr.alloc (.cells #[.int .i64 kd, .int .i64 t, .int .i64 rt, .bool f, .bool pr] 42)).cell? ⟨wr.heap.size, 1, none⟩ = some (.int .i64 t) := by go_cell
      have y2 : (wr.alloc (.cells #[.int .i64 kd, .int .i64 t, .int .i64 rt, .bool f, .bool pr] 42)).cell? ⟨wr.heap.size, 2, none⟩ = some (.int .i64 rt) := by go_cell
      have y3 : (wr.alloc (.cells #[.int .i64 kd, .int .i64 t, .int .i64 rt, .bool f, .bool pr] 42)).cell? ⟨wr.heap.size, 3, none⟩ = some (.bool f) := by go_cell
      have y4 : (wr.alloc (.cells #[.int .i64 kd, .int .i64 t, .int .i64 rt, .bool f, .bool pr] 42)).cell? ⟨wr.heap.size, 4, none⟩ = some (.bool pr) := by go_cell
      have hz : ∀ o, (wr.alloc (.cells #[.int .i64 kd, .int .i64 t, .int .i64 rt, .bool f, .bool pr] 42)).frozen? ⟨wr.heap.size, o, none⟩ = false := fun o' => by have hnn := heap_alloc_new wr (.cells #[.int .i64 kd, .int .i64 t, .int .i64 rt, .bool f, .bool pr] 42); unfold World.frozen?; rw [hnn]; simp
      have HLB := hid HMk.out.bel.size
      go_upto_region 11 with fail
      clear x0 x1 x2 x3 x4 HX hgr hbw
      generalize (wr.alloc (.cells #[.int .i64 kd, .int .i64 t, .int .i64 rt, .bool f, .bool pr] 42)) = wd at *
      generalize wr.heap.size = db at *
      have HY : Hid (∀ wx, Kept [db] wd wx → (wx.cell? ⟨db, 0, none⟩ = some (.int .i64 kd) ∧ wx.cell? ⟨db, 1, none⟩ = some (.int .i64 t) ∧ wx.cell? ⟨db, 2, none⟩ = some (.int .i64 rt) ∧ wx.cell? ⟨db, 3, none⟩ = some (.bool f) ∧ wx.cell? ⟨db, 4, none⟩ = some (.bool pr)) ∧ ∀ o, wx.frozen? ⟨db, o, none⟩ = false) := hid fun wx h => ⟨⟨h.cell (by simp) y0, h.cell (by simp) y1, h.cell (by simp) y2, h.cell (by simp) y3, h.cell (by simp) y4⟩, fun o => h.froz (by simp) (hz o)⟩
      clear hz
      obtain ⟨er2, her⟩ : ∃ z, refD A t rt false = z := ⟨_, rfl⟩
      obtain ⟨A', hA'⟩ : ∃ z, doneB A t rt f false = z := ⟨_, rfl⟩
      have HN1 := hid (doneB_n A t rt f false)
      rw [hA'] at HN1
      have HE := hid (And.intro her hA')
      have HC1 := hid (done2a HA.out t rt f false er2 her hA' HS4.out (by have := HN1.out; have := HT.out; omega))
      clear her hA'
      go_wp2_with fail
      refine HC1.out.mono ?_
      rintro e w4 ⟨rfl, hm, hkp⟩
      have HM4 := hid hm
      obtain ⟨⟨z0, z1, z2, z3, z4⟩, zf⟩ := HY.out w4 hkp
      have HZF := hid zf
      clear hm hkp zf HC1 HS4 HMk y0 y1 y2 y3 y4 HY
      obtain ⟨wl, hwl⟩ : ∃ u : Bool, (decide (k < n3) && W k && decide (0 ≤ rt) && decide (rt ≤ 1152921504606846976)) = u := ⟨_, rfl⟩
      have HWL := hid hwl
      clear hwl
      go_upto_region 12 with fail
      go_cut [73] (fun s73 wx => s73 = .bool wl ∧ wx = w4)
      case first =>
        have hwl := HWL.out
        by_cases c1 : k < n3
        · have c1i : (k : Int) < (n3 : Int) := by omega
          obtain ⟨g3, o3, rfl, hg3, hx3⟩ := bool_at HW.out c1
          obtain ⟨hg4, q1⟩ := hx3 w4 (HB0.out.trans (HM4.out.bel.mono HB0.out.size))
          clear hx3
          rw [decide_eq_true c1] at hwl
          generalize W k = wk at *
          cases wk
          · have hf : wl = false := by rw [← hwl]; simp
            subst hf
            clear hwl
            go_wp2_with fail
            go_meet
            exact ⟨rfl, rfl⟩
          · by_cases c2 : 0 ≤ rt
            · have d2 := decide_eq_true c2
              by_cases c3 : rt ≤ 1152921504606846976
              · have d3 := decide_eq_true c3
                have hf : wl = true := by rw [← hwl, d2, d3]; rfl
                subst hf
                clear hwl
                go_wp2_with fail
                go_meet
                exact ⟨rfl, rfl⟩
              · have d3 := decide_eq_false c3
                have hf : wl = false := by rw [← hwl, d2, d3]; rfl
                subst hf
                clear hwl
                go_wp2_with fail
                go_meet
                exact ⟨rfl, rfl⟩
            · have d2 := decide_eq_false c2
              have hf : wl = false := by rw [← hwl, d2]; rfl
              subst hf
              clear hwl
              go_wp2_with fail
              go_meet
              exact ⟨rfl, rfl⟩
        · have c1i : ¬ (k : Int) < (n3 : Int) := by omega
          have hf : wl = false := by rw [← hwl, decide_eq_false c1]; rfl
          subst hf
          clear hwl
          go_wp2_with fail
          go_meet
          exact ⟨rfl, rfl⟩
      case rest =>
        obtain ⟨rfl, rfl⟩ := hcut
        go_upto_if 73 with (fail)
        go_cut [6] (fun s6 wx => ∃ (rt' : Int) (f' : Bool), My2 I w0 wx [db] p q A' B ∧ wx.cell? ⟨db, 0, none⟩ = some (.int .i64 kd) ∧ wx.cell? ⟨db, 1, none⟩ = some (.int .i64 t) ∧ wx.cell? ⟨db, 2, none⟩ = some (.int .i64 rt') ∧ wx.cell? ⟨db, 3, none⟩ = some (.bool f') ∧ wx.cell? ⟨db, 4, none⟩ = some (.bool pr) ∧ refT A t rt = refT A t rt' ∧ (badB A rt' f' = true → badB A rt f = true))
        case first =>
          cases wl
          · go_wp2_with fail
            go_meet
            exact ⟨rt, f, HM4.out, z0, z1, z2, z3, z4, rfl, fun h => h⟩
          · have hwl := HWL.out
            simp only [Bool.and_eq_true, decide_eq_true_eq] at hwl
            obtain ⟨⟨⟨-, -⟩, c2⟩, c3⟩ := hwl
            have f2 := HZF.out 2
            have f3 := HZF.out 3
            have HQ := hid (And.intro (well_ref A t rt c2 c3) (well_bad A HSL.out))
            clear c2 c3
            go_wp2_with fail
            go_meet
            refine ⟨0, false, set2 HA.out HM4.out (b := db) (by simp) HLB.out ?_, ?_, ?_, ?_, ?_, ?_, HQ.out.1, fun h => by rw [HQ.out.2] at h; simp at h⟩
            · exact ((Lets.refl (fun k => k = db) wc).set ⟨db, 2, none⟩ _ (.inl rfl)).set ⟨db, 3, none⟩ _ (.inl rfl)
            · go_cell
            · go_cell
            · go_cell
            · go_cell
            · go_cell
        case rest =>
          clear z0 z1 z2 z3 z4 HM4 HZF
          obtain ⟨rt', f', hm, z0, z1, z2, z3, z4, hrf, hbd⟩ := hcut
          have HM5 := hid hm
          have HBT := hid (better HBL.out t rt rt' f f' hrf hbd)
          clear hm hrf hbd
          rw [HE.out.1, HE.out.2] at HBT
          obtain ⟨C', hC'⟩ : ∃ z, doneB B t rt' f' false = z := ⟨_, rfl⟩
          rw [hC'] at HBT
          have HN2 := hid (doneB_n B t rt' f' false)
          rw [hC'] at HN2
          have HC2 := hid (done2b HA.out t rt' f' false er2 HBT.out.1 hC' HM5.out (by have := HN2.out; have := HT.out; omega))
          clear hC'
          go_wp2_with fail
          refine HC2.out.mono ?_
          rintro e w6 ⟨rfl, hm, -⟩
          have HM6 := hid hm
          clear hm HC2 HM5 z0 z1 z2 z3 z4
          obtain ⟨sa, hsa⟩ : ∃ s : Int, ((A'.st : Nat) : Int) = s := ⟨_, rfl⟩
          obtain ⟨sb, hsb⟩ : ∃ s : Int, ((C'.st : Nat) : Int) = s := ⟨_, rfl⟩
          have HSA := hid hsa
          have HSB := hid hsb
          clear hsa hsb
          go_wp2_with fail
          refine (state2b HA.out sb HSB.out HM6.out).mono ?_
          rintro e w7 ⟨rfl, hm, -⟩
          have HM7 := hid hm
          clear hm HM6
          by_cases cA : A'.st = 2
          · obtain rfl : sa = 2 := by have := HSA.out; omega
            by_cases cC : C'.st = 2
            · obtain rfl : sb = 2 := by have := HSB.out; omega
              clear cA cC
              go_wp2_with fail
              refine (state2a HA.out 2 HSA.out HM7.out).mono ?_
              rintro e w8 ⟨rfl, hm, -⟩
              have HM8 := hid hm
              clear hm HM7
              go_wp2_with fail
              refine (state2a HA.out 2 HSA.out HM8.out).mono ?_
              rintro e w9 ⟨rfl, hm, -⟩
              have HM9 := hid hm
              clear hm HM8
              go_wp2_with fail
              go_ret
              exact ⟨rfl, HB0.out.trans (HM9.out.bel.mono HB0.out.size)⟩
            · have e1 : ¬ sb = 2 := by have := HSB.out; omega
              have e2 : (sb == 2) = false := by simpa using e1
              clear cA cC
              go_wp2_with fail
              refine (state2a HA.out 2 HSA.out HM7.out).mono ?_
              rintro e w9 ⟨rfl, hm, -⟩
              have HM9 := hid hm
              clear hm HM7
              go_wp2_with fail
              go_ret
              exact ⟨rfl, HB0.out.trans (HM9.out.bel.mono HB0.out.size)⟩
          · have hbl := HBT.out.2.2.resolve_left cA
            obtain rfl : sa = 1 := by have := HSA.out; have := hbl.a; omega
            obtain rfl : sb = 1 := by have := HSB.out; have := hbl.b; omega
            have HBL' := hid hbl
            have e3 : (er2 == er2) = true := by simp
            have HRA : Hid (A'.r = A.r) := hid (by rw [← HE.out.2]; have := step_r A 1 t rt f false; unfold stepB at this; rwa [if_neg (by decide), if_pos rfl] at this)
            clear cA hbl
            go_wp2_with fail
            refine (state2a HA.out 1 HSA.out HM7.out).mono ?_
            rintro e w9 ⟨rfl, hm, -⟩
            have HM9 := hid hm
            clear hm HM7
            go_wp2_with fail
            exact ⟨⟨k + 1, A', C', by go_num, by omega, by have := HN1.out; have := HT.out; omega, by have := HN2.out; have := HT.out; omega, by rw [HRA.out]; exact HSL.out, HBL'.out, HM9.out.less⟩, by simp [intOf]; omega⟩
    · obtain rfl : k = n := by omega
      go_wp2_with fail
      go_ret
      exact ⟨rfl, HB0.out.trans (HMk.out.bel.mono HB0.out.size)⟩

end Go.Proofs.Ytcmklahbophclaa.BreT
