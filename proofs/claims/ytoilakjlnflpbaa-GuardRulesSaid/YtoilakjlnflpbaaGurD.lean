/- The document's Systems. -/
import Derived.Test.YtoilakjlnflpbaaGurC
namespace Go.Proofs.Ytoilakjlnflpbaa.GurD
open Go.ChangeShapes Go.WideShapes Go.ChangeAt Go.RowKit Go.Deep Base Opn WldF WldG Mem GurA GurC NumM NumE RulA Txt LisA LisD GuaA GuaB GuaC GuaE
set_option linter.unusedVariables false

set_option maxHeartbeats 1000000 in
theorem rsystem_core (qp th rt ld cp mo le : Int) (x0 x1 x2 x3 x4 : Int) (n : Int) (s : ByteArray) (b : Bool) (hb : s.toList.isEmpty = b) (w : World)
    (H0 : Hid (∀ w, Calls Try.prog 17 #[.agg #[.int .i64 x0, .int .i64 x1, .int .i64 x2, .int .i64 x3, .int .i64 x4], .int .i64 n, .agg #[.int .i64 qp, .int .i64 th, .int .i64 rt, .int .i64 ld, .int .i64 cp, .int .i64 mo, .int .i64 le]] w fun x w' => x = .returned (.string s) ∧ Below w.heap.size w w')) :
    Calls Try.prog 15 #[.agg #[.int .i64 x0, .int .i64 x1, .int .i64 x2, .int .i64 x3, .int .i64 x4], .int .i64 n, .agg #[.int .i64 qp, .int .i64 th, .int .i64 rt, .int .i64 ld, .int .i64 cp, .int .i64 mo, .int .i64 le]] w fun x w' => x = .returned (.bool b) ∧ Below w.heap.size w w' := by
  obtain ⟨W, hW⟩ : ∃ W, (w.alloc (.cells #[.int .i64 x0, .int .i64 x1, .int .i64 x2, .int .i64 x3, .int .i64 x4] 38)).alloc (.cells #[.int .i64 qp, .int .i64 th, .int .i64 rt, .int .i64 ld, .int .i64 cp, .int .i64 mo, .int .i64 le] 29) = W := ⟨_, rfl⟩
  have HB : Hid (Below w.heap.size w W) := hid (by rw [← hW]; exact ((Below.refl _ w).alloc (Nat.le_refl _) _).alloc (by simp) _)
  obtain ⟨c0, c1', -, -⟩ := two w _ _ _ _ W hW
  have H := hid (H0.out W)
  have z0 : W.cell? ⟨w.heap.size, 0, none⟩ = some (.int .i64 x0) := c0 0 _ rfl
  have z1 : W.cell? ⟨w.heap.size, 1, none⟩ = some (.int .i64 x1) := c0 1 _ rfl
  have z2 : W.cell? ⟨w.heap.size, 2, none⟩ = some (.int .i64 x2) := c0 2 _ rfl
  have z3 : W.cell? ⟨w.heap.size, 3, none⟩ = some (.int .i64 x3) := c0 3 _ rfl
  have z4 : W.cell? ⟨w.heap.size, 4, none⟩ = some (.int .i64 x4) := c0 4 _ rfl
  have y0 : W.cell? ⟨w.heap.size + 1, 0, none⟩ = some (.int .i64 qp) := c1' 0 _ rfl
  have y1 : W.cell? ⟨w.heap.size + 1, 1, none⟩ = some (.int .i64 th) := c1' 1 _ rfl
  have y2 : W.cell? ⟨w.heap.size + 1, 2, none⟩ = some (.int .i64 rt) := c1' 2 _ rfl
  have y3 : W.cell? ⟨w.heap.size + 1, 3, none⟩ = some (.int .i64 ld) := c1' 3 _ rfl
  have y4 : W.cell? ⟨w.heap.size + 1, 4, none⟩ = some (.int .i64 cp) := c1' 4 _ rfl
  have y5 : W.cell? ⟨w.heap.size + 1, 5, none⟩ = some (.int .i64 mo) := c1' 5 _ rfl
  have y6 : W.cell? ⟨w.heap.size + 1, 6, none⟩ = some (.int .i64 le) := c1' 6 _ rfl
  clear c0 c1'
  go_enter Try.func15, Try.ntmps15
  go_wp2_with fail
  refine H.out.mono ?_
  rintro x w1 ⟨rfl, hb1⟩
  have HB1 := hid (HB.out.trans (hb1.mono HB.out.size))
  clear hb1 H
  go_wp2_with fail
  go_ret
  exact ⟨rfl, HB1.out⟩

theorem RSystem_is (qp th rt ld cp mo le : Int) (x0 x1 x2 x3 x4 : Int) (n : Int) (w : World) :
    Calls Try.prog 15 #[.agg #[.int .i64 x0, .int .i64 x1, .int .i64 x2, .int .i64 x3, .int .i64 x4], .int .i64 n, .agg #[.int .i64 qp, .int .i64 th, .int .i64 rt, .int .i64 ld, .int .i64 cp, .int .i64 mo, .int .i64 le]] w fun x w' => x = .returned (.bool (decide (fieldS qp th rt ld cp mo le x0 x1 x2 x3 x4 n = ⟨#[]⟩))) ∧ Below w.heap.size w w' :=
  rsystem_core qp th rt ld cp mo le x0 x1 x2 x3 x4 n _ _ (empty_eq _) w (hid fun w => RField_any qp th rt ld cp mo le x0 x1 x2 x3 x4 n w)


set_option maxHeartbeats 400000 in
theorem RSystems_form (a va : Option Addr) (n cap m vc : Nat) (t : Int) (hm : m ≠ 1) (w : World) :
    Calls Try.prog 11 #[.slice a n cap, .int .i64 t, .slice va m vc] w fun e w' => e = .returned (trip (0, false, 6)) ∧ Below w.heap.size w w' := by
  have hm1 : ((m : Int) == 1) = false := by simp; omega
  go_enter Try.func11, Try.ntmps11
  go_wp2_with fail
  go_ret3
  exact ⟨rfl, Below.refl _ w⟩

set_option maxRecDepth 20000 in
set_option maxHeartbeats 4000000 in
theorem RSystems_core (a : Option Addr) (g o n cap vc : Nat) (F : Nat → Nat → Int) (qp th rt ld cp mo le t : Int) (r : Int × Bool × Int) (c c3 : Bool) (P : Nat → Bool) (w : World) (hn : n ≤ 9223372036854775807)
    (hc : t < 1 ∧ c = false ∨ 1 ≤ t ∧ 1099511627776 < t ∧ c = false ∨ 1 ≤ t ∧ t ≤ 1099511627776 ∧ c = c3)
    (R0 : Hid (∀ k, k < n → badAt F k = true → (∀ j, j < k → badAt F j = false) → r = (0, false, 33)))
    (R1 : Hid ((∀ j, j < n → badAt F j = false) → c = false → r = (0, false, 2)))
    (R2 : Hid ((∀ j, j < n → badAt F j = false) → c = true → r = (((firstN P n : Nat) : Int), decide (firstN P n = n), 0)))
    (HI : Hid (RowsI w a n 5 F)) (HV : Hid (g < w.heap.size ∧ ∀ j, j < 7 → w.cell? ⟨g, o + j, none⟩ = some (.int .i64 (nf qp th rt ld cp mo le j))))
    (H0 : Hid (∀ x0 x1 x2 x3 x4 w, Calls Try.prog 34 #[.agg #[.int .i64 x0, .int .i64 x1, .int .i64 x2, .int .i64 x3, .int .i64 x4]] w fun x w' => x = .returned (.int .i64 (sysE x0 x1 x2 x3 x4)) ∧ Below w.heap.size w w'))
    (H1 : Hid (∀ w, Calls Try.prog 35 #[.agg #[.int .i64 qp, .int .i64 th, .int .i64 rt, .int .i64 ld, .int .i64 cp, .int .i64 mo, .int .i64 le]] w fun x w' => x = .returned (.bool c3) ∧ Below w.heap.size w w'))
    (H2 : Hid ((∀ j, j < n → badAt F j = false) → c = true → ∀ k, k < n → ∀ w, Calls Try.prog 15 #[.agg #[.int .i64 (F k 0), .int .i64 (F k 1), .int .i64 (F k 2), .int .i64 (F k 3), .int .i64 (F k 4)], .int .i64 t, .agg #[.int .i64 qp, .int .i64 th, .int .i64 rt, .int .i64 ld, .int .i64 cp, .int .i64 mo, .int .i64 le]] w fun x w' => x = .returned (.bool (!P k)) ∧ Below w.heap.size w w')) :
    Calls Try.prog 11 #[.slice a n cap, .int .i64 t, .slice (some ⟨g, o, none⟩) 1 vc] w fun e w' => e = .returned (trip r) ∧ Below w.heap.size w w' := by
  have HCC := hid hc
  clear hc
  go_enter Try.func11, Try.ntmps11
  go_wp2_with fail
  go_loopw [9] (fun i wr => ∃ k : Nat, k ≤ n ∧ i = .int .i64 k ∧ (∀ j, j < k → badAt F j = false) ∧ Below w.heap.size w wr) (fun i _ => n - (intOf i).toNat)
  case atStart => exact ⟨0, Nat.zero_le _, rfl, fun j h => by omega, Below.refl _ _⟩
  case round =>
    obtain ⟨k, hk, rfl, hno, hbel⟩ := hrel
    have HNo := hid hno
    have HB := hid hbel
    clear hno hbel
    by_cases hlt : k < n
    · obtain ⟨g', o', rfl, hg, hc⟩ := HI.out.1 (by omega)
      have c0 : wr.cell? ⟨g', o' + k * 5, none⟩ = some (.int .i64 (F k 0)) := (HB.out.cell (p := ⟨g', o' + k * 5 + 0, none⟩) hg).trans (hc k hlt 0 (by omega))
      have c1 : wr.cell? ⟨g', o' + k * 5 + 1, none⟩ = some (.int .i64 (F k 1)) := (HB.out.cell (p := ⟨g', o' + k * 5 + 1, none⟩) hg).trans (hc k hlt 1 (by omega))
      have c2 : wr.cell? ⟨g', o' + k * 5 + 2, none⟩ = some (.int .i64 (F k 2)) := (HB.out.cell (p := ⟨g', o' + k * 5 + 2, none⟩) hg).trans (hc k hlt 2 (by omega))
      have c3 : wr.cell? ⟨g', o' + k * 5 + 3, none⟩ = some (.int .i64 (F k 3)) := (HB.out.cell (p := ⟨g', o' + k * 5 + 3, none⟩) hg).trans (hc k hlt 3 (by omega))
      have c4 : wr.cell? ⟨g', o' + k * 5 + 4, none⟩ = some (.int .i64 (F k 4)) := (HB.out.cell (p := ⟨g', o' + k * 5 + 4, none⟩) hg).trans (hc k hlt 4 (by omega))
      clear hc
      obtain ⟨b, hb⟩ : ∃ b, sysB (F k 0) (F k 1) (F k 2) (F k 3) (F k 4) = b := ⟨_, rfl⟩
      have HS := hid (H0.out (F k 0) (F k 1) (F k 2) (F k 3) (F k 4))
      have HP : Hid (badAt F k = !b) := hid (by unfold badAt; rw [hb])
      unfold sysE at HS
      rw [hb] at HS
      clear hb
      generalize F k 0 = x0 at *
      generalize F k 1 = x1 at *
      generalize F k 2 = x2 at *
      generalize F k 3 = x3 at *
      generalize F k 4 = x4 at *
      cases b with
      | true =>
        rw [if_pos rfl] at HS
        go_wp2_with fail
        refine (HS.out _).mono ?_
        rintro e w1 ⟨rfl, hb1⟩
        have HB1 := hid (blw HB.out hb1)
        clear hb1
        go_wp2_with fail
        go_roundw
        case rel => exact ⟨k + 1, by omega, by go_num, fun j h1 => (by
          rcases Nat.lt_or_ge j k with e | e
          · exact HNo.out j e
          · obtain rfl : j = k := by omega
            exact HP.out), HB1.out⟩
        case measure => simp [intOf]; omega
      | false =>
        rw [if_neg (by decide)] at HS
        obtain rfl := R0.out k hlt HP.out HNo.out
        go_wp2_with fail
        refine (HS.out _).mono ?_
        rintro e w1 ⟨rfl, hb1⟩
        have HB1 := hid (blw HB.out hb1)
        clear hb1
        go_wp2_with fail
        go_ret3
        exact ⟨rfl, HB1.out⟩
    · obtain rfl : k = n := by omega
      have y0 : wr.cell? ⟨g, o, none⟩ = some (.int .i64 qp) := (HB.out.cell (p := ⟨g, o + 0, none⟩) HV.out.1).trans (HV.out.2 0 (by omega))
      have y1 : wr.cell? ⟨g, o + 1, none⟩ = some (.int .i64 th) := (HB.out.cell (p := ⟨g, o + 1, none⟩) HV.out.1).trans (HV.out.2 1 (by omega))
      have y2 : wr.cell? ⟨g, o + 2, none⟩ = some (.int .i64 rt) := (HB.out.cell (p := ⟨g, o + 2, none⟩) HV.out.1).trans (HV.out.2 2 (by omega))
      have y3 : wr.cell? ⟨g, o + 3, none⟩ = some (.int .i64 ld) := (HB.out.cell (p := ⟨g, o + 3, none⟩) HV.out.1).trans (HV.out.2 3 (by omega))
      have y4 : wr.cell? ⟨g, o + 4, none⟩ = some (.int .i64 cp) := (HB.out.cell (p := ⟨g, o + 4, none⟩) HV.out.1).trans (HV.out.2 4 (by omega))
      have y5 : wr.cell? ⟨g, o + 5, none⟩ = some (.int .i64 mo) := (HB.out.cell (p := ⟨g, o + 5, none⟩) HV.out.1).trans (HV.out.2 5 (by omega))
      have y6 : wr.cell? ⟨g, o + 6, none⟩ = some (.int .i64 le) := (HB.out.cell (p := ⟨g, o + 6, none⟩) HV.out.1).trans (HV.out.2 6 (by omega))
      rcases HCC.out with ⟨h1, rfl⟩ | ⟨h1, h2, rfl⟩ | ⟨h1, h2, rfl⟩
      · obtain rfl := R1.out HNo.out rfl
        go_wp2_with fail
        go_ret3
        exact ⟨rfl, HB.out⟩
      · obtain rfl := R1.out HNo.out rfl
        go_wp2_with fail
        go_ret3
        exact ⟨rfl, HB.out⟩
      · go_wp2_with fail
        refine (H1.out _).mono ?_
        rintro e w1 ⟨rfl, hb1⟩
        have HB1 := hid (blw HB.out hb1)
        clear hb1 y0 y1 y2 y3 y4 y5 y6 HCC
        cases c with
        | false =>
          obtain rfl := R1.out HNo.out rfl
          go_wp2_with fail
          go_ret3
          exact ⟨rfl, HB1.out⟩
        | true =>
          have HR := hid (R2.out HNo.out rfl)
          have HSY := hid (H2.out HNo.out rfl)
          clear R0 R1 R2 H2 HNo
          go_wp2_with fail
          go_loopw [11] (fun i wr => ∃ m : Nat, m ≤ k ∧ i = .int .i64 m ∧ (∀ j, j < m → P j = false) ∧ Below w.heap.size w wr) (fun i _ => k - (intOf i).toNat)
          case atStart => exact ⟨0, Nat.zero_le _, rfl, fun j h => by omega, HB1.out⟩
          case round =>
            obtain ⟨m, hm, rfl, hno, hbel⟩ := hrel
            have HNo := hid hno
            have HBm := hid hbel
            clear hno hbel
            by_cases hlm : m < k
            · obtain ⟨g', o', rfl, hg, hc⟩ := HI.out.1 (by omega)
              have c0 : wr.cell? ⟨g', o' + m * 5, none⟩ = some (.int .i64 (F m 0)) := (HBm.out.cell (p := ⟨g', o' + m * 5 + 0, none⟩) hg).trans (hc m hlm 0 (by omega))
              have c1 : wr.cell? ⟨g', o' + m * 5 + 1, none⟩ = some (.int .i64 (F m 1)) := (HBm.out.cell (p := ⟨g', o' + m * 5 + 1, none⟩) hg).trans (hc m hlm 1 (by omega))
              have c2 : wr.cell? ⟨g', o' + m * 5 + 2, none⟩ = some (.int .i64 (F m 2)) := (HBm.out.cell (p := ⟨g', o' + m * 5 + 2, none⟩) hg).trans (hc m hlm 2 (by omega))
              have c3 : wr.cell? ⟨g', o' + m * 5 + 3, none⟩ = some (.int .i64 (F m 3)) := (HBm.out.cell (p := ⟨g', o' + m * 5 + 3, none⟩) hg).trans (hc m hlm 3 (by omega))
              have c4 : wr.cell? ⟨g', o' + m * 5 + 4, none⟩ = some (.int .i64 (F m 4)) := (HBm.out.cell (p := ⟨g', o' + m * 5 + 4, none⟩) hg).trans (hc m hlm 4 (by omega))
              have y0 : wr.cell? ⟨g, o, none⟩ = some (.int .i64 qp) := (HBm.out.cell (p := ⟨g, o + 0, none⟩) HV.out.1).trans (HV.out.2 0 (by omega))
              have y1 : wr.cell? ⟨g, o + 1, none⟩ = some (.int .i64 th) := (HBm.out.cell (p := ⟨g, o + 1, none⟩) HV.out.1).trans (HV.out.2 1 (by omega))
              have y2 : wr.cell? ⟨g, o + 2, none⟩ = some (.int .i64 rt) := (HBm.out.cell (p := ⟨g, o + 2, none⟩) HV.out.1).trans (HV.out.2 2 (by omega))
              have y3 : wr.cell? ⟨g, o + 3, none⟩ = some (.int .i64 ld) := (HBm.out.cell (p := ⟨g, o + 3, none⟩) HV.out.1).trans (HV.out.2 3 (by omega))
              have y4 : wr.cell? ⟨g, o + 4, none⟩ = some (.int .i64 cp) := (HBm.out.cell (p := ⟨g, o + 4, none⟩) HV.out.1).trans (HV.out.2 4 (by omega))
              have y5 : wr.cell? ⟨g, o + 5, none⟩ = some (.int .i64 mo) := (HBm.out.cell (p := ⟨g, o + 5, none⟩) HV.out.1).trans (HV.out.2 5 (by omega))
              have y6 : wr.cell? ⟨g, o + 6, none⟩ = some (.int .i64 le) := (HBm.out.cell (p := ⟨g, o + 6, none⟩) HV.out.1).trans (HV.out.2 6 (by omega))
              clear hc
              have HS := hid (HSY.out m hlm)
              obtain ⟨b, hb⟩ : ∃ b, P m = b := ⟨_, rfl⟩
              have HP := hid hb
              rw [hb] at HS
              clear hb
              generalize F m 0 = x0 at *
              generalize F m 1 = x1 at *
              generalize F m 2 = x2 at *
              generalize F m 3 = x3 at *
              generalize F m 4 = x4 at *
              go_upto_region 14 with fail
              go_cut [57] (fun s wx => s = .bool b ∧ Below w.heap.size w wx)
              case first =>
                go_region_held3 (fun w' => w'.cell? ⟨g', o' + m * 5, none⟩ = some (.int .i64 x0) ∧ w'.cell? ⟨g', o' + m * 5 + 1, none⟩ = some (.int .i64 x1) ∧ w'.cell? ⟨g', o' + m * 5 + 2, none⟩ = some (.int .i64 x2) ∧ w'.cell? ⟨g', o' + m * 5 + 3, none⟩ = some (.int .i64 x3) ∧ w'.cell? ⟨g', o' + m * 5 + 4, none⟩ = some (.int .i64 x4) ∧ w'.cell? ⟨g, o, none⟩ = some (.int .i64 qp) ∧ w'.cell? ⟨g, o + 1, none⟩ = some (.int .i64 th) ∧ w'.cell? ⟨g, o + 2, none⟩ = some (.int .i64 rt) ∧ w'.cell? ⟨g, o + 3, none⟩ = some (.int .i64 ld) ∧ w'.cell? ⟨g, o + 4, none⟩ = some (.int .i64 cp) ∧ w'.cell? ⟨g, o + 5, none⟩ = some (.int .i64 mo) ∧ w'.cell? ⟨g, o + 6, none⟩ = some (.int .i64 le)) (go_keep)
                  (first
                    | (go_at_call 15; (with_reducible refine (HS.out _).mono ?_); rintro e w4 ⟨rfl, hb4⟩
                       have y0 : w4.cell? ⟨g, o, none⟩ = some (.int .i64 qp) := kc hb4 (by first | exact y0 | assumption)
                       have y1 : w4.cell? ⟨g, o + 1, none⟩ = some (.int .i64 th) := kc hb4 (by first | exact y1 | assumption)
                       have y2 : w4.cell? ⟨g, o + 2, none⟩ = some (.int .i64 rt) := kc hb4 (by first | exact y2 | assumption)
                       have y3 : w4.cell? ⟨g, o + 3, none⟩ = some (.int .i64 ld) := kc hb4 (by first | exact y3 | assumption)
                       have y4 : w4.cell? ⟨g, o + 4, none⟩ = some (.int .i64 cp) := kc hb4 (by first | exact y4 | assumption)
                       have y5 : w4.cell? ⟨g, o + 5, none⟩ = some (.int .i64 mo) := kc hb4 (by first | exact y5 | assumption)
                       have y6 : w4.cell? ⟨g, o + 6, none⟩ = some (.int .i64 le) := kc hb4 (by first | exact y6 | assumption)
                       have c0 : w4.cell? ⟨g', o' + m * 5, none⟩ = some (.int .i64 x0) := kc hb4 (by first | exact c0 | assumption)
                       have c1 : w4.cell? ⟨g', o' + m * 5 + 1, none⟩ = some (.int .i64 x1) := kc hb4 (by first | exact c1 | assumption)
                       have c2 : w4.cell? ⟨g', o' + m * 5 + 2, none⟩ = some (.int .i64 x2) := kc hb4 (by first | exact c2 | assumption)
                       have c3 : w4.cell? ⟨g', o' + m * 5 + 3, none⟩ = some (.int .i64 x3) := kc hb4 (by first | exact c3 | assumption)
                       have c4 : w4.cell? ⟨g', o' + m * 5 + 4, none⟩ = some (.int .i64 x4) := kc hb4 (by first | exact c4 | assumption)
                       have HBm := hid (blw (by first | exact HBm.out | exact HBm.out.drew) hb4)))
                all_goals
                  go_wp2_with fail
                  go_meet
                  exact ⟨by simp, HBm.out⟩
              case rest =>
                obtain ⟨rfl, hbx⟩ := hcut
                have HBX := hid hbx
                clear hbx c0 c1 c2 c3 c4 y0 y1 y2 y3 y4 y5 y6
                cases b with
                | true =>
                  have HE : Hid (firstN P k = m) := hid (firstN_yes hlm HP.out HNo.out)
                  go_wp2_with fail
                  go_ret3
                  exact ⟨by rw [HR.out, HE.out, show decide (m = k) = false from by simp; omega]; rfl, HBX.out⟩
                | false =>
                  go_wp2_with fail
                  go_roundw
                  case rel => exact ⟨m + 1, by omega, by go_num, fun j h1 => (by
                    rcases Nat.lt_or_ge j m with e | e
                    · exact HNo.out j e
                    · obtain rfl : j = m := by omega
                      exact HP.out), HBX.out⟩
                  case measure => simp [intOf]; omega
            · obtain rfl : m = k := by omega
              have HE : Hid (firstN P m = m) := hid (firstN_no HNo.out)
              go_wp2_with fail
              go_ret3
              exact ⟨by rw [HR.out, HE.out, show decide (m = m) = true from by simp]; rfl, HBm.out⟩

theorem RSystems_any (a : Option Addr) (g o n cap vc : Nat) (F : Nat → Nat → Int) (qp th rt ld cp mo le t : Int) (w : World) (hn : n ≤ 9223372036854775807)
    (HI : RowsI w a n 5 F) (HV : g < w.heap.size ∧ ∀ j, j < 7 → w.cell? ⟨g, o + j, none⟩ = some (.int .i64 (nf qp th rt ld cp mo le j))) :
    Calls Try.prog 11 #[.slice a n cap, .int .i64 t, .slice (some ⟨g, o, none⟩) 1 vc] w fun e w' => e = .returned (trip (sysR F n qp th rt ld cp mo le t)) ∧ Below w.heap.size w w' := by
  refine RSystems_core a g o n cap vc F qp th rt ld cp mo le t _ (nowB qp th rt ld cp mo le && inR t 1 1099511627776) (nowB qp th rt ld cp mo le) (blkAt F qp th rt ld cp mo le t) w hn ?_ (hid fun k hk h hno => sysR_bad hk h hno) (hid fun hno h => sysR_range hno h) (hid fun hno h => sysR_ok hno h) (hid HI) (hid HV)
    (hid fun x0 x1 x2 x3 x4 w => RSystem_any x0 x1 x2 x3 x4 w) (hid fun w => rmay_any qp th rt ld cp mo le w) (hid fun hno h k hk w => ?_)
  · by_cases h1 : t < 1
    · exact .inl ⟨h1, by rw [show inR t 1 1099511627776 = false from by rw [Bool.eq_false_iff]; intro h; have := inR_iff.1 h; omega]; simp⟩
    · by_cases h2 : 1099511627776 < t
      · exact .inr (.inl ⟨by omega, h2, by rw [show inR t 1 1099511627776 = false from by rw [Bool.eq_false_iff]; intro h; have := inR_iff.1 h; omega]; simp⟩)
      · exact .inr (.inr ⟨by omega, by omega, by rw [inR_iff.2 ⟨by omega, by omega⟩]; simp⟩)
  · refine (RSystem_is qp th rt ld cp mo le (F k 0) (F k 1) (F k 2) (F k 3) (F k 4) t w).mono fun e w' ⟨h1, h2⟩ => ⟨h1.trans ?_, h2⟩
    have hs := hno k hk
    unfold badAt at hs
    unfold blkAt fieldS
    rw [h, Bool.and_true, show sysB (F k 0) (F k 1) (F k 2) (F k 3) (F k 4) = true from by simpa using hs, if_pos rfl]
    simp

end Go.Proofs.Ytoilakjlnflpbaa.GurD
