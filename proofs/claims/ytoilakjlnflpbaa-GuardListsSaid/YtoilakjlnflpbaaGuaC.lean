/- The document's field of a system rule that blocks. -/
import Derived.Test.YtoilakjlnflpbaaGuaB
import Derived.Deep.DeepCutAuto
namespace Go.Proofs.Ytoilakjlnflpbaa.GuaC
open Go.ChangeShapes Go.WideShapes Go.ChangeAt Go.RowKit Base NumM NumE RulA GuaA LisA LisD GuaB
set_option linter.unusedVariables false

set_option maxRecDepth 20000 in
set_option maxHeartbeats 1000000 in
theorem rmay_any (qp th rt ld cp mo le : Int) (w : World) :
    Calls Try.prog 35 #[.agg #[.int .i64 qp, .int .i64 th, .int .i64 rt, .int .i64 ld, .int .i64 cp, .int .i64 mo, .int .i64 le]] w fun e w' => e = .returned (.bool (nowB qp th rt ld cp mo le)) ∧ Below w.heap.size w w' := by
  obtain ⟨r, hr⟩ : ∃ r, nowB qp th rt ld cp mo le = r := ⟨_, rfl⟩
  have HR := hid hr
  rw [hr]
  clear hr
  obtain ⟨W, hW⟩ : ∃ W, (w.alloc (.cells #[.int .i64 qp, .int .i64 th, .int .i64 rt, .int .i64 ld, .int .i64 cp, .int .i64 mo, .int .i64 le] 29)).alloc (.cells #[.int .i64 qp, .int .i64 th, .int .i64 rt, .int .i64 ld, .int .i64 cp, .int .i64 mo, .int .i64 le] 3) = W := ⟨_, rfl⟩
  obtain ⟨-, c1, -, hbw⟩ := two w _ _ _ _ W hW
  have HB := hid hbw
  have HC : Hid (∀ k, k < 7 → W.cell? ⟨w.heap.size + 1, k, none⟩ = some (.int .i64 (nf qp th rt ld cp mo le k))) := hid (fun k hk => by
    refine c1 k _ ?_
    obtain rfl | rfl | rfl | rfl | rfl | rfl | rfl : k = 0 ∨ k = 1 ∨ k = 2 ∨ k = 3 ∨ k = 4 ∨ k = 5 ∨ k = 6 := by omega
    all_goals rfl)
  clear c1 hbw
  go_enter Try.func35, Try.ntmps35
  go_wp2_with fail
  try rw [hW]
  clear hW
  obtain ⟨p, hp⟩ : ∃ p, w.heap.size + 1 = p := ⟨_, rfl⟩
  rw [hp] at HC ⊢
  clear hp
  go_loopw [4] (fun i wr => ∃ k : Nat, k ≤ 7 ∧ i = .int .i64 k ∧ (∀ j, j < k → okM (nf qp th rt ld cp mo le j) = true) ∧ W = wr) (fun i _ => 7 - (intOf i).toNat)
  case atStart => exact ⟨0, Nat.zero_le _, rfl, fun j h => by omega, rfl⟩
  case round =>
    obtain ⟨k, hk, rfl, hno, rfl⟩ := hrel
    have HNo := hid hno
    clear hno
    by_cases hlt : k < 7
    · have c0 := HC.out k hlt
      obtain ⟨x, hx⟩ : ∃ x, nf qp th rt ld cp mo le k = x := ⟨_, rfl⟩
      rw [hx] at c0
      have HX := hid hx
      clear hx
      obtain ⟨b, hb⟩ : ∃ b, okM x = b := ⟨_, rfl⟩
      have HBb : Hid (okM (nf qp th rt ld cp mo le k) = b) := hid (by rw [HX.out]; exact hb)
      unfold okM at hb
      cases b with
      | true =>
        obtain ⟨h1, h2⟩ : 0 ≤ x ∧ x ≤ 4611686018427387904 := by simpa using hb
        have h1' : ¬ x < 0 := by omega
        have h2' : ¬ 4611686018427387904 < x := by omega
        clear hb h1 h2
        go_wp2_with fail
        go_roundw
        case rel => exact ⟨k + 1, by omega, by go_num, fun j h1 => (by
          rcases Nat.lt_or_ge j k with e | e
          · exact HNo.out j e
          · obtain rfl : j = k := by omega
            exact HBb.out), by trivial⟩
        case measure => simp [intOf]; omega
      | false =>
        have HF : Hid (r = false) := hid (by rw [← HR.out, nowB_no qp th rt ld cp mo le hlt HBb.out])
        by_cases h1 : x < 0
        · clear hb
          go_wp2_with fail
          go_ret
          exact ⟨ret_bool HF.out.symm, HB.out⟩
        · have h2 : 4611686018427387904 < x := by
            simp at hb
            omega
          clear hb
          go_wp2_with fail
          go_ret
          exact ⟨ret_bool HF.out.symm, HB.out⟩
    · have hd : decide ((k : Int) < 7) = false := by simp; omega
      have HY : Hid (r = true) := hid (by
        obtain rfl : k = 7 := by omega
        rw [← HR.out, nowB_yes qp th rt ld cp mo le (fun j hj => HNo.out j hj)])
      clear HNo HC
      go_wp2_with fail
      go_ret
      exact ⟨ret_bool HY.out.symm, HB.out⟩

/-- a test of two, the second only if the first is so -/
def tst (a b c : Bool) : Prop := (a = false ∧ c = false) ∨ (a = true ∧ b = c)

set_option maxRecDepth 20000 in
set_option maxHeartbeats 4000000 in
theorem rfield_core (qp th rt ld cp mo le : Int) (x0 x1 x2 x3 x4 : Int) (n y : Int) (k0 k1 k2 k3 : Bool) (c0 c1 c2 c3 c4 c5 a0 a1 a2 a3 a4 b0 b1 b2 b3 b4 : Bool) (s : ByteArray)
    (RS : Hid ((if k0 && k1 && k2 && k3 then pickS c0 c1 c2 c3 c4 c5 else ⟨#[102, 111, 114, 109]⟩) = s)) (w : World)
    (H0 : Hid (∀ w, Calls Try.prog 34 #[.agg #[.int .i64 x0, .int .i64 x1, .int .i64 x2, .int .i64 x3, .int .i64 x4]] w fun x w' => x = .returned (.int .i64 (if k0 then 0 else 33)) ∧ Below w.heap.size w w'))
    (e1 : decide (n < 1) = !k1) (e2 : decide (1099511627776 < n) = !k2)
    (H3 : Hid (∀ w, Calls Try.prog 35 #[.agg #[.int .i64 qp, .int .i64 th, .int .i64 rt, .int .i64 ld, .int .i64 cp, .int .i64 mo, .int .i64 le]] w fun x w' => x = .returned (.bool k3) ∧ Below w.heap.size w w'))
    (hy : (k0 && k1 && k2 && k3) = true → wrap64 (x0 - n) = y)
    (f0 : decide (0 ≤ x0) = a0) (f1 : decide (0 ≤ x1) = a1) (f2 : decide (0 ≤ x2) = a2) (f3 : decide (0 ≤ x3) = a3) (f4 : decide (0 ≤ x4) = a4)
    (g0 : decide (y < qp) = b0) (g1 : decide (x1 ≤ th) = b1) (g2 : decide (x2 < rt) = b2) (g3 : decide (x3 < ld) = b3) (g4 : decide (x4 < cp) = b4)
    (T0 : Hid (tst a0 b0 c0)) (T1 : Hid (tst a1 b1 c1)) (T2 : Hid (tst a2 b2 c2)) (T3 : Hid (tst a3 b3 c3)) (T5 : Hid (tst a4 b4 c5))
    (H4 : Hid ((k0 && k1 && k2 && k3) = true → ∀ w, Calls Try.prog 20 #[.int .i64 th, .int .i64 mo, .int .i64 le] w fun x w' => x = .returned (.bool c4) ∧ Below w.heap.size w w')) :
    Calls Try.prog 17 #[.agg #[.int .i64 x0, .int .i64 x1, .int .i64 x2, .int .i64 x3, .int .i64 x4], .int .i64 n, .agg #[.int .i64 qp, .int .i64 th, .int .i64 rt, .int .i64 ld, .int .i64 cp, .int .i64 mo, .int .i64 le]] w fun x w' => x = .returned (.string s) ∧ Below w.heap.size w w' := by
  obtain ⟨W, hW⟩ : ∃ W, (w.alloc (.cells #[.int .i64 x0, .int .i64 x1, .int .i64 x2, .int .i64 x3, .int .i64 x4] 38)).alloc (.cells #[.int .i64 qp, .int .i64 th, .int .i64 rt, .int .i64 ld, .int .i64 cp, .int .i64 mo, .int .i64 le] 29) = W := ⟨_, rfl⟩
  obtain ⟨c0', c1', hsz, hbw⟩ := two w _ _ _ _ W hW
  have HB := hid hbw
  have HC0 := hid c0'
  have HC1 := hid c1'
  have HSZ := hid hsz
  have HS2 : Hid (w.heap.size + 1 < W.heap.size ∧ w.heap.size < W.heap.size) := hid (by rw [hsz]; omega)
  have H := hid (H0.out W)
  have z0 : W.cell? ⟨w.heap.size, 0, none⟩ = some (.int .i64 x0) := c0' 0 _ rfl
  have z1 : W.cell? ⟨w.heap.size, 1, none⟩ = some (.int .i64 x1) := c0' 1 _ rfl
  have z2 : W.cell? ⟨w.heap.size, 2, none⟩ = some (.int .i64 x2) := c0' 2 _ rfl
  have z3 : W.cell? ⟨w.heap.size, 3, none⟩ = some (.int .i64 x3) := c0' 3 _ rfl
  have z4 : W.cell? ⟨w.heap.size, 4, none⟩ = some (.int .i64 x4) := c0' 4 _ rfl
  clear c0' c1' hsz hbw
  go_enter Try.func17, Try.ntmps17
  go_wp2_with fail
  refine H.out.mono ?_
  rintro x w1 ⟨rfl, hb1⟩
  have HB1 := hid (HB.out.trans (hb1.mono HB.out.size))
  have HL := hid hb1
  clear hb1 H hW z0 z1 z2 z3 z4
  cases k0 with
  | false =>
    go_wp2_with fail
    go_ret
    exact ⟨ret_str (by rw [← RS.out]; rfl), HB1.out⟩
  | true =>
    cases k1 with
    | false =>
      have q1 : n < 1 := by simpa using e1
      go_wp2_with fail
      go_ret
      exact ⟨ret_str (by rw [← RS.out]; rfl), HB1.out⟩
    | true =>
      have q1 : ¬ n < 1 := by simpa using e1
      clear e1
      cases k2 with
      | false =>
        have q2 : 1099511627776 < n := by simpa using e2
        go_wp2_with fail
        go_ret
        exact ⟨ret_str (by rw [← RS.out]; rfl), HB1.out⟩
      | true =>
        have q2 : ¬ 1099511627776 < n := by simpa using e2
        clear e2
        have n0 : w1.cell? ⟨w.heap.size + 1, 0, none⟩ = some (.int .i64 qp) := (HL.out.cell (p := ⟨w.heap.size + 1, 0, none⟩) HS2.out.1).trans (HC1.out 0 _ rfl)
        have n1 : w1.cell? ⟨w.heap.size + 1, 1, none⟩ = some (.int .i64 th) := (HL.out.cell (p := ⟨w.heap.size + 1, 1, none⟩) HS2.out.1).trans (HC1.out 1 _ rfl)
        have n2 : w1.cell? ⟨w.heap.size + 1, 2, none⟩ = some (.int .i64 rt) := (HL.out.cell (p := ⟨w.heap.size + 1, 2, none⟩) HS2.out.1).trans (HC1.out 2 _ rfl)
        have n3 : w1.cell? ⟨w.heap.size + 1, 3, none⟩ = some (.int .i64 ld) := (HL.out.cell (p := ⟨w.heap.size + 1, 3, none⟩) HS2.out.1).trans (HC1.out 3 _ rfl)
        have n4 : w1.cell? ⟨w.heap.size + 1, 4, none⟩ = some (.int .i64 cp) := (HL.out.cell (p := ⟨w.heap.size + 1, 4, none⟩) HS2.out.1).trans (HC1.out 4 _ rfl)
        have n5 : w1.cell? ⟨w.heap.size + 1, 5, none⟩ = some (.int .i64 mo) := (HL.out.cell (p := ⟨w.heap.size + 1, 5, none⟩) HS2.out.1).trans (HC1.out 5 _ rfl)
        have n6 : w1.cell? ⟨w.heap.size + 1, 6, none⟩ = some (.int .i64 le) := (HL.out.cell (p := ⟨w.heap.size + 1, 6, none⟩) HS2.out.1).trans (HC1.out 6 _ rfl)
        go_wp2_with fail
        refine (H3.out _).mono ?_
        rintro x w2 ⟨rfl, hb2⟩
        have HB2 := hid (HB1.out.trans (hb2.mono HB1.out.size))
        have HL2 := hid (HL.out.trans (hb2.mono HL.out.size))
        clear hb2
        clear n0 n1 n2 n3 n4 n5 n6
        cases k3 with
        | false =>
          go_wp2_with fail
          go_ret
          exact ⟨ret_str (by rw [← RS.out]; rfl), HB2.out⟩
        | true =>
          have hy0 := hy rfl
          have H4' := hid (H4.out rfl)
          clear hy H4
          have m0 : w2.cell? ⟨w.heap.size + 1, 0, none⟩ = some (.int .i64 qp) := (HL2.out.cell (p := ⟨w.heap.size + 1, 0, none⟩) HS2.out.1).trans (HC1.out 0 _ rfl)
          have m1 : w2.cell? ⟨w.heap.size + 1, 1, none⟩ = some (.int .i64 th) := (HL2.out.cell (p := ⟨w.heap.size + 1, 1, none⟩) HS2.out.1).trans (HC1.out 1 _ rfl)
          have m2 : w2.cell? ⟨w.heap.size + 1, 2, none⟩ = some (.int .i64 rt) := (HL2.out.cell (p := ⟨w.heap.size + 1, 2, none⟩) HS2.out.1).trans (HC1.out 2 _ rfl)
          have m3 : w2.cell? ⟨w.heap.size + 1, 3, none⟩ = some (.int .i64 ld) := (HL2.out.cell (p := ⟨w.heap.size + 1, 3, none⟩) HS2.out.1).trans (HC1.out 3 _ rfl)
          have m4 : w2.cell? ⟨w.heap.size + 1, 4, none⟩ = some (.int .i64 cp) := (HL2.out.cell (p := ⟨w.heap.size + 1, 4, none⟩) HS2.out.1).trans (HC1.out 4 _ rfl)
          have m5 : w2.cell? ⟨w.heap.size + 1, 5, none⟩ = some (.int .i64 mo) := (HL2.out.cell (p := ⟨w.heap.size + 1, 5, none⟩) HS2.out.1).trans (HC1.out 5 _ rfl)
          have m6 : w2.cell? ⟨w.heap.size + 1, 6, none⟩ = some (.int .i64 le) := (HL2.out.cell (p := ⟨w.heap.size + 1, 6, none⟩) HS2.out.1).trans (HC1.out 6 _ rfl)
          have r0 : w2.cell? ⟨w.heap.size, 0, none⟩ = some (.int .i64 x0) := (HL2.out.cell (p := ⟨w.heap.size, 0, none⟩) HS2.out.2).trans (HC0.out 0 _ rfl)
          have r1 : w2.cell? ⟨w.heap.size, 1, none⟩ = some (.int .i64 x1) := (HL2.out.cell (p := ⟨w.heap.size, 1, none⟩) HS2.out.2).trans (HC0.out 1 _ rfl)
          have r2 : w2.cell? ⟨w.heap.size, 2, none⟩ = some (.int .i64 x2) := (HL2.out.cell (p := ⟨w.heap.size, 2, none⟩) HS2.out.2).trans (HC0.out 2 _ rfl)
          have r3 : w2.cell? ⟨w.heap.size, 3, none⟩ = some (.int .i64 x3) := (HL2.out.cell (p := ⟨w.heap.size, 3, none⟩) HS2.out.2).trans (HC0.out 3 _ rfl)
          have r4 : w2.cell? ⟨w.heap.size, 4, none⟩ = some (.int .i64 x4) := (HL2.out.cell (p := ⟨w.heap.size, 4, none⟩) HS2.out.2).trans (HC0.out 4 _ rfl)
          have HR : Hid (pickS c0 c1 c2 c3 c4 c5 = s) := hid (by have := RS.out; simpa using this)
          go_upto_region 3 with fail
          go_cut [24] (fun v wx => v = .bool c0 ∧ w2 = wx)
          case first =>
            rcases T0.out with ⟨rfl, rfl⟩ | ⟨rfl, rfl⟩
            · have u0 := f0
              simp only [decide_eq_false_iff_not] at u0
              clear f0
              go_wp2_with fail
              go_meet
              exact ⟨by first | rfl | (simp only [g0]), rfl⟩
            · have u0 := f0
              simp only [decide_eq_true_eq] at u0
              clear f0
              go_wp2_with fail
              go_meet
              exact ⟨by first | rfl | (simp only [g0]), rfl⟩
          case rest =>
            obtain ⟨rfl, rfl⟩ := hcut
            clear T0 f0 g0 hy0
            cases c0 with
            | true =>
              go_wp2_with fail
              go_ret
              exact ⟨ret_str (by rw [← HR.out]; rfl), HB2.out⟩
            | false =>
              go_upto_region 5 with fail
              go_cut [37] (fun v wx => v = .bool c1 ∧ w2 = wx)
              case first =>
                rcases T1.out with ⟨rfl, rfl⟩ | ⟨rfl, rfl⟩
                · have u0 := f1
                  simp only [decide_eq_false_iff_not] at u0
                  clear f1
                  go_wp2_with fail
                  go_meet
                  exact ⟨by first | rfl | (simp only [g1]), rfl⟩
                · have u0 := f1
                  simp only [decide_eq_true_eq] at u0
                  clear f1
                  go_wp2_with fail
                  go_meet
                  exact ⟨by first | rfl | (simp only [g1]), rfl⟩
              case rest =>
                obtain ⟨rfl, rfl⟩ := hcut
                clear T1 f1 g1
                cases c1 with
                | true =>
                  go_wp2_with fail
                  go_ret
                  exact ⟨ret_str (by rw [← HR.out]; rfl), HB2.out⟩
                | false =>
                  go_upto_region 7 with fail
                  go_cut [48] (fun v wx => v = .bool c2 ∧ w2 = wx)
                  case first =>
                    rcases T2.out with ⟨rfl, rfl⟩ | ⟨rfl, rfl⟩
                    · have u0 := f2
                      simp only [decide_eq_false_iff_not] at u0
                      clear f2
                      go_wp2_with fail
                      go_meet
                      exact ⟨by first | rfl | (simp only [g2]), rfl⟩
                    · have u0 := f2
                      simp only [decide_eq_true_eq] at u0
                      clear f2
                      go_wp2_with fail
                      go_meet
                      exact ⟨by first | rfl | (simp only [g2]), rfl⟩
                  case rest =>
                    obtain ⟨rfl, rfl⟩ := hcut
                    clear T2 f2 g2
                    cases c2 with
                    | true =>
                      go_wp2_with fail
                      go_ret
                      exact ⟨ret_str (by rw [← HR.out]; rfl), HB2.out⟩
                    | false =>
                      rcases T3.out with ⟨rfl, rfl⟩ | ⟨rfl, rfl⟩
                      · have u3 := f3
                        simp only [decide_eq_false_iff_not] at u3
                        clear f3
                        rcases T5.out with ⟨rfl, rfl⟩ | ⟨rfl, rfl⟩
                        · have u4 := f4
                          simp only [decide_eq_false_iff_not] at u4
                          clear f4
                          go_wp2_with fail
                          go_ret
                          exact ⟨ret_str (by rw [← HR.out]; rfl), HB2.out⟩
                        · have u4 := f4
                          simp only [decide_eq_true_eq] at u4
                          clear f4
                          cases b4 <;> (
                            go_wp2_with fail
                            go_ret
                            exact ⟨ret_str (by rw [← HR.out]; rfl), HB2.out⟩)
                      · have u3 := f3
                        simp only [decide_eq_true_eq] at u3
                        clear f3
                        cases b3 with
                        | false =>
                          rcases T5.out with ⟨rfl, rfl⟩ | ⟨rfl, rfl⟩
                          · have u4 := f4
                            simp only [decide_eq_false_iff_not] at u4
                            clear f4
                            go_wp2_with fail
                            go_ret
                            exact ⟨ret_str (by rw [← HR.out]; rfl), HB2.out⟩
                          · have u4 := f4
                            simp only [decide_eq_true_eq] at u4
                            clear f4
                            cases b4 <;> (
                              go_wp2_with fail
                              go_ret
                              exact ⟨ret_str (by rw [← HR.out]; rfl), HB2.out⟩)
                        | true =>
                          go_wp2_with fail
                          refine (H4'.out _).mono ?_
                          rintro x w3 ⟨rfl, hb3⟩
                          have HB3 := hid (HB2.out.trans (hb3.mono HB2.out.size))
                          have HL3 := hid (HL2.out.trans (hb3.mono HL2.out.size))
                          clear hb3
                          cases c4 with
                          | true =>
                            go_wp2_with fail
                            go_ret
                            exact ⟨ret_str (by rw [← HR.out]; rfl), HB3.out⟩
                          | false =>
                            have p4 : w3.cell? ⟨w.heap.size + 1, 4, none⟩ = some (.int .i64 cp) := (HL3.out.cell (p := ⟨w.heap.size + 1, 4, none⟩) HS2.out.1).trans (HC1.out 4 _ rfl)
                            have v4 : w3.cell? ⟨w.heap.size, 4, none⟩ = some (.int .i64 x4) := (HL3.out.cell (p := ⟨w.heap.size, 4, none⟩) HS2.out.2).trans (HC0.out 4 _ rfl)
                            rcases T5.out with ⟨rfl, rfl⟩ | ⟨rfl, rfl⟩
                            · have u4 := f4
                              simp only [decide_eq_false_iff_not] at u4
                              clear f4
                              go_wp2_with fail
                              go_ret
                              exact ⟨ret_str (by rw [← HR.out]; rfl), HB3.out⟩
                            · have u4 := f4
                              simp only [decide_eq_true_eq] at u4
                              clear f4
                              cases b4 <;> (
                                go_wp2_with fail
                                go_ret
                                exact ⟨ret_str (by rw [← HR.out]; rfl), HB3.out⟩)

theorem test0 {a b c : Bool} (h : (a && b) = c) : tst a b c := by
  subst h
  cases a
  · exact .inl ⟨rfl, rfl⟩
  · exact .inr ⟨rfl, by simp⟩
theorem above_ge {n l : Int} (hl : -1 ≤ l) : (decide (0 ≤ l) && decide (l < n)) = aboveB n l := by
  unfold aboveB
  rw [Bool.eq_iff_iff]
  simp
  omega

theorem RField_any (qp th rt ld cp mo le : Int) (x0 x1 x2 x3 x4 : Int) (n : Int) (w : World) :
    Calls Try.prog 17 #[.agg #[.int .i64 x0, .int .i64 x1, .int .i64 x2, .int .i64 x3, .int .i64 x4], .int .i64 n, .agg #[.int .i64 qp, .int .i64 th, .int .i64 rt, .int .i64 ld, .int .i64 cp, .int .i64 mo, .int .i64 le]] w fun x w' => x = .returned (.string (fieldS qp th rt ld cp mo le x0 x1 x2 x3 x4 n)) ∧ Below w.heap.size w w' := by
  have hK : (sysB x0 x1 x2 x3 x4 && decide (1 ≤ n) && decide (n ≤ 1099511627776) && nowB qp th rt ld cp mo le) = (sysB x0 x1 x2 x3 x4 && (nowB qp th rt ld cp mo le && inR n 1 1099511627776)) := by
    unfold inR
    cases sysB x0 x1 x2 x3 x4 <;> cases nowB qp th rt ld cp mo le <;> simp
  refine rfield_core qp th rt ld cp mo le x0 x1 x2 x3 x4 n (wrap64 (x0 - n)) (sysB x0 x1 x2 x3 x4) (decide (1 ≤ n)) (decide (n ≤ 1099511627776)) (nowB qp th rt ld cp mo le) (decide (0 ≤ x0) && decide (wrap64 (x0 - n) < qp)) (decide (0 ≤ x1) && decide (x1 ≤ th)) (decide (0 ≤ x2) && decide (x2 < rt)) (decide (0 ≤ x3) && decide (x3 < ld)) (manyV th mo le) (decide (0 ≤ x4) && decide (x4 < cp)) _ _ _ _ _ _ _ _ _ _ _ (hid ?_) w (hid fun w => RSystem_any x0 x1 x2 x3 x4 w)
    (by rw [Bool.eq_iff_iff]; simp) (by rw [Bool.eq_iff_iff]; simp) (hid fun w => rmay_any qp th rt ld cp mo le w) (fun _ => rfl) rfl rfl rfl rfl rfl rfl rfl rfl rfl rfl
    (hid (test0 rfl)) (hid (test0 rfl)) (hid (test0 rfl)) (hid (test0 rfl)) (hid (test0 rfl)) (hid fun h w => ?_)
  · rw [hK]
    unfold fieldS
    by_cases hk : (sysB x0 x1 x2 x3 x4 && (nowB qp th rt ld cp mo le && inR n 1 1099511627776)) = true
    · rw [hk]
      simp only [Bool.and_eq_true] at hk
      obtain ⟨hs, hm, hn⟩ := hk
      have hn := inR_iff.1 hn
      unfold sysB okN at hs
      simp only [Bool.and_eq_true, inR_iff] at hs
      unfold nowB at hm
      simp only [Bool.and_eq_true, okM_iff] at hm
      have q0 : (decide (0 ≤ x0) && decide (wrap64 (x0 - n) < qp)) = aboveB (qp + n) x0 := by
        rw [w64 ⟨by omega, by omega⟩]
        unfold aboveB
        rw [Bool.eq_iff_iff]
        simp
        omega
      have q1 : (decide (0 ≤ x1) && decide (x1 ≤ th)) = aboveB (th + 1) x1 := by
        unfold aboveB
        rw [Bool.eq_iff_iff]
        simp
        omega
      rw [q0, q1, above_ge (by omega), above_ge (by omega), above_ge (by omega)]
      rfl
    · rw [if_neg hk, if_neg hk]
  · rw [hK] at h
    simp only [Bool.and_eq_true] at h
    have hm := h.2.1
    unfold nowB at hm
    simp only [Bool.and_eq_true, okM_iff] at hm
    exact rmany_any _ _ _ (fits_le (by omega) (by omega)) (fits_le (by omega) (by omega)) (fits_le (by omega) (by omega)) w

end Go.Proofs.Ytoilakjlnflpbaa.GuaC
