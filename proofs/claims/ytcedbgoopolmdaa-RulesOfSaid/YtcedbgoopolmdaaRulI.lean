/- RulesOrigins. -/
import Derived.Test.YtcedbgoopolmdaaRulH
import Derived.Test.YtcedbgoopolmdaaOpn
namespace Go.Proofs.Ytcedbgoopolmdaa.RulI
open Go.ChangeShapes Go.WideShapes Go.ChangeAt Go.RowKit Go.Deep Base RulA RulB RulC RulD RulE RulF RulG RulH Txt Opn
set_option linter.unusedVariables false

theorem hasO_zero (L : Nat → Flow) (r o : ByteArray) : hasO 0 L r o = false := by
  unfold hasO
  rw [hasB_not.2 (fun k hk => by omega), Bool.and_false]
theorem hasB_succ (n : Nat) (L : Nat → Flow) (r o : ByteArray) : hasB (n + 1) L r o = (hasB n L r o || isOwn r o (L n)) := by
  rw [Bool.eq_iff_iff, Bool.or_eq_true, hasB_iff, hasB_iff]
  constructor
  · rintro ⟨k, hk, h⟩
    rcases Nat.lt_or_ge k n with e | e
    · exact .inl ⟨k, e, h⟩
    · obtain rfl : k = n := by omega
      exact .inr h
  · rintro (⟨k, hk, h⟩ | h)
    · exact ⟨k, by omega, h⟩
    · exact ⟨n, by omega, h⟩
theorem hasO_succ (n : Nat) (L : Nat → Flow) (r o : ByteArray) : hasO (n + 1) L r o = (hasO n L r o || (decide ((L n).res = r) && decide ((L n).org = o) && !(decide (o = dft)) && !(decide (o = oth)))) := by
  unfold hasO
  rw [hasB_succ]
  unfold isOwn
  cases decide (o = dft) <;> cases decide (o = oth) <;> simp

theorem drewN_below (w : World) (n B : Nat) : Below B w (w.drewN n) := ⟨rfl, rfl, rfl, Nat.le_refl _, fun _ _ => rfl⟩

set_option maxRecDepth 100000 in
set_option maxHeartbeats 4000000 in
theorem origins_core (a : Option Addr) (n cap : Nat) (L : Nat → Flow) (o : ByteArray) (hn : n ≤ 9223372036854775807) (w : World) (HF : Hid (Flows w a n L)) :
    Calls Try.prog 8 #[.slice a n cap, .string o] w fun e w' => e = .returned (.bool true) ∧ Below w.heap.size w w' := by
  go_enter Try.func8, Try.ntmps8
  go_wp2_with fail
  go_loopw [5] (fun i wr => ∃ k : Nat, k ≤ n ∧ i = .int .i64 k ∧ Below w.heap.size w wr) (fun i _ => n - (intOf i).toNat)
  case atStart => exact ⟨0, Nat.zero_le _, rfl, Below.refl _ _⟩
  case round =>
    obtain ⟨k, hk, rfl, hb⟩ := hrel
    have HB := hid hb
    clear hb
    by_cases hlt : k < n
    · obtain ⟨g, q, rfl, hg, hc⟩ := HF.out.at_ (by omega)
      have HC := hid hc
      clear hc
      have hki : decide ((k : Int) < n) = true := by simp; omega
      go_wp2_with fail
      clear hki
      obtain ⟨r, hr⟩ : ∃ r, (L k).res = r := ⟨_, rfl⟩
      obtain ⟨t, ht⟩ : ∃ t, (L k).org = t := ⟨_, rfl⟩
      have HR := hid hr
      have HT := hid ht
      clear hr ht
      generalize wr = w1 at *
      go_loopw [6, 7] (fun v i wr => ∃ j : Nat, j ≤ n ∧ i = .int .i64 j ∧ v = .bool (hasO j L r o) ∧ Below w.heap.size w wr) (fun _ i _ => n - (intOf i).toNat)
      case atStart => exact ⟨0, Nat.zero_le _, rfl, by rw [hasO_zero], HB.out⟩
      case round =>
        obtain ⟨j, hj, rfl, rfl, hb⟩ := hrel
        have HB2 := hid hb
        have hg2 := Nat.lt_of_lt_of_le hg hb.size
        have k0 : wr.cell? ⟨g, q + k * 12, none⟩ = some (.string r) := HR.out ▸ ((hb.cell (p := ⟨g, q + k * 12, none⟩) hg).trans (HC.out k hlt 0 _ rfl))
        have k1 : wr.cell? ⟨g, q + k * 12 + 1, none⟩ = some (.string t) := HT.out ▸ ((hb.cell (p := ⟨g, q + k * 12 + 1, none⟩) hg).trans (HC.out k hlt 1 _ rfl))
        clear hb
        by_cases hlt2 : j < n
        · obtain ⟨rj, hrj⟩ : ∃ x, (L j).res = x := ⟨_, rfl⟩
          obtain ⟨tj, htj⟩ : ∃ x, (L j).org = x := ⟨_, rfl⟩
          have j0 : wr.cell? ⟨g, q + j * 12, none⟩ = some (.string rj) := hrj ▸ ((HB2.out.cell (p := ⟨g, q + j * 12, none⟩) hg).trans (HC.out j hlt2 0 _ rfl))
          have j1 : wr.cell? ⟨g, q + j * 12 + 1, none⟩ = some (.string tj) := htj ▸ ((HB2.out.cell (p := ⟨g, q + j * 12 + 1, none⟩) hg).trans (HC.out j hlt2 1 _ rfl))
          have hsu := hasO_succ j L r o
          rw [hrj, htj] at hsu
          have HSU := hid hsu
          clear hsu hrj htj
          obtain ⟨own, hown⟩ : ∃ x, hasO j L r o = x := ⟨_, rfl⟩
          rw [hown] at HSU ⊢
          clear hown
          have hji : decide ((j : Int) < n) = true := by simp; omega
          have hji2 : (j : Int) < n := by omega
          have hki2 : (k : Int) < n := by omega
          obtain ⟨a1, ha1⟩ : ∃ x, decide (rj = r) = x := ⟨_, rfl⟩
          obtain ⟨a2, ha2⟩ : ∃ x, decide (tj = o) = x := ⟨_, rfl⟩
          obtain ⟨a3, ha3⟩ : ∃ x, decide (o = dft) = x := ⟨_, rfl⟩
          obtain ⟨a4, ha4⟩ : ∃ x, decide (o = oth) = x := ⟨_, rfl⟩
          rw [ha1, ha2, ha3, ha4] at HSU
          have e1 : (rj.toList == r.toList) = a1 := by rw [text_eq]; exact ha1
          have e2 : (tj.toList == o.toList) = a2 := by rw [text_eq]; exact ha2
          have e3 : (o.toList == [100, 101, 102, 97, 117, 108, 116]) = a3 := by rw [eq_dft]; exact ha3
          have e4 : (o.toList == [111, 116, 104, 101, 114]) = a4 := by rw [eq_oth]; exact ha4
          clear ha1 ha2 ha3 ha4
          have HSU2 : Hid (∀ x, x = (own || (a1 && a2 && !a3 && !a4)) → hasO (j + 1) L r o = x) := hid fun x hx => HSU.out.trans hx.symm
          clear HSU
          cases own <;> cases a1 <;> cases a2 <;> cases a3 <;> cases a4 <;> (
            go_wp2_with fail
            go_quiet (fail)
            have HB3 := hid (HB2.out.trans (RulI.drewN_below wr nq _))
            clear k0 k1 j0 j1 hg2 HB2
            generalize wr.drewN nq = wd at *
            go_wp2_with fail
            go_roundw
            case rel => exact ⟨j + 1, by omega, by go_num, by rw [HSU2.out _ rfl]; rfl, HB3.out⟩
            case measure => simp [intOf]; omega)
        · obtain rfl : j = n := by omega
          have hji : decide ((j : Int) < j) = false := by simp
          have HCO := hid (Concerns_any _ j cap L k o wr hn (HF.out.below HB2.out))
          have hcn := conc_in (L := L) (o := o) hlt
          rw [HT.out, HR.out] at hcn
          rw [hcn] at HCO
          clear hcn
          obtain ⟨x, hx⟩ : ∃ x, hasO j L r o = x := ⟨_, rfl⟩
          rw [hx] at HCO ⊢
          clear hx
          obtain ⟨y, hy⟩ : ∃ y, (decide (t = dft) || decide (t = o) || (decide (t = oth) && !x)) = y := ⟨_, rfl⟩
          rw [hy] at HCO
          have hki : (k : Int) < j := by omega
          cases d1 : decide (t = dft) with
          | true =>
            have hy1 : y = true := by rw [← hy, d1]; rfl
            subst hy1
            have e1 : (t.toList == [100, 101, 102, 97, 117, 108, 116]) = true := by rw [eq_dft]; exact d1
            have e2 : (t.toList == [111, 116, 104, 101, 114]) = false := by
              rw [eq_oth, decide_eq_false_iff_not]
              rw [decide_eq_true_iff] at d1
              rw [d1]; decide
            clear d1 hy
            go_wp2_with fail
            refine HCO.out.mono ?_
            rintro e w2 ⟨rfl, hb2⟩
            have k1' := (hb2.cell (p := ⟨g, q + k * 12 + 1, none⟩) hg2).trans k1
            have HB3 := hid (HB2.out.trans (hb2.mono HB2.out.size))
            clear hb2 k0 k1 HCO
            go_wp2_with fail
            go_roundw
            case rel => exact ⟨k + 1, by omega, by go_num, HB3.out⟩
            case measure => simp [intOf]; omega
          | false =>
            have e1 : (t.toList == [100, 101, 102, 97, 117, 108, 116]) = false := by rw [eq_dft]; exact d1
            cases d3 : decide (t = oth) with
            | false =>
              have e2 : (t.toList == [111, 116, 104, 101, 114]) = false := by rw [eq_oth]; exact d3
              clear d1 d3 hy
              go_wp2_with fail
              refine HCO.out.mono ?_
              rintro e w2 ⟨rfl, hb2⟩
              have k1' := (hb2.cell (p := ⟨g, q + k * 12 + 1, none⟩) hg2).trans k1
              have HB3 := hid (HB2.out.trans (hb2.mono HB2.out.size))
              clear hb2 k0 k1 HCO
              go_wp2_with fail
              go_roundw
              case rel => exact ⟨k + 1, by omega, by go_num, HB3.out⟩
              case measure => simp [intOf]; omega
            | true =>
              have e2 : (t.toList == [111, 116, 104, 101, 114]) = true := by rw [eq_oth]; exact d3
              cases d4 : decide (o = oth) with
              | true =>
                have e3 : (o.toList == [111, 116, 104, 101, 114]) = true := by rw [eq_oth]; exact d4
                clear d1 d3 d4 hy
                go_wp2_with fail
                refine HCO.out.mono ?_
                rintro e w2 ⟨rfl, hb2⟩
                have k1' := (hb2.cell (p := ⟨g, q + k * 12 + 1, none⟩) hg2).trans k1
                have HB3 := hid (HB2.out.trans (hb2.mono HB2.out.size))
                clear hb2 k0 k1 HCO
                go_wp2_with fail
                go_roundw
                case rel => exact ⟨k + 1, by omega, by go_num, HB3.out⟩
                case measure => simp [intOf]; omega
              | false =>
                have e3 : (o.toList == [111, 116, 104, 101, 114]) = false := by rw [eq_oth]; exact d4
                have d2 : decide (t = o) = false := by
                  rw [decide_eq_false_iff_not] at d4 ⊢
                  rw [decide_eq_true_iff] at d3
                  intro e; exact d4 (e ▸ d3)
                rw [d1, d2, d3] at hy
                clear d1 d2 d3 d4
                cases x <;> (
                  simp at hy
                  subst hy
                  go_wp2_with fail
                  refine HCO.out.mono ?_
                  rintro e w2 ⟨rfl, hb2⟩
                  have k1' := (hb2.cell (p := ⟨g, q + k * 12 + 1, none⟩) hg2).trans k1
                  have HB3 := hid (HB2.out.trans (hb2.mono HB2.out.size))
                  clear hb2 k0 k1 HCO
                  go_wp2_with fail
                  go_roundw
                  case rel => exact ⟨k + 1, by omega, by go_num, HB3.out⟩
                  case measure => simp [intOf]; omega)
    · obtain rfl : k = n := by omega
      go_wp2_with fail
      refine (live_look _).mono ?_
      rintro e w2 ⟨rfl, hb2⟩
      have HB2 := hid (HB.out.trans (hb2.mono HB.out.size))
      clear hb2
      go_wp2_with fail
      go_ret
      exact ⟨rfl, HB2.out⟩

end Go.Proofs.Ytcedbgoopolmdaa.RulI
