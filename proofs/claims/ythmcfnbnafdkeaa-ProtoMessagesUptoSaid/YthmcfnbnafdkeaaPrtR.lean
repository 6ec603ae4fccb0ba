/- Which requests are right, by the document. -/
import Derived.Test.YthmcfnbnafdkeaaPrtA
import Derived.Test.YthmcfnbnafdkeaaTxt
import Derived.Test.YthmcfnbnafdkeaaBase
import Derived.Laws.StructEq
import Derived.Deep.QuietTactic
import Derived.BigQuiet
namespace Go.Proofs.Ythmcfnbnafdkeaa.PrtR
open Go.ChangeShapes Go.WideShapes Go.ChangeAt Go.RowKit Base RulA Txt PrtA
set_option linter.unusedVariables false
set_option linter.unusedSimpArgs false

/-- the document's -/
theorem eqb (a b : Int) : (a == b) = decide (a = b) := rfl

theorem szy {s : ByteArray} (h : (s.size : Int) ≤ 64) : decide (s.size ≤ 64) = true := decide_eq_true (by omega)
theorem szn {s : ByteArray} (h : 64 < (s.size : Int)) : decide (s.size ≤ 64) = false := decide_eq_false (by omega)

theorem flow_words (id want flow count token : Int) (text : ByteArray) : rightQ ⟨id, want, flow, count, text, token⟩ = (inR id 0 2147483647 && wantQ ⟨id, want, flow, count, text, token⟩) := rfl

set_option maxRecDepth 20000 in
set_option maxHeartbeats 4000000 in
theorem rright_any (id want flow count token : Int) (text : ByteArray) (w : World) (hs : text.size ≤ maxLen) (HN : Hid (∀ w, Calls Try.prog 64 #[.string text] w fun e w' => e = .returned (.bool (nameB text)) ∧ w = w')) :
    Calls Try.prog 34 #[.agg #[.int .i64 id, .int .u8 want, .int .i64 flow, .int .i64 count, .string text, .int .i64 token]] w fun e w' => e = .returned (.bool (rightQ ⟨id, want, flow, count, text, token⟩)) ∧ Below w.heap.size w w' := by
  have HI := hid (fun w => rin_any id 0 2147483647 w)
  have H1 := hid (fun w => rin_any flow 1 1099511627776 w)
  have H2 := hid (fun w => rin_any count 1 1099511627776 w)
  have HT := hid (fun w => rin_any token 1 2147483647 w)
  have hsz : text.size ≤ 9223372036854775807 := by unfold maxLen at hs; omega
  clear hs
  rw [flow_words]
  generalize inR id 0 2147483647 = b1 at *
  cases b1
  · go_enter Try.func34, Try.ntmps34
    go_wp2_with (first
        | (go_at_call 63; (first | with_reducible refine (HI.out _).mono ?_ | with_reducible refine (H1.out _).mono ?_ | with_reducible refine (H2.out _).mono ?_ | with_reducible refine (HT.out _).mono ?_); rintro e w1 ⟨rfl, rfl⟩)
        | (go_at_call 64; refine (HN.out _).mono ?_; rintro e w1 ⟨rfl, rfl⟩))
    all_goals go_ret
    all_goals exact ⟨rfl, (by repeat (first | (with_reducible exact Below.refl _ _) | (with_reducible refine Below.setCell ?_ (by first | (simp; done) | (simp; omega) | omega) _) | (with_reducible refine Below.alloc ?_ (by first | (simp; done) | (simp; omega) | omega) _) | (with_reducible refine Below.drew ?_)))⟩
  · by_cases h1 : want = 1
    · subst h1
      have HW : Hid (wantQ ⟨id, 1, flow, count, text, token⟩ = ((inR flow 1 1099511627776 && inR count 1 1099511627776) && emptyQ text && decide (token = 0))) := hid (by simp [wantQ, flowQ])
      rw [HW.out]
      clear HW
      generalize inR flow 1 1099511627776 = b1 at *
      generalize inR count 1 1099511627776 = b2 at *
      cases b1 <;> cases b2
      all_goals go_enter Try.func34, Try.ntmps34
      all_goals go_wp2_with (first
        | (go_at_call 63; (first | with_reducible refine (HI.out _).mono ?_ | with_reducible refine (H1.out _).mono ?_ | with_reducible refine (H2.out _).mono ?_ | with_reducible refine (HT.out _).mono ?_); rintro e w1 ⟨rfl, rfl⟩)
        | (go_at_call 64; refine (HN.out _).mono ?_; rintro e w1 ⟨rfl, rfl⟩))
      all_goals go_ret
      all_goals exact ⟨by first | (simp_all; done) | (rw [emptyQ_yes (by assumption)]; simp_all [eqb]; done) | (rw [emptyQ_no (by assumption)]; simp_all [eqb]; done) | (rw [szy (by assumption)]; simp_all [eqb]; done) | (rw [szn (by assumption)]; simp_all [eqb]; done) | (simp_all [eqb]; done), (by repeat (first | (with_reducible exact Below.refl _ _) | (with_reducible refine Below.setCell ?_ (by first | (simp; done) | (simp; omega) | omega) _) | (with_reducible refine Below.alloc ?_ (by first | (simp; done) | (simp; omega) | omega) _) | (with_reducible refine Below.drew ?_)))⟩
    by_cases h3 : want = 3
    · subst h3
      have HW : Hid (wantQ ⟨id, 3, flow, count, text, token⟩ = ((inR flow 1 1099511627776 && inR count 1 1099511627776) && emptyQ text && decide (token = 0))) := hid (by simp [wantQ, flowQ])
      rw [HW.out]
      clear HW
      generalize inR flow 1 1099511627776 = b1 at *
      generalize inR count 1 1099511627776 = b2 at *
      cases b1 <;> cases b2
      all_goals go_enter Try.func34, Try.ntmps34
      all_goals go_wp2_with (first
        | (go_at_call 63; (first | with_reducible refine (HI.out _).mono ?_ | with_reducible refine (H1.out _).mono ?_ | with_reducible refine (H2.out _).mono ?_ | with_reducible refine (HT.out _).mono ?_); rintro e w1 ⟨rfl, rfl⟩)
        | (go_at_call 64; refine (HN.out _).mono ?_; rintro e w1 ⟨rfl, rfl⟩))
      all_goals go_ret
      all_goals exact ⟨by first | (simp_all; done) | (rw [emptyQ_yes (by assumption)]; simp_all [eqb]; done) | (rw [emptyQ_no (by assumption)]; simp_all [eqb]; done) | (rw [szy (by assumption)]; simp_all [eqb]; done) | (rw [szn (by assumption)]; simp_all [eqb]; done) | (simp_all [eqb]; done), (by repeat (first | (with_reducible exact Below.refl _ _) | (with_reducible refine Below.setCell ?_ (by first | (simp; done) | (simp; omega) | omega) _) | (with_reducible refine Below.alloc ?_ (by first | (simp; done) | (simp; omega) | omega) _) | (with_reducible refine Below.drew ?_)))⟩
    by_cases h2 : want = 2
    · subst h2
      have HW : Hid (wantQ ⟨id, 2, flow, count, text, token⟩ = ((inR flow 1 1099511627776 && inR count 1 1099511627776) && decide (text.size ≤ 64) && decide (token = 0))) := hid (by simp [wantQ, flowQ])
      rw [HW.out]
      clear HW
      generalize inR flow 1 1099511627776 = b1 at *
      generalize inR count 1 1099511627776 = b2 at *
      cases b1 <;> cases b2
      all_goals go_enter Try.func34, Try.ntmps34
      all_goals go_wp2_with (first
        | (go_at_call 63; (first | with_reducible refine (HI.out _).mono ?_ | with_reducible refine (H1.out _).mono ?_ | with_reducible refine (H2.out _).mono ?_ | with_reducible refine (HT.out _).mono ?_); rintro e w1 ⟨rfl, rfl⟩)
        | (go_at_call 64; refine (HN.out _).mono ?_; rintro e w1 ⟨rfl, rfl⟩))
      all_goals go_ret
      all_goals exact ⟨by first | (simp_all; done) | (rw [emptyQ_yes (by assumption)]; simp_all [eqb]; done) | (rw [emptyQ_no (by assumption)]; simp_all [eqb]; done) | (rw [szy (by assumption)]; simp_all [eqb]; done) | (rw [szn (by assumption)]; simp_all [eqb]; done) | (simp_all [eqb]; done), (by repeat (first | (with_reducible exact Below.refl _ _) | (with_reducible refine Below.setCell ?_ (by first | (simp; done) | (simp; omega) | omega) _) | (with_reducible refine Below.alloc ?_ (by first | (simp; done) | (simp; omega) | omega) _) | (with_reducible refine Below.drew ?_)))⟩
    by_cases h4 : want = 4
    · subst h4
      have HW : Hid (wantQ ⟨id, 4, flow, count, text, token⟩ = ((decide (flow = 0) && decide (count = 0)) && emptyQ text && inR token 1 2147483647)) := hid (by simp [wantQ, noneQ])
      rw [HW.out]
      clear HW
      generalize inR token 1 2147483647 = b at *
      generalize inR flow 1 1099511627776 = b1 at *
      generalize inR count 1 1099511627776 = b2 at *
      cases b <;> cases b1 <;> cases b2
      all_goals go_enter Try.func34, Try.ntmps34
      all_goals go_wp2_with (first
        | (go_at_call 63; (first | with_reducible refine (HI.out _).mono ?_ | with_reducible refine (H1.out _).mono ?_ | with_reducible refine (H2.out _).mono ?_ | with_reducible refine (HT.out _).mono ?_); rintro e w1 ⟨rfl, rfl⟩)
        | (go_at_call 64; refine (HN.out _).mono ?_; rintro e w1 ⟨rfl, rfl⟩))
      all_goals go_ret
      all_goals exact ⟨by first | (simp_all; done) | (rw [emptyQ_yes (by assumption)]; simp_all [eqb]; done) | (rw [emptyQ_no (by assumption)]; simp_all [eqb]; done) | (rw [szy (by assumption)]; simp_all [eqb]; done) | (rw [szn (by assumption)]; simp_all [eqb]; done) | (simp_all [eqb]; done), (by repeat (first | (with_reducible exact Below.refl _ _) | (with_reducible refine Below.setCell ?_ (by first | (simp; done) | (simp; omega) | omega) _) | (with_reducible refine Below.alloc ?_ (by first | (simp; done) | (simp; omega) | omega) _) | (with_reducible refine Below.drew ?_)))⟩
    by_cases h5 : want = 5
    · subst h5
      have HW : Hid (wantQ ⟨id, 5, flow, count, text, token⟩ = ((decide (flow = 0) && decide (count = 0)) && nameB text && decide (token = 0))) := hid (by simp [wantQ, noneQ])
      rw [HW.out]
      clear HW
      generalize nameB text = b at *
      generalize inR flow 1 1099511627776 = b1 at *
      generalize inR count 1 1099511627776 = b2 at *
      cases b <;> cases b1 <;> cases b2
      all_goals go_enter Try.func34, Try.ntmps34
      all_goals go_wp2_with (first
        | (go_at_call 63; (first | with_reducible refine (HI.out _).mono ?_ | with_reducible refine (H1.out _).mono ?_ | with_reducible refine (H2.out _).mono ?_ | with_reducible refine (HT.out _).mono ?_); rintro e w1 ⟨rfl, rfl⟩)
        | (go_at_call 64; refine (HN.out _).mono ?_; rintro e w1 ⟨rfl, rfl⟩))
      all_goals go_ret
      all_goals exact ⟨by first | (simp_all; done) | (rw [emptyQ_yes (by assumption)]; simp_all [eqb]; done) | (rw [emptyQ_no (by assumption)]; simp_all [eqb]; done) | (rw [szy (by assumption)]; simp_all [eqb]; done) | (rw [szn (by assumption)]; simp_all [eqb]; done) | (simp_all [eqb]; done), (by repeat (first | (with_reducible exact Below.refl _ _) | (with_reducible refine Below.setCell ?_ (by first | (simp; done) | (simp; omega) | omega) _) | (with_reducible refine Below.alloc ?_ (by first | (simp; done) | (simp; omega) | omega) _) | (with_reducible refine Below.drew ?_)))⟩
    have HW : Hid (wantQ ⟨id, want, flow, count, text, token⟩ = false) := hid (by simp [wantQ, h1, h2, h3, h4, h5])
    rw [HW.out]
    have g1 : (want == 1) = false := by simpa using h1
    have g2 : (want == 2) = false := by simpa using h2
    have g3 : (want == 3) = false := by simpa using h3
    have g4 : (want == 4) = false := by simpa using h4
    have g5 : (want == 5) = false := by simpa using h5
    generalize inR flow 1 1099511627776 = b1 at *
    generalize inR count 1 1099511627776 = b2 at *
    cases b1 <;> cases b2
    all_goals go_enter Try.func34, Try.ntmps34
    all_goals go_wp2_with (first
        | (go_at_call 63; (first | with_reducible refine (HI.out _).mono ?_ | with_reducible refine (H1.out _).mono ?_ | with_reducible refine (H2.out _).mono ?_ | with_reducible refine (HT.out _).mono ?_); rintro e w1 ⟨rfl, rfl⟩)
        | (go_at_call 64; refine (HN.out _).mono ?_; rintro e w1 ⟨rfl, rfl⟩))
    all_goals go_ret
    all_goals exact ⟨rfl, (by repeat (first | (with_reducible exact Below.refl _ _) | (with_reducible refine Below.setCell ?_ (by first | (simp; done) | (simp; omega) | omega) _) | (with_reducible refine Below.alloc ?_ (by first | (simp; done) | (simp; omega) | omega) _) | (with_reducible refine Below.drew ?_)))⟩

end Go.Proofs.Ythmcfnbnafdkeaa.PrtR
