/- Requests and answers: which are right. -/
import Derived.Test.YthmcfnbnafdkeaaRulA
import Derived.Test.YthmcfnbnafdkeaaTxt
import Derived.Test.YthmcfnbnafdkeaaBase
import Derived.Laws.StructEq
import Derived.Deep.QuietTactic
import Derived.BigQuiet
namespace Go.Proofs.Ythmcfnbnafdkeaa.PrtA
open Go.ChangeShapes Go.WideShapes Go.ChangeAt Go.RowKit Base RulA Txt
set_option linter.unusedVariables false
set_option linter.unusedSimpArgs false

/-- a request -/
structure Rq where
  id : Int
  want : Int
  flow : Int
  count : Int
  text : ByteArray
  token : Int

def rv (r : Rq) : Value := .agg #[.int .i64 r.id, .int .u8 r.want, .int .i64 r.flow, .int .i64 r.count, .string r.text, .int .i64 r.token]

def flowQ (r : Rq) : Bool := inR r.flow 1 1099511627776 && inR r.count 1 1099511627776
def noneQ (r : Rq) : Bool := decide (r.flow = 0) && decide (r.count = 0)
def emptyQ (s : ByteArray) : Bool := decide (s.size = 0)
def wantQ (r : Rq) : Bool :=
  if r.want = 1 ∨ r.want = 3 then flowQ r && emptyQ r.text && decide (r.token = 0)
  else if r.want = 2 then flowQ r && decide (r.text.size ≤ 64) && decide (r.token = 0)
  else if r.want = 4 then noneQ r && emptyQ r.text && inR r.token 1 2147483647
  else if r.want = 5 then noneQ r && nameB r.text && decide (r.token = 0)
  else false
def rightQ (r : Rq) : Bool := inR r.id 0 2147483647 && wantQ r

theorem empty_toList (s : ByteArray) : s.toList.isEmpty = emptyQ s := by
  unfold emptyQ
  rw [ByteArray.toList_eq]
  obtain ⟨⟨l⟩⟩ := s
  cases l with
  | nil => rfl
  | cons x r => rfl

set_option maxHeartbeats 400000 in
theorem pin_any (n lo hi : Int) (w : World) :
    Calls Try.prog 61 #[.int .i64 n, .int .i64 lo, .int .i64 hi] w fun e w' => e = .returned (.bool (inR n lo hi)) ∧ w = w' := by
  by_cases h1 : lo ≤ n
  · by_cases h2 : n ≤ hi
    · have e : inR n lo hi = true := inR_iff.2 ⟨h1, h2⟩
      rw [e]; clear e
      go_enter Try.func61, Try.ntmps61
      go_wp2
      go_ret
      exact ⟨rfl, rfl⟩
    · have e : inR n lo hi = false := inR_not.2 (by omega)
      rw [e]; clear e
      have h2' : decide (n ≤ hi) = false := by simpa using h2
      clear h2
      go_enter Try.func61, Try.ntmps61
      go_wp2
      go_ret
      exact ⟨rfl, rfl⟩
  · have e : inR n lo hi = false := inR_not.2 (by omega)
    rw [e]; clear e
    have h1' : decide (lo ≤ n) = false := by simpa using h1
    clear h1
    go_enter Try.func61, Try.ntmps61
    go_wp2
    go_ret
    exact ⟨rfl, rfl⟩
set_option maxHeartbeats 400000 in
theorem rin_any (n lo hi : Int) (w : World) :
    Calls Try.prog 63 #[.int .i64 n, .int .i64 lo, .int .i64 hi] w fun e w' => e = .returned (.bool (inR n lo hi)) ∧ w = w' := by
  by_cases h1 : lo ≤ n
  · by_cases h2 : n ≤ hi
    · have e : inR n lo hi = true := inR_iff.2 ⟨h1, h2⟩
      rw [e]; clear e
      go_enter Try.func63, Try.ntmps63
      go_wp2
      go_ret
      exact ⟨rfl, rfl⟩
    · have e : inR n lo hi = false := inR_not.2 (by omega)
      rw [e]; clear e
      have h2' : decide (n ≤ hi) = false := by simpa using h2
      clear h2
      go_enter Try.func63, Try.ntmps63
      go_wp2
      go_ret
      exact ⟨rfl, rfl⟩
  · have e : inR n lo hi = false := inR_not.2 (by omega)
    rw [e]; clear e
    have h1' : decide (lo ≤ n) = false := by simpa using h1
    clear h1
    go_enter Try.func63, Try.ntmps63
    go_wp2
    go_ret
    exact ⟨rfl, rfl⟩

set_option maxHeartbeats 1000000 in
theorem isFlow_any (id want flow count token : Int) (text : ByteArray) (w : World) :
    Calls Try.prog 81 #[.agg #[.int .i64 id, .int .u8 want, .int .i64 flow, .int .i64 count, .string text, .int .i64 token]] w fun e w' => e = .returned (.bool (inR flow 1 1099511627776 && inR count 1 1099511627776)) ∧ w.alloc (.cells #[.int .i64 id, .int .u8 want, .int .i64 flow, .int .i64 count, .string text, .int .i64 token] 51) = w' := by
  have H1 := hid (fun w => pin_any flow 1 1099511627776 w)
  have H2 := hid (fun w => pin_any count 1 1099511627776 w)
  generalize inR flow 1 1099511627776 = b1 at *
  generalize inR count 1 1099511627776 = b2 at *
  cases b1 <;> cases b2
  all_goals go_enter Try.func81, Try.ntmps81
  all_goals go_wp2_with (go_at_call 61; (first | with_reducible refine (H1.out _).mono ?_ | with_reducible refine (H2.out _).mono ?_); rintro e w1 ⟨rfl, rfl⟩)
  all_goals go_ret
  all_goals exact ⟨rfl, rfl⟩

theorem emptyQ_iff {s : ByteArray} : emptyQ s = true ↔ s.toList = [] := by
  rw [← empty_toList]
  exact List.isEmpty_iff
theorem emptyQ_yes {s : ByteArray} (h : s.toList = []) : emptyQ s = true := emptyQ_iff.2 h
theorem emptyQ_no {s : ByteArray} (h : ¬ s.toList = []) : emptyQ s = false := by
  cases he : emptyQ s with
  | true => exact absurd (emptyQ_iff.1 he) h
  | false => rfl

set_option maxRecDepth 20000 in
set_option maxHeartbeats 4000000 in
theorem isWanted_any (id want flow count token : Int) (text : ByteArray) (w : World) (hs : text.size ≤ maxLen) :
    Calls Try.prog 62 #[.agg #[.int .i64 id, .int .u8 want, .int .i64 flow, .int .i64 count, .string text, .int .i64 token]] w fun e w' => e = .returned (.bool (wantQ ⟨id, want, flow, count, text, token⟩)) ∧ Below w.heap.size w w' := by
  have HF := hid (fun w => isFlow_any id want flow count token text w)
  by_cases h1 : want = 1
  · subst h1
    have HW : Hid (wantQ ⟨id, 1, flow, count, text, token⟩ = ((inR flow 1 1099511627776 && inR count 1 1099511627776) && emptyQ text && decide (token = 0))) := hid (by simp [wantQ, flowQ])
    rw [HW.out]
    clear HW
    generalize (inR flow 1 1099511627776 && inR count 1 1099511627776) = b at *
    cases b
    all_goals go_enter Try.func62, Try.ntmps62
    all_goals go_wp2_with fail
    all_goals go_region
    all_goals go_wp2_with (go_at_call 81; refine (HF.out _).mono ?_; rintro e w1 ⟨rfl, rfl⟩)
    all_goals go_ret
    (all_goals first | (exact ⟨by simp [*, emptyQ_yes, emptyQ_no], (by repeat (first | (with_reducible exact Below.refl _ _) | (with_reducible refine Below.setCell ?_ (by first | (simp; done) | (simp; omega) | omega) _) | (with_reducible refine Below.alloc ?_ (by first | (simp; done) | (simp; omega) | omega) _) | (with_reducible refine Below.drew ?_)))⟩) | (exact ⟨by simp_all [emptyQ_iff], (by repeat (first | (with_reducible exact Below.refl _ _) | (with_reducible refine Below.setCell ?_ (by first | (simp; done) | (simp; omega) | omega) _) | (with_reducible refine Below.alloc ?_ (by first | (simp; done) | (simp; omega) | omega) _) | (with_reducible refine Below.drew ?_)))⟩))
  by_cases h3 : want = 3
  · subst h3
    have HW : Hid (wantQ ⟨id, 3, flow, count, text, token⟩ = ((inR flow 1 1099511627776 && inR count 1 1099511627776) && emptyQ text && decide (token = 0))) := hid (by simp [wantQ, flowQ])
    rw [HW.out]
    clear HW
    generalize (inR flow 1 1099511627776 && inR count 1 1099511627776) = b at *
    cases b
    all_goals go_enter Try.func62, Try.ntmps62
    all_goals go_wp2_with fail
    all_goals go_region
    all_goals go_wp2_with (go_at_call 81; refine (HF.out _).mono ?_; rintro e w1 ⟨rfl, rfl⟩)
    all_goals go_ret
    (all_goals first | (exact ⟨by simp [*, emptyQ_yes, emptyQ_no], (by repeat (first | (with_reducible exact Below.refl _ _) | (with_reducible refine Below.setCell ?_ (by first | (simp; done) | (simp; omega) | omega) _) | (with_reducible refine Below.alloc ?_ (by first | (simp; done) | (simp; omega) | omega) _) | (with_reducible refine Below.drew ?_)))⟩) | (exact ⟨by simp_all [emptyQ_iff], (by repeat (first | (with_reducible exact Below.refl _ _) | (with_reducible refine Below.setCell ?_ (by first | (simp; done) | (simp; omega) | omega) _) | (with_reducible refine Below.alloc ?_ (by first | (simp; done) | (simp; omega) | omega) _) | (with_reducible refine Below.drew ?_)))⟩))
  by_cases h2 : want = 2
  · subst h2
    have HW : Hid (wantQ ⟨id, 2, flow, count, text, token⟩ = ((inR flow 1 1099511627776 && inR count 1 1099511627776) && decide (text.size ≤ 64) && decide (token = 0))) := hid (by simp [wantQ, flowQ])
    rw [HW.out]
    clear HW
    generalize (inR flow 1 1099511627776 && inR count 1 1099511627776) = b at *
    unfold maxLen at hs
    cases b
    all_goals go_enter Try.func62, Try.ntmps62
    all_goals go_wp2_with fail
    all_goals go_region
    all_goals go_wp2_with (go_at_call 81; refine (HF.out _).mono ?_; rintro e w1 ⟨rfl, rfl⟩)
    all_goals go_ret
    all_goals exact ⟨by first | (simp_all; done) | (simp_all; omega) | (simp_all; intros; omega), (by repeat (first | (with_reducible exact Below.refl _ _) | (with_reducible refine Below.setCell ?_ (by first | (simp; done) | (simp; omega) | omega) _) | (with_reducible refine Below.alloc ?_ (by first | (simp; done) | (simp; omega) | omega) _) | (with_reducible refine Below.drew ?_)))⟩
  by_cases h4 : want = 4
  · subst h4
    have HW : Hid (wantQ ⟨id, 4, flow, count, text, token⟩ = ((decide (flow = 0) && decide (count = 0)) && emptyQ text && inR token 1 2147483647)) := hid (by simp [wantQ, noneQ])
    rw [HW.out]
    clear HW
    have HT := hid (fun w => pin_any token 1 2147483647 w)
    generalize inR token 1 2147483647 = b at *
    cases b
    all_goals go_enter Try.func62, Try.ntmps62
    all_goals go_wp2_with (go_at_call 61; refine (HT.out _).mono ?_; rintro e w1 ⟨rfl, rfl⟩)
    all_goals go_ret
    all_goals exact ⟨by first | (simp_all [emptyQ_iff]; done) | (simp_all [emptyQ_no]; done) | (simp_all [emptyQ_yes]; done), (by repeat (first | (with_reducible exact Below.refl _ _) | (with_reducible refine Below.setCell ?_ (by first | (simp; done) | (simp; omega) | omega) _) | (with_reducible refine Below.alloc ?_ (by first | (simp; done) | (simp; omega) | omega) _) | (with_reducible refine Below.drew ?_)))⟩
  by_cases h5 : want = 5
  · subst h5
    have HW : Hid (wantQ ⟨id, 5, flow, count, text, token⟩ = ((decide (flow = 0) && decide (count = 0)) && nameB text && decide (token = 0))) := hid (by simp [wantQ, noneQ])
    rw [HW.out]
    clear HW
    have HN := hid (fun w => IsName_any text w hs)
    generalize nameB text = b at *
    cases b
    all_goals go_enter Try.func62, Try.ntmps62
    all_goals go_wp2_with (go_at_call 82; refine (HN.out _).mono ?_; rintro e w1 ⟨rfl, rfl⟩)
    all_goals go_ret
    all_goals exact ⟨by simp_all, (by repeat (first | (with_reducible exact Below.refl _ _) | (with_reducible refine Below.setCell ?_ (by first | (simp; done) | (simp; omega) | omega) _) | (with_reducible refine Below.alloc ?_ (by first | (simp; done) | (simp; omega) | omega) _) | (with_reducible refine Below.drew ?_)))⟩
  have HW : Hid (wantQ ⟨id, want, flow, count, text, token⟩ = false) := hid (by simp [wantQ, h1, h2, h3, h4, h5])
  rw [HW.out]
  have g1 : (want == 1) = false := by simpa using h1
  have g2 : (want == 2) = false := by simpa using h2
  have g3 : (want == 3) = false := by simpa using h3
  have g4 : (want == 4) = false := by simpa using h4
  have g5 : (want == 5) = false := by simpa using h5
  go_enter Try.func62, Try.ntmps62
  go_wp2_with fail
  go_ret
  exact ⟨rfl, (by repeat (first | (with_reducible exact Below.refl _ _) | (with_reducible refine Below.setCell ?_ (by first | (simp; done) | (simp; omega) | omega) _) | (with_reducible refine Below.alloc ?_ (by first | (simp; done) | (simp; omega) | omega) _) | (with_reducible refine Below.drew ?_)))⟩

theorem below_any {W W' : World} (h : Below W.heap.size W W') : Below W.heap.size W W' := h

set_option maxRecDepth 20000 in
set_option maxHeartbeats 1000000 in
theorem right_any (id want flow count token : Int) (text : ByteArray) (w : World) (hs : text.size ≤ maxLen) :
    Calls Try.prog 33 #[.agg #[.int .i64 id, .int .u8 want, .int .i64 flow, .int .i64 count, .string text, .int .i64 token]] w fun e w' => e = .returned (.bool (rightQ ⟨id, want, flow, count, text, token⟩)) ∧ Below w.heap.size w w' := by
  have HI := hid (fun w => pin_any id 0 2147483647 w)
  have HQ := hid (fun w => isWanted_any id want flow count token text w hs)
  have HR : Hid (rightQ ⟨id, want, flow, count, text, token⟩ = (inR id 0 2147483647 && wantQ ⟨id, want, flow, count, text, token⟩)) := hid rfl
  rw [HR.out]
  clear HR hs
  generalize inR id 0 2147483647 = b1 at *
  generalize wantQ ⟨id, want, flow, count, text, token⟩ = b2 at *
  cases b1
  · go_enter Try.func33, Try.ntmps33
    go_wp2_with (go_at_call 61; refine (HI.out _).mono ?_; rintro e w1 ⟨rfl, rfl⟩)
    go_ret
    exact ⟨rfl, (by repeat (first | (with_reducible exact Below.refl _ _) | (with_reducible refine Below.setCell ?_ (by first | (simp; done) | (simp; omega) | omega) _) | (with_reducible refine Below.alloc ?_ (by first | (simp; done) | (simp; omega) | omega) _) | (with_reducible refine Below.drew ?_)))⟩
  · go_enter Try.func33, Try.ntmps33
    go_wp2_with (first
      | (go_at_call 61; refine (HI.out _).mono ?_; rintro e w1 ⟨rfl, rfl⟩)
      | (go_at_call 62; refine (HQ.out _).mono ?_; rintro e w2 ⟨rfl, hb2⟩; have HB := hid hb2; clear hb2))
    go_ret
    exact ⟨by simp, (by repeat (first | (with_reducible exact Below.refl _ _) | (with_reducible refine Below.setCell ?_ (by first | (simp; done) | (simp; omega) | omega) _) | (with_reducible refine Below.alloc ?_ (by first | (simp; done) | (simp; omega) | omega) _) | (with_reducible refine Below.drew ?_) | (with_reducible refine Below.trans ?_ (Below.mono HB.out (by first | (simp; done) | (simp; omega) | omega)))))⟩

end Go.Proofs.Ythmcfnbnafdkeaa.PrtA
