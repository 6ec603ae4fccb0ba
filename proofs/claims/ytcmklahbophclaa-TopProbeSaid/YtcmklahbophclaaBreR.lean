/- Breakers: which rule is right (rules.Break). -/
import Derived.Test.YtcmklahbophclaaBreA
import Derived.Test.YtcmklahbophclaaRulA
import Derived.Deep.RegionHeld3
import Derived.Deep.DeepCutAuto
namespace Go.Proofs.Ytcmklahbophclaa.BreR
set_option linter.unusedVariables false
open Go.ChangeShapes Go.WideShapes Go.ChangeAt Go.RowKit Base BreP BreA RulA

theorem kc {w1 w2 : World} {p o : Nat} {v : Value} (h2 : Below w1.heap.size w1 w2) (h : w1.cell? ⟨p, o, none⟩ = some v) : w2.cell? ⟨p, o, none⟩ = some v :=
  (h2.cell (p := ⟨p, o, none⟩) (World.block_lt_of_cell? _ _ h)).trans h

def okCount (r : Rule) : Bool := decide (r.g ≤ 2) && (if r.g = 2 then inR r.count 0 1099511627776 else inR r.count 0 1000) && inR r.least 1 1099511627776
def okLast (r : Rule) : Bool := (if r.g = 0 then inIf true r.slow 1 3600000000 else inIf false r.slow 1 3600000000) && inR r.width 1000000 120000000 && inR r.rcv 1000000 3600000000
def refR (r : Rule) : Int := if nameB r.nm then (if okCount r && okLast r then 0 else 31) else 10

set_option maxRecDepth 20000 in
set_option maxHeartbeats 2000000 in
theorem mayCount_core (nm : ByteArray) (g : Nat) (ct sl ls wd rc : Int) (b1 b2 b3 : Bool) (r : Bool) (R : Hid ((decide (g ≤ 2) && (if g = 2 then b1 else b3) && b2) = r)) (w : World) (H1 : Hid (∀ w, Calls Try.prog 98 #[.int .i64 ct, .int .i64 0, .int .i64 1099511627776] w fun e w' => e = .returned (.bool b1) ∧ w = w')) (H2 : Hid (∀ w, Calls Try.prog 98 #[.int .i64 ls, .int .i64 1, .int .i64 1099511627776] w fun e w' => e = .returned (.bool b2) ∧ w = w')) (H3 : Hid (∀ w, Calls Try.prog 98 #[.int .i64 ct, .int .i64 0, .int .i64 1000] w fun e w' => e = .returned (.bool b3) ∧ w = w')) :
    Calls Try.prog 76 #[.agg #[.string nm, .int .u8 g, .int .i64 ct, .int .i64 sl, .int .i64 ls, .int .i64 wd, .int .i64 rc]] w fun e w' => e = .returned (.bool r) ∧ Below w.heap.size w w' := by
  by_cases s2 : g = 2
  · subst s2
    cases b1 <;> cases b2 <;> (
      go_enter Try.func76, Try.ntmps76
      go_wp2_with (go_at_call 98; first | ((with_reducible refine (H1.out _).mono ?_); rintro e w1 ⟨rfl, rfl⟩) | ((with_reducible refine (H2.out _).mono ?_); rintro e w1 ⟨rfl, rfl⟩) | ((with_reducible refine (H3.out _).mono ?_); rintro e w1 ⟨rfl, rfl⟩))
      go_ret
      exact ⟨ret_bool (by rw [← R.out]; rfl), (by repeat (first | (with_reducible exact Below.refl _ _) | (with_reducible refine Below.setCell ?_ (by first | (simp; done) | (simp; omega) | omega) _) | (with_reducible refine Below.alloc ?_ (by first | (simp; done) | (simp; omega) | omega) _) | (with_reducible refine Below.drew ?_) | (with_reducible refine below_drewN ?_ _)))⟩)
  · have n2 : ((g : Int) == 2) = false := by simp; omega
    by_cases s1 : g ≤ 2
    · have n3 : decide ((g : Int) ≤ 2) = true := by simp; omega
      have D : Hid (decide (g ≤ 2) = true ∧ ¬ g = 2) := hid ⟨decide_eq_true s1, s2⟩
      clear s1 s2
      cases b3 <;> cases b2 <;> (
        go_enter Try.func76, Try.ntmps76
        go_wp2_with (go_at_call 98; first | ((with_reducible refine (H1.out _).mono ?_); rintro e w1 ⟨rfl, rfl⟩) | ((with_reducible refine (H2.out _).mono ?_); rintro e w1 ⟨rfl, rfl⟩) | ((with_reducible refine (H3.out _).mono ?_); rintro e w1 ⟨rfl, rfl⟩))
        go_ret
        exact ⟨ret_bool (by rw [← R.out]; rw [D.out.1, if_neg D.out.2]; rfl), (by repeat (first | (with_reducible exact Below.refl _ _) | (with_reducible refine Below.setCell ?_ (by first | (simp; done) | (simp; omega) | omega) _) | (with_reducible refine Below.alloc ?_ (by first | (simp; done) | (simp; omega) | omega) _) | (with_reducible refine Below.drew ?_) | (with_reducible refine below_drewN ?_ _)))⟩)
    · have n3 : decide ((g : Int) ≤ 2) = false := by simp; omega
      have D : Hid (decide (g ≤ 2) = false) := hid (decide_eq_false s1)
      clear s1 s2
      go_enter Try.func76, Try.ntmps76
      go_wp2_with (go_at_call 98; first | ((with_reducible refine (H1.out _).mono ?_); rintro e w1 ⟨rfl, rfl⟩) | ((with_reducible refine (H2.out _).mono ?_); rintro e w1 ⟨rfl, rfl⟩) | ((with_reducible refine (H3.out _).mono ?_); rintro e w1 ⟨rfl, rfl⟩))
      go_ret
      exact ⟨ret_bool (by rw [← R.out]; rw [D.out]; rfl), (by repeat (first | (with_reducible exact Below.refl _ _) | (with_reducible refine Below.setCell ?_ (by first | (simp; done) | (simp; omega) | omega) _) | (with_reducible refine Below.alloc ?_ (by first | (simp; done) | (simp; omega) | omega) _) | (with_reducible refine Below.drew ?_) | (with_reducible refine below_drewN ?_ _)))⟩

set_option maxRecDepth 20000 in
set_option maxHeartbeats 2000000 in
theorem mayLast_core (nm : ByteArray) (g : Nat) (ct sl ls wd rc : Int) (b1 b2 b3 b4 : Bool) (r : Bool) (R : Hid (((if g = 0 then b1 else b4) && b2 && b3) = r)) (w : World) (H1 : Hid (∀ w, Calls Try.prog 99 #[.bool true, .int .i64 sl, .int .i64 1, .int .i64 3600000000] w fun e w' => e = .returned (.bool b1) ∧ w = w')) (H4 : Hid (∀ w, Calls Try.prog 99 #[.bool false, .int .i64 sl, .int .i64 1, .int .i64 3600000000] w fun e w' => e = .returned (.bool b4) ∧ w = w')) (H2 : Hid (∀ w, Calls Try.prog 98 #[.int .i64 wd, .int .i64 1000000, .int .i64 120000000] w fun e w' => e = .returned (.bool b2) ∧ w = w')) (H3 : Hid (∀ w, Calls Try.prog 98 #[.int .i64 rc, .int .i64 1000000, .int .i64 3600000000] w fun e w' => e = .returned (.bool b3) ∧ w = w')) :
    Calls Try.prog 77 #[.agg #[.string nm, .int .u8 g, .int .i64 ct, .int .i64 sl, .int .i64 ls, .int .i64 wd, .int .i64 rc]] w fun e w' => e = .returned (.bool r) ∧ Below w.heap.size w w' := by
  by_cases s0 : g = 0
  · subst s0
    cases b1 <;> cases b2 <;> cases b3 <;> (
      go_enter Try.func77, Try.ntmps77
      go_wp2_with (first | (go_at_call 99; first | ((with_reducible refine (H1.out _).mono ?_); rintro e w1 ⟨rfl, rfl⟩) | ((with_reducible refine (H4.out _).mono ?_); rintro e w1 ⟨rfl, rfl⟩)) | (go_at_call 98; first | ((with_reducible refine (H2.out _).mono ?_); rintro e w1 ⟨rfl, rfl⟩) | ((with_reducible refine (H3.out _).mono ?_); rintro e w1 ⟨rfl, rfl⟩)))
      go_ret
      exact ⟨ret_bool (by rw [← R.out]; rfl), (by repeat (first | (with_reducible exact Below.refl _ _) | (with_reducible refine Below.setCell ?_ (by first | (simp; done) | (simp; omega) | omega) _) | (with_reducible refine Below.alloc ?_ (by first | (simp; done) | (simp; omega) | omega) _) | (with_reducible refine Below.drew ?_) | (with_reducible refine below_drewN ?_ _)))⟩)
  · have n0 : ((g : Int) == 0) = false := by simp; omega
    have D : Hid (¬ g = 0) := hid s0
    clear s0
    cases b4 <;> cases b2 <;> cases b3 <;> (
      go_enter Try.func77, Try.ntmps77
      go_wp2_with (first | (go_at_call 99; first | ((with_reducible refine (H1.out _).mono ?_); rintro e w1 ⟨rfl, rfl⟩) | ((with_reducible refine (H4.out _).mono ?_); rintro e w1 ⟨rfl, rfl⟩)) | (go_at_call 98; first | ((with_reducible refine (H2.out _).mono ?_); rintro e w1 ⟨rfl, rfl⟩) | ((with_reducible refine (H3.out _).mono ?_); rintro e w1 ⟨rfl, rfl⟩)))
      go_ret
      exact ⟨ret_bool (by rw [← R.out]; rw [if_neg D.out]; rfl), (by repeat (first | (with_reducible exact Below.refl _ _) | (with_reducible refine Below.setCell ?_ (by first | (simp; done) | (simp; omega) | omega) _) | (with_reducible refine Below.alloc ?_ (by first | (simp; done) | (simp; omega) | omega) _) | (with_reducible refine Below.drew ?_) | (with_reducible refine below_drewN ?_ _)))⟩)

set_option maxRecDepth 20000 in
set_option maxHeartbeats 2000000 in
theorem look_core (nm : ByteArray) (g : Nat) (ct sl ls wd rc : Int) (b1 b2 b3 : Bool) (z : Int) (w : World) (Z : Hid ((if b1 then (if b2 && b3 then 0 else 31) else 10) = z))
    (H1 : Hid (∀ w, Calls Try.prog 75 #[.string nm] w fun e w' => e = .returned (.bool b1) ∧ w = w'))
    (H2 : Hid (∀ w, Calls Try.prog 76 #[.agg #[.string nm, .int .u8 g, .int .i64 ct, .int .i64 sl, .int .i64 ls, .int .i64 wd, .int .i64 rc]] w fun e w' => e = .returned (.bool b2) ∧ Below w.heap.size w w'))
    (H3 : Hid (∀ w, Calls Try.prog 77 #[.agg #[.string nm, .int .u8 g, .int .i64 ct, .int .i64 sl, .int .i64 ls, .int .i64 wd, .int .i64 rc]] w fun e w' => e = .returned (.bool b3) ∧ Below w.heap.size w w')) :
    Calls Try.prog 52 #[.agg #[.string nm, .int .u8 g, .int .i64 ct, .int .i64 sl, .int .i64 ls, .int .i64 wd, .int .i64 rc]] w fun e w' => e = .returned (.int .i64 z) ∧ Below w.heap.size w w' := by
  have hB : Below w.heap.size w (w.alloc (.cells #[.string nm, .int .u8 g, .int .i64 ct, .int .i64 sl, .int .i64 ls, .int .i64 wd, .int .i64 rc] 103)) := (Below.refl _ _).alloc (Nat.le_refl _) _
  have k0 : (w.alloc (.cells #[.string nm, .int .u8 g, .int .i64 ct, .int .i64 sl, .int .i64 ls, .int .i64 wd, .int .i64 rc] 103)).cell? ⟨w.heap.size, 0, none⟩ = some (.string nm) := by go_cell
  have k1 : (w.alloc (.cells #[.string nm, .int .u8 g, .int .i64 ct, .int .i64 sl, .int .i64 ls, .int .i64 wd, .int .i64 rc] 103)).cell? ⟨w.heap.size, 1, none⟩ = some (.int .u8 (g : Nat)) := by go_cell
  have k2 : (w.alloc (.cells #[.string nm, .int .u8 g, .int .i64 ct, .int .i64 sl, .int .i64 ls, .int .i64 wd, .int .i64 rc] 103)).cell? ⟨w.heap.size, 2, none⟩ = some (.int .i64 ct) := by go_cell
  have k3 : (w.alloc (.cells #[.string nm, .int .u8 g, .int .i64 ct, .int .i64 sl, .int .i64 ls, .int .i64 wd, .int .i64 rc] 103)).cell? ⟨w.heap.size, 3, none⟩ = some (.int .i64 sl) := by go_cell
  have k4 : (w.alloc (.cells #[.string nm, .int .u8 g, .int .i64 ct, .int .i64 sl, .int .i64 ls, .int .i64 wd, .int .i64 rc] 103)).cell? ⟨w.heap.size, 4, none⟩ = some (.int .i64 ls) := by go_cell
  have k5 : (w.alloc (.cells #[.string nm, .int .u8 g, .int .i64 ct, .int .i64 sl, .int .i64 ls, .int .i64 wd, .int .i64 rc] 103)).cell? ⟨w.heap.size, 5, none⟩ = some (.int .i64 wd) := by go_cell
  have k6 : (w.alloc (.cells #[.string nm, .int .u8 g, .int .i64 ct, .int .i64 sl, .int .i64 ls, .int .i64 wd, .int .i64 rc] 103)).cell? ⟨w.heap.size, 6, none⟩ = some (.int .i64 rc) := by go_cell
  go_enter Try.func52, Try.ntmps52
  go_upto_region 1 with fail
  generalize (w.alloc (.cells #[.string nm, .int .u8 g, .int .i64 ct, .int .i64 sl, .int .i64 ls, .int .i64 wd, .int .i64 rc] 103)) = wb at *
  have HB := hid hB
  clear hB
  cases b1 with
  | false =>
    go_wp2_with fail
    refine (H1.out _).mono ?_
    rintro e w1 ⟨rfl, rfl⟩
    go_wp2_with fail
    go_ret
    exact ⟨ret_int Z.out, HB.out⟩
  | true =>
    go_wp2_with fail
    refine (H1.out _).mono ?_
    rintro e w1 ⟨rfl, rfl⟩
    go_wp2_with fail
    refine (H2.out _).mono ?_
    rintro e w2 ⟨rfl, hb⟩
    have j0 : w2.cell? ⟨w.heap.size, 0, none⟩ = some (.string nm) := kc hb (by assumption)
    have j1 : w2.cell? ⟨w.heap.size, 1, none⟩ = some (.int .u8 (g : Nat)) := kc hb (by assumption)
    have j2 : w2.cell? ⟨w.heap.size, 2, none⟩ = some (.int .i64 ct) := kc hb (by assumption)
    have j3 : w2.cell? ⟨w.heap.size, 3, none⟩ = some (.int .i64 sl) := kc hb (by assumption)
    have j4 : w2.cell? ⟨w.heap.size, 4, none⟩ = some (.int .i64 ls) := kc hb (by assumption)
    have j5 : w2.cell? ⟨w.heap.size, 5, none⟩ = some (.int .i64 wd) := kc hb (by assumption)
    have j6 : w2.cell? ⟨w.heap.size, 6, none⟩ = some (.int .i64 rc) := kc hb (by assumption)
    have HB2 : Hid (Below w.heap.size w w2) := hid (HB.out.trans (hb.mono HB.out.size))
    clear hb k0 k1 k2 k3 k4 k5 k6
    cases b2 with
    | false =>
      go_wp2_with fail
      go_ret
      exact ⟨ret_int Z.out, HB2.out⟩
    | true =>
      go_wp2_with fail
      refine (H3.out _).mono ?_
      rintro e w3 ⟨rfl, hb⟩
      have HB3 : Hid (Below w.heap.size w w3) := hid (HB2.out.trans (hb.mono HB2.out.size))
      clear hb j0 j1 j2 j3 j4 j5 j6
      cases b3 with
      | false =>
        go_wp2_with fail
        go_ret
        exact ⟨ret_int Z.out, HB3.out⟩
      | true =>
        go_wp2_with fail
        go_ret
        exact ⟨ret_int Z.out, HB3.out⟩

theorem look_any (r : Rule) (hs : r.nm.size ≤ maxLen) (w : World) :
    Calls Try.prog 52 #[rv r] w fun e w' => e = .returned (.int .i64 (refR r)) ∧ Below w.heap.size w w' := by
  obtain ⟨nm, g, ct, sl, ls, wd, rc⟩ := r
  exact look_core nm g ct sl ls wd rc (nameB nm) (okCount ⟨nm, g, ct, sl, ls, wd, rc⟩) (okLast ⟨nm, g, ct, sl, ls, wd, rc⟩) _ w (hid rfl) (hid fun w => IsName_any nm w hs)
    (hid fun w => mayCount_core nm g ct sl ls wd rc _ _ _ _ (hid rfl) w (hid (within_any _ _ _)) (hid (within_any _ _ _)) (hid (within_any _ _ _)))
    (hid fun w => mayLast_core nm g ct sl ls wd rc _ _ _ _ _ (hid rfl) w (hid (withinIf_any _ _ _ _)) (hid (withinIf_any _ _ _ _)) (hid (within_any _ _ _)) (hid (within_any _ _ _)))

set_option maxRecDepth 20000 in
set_option maxHeartbeats 2000000 in
theorem break_core (nm : ByteArray) (g : Nat) (ct sl ls wd rc : Int) (z : Int) (w : World) (H : Hid (∀ w, Calls Try.prog 52 #[.agg #[.string nm, .int .u8 g, .int .i64 ct, .int .i64 sl, .int .i64 ls, .int .i64 wd, .int .i64 rc]] w fun e w' => e = .returned (.int .i64 z) ∧ Below w.heap.size w w')) :
    Calls Try.prog 29 #[.agg #[.string nm, .int .u8 g, .int .i64 ct, .int .i64 sl, .int .i64 ls, .int .i64 wd, .int .i64 rc]] w fun e w' => e = .returned (.int .i64 z) ∧ Below w.heap.size w w' := by
  go_enter Try.func29, Try.ntmps29
  go_wp2_with fail
  refine (H.out _).mono ?_
  rintro e w2 ⟨rfl, hb⟩
  have HB2 : Hid (Below w.heap.size w w2) := hid (((Below.refl _ w).alloc (Nat.le_refl _) _).trans (hb.mono (by simp)))
  clear hb
  go_wp2_with fail
  go_ret
  exact ⟨rfl, HB2.out⟩

/-- rules.Break -/
theorem Break_any (r : Rule) (hs : r.nm.size ≤ maxLen) (w : World) :
    Calls Try.prog 29 #[rv r] w fun e w' => e = .returned (.int .i64 (refR r)) ∧ Below w.heap.size w w' := by
  have h := look_any r hs
  obtain ⟨nm, g, ct, sl, ls, wd, rc⟩ := r
  exact break_core nm g ct sl ls wd rc _ w (hid h)

theorem good_of {r : Rule} (h : refR r = 0) : RuleGood r := by
  unfold refR at h
  split at h
  · split at h
    · rename_i q
      unfold okCount okLast at q
      simp only [Bool.and_eq_true, decide_eq_true_eq] at q
      obtain ⟨⟨⟨q1, q2⟩, q3⟩, ⟨q4, q5⟩, q6⟩ := q
      have a := inR_iff.1 q3
      have b := inR_iff.1 q5
      have c := inR_iff.1 q6
      refine ⟨by omega, by omega, fun hg => ?_, ?_, ?_, by omega, by omega⟩
      · rw [if_pos hg] at q4
        have := inR_iff.1 (show inR r.slow 1 3600000000 = true from q4)
        omega
      · split at q2 <;> (have := inR_iff.1 q2; omega)
      · split at q2 <;> (have := inR_iff.1 q2; omega)
    · simp at h
  · simp at h
theorem live_right : refR ⟨⟨#[97]⟩, 1, 500, 0, 2, 1000000, 1000000⟩ = 0 := by decide

end Go.Proofs.Ytcmklahbophclaa.BreR
