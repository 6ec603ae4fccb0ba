/- System rules, looked at: by the program and by the document. -/
import Derived.Test.YtoilakjlnflpbaaLisA
namespace Go.Proofs.Ytoilakjlnflpbaa.LisD
open Go.ChangeShapes Go.WideShapes Go.ChangeAt Go.RowKit Base RulA Txt ValA LisA
set_option linter.unusedVariables false

def okN (n : Int) : Bool := inR n (-1) 1099511627776
def sysB (x0 x1 x2 x3 x4 : Int) : Bool := okN x0 && okN x1 && okN x2 && okN x3 && okN x4
def sysE (x0 x1 x2 x3 x4 : Int) : Int := if sysB x0 x1 x2 x3 x4 then 0 else 33
def fld (x0 x1 x2 x3 x4 : Int) (i : Nat) : Int := match i with | 0 => x0 | 1 => x1 | 2 => x2 | 3 => x3 | _ => x4
theorem sysB_no (x0 x1 x2 x3 x4 : Int) {k : Nat} (hk : k < 5) (h : okN (fld x0 x1 x2 x3 x4 k) = false) : sysB x0 x1 x2 x3 x4 = false := by
  unfold sysB
  obtain rfl | rfl | rfl | rfl | rfl : k = 0 ∨ k = 1 ∨ k = 2 ∨ k = 3 ∨ k = 4 := by omega
  all_goals (simp only [fld] at h; rw [h]; simp)
theorem sysB_yes (x0 x1 x2 x3 x4 : Int) (h : ∀ k, k < 5 → okN (fld x0 x1 x2 x3 x4 k) = true) : sysB x0 x1 x2 x3 x4 = true := by
  unfold sysB
  have h0 := h 0 (by omega); have h1 := h 1 (by omega); have h2 := h 2 (by omega); have h3 := h 3 (by omega); have h4 := h 4 (by omega)
  simp only [fld] at h0 h1 h2 h3 h4
  rw [h0, h1, h2, h3, h4]; rfl

set_option maxRecDepth 20000 in
set_option maxHeartbeats 1000000 in
theorem slook_any (x0 x1 x2 x3 x4 : Int) (w : World) :
    Calls Try.prog 56 #[.agg #[.int .i64 x0, .int .i64 x1, .int .i64 x2, .int .i64 x3, .int .i64 x4]] w fun e w' => e = .returned (.int .i64 (sysE x0 x1 x2 x3 x4)) ∧ Below w.heap.size w w' := by
  obtain ⟨r, hr⟩ : ∃ r, sysE x0 x1 x2 x3 x4 = r := ⟨_, rfl⟩
  have HR := hid hr
  rw [hr]
  clear hr
  obtain ⟨W, hW⟩ : ∃ W, (w.alloc (.cells #[.int .i64 x0, .int .i64 x1, .int .i64 x2, .int .i64 x3, .int .i64 x4] 89)).alloc (.cells #[.int .i64 x0, .int .i64 x1, .int .i64 x2, .int .i64 x3, .int .i64 x4] 3) = W := ⟨_, rfl⟩
  have HB : Hid (Below w.heap.size w W) := hid (by rw [← hW]; exact ((Below.refl _ w).alloc (Nat.le_refl _) _).alloc (by simp) _)
  have HC : Hid (∀ k, k < 5 → W.cell? ⟨w.heap.size + 1, k, none⟩ = some (.int .i64 (fld x0 x1 x2 x3 x4 k))) := hid (fun k hk => by
    rw [← hW]
    have e : (w.alloc (.cells #[.int .i64 x0, .int .i64 x1, .int .i64 x2, .int .i64 x3, .int .i64 x4] 89)).heap.size = w.heap.size + 1 := by simp
    rw [← e, World.cell?_alloc_new]
    obtain rfl | rfl | rfl | rfl | rfl : k = 0 ∨ k = 1 ∨ k = 2 ∨ k = 3 ∨ k = 4 := by omega
    all_goals rfl)
  go_enter Try.func56, Try.ntmps56
  go_wp2_with fail
  try rw [hW]
  clear hW
  obtain ⟨p, hp⟩ : ∃ p, w.heap.size + 1 = p := ⟨_, rfl⟩
  rw [hp] at HC ⊢
  clear hp
  go_loopw [22] (fun i wr => ∃ k : Nat, k ≤ 5 ∧ i = .int .i64 k ∧ (∀ j, j < k → okN (fld x0 x1 x2 x3 x4 j) = true) ∧ W = wr) (fun i _ => 5 - (intOf i).toNat)
  case atStart => exact ⟨0, Nat.zero_le _, rfl, fun j h => by omega, rfl⟩
  case round =>
    obtain ⟨k, hk, rfl, hno, rfl⟩ := hrel
    have HNo := hid hno
    clear hno
    by_cases hlt : k < 5
    · have c0 := HC.out k hlt
      obtain ⟨x, hx⟩ : ∃ x, fld x0 x1 x2 x3 x4 k = x := ⟨_, rfl⟩
      rw [hx] at c0
      obtain ⟨b, hb⟩ : ∃ b, inR x (-1) 1099511627776 = b := ⟨_, rfl⟩
      have HI := hid (within_any x (-1) 1099511627776 W)
      rw [hb] at HI
      have HBb : Hid (okN (fld x0 x1 x2 x3 x4 k) = b) := hid (by rw [hx]; exact hb)
      clear hb hx
      cases b with
      | true =>
        go_wp2_with fail
        refine HI.out.mono ?_
        rintro e w2 ⟨rfl, rfl⟩
        go_wp2_with fail
        go_roundw
        case rel => exact ⟨k + 1, by omega, by go_num, fun j h1 => (by
          rcases Nat.lt_or_ge j k with e | e
          · exact HNo.out j e
          · obtain rfl : j = k := by omega
            exact HBb.out), by trivial⟩
        case measure => simp [intOf]; omega
      | false =>
        go_wp2_with fail
        refine HI.out.mono ?_
        rintro e w2 ⟨rfl, rfl⟩
        go_wp2_with fail
        go_ret
        exact ⟨ret_int (by rw [← HR.out]; unfold sysE; rw [sysB_no x0 x1 x2 x3 x4 hlt HBb.out]; rfl), HB.out⟩
    · have hd : decide ((k : Int) < 5) = false := by simp; omega
      have HE : Hid (k = 5) := hid (by omega)
      go_wp2_with fail
      go_ret
      exact ⟨ret_int (by rw [← HR.out]; unfold sysE; rw [sysB_yes x0 x1 x2 x3 x4 (fun j hj => HNo.out j (by rw [HE.out]; exact hj))]; rfl), HB.out⟩

set_option maxHeartbeats 1000000 in
theorem System_any (x0 x1 x2 x3 x4 : Int) (w : World) :
    Calls Try.prog 29 #[.agg #[.int .i64 x0, .int .i64 x1, .int .i64 x2, .int .i64 x3, .int .i64 x4]] w fun e w' => e = .returned (.int .i64 (sysE x0 x1 x2 x3 x4)) ∧ Below w.heap.size w w' := by
  have hb0 : Below w.heap.size w (w.alloc (.cells #[.int .i64 x0, .int .i64 x1, .int .i64 x2, .int .i64 x3, .int .i64 x4] 38)) := (Below.refl _ w).alloc (Nat.le_refl _) _
  have HC := hid (slook_any x0 x1 x2 x3 x4 (w.alloc (.cells #[.int .i64 x0, .int .i64 x1, .int .i64 x2, .int .i64 x3, .int .i64 x4] 38)))
  generalize sysE x0 x1 x2 x3 x4 = r at *
  have HB0 := hid hb0
  clear hb0
  go_enter Try.func29, Try.ntmps29
  go_wp2_with fail
  refine HC.out.mono ?_
  rintro e w1 ⟨rfl, hb1⟩
  have HB1 := hid (HB0.out.trans (hb1.mono HB0.out.size))
  clear hb1 HC
  go_wp2_with fail
  go_ret
  exact ⟨rfl, HB1.out⟩

set_option maxRecDepth 20000 in
set_option maxHeartbeats 2000000 in
theorem rsys_core (x0 x1 x2 x3 x4 : Int) (b0 b1 b2 b3 b4 : Bool) (r : Int) (R : Hid ((if b0 && b1 && b2 && b3 && b4 then (0 : Int) else 33) = r)) (w : World)
    (H0 : Hid (∀ w, Calls Try.prog 59 #[.int .i64 x0, .int .i64 (-1), .int .i64 1099511627776] w fun e w' => e = .returned (.bool b0) ∧ w = w'))
    (H1 : Hid (∀ w, Calls Try.prog 59 #[.int .i64 x1, .int .i64 (-1), .int .i64 1099511627776] w fun e w' => e = .returned (.bool b1) ∧ w = w'))
    (H2 : Hid (∀ w, Calls Try.prog 59 #[.int .i64 x2, .int .i64 (-1), .int .i64 1099511627776] w fun e w' => e = .returned (.bool b2) ∧ w = w'))
    (H3 : Hid (∀ w, Calls Try.prog 59 #[.int .i64 x3, .int .i64 (-1), .int .i64 1099511627776] w fun e w' => e = .returned (.bool b3) ∧ w = w'))
    (H4 : Hid (∀ w, Calls Try.prog 59 #[.int .i64 x4, .int .i64 (-1), .int .i64 1099511627776] w fun e w' => e = .returned (.bool b4) ∧ w = w')) :
    Calls Try.prog 34 #[.agg #[.int .i64 x0, .int .i64 x1, .int .i64 x2, .int .i64 x3, .int .i64 x4]] w fun e w' => e = .returned (.int .i64 r) ∧ Below w.heap.size w w' := by
  have HB : Hid (Below w.heap.size w (w.alloc (.cells #[.int .i64 x0, .int .i64 x1, .int .i64 x2, .int .i64 x3, .int .i64 x4] 38))) := hid ((Below.refl _ w).alloc (Nat.le_refl _) _)
  cases b0 with
  | false =>
    go_enter Try.func34, Try.ntmps34
    go_wp2_with fail
    refine (H0.out _).mono ?_
    rintro e w1 ⟨rfl, rfl⟩
    go_wp2_with fail
    go_ret
    exact ⟨ret_int (by rw [← R.out]; simp), HB.out⟩
  | true =>
    cases b1 with
    | false =>
      go_enter Try.func34, Try.ntmps34
      go_wp2_with fail
      refine (H0.out _).mono ?_
      rintro e w1 ⟨rfl, rfl⟩
      go_wp2_with fail
      refine (H1.out _).mono ?_
      rintro e w1 ⟨rfl, rfl⟩
      go_wp2_with fail
      go_ret
      exact ⟨ret_int (by rw [← R.out]; simp), HB.out⟩
    | true =>
      cases b2 with
      | false =>
        go_enter Try.func34, Try.ntmps34
        go_wp2_with fail
        refine (H0.out _).mono ?_
        rintro e w1 ⟨rfl, rfl⟩
        go_wp2_with fail
        refine (H1.out _).mono ?_
        rintro e w1 ⟨rfl, rfl⟩
        go_wp2_with fail
        refine (H2.out _).mono ?_
        rintro e w1 ⟨rfl, rfl⟩
        go_wp2_with fail
        go_ret
        exact ⟨ret_int (by rw [← R.out]; simp), HB.out⟩
      | true =>
        cases b3 with
        | false =>
          go_enter Try.func34, Try.ntmps34
          go_wp2_with fail
          refine (H0.out _).mono ?_
          rintro e w1 ⟨rfl, rfl⟩
          go_wp2_with fail
          refine (H1.out _).mono ?_
          rintro e w1 ⟨rfl, rfl⟩
          go_wp2_with fail
          refine (H2.out _).mono ?_
          rintro e w1 ⟨rfl, rfl⟩
          go_wp2_with fail
          refine (H3.out _).mono ?_
          rintro e w1 ⟨rfl, rfl⟩
          go_wp2_with fail
          go_ret
          exact ⟨ret_int (by rw [← R.out]; simp), HB.out⟩
        | true =>
          cases b4 with
          | false =>
            go_enter Try.func34, Try.ntmps34
            go_wp2_with fail
            refine (H0.out _).mono ?_
            rintro e w1 ⟨rfl, rfl⟩
            go_wp2_with fail
            refine (H1.out _).mono ?_
            rintro e w1 ⟨rfl, rfl⟩
            go_wp2_with fail
            refine (H2.out _).mono ?_
            rintro e w1 ⟨rfl, rfl⟩
            go_wp2_with fail
            refine (H3.out _).mono ?_
            rintro e w1 ⟨rfl, rfl⟩
            go_wp2_with fail
            refine (H4.out _).mono ?_
            rintro e w1 ⟨rfl, rfl⟩
            go_wp2_with fail
            go_ret
            exact ⟨ret_int (by rw [← R.out]; simp), HB.out⟩
          | true =>
            go_enter Try.func34, Try.ntmps34
            go_wp2_with fail
            refine (H0.out _).mono ?_
            rintro e w1 ⟨rfl, rfl⟩
            go_wp2_with fail
            refine (H1.out _).mono ?_
            rintro e w1 ⟨rfl, rfl⟩
            go_wp2_with fail
            refine (H2.out _).mono ?_
            rintro e w1 ⟨rfl, rfl⟩
            go_wp2_with fail
            refine (H3.out _).mono ?_
            rintro e w1 ⟨rfl, rfl⟩
            go_wp2_with fail
            refine (H4.out _).mono ?_
            rintro e w1 ⟨rfl, rfl⟩
            go_wp2_with fail
            go_ret
            exact ⟨ret_int (by rw [← R.out]; simp), HB.out⟩


theorem RSystem_any (x0 x1 x2 x3 x4 : Int) (w : World) :
    Calls Try.prog 34 #[.agg #[.int .i64 x0, .int .i64 x1, .int .i64 x2, .int .i64 x3, .int .i64 x4]] w fun e w' => e = .returned (.int .i64 (sysE x0 x1 x2 x3 x4)) ∧ Below w.heap.size w w' :=
  rsys_core x0 x1 x2 x3 x4 (okN x0) (okN x1) (okN x2) (okN x3) (okN x4) _ (hid rfl) w (hid fun w => in_any _ _ _ w) (hid fun w => in_any _ _ _ w) (hid fun w => in_any _ _ _ w) (hid fun w => in_any _ _ _ w) (hid fun w => in_any _ _ _ w)

end Go.Proofs.Ytoilakjlnflpbaa.LisD
