/- Lists of origins, and system rules, looked at: by the program and by the document. -/
import Derived.Test.YtbihelpnojjacaaGreatLisB
namespace Go.Proofs.YtbihelpnojjacaaGreat.LisC
open Go.ChangeShapes Go.WideShapes Go.ChangeAt Go.RowKit Base RulA Txt ValA LisA LisB
set_option linter.unusedVariables false

def listE (res : ByteArray) (ss : List (List UInt8)) : Int := if nameB res && !(ss.any fun x => !nameB (bs x)) then (if inR ss.length 1 32 && decide ss.Nodup then 0 else 34) else 10

set_option maxRecDepth 20000 in
set_option maxHeartbeats 1000000 in
theorem look_core (res : ByteArray) (white : Bool) (a : Option Addr) (n cap : Nat) (b0 b1 b2 b3 : Bool) (r : Int) (R : Hid ((if b0 && !b1 then (if b2 && b3 then (0 : Int) else 34) else 10) = r)) (w : World)
    (H0 : Hid (∀ w, Calls Tryz.prog 117 #[.string res] w fun e w' => e = .returned (.bool (!b0)) ∧ w = w'))
    (H1 : Hid (∀ w', Below w.heap.size w w' → Calls Tryz.prog 118 #[.slice a n cap, .func (Fn.func 117) #[] #[]] w' fun e w2 => e = .returned (.bool b1) ∧ w' = w2))
    (H2 : Hid (∀ w, Calls Tryz.prog 87 #[.int .i64 n, .int .i64 1, .int .i64 32] w fun e w' => e = .returned (.bool b2) ∧ w = w'))
    (H3 : Hid (b2 = true → ∀ w', Below w.heap.size w w' → Calls Tryz.prog 119 #[.slice a n cap] w' fun e w2 => e = .returned (.bool b3) ∧ Below w'.heap.size w' w2)) :
    Calls Tryz.prog 84 #[.agg #[.string res, .bool white, .slice a n cap]] w fun e w' => e = .returned (.int .i64 r) ∧ Below w.heap.size w w' := by
  have HB0 : Hid (Below w.heap.size w (w.alloc (.cells #[.string res, .bool white, .slice a n cap] 173))) := hid ((Below.refl _ w).alloc (Nat.le_refl _) _)
  go_enter Tryz.func84, Tryz.ntmps84
  cases b0 with
  | false =>
    go_wp2_with fail
    refine (H0.out _).mono ?_
    rintro e w1 ⟨rfl, rfl⟩
    go_wp2_with fail
    go_ret
    exact ⟨ret_int (by rw [← R.out]; rfl), HB0.out⟩
  | true =>
    cases b1 with
    | true =>
      go_wp2_with fail
      refine (H0.out _).mono ?_
      rintro e w1 ⟨rfl, rfl⟩
      go_wp2_with fail
      refine (H1.out _ HB0.out).mono ?_
      rintro e w1 ⟨rfl, rfl⟩
      go_wp2_with fail
      go_ret
      exact ⟨ret_int (by rw [← R.out]; rfl), HB0.out⟩
    | false =>
      cases b2 with
      | false =>
        go_wp2_with fail
        refine (H0.out _).mono ?_
        rintro e w1 ⟨rfl, rfl⟩
        go_wp2_with fail
        refine (H1.out _ HB0.out).mono ?_
        rintro e w1 ⟨rfl, rfl⟩
        go_wp2_with fail
        refine (H2.out _).mono ?_
        rintro e w1 ⟨rfl, rfl⟩
        go_wp2_with fail
        go_ret
        exact ⟨ret_int (by rw [← R.out]; rfl), HB0.out⟩
      | true =>
        go_wp2_with fail
        refine (H0.out _).mono ?_
        rintro e w1 ⟨rfl, rfl⟩
        go_wp2_with fail
        refine (H1.out _ HB0.out).mono ?_
        rintro e w1 ⟨rfl, rfl⟩
        go_wp2_with fail
        refine (H2.out _).mono ?_
        rintro e w1 ⟨rfl, rfl⟩
        go_wp2_with fail
        refine (H3.out (by trivial) _ HB0.out).mono ?_
        rintro e w2 ⟨rfl, hb2⟩
        have HB2 := hid (HB0.out.trans (hb2.mono HB0.out.size))
        clear hb2
        cases b3 <;> (
          go_wp2_with fail
          go_ret
          exact ⟨ret_int (by rw [← R.out]; rfl), HB2.out⟩)

theorem TAt.low {w w' : World} {a : Option Addr} {ss : List (List UInt8)} (h : TAt w w.heap.size a ss) (hb : Below w.heap.size w w') : TAt w' w'.heap.size a ss := (ValA.TAt.below h hb).mono hb.size

set_option maxHeartbeats 1000000 in
theorem List_any (res : ByteArray) (white : Bool) (a : Option Addr) (cap : Nat) (ss : List (List UInt8)) (w : World) (hr : res.size ≤ maxLen) (hss : ss.length ≤ 9223372036854775807) (hL : ∀ x ∈ ss, x.length ≤ maxLen) (hT : TAt w w.heap.size a ss) :
    Calls Tryz.prog 52 #[.agg #[.string res, .bool white, .slice a ss.length cap]] w fun e w' => e = .returned (.int .i64 (listE res ss)) ∧ Below w.heap.size w w' := by
  have hb0 : Below w.heap.size w (w.alloc (.cells #[.string res, .bool white, .slice a ss.length cap] 55)) := (Below.refl _ w).alloc (Nat.le_refl _) _
  have HC := hid (look_core res white a ss.length cap (nameB res) (ss.any fun x => !nameB (bs x)) (inR ss.length 1 32) (decide ss.Nodup) (listE res ss) (hid rfl) (w.alloc (.cells #[.string res, .bool white, .slice a ss.length cap] 55))
    (hid fun w => isNone_any res w hr) (hid fun w' hb => containsNone_any a cap ss (hid hL) w' hss (hid (TAt.low hT (hb0.trans (hb.mono hb0.size))))) (hid fun w => within_any _ _ _ w)
    (hid fun hb2 w' hb => apart_any a cap ss (by have := inR_iff.1 hb2; omega) w' (hid (TAt.low hT (hb0.trans (hb.mono hb0.size))))))
  obtain ⟨r, hr2⟩ : ∃ r, listE res ss = r := ⟨_, rfl⟩
  rw [hr2] at HC ⊢
  have HB0 := hid hb0
  clear hb0 hr hr2 hT hL hss
  go_enter Tryz.func52, Tryz.ntmps52
  go_wp2_with fail
  refine HC.out.mono ?_
  rintro e w1 ⟨rfl, hb1⟩
  have HB1 := hid (HB0.out.trans (hb1.mono HB0.out.size))
  clear hb1 HC
  go_wp2_with fail
  go_ret
  exact ⟨rfl, HB1.out⟩

/-- the document's -/
theorem nodup_not {ss : List (List UInt8)} {i j : Nat} {x : List UInt8} (hij : i < j) (h1 : ss[i]? = some x) (h2 : ss[j]? = some x) : decide ss.Nodup = false := by
  simp only [decide_eq_false_iff_not]
  intro h
  unfold List.Nodup at h
  rw [List.pairwise_iff_getElem] at h
  obtain ⟨a1, b1⟩ := List.getElem?_eq_some_iff.1 h1
  obtain ⟨a2, b2⟩ := List.getElem?_eq_some_iff.1 h2
  exact h i j a1 a2 hij (b1.trans b2.symm)
theorem nodup_yes {ss : List (List UInt8)} (h : ∀ (i j : Nat) x, i < j → ss[i]? = some x → ss[j]? = some x → False) : decide ss.Nodup = true := by
  simp only [decide_eq_true_eq]
  unfold List.Nodup
  rw [List.pairwise_iff_getElem]
  intro i j hi hj hij he
  exact h i j ss[j] hij (by rw [List.getElem?_eq_getElem hi, he]) (List.getElem?_eq_getElem hj)

end Go.Proofs.YtbihelpnojjacaaGreat.LisC
