/- What must be whatever is asked; WarmNone; WarmCold. -/
import Derived.Test.YtamofanfgdjmnaaWrmJ
namespace Go.Proofs.Ytamofanfgdjmnaa.WrmK
set_option linter.unusedVariables false
open Go.ChangeShapes Go.WideShapes Go.ChangeAt Go.RowKit Base WrmP NumM NumC NumE NumA WrmA WrmB WrmC WrmD WrmE WrmF WrmG WrmH WrmI WrmJ Wri

set_option maxHeartbeats 400000 in
theorem fill_nil (t past : Int) (w : World) :
    Calls Try.prog 22 #[.pointer none, .int .i64 t, .int .i64 past] w fun e w' => e = .returned (.tuple #[.int .i64 0, .int .i64 1]) ∧ w = w' := by
  go_enter Try.func22, Try.ntmps22
  go_wp2_with fail
  refine (refuses_nil t past _ _ _ w).mono ?_
  rintro e w1 ⟨rfl, rfl⟩
  go_wp2_with fail
  go_ret2
  exact ⟨rfl, rfl⟩
set_option maxHeartbeats 400000 in
theorem rate_nil (t past : Int) (w : World) :
    Calls Try.prog 24 #[.pointer none, .int .i64 t, .int .i64 past] w fun e w' => e = .returned (.tuple #[.int .i64 0, .int .i64 1]) ∧ w = w' := by
  go_enter Try.func24, Try.ntmps24
  go_wp2_with fail
  refine (refuses_nil t past _ _ _ w).mono ?_
  rintro e w1 ⟨rfl, rfl⟩
  go_wp2_with fail
  go_ret2
  exact ⟨rfl, rfl⟩
set_option maxHeartbeats 400000 in
theorem look_nil (t past now n : Int) (w : World) :
    Calls Try.prog 25 #[.pointer none, .int .i64 t, .int .i64 past, .int .i64 now, .int .i64 n] w fun e w' => e = .returned (.tuple #[.bool false, .int .i64 1]) ∧ Below w.heap.size w w' := by
  go_enter Try.func25, Try.ntmps25
  go_wp2_with fail
  refine (refuses_nil t past _ _ _ _).mono ?_
  rintro e w1 ⟨rfl, rfl⟩
  go_wp2_with fail
  go_ret2
  exact ⟨rfl, (by repeat (first | (with_reducible exact Below.refl _ _) | (with_reducible refine Below.setCell ?_ (by first | (simp; done) | (simp; omega) | omega) _) | (with_reducible refine Below.alloc ?_ (by first | (simp; done) | (simp; omega) | omega) _) | (with_reducible refine Below.drew ?_) | (with_reducible refine below_drewN ?_ _)))⟩
set_option maxHeartbeats 400000 in
theorem take_nil (t past now n : Int) (w : World) :
    Calls Try.prog 26 #[.pointer none, .int .i64 t, .int .i64 past, .int .i64 now, .int .i64 n] w fun e w' => e = .returned (.tuple #[.bool false, .int .i64 1]) ∧ Below w.heap.size w w' := by
  go_enter Try.func26, Try.ntmps26
  go_wp2_with fail
  refine (look_nil t past now n w).mono ?_
  rintro e w1 ⟨rfl, hb⟩
  have HB := hid hb
  clear hb
  go_wp2_with fail
  go_ret2
  exact ⟨rfl, HB.out⟩
set_option maxHeartbeats 400000 in
theorem marks_nil (w : World) :
    Calls Try.prog 21 #[.pointer none] w fun e w' => e = .returned (.tuple #[.int .i64 0, .int .i64 0]) ∧ w = w' := by
  go_enter Try.func21, Try.ntmps21
  go_wp2
  go_ret2
  exact ⟨rfl, rfl⟩
set_option maxHeartbeats 400000 in
theorem tokens_nil (w : World) :
    Calls Try.prog 23 #[.pointer none] w fun e w' => e = .returned (.int .i64 0) ∧ w = w' := by
  go_enter Try.func23, Try.ntmps23
  go_wp2
  go_ret
  exact ⟨rfl, rfl⟩
set_option maxHeartbeats 400000 in
theorem last_nil (w : World) :
    Calls Try.prog 27 #[.pointer none] w fun e w' => e = .returned (.int .i64 0) ∧ w = w' := by
  go_enter Try.func27, Try.ntmps27
  go_wp2
  go_ret
  exact ⟨rfl, rfl⟩
set_option maxHeartbeats 400000 in
theorem fork_nil (w : World) :
    Calls Try.prog 13 #[.pointer none] w fun e w' => e = .returned (.pointer none) ∧ w = w' := by
  go_enter Try.func13, Try.ntmps13
  go_wp2
  go_ret
  exact ⟨rfl, rfl⟩

def m0 : Wm := fresh 100 10
def m1 : Wm := fillA m0 0 0
theorem f0 : rateA m0 0 0 = 33 ∧ ref2 m0.last 0 0 = 0 := by decide
theorem f1 : m1.tok = 1000 ∧ rateA m1 1000000 33 = 34 ∧ ref2 m1.last 1000000 33 = 0 ∧ lookA m1 5 0 32 1 = true ∧ ref4 m1.last 5 0 32 1 = 0 ∧ lookA m1 5 0 33 1 = false ∧ ref4 m1.last 5 0 33 1 = 0 ∧ wn m1.G = 500 ∧ m1.G = 1000 := by decide

set_option maxRecDepth 20000 in
set_option maxHeartbeats 2000000 in
theorem live_any (w : World) :
    Calls Try.prog 12 #[] w fun e w' => e = .returned (.bool true) ∧ Below w.heap.size w w' := by
  go_enter Try.func12, Try.ntmps12
  go_wp2_with fail
  refine (New_any 100 10 w).mono ?_
  rintro e w1 (⟨cn, sn, hc, hs, ho, rfl, ha, hb⟩ | ⟨h, -⟩)
  rotate_left
  · exact absurd h (by decide)
  obtain rfl : cn = 100 := by omega
  obtain rfl : sn = 10 := by omega
  have HO : Hid m0.Ok := hid ho
  have HA : Hid (At w1 w.heap.size m0) := hid ha
  have HB := hid hb
  clear ho ha hb hc hs
  go_wp2_with fail
  have H1 := Fill_any w.heap.size m0 HO.out 0 0 w1 HA.out
  rw [f0.1, f0.2] at H1
  refine H1.mono ?_
  rintro e w2 ⟨rfl, ha, hw⟩
  have HO1 : Hid m1.Ok := hid (fillA_ok m0 HO.out 0 0)
  have HA1 : Hid (At w2 w.heap.size m1) := hid ha
  have HB1 : Hid (Below w.heap.size w w2) := hid (HB.out.trans (hw.below w.heap.size HB.out.size (fun k e => by omega)))
  clear ha hw HA HO HB
  obtain ⟨q1, q2, q3, q4, q5, q6, q7, q8, q9⟩ := f1
  have HQ := hid q1
  go_wp2_with fail
  have H2 := Rate_any w.heap.size m1 HO1.out 1000000 33 w2 HA1.out
  rw [q2, q3] at H2
  refine H2.mono ?_
  rintro e w3 ⟨rfl, hb3⟩
  have HA2 := hid (HA1.out.below hb3 HA1.out.lt)
  have HB2 := hid (bl HB1.out hb3)
  clear hb3 HA1 HB1
  go_wp2_with fail
  have H3 := Look_any w.heap.size m1 HO1.out 5 0 32 1 w3 HA2.out
  rw [q4, q5] at H3
  refine H3.mono ?_
  rintro e w4 ⟨rfl, hb3⟩
  have HA3 := hid (HA2.out.below hb3 HA2.out.lt)
  have HB3 := hid (bl HB2.out hb3)
  clear hb3 HA2 HB2
  go_wp2_with fail
  have H4 := Look_any w.heap.size m1 HO1.out 5 0 33 1 w4 HA3.out
  rw [q6, q7] at H4
  refine H4.mono ?_
  rintro e w5 ⟨rfl, hb3⟩
  have HA4 := hid (HA3.out.below hb3 HA3.out.lt)
  have HB4 := hid (bl HB3.out hb3)
  clear hb3 HA3 HB3
  go_wp2_with fail
  have H5 := Marks_any w.heap.size m1 HO1.out w5 HA4.out
  rw [q8, q9] at H5
  refine H5.mono ?_
  rintro e w6 ⟨rfl, hb3⟩
  have HA5 := hid (HA4.out.below hb3 HA4.out.lt)
  have HB5 := hid (bl HB4.out hb3)
  clear hb3 HA4 HB4 H1 H2 H3 H4 H5 q1 q2 q3 q4 q5 q6 q7 q8 q9
  go_wp2_with fail
  have H6 := Tokens_any w.heap.size m1 w6 HA5.out
  rw [HQ.out] at H6
  refine H6.mono ?_
  rintro e w7 ⟨rfl, rfl⟩
  clear H6
  go_wp2_with fail
  go_ret
  exact ⟨rfl, HB5.out⟩

set_option maxRecDepth 20000 in
set_option maxHeartbeats 2000000 in
theorem none_core (t n : Int) (w : World) :
    Calls Try.prog 8 #[.int .i64 t, .int .i64 n] w fun e w' => e = .returned (.bool true) ∧ Below w.heap.size w w' := by
  go_enter Try.func8, Try.ntmps8
  go_wp2_with fail
  refine (fill_nil t n w).mono ?_
  rintro e w1 ⟨rfl, rfl⟩
  go_wp2_with fail
  refine (rate_nil t n w).mono ?_
  rintro e w1 ⟨rfl, rfl⟩
  go_wp2_with fail
  refine (look_nil t n n n w).mono ?_
  rintro e w1 ⟨rfl, hb1⟩
  have HB1 := hid hb1
  clear hb1
  go_wp2_with fail
  refine (take_nil t n n n w1).mono ?_
  rintro e w2 ⟨rfl, hb2⟩
  have HB2 := hid (bl HB1.out hb2)
  clear hb2 HB1
  go_wp2_with fail
  refine (marks_nil w2).mono ?_
  rintro e w3 ⟨rfl, rfl⟩
  go_wp2_with fail
  refine (live_any w2).mono ?_
  rintro e w3 ⟨rfl, hb3⟩
  have HB3 := hid (bl HB2.out hb3)
  clear hb3 HB2
  go_wp2_with fail
  refine (tokens_nil w3).mono ?_
  rintro e w4 ⟨rfl, rfl⟩
  go_wp2_with fail
  refine (last_nil w3).mono ?_
  rintro e w4 ⟨rfl, rfl⟩
  go_wp2_with fail
  refine (fork_nil w3).mono ?_
  rintro e w4 ⟨rfl, rfl⟩
  go_wp2_with fail
  go_ret
  exact ⟨rfl, HB3.out⟩

theorem main {W : World} (a0 : Int) (w0 : (Lit.int .i64 a0).wf = true) (a1 : Int) (w1 : (Lit.int .i64 a1).wf = true) :
    Calls Try.prog 8 #[.int .i64 a0, .int .i64 a1] W fun e w' => e = .returned (.bool true) ∧ Below W.heap.size W w' := none_core a0 a1 W

end Go.Proofs.Ytamofanfgdjmnaa.WrmK
