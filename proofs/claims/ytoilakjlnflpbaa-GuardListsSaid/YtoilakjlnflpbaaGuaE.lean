/- What must be whatever is asked of guards; how many may be in flight; white and black. -/
import Derived.Test.YtoilakjlnflpbaaGuaC
import Derived.Test.YtoilakjlnflpbaaGuaD
import Derived.Test.YtoilakjlnflpbaaOpn
import Derived.Test.YtoilakjlnflpbaaOpnS
namespace Go.Proofs.Ytoilakjlnflpbaa.GuaE
open Go.ChangeShapes Go.WideShapes Go.ChangeAt Go.RowKit Base NumM NumE RulA Txt ValA LisA LisB LisC LisD GuaA GuaB GuaC GuaD
set_option linter.unusedVariables false

def Ret (f : Nat) (args : Array Value) (v : Value) : Prop := ∀ w, Calls Try.prog f args w fun x w' => x = .returned v ∧ Below w.heap.size w w'

theorem one_list (white : Bool) (B : Nat) (w : World) (hB : B < w.heap.size) (hc : w.cell? ⟨B, 0, none⟩ = some (.string ⟨#[120]⟩)) :
    Calls Try.prog 25 #[.agg #[.string ⟨#[97]⟩, .bool white, .slice (some ⟨B, 0, none⟩) 1 1], .string ⟨#[120]⟩] w fun x w' => x = .returned (.bool white) ∧ Below w.heap.size w w' := by
  have h := GList_any ⟨#[97]⟩ white (some ⟨B, 0, none⟩) 1 [[120]] ⟨#[120]⟩ w (by unfold maxLen; decide) (by decide) (by intro x hx; obtain rfl := List.mem_singleton.1 hx; unfold maxLen; decide)
    (fun _ => ⟨B, 0, rfl, hB, fun i x hx => by
      have hi : i = 0 := by have := (List.getElem?_eq_some_iff.1 hx).1; simp at this; exact this
      subst hi
      cases hx
      exact hc⟩)
  have e : listB ⟨#[97]⟩ white [[120]] ⟨#[120]⟩ = white := by cases white <;> decide +kernel
  rw [e] at h
  exact h

set_option maxRecDepth 20000 in
set_option maxHeartbeats 4000000 in
theorem live_core (w : World)
    (H1 : Hid (Ret 16 #[.agg #[.int .i64 10, .int .i64 (-1), .int .i64 (-1), .int .i64 1000, .int .i64 (-1)], .int .i64 2, .agg #[.int .i64 8, .int .i64 5, .int .i64 0, .int .i64 1500, .int .i64 0, .int .i64 2, .int .i64 100000]] (.string ⟨#[108, 111, 97, 100]⟩)))
    (H2 : Hid (Ret 14 #[.agg #[.int .i64 10, .int .i64 (-1), .int .i64 (-1), .int .i64 1000, .int .i64 (-1)], .int .i64 2, .agg #[.int .i64 8, .int .i64 2, .int .i64 0, .int .i64 1500, .int .i64 0, .int .i64 2, .int .i64 100000]] (.bool true)))
    (H3 : Hid (Ret 16 #[.agg #[.int .i64 10, .int .i64 (-1), .int .i64 (-1), .int .i64 1000, .int .i64 (-1)], .int .i64 3, .agg #[.int .i64 8, .int .i64 2, .int .i64 0, .int .i64 1500, .int .i64 0, .int .i64 2, .int .i64 100000]] (.string ⟨#[113, 112, 115]⟩)))
    (H4 : Hid (Ret 18 #[.int .i64 2, .int .i64 100000] (.int .i64 2))) :
    Calls Try.prog 12 #[] w fun x w' => x = .returned (.bool true) ∧ Below w.heap.size w w' := by
  go_enter Try.func12, Try.ntmps12
  go_wp2_with fail
  refine (H1.out _).mono ?_
  rintro x w1 ⟨rfl, hb⟩
  have s0 : w1.cell? ⟨w.heap.size, 0, none⟩ = some (.int .i64 10) := (hb.cell (p := ⟨w.heap.size, 0, none⟩) (by simp; omega)).trans (by go_cell)
  have s1 : w1.cell? ⟨w.heap.size, 1, none⟩ = some (.int .i64 (-1)) := (hb.cell (p := ⟨w.heap.size, 1, none⟩) (by simp; omega)).trans (by go_cell)
  have s2 : w1.cell? ⟨w.heap.size, 2, none⟩ = some (.int .i64 (-1)) := (hb.cell (p := ⟨w.heap.size, 2, none⟩) (by simp; omega)).trans (by go_cell)
  have s3 : w1.cell? ⟨w.heap.size, 3, none⟩ = some (.int .i64 1000) := (hb.cell (p := ⟨w.heap.size, 3, none⟩) (by simp; omega)).trans (by go_cell)
  have s4 : w1.cell? ⟨w.heap.size, 4, none⟩ = some (.int .i64 (-1)) := (hb.cell (p := ⟨w.heap.size, 4, none⟩) (by simp; omega)).trans (by go_cell)
  have m0 : w1.cell? ⟨w.heap.size + 2, 0, none⟩ = some (.int .i64 8) := (hb.cell (p := ⟨w.heap.size + 2, 0, none⟩) (by simp)).trans (by go_cell)
  have m1 : w1.cell? ⟨w.heap.size + 2, 1, none⟩ = some (.int .i64 2) := (hb.cell (p := ⟨w.heap.size + 2, 1, none⟩) (by simp)).trans (by go_cell)
  have m2 : w1.cell? ⟨w.heap.size + 2, 2, none⟩ = some (.int .i64 0) := (hb.cell (p := ⟨w.heap.size + 2, 2, none⟩) (by simp)).trans (by go_cell)
  have m3 : w1.cell? ⟨w.heap.size + 2, 3, none⟩ = some (.int .i64 1500) := (hb.cell (p := ⟨w.heap.size + 2, 3, none⟩) (by simp)).trans (by go_cell)
  have m4 : w1.cell? ⟨w.heap.size + 2, 4, none⟩ = some (.int .i64 0) := (hb.cell (p := ⟨w.heap.size + 2, 4, none⟩) (by simp)).trans (by go_cell)
  have m5 : w1.cell? ⟨w.heap.size + 2, 5, none⟩ = some (.int .i64 2) := (hb.cell (p := ⟨w.heap.size + 2, 5, none⟩) (by simp)).trans (by go_cell)
  have m6 : w1.cell? ⟨w.heap.size + 2, 6, none⟩ = some (.int .i64 100000) := (hb.cell (p := ⟨w.heap.size + 2, 6, none⟩) (by simp)).trans (by go_cell)
  have HB1 : Hid (Below w.heap.size w w1) := hid (Below.trans (by repeat (first | (with_reducible exact Below.refl _ _) | (with_reducible refine Below.setCell ?_ (by first | (simp; done) | (simp; omega) | omega) _) | (with_reducible refine Below.alloc ?_ (by first | (simp; done) | (simp; omega) | omega) _) | (with_reducible refine Below.drew ?_) | (with_reducible refine below_drewN ?_ _))) (hb.mono (by simp; omega)))
  have hs1 : w.heap.size + 3 ≤ w1.heap.size := by have := hb.size; simp at this; omega
  clear hb
  go_wp2_with fail
  refine (H2.out _).mono ?_
  rintro x w2 ⟨rfl, hb⟩
  have t0 : w2.cell? ⟨w.heap.size, 0, none⟩ = some (.int .i64 10) := (hb.cell (p := ⟨w.heap.size, 0, none⟩) (by dsimp only; omega)).trans s0
  have t1 : w2.cell? ⟨w.heap.size, 1, none⟩ = some (.int .i64 (-1)) := (hb.cell (p := ⟨w.heap.size, 1, none⟩) (by dsimp only; omega)).trans s1
  have t2 : w2.cell? ⟨w.heap.size, 2, none⟩ = some (.int .i64 (-1)) := (hb.cell (p := ⟨w.heap.size, 2, none⟩) (by dsimp only; omega)).trans s2
  have t3 : w2.cell? ⟨w.heap.size, 3, none⟩ = some (.int .i64 1000) := (hb.cell (p := ⟨w.heap.size, 3, none⟩) (by dsimp only; omega)).trans s3
  have t4 : w2.cell? ⟨w.heap.size, 4, none⟩ = some (.int .i64 (-1)) := (hb.cell (p := ⟨w.heap.size, 4, none⟩) (by dsimp only; omega)).trans s4
  have n0 : w2.cell? ⟨w.heap.size + 2, 0, none⟩ = some (.int .i64 8) := (hb.cell (p := ⟨w.heap.size + 2, 0, none⟩) (by dsimp only; omega)).trans m0
  have n1 : w2.cell? ⟨w.heap.size + 2, 1, none⟩ = some (.int .i64 2) := (hb.cell (p := ⟨w.heap.size + 2, 1, none⟩) (by dsimp only; omega)).trans m1
  have n2 : w2.cell? ⟨w.heap.size + 2, 2, none⟩ = some (.int .i64 0) := (hb.cell (p := ⟨w.heap.size + 2, 2, none⟩) (by dsimp only; omega)).trans m2
  have n3 : w2.cell? ⟨w.heap.size + 2, 3, none⟩ = some (.int .i64 1500) := (hb.cell (p := ⟨w.heap.size + 2, 3, none⟩) (by dsimp only; omega)).trans m3
  have n4 : w2.cell? ⟨w.heap.size + 2, 4, none⟩ = some (.int .i64 0) := (hb.cell (p := ⟨w.heap.size + 2, 4, none⟩) (by dsimp only; omega)).trans m4
  have n5 : w2.cell? ⟨w.heap.size + 2, 5, none⟩ = some (.int .i64 2) := (hb.cell (p := ⟨w.heap.size + 2, 5, none⟩) (by dsimp only; omega)).trans m5
  have n6 : w2.cell? ⟨w.heap.size + 2, 6, none⟩ = some (.int .i64 100000) := (hb.cell (p := ⟨w.heap.size + 2, 6, none⟩) (by dsimp only; omega)).trans m6
  have HB2 := hid (HB1.out.trans (hb.mono HB1.out.size))
  clear hb s0 s1 s2 s3 s4 m0 m1 m2 m3 m4 m5 m6
  go_wp2_with fail
  refine (H3.out _).mono ?_
  rintro x w3 ⟨rfl, hb⟩
  have HB3 := hid (HB2.out.trans (hb.mono HB2.out.size))
  clear hb t0 t1 t2 t3 t4 n0 n1 n2 n3 n4 n5 n6 hs1
  go_wp2_with fail
  refine (H4.out _).mono ?_
  rintro x w4 ⟨rfl, hb⟩
  have HB4 := hid (HB3.out.trans (hb.mono HB3.out.size))
  clear hb
  go_wp2_with fail
  refine (one_list true w4.heap.size _ (by simp) (by go_cell)).mono ?_
  rintro x w5 ⟨rfl, hb⟩
  have HB5 : Hid (Below w.heap.size w w5) := hid ((HB4.out.alloc HB4.out.size _).trans (hb.mono (by have := HB4.out.size; simp; omega)))
  clear hb
  go_wp2_with fail
  refine (one_list false w5.heap.size _ (by simp) (by go_cell)).mono ?_
  rintro x w6 ⟨rfl, hb⟩
  have HB6 : Hid (Below w.heap.size w w6) := hid ((HB5.out.alloc HB5.out.size _).trans (hb.mono (by have := HB5.out.size; simp; omega)))
  clear hb
  go_wp2_with fail
  go_ret
  exact ⟨rfl, HB6.out⟩

theorem live_any : Ret 12 #[] (.bool true) := fun w =>
  live_core w
    (hid fun w => by have h := Field_any 8 5 0 1500 0 2 100000 10 (-1) (-1) 1000 (-1) 2 w; rwa [show fieldS 8 5 0 1500 0 2 100000 10 (-1) (-1) 1000 (-1) 2 = ⟨#[108, 111, 97, 100]⟩ by kernel_rfl] at h)
    (hid fun w => by have h := System_is 8 2 0 1500 0 2 100000 10 (-1) (-1) 1000 (-1) 2 w; rwa [show decide (fieldS 8 2 0 1500 0 2 100000 10 (-1) (-1) 1000 (-1) 2 = ⟨#[]⟩) = true by kernel_rfl] at h)
    (hid fun w => by have h := Field_any 8 2 0 1500 0 2 100000 10 (-1) (-1) 1000 (-1) 3 w; rwa [show fieldS 8 2 0 1500 0 2 100000 10 (-1) (-1) 1000 (-1) 3 = ⟨#[113, 112, 115]⟩ by kernel_rfl] at h)
    (hid fun w => by have h := cap_any 2 100000 (by unfold Fits; omega) (by unfold Fits; omega) w; rwa [show capV 2 100000 = 2 by kernel_rfl] at h)

/-! ### GuardRoom -/

set_option maxRecDepth 20000 in
set_option maxHeartbeats 2000000 in
theorem groom_core (t m l c c1 : Int) (b b2 b3 : Bool) (w : World) (hc : 1 ≤ c ∧ c ≤ 4611686018427387904) (hc1 : wrap64 (c + 1) = c1)
    (hb2 : b2 = false) (hb3 : c < 4611686018427387904 → b3 = true)
    (HL : Hid (Ret 12 #[] (.bool true)))
    (H1 : Hid (Ret 18 #[.int .i64 m, .int .i64 l] (.int .i64 c)))
    (H2 : Hid (Ret 19 #[.int .i64 t, .int .i64 m, .int .i64 l] (.bool b)))
    (H3 : Hid (Ret 20 #[.int .i64 t, .int .i64 m, .int .i64 l] (.bool b)))
    (H4 : Hid (Ret 21 #[.int .i64 m, .int .i64 l] (.int .i64 c)))
    (H5 : Hid (Ret 19 #[.int .i64 c, .int .i64 m, .int .i64 l] (.bool b2)))
    (H6 : Hid (Ret 19 #[.int .i64 c1, .int .i64 m, .int .i64 l] (.bool b3))) :
    Calls Try.prog 4 #[.int .i64 t, .int .i64 m, .int .i64 l] w fun x w' => x = .returned (.bool true) ∧ Below w.heap.size w w' := by
  subst hb2
  have HC := hid hc
  clear hc
  go_enter Try.func4, Try.ntmps4
  go_wp2_with fail
  refine (H1.out _).mono ?_
  rintro x w1 ⟨rfl, hb⟩
  have HB1 := hid hb
  clear hb
  go_wp2_with fail
  refine (HL.out _).mono ?_
  rintro x w2 ⟨rfl, hb⟩
  have HB2 := hid (HB1.out.trans (hb.mono HB1.out.size))
  clear hb
  go_wp2_with fail
  refine (H2.out _).mono ?_
  rintro x w3 ⟨rfl, hb⟩
  have HB3 := hid (HB2.out.trans (hb.mono HB2.out.size))
  clear hb
  go_wp2_with fail
  refine (H3.out _).mono ?_
  rintro x w4 ⟨rfl, hb⟩
  have HB4 := hid (HB3.out.trans (hb.mono HB3.out.size))
  clear hb
  have hbb : (b != b) = false := by cases b <;> rfl
  go_wp2_with fail
  refine (H4.out _).mono ?_
  rintro x w5 ⟨rfl, hb⟩
  have HB5 := hid (HB4.out.trans (hb.mono HB4.out.size))
  clear hb
  go_wp2_with fail
  refine (H5.out _).mono ?_
  rintro x w6 ⟨rfl, hb⟩
  have HB6 := hid (HB5.out.trans (hb.mono HB5.out.size))
  clear hb
  by_cases h : c < 4611686018427387904
  · have h2 : decide (4611686018427387904 ≤ c) = false := by simpa using h
    obtain rfl := hb3 h
    clear h hb3
    go_wp2_with fail
    refine (H6.out _).mono ?_
    rintro x w7 ⟨rfl, hb⟩
    have HB7 := hid (HB6.out.trans (hb.mono HB6.out.size))
    clear hb
    go_wp2_with fail
    go_ret
    exact ⟨rfl, HB7.out⟩
  · have h2 : decide (4611686018427387904 ≤ c) = true := by simpa using h
    clear h hb3
    go_wp2_with fail
    go_ret
    exact ⟨rfl, HB6.out⟩

theorem cap_bounds (m l : Int) : 1 ≤ capV m l ∧ capV m l ≤ 4611686018427387904 := by
  unfold capV
  repeat' split
  all_goals omega

theorem roomLaw (t m l : Int) (ht : Fits t) (hm : Fits m) (hl : Fits l) (w : World) :
    Calls Try.prog 4 #[.int .i64 t, .int .i64 m, .int .i64 l] w fun x w' => x = .returned (.bool true) ∧ Below w.heap.size w w' := by
  have hc := cap_bounds m l
  have hf : Fits (capV m l) := by unfold Fits; omega
  have hf1 : Fits (capV m l + 1) := by unfold Fits; omega
  refine groom_core t m l (capV m l) (capV m l + 1) (manyV t m l) _ _ w hc (w64 ⟨by omega, by omega⟩) ?_ ?_ (hid live_any) (hid fun w => cap_any m l hm hl w) (hid fun w => many_any t m l ht hm hl w) (hid fun w => rmany_any t m l ht hm hl w) (hid fun w => rcap_any m l hm hl w)
    (hid fun w => many_any _ m l hf hm hl w) (hid fun w => many_any _ m l hf1 hm hl w)
  · rw [many_eq hf]
    unfold capV
    simp only [decide_eq_false_iff_not]
    repeat' split
    all_goals omega
  · intro h
    rw [many_eq hf1]
    unfold capV at h ⊢
    simp only [decide_eq_true_eq]
    revert h
    repeat' split
    all_goals omega

theorem main_room (t : Int) (wt : (Lit.int .i64 t).wf = true) (m : Int) (wm : (Lit.int .i64 m).wf = true) (l : Int) (wl : (Lit.int .i64 l).wf = true) {w : World} :
    Calls Try.prog 4 #[.int .i64 t, .int .i64 m, .int .i64 l] w fun x w' => x = .returned (.bool true) ∧ Below w.heap.size w w' :=
  roomLaw t m l (by unfold Fits; have := Go.bounds_i64 wt; omega) (by unfold Fits; have := Go.bounds_i64 wm; omega) (by unfold Fits; have := Go.bounds_i64 wl; omega) w

end Go.Proofs.Ytoilakjlnflpbaa.GuaE
