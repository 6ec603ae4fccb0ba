/- Breakers: the program's own, its inner writes. -/
import Derived.Test.YtcmklahbophclaaBreV
import Derived.Test.YtcmklahbophclaaWinN
import Derived.Test.YtcmklahbophclaaStaA
import Derived.Deep.DeepCutAuto
import Derived.Deep.RegionHeld3
namespace Go.Proofs.Ytcmklahbophclaa.BreU
set_option linter.unusedVariables false
open Go.ChangeShapes Go.WideShapes Go.ChangeAt Go.RowKit Base WinM WinA WinB WinC WinE WinH WinI WinK BreP BreA BreV

theorem bl {w w1 w2 : World} (h : Below w.heap.size w w1) (h2 : Below w1.heap.size w1 w2) : Below w.heap.size w w2 := h.trans (h2.mono h.size)

set_option maxRecDepth 20000 in
set_option maxHeartbeats 1000000 in
theorem trip_core (p : Nat) (t rc u tr : Int) (w : World) (h0 : ∃ v, w.cell? ⟨p, 0, none⟩ = some v) (h1 : ∃ v, w.cell? ⟨p, 1, none⟩ = some v) (h8 : w.cell? ⟨p, 8, none⟩ = some (.int .i64 rc)) (h10 : w.cell? ⟨p, 10, none⟩ = some (.int .i64 tr))
    (f0 : w.frozen? ⟨p, 0, none⟩ = false) (f1 : w.frozen? ⟨p, 1, none⟩ = false) (f10 : w.frozen? ⟨p, 10, none⟩ = false) (hu : wrap64 (t + rc) = u) (ht : wrap64 (tr + 1) = tr + 1) :
    Calls Try.prog 41 #[ptr p, .int .i64 t] w fun e w' => e = .returned (.tuple #[]) ∧ ((w.setCell ⟨p, 0, none⟩ (.int .u8 2)).setCell ⟨p, 1, none⟩ (.int .i64 u)).setCell ⟨p, 10, none⟩ (.int .i64 (tr + 1)) = w' := by
  obtain ⟨v0, h0⟩ := h0
  obtain ⟨v1, h1⟩ := h1
  go_enter Try.func41, Try.ntmps41
  go_wp2_with fail
  go_end0
  exact ⟨rfl, rfl⟩

set_option maxRecDepth 20000 in
set_option maxHeartbeats 1000000 in
theorem newEnds_any (wd : Nat) (w : World) (h0 : 0 < wd) (h1 : wd ≤ 1099511627776) :
    Calls Try.prog 53 #[.int .i64 wd] w fun e w' => e = .returned (.agg #[.pointer (some ⟨w.heap.size + 1, 0, none⟩)]) ∧ w'.heap[w.heap.size + 1]? = some (.cells #[.int .i64 wd, .int .i64 1, .int .i64 0, .slice none 0 0] 124) ∧ Below w.heap.size w w' := by
  go_enter Try.func53, Try.ntmps53
  go_wp2_with fail
  refine (StaA.winNew_any wd 1 wd _ (by omega) (by omega) h0 h1 (by omega)).mono ?_
  rintro e w2 ⟨rfl, rfl⟩
  go_wp2_with fail
  exact bodyPost_ret (v := .agg #[.pointer (some ⟨w.heap.size + 1, 0, none⟩)]) (by simp [results, Try.results53, go_sem]) rfl ⟨rfl, by have := heap_alloc_new (w.alloc (.cells #[.pointer (some ⟨w.heap.size + 1, 0, none⟩)] 82)) (.cells #[.int .i64 wd, .int .i64 1, .int .i64 0, .slice none 0 0] 124); simpa using this, ((Below.refl _ _).alloc (Nat.le_refl _) _).alloc (by simp) _⟩

set_option maxRecDepth 20000 in
set_option maxHeartbeats 1000000 in
theorem close_core (p wd : Nat) (w : World) (hp : p < w.heap.size) (h0 : ∃ v, w.cell? ⟨p, 0, none⟩ = some v) (h1 : ∃ v, w.cell? ⟨p, 1, none⟩ = some v) (h7 : w.cell? ⟨p, 7, none⟩ = some (.int .i64 wd)) (h9 : ∃ v, w.cell? ⟨p, 9, none⟩ = some v)
    (f0 : w.frozen? ⟨p, 0, none⟩ = false) (f1 : w.frozen? ⟨p, 1, none⟩ = false) (f9 : w.frozen? ⟨p, 9, none⟩ = false) (hw0 : 0 < wd) (hw1 : wd ≤ 1099511627776) :
    Calls Try.prog 30 #[ptr p] w fun e w' => e = .returned (.tuple #[]) ∧ ∃ w2, w2.heap[w.heap.size + 1]? = some (.cells #[.int .i64 wd, .int .i64 1, .int .i64 0, .slice none 0 0] 124) ∧
      Below w.heap.size ((w.setCell ⟨p, 0, none⟩ (.int .u8 1)).setCell ⟨p, 1, none⟩ (.int .i64 0)) w2 ∧ w2.setCell ⟨p, 9, none⟩ (.pointer (some ⟨w.heap.size + 1, 0, none⟩)) = w' := by
  obtain ⟨v0, h0⟩ := h0
  obtain ⟨v1, h1⟩ := h1
  obtain ⟨v9, h9⟩ := h9
  have HN := hid (newEnds_any wd ((w.setCell ⟨p, 0, none⟩ (.int .u8 1)).setCell ⟨p, 1, none⟩ (.int .i64 0)) hw0 hw1)
  have k9 : ((w.setCell ⟨p, 0, none⟩ (.int .u8 1)).setCell ⟨p, 1, none⟩ (.int .i64 0)).cell? ⟨p, 9, none⟩ = some v9 := by go_cell
  have hsz : ((w.setCell ⟨p, 0, none⟩ (.int .u8 1)).setCell ⟨p, 1, none⟩ (.int .i64 0)).heap.size = w.heap.size := by simp
  rw [hsz] at HN
  have g9 : ((w.setCell ⟨p, 0, none⟩ (.int .u8 1)).setCell ⟨p, 1, none⟩ (.int .i64 0)).frozen? ⟨p, 9, none⟩ = false := by simpa using f9
  clear hw0 hw1 hsz
  go_enter Try.func30, Try.ntmps30
  go_wp2_with fail
  refine HN.out.mono ?_
  rintro e w2 ⟨rfl, ha, hb⟩
  have l9 : w2.cell? ⟨p, 9, none⟩ = some v9 := (hb.cell (p := ⟨p, 9, none⟩) hp).trans k9
  have m9 : w2.frozen? ⟨p, 9, none⟩ = false := (hb.frozen (p := ⟨p, 9, none⟩) hp).trans g9
  have HH := hid (And.intro ha hb)
  clear ha hb k9 g9 HN h0 h1 h7 h9 f0 f1 f9
  go_wp2_with fail
  go_end0
  exact ⟨rfl, w2, HH.out.1, HH.out.2, rfl⟩

set_option maxRecDepth 20000 in
set_option maxHeartbeats 1000000 in
theorem note_core (q : Nat) (t : Int) (bad : Bool) (w : World) (Q : World → Prop)
    (HA : Hid (∀ (wx : World) (g : Nat), Below w.heap.size w wx → w.heap.size ≤ g → g < wx.heap.size → At6 wx g 0 ⟨0, 0, 1, if bad then 1 else 0, 0, 0⟩ → Calls Try.prog 66 #[.pointer (some ⟨q, 0, none⟩), .int .i64 t, .slice (some ⟨g, 0, none⟩) 1 1] wx fun e w' => e = .returned (.int .i64 0) ∧ Q w')) :
    Calls Try.prog 42 #[.agg #[.pointer (some ⟨q, 0, none⟩)], .int .i64 t, .bool bad] w fun e w' => e = .returned (.tuple #[]) ∧ Q w' := by
  go_enter Try.func42, Try.ntmps42
  cases bad with
  | false =>
    go_wp2_with fail
    refine (HA.out _ (w.heap.size + 1 + 1) (by repeat (first | (with_reducible exact Below.refl _ _) | (with_reducible refine Below.setCell ?_ (by first | (simp; done) | (simp; omega) | omega) _) | (with_reducible refine Below.alloc ?_ (by first | (simp; done) | (simp; omega) | omega) _) | (with_reducible refine Below.drew ?_))) (by omega) (by simp) ⟨by go_cell, by go_cell, by go_cell, by go_cell, by go_cell, by go_cell⟩).mono ?_
    rintro e w2 ⟨rfl, hq⟩
    have HQ := hid hq
    clear hq
    go_wp2_with fail
    go_end0
    exact ⟨rfl, HQ.out⟩
  | true =>
    go_wp2_with fail
    refine (HA.out _ (w.heap.size + 1 + 1) (by repeat (first | (with_reducible exact Below.refl _ _) | (with_reducible refine Below.setCell ?_ (by first | (simp; done) | (simp; omega) | omega) _) | (with_reducible refine Below.alloc ?_ (by first | (simp; done) | (simp; omega) | omega) _) | (with_reducible refine Below.drew ?_))) (by omega) (by simp) ⟨by go_cell, by go_cell, by go_cell, by go_cell, by go_cell, by go_cell⟩).mono ?_
    rintro e w2 ⟨rfl, hq⟩
    have HQ := hid hq
    clear hq
    go_wp2_with fail
    go_end0
    exact ⟨rfl, HQ.out⟩

set_option maxRecDepth 20000 in
set_option maxHeartbeats 2000000 in
theorem tripIf_core (p q : Nat) (t : Int) (nm : ByteArray) (g : Nat) (ct sl ls wd rc c1 c2 c3 c4 c5 c6 : Int) (r : Bool) (w : World) (Q : World → Prop)
    (k2 : w.cell? ⟨p, 2, none⟩ = some (.string nm)) (k3 : w.cell? ⟨p, 3, none⟩ = some (.int .u8 g)) (k4 : w.cell? ⟨p, 4, none⟩ = some (.int .i64 ct)) (k5 : w.cell? ⟨p, 5, none⟩ = some (.int .i64 sl)) (k6 : w.cell? ⟨p, 6, none⟩ = some (.int .i64 ls)) (k7 : w.cell? ⟨p, 7, none⟩ = some (.int .i64 wd)) (k8 : w.cell? ⟨p, 8, none⟩ = some (.int .i64 rc)) (k9 : w.cell? ⟨p, 9, none⟩ = some (.pointer (some ⟨q, 0, none⟩)))
    (HS : Hid (Calls Try.prog 45 #[.pointer (some ⟨q, 0, none⟩), .int .i64 t] w fun e w' => e = .returned (.tuple #[.agg #[.int .i64 c1, .int .i64 c2, .int .i64 c3, .int .i64 c4, .int .i64 c5, .int .i64 c6], .int .i64 0]) ∧ Below w.heap.size w w'))
    (HB : Hid (∀ wx : World, Calls Try.prog 67 #[.agg #[.string nm, .int .u8 (g : Nat), .int .i64 ct, .int .i64 sl, .int .i64 ls, .int .i64 wd, .int .i64 rc], .agg #[.int .i64 c1, .int .i64 c2, .int .i64 c3, .int .i64 c4, .int .i64 c5, .int .i64 c6]] wx fun e w' => e = .returned (.bool r) ∧ Below wx.heap.size wx w'))
    (HT : Hid (r = true → ∀ wx : World, Below w.heap.size w wx → Calls Try.prog 41 #[ptr p, .int .i64 t] wx fun e w' => e = .returned (.tuple #[]) ∧ Q w'))
    (HQ : Hid (r = false → ∀ wx : World, Below w.heap.size w wx → Q wx)) :
    Calls Try.prog 43 #[ptr p, .int .i64 t] w fun e w' => e = .returned (.tuple #[]) ∧ Q w' := by
  go_enter Try.func43, Try.ntmps43
  go_wp2_with fail
  refine HS.out.mono ?_
  rintro e w2 ⟨rfl, hb⟩
  have j2 : w2.cell? ⟨p, 2, none⟩ = some (.string nm) := kc hb k2
  have j3 : w2.cell? ⟨p, 3, none⟩ = some (.int .u8 (g : Nat)) := kc hb k3
  have j4 : w2.cell? ⟨p, 4, none⟩ = some (.int .i64 ct) := kc hb k4
  have j5 : w2.cell? ⟨p, 5, none⟩ = some (.int .i64 sl) := kc hb k5
  have j6 : w2.cell? ⟨p, 6, none⟩ = some (.int .i64 ls) := kc hb k6
  have j7 : w2.cell? ⟨p, 7, none⟩ = some (.int .i64 wd) := kc hb k7
  have j8 : w2.cell? ⟨p, 8, none⟩ = some (.int .i64 rc) := kc hb k8
  have kb : Below w.heap.size w (w2.alloc (.cells #[.int .i64 c1, .int .i64 c2, .int .i64 c3, .int .i64 c4, .int .i64 c5, .int .i64 c6] 64)) := hb.alloc hb.size _
  have l2 : (w2.alloc (.cells #[.int .i64 c1, .int .i64 c2, .int .i64 c3, .int .i64 c4, .int .i64 c5, .int .i64 c6] 64)).cell? ⟨p, 2, none⟩ = some (.string nm) := kc ((Below.refl _ _).alloc (Nat.le_refl _) _) j2
  have l3 : (w2.alloc (.cells #[.int .i64 c1, .int .i64 c2, .int .i64 c3, .int .i64 c4, .int .i64 c5, .int .i64 c6] 64)).cell? ⟨p, 3, none⟩ = some (.int .u8 (g : Nat)) := kc ((Below.refl _ _).alloc (Nat.le_refl _) _) j3
  have l4 : (w2.alloc (.cells #[.int .i64 c1, .int .i64 c2, .int .i64 c3, .int .i64 c4, .int .i64 c5, .int .i64 c6] 64)).cell? ⟨p, 4, none⟩ = some (.int .i64 ct) := kc ((Below.refl _ _).alloc (Nat.le_refl _) _) j4
  have l5 : (w2.alloc (.cells #[.int .i64 c1, .int .i64 c2, .int .i64 c3, .int .i64 c4, .int .i64 c5, .int .i64 c6] 64)).cell? ⟨p, 5, none⟩ = some (.int .i64 sl) := kc ((Below.refl _ _).alloc (Nat.le_refl _) _) j5
  have l6 : (w2.alloc (.cells #[.int .i64 c1, .int .i64 c2, .int .i64 c3, .int .i64 c4, .int .i64 c5, .int .i64 c6] 64)).cell? ⟨p, 6, none⟩ = some (.int .i64 ls) := kc ((Below.refl _ _).alloc (Nat.le_refl _) _) j6
  have l7 : (w2.alloc (.cells #[.int .i64 c1, .int .i64 c2, .int .i64 c3, .int .i64 c4, .int .i64 c5, .int .i64 c6] 64)).cell? ⟨p, 7, none⟩ = some (.int .i64 wd) := kc ((Below.refl _ _).alloc (Nat.le_refl _) _) j7
  have l8 : (w2.alloc (.cells #[.int .i64 c1, .int .i64 c2, .int .i64 c3, .int .i64 c4, .int .i64 c5, .int .i64 c6] 64)).cell? ⟨p, 8, none⟩ = some (.int .i64 rc) := kc ((Below.refl _ _).alloc (Nat.le_refl _) _) j8
  have d1 : (w2.alloc (.cells #[.int .i64 c1, .int .i64 c2, .int .i64 c3, .int .i64 c4, .int .i64 c5, .int .i64 c6] 64)).cell? ⟨w2.heap.size, 0, none⟩ = some (.int .i64 c1) := by go_cell
  have d2 : (w2.alloc (.cells #[.int .i64 c1, .int .i64 c2, .int .i64 c3, .int .i64 c4, .int .i64 c5, .int .i64 c6] 64)).cell? ⟨w2.heap.size, 1, none⟩ = some (.int .i64 c2) := by go_cell
  have d3 : (w2.alloc (.cells #[.int .i64 c1, .int .i64 c2, .int .i64 c3, .int .i64 c4, .int .i64 c5, .int .i64 c6] 64)).cell? ⟨w2.heap.size, 2, none⟩ = some (.int .i64 c3) := by go_cell
  have d4 : (w2.alloc (.cells #[.int .i64 c1, .int .i64 c2, .int .i64 c3, .int .i64 c4, .int .i64 c5, .int .i64 c6] 64)).cell? ⟨w2.heap.size, 3, none⟩ = some (.int .i64 c4) := by go_cell
  have d5 : (w2.alloc (.cells #[.int .i64 c1, .int .i64 c2, .int .i64 c3, .int .i64 c4, .int .i64 c5, .int .i64 c6] 64)).cell? ⟨w2.heap.size, 4, none⟩ = some (.int .i64 c5) := by go_cell
  have d6 : (w2.alloc (.cells #[.int .i64 c1, .int .i64 c2, .int .i64 c3, .int .i64 c4, .int .i64 c5, .int .i64 c6] 64)).cell? ⟨w2.heap.size, 5, none⟩ = some (.int .i64 c6) := by go_cell
  clear HS hb k2 k3 k4 k5 k6 k7 k8 k9 j2 j3 j4 j5 j6 j7 j8
  go_upto_region 1 with fail
  generalize (w2.alloc (.cells #[.int .i64 c1, .int .i64 c2, .int .i64 c3, .int .i64 c4, .int .i64 c5, .int .i64 c6] 64)) = wz at *
  go_region_held3 (fun w' => w'.cell? ⟨p, 2, none⟩ = some (.string nm) ∧ w'.cell? ⟨p, 3, none⟩ = some (.int .u8 (g : Nat)) ∧ w'.cell? ⟨p, 4, none⟩ = some (.int .i64 ct) ∧ w'.cell? ⟨p, 5, none⟩ = some (.int .i64 sl) ∧ w'.cell? ⟨p, 6, none⟩ = some (.int .i64 ls) ∧ w'.cell? ⟨p, 7, none⟩ = some (.int .i64 wd) ∧ w'.cell? ⟨p, 8, none⟩ = some (.int .i64 rc) ∧ w'.cell? ⟨w2.heap.size, 0, none⟩ = some (.int .i64 c1) ∧ w'.cell? ⟨w2.heap.size, 1, none⟩ = some (.int .i64 c2) ∧ w'.cell? ⟨w2.heap.size, 2, none⟩ = some (.int .i64 c3) ∧ w'.cell? ⟨w2.heap.size, 3, none⟩ = some (.int .i64 c4) ∧ w'.cell? ⟨w2.heap.size, 4, none⟩ = some (.int .i64 c5) ∧ w'.cell? ⟨w2.heap.size, 5, none⟩ = some (.int .i64 c6)) (first | assumption | go_keep)
      (first
         | (go_at_call 67
            refine (HB.out _).mono ?_
            rintro e w3 ⟨rfl, hb3⟩
            have l2 : w3.cell? ⟨p, 2, none⟩ = some (.string nm) := kc hb3 (by first | assumption | go_cell)
            have l3 : w3.cell? ⟨p, 3, none⟩ = some (.int .u8 (g : Nat)) := kc hb3 (by first | assumption | go_cell)
            have l4 : w3.cell? ⟨p, 4, none⟩ = some (.int .i64 ct) := kc hb3 (by first | assumption | go_cell)
            have l5 : w3.cell? ⟨p, 5, none⟩ = some (.int .i64 sl) := kc hb3 (by first | assumption | go_cell)
            have l6 : w3.cell? ⟨p, 6, none⟩ = some (.int .i64 ls) := kc hb3 (by first | assumption | go_cell)
            have l7 : w3.cell? ⟨p, 7, none⟩ = some (.int .i64 wd) := kc hb3 (by first | assumption | go_cell)
            have l8 : w3.cell? ⟨p, 8, none⟩ = some (.int .i64 rc) := kc hb3 (by first | assumption | go_cell)
            have d1 : w3.cell? ⟨w2.heap.size, 0, none⟩ = some (.int .i64 c1) := kc hb3 (by first | assumption | go_cell)
            have d2 : w3.cell? ⟨w2.heap.size, 1, none⟩ = some (.int .i64 c2) := kc hb3 (by first | assumption | go_cell)
            have d3 : w3.cell? ⟨w2.heap.size, 2, none⟩ = some (.int .i64 c3) := kc hb3 (by first | assumption | go_cell)
            have d4 : w3.cell? ⟨w2.heap.size, 3, none⟩ = some (.int .i64 c4) := kc hb3 (by first | assumption | go_cell)
            have d5 : w3.cell? ⟨w2.heap.size, 4, none⟩ = some (.int .i64 c5) := kc hb3 (by first | assumption | go_cell)
            have d6 : w3.cell? ⟨w2.heap.size, 5, none⟩ = some (.int .i64 c6) := kc hb3 (by first | assumption | go_cell)
            have kb : Below w.heap.size w w3 := bl (by first | assumption | exact (Below.drew (by assumption))) hb3))
  all_goals
    have KB := hid kb
    clear kb l2 l3 l4 l5 l6 l7 l8 d1 d2 d3 d4 d5 d6
    cases r with
    | false =>
      go_wp2_with fail
      go_end0
      exact ⟨rfl, HQ.out (by trivial) _ (by first | exact KB.out | exact KB.out.drew)⟩
    | true =>
      go_wp2_with fail
      refine (HT.out (by trivial) _ (by first | exact KB.out | exact KB.out.drew)).mono ?_
      rintro e w5 ⟨rfl, hq⟩
      have HQ5 := hid hq
      clear hq
      go_wp2_with fail
      go_end0
      exact ⟨rfl, HQ5.out⟩

end Go.Proofs.Ytcmklahbophclaa.BreU
