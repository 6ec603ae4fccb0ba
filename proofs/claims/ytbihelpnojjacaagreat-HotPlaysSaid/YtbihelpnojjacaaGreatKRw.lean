/- The document's window: Sum. -/
import Derived.Test.YtbihelpnojjacaaGreatKWin
import Derived.Deep.RegionHeld3
import Derived.Deep.DeepCutAuto
import Derived.Maps.AppendAt
import Derived.Test.YtbihelpnojjacaaGreatWri
import Derived.Test.YtbihelpnojjacaaGreatWldG
import Derived.Laws.StructEq

/- The document's counts: sum, Two. -/
namespace Go.Proofs.YtbihelpnojjacaaGreat.RwA
set_option linter.unusedVariables false
open Go.ChangeShapes Go.WideShapes Go.ChangeAt Go.RowKit Base WinM WinA WinB WinC

set_option maxHeartbeats 400000 in
theorem rsum_any (a b : Int) (ha : InN a) (hb : InN b) (w : World) :
    Calls Tryz.prog 115 #[.int .i64 a, .int .i64 b] w fun e w' => e = .returned (.int .i64 (plusM a b)) ∧ w' = w := by
  have a1 := ha.1
  have a2 := ha.2
  have b1 := hb.1
  have b2 := hb.2
  clear ha hb
  by_cases h : 4611686018427387904 < a + b
  · have e : plusM a b = 4611686018427387904 := by unfold plusM; rw [if_pos h]
    rw [e]
    have h2 : 4611686018427387904 - b < a := by omega
    clear e h
    go_enter Tryz.func115, Tryz.ntmps115
    go_wp2
    go_ret
    exact ⟨rfl, rfl⟩
  · have e : plusM a b = a + b := by unfold plusM; rw [if_neg h]
    rw [e]
    have h2 : decide (4611686018427387904 - b < a) = false := by simp; omega
    have h3 : a + b ≤ 4611686018427387904 := by omega
    clear e h
    go_enter Tryz.func115, Tryz.ntmps115
    go_wp2
    go_ret
    exact ⟨rfl, rfl⟩

set_option maxRecDepth 100000 in
set_option maxHeartbeats 4000000 in
theorem two_core (a1 a2 a3 a4 a5 a6 b1 b2 b3 b4 b5 b6 c1 c2 c3 c4 c5 r : Int) (w : World)
    (HS1 : Hid (∀ w, Calls Tryz.prog 115 #[.int .i64 a1, .int .i64 b1] w fun e w' => e = .returned (.int .i64 c1) ∧ w' = w))
    (HS2 : Hid (∀ w, Calls Tryz.prog 115 #[.int .i64 a2, .int .i64 b2] w fun e w' => e = .returned (.int .i64 c2) ∧ w' = w))
    (HS3 : Hid (∀ w, Calls Tryz.prog 115 #[.int .i64 a3, .int .i64 b3] w fun e w' => e = .returned (.int .i64 c3) ∧ w' = w))
    (HS4 : Hid (∀ w, Calls Tryz.prog 115 #[.int .i64 a4, .int .i64 b4] w fun e w' => e = .returned (.int .i64 c4) ∧ w' = w))
    (HS5 : Hid (∀ w, Calls Tryz.prog 115 #[.int .i64 a5, .int .i64 b5] w fun e w' => e = .returned (.int .i64 c5) ∧ w' = w))
    (hr : (a3 = 0 ∧ r = b6) ∨ ((a3 == 0) = false ∧ (b3 == 0) = true ∧ r = a6) ∨ ((a3 == 0) = false ∧ (b3 == 0) = false ∧ decide (a6 < b6) = true ∧ r = a6) ∨ ((a3 == 0) = false ∧ (b3 == 0) = false ∧ decide (a6 < b6) = false ∧ r = b6)) :
    Calls Tryz.prog 80 #[.agg #[.int .i64 a1, .int .i64 a2, .int .i64 a3, .int .i64 a4, .int .i64 a5, .int .i64 a6], .agg #[.int .i64 b1, .int .i64 b2, .int .i64 b3, .int .i64 b4, .int .i64 b5, .int .i64 b6]] w
      fun e w' => e = .returned (.agg #[.int .i64 c1, .int .i64 c2, .int .i64 c3, .int .i64 c4, .int .i64 c5, .int .i64 r]) ∧ Below w.heap.size w w' := by
  have HR := hid hr
  clear hr
  go_enter Tryz.func80, Tryz.ntmps80
  go_upto_region 1 with fail
  go_region_held3 (fun w' => w'.cell? ⟨w.heap.size, 0, none⟩ = some (.int .i64 a1) ∧ w'.cell? ⟨w.heap.size, 1, none⟩ = some (.int .i64 a2) ∧ w'.cell? ⟨w.heap.size, 2, none⟩ = some (.int .i64 a3) ∧ w'.cell? ⟨w.heap.size, 3, none⟩ = some (.int .i64 a4) ∧ w'.cell? ⟨w.heap.size, 4, none⟩ = some (.int .i64 a5) ∧ w'.cell? ⟨w.heap.size, 5, none⟩ = some (.int .i64 a6) ∧ w'.cell? ⟨w.heap.size + 1, 0, none⟩ = some (.int .i64 b1) ∧ w'.cell? ⟨w.heap.size + 1, 1, none⟩ = some (.int .i64 b2) ∧ w'.cell? ⟨w.heap.size + 1, 2, none⟩ = some (.int .i64 b3) ∧ w'.cell? ⟨w.heap.size + 1, 3, none⟩ = some (.int .i64 b4) ∧ w'.cell? ⟨w.heap.size + 1, 4, none⟩ = some (.int .i64 b5) ∧ w'.cell? ⟨w.heap.size + 1, 5, none⟩ = some (.int .i64 b6)) (go_keep) (first | (go_at_call 115; (with_reducible refine (HS1.out _).mono ?_); rintro e w4 ⟨rfl, rfl⟩) | (go_at_call 115; (with_reducible refine (HS2.out _).mono ?_); rintro e w4 ⟨rfl, rfl⟩) | (go_at_call 115; (with_reducible refine (HS3.out _).mono ?_); rintro e w4 ⟨rfl, rfl⟩) | (go_at_call 115; (with_reducible refine (HS4.out _).mono ?_); rintro e w4 ⟨rfl, rfl⟩) | (go_at_call 115; (with_reducible refine (HS5.out _).mono ?_); rintro e w4 ⟨rfl, rfl⟩))
  all_goals (
    clear HS1 HS2 HS3 HS4 HS5
    rename_i hHeld
    clear hHeld
    rcases HR.out with ⟨e1, e2⟩ | ⟨h1', h2', e2⟩ | ⟨h1', h2', h3', e2⟩ | ⟨h1', h2', h3', e2⟩)
  all_goals (clear HR)
  all_goals (first
    | (subst e1
       go_wp2_with fail
       exact bodyPost_ret (v := .agg #[.int .i64 c1, .int .i64 c2, .int .i64 c3, .int .i64 c4, .int .i64 c5, .int .i64 r]) (by rw [e2]; simp [results, Tryz.results80, go_sem]) rfl ⟨rfl, (by repeat (first | (with_reducible exact Below.refl _ _) | (with_reducible refine Below.setCell ?_ (by first | (simp; done) | (simp; omega) | omega) _) | (with_reducible refine Below.alloc ?_ (by first | (simp; done) | (simp; omega) | omega) _) | (with_reducible refine Below.drew ?_)))⟩)
    | (go_wp2_with fail
       exact bodyPost_ret (v := .agg #[.int .i64 c1, .int .i64 c2, .int .i64 c3, .int .i64 c4, .int .i64 c5, .int .i64 r]) (by rw [e2]; simp [results, Tryz.results80, go_sem]) rfl ⟨rfl, (by repeat (first | (with_reducible exact Below.refl _ _) | (with_reducible refine Below.setCell ?_ (by first | (simp; done) | (simp; omega) | omega) _) | (with_reducible refine Below.alloc ?_ (by first | (simp; done) | (simp; omega) | omega) _) | (with_reducible refine Below.drew ?_)))⟩))

theorem two_any (a b : Cnt) (ha : a.Fine) (hb : b.Fine) (w : World) :
    Calls Tryz.prog 80 #[cv a, cv b] w fun e w' => e = .returned (cv (joinM a b)) ∧ Below w.heap.size w w' := by
  obtain ⟨a1, a2, a3, a4, a5, a6⟩ := a
  obtain ⟨b1, b2, b3, b4, b5, b6⟩ := b
  obtain ⟨i1, i2, i3, i4, i5, i6⟩ := ha
  obtain ⟨j1, j2, j3, j4, j5, j6⟩ := hb
  dsimp only at *
  refine two_core a1 a2 a3 a4 a5 a6 b1 b2 b3 b4 b5 b6 _ _ _ _ _ _ w (hid fun w => rsum_any _ _ i1 j1 w) (hid fun w => rsum_any _ _ i2 j2 w) (hid fun w => rsum_any _ _ i3 j3 w) (hid fun w => rsum_any _ _ i4 j4 w) (hid fun w => rsum_any _ _ i5 j5 w) ?_
  show (a3 = 0 ∧ leastM _ _ = b6) ∨ ((a3 == 0) = false ∧ (b3 == 0) = true ∧ leastM _ _ = a6) ∨ ((a3 == 0) = false ∧ (b3 == 0) = false ∧ decide (a6 < b6) = true ∧ leastM _ _ = a6) ∨ ((a3 == 0) = false ∧ (b3 == 0) = false ∧ decide (a6 < b6) = false ∧ leastM _ _ = b6)
  unfold leastM
  dsimp only
  by_cases h1 : a3 = 0
  · exact .inl ⟨h1, by rw [if_pos h1]⟩
  · rw [if_neg h1]
    have h1' : (a3 == 0) = false := by simpa using h1
    by_cases h2 : b3 = 0
    · exact .inr (.inl ⟨h1', by simpa using h2, by rw [if_pos h2]⟩)
    · rw [if_neg h2]
      have h2' : (b3 == 0) = false := by simpa using h2
      by_cases h3 : a6 < b6
      · exact .inr (.inr (.inl ⟨h1', h2', by simpa using h3, by omega⟩))
      · exact .inr (.inr (.inr ⟨h1', h2', by simpa using h3, by omega⟩))

theorem join0 {c : Cnt} (h : c.Fine) : joinM ⟨0, 0, 0, 0, 0, 0⟩ c = c := by
  obtain ⟨c1, c2, c3, c4, c5, c6⟩ := c
  obtain ⟨⟨l1, u1⟩, ⟨l2, u2⟩, ⟨l3, u3⟩, ⟨l4, u4⟩, ⟨l5, u5⟩, ⟨l6, u6⟩⟩ := h
  dsimp only at *
  unfold joinM plusM leastM
  dsimp only
  rw [if_neg (by omega), if_neg (by omega), if_neg (by omega), if_neg (by omega), if_neg (by omega), if_pos rfl]
  simp

end Go.Proofs.YtbihelpnojjacaaGreat.RwA

/- The document's counts: Right, Join of one; look, begin. -/
namespace Go.Proofs.YtbihelpnojjacaaGreat.RwB
set_option linter.unusedVariables false
open Go.ChangeShapes Go.WideShapes Go.ChangeAt Go.RowKit Base WinM WinA WinB WinC WinD WinE RwA

set_option maxRecDepth 20000 in
set_option maxHeartbeats 2000000 in
theorem right_yes (a1 a2 a3 a4 a5 a6 : Int) (h : (Cnt.mk a1 a2 a3 a4 a5 a6).Right) (w : World) :
    Calls Tryz.prog 77 #[.agg #[.int .i64 a1, .int .i64 a2, .int .i64 a3, .int .i64 a4, .int .i64 a5, .int .i64 a6]] w fun e w' => e = .returned (.bool true) ∧ Below w.heap.size w w' := by
  obtain ⟨⟨h1, h2, h3, h4, h5, h6⟩, k1, k2, k3⟩ := h
  dsimp only at *
  unfold InN at *
  obtain ⟨l1, u1⟩ := h1
  obtain ⟨l2, u2⟩ := h2
  obtain ⟨l3, u3⟩ := h3
  obtain ⟨l4, u4⟩ := h4
  obtain ⟨l5, u5⟩ := h5
  obtain ⟨l6, u6⟩ := h6
  have n1 : decide (a4 ≤ a3) = true := by simp; omega
  have n2 : decide (a6 ≤ a5) = true := by simp; omega
  have n3 : a3 = 0 → a5 = 0 := fun h => by by_cases h5 : a5 = 0; exact h5; exact absurd ⟨h, h5⟩ k3
  have N3 := hid n3
  clear k1 k2 k3 n3
  go_enter Tryz.func77, Tryz.ntmps77
  go_wp2_with fail
  go_loop [4] (fun i => ∃ k : Nat, k ≤ 6 ∧ i = .int .i64 k) (fun i => 6 - (intOf i).toNat)
  case atStart => exact ⟨0, by omega, rfl⟩
  case round =>
    obtain ⟨k, hk, rfl⟩ := hrel
    match k, hk with
    | 0, _ => go_wp2; go_round; case rel => exact ⟨1, by omega, by go_num⟩
              case measure => simp [intOf]
    | 1, _ => go_wp2; go_round; case rel => exact ⟨2, by omega, by go_num⟩
              case measure => simp [intOf]
    | 2, _ => go_wp2; go_round; case rel => exact ⟨3, by omega, by go_num⟩
              case measure => simp [intOf]
    | 3, _ => go_wp2; go_round; case rel => exact ⟨4, by omega, by go_num⟩
              case measure => simp [intOf]
    | 4, _ => go_wp2; go_round; case rel => exact ⟨5, by omega, by go_num⟩
              case measure => simp [intOf]
    | 5, _ => go_wp2; go_round; case rel => exact ⟨6, by omega, by go_num⟩
              case measure => simp [intOf]
    | 6, _ =>
      by_cases h3 : a3 = 0
      · have h5 := N3.out h3
        subst h3 h5
        go_wp2
        go_ret
        exact ⟨rfl, (by repeat (first | (with_reducible exact Below.refl _ _) | (with_reducible refine Below.setCell ?_ (by first | (simp; done) | (simp; omega) | omega) _) | (with_reducible refine Below.alloc ?_ (by first | (simp; done) | (simp; omega) | omega) _) | (with_reducible refine Below.drew ?_)))⟩
      · have h3' : decide (0 < a3) = true := by simp; omega
        go_wp2
        go_ret
        exact ⟨rfl, (by repeat (first | (with_reducible exact Below.refl _ _) | (with_reducible refine Below.setCell ?_ (by first | (simp; done) | (simp; omega) | omega) _) | (with_reducible refine Below.alloc ?_ (by first | (simp; done) | (simp; omega) | omega) _) | (with_reducible refine Below.drew ?_)))⟩

end Go.Proofs.YtbihelpnojjacaaGreat.RwB

/- The document's counts: Join of one; look, begin. -/
namespace Go.Proofs.YtbihelpnojjacaaGreat.RwC
set_option linter.unusedVariables false
open Go.ChangeShapes Go.WideShapes Go.ChangeAt Go.RowKit Base WinM WinA WinB WinC WinD WinE RwA RwB

theorem kc {W W' : World} {g o : Nat} {v : Value} (hb : Below W.heap.size W W') (h : W.cell? ⟨g, o, none⟩ = some v) : W'.cell? ⟨g, o, none⟩ = some v := (hb.cell (p := ⟨g, o, none⟩) (World.block_lt_of_cell? _ _ h)).trans h
theorem kf {W W' : World} {g o : Nat} (hb : Below W.heap.size W W') (hg : g < W.heap.size) (h : W.frozen? ⟨g, o, none⟩ = false) : W'.frozen? ⟨g, o, none⟩ = false := by
  simp only [World.frozen?] at h ⊢; rw [hb.block g hg]; exact h
/-- a cell that is there and may be written -/
def May (w : World) (g o : Nat) (v : Value) : Prop := w.cell? ⟨g, o, none⟩ = some v ∧ w.frozen? ⟨g, o, none⟩ = false
theorem two_zero {c1 c2 c3 c4 c5 c6 : Int} (h : (Cnt.mk c1 c2 c3 c4 c5 c6).Fine) (w : World) :
    Calls Tryz.prog 80 #[.agg #[.int .i64 0, .int .i64 0, .int .i64 0, .int .i64 0, .int .i64 0, .int .i64 0], .agg #[.int .i64 c1, .int .i64 c2, .int .i64 c3, .int .i64 c4, .int .i64 c5, .int .i64 c6]] w
      fun e w' => e = .returned (.agg #[.int .i64 c1, .int .i64 c2, .int .i64 c3, .int .i64 c4, .int .i64 c5, .int .i64 c6]) ∧ Below w.heap.size w w' := by
  have := two_any ⟨0, 0, 0, 0, 0, 0⟩ _ WinH.zero_fine h w
  rw [join0 h] at this
  exact this

set_option maxRecDepth 20000 in
set_option maxHeartbeats 4000000 in
theorem join_one (c1 c2 c3 c4 c5 c6 : Int) (g o cap : Nat) (w : World) (hc : (Cnt.mk c1 c2 c3 c4 c5 c6).Right) (hg : g < w.heap.size) (H : Hid (At6 w g o ⟨c1, c2, c3, c4, c5, c6⟩)) :
    Calls Tryz.prog 78 #[.slice (some ⟨g, o, none⟩) 1 cap] w fun e w' => e = .returned (.agg #[.int .i64 c1, .int .i64 c2, .int .i64 c3, .int .i64 c4, .int .i64 c5, .int .i64 c6]) ∧ Below w.heap.size w w' := by
  have HR := hid (right_yes c1 c2 c3 c4 c5 c6 hc)
  have HT := hid (fun w => two_zero (c1 := c1) (c2 := c2) (c3 := c3) (c4 := c4) (c5 := c5) (c6 := c6) hc.1 w)
  clear hc
  go_enter Tryz.func78, Tryz.ntmps78
  go_wp2_with fail
  go_loopw [4] (fun i wr => Below w.heap.size w wr ∧ w.heap.size + 2 ≤ wr.heap.size ∧ Free6 wr (w.heap.size + 1) 0 ∧ Free6 wr w.heap.size 0 ∧ At6 wr w.heap.size 0 ⟨0, 0, 0, 0, 0, 0⟩ ∧ ((i = .int .i64 0 ∧ At6 wr (w.heap.size + 1) 0 ⟨0, 0, 0, 0, 0, 0⟩) ∨ (i = .int .i64 1 ∧ At6 wr (w.heap.size + 1) 0 ⟨c1, c2, c3, c4, c5, c6⟩))) (fun i _ => 1 - (intOf i).toNat)
  case atStart => exact ⟨(by repeat (first | (with_reducible exact Below.refl _ _) | (with_reducible refine Below.setCell ?_ (by first | (simp; done) | (simp; omega) | omega) _) | (with_reducible refine Below.alloc ?_ (by first | (simp; done) | (simp; omega) | omega) _) | (with_reducible refine Below.drew ?_) | (with_reducible refine below_drewN ?_ _))), by simp, ⟨by go_cell, by go_cell, by go_cell, by go_cell, by go_cell, by go_cell⟩, ⟨by go_cell, by go_cell, by go_cell, by go_cell, by go_cell, by go_cell⟩, ⟨by go_cell, by go_cell, by go_cell, by go_cell, by go_cell, by go_cell⟩, .inl ⟨rfl, ⟨by go_cell, by go_cell, by go_cell, by go_cell, by go_cell, by go_cell⟩⟩⟩
  case round =>
    obtain ⟨hbel, hsz, hfr, hfr0, h0, hcase⟩ := hrel
    rcases hcase with ⟨rfl, h6⟩ | ⟨rfl, h6⟩
    · obtain ⟨k1, k2, k3, k4, k5, k6⟩ := H.out
      have HB := hid hbel
      have HZ := hid (And.intro hfr (And.intro hfr0 h0))
      replace k1 := (hbel.cell (p := ⟨g, o, none⟩) hg).trans k1
      replace k2 := (hbel.cell (p := ⟨g, o + 1, none⟩) hg).trans k2
      replace k3 := (hbel.cell (p := ⟨g, o + 2, none⟩) hg).trans k3
      replace k4 := (hbel.cell (p := ⟨g, o + 3, none⟩) hg).trans k4
      replace k5 := (hbel.cell (p := ⟨g, o + 4, none⟩) hg).trans k5
      replace k6 := (hbel.cell (p := ⟨g, o + 5, none⟩) hg).trans k6
      obtain ⟨j1, j2, j3, j4, j5, j6⟩ := h6
      dsimp only at k1 k2 k3 k4 k5 k6 j1 j2 j3 j4 j5 j6
      simp only [Nat.zero_add] at j1 j2 j3 j4 j5 j6
      clear hbel hfr hfr0 h0
      go_wp2_with fail
      refine (HR.out _).mono ?_
      rintro e w5 ⟨rfl, hb5⟩
      clear HR
      replace k1 := kc hb5 k1
      replace k2 := kc hb5 k2
      replace k3 := kc hb5 k3
      replace k4 := kc hb5 k4
      replace k5 := kc hb5 k5
      replace k6 := kc hb5 k6
      replace j1 := kc hb5 j1
      replace j2 := kc hb5 j2
      replace j3 := kc hb5 j3
      replace j4 := kc hb5 j4
      replace j5 := kc hb5 j5
      replace j6 := kc hb5 j6
      go_wp2_with fail
      obtain ⟨⟨f1, f2, f3, f4, f5, f6⟩, ⟨fy1, fy2, fy3, fy4, fy5, fy6⟩, ⟨y1, y2, y3, y4, y5, y6⟩⟩ := HZ.out
      simp only [Nat.zero_add] at f1 f2 f3 f4 f5 f6 fy1 fy2 fy3 fy4 fy5 fy6 y1 y2 y3 y4 y5 y6
      replace f1 := kf hb5 (by omega) f1
      replace f2 := kf hb5 (by omega) f2
      replace f3 := kf hb5 (by omega) f3
      replace f4 := kf hb5 (by omega) f4
      replace f5 := kf hb5 (by omega) f5
      replace f6 := kf hb5 (by omega) f6
      replace fy1 := kf hb5 (by omega) fy1
      replace fy2 := kf hb5 (by omega) fy2
      replace fy3 := kf hb5 (by omega) fy3
      replace fy4 := kf hb5 (by omega) fy4
      replace fy5 := kf hb5 (by omega) fy5
      replace fy6 := kf hb5 (by omega) fy6
      replace y1 := kc hb5 y1
      replace y2 := kc hb5 y2
      replace y3 := kc hb5 y3
      replace y4 := kc hb5 y4
      replace y5 := kc hb5 y5
      replace y6 := kc hb5 y6
      go_region_with (go_at_call 80; with_reducible refine (HT.out _).mono ?_; rintro e w9 ⟨rfl, hb⟩; have q0 : w9.cell? ⟨w.heap.size + 1, 0, none⟩ = some (.int .i64 0) := kc hb (by first | assumption | go_cell); have q1 : w9.cell? ⟨w.heap.size + 1, 1, none⟩ = some (.int .i64 0) := kc hb (by first | assumption | go_cell); have q2 : w9.cell? ⟨w.heap.size + 1, 2, none⟩ = some (.int .i64 0) := kc hb (by first | assumption | go_cell); have q3 : w9.cell? ⟨w.heap.size + 1, 3, none⟩ = some (.int .i64 0) := kc hb (by first | assumption | go_cell); have q4 : w9.cell? ⟨w.heap.size + 1, 4, none⟩ = some (.int .i64 0) := kc hb (by first | assumption | go_cell); have q5 : w9.cell? ⟨w.heap.size + 1, 5, none⟩ = some (.int .i64 0) := kc hb (by first | assumption | go_cell); have q6 : w9.cell? ⟨w.heap.size, 0, none⟩ = some (.int .i64 0) := kc hb (by first | assumption | go_cell); have q7 : w9.cell? ⟨w.heap.size, 1, none⟩ = some (.int .i64 0) := kc hb (by first | assumption | go_cell); have q8 : w9.cell? ⟨w.heap.size, 2, none⟩ = some (.int .i64 0) := kc hb (by first | assumption | go_cell); have q9 : w9.cell? ⟨w.heap.size, 3, none⟩ = some (.int .i64 0) := kc hb (by first | assumption | go_cell); have q10 : w9.cell? ⟨w.heap.size, 4, none⟩ = some (.int .i64 0) := kc hb (by first | assumption | go_cell); have q11 : w9.cell? ⟨w.heap.size, 5, none⟩ = some (.int .i64 0) := kc hb (by first | assumption | go_cell); have q12 : w9.frozen? ⟨w.heap.size + 1, 0, none⟩ = false := kf hb (by have := hb5.size; simp; omega) (by first | assumption | go_cell); have q13 : w9.frozen? ⟨w.heap.size + 1, 1, none⟩ = false := kf hb (by have := hb5.size; simp; omega) (by first | assumption | go_cell); have q14 : w9.frozen? ⟨w.heap.size + 1, 2, none⟩ = false := kf hb (by have := hb5.size; simp; omega) (by first | assumption | go_cell); have q15 : w9.frozen? ⟨w.heap.size + 1, 3, none⟩ = false := kf hb (by have := hb5.size; simp; omega) (by first | assumption | go_cell); have q16 : w9.frozen? ⟨w.heap.size + 1, 4, none⟩ = false := kf hb (by have := hb5.size; simp; omega) (by first | assumption | go_cell); have q17 : w9.frozen? ⟨w.heap.size + 1, 5, none⟩ = false := kf hb (by have := hb5.size; simp; omega) (by first | assumption | go_cell); have q18 : w9.frozen? ⟨w.heap.size, 0, none⟩ = false := kf hb (by have := hb5.size; simp; omega) (by first | assumption | go_cell); have q19 : w9.frozen? ⟨w.heap.size, 1, none⟩ = false := kf hb (by have := hb5.size; simp; omega) (by first | assumption | go_cell); have q20 : w9.frozen? ⟨w.heap.size, 2, none⟩ = false := kf hb (by have := hb5.size; simp; omega) (by first | assumption | go_cell); have q21 : w9.frozen? ⟨w.heap.size, 3, none⟩ = false := kf hb (by have := hb5.size; simp; omega) (by first | assumption | go_cell); have q22 : w9.frozen? ⟨w.heap.size, 4, none⟩ = false := kf hb (by have := hb5.size; simp; omega) (by first | assumption | go_cell); have q23 : w9.frozen? ⟨w.heap.size, 5, none⟩ = false := kf hb (by have := hb5.size; simp; omega) (by first | assumption | go_cell))
      all_goals (
        go_wp2_with fail
        go_roundw
        case rel =>
          have z1 := HB.out.size
          have z2 := hb5.size
          have z3 := hb.size
          refine ⟨(by repeat (first | (with_reducible exact Below.refl _ _) | (with_reducible refine Below.setCell ?_ (by first | (simp; done) | (simp; omega) | omega) _) | (with_reducible refine Below.alloc ?_ (by first | (simp; done) | (simp; omega) | omega) _) | (with_reducible refine Below.drew ?_) | (with_reducible refine below_drewN ?_ _) | (with_reducible exact HB.out) | (with_reducible exact hb5) | (with_reducible exact hb) | (with_reducible refine Below.trans ?_ (Below.mono HB.out (by first | (simp; done) | (simp; omega) | omega))) | (with_reducible refine Below.trans ?_ (Below.mono hb5 (by first | (simp; done) | (simp; omega) | omega))) | (with_reducible refine Below.trans ?_ (Below.mono hb (by first | (simp; done) | (simp; omega) | omega))))), ?_, ⟨by go_cell, by go_cell, by go_cell, by go_cell, by go_cell, by go_cell⟩, ⟨by go_cell, by go_cell, by go_cell, by go_cell, by go_cell, by go_cell⟩, ⟨by go_cell, by go_cell, by go_cell, by go_cell, by go_cell, by go_cell⟩, .inr ⟨rfl, ⟨by go_cell, by go_cell, by go_cell, by go_cell, by go_cell, by go_cell⟩⟩⟩
          simp at z3 ⊢
          omega
        case measure => simp [intOf])
    · obtain ⟨j1, j2, j3, j4, j5, j6⟩ := h6
      obtain ⟨fy1, fy2, fy3, fy4, fy5, fy6⟩ := hfr0
      obtain ⟨y1, y2, y3, y4, y5, y6⟩ := h0
      dsimp only at y1 y2 y3 y4 y5 y6
      dsimp only at j1 j2 j3 j4 j5 j6
      simp only [Nat.zero_add] at fy1 fy2 fy3 fy4 fy5 fy6 y1 y2 y3 y4 y5 y6 j1 j2 j3 j4 j5 j6
      have HB := hid hbel
      clear hbel hfr
      go_wp2_with fail
      exact bodyPost_ret (v := .agg #[.int .i64 c1, .int .i64 c2, .int .i64 c3, .int .i64 c4, .int .i64 c5, .int .i64 c6]) (by simp [results, Tryz.results78, go_sem, World.cell?_setCell_same', y1, y2, y3, y4, y5, y6]) rfl ⟨rfl, (by repeat (first | (with_reducible exact Below.refl _ _) | (with_reducible refine Below.setCell ?_ (by first | (simp; done) | (simp; omega) | omega) _) | (with_reducible refine Below.alloc ?_ (by first | (simp; done) | (simp; omega) | omega) _) | (with_reducible refine Below.drew ?_) | (with_reducible refine below_drewN ?_ _) | (with_reducible exact HB.out) | (with_reducible refine Below.trans ?_ (Below.mono HB.out (by first | (simp; done) | (simp; omega) | omega)))))⟩

end Go.Proofs.YtbihelpnojjacaaGreat.RwC

/- The document's window: look, begin, New. -/
namespace Go.Proofs.YtbihelpnojjacaaGreat.RwD
set_option linter.unusedVariables false
open Go.ChangeShapes Go.WideShapes Go.ChangeAt Go.RowKit Base Wri WinM WinA WinB WinC WinD WinE RwA RwB RwC

set_option maxHeartbeats 400000 in
theorem rlook_any (p : Nat) (last at_ : Int) (w : World) (h : w.cell? ⟨p, 2, none⟩ = some (.int .i64 last)) :
    Calls Tryz.prog 76 #[.pointer (some ⟨p, 0, none⟩), .int .i64 at_] w fun e w' => e = .returned (.int .i64 (refM last at_)) ∧ w = w' := by
  by_cases h1 : at_ < 0
  · have e : refM last at_ = 2 := by unfold refM; rw [if_pos (.inl h1)]
    rw [e]; clear e
    go_enter Tryz.func76, Tryz.ntmps76
    go_wp2
    go_ret
    exact ⟨rfl, rfl⟩
  · by_cases h2 : 1152921504606846976 < at_
    · have e : refM last at_ = 2 := by unfold refM; rw [if_pos (.inr h2)]
      rw [e]; clear e
      have h1' : decide (at_ < 0) = false := by simpa using h1
      clear h1
      go_enter Tryz.func76, Tryz.ntmps76
      go_wp2
      go_ret
      exact ⟨rfl, rfl⟩
    · have h1' : decide (at_ < 0) = false := by simpa using h1
      have h2' : decide (1152921504606846976 < at_) = false := by simpa using h2
      by_cases h3 : at_ < last
      · have e : refM last at_ = 7 := by unfold refM; rw [if_neg (by omega), if_pos h3]
        rw [e]; clear e h1 h2
        go_enter Tryz.func76, Tryz.ntmps76
        go_wp2
        go_ret
        exact ⟨rfl, rfl⟩
      · have e : refM last at_ = 0 := by unfold refM; rw [if_neg (by omega), if_neg h3]
        rw [e]; clear e h1 h2
        have h3' : decide (at_ < last) = false := by simpa using h3
        clear h3
        go_enter Tryz.func76, Tryz.ntmps76
        go_wp2
        go_ret
        exact ⟨rfl, rfl⟩

set_option maxHeartbeats 400000 in
theorem rbegin_any (p : Nat) (wd sz q at_ : Nat) (w : World) (hw : w.cell? ⟨p, 0, none⟩ = some (.int .i64 wd)) (hs : w.cell? ⟨p, 1, none⟩ = some (.int .i64 sz)) (hz : 0 < sz) (hq : wd / sz = q) (hq0 : 0 < q) (hz2 : wd ≤ 1099511627776) (ha : at_ ≤ 1152921504606846976) :
    Calls Tryz.prog 79 #[.pointer (some ⟨p, 0, none⟩), .int .i64 at_] w fun e w' => e = .returned (.int .i64 (begN q at_ : Nat)) ∧ ∃ n, w.drewN n = w' := by
  have e1 : (wd : Int) / (sz : Int) = (q : Int) := by rw [← hq]; rfl
  have n1 : ((sz : Int) == 0) = false := by simp; omega
  have n2 : ((q : Int) == 0) = false := by simp; omega
  have q1 : q ≤ 1099511627776 := by rw [← hq]; exact Nat.le_trans (Nat.div_le_self _ _) hz2
  have m1 : (0 : Int) ≤ (at_ : Int) % (q : Int) := Int.emod_nonneg _ (by omega)
  have m2 : (at_ : Int) % (q : Int) ≤ at_ := Int.ofNat_le.2 (Nat.mod_le at_ q)
  have hB := hid (begN_eq q at_)
  clear hq hz2
  go_enter Tryz.func79, Tryz.ntmps79
  go_wp2_with fail
  go_quiet (fail)
  go_wp2_with fail
  go_ret
  exact ⟨by rw [← hB.out]; rfl, _, rfl⟩

/-- the cells of buckets -/
def cB (L : List Bkt) : List Value := L.flatMap bv
theorem cB_len (L : List Bkt) : (cB L).length = L.length * 7 := by
  unfold cB
  induction L with
  | nil => rfl
  | cons x L ih => rw [List.flatMap_cons, List.length_append, ih]; simp [bv]; omega
theorem cB_one (L : List Bkt) : ∀ u ∈ cB L, u.oneCell' = true := by
  intro u hu
  obtain ⟨x, hx, hu⟩ := List.mem_flatMap.1 hu
  unfold bv at hu
  simp at hu
  rcases hu with rfl | rfl | rfl | rfl | rfl | rfl | rfl <;> rfl
theorem cB_app (L M : List Bkt) : cB (L ++ M) = cB L ++ cB M := by unfold cB; simp
theorem cB_at : ∀ (L : List Bkt) (i : Nat) (x : Bkt), L[i]? = some x → ∀ j, j < 7 → (cB L)[i * 7 + j]? = (bv x)[j]?
  | [], i, x, h, _, _ => by simp at h
  | y :: L, 0, x, h, j, hj => by
    simp at h
    subst h
    show (bv y ++ cB L)[0 * 7 + j]? = _
    rw [List.getElem?_append_left (by simp [bv]; omega), Nat.zero_mul, Nat.zero_add]
  | y :: L, i + 1, x, h, j, hj => by
    show (bv y ++ cB L)[(i + 1) * 7 + j]? = _
    rw [List.getElem?_append_right (by simp [bv]; omega), show (i + 1) * 7 + j - (bv y).length = i * 7 + j by simp [bv]; omega]
    exact cB_at L i x (by simpa using h) j hj

/-- a window of the document's in memory -/
structure IsRw (w : World) (p B wd sz last : Nat) (v : Value) (L : List Bkt) : Prop where
  blk : w.heap[p]? = some (.cells #[.int .i64 wd, .int .i64 sz, .int .i64 last, v] 138)
  row : w.ownsRow B 167 7 v L.length (cB L)
  off : ∀ g, v.ownBlock = some g → g ≠ p
  nil : L = [] → v = .slice none 0 0

variable {w w' : World} {p B wd sz last : Nat} {v : Value} {L : List Bkt}
theorem IsRw.lt (h : IsRw w p B wd sz last v L) : p < w.heap.size := (Array.getElem?_eq_some_iff.1 h.blk).1
theorem IsRw.keep (h : IsRw w p B wd sz last v L) (hk : ∀ k, (k = p ∨ v.ownBlock = some k) → w'.heap[k]? = w.heap[k]?) : IsRw w' p B wd sz last v L :=
  ⟨(hk p (.inl rfl)).trans h.blk, owns_keep h.row (fun g e => hk g (.inr e)), h.off, h.nil⟩
theorem IsRw.cells (h : IsRw w p B wd sz last v L) : w.cell? ⟨p, 0, none⟩ = some (.int .i64 wd) ∧ w.cell? ⟨p, 1, none⟩ = some (.int .i64 sz) ∧ w.cell? ⟨p, 2, none⟩ = some (.int .i64 last) ∧ w.cell? ⟨p, 3, none⟩ = some v ∧ w.frozen? ⟨p, 2, none⟩ = false ∧ w.frozen? ⟨p, 3, none⟩ = false := by
  have := h.blk
  exact ⟨by simp [World.cell?, this], by simp [World.cell?, this], by simp [World.cell?, this], by simp [World.cell?, this], by simp [World.frozen?, this], by simp [World.frozen?, this]⟩

set_option maxHeartbeats 400000 in
theorem rnew_any (wd sz q : Nat) (w : World) (hz : 0 < sz) (hs : sz ≤ 60) (hq : 0 < q) (hw : wd ≤ 1099511627776) (hd : wd = sz * q) :
    Calls Tryz.prog 47 #[.int .i64 wd, .int .i64 sz] w fun e w' => e = .returned (.tuple #[.pointer (some ⟨w.heap.size, 0, none⟩), .int .i64 0]) ∧ w.alloc (.cells #[.int .i64 wd, .int .i64 sz, .int .i64 0, .slice none 0 0] 138) = w' := by
  have h1 : 1 ≤ wd := by rw [hd]; exact Nat.mul_pos hz hq
  have h2 : (wd : Int) % (sz : Int) = 0 := by rw [hd]; simp
  have n1 : ((sz : Int) == 0) = false := by simp; omega
  clear hd
  go_enter Tryz.func47, Tryz.ntmps47
  go_wp2
  go_ret2
  exact ⟨rfl, rfl⟩

end Go.Proofs.YtbihelpnojjacaaGreat.RwD

/- Rows of one's own of any type: copied, and lengthened by one. -/
namespace Go.Proofs.YtbihelpnojjacaaGreat.RwR
set_option linter.unusedVariables false
open Go.ChangeShapes Go.WideShapes Go.ChangeAt Go.RowKit Base Wri
def app (ats : Array TypeId) (ty : TypeId) (args : Array Value) : Sem Value := Builtin.append_ ats ty args
theorem builtin_app {ats : Array TypeId} {ty : TypeId} {cs : Array Bool} {args : Array Value} : builtin .append ats ty cs args = (do pure (.value (← app ats ty args))) := rfl

/-- a row type: its element's row of the table -/
structure Ty (S T : TypeId) (size bytes : Nat) : Prop where
  und : Tryz.prog.underlying S = some (.slice T)
  inf : ∃ i z, Tryz.prog.info? T = some i ∧ i.zero = some z ∧ i.size = size ∧ i.bytes = bytes ∧ z.cells.size = size
  pos : 0 < size
  nilA : ∀ w, (app #[S, S] S #[.slice none 0 0, .slice none 0 0]).run Tryz.prog w = .ok (.slice none 0 0) w

variable {S T : TypeId} {size bytes : Nat}

theorem copy_gen (ty : Ty S T size bytes) (w : World) (B : Nat) (v : Value) (n : Nat) (xs : List Value) (hown : w.ownsRow B T size v n xs) (h1 : ∀ u ∈ xs, u.oneCell' = true) (hn : n = 0 → v = .slice none 0 0) (hl : n ≤ maxLen) (hb : n * bytes ≤ 140737488355328) :
    ∃ v2 w2, (app #[S, S] S #[.slice none 0 0, v]).run Tryz.prog w = .ok v2 w2 ∧ w2.ownsRow w.heap.size T size v2 n xs ∧ Below w.heap.size w w2 ∧ (n = 0 → v2 = .slice none 0 0) := by
  by_cases h0 : n = 0
  · rw [hn h0]
    subst h0
    refine ⟨_, _, ty.nilA w, ⟨?_, .inl ⟨rfl, rfl⟩⟩, Below.refl _ _, fun _ => rfl⟩
    have := hown.1
    exact this
  · rcases hown.2 with ⟨rfl, hz⟩ | ⟨g, c, cur, rfl, hg, hh, hc1, hc2, hc3, hcur⟩
    · omega
    · obtain ⟨i, z, hi, hz, hs, hby, hzs⟩ := ty.inf
      have hll := hown.1
      obtain ⟨v6, w6, hrun, hown6, hgr, hnil, hat⟩ := run_append_own_at (P := Tryz.prog) w w.heap.size S S T i z size bytes ty.und hi hz hs hby hzs ty.pos (.slice none 0 0) 0 [] (World.ownsRow_nil _ _ _ _) ⟨g, 0, none⟩ n c xs hll
        (fun j u hj => by
          have hjl : j < n * size := by rw [← hll]; exact (List.getElem?_eq_some_iff.1 hj).1
          have e1 : (⟨g, 0, none⟩ : Addr).add j = ⟨g, j, none⟩ := by rw [Go.WideShapes.add_plain, Nat.zero_add]
          rw [e1]
          unfold World.cell?
          rw [hh]
          have : cur.toList.take (n * size) = xs := hcur
          rw [← this, List.getElem?_take] at hj
          rw [if_pos hjl] at hj
          simpa using hj) h1 (by omega) (by simpa using hb) (Nat.le_refl _)
      rw [Nat.zero_add, List.nil_append] at hown6
      exact ⟨v6, w6, hrun, hown6, (Below.refl _ _).grown hgr (Nat.le_refl _) (fun j e => by cases e), fun e => absurd e h0⟩

theorem push_gen (ty : Ty S T size bytes) (w : World) (B : Nat) (v : Value) (n : Nat) (xs ys : List Value) (hown : w.ownsRow B T size v n xs) (hy : ys.length = size) (h1 : ∀ u ∈ ys, u.oneCell' = true) (hl : n + 1 ≤ maxLen) (hb : (n + 1) * bytes ≤ 140737488355328) (hB : B ≤ w.heap.size) :
    ∃ v2 w2, (app #[S, S] S #[v, .slice (some ⟨w.heap.size, 0, none⟩) 1 1]).run Tryz.prog (w.alloc (.cells ys.toArray T)) = .ok v2 w2 ∧ w2.ownsRow B T size v2 (n + 1) (xs ++ ys) ∧ Wr (fun k => v.ownBlock = some k) w w2 ∧ (v2.ownBlock = v.ownBlock ∨ ∃ g, v2.ownBlock = some g ∧ w.heap.size ≤ g) ∧ v2.ownBlock ≠ none := by
  obtain ⟨i, z, hi, hz, hs, hby, hzs⟩ := ty.inf
  have hown0 : (w.alloc (.cells ys.toArray T)).ownsRow B T size v n xs := World.ownsRow.alloc hown _
  obtain ⟨v6, w6, hrun, hown6, hgr, hnil, hat⟩ := run_append_own_at (P := Tryz.prog) (w.alloc (.cells ys.toArray T)) B S S T i z size bytes ty.und hi hz hs hby hzs ty.pos v n xs hown0 ⟨w.heap.size, 0, none⟩ 1 1 ys (by omega)
    (fun j u hj => by
      have e1 : (⟨w.heap.size, 0, none⟩ : Addr).add j = ⟨w.heap.size, j, none⟩ := by rw [Go.WideShapes.add_plain, Nat.zero_add]
      rw [e1]
      unfold World.cell?
      rw [heap_alloc_new]
      simpa using hj) h1 hl hb (by simp; omega)
  refine ⟨v6, w6, hrun, hown6, ?_, ?_, ?_⟩
  · refine (Wr.ofBelow ((Below.refl w.heap.size w).alloc (Nat.le_refl _) (.cells ys.toArray T))).trans (Wr.ofGrown hgr (fun k e => e))
  · rcases hat with e | e
    · exact .inl e
    · exact .inr ⟨_, e, by simp⟩
  · intro e
    rcases hown6.2 with ⟨_, hz⟩ | ⟨g, c, cur, rfl, _⟩
    · omega
    · cases e

theorem owns_base {w : World} {B B' n size : Nat} {e : TypeId} {v : Value} {xs : List Value} (h : w.ownsRow B e size v n xs) (hb : B' ≤ B) : w.ownsRow B' e size v n xs := by
  refine ⟨h.1, ?_⟩
  rcases h.2 with h2 | ⟨g, c, cur, h3, h4, h5⟩
  · exact .inl h2
  · exact .inr ⟨g, c, cur, h3, Nat.le_trans hb h4, h5⟩
/-- a row's cells -/
theorem own_cells {w : World} {B n : Nat} {v : Value} {xs : List Value} (h : w.ownsRow B T size v n xs) (hn : 0 < n) :
    ∃ g c, v = .slice (some ⟨g, 0, none⟩) n c ∧ B ≤ g ∧ g < w.heap.size ∧ n ≤ c ∧ (∀ o, w.frozen? ⟨g, o, none⟩ = false) ∧ ∀ i u, xs[i]? = some u → w.cell? ⟨g, i, none⟩ = some u := by
  have hlt := h.lt
  obtain ⟨hl, h2⟩ := h
  rcases h2 with ⟨_, h0⟩ | ⟨g, cap, cur, rfl, hg, hh, hc1, hc2, hc3, hcur⟩
  · omega
  · refine ⟨g, cap, rfl, hg, (hlt g rfl).2, by assumption, fun o => by simp [World.frozen?, hh], fun i u hu => ?_⟩
    have hi : i < n * size := by rw [← hl]; exact (List.getElem?_eq_some_iff.1 hu).1
    have : cur.toList.take (n * size) = xs := hcur
    rw [← this, List.getElem?_take, if_pos hi] at hu
    unfold World.cell?
    rw [hh]
    simpa using hu
theorem own_set {w : World} {B n g : Nat} {v : Value} {xs : List Value} (h : w.ownsRow B T size v n xs) (hg : v.ownBlock = some g) (i : Nat) (u : Value) :
    (w.setCell ⟨g, i, none⟩ u).ownsRow B T size v n (xs.set i u) := by
  obtain ⟨hl, h2⟩ := h
  rcases h2 with ⟨rfl, h0⟩ | ⟨g', cap, cur, rfl, hg', hh, hc1, hc2, hc3, hcur⟩
  · cases hg
  · have e : g' = g := Option.some.inj hg
    subst e
    refine ⟨by rw [List.length_set]; exact hl, .inr ⟨g', cap, cur.setIfInBounds i u, rfl, hg', heap_setCell_same _ _ _ _ _ _ hh, hc1, hc2, by simpa using hc3, ?_⟩⟩
    have : cur.toList.take (n * size) = xs := hcur
    show (cur.setIfInBounds i u).toList.take (n * size) = _
    rw [← this]
    simp [List.take_set]

end Go.Proofs.YtbihelpnojjacaaGreat.RwR

/- The document's window: Add. -/
namespace Go.Proofs.YtbihelpnojjacaaGreat.RwE
set_option linter.unusedVariables false
set_option linter.unusedSimpArgs false
open Go.ChangeShapes Go.WideShapes Go.ChangeAt Go.RowKit Base Wri WinM WinA WinB WinC WinD WinE RwA RwB RwC RwD RwR
attribute [local go_sem ↓ high] RwR.builtin_app
theorem infoRb : (Tryz.prog.info? 167).map (fun i => (i.zero, i.size, i.bytes)) = some (some (.agg #[.int .i64 0, .int .i64 0, .int .i64 0, .int .i64 0, .int .i64 0, .int .i64 0, .int .i64 0]), 7, 56) := by kernel_rfl
theorem tyB : Ty 136 167 7 56 := by
  obtain ⟨i0, hi, hz0, hz1, hz2⟩ := info_parts infoRb
  exact ⟨Tryz.underlying136, ⟨i0, _, hi, hz0, hz1, hz2, rfl⟩, by decide, fun w => by kernel_rfl⟩
/-- counts noted in the bucket that begins at b -/
def noteR (b : Int) (c : Cnt) (L : List Bkt) : List Bkt :=
  match L.getLast? with
  | some x => if x.at_ = b then L.dropLast ++ [⟨b, joinM x.c c⟩] else L ++ [⟨b, c⟩]
  | none => [⟨b, c⟩]

theorem cB_put (L0 : List Bkt) (n : Nat) (x0 x1 x2 x3 x4 x5 x6 y1 y2 y3 y4 y5 y6 : Int) (hn : L0.length = n) :
    (((((((cB (L0 ++ [⟨x0, ⟨x1, x2, x3, x4, x5, x6⟩⟩])).set (n * 7 + 1) (.int .i64 y1)).set (n * 7 + 1 + 1) (.int .i64 y2)).set (n * 7 + 1 + 2) (.int .i64 y3)).set (n * 7 + 1 + 3) (.int .i64 y4)).set (n * 7 + 1 + 4) (.int .i64 y5)).set (n * 7 + 1 + 5) (.int .i64 y6)) = cB (L0 ++ [⟨x0, ⟨y1, y2, y3, y4, y5, y6⟩⟩]) := by
  have hl : (cB L0).length = n * 7 := by rw [cB_len, hn]
  rw [cB_app, cB_app]
  have e1 : ∀ j, n * 7 + 1 + j - n * 7 = 1 + j := fun j => by omega
  have e2 : n * 7 + 1 - n * 7 = 1 := by omega
  rw [List.set_append_right _ _ (by rw [hl]; omega), List.set_append_right _ _ (by rw [hl]; omega), List.set_append_right _ _ (by rw [hl]; omega), List.set_append_right _ _ (by rw [hl]; omega), List.set_append_right _ _ (by rw [hl]; omega), List.set_append_right _ _ (by rw [hl]; omega), hl, e1, e1, e1, e1, e1, e2]
  rfl
theorem row_put {w9 : World} {B n g k : Nat} {L0 : List Bkt} {x0 x1 x2 x3 x4 x5 x6 : Int} (y1 y2 y3 y4 y5 y6 : Int) (hn : L0.length = n) (h : w9.ownsRow B 167 7 (.slice (some ⟨g, 0, none⟩) (n + 1) k) (n + 1) (cB (L0 ++ [⟨x0, ⟨x1, x2, x3, x4, x5, x6⟩⟩]))) :
    ((((((w9.setCell ⟨g, n * 7 + 1, none⟩ (.int .i64 y1)).setCell ⟨g, n * 7 + 1 + 1, none⟩ (.int .i64 y2)).setCell ⟨g, n * 7 + 1 + 2, none⟩ (.int .i64 y3)).setCell ⟨g, n * 7 + 1 + 3, none⟩ (.int .i64 y4)).setCell ⟨g, n * 7 + 1 + 4, none⟩ (.int .i64 y5)).setCell ⟨g, n * 7 + 1 + 5, none⟩ (.int .i64 y6)).ownsRow B 167 7 (.slice (some ⟨g, 0, none⟩) (n + 1) k) (n + 1) (cB (L0 ++ [⟨x0, ⟨y1, y2, y3, y4, y5, y6⟩⟩])) := by
  rw [← cB_put L0 n x0 x1 x2 x3 x4 x5 x6 y1 y2 y3 y4 y5 y6 hn]
  exact own_set (g := g) (own_set (g := g) (own_set (g := g) (own_set (g := g) (own_set (g := g) (own_set (g := g) h rfl (n * 7 + 1) (.int .i64 y1)) rfl (n * 7 + 1 + 1) (.int .i64 y2)) rfl (n * 7 + 1 + 2) (.int .i64 y3)) rfl (n * 7 + 1 + 3) (.int .i64 y4)) rfl (n * 7 + 1 + 4) (.int .i64 y5)) rfl (n * 7 + 1 + 5) (.int .i64 y6)
theorem _root_.Go.Proofs.YtbihelpnojjacaaGreat.Wri.Wr.set_to {R : Nat → Prop} {w w' : World} (h : Wr R w w') (a : Addr) (v : Value) (ha : R a.block) : Wr R w (w'.setCell a v) := h.trans (Wr.set a v ha)
theorem row_wr {w9 : World} {n g : Nat} (y1 y2 y3 y4 y5 y6 : Int) : Wr (fun k => k = g) w9 ((((((w9.setCell ⟨g, n * 7 + 1, none⟩ (.int .i64 y1)).setCell ⟨g, n * 7 + 1 + 1, none⟩ (.int .i64 y2)).setCell ⟨g, n * 7 + 1 + 2, none⟩ (.int .i64 y3)).setCell ⟨g, n * 7 + 1 + 3, none⟩ (.int .i64 y4)).setCell ⟨g, n * 7 + 1 + 4, none⟩ (.int .i64 y5)).setCell ⟨g, n * 7 + 1 + 5, none⟩ (.int .i64 y6)) :=
  ((((((Wr.refl (fun k => k = g) w9).set_to ⟨g, n * 7 + 1, none⟩ (.int .i64 y1) rfl).set_to ⟨g, n * 7 + 1 + 1, none⟩ (.int .i64 y2) rfl).set_to ⟨g, n * 7 + 1 + 2, none⟩ (.int .i64 y3) rfl).set_to ⟨g, n * 7 + 1 + 3, none⟩ (.int .i64 y4) rfl).set_to ⟨g, n * 7 + 1 + 4, none⟩ (.int .i64 y5) rfl).set_to ⟨g, n * 7 + 1 + 5, none⟩ (.int .i64 y6) rfl

theorem fin {w w' : World} {p wd sz t : Nat} {v v' : Value} {L : List Bkt} (hb : w'.heap[p]? = some (.cells #[.int .i64 wd, .int .i64 sz, .int .i64 t, v] 138)) (ho : w'.ownsRow w.heap.size 167 7 v' L.length (cB L)) (hp : p < w.heap.size) (hw : Wr (fun k => k = p) w w') (hL : L ≠ []) :
    IsRw (w'.setCell ⟨p, 3, none⟩ v') p w.heap.size wd sz t v' L ∧ Wr (fun k => k = p) w (w'.setCell ⟨p, 3, none⟩ v') := by
  have hne : ∀ g, v'.ownBlock = some g → g ≠ p := fun g e => by have := (ho.lt g e).1; omega
  exact ⟨⟨heap_setCell_same _ _ _ _ _ _ hb, owns_keep ho (fun g e => heap_setCell_other _ _ _ _ (hne g e)), hne, fun e => absurd e hL⟩, hw.trans (Wr.set _ _ rfl)⟩
set_option maxRecDepth 20000 in
set_option maxHeartbeats 4000000 in
theorem add_any (p wd sz q last t g cap : Nat) (c1 c2 c3 c4 c5 c6 : Int) (v : Value) (B : Nat) (L : List Bkt) (w : World) (h : IsRw w p B wd sz last v L) (hl : L.length ≤ 1000000) (hfin : ∀ x ∈ L, x.c.Fine) (hc : (Cnt.mk c1 c2 c3 c4 c5 c6).Right) (hg : g < w.heap.size) (hgp : g ≠ p) (H : Hid (At6 w g 0 ⟨c1, c2, c3, c4, c5, c6⟩))
    (hz : 0 < sz) (hq : wd / sz = q) (hq0 : 0 < q) (hz2 : wd ≤ 1099511627776) (h1 : last ≤ t) (h2 : t ≤ 1152921504606846976) :
    Calls Tryz.prog 48 #[.pointer (some ⟨p, 0, none⟩), .int .i64 t, .slice (some ⟨g, 0, none⟩) 1 cap] w fun e w' => e = .returned (.int .i64 0) ∧ ∃ v', IsRw w' p w.heap.size wd sz t v' (noteR (begN q t : Nat) ⟨c1, c2, c3, c4, c5, c6⟩ L) ∧ Wr (fun k => k = p) w w' := by
  have hrm : refM last t = 0 := by unfold refM; rw [if_neg (by omega), if_neg (by omega)]
  have HLk := hid (rlook_any p last t w h.cells.2.2.1)
  rw [hrm] at HLk
  have HRt := hid (right_yes c1 c2 c3 c4 c5 c6 hc)
  have HJ := hid (fun w' (hb : Wr (fun k => k = p) w w') => join_one c1 c2 c3 c4 c5 c6 g 0 cap w' hc (Nat.lt_of_lt_of_le hg hb.size) (hid (by
    obtain ⟨k1, k2, k3, k4, k5, k6⟩ := H.out
    have e := hb.block g hg hgp
    exact ⟨(World.cell?_of_block (a := ⟨g, 0, none⟩) e).trans k1, (World.cell?_of_block (a := ⟨g, 0 + 1, none⟩) e).trans k2, (World.cell?_of_block (a := ⟨g, 0 + 2, none⟩) e).trans k3, (World.cell?_of_block (a := ⟨g, 0 + 3, none⟩) e).trans k4, (World.cell?_of_block (a := ⟨g, 0 + 4, none⟩) e).trans k5, (World.cell?_of_block (a := ⟨g, 0 + 5, none⟩) e).trans k6⟩)))
  have HB := hid (fun (w' : World) hw' hs' => rbegin_any p wd sz q t w' hw' hs' hz hq hq0 hz2 h2)
  obtain ⟨p0, p1, p2, p3, f2, f3⟩ := h.cells
  have hpl := h.lt
  obtain ⟨k1, k2, k3, k4, k5, k6⟩ := H.out
  have HH := hid h
  dsimp only at k1 k2 k3 k4 k5 k6
  simp only [Nat.zero_add] at k1 k2 k3 k4 k5 k6
  clear hrm hq hq0 hz2 h
  go_enter Tryz.func48, Tryz.ntmps48
  go_wp2_with fail
  refine (HLk.out).mono ?_
  rintro e w1 ⟨rfl, rfl⟩
  clear HLk
  go_wp2_with fail
  go_loopw [8] (fun i wr => Below w.heap.size w wr ∧ ((i = .int .i64 0 ∧ wr = w) ∨ i = .int .i64 1)) (fun i _ => 1 - (intOf i).toNat)
  case atStart => exact ⟨Below.refl _ _, .inl ⟨rfl, rfl⟩⟩
  case round =>
    obtain ⟨hbel, hcase⟩ := hrel
    rcases hcase with ⟨rfl, rfl⟩ | rfl
    · go_wp2_with fail
      refine (HRt.out _).mono ?_
      rintro e w5 ⟨rfl, hb5⟩
      clear HRt
      go_wp2_with fail
      go_roundw
      case rel => exact ⟨hb5, .inr rfl⟩
      case measure => simp [intOf]
    · clear HRt
      replace p0 := (hbel.cell (p := ⟨p, 0, none⟩) hpl).trans p0
      replace p1 := (hbel.cell (p := ⟨p, 1, none⟩) hpl).trans p1
      replace p2 := (hbel.cell (p := ⟨p, 2, none⟩) hpl).trans p2
      replace p3 := (hbel.cell (p := ⟨p, 3, none⟩) hpl).trans p3
      have hpb := hbel.block p hpl
      replace f2 := (World.frozen?_of_block (a := ⟨p, 2, none⟩) hpb).trans f2
      replace f3 := (World.frozen?_of_block (a := ⟨p, 3, none⟩) hpb).trans f3
      clear k1 k2 k3 k4 k5 k6
      have hw1 : Wr (fun k => k = p) w (wr.setCell ⟨p, 2, none⟩ (.int .i64 t)) := (Wr.ofBelow hbel).trans (Wr.set _ _ rfl)
      have hbk1 : (wr.setCell ⟨p, 2, none⟩ (.int .i64 t)).heap[p]? = some (.cells #[.int .i64 wd, .int .i64 sz, .int .i64 t, v] 138) := heap_setCell_same _ _ _ _ _ _ (hpb.trans HH.out.blk)
      have hs1 : (wr.setCell ⟨p, 2, none⟩ (.int .i64 t)).heap.size = wr.heap.size := by simp
      obtain ⟨W1, hW1⟩ : ∃ W1, wr.setCell ⟨p, 2, none⟩ (.int .i64 t) = W1 := ⟨_, rfl⟩
      rw [hW1] at hw1 hbk1 hs1
      have hsz := hbel.size
      go_upto_region 10 with fail
      clear hW1
      clear p0 p1 p2 p3 f2 f3 hpb
      go_wp2_with fail
      refine (HJ.out W1 hw1).mono ?_
      rintro e w6 ⟨rfl, hb6⟩
      clear HJ
      have hbk6 := (hb6.block p (by omega)).trans hbk1
      have hs6 := hb6.size
      have hw6 : Wr (fun k => k = p) w w6 := hw1.trans (Wr.ofBelow hb6)
      go_upto_region 11 with fail
      obtain ⟨W2, hW2⟩ : ∃ W2, w6.alloc (.cells #[.int .i64 c1, .int .i64 c2, .int .i64 c3, .int .i64 c4, .int .i64 c5, .int .i64 c6] 98) = W2 := ⟨_, rfl⟩
      have hb2 : Below w6.heap.size w6 W2 := by rw [← hW2]; exact (Below.refl _ _).alloc (Nat.le_refl _) _
      have hc2 : W2.heap[w6.heap.size]? = some (.cells #[.int .i64 c1, .int .i64 c2, .int .i64 c3, .int .i64 c4, .int .i64 c5, .int .i64 c6] 98) := by rw [← hW2]; exact heap_alloc_new _ _
      have hs2 := hb2.size
      have hsW2 : w6.heap.size < W2.heap.size := by rw [← hW2]; simp
      rw [hW2]
      clear hW2
      have hbk2 := (hb2.block p (by omega)).trans hbk6
      have hw2 : Wr (fun k => k = p) w W2 := hw6.trans (Wr.ofBelow hb2)
      go_wp2_with fail
      refine (HB.out W2 (by simp [World.cell?, hbk2]) (by simp [World.cell?, hbk2])).mono ?_
      rintro e w7 ⟨rfl, m7, hm7⟩
      clear HB
      have hh7 : w7.heap = W2.heap := by rw [← hm7]; rfl
      have hw7 : Wr (fun k => k = p) w w7 := hw2.trans (Wr.ofBelow (by rw [← hm7]; exact below_drewN (Below.refl _ _) m7))
      rw [← hh7] at hbk2 hsW2
      have hc7 := hc2
      rw [← hh7] at hc7
      have HO := hid (owns_wr HH.out.row hw7 (fun g e => HH.out.off g e))
      obtain ⟨v2, w8, hrun, hown8, hb8, hnil8⟩ := copy_gen tyB w7 B v _ _ HO.out (cB_one _) (fun e => HH.out.nil (List.length_eq_zero_iff.1 e)) (by unfold maxLen; omega) (by omega)
      clear hm7 hh7 hb2 hw2 hs2 hc2
      have hc8 := (hb8.block w6.heap.size hsW2).trans hc7
      have hbk8 := (hb8.block p (by omega)).trans hbk2
      have hw8 : Wr (fun k => k = p) w w8 := hw7.trans (Wr.ofBelow hb8)
      have q1 : w8.cell? ⟨w6.heap.size, 0, none⟩ = some (.int .i64 c1) := by simp [World.cell?, hc8]
      have q2 : w8.cell? ⟨w6.heap.size, 1, none⟩ = some (.int .i64 c2) := by simp [World.cell?, hc8]
      have q3 : w8.cell? ⟨w6.heap.size, 2, none⟩ = some (.int .i64 c3) := by simp [World.cell?, hc8]
      have q4 : w8.cell? ⟨w6.heap.size, 3, none⟩ = some (.int .i64 c4) := by simp [World.cell?, hc8]
      have q5 : w8.cell? ⟨w6.heap.size, 4, none⟩ = some (.int .i64 c5) := by simp [World.cell?, hc8]
      have q6 : w8.cell? ⟨w6.heap.size, 5, none⟩ = some (.int .i64 c6) := by simp [World.cell?, hc8]
      have z3 : w7.cell? ⟨p, 3, none⟩ = some v := by simp [World.cell?, hbk2]
      have z0 : w.heap.size ≤ w7.heap.size := hw7.size
      have z8 : w7.heap.size ≤ w8.heap.size := hb8.size
      have HC := hid hc
      clear hc hc7 hc8 hbk2 HO hbk6 hbk1
      rcases List.eq_nil_or_concat L with rfl | ⟨L0, x, rfl⟩
      · obtain rfl := hnil8 rfl
        obtain ⟨v9, w9, hrun9, hown9, hwr9, hat9, hne9⟩ := push_gen tyB w8 w.heap.size (.slice none 0 0) 0 [] (cB [⟨(begN q t : Nat), ⟨c1, c2, c3, c4, c5, c6⟩⟩]) (World.ownsRow_nil _ _ _ _) rfl (cB_one _) (by decide) (by decide) (by omega)
        have hp8 : p < w8.heap.size := by omega
        have hbk9 := (hwr9.block p hp8 (fun e => by cases e)).trans hbk8
        have hw9 : Wr (fun k => k = p) w w9 := hw8.trans (hwr9.mono (fun k e => by cases e))
        obtain ⟨va, vc, rfl⟩ := owns_shape hown9
        have x3 : w9.cell? ⟨p, 3, none⟩ = some v := by simp [World.cell?, hbk9]
        have xf : w9.frozen? ⟨p, 3, none⟩ = false := by simp [World.frozen?, hbk9]
        have HF := hid (fin (L := [⟨(begN q t : Nat), ⟨c1, c2, c3, c4, c5, c6⟩⟩]) hbk9 (by simpa using hown9) hpl hw9 (by simp))
        have hrun9 : (app #[136, 136] 136 #[.slice none 0 0, .slice (some ⟨w8.heap.size, 0, none⟩) 1 1]).run Tryz.prog (w8.alloc (.cells #[.int .i64 (begN q t : Nat), .int .i64 c1, .int .i64 c2, .int .i64 c3, .int .i64 c4, .int .i64 c5, .int .i64 c6] 167)) = .ok (.slice va (0 + 1) vc) w9 := hrun9
        clear hown9 hwr9 hat9 hne9 hbk9 hw9 hown8 hbk8 hb8 hnil8
        go_wp2_with fail
        go_ret
        exact ⟨rfl, _, HF.out⟩
      · rw [List.concat_eq_append] at *
        obtain ⟨n, hn⟩ : ∃ n, L0.length = n := ⟨_, rfl⟩
        have hLn : (L0 ++ [x]).length = n + 1 := by simp [hn]
        rw [hLn] at hown8
        obtain ⟨g8, k8, rfl, hg8, hgl8, hk8, hfz8, hcl8⟩ := own_cells hown8 (Nat.succ_pos n)
        have hx0 : w8.cell? ⟨g8, n * 7, none⟩ = some (.int .i64 x.at_) := hcl8 (n * 7 + 0) _ (cB_at (L0 ++ [x]) n x (by rw [List.getElem?_append_right (by omega)]; simp [hn]) 0 (by omega))
        have hn9 : n ≤ 1000000 := by rw [hLn] at hl; omega
        have hp8 : p < w8.heap.size := by omega
        by_cases hxb : x.at_ = (begN q t : Nat)
        · obtain ⟨x0, x1, x2, x3, x4, x5, x6⟩ := x
          dsimp only at hxb
          subst hxb
          obtain ⟨⟨y1, y2, y3, y4, y5, y6⟩, hy⟩ : ∃ y, joinM ⟨x1, x2, x3, x4, x5, x6⟩ ⟨c1, c2, c3, c4, c5, c6⟩ = y := ⟨_, rfl⟩
          have HT := hid (fun w => two_any ⟨x1, x2, x3, x4, x5, x6⟩ ⟨c1, c2, c3, c4, c5, c6⟩ (hfin _ (List.mem_append_right _ (List.mem_singleton.2 rfl))) HC.out.1 w)
          rw [hy] at HT
          unfold cv at HT
          dsimp only at HT
          have a1 : w8.cell? ⟨g8, n * 7 + 1, none⟩ = some (.int .i64 x1) := hcl8 (n * 7 + 1) _ (cB_at (L0 ++ [⟨(begN q t : Nat), ⟨x1, x2, x3, x4, x5, x6⟩⟩]) n _ (by rw [List.getElem?_append_right (by omega)]; simp [hn]; rfl) 1 (by omega))
          have a2 : w8.cell? ⟨g8, n * 7 + 2, none⟩ = some (.int .i64 x2) := hcl8 (n * 7 + 2) _ (cB_at (L0 ++ [⟨(begN q t : Nat), ⟨x1, x2, x3, x4, x5, x6⟩⟩]) n _ (by rw [List.getElem?_append_right (by omega)]; simp [hn]; rfl) 2 (by omega))
          have a3 : w8.cell? ⟨g8, n * 7 + 3, none⟩ = some (.int .i64 x3) := hcl8 (n * 7 + 3) _ (cB_at (L0 ++ [⟨(begN q t : Nat), ⟨x1, x2, x3, x4, x5, x6⟩⟩]) n _ (by rw [List.getElem?_append_right (by omega)]; simp [hn]; rfl) 3 (by omega))
          have a4 : w8.cell? ⟨g8, n * 7 + 4, none⟩ = some (.int .i64 x4) := hcl8 (n * 7 + 4) _ (cB_at (L0 ++ [⟨(begN q t : Nat), ⟨x1, x2, x3, x4, x5, x6⟩⟩]) n _ (by rw [List.getElem?_append_right (by omega)]; simp [hn]; rfl) 4 (by omega))
          have a5 : w8.cell? ⟨g8, n * 7 + 5, none⟩ = some (.int .i64 x5) := hcl8 (n * 7 + 5) _ (cB_at (L0 ++ [⟨(begN q t : Nat), ⟨x1, x2, x3, x4, x5, x6⟩⟩]) n _ (by rw [List.getElem?_append_right (by omega)]; simp [hn]; rfl) 5 (by omega))
          have a6 : w8.cell? ⟨g8, n * 7 + 6, none⟩ = some (.int .i64 x6) := hcl8 (n * 7 + 6) _ (cB_at (L0 ++ [⟨(begN q t : Nat), ⟨x1, x2, x3, x4, x5, x6⟩⟩]) n _ (by rw [List.getElem?_append_right (by omega)]; simp [hn]; rfl) 6 (by omega))
          have f1 : w8.frozen? ⟨g8, n * 7 + 1, none⟩ = false := hfz8 _
          have f2 : w8.frozen? ⟨g8, n * 7 + 2, none⟩ = false := hfz8 _
          have f3 : w8.frozen? ⟨g8, n * 7 + 3, none⟩ = false := hfz8 _
          have f4 : w8.frozen? ⟨g8, n * 7 + 4, none⟩ = false := hfz8 _
          have f5 : w8.frozen? ⟨g8, n * 7 + 5, none⟩ = false := hfz8 _
          have f6 : w8.frozen? ⟨g8, n * 7 + 6, none⟩ = false := hfz8 _
          have x3' : w8.cell? ⟨p, 3, none⟩ = some v := by simp [World.cell?, hbk8]
          have HN := hid (show noteR ((begN q t : Nat) : Int) ⟨c1, c2, c3, c4, c5, c6⟩ (L0 ++ [⟨(begN q t : Nat), ⟨x1, x2, x3, x4, x5, x6⟩⟩]) = L0 ++ [⟨(begN q t : Nat), ⟨y1, y2, y3, y4, y5, y6⟩⟩] by
            unfold noteR
            rw [List.getLast?_append]
            simp [hy])
          have HO8 := hid hown8
          have HBK := hid (And.intro hbk8 hw8)
          have HLN := hid hn
          clear hown8 hcl8 hy hn hLn hl HH hb8 hnil8 hfin
          go_wp2_with fail
          have i1 : IntKind.i64.wrap (n : Int) = n := by rw [IntKind.wrap_i64]; omega
          have i2 : IntKind.i64.wrap ((n : Int) + 1 - 1) = n := by rw [IntKind.wrap_i64]; omega
          go_region_with (go_at_call 80; with_reducible refine (HT.out _).mono ?_; rintro e w9 ⟨rfl, hb⟩; have b0 : w9.cell? ⟨g8, n * 7 + 1, none⟩ = some (.int .i64 x1) := kc hb (by first | assumption | go_cell); have b1 : w9.cell? ⟨g8, n * 7 + 2, none⟩ = some (.int .i64 x2) := kc hb (by first | assumption | go_cell); have b2 : w9.cell? ⟨g8, n * 7 + 3, none⟩ = some (.int .i64 x3) := kc hb (by first | assumption | go_cell); have b3 : w9.cell? ⟨g8, n * 7 + 4, none⟩ = some (.int .i64 x4) := kc hb (by first | assumption | go_cell); have b4 : w9.cell? ⟨g8, n * 7 + 5, none⟩ = some (.int .i64 x5) := kc hb (by first | assumption | go_cell); have b5 : w9.cell? ⟨g8, n * 7 + 6, none⟩ = some (.int .i64 x6) := kc hb (by first | assumption | go_cell); have b6 : w9.frozen? ⟨g8, n * 7 + 1, none⟩ = false := kf hb (by first | (simp; omega) | (have := hb5.size; simp; omega)) (by first | assumption | go_cell); have b7 : w9.frozen? ⟨g8, n * 7 + 2, none⟩ = false := kf hb (by first | (simp; omega) | (have := hb5.size; simp; omega)) (by first | assumption | go_cell); have b8 : w9.frozen? ⟨g8, n * 7 + 3, none⟩ = false := kf hb (by first | (simp; omega) | (have := hb5.size; simp; omega)) (by first | assumption | go_cell); have b9 : w9.frozen? ⟨g8, n * 7 + 4, none⟩ = false := kf hb (by first | (simp; omega) | (have := hb5.size; simp; omega)) (by first | assumption | go_cell); have b10 : w9.frozen? ⟨g8, n * 7 + 5, none⟩ = false := kf hb (by first | (simp; omega) | (have := hb5.size; simp; omega)) (by first | assumption | go_cell); have b11 : w9.frozen? ⟨g8, n * 7 + 6, none⟩ = false := kf hb (by first | (simp; omega) | (have := hb5.size; simp; omega)) (by first | assumption | go_cell))
          all_goals (
            have HO9 := owns_keep HO8.out (fun g e => hb.block g (HO8.out.lt g e).2)
            have hr9 := row_put y1 y2 y3 y4 y5 y6 HLN.out HO9
            have hw9 := row_wr (w9 := w9) (n := n) (g := g8) y1 y2 y3 y4 y5 y6
            have hwb : Wr (fun k => k = p) w w9 := (HBK.out.2.trans (Wr.ofBelow ((Below.refl w8.heap.size w8).drew))).trans (Wr.ofBelow hb)
            have z9 : w8.heap.size ≤ w9.heap.size := hb.size
            generalize ((((((w9.setCell ⟨g8, n * 7 + 1, none⟩ (.int .i64 y1)).setCell ⟨g8, n * 7 + 1 + 1, none⟩ (.int .i64 y2)).setCell ⟨g8, n * 7 + 1 + 2, none⟩ (.int .i64 y3)).setCell ⟨g8, n * 7 + 1 + 3, none⟩ (.int .i64 y4)).setCell ⟨g8, n * 7 + 1 + 4, none⟩ (.int .i64 y5)).setCell ⟨g8, n * 7 + 1 + 5, none⟩ (.int .i64 y6)) = W10 at hr9 hw9 ⊢
            have hbk10 := (hw9.block p (by omega) (by omega)).trans ((hb.block p hp8).trans HBK.out.1)
            have hw10 : Wr (fun k => k = p) w W10 := hwb.on hw9 (fun k e => .inr (by omega))
            have x3 : W10.cell? ⟨p, 3, none⟩ = some v := by simp [World.cell?, hbk10]
            have xf : W10.frozen? ⟨p, 3, none⟩ = false := by simp [World.frozen?, hbk10]
            have HF := hid (fin (L := L0 ++ [⟨(begN q t : Nat), ⟨y1, y2, y3, y4, y5, y6⟩⟩]) hbk10 (by
              rw [List.length_append, HLN.out]
              exact owns_base hr9 z0) hpl hw10 (by simp))
            clear HO9 hr9 hw9 hwb hbk10 hw10 b0 b1 b2 b3 b4 b5 b6 b7 b8 b9 b10 b11 hb
            go_wp2_with fail
            go_ret
            exact ⟨rfl, _, by rw [List.concat_eq_append, HN.out]; exact HF.out⟩)
        · have hxb2 : (x.at_ == ((begN q t : Nat) : Int)) = false := by simpa using hxb
          obtain ⟨v9, w9, hrun9, hown9, hwr9, hat9, hne9⟩ := push_gen tyB w8 w7.heap.size _ (n + 1) _ (cB [⟨(begN q t : Nat), ⟨c1, c2, c3, c4, c5, c6⟩⟩]) hown8 rfl (cB_one _) (by unfold maxLen; omega) (by omega) (by omega)
          have hbk9 := (hwr9.block p hp8 (fun e => by have e2 : g8 = p := Option.some.inj e; omega)).trans hbk8
          have hw9 : Wr (fun k => k = p) w w9 := hw8.on hwr9 (fun k e => by have e2 : g8 = k := Option.some.inj e; exact .inr (by omega))
          obtain ⟨va, vc, rfl⟩ := owns_shape hown9
          have x3 : w9.cell? ⟨p, 3, none⟩ = some v := by simp [World.cell?, hbk9]
          have xf : w9.frozen? ⟨p, 3, none⟩ = false := by simp [World.frozen?, hbk9]
          have HF := hid (fin (L := (L0 ++ [x]) ++ [⟨(begN q t : Nat), ⟨c1, c2, c3, c4, c5, c6⟩⟩]) hbk9 (by
            rw [cB_app, List.length_append, hLn]
            exact owns_base hown9 z0) hpl hw9 (by simp))
          have hrun9 : (app #[136, 136] 136 #[.slice (some ⟨g8, 0, none⟩) (n + 1) k8, .slice (some ⟨w8.heap.size, 0, none⟩) 1 1]).run Tryz.prog (w8.alloc (.cells #[.int .i64 (begN q t : Nat), .int .i64 c1, .int .i64 c2, .int .i64 c3, .int .i64 c4, .int .i64 c5, .int .i64 c6] 167)) = .ok (.slice va (n + 1 + 1) vc) w9 := hrun9
          have HN := hid (show noteR ((begN q t : Nat) : Int) ⟨c1, c2, c3, c4, c5, c6⟩ (L0 ++ [x]) = (L0 ++ [x]) ++ [⟨(begN q t : Nat), ⟨c1, c2, c3, c4, c5, c6⟩⟩] by
            unfold noteR
            rw [List.getLast?_append]
            simp [hxb])
          clear hown9 hwr9 hat9 hne9 hbk9 hw9 hown8 hbk8 hb8 hnil8 hcl8 hxb hn hLn hl HH
          go_wp2_with fail
          go_ret
          exact ⟨rfl, _, by rw [List.concat_eq_append, HN.out]; exact HF.out⟩

end Go.Proofs.YtbihelpnojjacaaGreat.RwE

/- The document's window: Buckets. -/
namespace Go.Proofs.YtbihelpnojjacaaGreat.RwF
set_option linter.unusedVariables false
set_option linter.unusedSimpArgs false
open Go.ChangeShapes Go.WideShapes Go.ChangeAt Go.RowKit Base Wri WinM WinA WinB WinC WinD WinE RwA RwB RwC RwD RwR RwE
attribute [local go_sem ↓ high] RwR.builtin_app

def zeroC (c : Cnt) : Bool := (c.pass == 0) && ((c.block == 0) && ((c.done == 0) && ((c.errs == 0) && ((c.rt == 0) && (c.low == 0)))))
theorem zeroC_eq {c : Cnt} (h : zeroC c = true) : c = ⟨0, 0, 0, 0, 0, 0⟩ := by
  obtain ⟨c1, c2, c3, c4, c5, c6⟩ := c
  unfold zeroC at h
  simp at h
  obtain ⟨rfl, rfl, rfl, rfl, rfl, rfl⟩ := h
  rfl
set_option maxHeartbeats 2000000 in
theorem cneq (c1 c2 c3 c4 c5 c6 : Int) (w : World) : (binOp .neq 98 (.agg #[.int .i64 c1, .int .i64 c2, .int .i64 c3, .int .i64 c4, .int .i64 c5, .int .i64 c6]) (.agg #[.int .i64 0, .int .i64 0, .int .i64 0, .int .i64 0, .int .i64 0, .int .i64 0])).run Tryz.prog w = .ok (.bool (!(zeroC ⟨c1, c2, c3, c4, c5, c6⟩))) w := by
  rw [run_neq_struct]
  unfold zeroC
  dsimp only
  cases h1 : c1 == 0
  · simp [go_sem, h1]
  cases h2 : c2 == 0
  · simp [go_sem, h1, h2]
  cases h3 : c3 == 0
  · simp [go_sem, h1, h2, h3]
  cases h4 : c4 == 0
  · simp [go_sem, h1, h2, h3, h4]
  cases h5 : c5 == 0
  · simp [go_sem, h1, h2, h3, h4, h5]
  cases h6 : c6 == 0
  · simp [go_sem, h1, h2, h3, h4, h5, h6]
  · simp [go_sem, h1, h2, h3, h4, h5, h6]

/-- the buckets that a window tells of at a time -/
def tells (q wd t : Nat) (x : Bkt) : Bool := decide (((begN q t : Nat) : Int) - wd < x.at_) && !zeroC x.c

set_option maxRecDepth 20000 in
set_option maxHeartbeats 4000000 in
theorem buckets_any (p B wd sz q last t : Nat) (v : Value) (L : List Bkt) (w : World) (h : IsRw w p B wd sz last v L) (hl : L.length ≤ 1000000) (hz : 0 < sz) (hq : wd / sz = q) (hq0 : 0 < q) (hz2 : wd ≤ 1099511627776) (h1 : last ≤ t) (h2 : t ≤ 1152921504606846976) :
    Calls Tryz.prog 111 #[.pointer (some ⟨p, 0, none⟩), .int .i64 t] w fun e w' => ∃ v', e = .returned (.tuple #[v', .int .i64 0]) ∧ w'.ownsRow w.heap.size 167 7 v' (L.filter (tells q wd t)).length (cB (L.filter (tells q wd t))) ∧ Below w.heap.size w w' := by
  have hrm : refM last t = 0 := by unfold refM; rw [if_neg (by omega), if_neg (by omega)]
  have HLk := hid (rlook_any p last t w h.cells.2.2.1)
  rw [hrm] at HLk
  have HB := hid (fun (w' : World) hw' hs' => rbegin_any p wd sz q t w' hw' hs' hz hq hq0 hz2 h2)
  have hb0 : begN q t ≤ 1152921504606846976 := Nat.le_trans (begN_le q t) h2
  obtain ⟨p0, p1, p2, p3, f2, f3⟩ := h.cells
  have hpl := h.lt
  have HH := hid h
  obtain ⟨n, hn⟩ : ∃ n, L.length = n := ⟨_, rfl⟩
  have HN := hid hn
  obtain ⟨va, vc, rfl⟩ := owns_shape h.row
  rw [hn] at p3 hl
  clear hrm hq hq0 hn h
  go_enter Tryz.func111, Tryz.ntmps111
  go_wp2_with fail
  refine (HLk.out).mono ?_
  rintro e w1 ⟨rfl, rfl⟩
  clear HLk
  go_wp2_with fail
  go_loopw [7, 8] (fun x i wr => Below w.heap.size w wr ∧ ∃ k : Nat, k ≤ n ∧ i = .int .i64 k ∧ wr.ownsRow w.heap.size 167 7 x ((L.take k).filter (tells q wd t)).length (cB ((L.take k).filter (tells q wd t)))) (fun _ i _ => n - (intOf i).toNat)
  case atStart => exact ⟨Below.refl _ _, 0, Nat.zero_le _, rfl, ⟨rfl, .inl ⟨rfl, rfl⟩⟩⟩
  case round =>
    obtain ⟨hbel, k, hk, rfl, ho⟩ := hrel
    obtain ⟨a7, c7, rfl⟩ := owns_shape ho
    replace p0 := (hbel.cell (p := ⟨p, 0, none⟩) hpl).trans p0
    replace p1 := (hbel.cell (p := ⟨p, 1, none⟩) hpl).trans p1
    replace p3 := (hbel.cell (p := ⟨p, 3, none⟩) hpl).trans p3
    clear p2 f2 f3
    have HO := hid ho
    have HBel := hid hbel
    by_cases hlt : k < n
    · obtain ⟨x, hx⟩ : ∃ x, L[k]? = some x := ⟨L[k]'(by rw [HN.out]; exact hlt), List.getElem?_eq_getElem _⟩
      obtain ⟨g, cc, hv, hg, hgl, hnc, hfz, hcl⟩ := own_cells HH.out.row (by rw [HN.out]; omega)
      rw [HN.out] at hv
      injection hv with e1 e2 e3
      subst e1
      subst e3
      have hxc : ∀ j u, (bv x)[j]? = some u → wr.cell? ⟨g, k * 7 + j, none⟩ = some u := fun j u hu => by
        have h3 := hcl (k * 7 + j) u (by rw [cB_at L k x hx j (List.getElem?_eq_some_iff.1 hu).1]; exact hu)
        exact (hbel.cell (p := ⟨g, k * 7 + j, none⟩) hgl).trans h3
      have htk : L.take (k + 1) = L.take k ++ [x] := by rw [List.take_add_one, hx]; rfl
      have hfk : ((L.take (k + 1)).filter (tells q wd t)) = (L.take k).filter (tells q wd t) ++ (if tells q wd t x then [x] else []) := by
        rw [htk, List.filter_append]
        cases hh : tells q wd t x <;> simp [hh]
      have HF := hid hfk
      have HTl := hid (show tells q wd t x = (decide (((begN q t : Nat) : Int) - wd < x.at_) && !zeroC x.c) from rfl)
      obtain ⟨x0, x1, x2, x3, x4, x5, x6⟩ := x
      have a0 : wr.cell? ⟨g, k * 7, none⟩ = some (.int .i64 x0) := hxc 0 _ rfl
      have a1 : wr.cell? ⟨g, k * 7 + 1, none⟩ = some (.int .i64 x1) := hxc 1 _ rfl
      have a2 : wr.cell? ⟨g, k * 7 + 2, none⟩ = some (.int .i64 x2) := hxc 2 _ rfl
      have a3 : wr.cell? ⟨g, k * 7 + 3, none⟩ = some (.int .i64 x3) := hxc 3 _ rfl
      have a4 : wr.cell? ⟨g, k * 7 + 4, none⟩ = some (.int .i64 x4) := hxc 4 _ rfl
      have a5 : wr.cell? ⟨g, k * 7 + 5, none⟩ = some (.int .i64 x5) := hxc 5 _ rfl
      have a6 : wr.cell? ⟨g, k * 7 + 6, none⟩ = some (.int .i64 x6) := hxc 6 _ rfl
      have HC := hid (cneq x1 x2 x3 x4 x5 x6)
      have HI := hid (fun (m : Nat) => HB.out (wr.drewN m) p0 p1)
      dsimp only at HTl
      have hb1 : (0 : Int) ≤ ((begN q t : Nat) : Int) := by omega
      have hb2 : ((begN q t : Nat) : Int) ≤ 1152921504606846976 := by omega
      generalize ((begN q t : Nat) : Int) = b at *
      have hwr : IntKind.i64.wrap (b - (wd : Int)) = b - wd := by rw [IntKind.wrap_i64]; omega
      clear hxc hcl hx htk hfk ho hbel hfz hg hnc HB
      have hkk : (k : Int) < (n : Int) := by omega
      cases hA : decide (b - wd < x0) with
      | false =>
        rw [hA] at HTl
        go_wp2_with fail
        go_quiet (first | (go_at_call 79; exact Calls.quiet_of ((HI.out _).mono fun _ _ h => ⟨h.1, h.2.imp fun _ e => e.symm⟩)))
        go_wp2_with fail
        go_roundw
        case rel => exact ⟨(by repeat (first | (with_reducible exact Below.refl _ _) | (with_reducible refine Below.setCell ?_ (by first | (simp; done) | (simp; omega) | omega) _) | (with_reducible refine Below.alloc ?_ (by first | (simp; done) | (simp; omega) | omega) _) | (with_reducible refine Below.drew ?_) | (with_reducible refine below_drewN ?_ _) | (with_reducible exact HBel.out) | (with_reducible refine Below.trans ?_ (Below.mono HBel.out (by first | (simp; done) | (simp; omega) | omega))))), k + 1, by omega, by go_num, by rw [HF.out, HTl.out]; simp; exact HO.out⟩
        case measure => simp [intOf]; omega
      | true =>
        rw [hA] at HTl
        have hc := HC.out
        cases hB : zeroC ⟨x1, x2, x3, x4, x5, x6⟩ with
        | true =>
          rw [hB] at HTl hc
          go_wp2_with fail
          go_quiet (first | (go_at_call 79; exact Calls.quiet_of ((HI.out _).mono fun _ _ h => ⟨h.1, h.2.imp fun _ e => e.symm⟩)))
          go_wp2_with fail
          go_roundw
          case rel => exact ⟨(by repeat (first | (with_reducible exact Below.refl _ _) | (with_reducible refine Below.setCell ?_ (by first | (simp; done) | (simp; omega) | omega) _) | (with_reducible refine Below.alloc ?_ (by first | (simp; done) | (simp; omega) | omega) _) | (with_reducible refine Below.drew ?_) | (with_reducible refine below_drewN ?_ _) | (with_reducible exact HBel.out) | (with_reducible refine Below.trans ?_ (Below.mono HBel.out (by first | (simp; done) | (simp; omega) | omega))))), k + 1, by omega, by go_num, by rw [HF.out, HTl.out]; simp; exact HO.out⟩
          case measure => simp [intOf]; omega
        | false =>
          rw [hB] at HTl hc
          go_wp2_with fail
          go_quiet (first | (go_at_call 79; exact Calls.quiet_of ((HI.out _).mono fun _ _ h => ⟨h.1, h.2.imp fun _ e => e.symm⟩)))
          have hlk : ((L.take k).filter (tells q wd t)).length ≤ 1000000 := Nat.le_trans (List.length_filter_le _ _) (by rw [List.length_take]; omega)
          generalize hm : ((L.take k).filter (tells q wd t)).length = m at *
          have HM := hid hm
          have hsw := HBel.out.size
          obtain ⟨v9, w9, hrun9, hown9, hwr9, hat9, hne9⟩ := push_gen tyB (wr.drewN nq) w.heap.size (.slice a7 m c7) m _ (cB [⟨x0, ⟨x1, x2, x3, x4, x5, x6⟩⟩]) HO.out rfl (cB_one _) (by unfold maxLen; omega) (by omega) (by simp; omega)
          have hb9 : Below w.heap.size w w9 := (HBel.out.trans (below_drewN (Below.refl _ _) nq)).trans ⟨hwr9.os, hwr9.tape, hwr9.output, hwr9.size, fun j hj => hwr9.block j (Nat.lt_of_lt_of_le hj hsw) (fun e => by have := (HO.out.lt j e).1; omega)⟩
          obtain ⟨va9, vc9, rfl⟩ := owns_shape hown9
          have hrun9 : (app #[136, 136] 136 #[.slice a7 m c7, .slice (some ⟨wr.heap.size, 0, none⟩) 1 1]).run Tryz.prog ((wr.drewN nq).alloc (.cells #[.int .i64 x0, .int .i64 x1, .int .i64 x2, .int .i64 x3, .int .i64 x4, .int .i64 x5, .int .i64 x6] 167)) = .ok (.slice va9 (m + 1) vc9) w9 := hrun9
          have HR := hid (And.intro hown9 hb9)
          clear hown9 hwr9 hat9 hne9 hb9 hm
          go_wp2_with fail
          go_roundw
          case rel => exact ⟨HR.out.2, k + 1, by omega, by go_num, by rw [HF.out, HTl.out]; simp only [Bool.not_false, Bool.and_self, if_true, List.length_append, HM.out, cB_app]; exact HR.out.1⟩
          case measure => simp [intOf]; omega
    · obtain rfl : k = n := by omega
      go_wp2_with fail
      go_ret2
      exact ⟨_, rfl, by have h0 := HO.out; rw [← HN.out, List.take_length] at h0; rw [← HN.out, List.take_length]; exact h0, HBel.out⟩

end Go.Proofs.YtbihelpnojjacaaGreat.RwF

namespace Go.Proofs.YtbihelpnojjacaaGreat.RwG
set_option linter.unusedVariables false
set_option linter.unusedSimpArgs false
open Go.ChangeShapes Go.WideShapes Go.ChangeAt Go.RowKit Base Wri WinM WinA WinB WinC WinD WinE RwA RwB RwC RwD RwR RwE RwF

/-- counts of buckets together -/
def sumB (M : List Bkt) : Cnt := M.foldl (fun c x => joinM c x.c) ⟨0, 0, 0, 0, 0, 0⟩
theorem sumB_snoc (M : List Bkt) (x : Bkt) : sumB (M ++ [x]) = joinM (sumB M) x.c := by unfold sumB; simp
theorem fold_fine : ∀ (M : List Bkt) (c : Cnt), c.Fine → (∀ x ∈ M, x.c.Fine) → (M.foldl (fun c x => joinM c x.c) c).Fine
  | [], c, hc, _ => hc
  | x :: M, c, hc, h => fold_fine M _ (joinM_fine hc (h x (List.mem_cons_self ..))) fun y hy => h y (List.mem_cons_of_mem _ hy)
theorem sumB_fine (M : List Bkt) (h : ∀ x ∈ M, x.c.Fine) : (sumB M).Fine := fold_fine M _ WinH.zero_fine h
theorem six_of {a b c d e f a' b' c' d' e' f' : Int} : (Cnt.mk a b c d e f = ⟨a', b', c', d', e', f'⟩) ↔ (a = a' ∧ b = b' ∧ c = c' ∧ d = d' ∧ e = e' ∧ f = f') := by simp
theorem row_wr0 {w9 : World} {g : Nat} (r1 r2 r3 r4 r5 r6 : Int) : Wr (fun k => k = g) w9 ((((((w9.setCell ⟨g, 0, none⟩ (.int .i64 r1)).setCell ⟨g, 1, none⟩ (.int .i64 r2)).setCell ⟨g, 2, none⟩ (.int .i64 r3)).setCell ⟨g, 3, none⟩ (.int .i64 r4)).setCell ⟨g, 4, none⟩ (.int .i64 r5)).setCell ⟨g, 5, none⟩ (.int .i64 r6)) :=
  ((((((Wr.refl (fun k => k = g) w9).set_to ⟨g, 0, none⟩ (.int .i64 r1) rfl).set_to ⟨g, 1, none⟩ (.int .i64 r2) rfl).set_to ⟨g, 2, none⟩ (.int .i64 r3) rfl).set_to ⟨g, 3, none⟩ (.int .i64 r4) rfl).set_to ⟨g, 4, none⟩ (.int .i64 r5) rfl).set_to ⟨g, 5, none⟩ (.int .i64 r6) rfl

set_option maxRecDepth 20000 in
set_option maxHeartbeats 4000000 in
theorem sum_any (p B wd sz q last t : Nat) (v : Value) (L : List Bkt) (w : World) (h : IsRw w p B wd sz last v L) (hl : L.length ≤ 1000000) (hfin : ∀ x ∈ L, x.c.Fine) (hz : 0 < sz) (hq : wd / sz = q) (hq0 : 0 < q) (hz2 : wd ≤ 1099511627776) (h1 : last ≤ t) (h2 : t ≤ 1152921504606846976) :
    Calls Tryz.prog 74 #[.pointer (some ⟨p, 0, none⟩), .int .i64 t] w fun e w' => e = .returned (.tuple #[cv (sumB (L.filter (tells q wd t))), .int .i64 0]) ∧ Below w.heap.size w w' := by
  have hbk : ∀ k, (k = p ∨ v.ownBlock = some k) → k < w.heap.size := fun k e => e.elim (fun e => e ▸ h.lt) (fun e => (h.row.lt k e).2)
  have HB := hid (fun (w' : World) (hb : Below w.heap.size w w') => buckets_any p B wd sz q last t v L w' (h.keep fun k hk => hb.block k (hbk k hk)) hl hz hq hq0 hz2 h1 h2)
  obtain ⟨M, hM⟩ : ∃ M, L.filter (tells q wd t) = M := ⟨_, rfl⟩
  have hMf : ∀ x ∈ M, x.c.Fine := fun x hx => hfin x (by rw [← hM] at hx; exact (List.mem_filter.1 hx).1)
  have hMl : M.length ≤ 1000000 := by rw [← hM]; exact Nat.le_trans (List.length_filter_le _ _) hl
  rw [hM] at HB ⊢
  have HMf := hid hMf
  clear hM hbk h hl hfin hz hq hq0 hz2 h1 h2 hMf
  obtain ⟨m, hm⟩ : ∃ m, M.length = m := ⟨_, rfl⟩
  have HM := hid hm
  rw [hm] at HB hMl
  clear hm
  go_enter Tryz.func74, Tryz.ntmps74
  go_wp2_with fail
  refine (HB.out _ ((Below.refl _ _).alloc (Nat.le_refl _) _)).mono ?_
  rintro e w2 ⟨v', rfl, hown, hb2⟩
  clear HB
  obtain ⟨va, vc, rfl⟩ := owns_shape hown
  have hs2 := hb2.size
  simp only [World.size_alloc] at hs2 hown
  have hbw : Below w.heap.size w w2 := ((Below.refl w.heap.size w).alloc (Nat.le_refl _) (.cells #[.int .i64 0, .int .i64 0, .int .i64 0, .int .i64 0, .int .i64 0, .int .i64 0] 98)).trans (hb2.mono (by simp))
  have hz0 : w2.heap[w.heap.size]? = some (.cells #[.int .i64 0, .int .i64 0, .int .i64 0, .int .i64 0, .int .i64 0, .int .i64 0] 98) := (hb2.block _ (by simp)).trans (heap_alloc_new _ _)
  have HO := hid hown
  obtain ⟨G, hG⟩ : ∃ G, w2.heap.size = G := ⟨_, rfl⟩
  have hgG : ∀ g, (Value.slice va m vc).ownBlock = some g → w.heap.size < g ∧ g < G := fun g e => by have := hown.lt g e; omega
  have HgG := hid hgG
  have HZ0 := hid hz0
  have HBW := hid hbw
  clear hb2 hown hgG hz0 hbw
  go_wp2_with fail
  go_loopw [9] (fun i wr => ∃ (k : Nat) (c : Cnt), k ≤ m ∧ i = .int .i64 k ∧ c = sumB (M.take k) ∧ Below w.heap.size w wr ∧ G + 1 ≤ wr.heap.size ∧ At6 wr G 0 c ∧ Free6 wr G 0 ∧ At6 wr w.heap.size 0 ⟨0, 0, 0, 0, 0, 0⟩ ∧ Free6 wr w.heap.size 0 ∧ wr.ownsRow (w.heap.size + 1) 167 7 (.slice va m vc) m (cB M)) (fun i _ => m - (intOf i).toNat)
  case atStart =>
    subst hG
    have hbw := HBW.out
    have hz0 := HZ0.out
    have y0 : ∀ j u, (#[Value.int .i64 0, .int .i64 0, .int .i64 0, .int .i64 0, .int .i64 0, .int .i64 0] : Array Value)[j]? = some u → w2.cell? ⟨w.heap.size, j, none⟩ = some u := fun j u hu => by simp only [World.cell?, hz0]; exact hu
    have yf : ∀ j, w2.frozen? ⟨w.heap.size, j, none⟩ = false := fun j => by simp [World.frozen?, hz0]
    have hlt : w.heap.size < w2.heap.size := by omega
    have ya1 := y0 0 _ rfl
    have ya2 := y0 1 _ rfl
    have ya3 := y0 2 _ rfl
    have ya4 := y0 3 _ rfl
    have ya5 := y0 4 _ rfl
    have ya6 := y0 5 _ rfl
    have yf1 := yf 0
    have yf2 := yf 1
    have yf3 := yf 2
    have yf4 := yf 3
    have yf5 := yf 4
    have yf6 := yf 5
    exact ⟨0, ⟨0, 0, 0, 0, 0, 0⟩, Nat.zero_le _, rfl, rfl, (by repeat (first | (with_reducible exact Below.refl _ _) | (with_reducible refine Below.setCell ?_ (by first | (simp; done) | (simp; omega) | omega) _) | (with_reducible refine Below.alloc ?_ (by first | (simp; done) | (simp; omega) | omega) _) | (with_reducible refine Below.drew ?_) | (with_reducible refine below_drewN ?_ _) | (with_reducible exact hbw) | (with_reducible refine Below.trans ?_ (Below.mono hbw (by first | (simp; done) | (simp; omega) | omega))))), by simp, ⟨by go_cell, by go_cell, by go_cell, by go_cell, by go_cell, by go_cell⟩, ⟨by go_cell, by go_cell, by go_cell, by go_cell, by go_cell, by go_cell⟩, ⟨by go_cell, by go_cell, by go_cell, by go_cell, by go_cell, by go_cell⟩, ⟨by go_cell, by go_cell, by go_cell, by go_cell, by go_cell, by go_cell⟩, World.ownsRow.alloc HO.out _⟩
  case round =>
    obtain ⟨k, ⟨a1, a2, a3, a4, a5, a6⟩, hk, rfl, hac, hbel, hsz, hG6, hGf, hy6, hyf, ho⟩ := hrel
    obtain ⟨f1, f2, f3, f4, f5, f6⟩ := hGf
    obtain ⟨fy1, fy2, fy3, fy4, fy5, fy6⟩ := hyf
    obtain ⟨y1, y2, y3, y4, y5, y6⟩ := hy6
    obtain ⟨j1, j2, j3, j4, j5, j6⟩ := hG6
    dsimp only at y1 y2 y3 y4 y5 y6 j1 j2 j3 j4 j5 j6
    simp only [Nat.zero_add] at f1 f2 f3 f4 f5 f6 fy1 fy2 fy3 fy4 fy5 fy6 y1 y2 y3 y4 y5 y6 j1 j2 j3 j4 j5 j6
    have HBel := hid hbel
    have HOr := hid ho
    have hG0 : w.heap.size < G := by have := HBW.out.size; omega
    by_cases hlt : k < m
    · obtain ⟨x, hx⟩ : ∃ x, M[k]? = some x := ⟨M[k]'(by rw [HM.out]; exact hlt), List.getElem?_eq_getElem _⟩
      obtain ⟨g, cc, hv, hg, hgl, hnc, hfz, hcl⟩ := own_cells ho (by omega)
      injection hv with e1 e2 e3
      subst e1
      subst e3
      have hgG := HgG.out g rfl
      have hxc : ∀ j u, (bv x)[j]? = some u → wr.cell? ⟨g, k * 7 + j, none⟩ = some u := fun j u hu => hcl (k * 7 + j) u (by rw [cB_at M k x hx j (List.getElem?_eq_some_iff.1 hu).1]; exact hu)
      have hxf := HMf.out x (List.mem_of_getElem? hx)
      have htk : M.take (k + 1) = M.take k ++ [x] := by rw [List.take_add_one, hx]; rfl
      obtain ⟨x0, x1, x2, x3, x4, x5, x6⟩ := x
      have haf : (Cnt.mk a1 a2 a3 a4 a5 a6).Fine := by rw [hac]; exact sumB_fine _ fun y hy => HMf.out y (List.mem_of_mem_take hy)
      obtain ⟨⟨r1, r2, r3, r4, r5, r6⟩, hr⟩ : ∃ y, joinM ⟨a1, a2, a3, a4, a5, a6⟩ ⟨x1, x2, x3, x4, x5, x6⟩ = y := ⟨_, rfl⟩
      have hsum : (⟨r1, r2, r3, r4, r5, r6⟩ : Cnt) = sumB (M.take (k + 1)) := by rw [htk, sumB_snoc, ← hac, hr]
      have HSum := hid hsum
      have HT := hid (fun w => two_any ⟨a1, a2, a3, a4, a5, a6⟩ ⟨x1, x2, x3, x4, x5, x6⟩ haf hxf w)
      rw [hr] at HT
      unfold cv at HT
      dsimp only at HT
      have b1 : wr.cell? ⟨g, k * 7 + 1, none⟩ = some (.int .i64 x1) := hxc 1 _ rfl
      have b2 : wr.cell? ⟨g, k * 7 + 2, none⟩ = some (.int .i64 x2) := hxc 2 _ rfl
      have b3 : wr.cell? ⟨g, k * 7 + 3, none⟩ = some (.int .i64 x3) := hxc 3 _ rfl
      have b4 : wr.cell? ⟨g, k * 7 + 4, none⟩ = some (.int .i64 x4) := hxc 4 _ rfl
      have b5 : wr.cell? ⟨g, k * 7 + 5, none⟩ = some (.int .i64 x5) := hxc 5 _ rfl
      have b6 : wr.cell? ⟨g, k * 7 + 6, none⟩ = some (.int .i64 x6) := hxc 6 _ rfl
      clear hxc hxf hcl hx htk ho hbel hfz hg hnc hac haf hr hsum
      go_wp2_with fail
      go_region_with (go_at_call 80; with_reducible refine (HT.out _).mono ?_; rintro e w9 ⟨rfl, hb⟩; have q0 : w9.cell? ⟨G, 0, none⟩ = some (.int .i64 a1) := kc hb (by first | assumption | go_cell); have q1 : w9.cell? ⟨G, 1, none⟩ = some (.int .i64 a2) := kc hb (by first | assumption | go_cell); have q2 : w9.cell? ⟨G, 2, none⟩ = some (.int .i64 a3) := kc hb (by first | assumption | go_cell); have q3 : w9.cell? ⟨G, 3, none⟩ = some (.int .i64 a4) := kc hb (by first | assumption | go_cell); have q4 : w9.cell? ⟨G, 4, none⟩ = some (.int .i64 a5) := kc hb (by first | assumption | go_cell); have q5 : w9.cell? ⟨G, 5, none⟩ = some (.int .i64 a6) := kc hb (by first | assumption | go_cell); have q6 : w9.cell? ⟨w.heap.size, 0, none⟩ = some (.int .i64 0) := kc hb (by first | assumption | go_cell); have q7 : w9.cell? ⟨w.heap.size, 1, none⟩ = some (.int .i64 0) := kc hb (by first | assumption | go_cell); have q8 : w9.cell? ⟨w.heap.size, 2, none⟩ = some (.int .i64 0) := kc hb (by first | assumption | go_cell); have q9 : w9.cell? ⟨w.heap.size, 3, none⟩ = some (.int .i64 0) := kc hb (by first | assumption | go_cell); have q10 : w9.cell? ⟨w.heap.size, 4, none⟩ = some (.int .i64 0) := kc hb (by first | assumption | go_cell); have q11 : w9.cell? ⟨w.heap.size, 5, none⟩ = some (.int .i64 0) := kc hb (by first | assumption | go_cell); have q12 : w9.frozen? ⟨G, 0, none⟩ = false := kf hb (by first | (simp; omega) | (have := hb5.size; simp; omega)) (by first | assumption | go_cell); have q13 : w9.frozen? ⟨G, 1, none⟩ = false := kf hb (by first | (simp; omega) | (have := hb5.size; simp; omega)) (by first | assumption | go_cell); have q14 : w9.frozen? ⟨G, 2, none⟩ = false := kf hb (by first | (simp; omega) | (have := hb5.size; simp; omega)) (by first | assumption | go_cell); have q15 : w9.frozen? ⟨G, 3, none⟩ = false := kf hb (by first | (simp; omega) | (have := hb5.size; simp; omega)) (by first | assumption | go_cell); have q16 : w9.frozen? ⟨G, 4, none⟩ = false := kf hb (by first | (simp; omega) | (have := hb5.size; simp; omega)) (by first | assumption | go_cell); have q17 : w9.frozen? ⟨G, 5, none⟩ = false := kf hb (by first | (simp; omega) | (have := hb5.size; simp; omega)) (by first | assumption | go_cell); have q18 : w9.frozen? ⟨w.heap.size, 0, none⟩ = false := kf hb (by first | (simp; omega) | (have := hb5.size; simp; omega)) (by first | assumption | go_cell); have q19 : w9.frozen? ⟨w.heap.size, 1, none⟩ = false := kf hb (by first | (simp; omega) | (have := hb5.size; simp; omega)) (by first | assumption | go_cell); have q20 : w9.frozen? ⟨w.heap.size, 2, none⟩ = false := kf hb (by first | (simp; omega) | (have := hb5.size; simp; omega)) (by first | assumption | go_cell); have q21 : w9.frozen? ⟨w.heap.size, 3, none⟩ = false := kf hb (by first | (simp; omega) | (have := hb5.size; simp; omega)) (by first | assumption | go_cell); have q22 : w9.frozen? ⟨w.heap.size, 4, none⟩ = false := kf hb (by first | (simp; omega) | (have := hb5.size; simp; omega)) (by first | assumption | go_cell); have q23 : w9.frozen? ⟨w.heap.size, 5, none⟩ = false := kf hb (by first | (simp; omega) | (have := hb5.size; simp; omega)) (by first | assumption | go_cell))
      all_goals (
        have HO9 := owns_keep (w := wr) (w' := w9) HOr.out (fun g e => hb.block g (HOr.out.lt g e).2)
        have HO10 := owns_keep HO9 (w' := ((((((w9.setCell ⟨G, 0, none⟩ (.int .i64 r1)).setCell ⟨G, 1, none⟩ (.int .i64 r2)).setCell ⟨G, 2, none⟩ (.int .i64 r3)).setCell ⟨G, 3, none⟩ (.int .i64 r4)).setCell ⟨G, 4, none⟩ (.int .i64 r5)).setCell ⟨G, 5, none⟩ (.int .i64 r6))) (fun g' e => by
          have e2 : g = g' := Option.some.inj e
          subst e2
          exact (row_wr0 (w9 := w9) (g := G) r1 r2 r3 r4 r5 r6).block g (by have := hb.size; have : wr.heap.size ≤ w9.heap.size := this; omega) (by omega))
        have HX := hid HO10
        clear HO9 HO10
        go_wp2_with fail
        have z1 := HBel.out.size
        have z3 := hb.size
        simp at z3
        go_roundw
        case rel =>
          refine ⟨k + 1, ⟨r1, r2, r3, r4, r5, r6⟩, by omega, by go_num, HSum.out, (by repeat (first | (with_reducible exact Below.refl _ _) | (with_reducible refine Below.setCell ?_ (by first | (simp; done) | (simp; omega) | omega) _) | (with_reducible refine Below.alloc ?_ (by first | (simp; done) | (simp; omega) | omega) _) | (with_reducible refine Below.drew ?_) | (with_reducible refine below_drewN ?_ _) | (with_reducible exact HBel.out) | (with_reducible exact hb) | (with_reducible refine Below.trans ?_ (Below.mono HBel.out (by first | (simp; done) | (simp; omega) | omega))) | (with_reducible refine Below.trans ?_ (Below.mono hb (by first | (simp; done) | (simp; omega) | omega))))), ?_, ⟨by go_cell, by go_cell, by go_cell, by go_cell, by go_cell, by go_cell⟩, ⟨by go_cell, by go_cell, by go_cell, by go_cell, by go_cell, by go_cell⟩, ⟨by go_cell, by go_cell, by go_cell, by go_cell, by go_cell, by go_cell⟩, ⟨by go_cell, by go_cell, by go_cell, by go_cell, by go_cell, by go_cell⟩, HX.out⟩
          simp
          omega
        case measure => simp [intOf]; omega)
    · obtain rfl : k = m := by omega
      have hfin : (⟨a1, a2, a3, a4, a5, a6⟩ : Cnt) = sumB M := by rw [hac, ← HM.out, List.take_length]
      have HFn := hid hfin
      clear hfin hac ho hbel
      go_wp2_with fail
      exact bodyPost_ret (v := .tuple #[.agg #[.int .i64 a1, .int .i64 a2, .int .i64 a3, .int .i64 a4, .int .i64 a5, .int .i64 a6], .int .i64 0]) (by simp [results, Tryz.results74, go_sem, World.cell?_setCell_same', y1, y2, y3, y4, y5, y6]) rfl ⟨by rw [← HFn.out]; rfl, (by repeat (first | (with_reducible exact Below.refl _ _) | (with_reducible refine Below.setCell ?_ (by first | (simp; done) | (simp; omega) | omega) _) | (with_reducible refine Below.alloc ?_ (by first | (simp; done) | (simp; omega) | omega) _) | (with_reducible refine Below.drew ?_) | (with_reducible refine below_drewN ?_ _) | (with_reducible exact HBel.out) | (with_reducible refine Below.trans ?_ (Below.mono HBel.out (by first | (simp; done) | (simp; omega) | omega)))))⟩

end Go.Proofs.YtbihelpnojjacaaGreat.RwG
