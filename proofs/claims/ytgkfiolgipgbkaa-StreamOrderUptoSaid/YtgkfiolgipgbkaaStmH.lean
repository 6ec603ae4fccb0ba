/- How a network's calls of an end begin; writes, moves, reads and shuts. -/
import Derived.Test.YtgkfiolgipgbkaaStmG
import Derived.BigQuiet
namespace Go.Proofs.Ytgkfiolgipgbkaa.StmH
open Go.ChangeShapes Go.WideShapes Go.ChangeAt Go.RowKit Base Wri Map FrmP FrmA StmA StmB StmC StmD StmE StmF VaiA StmG
set_option linter.unusedVariables false
set_option linter.unusedSimpArgs false

/-- the error of a call of an end -/
def atE (S : Nst) (c e m : Int) : Int := if never c S.di.length then 4 else if (¬ e = 0 ∧ ¬ e = 1) ∨ m < 0 then 2 else if broke S.co c then 51 else 0
def Nst.set (S : Nst) (j : Nat) (C : Con) : Nst := ⟨S.op, S.di, fun i => if i = j then some C else S.co i⟩

theorem net_cells {W : World} {B p nc mo mc : Nat} {own : Nat → Nat} {S : Nst} {vd : Value} {K : Nat → Nat} (h : NetAt W B own p S nc mo mc vd K) : ∃ a c, vd = .slice a S.di.length c ∧ W.cell? ⟨p, 0, none⟩ = some (.map (some mo)) ∧ W.cell? ⟨p, 1, none⟩ = some (.slice a S.di.length c) ∧ W.cell? ⟨p, 2, none⟩ = some (.map (some mc)) := by
  obtain ⟨a, c, e⟩ := owns_shape h.row
  subst e
  exact ⟨a, c, rfl, blk_cell h.blk rfl, blk_cell h.blk rfl, blk_cell h.blk rfl⟩

set_option maxRecDepth 20000 in
set_option maxHeartbeats 1000000 in
theorem at_err (p B nc mo mc : Nat) (own : Nat → Nat) (S : Nst) (vd : Value) (K : Nat → Nat) (c e m : Int) (fv : Value) (w : World) (h : NetAt w B own p S nc mo mc vd K) (hc : -9223372036854775808 ≤ c) (hc2 : c ≤ 9223372036854775807) (he : atE S c e m ≠ 0) :
    Calls Try.prog 50 #[.pointer (some ⟨p, 0, none⟩), .int .i64 c, .int .i64 e, .int .i64 m, fv] w fun x w' => x = .returned (.int .i64 (atE S c e m)) ∧ w' = w := by
  obtain ⟨a, cp, rfl, x0, x1, x2⟩ := net_cells h
  have HV := hid (never_any p S.di.length cp a c w x1)
  have HB := hid (broke_any p mc nc K S.co c w hc hc2 x2 h.cm)
  clear h x0 x1 x2
  revert he
  unfold atE
  generalize never c S.di.length = b1 at *
  generalize broke S.co c = b2 at *
  cases b1 with
  | true =>
    intro _
    simp only [if_true]
    go_enter Try.func50, Try.ntmps50
    go_wp2_with (go_at_call 64; refine HV.out.mono ?_; rintro x w1 ⟨rfl, rfl⟩)
    go_ret
    exact ⟨rfl, rfl⟩
  | false =>
    simp only [Bool.false_eq_true, if_false]
    by_cases hr : (¬ e = 0 ∧ ¬ e = 1) ∨ m < 0
    · intro _
      rw [if_pos hr]
      rcases Int.lt_or_le m 0 with hm | hm
      · by_cases e0 : e = 0
        · subst e0
          go_enter Try.func50, Try.ntmps50
          go_wp2_with (go_at_call 64; refine HV.out.mono ?_; rintro x w1 ⟨rfl, rfl⟩)
          go_ret
          exact ⟨rfl, rfl⟩
        · by_cases e1 : e = 1
          · subst e1
            go_enter Try.func50, Try.ntmps50
            go_wp2_with (go_at_call 64; refine HV.out.mono ?_; rintro x w1 ⟨rfl, rfl⟩)
            go_ret
            exact ⟨rfl, rfl⟩
          · have d0 : (e == 0) = false := by simpa using e0
            have d1 : (e == 1) = false := by simpa using e1
            go_enter Try.func50, Try.ntmps50
            go_wp2_with (go_at_call 64; refine HV.out.mono ?_; rintro x w1 ⟨rfl, rfl⟩)
            go_ret
            exact ⟨rfl, rfl⟩
      · have hne : ¬ e = 0 ∧ ¬ e = 1 := by omega
        obtain ⟨e0, e1⟩ := hne
        have d0 : (e == 0) = false := by simpa using e0
        have d1 : (e == 1) = false := by simpa using e1
        go_enter Try.func50, Try.ntmps50
        go_wp2_with (go_at_call 64; refine HV.out.mono ?_; rintro x w1 ⟨rfl, rfl⟩)
        go_ret
        exact ⟨rfl, rfl⟩
    · rw [if_neg hr]
      cases b2 with
      | false => intro he; exact absurd rfl he
      | true =>
        intro _
        simp only [if_true]
        have hm : ¬ m < 0 := by omega
        have hee : e = 0 ∨ e = 1 := by omega
        rcases hee with rfl | rfl
        · go_enter Try.func50, Try.ntmps50
          go_wp2_with (first
            | (go_at_call 64; refine HV.out.mono ?_; rintro x w1 ⟨rfl, rfl⟩)
            | (go_at_call 65; refine HB.out.mono ?_; rintro x w1 ⟨rfl, rfl⟩))
          go_ret
          exact ⟨rfl, rfl⟩
        · go_enter Try.func50, Try.ntmps50
          go_wp2_with (first
            | (go_at_call 64; refine HV.out.mono ?_; rintro x w1 ⟨rfl, rfl⟩)
            | (go_at_call 65; refine HB.out.mono ?_; rintro x w1 ⟨rfl, rfl⟩))
          go_ret
          exact ⟨rfl, rfl⟩

set_option maxRecDepth 20000 in
set_option maxHeartbeats 1000000 in
theorem at_Write (p B nc mo mc j p1 p2 : Nat) (own : Nat → Nat) (S : Nst) (vd : Value) (K : Nat → Nat) (e m : Int) (C : Con) (w : World) (h : NetAt w B own p S nc mo mc vd K) (hj : S.co j = some C) (he : e = 0 ∨ e = 1) (hm : ¬ m < 0) (Q : Int → World → Prop) (hq : Calls Try.prog 51 #[.pointer (some ⟨K j, 0, none⟩), .pointer (some ⟨p1, 0, none⟩), .pointer (some ⟨p2, 0, none⟩)] w fun x w' => ∃ r : Int, x = .returned (.int .i64 r) ∧ Q r w') :
    Calls Try.prog 50 #[.pointer (some ⟨p, 0, none⟩), .int .i64 j, .int .i64 e, .int .i64 m, .func (Fn.func 51) #[] #[.pointer (some ⟨p1, 0, none⟩), .pointer (some ⟨p2, 0, none⟩)]] w fun x w' => ∃ r : Int, x = .returned (.int .i64 r) ∧ Q r w' := by
  obtain ⟨a, cp, rfl, x0, x1, x2⟩ := net_cells h
  obtain ⟨j1, j2, -⟩ := h.con j C hj
  have hlen := h.len
  have HV := hid (never_any p S.di.length cp a j w x1)
  have HB := hid (broke_any p mc nc K S.co j w (by omega) (by omega) x2 h.cm)
  rw [show never (j : Int) S.di.length = false by unfold never; simp; omega] at HV
  rw [show broke S.co (j : Int) = false by unfold broke; rw [if_pos (by omega)]; simp [hj]] at HB
  obtain ⟨F, hF, hF2⟩ := h.cm
  have hl := hF.look false keyedI Try.underlying60 (zeroC w) (keyI (i := (j : Int)) (by omega) (by omega))
  rw [hF2 j, if_pos (by omega)] at hl
  simp only [Int.toNat_natCast, hj, Option.map_some, Bool.false_eq_true, if_false] at hl
  have HQ := hid hq
  clear h x0 x1 hF hF2 hj j1 j2 hlen hq
  rcases he with rfl | rfl
  · go_enter Try.func50, Try.ntmps50
    go_wp2_with (first
      | (go_at_call 64; refine HV.out.mono ?_; rintro x w1 ⟨rfl, rfl⟩)
      | (go_at_call 65; refine HB.out.mono ?_; rintro x w1 ⟨rfl, rfl⟩))
    refine HQ.out.mono ?_
    rintro x w2 ⟨r, rfl, hQ⟩
    have HQ2 := hid hQ
    clear hQ
    go_wp2_with fail
    go_ret
    exact ⟨r, rfl, HQ2.out⟩
  · go_enter Try.func50, Try.ntmps50
    go_wp2_with (first
      | (go_at_call 64; refine HV.out.mono ?_; rintro x w1 ⟨rfl, rfl⟩)
      | (go_at_call 65; refine HB.out.mono ?_; rintro x w1 ⟨rfl, rfl⟩))
    refine HQ.out.mono ?_
    rintro x w2 ⟨r, rfl, hQ⟩
    have HQ2 := hid hQ
    clear hQ
    go_wp2_with fail
    go_ret
    exact ⟨r, rfl, HQ2.out⟩

set_option maxRecDepth 20000 in
set_option maxHeartbeats 1000000 in
theorem at_Move (p B nc mo mc j p1 p2 p3 : Nat) (own : Nat → Nat) (S : Nst) (vd : Value) (K : Nat → Nat) (e m : Int) (C : Con) (w : World) (h : NetAt w B own p S nc mo mc vd K) (hj : S.co j = some C) (he : e = 0 ∨ e = 1) (hm : ¬ m < 0) (Q : Int → World → Prop) (hq : Calls Try.prog 54 #[.pointer (some ⟨K j, 0, none⟩), .pointer (some ⟨p1, 0, none⟩), .pointer (some ⟨p2, 0, none⟩), .pointer (some ⟨p3, 0, none⟩)] w fun x w' => ∃ r : Int, x = .returned (.int .i64 r) ∧ Q r w') :
    Calls Try.prog 50 #[.pointer (some ⟨p, 0, none⟩), .int .i64 j, .int .i64 e, .int .i64 m, .func (Fn.func 54) #[] #[.pointer (some ⟨p1, 0, none⟩), .pointer (some ⟨p2, 0, none⟩), .pointer (some ⟨p3, 0, none⟩)]] w fun x w' => ∃ r : Int, x = .returned (.int .i64 r) ∧ Q r w' := by
  obtain ⟨a, cp, rfl, x0, x1, x2⟩ := net_cells h
  obtain ⟨j1, j2, -⟩ := h.con j C hj
  have hlen := h.len
  have HV := hid (never_any p S.di.length cp a j w x1)
  have HB := hid (broke_any p mc nc K S.co j w (by omega) (by omega) x2 h.cm)
  rw [show never (j : Int) S.di.length = false by unfold never; simp; omega] at HV
  rw [show broke S.co (j : Int) = false by unfold broke; rw [if_pos (by omega)]; simp [hj]] at HB
  obtain ⟨F, hF, hF2⟩ := h.cm
  have hl := hF.look false keyedI Try.underlying60 (zeroC w) (keyI (i := (j : Int)) (by omega) (by omega))
  rw [hF2 j, if_pos (by omega)] at hl
  simp only [Int.toNat_natCast, hj, Option.map_some, Bool.false_eq_true, if_false] at hl
  have HQ := hid hq
  clear h x0 x1 hF hF2 hj j1 j2 hlen hq
  rcases he with rfl | rfl
  · go_enter Try.func50, Try.ntmps50
    go_wp2_with (first
      | (go_at_call 64; refine HV.out.mono ?_; rintro x w1 ⟨rfl, rfl⟩)
      | (go_at_call 65; refine HB.out.mono ?_; rintro x w1 ⟨rfl, rfl⟩))
    refine HQ.out.mono ?_
    rintro x w2 ⟨r, rfl, hQ⟩
    have HQ2 := hid hQ
    clear hQ
    go_wp2_with fail
    go_ret
    exact ⟨r, rfl, HQ2.out⟩
  · go_enter Try.func50, Try.ntmps50
    go_wp2_with (first
      | (go_at_call 64; refine HV.out.mono ?_; rintro x w1 ⟨rfl, rfl⟩)
      | (go_at_call 65; refine HB.out.mono ?_; rintro x w1 ⟨rfl, rfl⟩))
    refine HQ.out.mono ?_
    rintro x w2 ⟨r, rfl, hQ⟩
    have HQ2 := hid hQ
    clear hQ
    go_wp2_with fail
    go_ret
    exact ⟨r, rfl, HQ2.out⟩

set_option maxRecDepth 20000 in
set_option maxHeartbeats 1000000 in
theorem at_Read (p B nc mo mc j p1 p2 p3 p4 : Nat) (own : Nat → Nat) (S : Nst) (vd : Value) (K : Nat → Nat) (e m : Int) (C : Con) (w : World) (h : NetAt w B own p S nc mo mc vd K) (hj : S.co j = some C) (he : e = 0 ∨ e = 1) (hm : ¬ m < 0) (Q : Int → World → Prop) (hq : Calls Try.prog 56 #[.pointer (some ⟨K j, 0, none⟩), .pointer (some ⟨p1, 0, none⟩), .pointer (some ⟨p2, 0, none⟩), .pointer (some ⟨p3, 0, none⟩), .pointer (some ⟨p4, 0, none⟩)] w fun x w' => ∃ r : Int, x = .returned (.int .i64 r) ∧ Q r w') :
    Calls Try.prog 50 #[.pointer (some ⟨p, 0, none⟩), .int .i64 j, .int .i64 e, .int .i64 m, .func (Fn.func 56) #[] #[.pointer (some ⟨p1, 0, none⟩), .pointer (some ⟨p2, 0, none⟩), .pointer (some ⟨p3, 0, none⟩), .pointer (some ⟨p4, 0, none⟩)]] w fun x w' => ∃ r : Int, x = .returned (.int .i64 r) ∧ Q r w' := by
  obtain ⟨a, cp, rfl, x0, x1, x2⟩ := net_cells h
  obtain ⟨j1, j2, -⟩ := h.con j C hj
  have hlen := h.len
  have HV := hid (never_any p S.di.length cp a j w x1)
  have HB := hid (broke_any p mc nc K S.co j w (by omega) (by omega) x2 h.cm)
  rw [show never (j : Int) S.di.length = false by unfold never; simp; omega] at HV
  rw [show broke S.co (j : Int) = false by unfold broke; rw [if_pos (by omega)]; simp [hj]] at HB
  obtain ⟨F, hF, hF2⟩ := h.cm
  have hl := hF.look false keyedI Try.underlying60 (zeroC w) (keyI (i := (j : Int)) (by omega) (by omega))
  rw [hF2 j, if_pos (by omega)] at hl
  simp only [Int.toNat_natCast, hj, Option.map_some, Bool.false_eq_true, if_false] at hl
  have HQ := hid hq
  clear h x0 x1 hF hF2 hj j1 j2 hlen hq
  rcases he with rfl | rfl
  · go_enter Try.func50, Try.ntmps50
    go_wp2_with (first
      | (go_at_call 64; refine HV.out.mono ?_; rintro x w1 ⟨rfl, rfl⟩)
      | (go_at_call 65; refine HB.out.mono ?_; rintro x w1 ⟨rfl, rfl⟩))
    refine HQ.out.mono ?_
    rintro x w2 ⟨r, rfl, hQ⟩
    have HQ2 := hid hQ
    clear hQ
    go_wp2_with fail
    go_ret
    exact ⟨r, rfl, HQ2.out⟩
  · go_enter Try.func50, Try.ntmps50
    go_wp2_with (first
      | (go_at_call 64; refine HV.out.mono ?_; rintro x w1 ⟨rfl, rfl⟩)
      | (go_at_call 65; refine HB.out.mono ?_; rintro x w1 ⟨rfl, rfl⟩))
    refine HQ.out.mono ?_
    rintro x w2 ⟨r, rfl, hQ⟩
    have HQ2 := hid hQ
    clear hQ
    go_wp2_with fail
    go_ret
    exact ⟨r, rfl, HQ2.out⟩

set_option maxRecDepth 20000 in
set_option maxHeartbeats 1000000 in
theorem at_Shut (p B nc mo mc j p1 : Nat) (own : Nat → Nat) (S : Nst) (vd : Value) (K : Nat → Nat) (e m : Int) (C : Con) (w : World) (h : NetAt w B own p S nc mo mc vd K) (hj : S.co j = some C) (he : e = 0 ∨ e = 1) (hm : ¬ m < 0) (Q : Int → World → Prop) (hq : Calls Try.prog 60 #[.pointer (some ⟨K j, 0, none⟩), .pointer (some ⟨p1, 0, none⟩)] w fun x w' => ∃ r : Int, x = .returned (.int .i64 r) ∧ Q r w') :
    Calls Try.prog 50 #[.pointer (some ⟨p, 0, none⟩), .int .i64 j, .int .i64 e, .int .i64 m, .func (Fn.func 60) #[] #[.pointer (some ⟨p1, 0, none⟩)]] w fun x w' => ∃ r : Int, x = .returned (.int .i64 r) ∧ Q r w' := by
  obtain ⟨a, cp, rfl, x0, x1, x2⟩ := net_cells h
  obtain ⟨j1, j2, -⟩ := h.con j C hj
  have hlen := h.len
  have HV := hid (never_any p S.di.length cp a j w x1)
  have HB := hid (broke_any p mc nc K S.co j w (by omega) (by omega) x2 h.cm)
  rw [show never (j : Int) S.di.length = false by unfold never; simp; omega] at HV
  rw [show broke S.co (j : Int) = false by unfold broke; rw [if_pos (by omega)]; simp [hj]] at HB
  obtain ⟨F, hF, hF2⟩ := h.cm
  have hl := hF.look false keyedI Try.underlying60 (zeroC w) (keyI (i := (j : Int)) (by omega) (by omega))
  rw [hF2 j, if_pos (by omega)] at hl
  simp only [Int.toNat_natCast, hj, Option.map_some, Bool.false_eq_true, if_false] at hl
  have HQ := hid hq
  clear h x0 x1 hF hF2 hj j1 j2 hlen hq
  rcases he with rfl | rfl
  · go_enter Try.func50, Try.ntmps50
    go_wp2_with (first
      | (go_at_call 64; refine HV.out.mono ?_; rintro x w1 ⟨rfl, rfl⟩)
      | (go_at_call 65; refine HB.out.mono ?_; rintro x w1 ⟨rfl, rfl⟩))
    refine HQ.out.mono ?_
    rintro x w2 ⟨r, rfl, hQ⟩
    have HQ2 := hid hQ
    clear hQ
    go_wp2_with fail
    go_ret
    exact ⟨r, rfl, HQ2.out⟩
  · go_enter Try.func50, Try.ntmps50
    go_wp2_with (first
      | (go_at_call 64; refine HV.out.mono ?_; rintro x w1 ⟨rfl, rfl⟩)
      | (go_at_call 65; refine HB.out.mono ?_; rintro x w1 ⟨rfl, rfl⟩))
    refine HQ.out.mono ?_
    rintro x w2 ⟨r, rfl, hQ⟩
    have HQ2 := hid hQ
    clear hQ
    go_wp2_with fail
    go_ret
    exact ⟨r, rfl, HQ2.out⟩

end Go.Proofs.Ytgkfiolgipgbkaa.StmH
