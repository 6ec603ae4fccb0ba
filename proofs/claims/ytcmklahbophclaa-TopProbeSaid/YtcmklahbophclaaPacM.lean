/- Pacing: a pace's calls (pacing). -/
import Derived.Test.YtcmklahbophclaaPacK
import Derived.BigQuiet
namespace Go.Proofs.Ytcmklahbophclaa.PacM
set_option linter.unusedVariables false
open Go.ChangeShapes Go.WideShapes Go.ChangeAt Go.RowKit Base NumM NumA NumE WrmA Wri PacP

/-- when it goes, or would -/
def uA (m : Pc) (t n r : Int) : Int := if m.some then max t (m.next + costA n r) else t
def hA (m : Pc) (t n r : Int) : Bool := decide (uA m t n r - t ≤ m.queue)
theorem costA_le (n r : Int) : 0 ≤ costA n r ∧ costA n r ≤ 1099511627776000001 := by
  unfold costA
  split
  · rename_i h
    simp only [Bool.and_eq_true] at h
    have a := tokB_iff.1 h.1
    have b := tokB_iff.1 h.2
    have := costN_le n.toNat r.toNat (by omega) (by omega)
    omega
  · omega

theorem valid_of {m : Pc} (ho : m.Ok) {t n r : Int} (hz : refW m t n r = 0) : wrap64 (uA m t n r - t) = uA m t n r - t ∧ (hA m t n r = false ∧ gA m t n r = false ∧ wA m t n r = 0 ∨ hA m t n r = true ∧ gA m t n r = true ∧ wA m t n r = uA m t n r - t) := by
  have hz' := hz
  obtain ⟨tn, nn, rn, rfl, rfl, rfl, h1, h2, h3, h4, h5, h6⟩ := refW_zero hz
  have ec : costA (nn : Nat) (rn : Nat) = (costN nn rn : Nat) := by
    unfold costA
    rw [tokB_iff.2 ⟨by omega, by omega⟩, tokB_iff.2 ⟨by omega, by omega⟩]
    simp
  have hc := costN_le nn rn h4 h5
  have hnx := ho.next
  have a3 : gA m tn nn rn = goesB m tn nn rn := by unfold gA; rw [hz]; simp
  have a4 : wA m tn nn rn = (waitN m tn nn rn : Nat) := by unfold wA; rw [if_pos hz]; simp
  cases hs : m.some
  · have u0 : uA m tn nn rn = tn := by simp [uA, hs]
    have g0 : gA m tn nn rn = true := by rw [a3]; unfold goesB; rw [hs]; rfl
    have w0 : wA m tn nn rn = 0 := by rw [a4]; unfold waitN; rw [hs]; simp
    exact ⟨by rw [u0]; unfold wrap64; omega, .inr ⟨decide_eq_true (by rw [u0]; omega), g0, by rw [w0, u0]; omega⟩⟩
  · have u0 : uA m tn nn rn = max (tn : Int) (m.next + (costN nn rn : Nat)) := by simp [uA, hs, ec]
    clear ec
    have hu : wrap64 (uA m tn nn rn - tn) = uA m tn nn rn - tn := by rw [u0]; unfold wrap64; omega
    refine ⟨hu, ?_⟩
    by_cases hg : m.next + costN nn rn ≤ tn + m.queue
    · right
      have g0 : goesB m tn nn rn = true := by unfold goesB; rw [decide_eq_true hg]; simp
      refine ⟨decide_eq_true (by rw [u0]; omega), by rw [a3, g0], ?_⟩
      rw [a4, u0]
      unfold waitN
      rw [if_pos ⟨g0, hs⟩]
      omega
    · left
      have g0 : goesB m tn nn rn = false := by unfold goesB; rw [decide_eq_false hg, hs]; rfl
      refine ⟨decide_eq_false (by rw [u0]; omega), by rw [a3, g0], ?_⟩
      rw [a4]
      unfold waitN
      rw [if_neg (by rw [g0]; simp)]
      rfl

theorem hr_of {m : Pc} (ho : m.Ok) (t n r : Int) :
    wA m t n r = 0 ∧ gA m t n r = false ∧ refW m t n r = 2 ∧ refC n r = 2 ∨ wA m t n r = 0 ∧ gA m t n r = false ∧ refW m t n r = 2 ∧ refC n r = 0 ∧ inW t 0 1152921504606846976 = false ∨ wA m t n r = 0 ∧ gA m t n r = false ∧ refW m t n r = 7 ∧ refC n r = 0 ∧ inW t 0 1152921504606846976 = true ∧ decide (t < m.noted) = true ∨
      refW m t n r = 0 ∧ refC n r = 0 ∧ inW t 0 1152921504606846976 = true ∧ decide (t < m.noted) = false ∧ wrap64 (uA m t n r - t) = uA m t n r - t ∧ decide (uA m t n r - t ≤ m.queue) = hA m t n r ∧ (hA m t n r = false ∧ gA m t n r = false ∧ wA m t n r = 0 ∨ hA m t n r = true ∧ gA m t n r = true ∧ wA m t n r = uA m t n r - t) := by
  by_cases hz : refW m t n r = 0
  · have hv := valid_of ho hz
    obtain ⟨tn, nn, rn, rfl, rfl, rfl, h1, h2, h3, h4, h5, h6⟩ := refW_zero hz
    refine .inr (.inr (.inr ⟨hz, ?_, inW_iff.2 ⟨by omega, by omega⟩, decide_eq_false (by omega), hv.1, rfl, hv.2⟩))
    unfold refC
    rw [tokB_iff.2 ⟨by omega, by omega⟩, tokB_iff.2 ⟨by omega, by omega⟩]
    rfl
  · have e1 : wA m t n r = 0 := by unfold wA; rw [if_neg hz]
    have e2 : gA m t n r = false := by unfold gA; rw [decide_eq_false hz]; rfl
    unfold refC
    cases hc : (tokB n && tokB r)
    · refine .inl ⟨e1, e2, ?_, rfl⟩
      unfold refW
      rw [Bool.and_assoc, hc, Bool.and_false]
      rfl
    · cases ht : inW t 0 1152921504606846976
      · refine .inr (.inl ⟨e1, e2, ?_, rfl, rfl⟩)
        unfold refW
        rw [Bool.and_assoc, hc, ht]
        rfl
      · have e3 : refW m t n r = if t < m.noted then 7 else 0 := by
          unfold refW
          rw [Bool.and_assoc, hc, ht]
          rfl
        by_cases hb : t < m.noted
        · rw [if_pos hb] at e3
          exact .inr (.inr (.inl ⟨e1, e2, e3, rfl, rfl, decide_eq_true hb⟩))
        · rw [if_neg hb] at e3
          exact absurd e3 hz

theorem turn_is {w wx : World} {p : Nat} {m : Pc} (ho : m.Ok) (h : At w p m) (hb : Below w.heap.size w wx) (t n r : Int) :
    Calls Try.prog 73 #[ptr p, .int .i64 t, .int .i64 (costA n r)] wx fun e w' => e = .returned (.int .i64 (uA m t n r)) ∧ Below wx.heap.size wx w' := by
  obtain ⟨c0, c1, -⟩ := (h.below hb h.lt).cells
  refine turn_any p t (costA n r) m.next _ m.some wx c0 c1 ?_
  have hc := costA_le n r
  have hn := ho.next
  unfold uA
  cases hs : m.some
  · exact .inl ⟨rfl, rfl⟩
  · exact .inr ⟨rfl, by unfold wrap64; omega, rfl⟩

/-- what a call that goes, or does not, leaves -/
theorem note_is {w wx : World} {p : Nat} {m : Pc} (ho : m.Ok) (h : At w p m) (hb : Below w.heap.size w wx) (t n r : Int) (hz : refW m t n r = 0) :
    Calls Try.prog 51 #[ptr p, .int .i64 t, .int .i64 (uA m t n r), .bool (hA m t n r)] wx fun e w' => e = .returned (.tuple #[]) ∧ At w' p (stepA m t n r) ∧ Wr (fun k => k = p) w w' := by
  have hx := h.below hb h.lt
  obtain ⟨c0, c1, c2, c3, c4, hf⟩ := hx.cells
  have hv := valid_of ho hz
  obtain ⟨tn, nn, rn, rfl, rfl, rfl, h1, h2, h3, h4, h5, h6⟩ := refW_zero hz
  have hst : stepA m tn nn rn = { m with noted := tn, next := if gA m tn nn rn then tn + (wA m tn nn rn).toNat else m.next, some := m.some || gA m tn nn rn } := by
    unfold stepA gA wA
    rw [if_pos hz, if_pos hz]
    simp [hz]
  rcases hv with ⟨-, ⟨a1, a2, a3⟩ | ⟨a1, a2, a3⟩⟩
  · refine (note_any p _ _ _ wx _ (hf 0) (hf 1) (hf 4) ⟨_, c0⟩ ⟨_, c1⟩ ⟨_, c4⟩ (.inl ⟨a1, rfl⟩)).mono ?_
    rintro e w' ⟨rfl, rfl⟩
    refine ⟨rfl, ?_, (Wr.ofBelow hb).trans (Wr.set (R := fun k => k = p) ⟨p, 4, none⟩ _ rfl)⟩
    have := heap_setCell_same _ _ 4 _ _ (.int .i64 (tn : Nat)) hx
    unfold At
    rw [this, hst, a2]
    simp [pm]
  · refine (note_any p _ _ _ wx _ (hf 0) (hf 1) (hf 4) ⟨_, c0⟩ ⟨_, c1⟩ ⟨_, c4⟩ (.inr ⟨a1, rfl⟩)).mono ?_
    rintro e w' ⟨rfl, rfl⟩
    refine ⟨rfl, ?_, (((Wr.ofBelow hb).trans (Wr.set (R := fun k => k = p) ⟨p, 4, none⟩ _ rfl)).trans (Wr.set (R := fun k => k = p) ⟨p, 0, none⟩ _ rfl)).trans (Wr.set (R := fun k => k = p) ⟨p, 1, none⟩ _ rfl)⟩
    have := heap_setCell_same _ _ 1 _ _ (.bool true) (heap_setCell_same _ _ 0 _ _ (.int .i64 (uA m tn nn rn)) (heap_setCell_same _ _ 4 _ _ (.int .i64 (tn : Nat)) hx))
    unfold At
    rw [this, hst, a2]
    have hw : 0 ≤ wA m tn nn rn := by unfold wA; split <;> omega
    have eu : uA m tn nn rn = ((tn + (wA m tn nn rn).toNat : Nat) : Int) := by omega
    rw [eu]
    simp [pm]

set_option maxHeartbeats 1000000 in
theorem go2_any (p bp bt : Nat) (t u : Int) (h : Bool) (Q : World → Prop) (w : World) (k1 : w.cell? ⟨bp, 0, none⟩ = some (ptr p)) (k2 : w.cell? ⟨bt, 0, none⟩ = some (.int .i64 t))
    (HN : Hid (Calls Try.prog 51 #[ptr p, .int .i64 t, .int .i64 u, .bool h] w fun e w' => e = .returned (.tuple #[]) ∧ Q w')) :
    Calls Try.prog 50 #[.int .i64 u, .bool h, .pointer (some ⟨bp, 0, none⟩), .pointer (some ⟨bt, 0, none⟩)] w fun e w' => e = .returned (.tuple #[]) ∧ Q w' := by
  go_enter Try.func50, Try.ntmps50
  go_wp2_with fail
  refine HN.out.mono ?_
  rintro e w3 ⟨rfl, hq⟩
  have HQ := hid hq
  clear hq
  go_wp2_with fail
  go_end0
  exact ⟨rfl, HQ.out⟩

set_option maxHeartbeats 1000000 in
theorem go1_any (p bp : Nat) (c : Int) (w : World) (k1 : w.cell? ⟨bp, 0, none⟩ = some (ptr p)) (k2 : w.cell? ⟨p, 2, none⟩ = some (.int .i64 c)) :
    Calls Try.prog 49 #[.pointer (some ⟨bp, 0, none⟩)] w fun e w' => e = .returned (.int .i64 c) ∧ w = w' := by
  go_enter Try.func49, Try.ntmps49
  go_wp2_with fail
  go_ret
  exact ⟨rfl, rfl⟩

set_option maxHeartbeats 1000000 in
theorem ask_nil (t n : Int) (f g : Value) (w : World) : Calls Try.prog 48 #[.pointer none, .int .i64 t, .int .i64 n, f, g] w fun e w' => e = .returned (.tuple #[.int .i64 0, .bool false, .int .i64 1]) ∧ w = w' := by
  go_enter Try.func48, Try.ntmps48
  go_wp2_with fail
  go_ret3
  exact ⟨rfl, rfl⟩

set_option maxRecDepth 20000 in
set_option maxHeartbeats 1000000 in
theorem go_nil (t n : Int) (w : World) :
    Calls Try.prog 28 #[.pointer none, .int .i64 t, .int .i64 n] w fun e w' => e = .returned (.tuple #[.int .i64 0, .bool false, .int .i64 1]) ∧ Below w.heap.size w w' := by
  have HB : Hid (Below w.heap.size w ((w.alloc (.cells #[.pointer none] 70)).alloc (.cells #[.int .i64 t] 3))) := hid (by repeat (first | (with_reducible exact Below.refl _ _) | (with_reducible refine Below.setCell ?_ (by first | (simp; done) | (simp; omega) | omega) _) | (with_reducible refine Below.alloc ?_ (by first | (simp; done) | (simp; omega) | omega) _) | (with_reducible refine Below.drew ?_)))
  go_enter Try.func28, Try.ntmps28
  go_wp2_with fail
  refine (ask_nil t n _ _ _).mono ?_
  rintro e w2 ⟨rfl, rfl⟩
  go_wp2_with fail
  go_ret3
  exact ⟨rfl, HB.out⟩

set_option maxRecDepth 20000 in
set_option maxHeartbeats 1000000 in
theorem go_core (p : Nat) (t n z er : Int) (g : Bool) (w : World) (Q : World → Prop)
    (H : Hid (Calls Try.prog 48 #[ptr p, .int .i64 t, .int .i64 n, .func (Fn.func 49) #[] #[.pointer (some ⟨w.heap.size, 0, none⟩)], .func (Fn.func 50) #[] #[.pointer (some ⟨w.heap.size, 0, none⟩), .pointer (some ⟨w.heap.size + 1, 0, none⟩)]] ((w.alloc (.cells #[ptr p] 70)).alloc (.cells #[.int .i64 t] 3)) fun e w' => e = .returned (.tuple #[.int .i64 z, .bool g, .int .i64 er]) ∧ Q w')) :
    Calls Try.prog 28 #[ptr p, .int .i64 t, .int .i64 n] w fun e w' => e = .returned (.tuple #[.int .i64 z, .bool g, .int .i64 er]) ∧ Q w' := by
  go_enter Try.func28, Try.ntmps28
  go_wp2_with fail
  refine H.out.mono ?_
  rintro e w2 ⟨rfl, hq⟩
  have HQ := hid hq
  clear hq
  go_wp2_with fail
  go_ret3
  exact ⟨rfl, HQ.out⟩

theorem kept_is {w w1 wx : World} {p : Nat} {m : Pc} (h : At w p m) (hb : Below w.heap.size w w1) (hx : Below w1.heap.size w1 wx) (t n r : Int) (hz : refW m t n r ≠ 0) : At wx p (stepA m t n r) ∧ Wr (fun k => k = p) w wx := by
  have hw := hb.trans (hx.mono hb.size)
  unfold stepA
  rw [if_neg hz]
  exact ⟨h.below hw h.lt, Wr.ofBelow hw⟩

/-- the closure's call, whatever it is asked -/
theorem note_all {w w1 wx : World} {p : Nat} {m : Pc} (ho : m.Ok) (h : At w p m) (hb : Below w.heap.size w w1) (hx : Below w1.heap.size w1 wx) (t n r : Int) (hz : refW m t n r = 0) :
    Calls Try.prog 51 #[ptr p, .int .i64 t, .int .i64 (uA m t n r), .bool (hA m t n r)] wx fun e w' => e = .returned (.tuple #[]) ∧ At w' p (stepA m t n r) ∧ Wr (fun k => k = p) w w' :=
  note_is ho h (hb.trans (hx.mono hb.size)) t n r hz

theorem Go_any (p : Nat) (m : Pc) (ho : m.Ok) (t n : Int) (w : World) (h : At w p m) :
    Calls Try.prog 28 #[ptr p, .int .i64 t, .int .i64 n] w fun e w' => e = .returned (.tuple #[.int .i64 (wA m t n m.count), .bool (gA m t n m.count), .int .i64 (refW m t n m.count)]) ∧ At w' p (stepA m t n m.count) ∧ Wr (fun k => k = p) w w' := by
  have hb : Below w.heap.size w ((w.alloc (.cells #[ptr p] 70)).alloc (.cells #[.int .i64 t] 3)) := (by repeat (first | (with_reducible exact Below.refl _ _) | (with_reducible refine Below.setCell ?_ (by first | (simp; done) | (simp; omega) | omega) _) | (with_reducible refine Below.alloc ?_ (by first | (simp; done) | (simp; omega) | omega) _) | (with_reducible refine Below.drew ?_)))
  have k0 : ((w.alloc (.cells #[ptr p] 70)).alloc (.cells #[.int .i64 t] 3)).cell? ⟨w.heap.size, 0, none⟩ = some (ptr p) := by go_cell
  have k1 : ((w.alloc (.cells #[ptr p] 70)).alloc (.cells #[.int .i64 t] 3)).cell? ⟨w.heap.size + 1, 0, none⟩ = some (.int .i64 t) := by go_cell
  have hsz : ((w.alloc (.cells #[ptr p] 70)).alloc (.cells #[.int .i64 t] 3)).heap.size = w.heap.size + 1 + 1 := by simp
  refine go_core p t n _ _ _ w _ (hid ?_)
  generalize ((w.alloc (.cells #[ptr p] 70)).alloc (.cells #[.int .i64 t] 3)) = w1 at *
  have h1 := h.below hb h.lt
  obtain ⟨c0, c1, c2, c3, c4, -⟩ := h1.cells
  exact ask_go p w.heap.size (w.heap.size + 1) t n m.count m.count m.queue m.noted m.next (costA n m.count) (refC n m.count) (uA m t n m.count) _ _ m.some _ (hA m t n m.count) (inW t 0 1152921504606846976) w1 _ c0 c1 c2 c3 c4
    (hid (go1_any p w.heap.size m.count w1 k0 c2)) (hid (cost_any n m.count)) (hid (within_any t 0 1152921504606846976)) (hid fun wx hx => turn_is ho h1 hx t n m.count)
    (hid fun hz wx hx => go2_any p w.heap.size (w.heap.size + 1) t _ _ _ wx (kc hx k0) (kc hx k1) (hid (note_all ho h hb hx t n m.count hz))) (hid fun hz wx hx => kept_is h hb hx t n m.count hz) (hr_of ho t n m.count)

set_option maxRecDepth 20000 in
set_option maxHeartbeats 1000000 in
theorem new_call (c q : Int) (b1 b2 : Bool) (w : World) (H1 : Hid (∀ w : World, Calls Try.prog 47 #[.int .i64 c, .int .i64 1, .int .i64 1099511627776] w fun e w' => e = .returned (.bool b1) ∧ w = w'))
    (H2 : Hid (∀ w : World, Calls Try.prog 47 #[.int .i64 q, .int .i64 0, .int .i64 3600000000] w fun e w' => e = .returned (.bool b2) ∧ w = w')) :
    Calls Try.prog 26 #[.int .i64 c, .int .i64 q] w fun e w' => (b1 = true ∧ b2 = true ∧ e = .returned (.tuple #[ptr w.heap.size, .int .i64 0]) ∧ w.alloc (.cells #[.int .i64 0, .bool false, .int .i64 c, .int .i64 q, .int .i64 0] 100) = w') ∨ ((b1 && b2) = false ∧ e = .returned (.tuple #[.pointer none, .int .i64 2]) ∧ w = w') := by
  cases b1 with
  | false =>
    go_enter Try.func26, Try.ntmps26
    go_wp2_with fail
    refine (H1.out _).mono ?_
    rintro e w1 ⟨rfl, rfl⟩
    go_wp2_with fail
    go_ret2
    exact .inr ⟨by first | exact trivial | rfl, rfl, rfl⟩
  | true =>
    cases b2 with
    | false =>
      go_enter Try.func26, Try.ntmps26
      go_wp2_with fail
      refine (H1.out _).mono ?_
      rintro e w1 ⟨rfl, rfl⟩
      go_wp2_with fail
      refine (H2.out _).mono ?_
      rintro e w1 ⟨rfl, rfl⟩
      go_wp2_with fail
      go_ret2
      exact .inr ⟨by first | exact trivial | rfl, rfl, rfl⟩
    | true =>
      go_enter Try.func26, Try.ntmps26
      go_wp2_with fail
      refine (H1.out _).mono ?_
      rintro e w1 ⟨rfl, rfl⟩
      go_wp2_with fail
      refine (H2.out _).mono ?_
      rintro e w1 ⟨rfl, rfl⟩
      go_wp2_with fail
      go_ret2
      exact .inl ⟨by first | exact trivial | rfl, by first | exact trivial | rfl, rfl, rfl⟩

theorem New_any (c q : Int) (w : World) :
    Calls Try.prog 26 #[.int .i64 c, .int .i64 q] w fun e w' =>
      (∃ cn qn : Nat, c = cn ∧ q = qn ∧ (fresh cn qn).Ok ∧ e = .returned (.tuple #[ptr w.heap.size, .int .i64 0]) ∧ At w' w.heap.size (fresh cn qn) ∧ Below w.heap.size w w') ∨
      ((tokB c && inW q 0 3600000000) = false ∧ e = .returned (.tuple #[.pointer none, .int .i64 2]) ∧ w = w') := by
  refine (new_call c q (tokB c) (inW q 0 3600000000) w (hid (within_any c 1 1099511627776)) (hid (within_any q 0 3600000000))).mono ?_
  rintro e w' (⟨h1, h2, rfl, rfl⟩ | ⟨h1, rfl, rfl⟩)
  · left
    obtain ⟨a1, a2⟩ := tokB_iff.1 h1
    obtain ⟨a3, a4⟩ := inW_iff.1 h2
    refine ⟨c.toNat, q.toNat, by omega, by omega, fresh_ok _ _ (by omega) (by omega) (by omega), rfl, ?_, (Below.refl _ _).alloc (Nat.le_refl _) _⟩
    have := heap_alloc_new w (.cells (pm (fresh c.toNat q.toNat)) 100)
    unfold At
    rw [← this]
    unfold pm fresh
    rw [show ((c.toNat : Nat) : Int) = c by omega, show ((q.toNat : Nat) : Int) = q by omega]
    rfl
  · exact .inr ⟨h1, rfl, rfl⟩

end Go.Proofs.Ytcmklahbophclaa.PacM
