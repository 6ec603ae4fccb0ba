/- The other calls of a warm-up. -/
import Derived.Test.YtamofanfgdjmnaaWrmI
namespace Go.Proofs.Ytamofanfgdjmnaa.WrmJ
set_option linter.unusedVariables false
open Go.ChangeShapes Go.WideShapes Go.ChangeAt Go.RowKit Base WrmP NumM NumC NumE NumA WrmA WrmB WrmC WrmD WrmE WrmF WrmG WrmH WrmI Wri

set_option maxRecDepth 20000 in
set_option maxHeartbeats 1000000 in
theorem look_call (p : Nat) (t past now n r sm q : Int) (x : Bool) (w : World)
    (HR : Hid (∀ (w0 : World) (g : Nat), Below w.heap.size w w0 → w0.cell? ⟨g, 0, none⟩ = some (.int .i64 now) → w0.cell? ⟨g, 1, none⟩ = some (.int .i64 n) → Calls Try.prog 39 #[ptr p, .int .i64 t, .int .i64 past, .slice (some ⟨g, 0, none⟩) 1 1] w0 fun e w' => e = .returned (.int .i64 r) ∧ Below w0.heap.size w0 w'))
    (hr : ((r != 0) = true ∧ x = false) ∨ ((r != 0) = false ∧ r = 0 ∧ wrap64 (now + n) = sm ∧ decide (sm ≤ q) = x ∧ Hid (∀ w0, Below w.heap.size w w0 → Calls Try.prog 42 #[ptr p, .int .i64 t, .int .i64 past] w0 fun e w' => e = .returned (.int .i64 q) ∧ Below w0.heap.size w0 w'))) :
    Calls Try.prog 25 #[ptr p, .int .i64 t, .int .i64 past, .int .i64 now, .int .i64 n] w fun e w' => e = .returned (.tuple #[.bool x, .int .i64 r]) ∧ Below w.heap.size w w' := by
  go_enter Try.func25, Try.ntmps25
  go_wp2_with fail
  refine (HR.out _ _ ((Below.refl _ _).alloc (Nat.le_refl _) _) (by go_cell) (by go_cell)).mono ?_
  rintro e w1 ⟨rfl, hb1⟩
  have HB1 := hid (bl ((Below.refl _ _).alloc (Nat.le_refl _) _) hb1)
  clear hb1
  rcases hr with ⟨h1, rfl⟩ | ⟨h1, rfl, h2, h3, HB⟩
  · go_wp2_with fail
    go_ret2
    exact ⟨rfl, HB1.out⟩
  · go_wp2_with fail
    refine (HB.out _ HB1.out).mono ?_
    rintro e w2 ⟨rfl, hb⟩
    have HB2 := hid (bl HB1.out hb)
    clear hb HB
    go_wp2_with fail
    go_ret2
    exact ⟨rfl, HB2.out⟩

theorem Look_any (p : Nat) (m : Wm) (ho : m.Ok) (t past now n : Int) (w : World) (h : At w p m) :
    Calls Try.prog 25 #[ptr p, .int .i64 t, .int .i64 past, .int .i64 now, .int .i64 n] w fun e w' => e = .returned (.tuple #[.bool (lookA m t past now n), .int .i64 (ref4 m.last t past now n)]) ∧ Below w.heap.size w w' := by
  refine look_call p t past now n _ (now + n) (Wm.next m t.toNat past.toNat : Nat) _ w (hid fun w0 g hb g0 g1 => refuses_one p g t past now n m.last w0 (kc hb h.cells.2.2.2.2.2.1) g0 g1) ?_
  unfold lookA
  by_cases hz : ref4 m.last t past now n = 0
  · right
    rw [hz]
    obtain ⟨⟨tn, pn, rfl, rfl, h1, h2, h3⟩, h4, h5, h6, h7⟩ := ref4_zero hz
    exact ⟨rfl, rfl, by unfold wrap64; omega, rfl, hid fun w0 hb => rateBy_any p m ho tn pn h1 h2 h3 w0 (h.below hb h.lt)⟩
  · left
    rw [if_neg hz]
    exact ⟨by simpa using hz, rfl⟩

set_option maxRecDepth 20000 in
set_option maxHeartbeats 1000000 in
theorem take_call (p : Nat) (t past now n r : Int) (x : Bool) (w : World) (Q : World → Prop)
    (HL : Hid (Calls Try.prog 25 #[ptr p, .int .i64 t, .int .i64 past, .int .i64 now, .int .i64 n] w fun e w' => e = .returned (.tuple #[.bool x, .int .i64 r]) ∧ Below w.heap.size w w'))
    (hr : ((r != 0) = true ∧ x = false ∧ Hid (∀ w1, Below w.heap.size w w1 → Q w1)) ∨ ((r != 0) = false ∧ r = 0 ∧ Hid (∀ w1, Below w.heap.size w w1 → Calls Try.prog 40 #[ptr p, .int .i64 t, .int .i64 past] w1 fun e w' => e = .returned (.tuple #[]) ∧ Q w'))) :
    Calls Try.prog 26 #[ptr p, .int .i64 t, .int .i64 past, .int .i64 now, .int .i64 n] w fun e w' => e = .returned (.tuple #[.bool x, .int .i64 r]) ∧ Q w' := by
  go_enter Try.func26, Try.ntmps26
  go_wp2_with fail
  refine HL.out.mono ?_
  rintro e w1 ⟨rfl, hb1⟩
  rcases hr with ⟨h1, rfl, HQ⟩ | ⟨h1, rfl, HB⟩
  · have H := hid (HQ.out w1 hb1)
    clear hb1
    go_wp2_with fail
    go_ret2
    exact ⟨rfl, H.out⟩
  · have H := hid (HB.out w1 hb1)
    clear hb1 HB
    go_wp2_with fail
    refine H.out.mono ?_
    rintro e w2 ⟨rfl, hq⟩
    have HQ := hid hq
    clear hq
    go_wp2_with fail
    go_ret2
    exact ⟨rfl, HQ.out⟩

theorem Take_any (p : Nat) (m : Wm) (ho : m.Ok) (t past now n : Int) (w : World) (h : At w p m) :
    Calls Try.prog 26 #[ptr p, .int .i64 t, .int .i64 past, .int .i64 now, .int .i64 n] w fun e w' => e = .returned (.tuple #[.bool (lookA m t past now n), .int .i64 (ref4 m.last t past now n)]) ∧ At w' p (takeA m t past now n) ∧ Wr (fun k => k = p) w w' := by
  refine take_call p t past now n _ _ w (fun w' => At w' p (takeA m t past now n) ∧ Wr (fun k => k = p) w w') (hid (Look_any p m ho t past now n w h)) ?_
  unfold lookA takeA
  by_cases hz : ref4 m.last t past now n = 0
  · right
    simp only [hz, if_true]
    obtain ⟨⟨tn, pn, rfl, rfl, h1, h2, h3⟩, h4, h5, h6, h7⟩ := ref4_zero hz
    refine ⟨rfl, trivial, hid fun w1 hb => (fill_any p m ho tn pn h1 h2 h3 w1 (h.below hb h.lt)).mono ?_⟩
    rintro e w' ⟨rfl, ha, hw⟩
    exact ⟨rfl, ha, Wr.trans (Wr.ofBelow hb) hw⟩
  · left
    simp only [hz, if_false]
    exact ⟨by simpa using hz, trivial, hid fun w1 hb => ⟨h.below hb h.lt, Wr.ofBelow hb⟩⟩

set_option maxRecDepth 20000 in
set_option maxHeartbeats 1000000 in
theorem marks_core (p : Nat) (c s v g : Int) (w : World) (c0 : w.cell? ⟨p, 0, none⟩ = some (.int .i64 c)) (c1 : w.cell? ⟨p, 1, none⟩ = some (.int .i64 s))
    (HW : Hid (Ans 37 #[.agg #[.int .i64 c, .int .i64 s]] (.int .i64 v)))
    (HG : Hid (Ans 38 #[.agg #[.int .i64 c, .int .i64 s]] (.int .i64 g))) :
    Calls Try.prog 21 #[ptr p] w fun e w' => e = .returned (.tuple #[.int .i64 v, .int .i64 g]) ∧ Below w.heap.size w w' := by
  have kb : Below w.heap.size w w.drew := (Below.refl w.heap.size w).drew
  go_enter Try.func21, Try.ntmps21
  go_wp2_with fail
  go_region_held3 (fun w' => w'.cell? ⟨p, 0, none⟩ = some (.int .i64 c) ∧ w'.cell? ⟨p, 1, none⟩ = some (.int .i64 s)) (first | assumption | go_keep)
    (first
           | (go_at_call 38; refine (HG.out _).mono ?_; rintro e w3 ⟨rfl, hb3⟩
              have k0 : w3.cell? ⟨p, 0, none⟩ = some (.int .i64 c) := kc hb3 (by first | assumption | go_cell)
              have k1 : w3.cell? ⟨p, 1, none⟩ = some (.int .i64 s) := kc hb3 (by first | assumption | go_cell)
              have kb : Below w.heap.size w w3 := bl (by assumption) hb3)
           | (go_at_call 37; refine (HW.out _).mono ?_; rintro e w3 ⟨rfl, hb3⟩
              have k0 : w3.cell? ⟨p, 0, none⟩ = some (.int .i64 c) := kc hb3 (by first | assumption | go_cell)
              have k1 : w3.cell? ⟨p, 1, none⟩ = some (.int .i64 s) := kc hb3 (by first | assumption | go_cell)
              have kb : Below w.heap.size w w3 := bl (by assumption) hb3))
  all_goals
    go_wp2_with fail
    go_ret2
    exact ⟨rfl, by assumption⟩

theorem Marks_any (p : Nat) (m : Wm) (ho : m.Ok) (w : World) (h : At w p m) :
    Calls Try.prog 21 #[ptr p] w fun e w' => e = .returned (.tuple #[.int .i64 (wn m.G : Nat), .int .i64 (m.G : Nat)]) ∧ Below w.heap.size w w' := by
  have hg : m.s * m.c ≤ 4503599627370496 := by have := ho.g m; unfold Wm.G at this; omega
  exact marks_core p m.c m.s _ _ w h.cells.1 h.cells.2.1 (hid fun w => warning_any m.c m.s hg w) (hid fun w => greatest_any m.c m.s hg w)

set_option maxHeartbeats 400000 in
theorem Tokens_any (p : Nat) (m : Wm) (w : World) (h : At w p m) :
    Calls Try.prog 23 #[ptr p] w fun e w' => e = .returned (.int .i64 m.tok) ∧ w = w' := by
  obtain ⟨c0, c1, c2, -⟩ := h.cells
  clear h
  go_enter Try.func23, Try.ntmps23
  go_wp2
  go_ret
  exact ⟨rfl, rfl⟩

set_option maxHeartbeats 400000 in
theorem Last_any (p : Nat) (m : Wm) (w : World) (h : At w p m) :
    Calls Try.prog 27 #[ptr p] w fun e w' => e = .returned (.int .i64 m.last) ∧ w = w' := by
  obtain ⟨c0, c1, c2, c3, c4, c5, -⟩ := h.cells
  clear h
  go_enter Try.func27, Try.ntmps27
  go_wp2
  go_ret
  exact ⟨rfl, rfl⟩

set_option maxRecDepth 20000 in
set_option maxHeartbeats 1000000 in
theorem fork_core (p : Nat) (c s tok sec last : Int) (bg : Bool) (w : World)
    (c0 : w.cell? ⟨p, 0, none⟩ = some (.int .i64 c)) (c1 : w.cell? ⟨p, 1, none⟩ = some (.int .i64 s)) (c2 : w.cell? ⟨p, 2, none⟩ = some (.int .i64 tok)) (c3 : w.cell? ⟨p, 3, none⟩ = some (.int .i64 sec)) (c4 : w.cell? ⟨p, 4, none⟩ = some (.bool bg)) (c5 : w.cell? ⟨p, 5, none⟩ = some (.int .i64 last)) :
    Calls Try.prog 13 #[ptr p] w fun e w' => e = .returned (ptr w.heap.size) ∧ w'.heap[w.heap.size]? = some (.cells #[.int .i64 c, .int .i64 s, .int .i64 tok, .int .i64 sec, .bool bg, .int .i64 last] 72) ∧ Below w.heap.size w w' := by
  go_enter Try.func13, Try.ntmps13
  go_wp2_with fail
  go_ret
  exact ⟨rfl, heap_alloc_new _ _, (Below.refl _ _).alloc (Nat.le_refl _) _⟩

theorem Fork_any (p : Nat) (m : Wm) (w : World) (h : At w p m) :
    Calls Try.prog 13 #[ptr p] w fun e w' => e = .returned (ptr w.heap.size) ∧ At w' w.heap.size m ∧ Below w.heap.size w w' := by
  obtain ⟨c0, c1, c2, c3, c4, c5, -⟩ := h.cells
  exact fork_core p _ _ _ _ _ _ w c0 c1 c2 c3 c4 c5

set_option maxRecDepth 20000 in
set_option maxHeartbeats 1000000 in
theorem new_call (c s : Int) (w : World) (b1 b2 : Bool) (e1 : inW c 1 1099511627776 = b1) (e2 : inW s 1 3600 = b2) :
    Calls Try.prog 10 #[.int .i64 c, .int .i64 s] w fun e w' => (b1 = true ∧ b2 = true ∧ e = .returned (.tuple #[ptr w.heap.size, .int .i64 0]) ∧ w.alloc (.cells #[.int .i64 c, .int .i64 s, .int .i64 0, .int .i64 0, .bool false, .int .i64 0] 72) = w') ∨ ((b1 = false ∨ b2 = false) ∧ e = .returned (.tuple #[.pointer none, .int .i64 2]) ∧ w = w') := by
  have HA := hid (within_any c 1 1099511627776)
  have HB := hid (within_any s 1 3600)
  rw [e1] at HA
  rw [e2] at HB
  clear e1 e2
  go_enter Try.func10, Try.ntmps10
  cases b1 with
  | false =>
    go_wp2_with fail
    refine (HA.out _).mono ?_
    rintro e w1 ⟨rfl, rfl⟩
    go_wp2_with fail
    go_ret2
    exact ⟨rfl, rfl⟩
  | true =>
    go_wp2_with fail
    refine (HA.out _).mono ?_
    rintro e w1 ⟨rfl, rfl⟩
    go_wp2_with fail
    refine (HB.out _).mono ?_
    rintro e w1 ⟨rfl, rfl⟩
    cases b2 with
    | false =>
      go_wp2_with fail
      go_ret2
      exact ⟨rfl, rfl⟩
    | true =>
      go_wp2_with fail
      go_ret2
      exact ⟨rfl, rfl⟩

/-- whatever New says -/
theorem New_any (c s : Int) (w : World) :
    Calls Try.prog 10 #[.int .i64 c, .int .i64 s] w fun e w' =>
      (∃ cn sn : Nat, c = cn ∧ s = sn ∧ (fresh cn sn).Ok ∧ e = .returned (.tuple #[ptr w.heap.size, .int .i64 0]) ∧ At w' w.heap.size (fresh cn sn) ∧ Below w.heap.size w w') ∨
      ((inW c 1 1099511627776 && inW s 1 3600) = false ∧ e = .returned (.tuple #[.pointer none, .int .i64 2]) ∧ w = w') := by
  refine (new_call c s w _ _ rfl rfl).mono ?_
  rintro e w' (⟨h1, h2, rfl, rfl⟩ | ⟨h1, rfl, rfl⟩)
  · left
    rw [inW_iff] at h1 h2
    refine ⟨c.toNat, s.toNat, by omega, by omega, fresh_ok _ _ (by omega) (by omega) (by omega) (by omega), rfl, ?_, (Below.refl _ _).alloc (Nat.le_refl _) _⟩
    have := heap_alloc_new w (.cells (wv (fresh c.toNat s.toNat)) 72)
    unfold At
    rw [← this]
    unfold wv fresh
    rw [show ((c.toNat : Nat) : Int) = c by omega, show ((s.toNat : Nat) : Int) = s by omega]
    rfl
  · right
    refine ⟨?_, rfl, rfl⟩
    rcases h1 with h | h <;> rw [h] <;> simp

end Go.Proofs.Ytamofanfgdjmnaa.WrmJ
