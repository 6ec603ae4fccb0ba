/- The document's warm-up: Look, Take, Fork, New. -/
import Derived.Test.YtamofanfgdjmnaaWrrC
namespace Go.Proofs.Ytamofanfgdjmnaa.WrrD
set_option linter.unusedVariables false
open Go.ChangeShapes Go.WideShapes Go.ChangeAt Go.RowKit Base WrmP NumM NumC NumE NumA RefA RefB LawA WrmA WrmB WrmF WrmG WrmH WrmI WrmJ Wri WrrA WrrB WrrC

set_option maxRecDepth 20000 in
set_option maxHeartbeats 2000000 in
theorem rLook_core (p : Nat) (t past now n r e1 x q : Int) (y : Bool) (w : World)
    (HW : Hid (Calls Try.prog 45 #[ptr p, .int .i64 t, .slice (some ⟨w.heap.size, 0, none⟩) 2 2] (w.alloc (.cells #[.int .i64 past, .int .i64 now] 3)) fun e w' => e = .returned (.int .i64 r) ∧ Below w.heap.size w w'))
    (hr : (inW n 1 1099511627776 = false ∧ y = false ∧ q = 2) ∨ (inW n 1 1099511627776 = true ∧ ((r != 0) = true ∧ y = false ∧ q = r ∨ (r != 0) = false ∧ r = 0 ∧ q = 0 ∧ wrap64 (x - n) = x - n ∧ decide (now ≤ x - n) = y ∧
      Hid (∀ wx, Below w.heap.size w wx → Calls Try.prog 33 #[ptr p, .int .i64 t, .int .i64 past] wx fun e w' => e = .returned (.tuple #[.int .i64 x, .int .i64 e1]) ∧ Below wx.heap.size wx w')))) :
    Calls Try.prog 32 #[ptr p, .int .i64 t, .int .i64 past, .int .i64 now, .int .i64 n] w fun e w' => e = .returned (.tuple #[.bool y, .int .i64 q]) ∧ Below w.heap.size w w' := by
  rcases hr with ⟨hb, rfl, rfl⟩ | ⟨hb, hr⟩
  · have hn : n < 1 ∨ 1099511627776 < n := by
      by_cases h : 1 ≤ n ∧ n ≤ 1099511627776
      · rw [inW_iff.2 h] at hb; cases hb
      · omega
    clear hb
    by_cases h0 : n < 1
    · have d1 : decide (n < 1) = true := decide_eq_true h0
      clear hn
      go_enter Try.func32, Try.ntmps32
      go_wp2_with fail
      go_ret2
      exact ⟨rfl, Below.refl _ _⟩
    · have d1 : decide (n < 1) = false := decide_eq_false h0
      have d2 : decide (n > 1099511627776) = true := decide_eq_true (by omega)
      have d3 : decide (1099511627776 < n) = true := decide_eq_true (by omega)
      clear hn h0
      go_enter Try.func32, Try.ntmps32
      go_wp2_with fail
      go_ret2
      exact ⟨rfl, Below.refl _ _⟩
  · have hn := inW_iff.1 hb
    have d1 : decide (n < 1) = false := decide_eq_false (by omega)
    have d2 : decide (n > 1099511627776) = false := decide_eq_false (by omega)
    have d3 : decide (1099511627776 < n) = false := decide_eq_false (by omega)
    clear hb hn
    go_enter Try.func32, Try.ntmps32
    go_wp2_with fail
    refine HW.out.mono ?_
    rintro e w1 ⟨rfl, hb1⟩
    have HB1 := hid hb1
    clear hb1 HW d1 d2 d3
    rcases hr with ⟨h1, rfl, rfl⟩ | ⟨h1, rfl, rfl, e2, e3, HR⟩
    · go_wp2_with fail
      go_ret2
      exact ⟨rfl, HB1.out⟩
    · go_wp2_with fail
      refine (HR.out _ HB1.out).mono ?_
      rintro e w2 ⟨rfl, hb2⟩
      have HB2 := hid (bl HB1.out hb2)
      clear hb2 HB1 HR
      go_wp2_with fail
      go_ret2
      exact ⟨by first | rfl | (rw [← e3]; rfl), HB2.out⟩

theorem ref2_of4 {last : Nat} {t past now n : Int} (hz : ref4 last t past now n = 0) : ref2 last t past = 0 := by
  obtain ⟨⟨tn, pn, rfl, rfl, h1, h2, h3⟩, _⟩ := ref4_zero hz
  have a : inW (tn : Int) 0 1152921504606846976 = true := inW_iff.2 ⟨by omega, by omega⟩
  have b : inW (pn : Int) 0 4611686018427387904 = true := inW_iff.2 ⟨by omega, by omega⟩
  unfold ref2
  rw [a, b, Bool.and_self, if_pos rfl, if_neg (by omega)]

theorem RLook_any (p : Nat) (m : Wm) (ho : m.Ok) (t past now n : Int) (w : World) (h : RAt w p m) :
    Calls Try.prog 32 #[ptr p, .int .i64 t, .int .i64 past, .int .i64 now, .int .i64 n] w fun e w' => e = .returned (.tuple #[.bool (lookA m t past now n), .int .i64 (ref4 m.last t past now n)]) ∧ Below w.heap.size w w' := by
  refine rLook_core p t past now n _ (ref2 m.last t past) (rateA m t past) _ _ w (hid (wrong_two p m t past now w h)) ?_
  unfold lookA
  cases hb : inW n 1 1099511627776 with
  | false =>
    left
    have hz : ref4 m.last t past now n = 2 := by unfold ref4 WrmG.ask; rw [hb]; simp
    rw [hz]
    exact ⟨rfl, by simp, rfl⟩
  | true =>
    right
    refine ⟨rfl, ?_⟩
    have hq : ref4 m.last t past now n = (if inW t 0 1152921504606846976 && (inW past 0 4611686018427387904 && inW now 0 4611686018427387904) then (if t < m.last then 7 else 0) else 2) := by
      unfold ref4 WrmG.ask; rw [hb, Bool.and_true, Bool.and_assoc]
    rw [← hq]
    by_cases hz : ref4 m.last t past now n = 0
    · right
      have hz2 := ref2_of4 hz
      obtain ⟨⟨tn, pn, rfl, rfl, h1, h2, h3⟩, h4, h5, h6, h7⟩ := ref4_zero hz
      have hx : rateA m (tn : Int) (pn : Int) = (Wm.next m tn pn : Nat) := by unfold rateA; rw [if_pos hz2]; simp
      have hc2 := ho.c2
      have hle : Wm.next m tn pn ≤ m.c := rate_le _ _ _ ho.c1
      refine ⟨by rw [hz]; rfl, hz, hz, (wrap_is (by rw [hx]; omega) (by rw [hx]; omega)).1, ?_, hid fun wx hwx => RRate_any p m ho _ _ wx (h.below hwx h.lt)⟩
      rw [if_pos hz, hx]
      simp only [Int.toNat_natCast]
      rw [decide_eq_decide]
      omega
    · left
      rw [if_neg hz]
      exact ⟨by simpa using hz, rfl, rfl⟩

set_option maxRecDepth 20000 in
set_option maxHeartbeats 1000000 in
theorem rTake_core (p : Nat) (t past now n r : Int) (x : Bool) (w : World) (Q : World → Prop)
    (HL : Hid (Calls Try.prog 32 #[ptr p, .int .i64 t, .int .i64 past, .int .i64 now, .int .i64 n] w fun e w' => e = .returned (.tuple #[.bool x, .int .i64 r]) ∧ Below w.heap.size w w'))
    (hr : ((r == 0) = false ∧ Hid (∀ w1, Below w.heap.size w w1 → Q w1)) ∨ ((r == 0) = true ∧ Hid (∀ w1, Below w.heap.size w w1 → Calls Try.prog 30 #[ptr p, .int .i64 t, .int .i64 past] w1 fun e w' => (∃ v, e = .returned v) ∧ Q w'))) :
    Calls Try.prog 31 #[ptr p, .int .i64 t, .int .i64 past, .int .i64 now, .int .i64 n] w fun e w' => e = .returned (.tuple #[.bool x, .int .i64 r]) ∧ Q w' := by
  go_enter Try.func31, Try.ntmps31
  go_wp2_with fail
  refine HL.out.mono ?_
  rintro e w1 ⟨rfl, hb1⟩
  rcases hr with ⟨h1, HQ⟩ | ⟨h1, HB⟩
  · have H := hid (HQ.out w1 hb1)
    clear hb1
    go_wp2_with fail
    go_ret2
    exact ⟨rfl, H.out⟩
  · have H := hid (HB.out w1 hb1)
    clear hb1 HB
    go_wp2_with fail
    refine H.out.mono ?_
    rintro e w2 ⟨⟨v, rfl⟩, hq⟩
    have HQ := hid hq
    clear hq H
    go_wp2_with fail
    go_ret2
    exact ⟨rfl, HQ.out⟩

theorem RTake_any (p : Nat) (m : Wm) (ho : m.Ok) (t past now n : Int) (w : World) (h : RAt w p m) :
    Calls Try.prog 31 #[ptr p, .int .i64 t, .int .i64 past, .int .i64 now, .int .i64 n] w fun e w' => e = .returned (.tuple #[.bool (lookA m t past now n), .int .i64 (ref4 m.last t past now n)]) ∧ RAt w' p (takeA m t past now n) ∧ Wr (fun k => k = p) w w' := by
  refine rTake_core p t past now n _ _ w (fun w' => RAt w' p (takeA m t past now n) ∧ Wr (fun k => k = p) w w') (hid (RLook_any p m ho t past now n w h)) ?_
  unfold takeA
  by_cases hz : ref4 m.last t past now n = 0
  · right
    refine ⟨by rw [hz]; rfl, hid fun w1 hb => ?_⟩
    have hz2 := ref2_of4 hz
    refine (RFill_any p m ho t past w1 (h.below hb h.lt)).mono ?_
    rintro e w' ⟨rfl, ha, hw⟩
    unfold fillA at ha
    rw [if_pos hz2] at ha
    rw [if_pos hz]
    exact ⟨⟨_, rfl⟩, ha, (Wr.ofBelow hb).trans hw⟩
  · left
    refine ⟨by simpa using hz, hid fun w1 hb => ?_⟩
    rw [if_neg hz]
    exact ⟨h.below hb h.lt, Wr.ofBelow hb⟩

theorem rFork_core (p : Nat) (c s tok f last : Int) (w : World)
    (c0 : w.cell? ⟨p, 0, none⟩ = some (.int .i64 c)) (c1 : w.cell? ⟨p, 1, none⟩ = some (.int .i64 s)) (c2 : w.cell? ⟨p, 2, none⟩ = some (.int .i64 tok)) (c3 : w.cell? ⟨p, 3, none⟩ = some (.int .i64 f)) (c4 : w.cell? ⟨p, 4, none⟩ = some (.int .i64 last)) :
    Calls Try.prog 14 #[ptr p] w fun e w' => e = .returned (ptr w.heap.size) ∧ w'.heap[w.heap.size]? = some (.cells #[.int .i64 c, .int .i64 s, .int .i64 tok, .int .i64 f, .int .i64 last] 74) ∧ Below w.heap.size w w' := by
  go_enter Try.func14, Try.ntmps14
  go_wp2_with fail
  go_ret
  exact ⟨rfl, heap_alloc_new _ _, (Below.refl _ _).alloc (Nat.le_refl _) _⟩

theorem RFork_any (p : Nat) (m : Wm) (w : World) (h : RAt w p m) :
    Calls Try.prog 14 #[ptr p] w fun e w' => e = .returned (ptr w.heap.size) ∧ RAt w' w.heap.size m ∧ Below w.heap.size w w' := by
  obtain ⟨c0, c1, c2, c3, c4, -⟩ := h.cells
  exact rFork_core p _ _ _ _ _ w c0 c1 c2 c3 c4

set_option maxRecDepth 20000 in
set_option maxHeartbeats 1000000 in
theorem rNew_call (c s : Int) (w : World) (b1 b2 : Bool) (e1 : inW c 1 1099511627776 = b1) (e2 : inW s 1 3600 = b2) :
    Calls Try.prog 11 #[.int .i64 c, .int .i64 s] w fun e w' => (b1 = true ∧ b2 = true ∧ e = .returned (.tuple #[ptr w.heap.size, .int .i64 0]) ∧ w.alloc (.cells #[.int .i64 c, .int .i64 s, .int .i64 0, .int .i64 (-1), .int .i64 0] 74) = w') ∨ ((b1 = false ∨ b2 = false) ∧ e = .returned (.tuple #[.pointer none, .int .i64 2]) ∧ w = w') := by
  unfold inW at e1 e2
  have d1 : decide (c < 1) = !decide (1 ≤ c) := by rw [Bool.eq_iff_iff]; simp
  have d2 : decide (c > 1099511627776) = !decide (c ≤ 1099511627776) := by rw [Bool.eq_iff_iff]; simp
  have d3 : decide (s < 1) = !decide (1 ≤ s) := by rw [Bool.eq_iff_iff]; simp
  have d4 : decide (s > 3600) = !decide (s ≤ 3600) := by rw [Bool.eq_iff_iff]; simp
  have d2' : decide (1099511627776 < c) = !decide (c ≤ 1099511627776) := by rw [Bool.eq_iff_iff]; simp
  have d4' : decide (3600 < s) = !decide (s ≤ 3600) := by rw [Bool.eq_iff_iff]; simp
  generalize decide (1 ≤ c) = x1 at *
  generalize decide (c ≤ 1099511627776) = x2 at *
  generalize decide (1 ≤ s) = x3 at *
  generalize decide (s ≤ 3600) = x4 at *
  subst e1 e2
  cases x1 <;> cases x2 <;> cases x3 <;> cases x4 <;> (
    go_enter Try.func11, Try.ntmps11
    go_wp2_with fail
    go_ret2
    first
      | exact .inr ⟨by simp, rfl, rfl⟩
      | exact .inl ⟨rfl, rfl, rfl, rfl⟩
      | exact ⟨rfl, rfl⟩)

theorem RNew_any (c s : Int) (w : World) :
    Calls Try.prog 11 #[.int .i64 c, .int .i64 s] w fun e w' =>
      (∃ cn sn : Nat, c = cn ∧ s = sn ∧ (fresh cn sn).Ok ∧ e = .returned (.tuple #[ptr w.heap.size, .int .i64 0]) ∧ RAt w' w.heap.size (fresh cn sn) ∧ Below w.heap.size w w') ∨
      ((inW c 1 1099511627776 && inW s 1 3600) = false ∧ e = .returned (.tuple #[.pointer none, .int .i64 2]) ∧ w = w') := by
  refine (rNew_call c s w _ _ rfl rfl).mono ?_
  rintro e w' (⟨h1, h2, rfl, rfl⟩ | ⟨h1, rfl, rfl⟩)
  · left
    rw [inW_iff] at h1 h2
    refine ⟨c.toNat, s.toNat, by omega, by omega, fresh_ok _ _ (by omega) (by omega) (by omega) (by omega), rfl, ?_, (Below.refl _ _).alloc (Nat.le_refl _) _⟩
    have := heap_alloc_new w (.cells (rv (fresh c.toNat s.toNat)) 74)
    unfold RAt
    rw [← this]
    unfold rv fresh seenZ
    rw [show ((c.toNat : Nat) : Int) = c by omega, show ((s.toNat : Nat) : Int) = s by omega]
    rfl
  · right
    refine ⟨?_, rfl, rfl⟩
    rcases h1 with h | h <;> rw [h] <;> simp

end Go.Proofs.Ytamofanfgdjmnaa.WrrD
