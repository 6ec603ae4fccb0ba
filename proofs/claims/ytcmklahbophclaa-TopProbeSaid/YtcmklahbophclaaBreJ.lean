/- Breakers: the program's own keeps the contracts that the laws lean on. -/
import Derived.Test.YtcmklahbophclaaBreI
namespace Go.Proofs.Ytcmklahbophclaa.BreJ
set_option linter.unusedVariables false
open Go.ChangeShapes Go.WideShapes Go.ChangeAt Go.RowKit Base WinM WinA WinB WinC WinE WinH WinI WinK WinN BreP BreA BreV BreU BreW BreY BreZ BreI

theorem iv_mv {w w' : World} {p q : Nat} {go : Option Nat} {H : Nat → Prop} {B B' : Bk} (h2 : IsWin w q go B.win) (h3 : q ≠ p) (h4 : go ≠ some p) (h6 : ∀ k, H k ↔ (k = p ∨ k = q ∨ go = some k))
    (hl : Lets (fun k => k = p) w w') (hr : Row w' p q B') (hw : B'.win = B.win) (hp : Pu B') : Moved Iv w w' p H B' := by
  refine ⟨H, ⟨q, go, hr, ?_, h3, h4, hp, h6⟩, fun k hk => .inl hk, hl.mono fun k hk => (h6 k).2 (.inl hk)⟩
  rw [hw]
  exact h2.keep hl h3 (fun g hg e => by subst e; exact h4 hg)

theorem iv_same {w w' : World} {p : Nat} {H : Nat → Prop} {B : Bk} (h : Iv w p H B) (hb : Below w.heap.size w w') : Moved Iv w w' p H B :=
  ⟨H, iv_keep (R := fun _ => False) h (Lets.ofBelow hb) (fun _ _ h => h), fun k hk => .inl hk, Lets.ofBelow hb⟩

theorem here {w w' : World} {p : Nat} (h : Lets (fun k => k = p) w w') (i : Nat) (v : Value) : Lets (fun k => k = p) w (w'.setCell ⟨p, i, none⟩ v) := h.set ⟨p, i, none⟩ v (.inl rfl)

/-- the close of a breaker that stands at p -/
theorem close_is (p : Nat) (r : Rule) (hg : RuleGood r) (w : World) (a0 a1 a9 tr la : Value) (h : w.heap[p]? = some (.cells #[a0, a1, .string r.nm, .int .u8 r.g, .int .i64 r.count, .int .i64 r.slow, .int .i64 r.least, .int .i64 r.width, .int .i64 r.rcv, a9, tr, la] 84)) :
    Calls Try.prog 30 #[ptr p] w fun e w' => e = .returned (.tuple #[]) ∧ ∃ q, w.heap.size ≤ q ∧ q ≠ p ∧ w'.heap[p]? = some (.cells #[.int .u8 1, .int .i64 0, .string r.nm, .int .u8 r.g, .int .i64 r.count, .int .i64 r.slow, .int .i64 r.least, .int .i64 r.width, .int .i64 r.rcv, .pointer (some ⟨q, 0, none⟩), tr, la] 84) ∧ IsWin w' q none (freshW r) ∧ Lets (fun k => k = p) w w' := by
  have hp : p < w.heap.size := (Array.getElem?_eq_some_iff.1 h).1
  have h0 := hg.wid0
  have h1 := hg.wid1
  have hcell : ∀ i v, (#[a0, a1, .string r.nm, .int .u8 r.g, .int .i64 r.count, .int .i64 r.slow, .int .i64 r.least, .int .i64 r.width, .int .i64 r.rcv, a9, tr, la] : Array Value)[i]? = some v → w.cell? ⟨p, i, none⟩ = some v := fun i v hv => by simp [World.cell?, h, hv]
  have hfr : ∀ o, w.frozen? ⟨p, o, none⟩ = false := fun o => by simp [World.frozen?, h]
  refine (close_core p r.width.toNat w hp ⟨_, hcell 0 _ rfl⟩ ⟨_, hcell 1 _ rfl⟩ (by rw [show ((r.width.toNat : Nat) : Int) = r.width by omega]; exact hcell 7 _ rfl) ⟨_, hcell 9 _ rfl⟩ (hfr 0) (hfr 1) (hfr 9) (by omega) (by omega)).mono ?_
  rintro e w' ⟨rfl, w2, ha, hb, rfl⟩
  have hs2 : w.heap.size ≤ w2.heap.size := by have := hb.size; simpa using this
  have e2 := heap_setCell_same _ _ 1 _ _ (.int .i64 0) (heap_setCell_same _ _ 0 _ _ (.int .u8 1) h)
  have e3 := (hb.block p hp).trans e2
  have e4 := heap_setCell_same _ _ 9 _ _ (.pointer (some ⟨w.heap.size + 1, 0, none⟩)) e3
  refine ⟨rfl, w.heap.size + 1, Nat.le_succ _, by omega, ?_, ⟨by simp, .slice none 0 0, ?_, .inl ⟨rfl, rfl, rfl⟩⟩, ?_⟩
  · rw [e4]; simp
  · rw [heap_setCell_other _ _ _ _ (by show w.heap.size + 1 ≠ p; omega), ha]
    rfl
  · have l0 := ((Lets.refl (fun k => k = p) w).set ⟨p, 0, none⟩ (.int .u8 1) (.inl rfl)).set ⟨p, 1, none⟩ (.int .i64 0) (.inl rfl)
    have l1 : Lets (fun k => k = p) ((w.setCell ⟨p, 0, none⟩ (.int .u8 1)).setCell ⟨p, 1, none⟩ (.int .i64 0)) w2 := Lets.ofBelow (by simpa using hb)
    exact (l0.trans l1).set ⟨p, 9, none⟩ _ (.inl rfl)

theorem new_any (r : Rule) (w : World) (hs : r.nm.size ≤ maxLen) : Calls Try.prog 10 #[rv r] w fun e w' =>
    (∃ p H, e = .returned (.tuple #[ptr p, .int .i64 0]) ∧ BreR.refR r = 0 ∧ RuleGood r ∧ Iv w' p H (fresh r) ∧ (∀ k, H k → w.heap.size ≤ k) ∧ Below w.heap.size w w') ∨ (BreR.refR r ≠ 0 ∧ e = .returned (.tuple #[.pointer none, .int .i64 (BreR.refR r)]) ∧ Below w.heap.size w w') := by
  have hb := BreR.Break_any r hs
  refine (new_core r.nm r.g r.count r.slow r.least r.width r.rcv (BreR.refR r) w (fun v w' => (∃ p H, v = .tuple #[ptr p, .int .i64 0] ∧ BreR.refR r = 0 ∧ RuleGood r ∧ Iv w' p H (fresh r) ∧ (∀ k, H k → w.heap.size ≤ k) ∧ Below w.heap.size w w') ∨ (BreR.refR r ≠ 0 ∧ v = .tuple #[.pointer none, .int .i64 (BreR.refR r)] ∧ Below w.heap.size w w')) (hid hb) ?_).mono ?_
  · by_cases hz : BreR.refR r = 0
    · right
      refine ⟨hz, hid fun wx hx => ?_⟩
      have hg := BreR.good_of hz
      have hn := heap_alloc_new wx (.cells #[.int .u8 0, .int .i64 0, .string r.nm, .int .u8 r.g, .int .i64 r.count, .int .i64 r.slow, .int .i64 r.least, .int .i64 r.width, .int .i64 r.rcv, .pointer none, .int .i64 0, .int .i64 0] 84)
      refine (close_is wx.heap.size r hg _ _ _ _ _ _ hn).mono ?_
      rintro e w' ⟨rfl, q, hq, hqp, hrow, hwin, hl⟩
      have hsx : wx.heap.size < (wx.alloc (.cells #[.int .u8 0, .int .i64 0, .string r.nm, .int .u8 r.g, .int .i64 r.count, .int .i64 r.slow, .int .i64 r.least, .int .i64 r.width, .int .i64 r.rcv, .pointer none, .int .i64 0, .int .i64 0] 84)).heap.size := by simp
      have hx0 := hx.size
      refine ⟨rfl, .inl ⟨wx.heap.size, fun k => k = wx.heap.size ∨ k = q ∨ (none : Option Nat) = some k, rfl, hz, hg, ⟨q, none, hrow, hwin, hqp, by simp, fresh_pu r hg, fun k => Iff.rfl⟩, ?_, ?_⟩⟩
      · rintro k (rfl | rfl | h)
        · exact hx.size
        · omega
        · cases h
      · exact (hx.alloc hx.size _).trans (hl.below w.heap.size (by omega) (fun k e => by subst e; exact hx0))
    · exact .inl ⟨by simpa using hz, hid fun wx hx => .inr ⟨hz, rfl, hx⟩⟩
  · rintro e w' ⟨v, rfl, ⟨p, H, rfl, h⟩ | ⟨h1, rfl, h2⟩⟩
    · exact .inl ⟨p, H, rfl, h⟩
    · exact .inr ⟨h1, rfl, h2⟩

theorem look_any {w : World} {p : Nat} {H : Nat → Prop} {B : Bk} (t : Int) (h : Iv w p H B) : Calls Try.prog 22 #[ptr p, .int .i64 t] w fun e w' => e = .returned (.tuple #[.bool (goesB B t), .int .i64 (refT B t 0)]) ∧ Below w.heap.size w w' := by
  obtain ⟨q, go, h1, h2, h3, h4, h5, h6⟩ := h
  have hst := h5.ok.st
  refine look_core p t B.st B.til (refT B t 0) (passB B t) (goesB B t) w (h1.cell 0 _ rfl) (h1.cell 1 _ rfl) (hid (refuses_at p B t w (h1.cell 11 _ rfl))) (hid fun w => lets_core _ _ t _ w ?_) ?_
  · unfold passB
    rcases hst with e | e | e <;> rw [e]
    · exact .inl ⟨rfl, rfl⟩
    · exact .inr (.inl ⟨rfl, by simp⟩)
    · exact .inr (.inr ⟨rfl, rfl⟩)
  · unfold goesB
    by_cases hz : refT B t 0 = 0
    · exact .inr ⟨hz, by rw [decide_eq_true hz]; rfl⟩
    · exact .inl ⟨by simpa using hz, by rw [decide_eq_false hz]; rfl⟩

theorem enter_any {w : World} {p : Nat} {H : Nat → Prop} {B : Bk} (t : Int) (h : Iv w p H B) : Calls Try.prog 17 #[ptr p, .int .i64 t] w fun e w' => e = .returned (.tuple #[.bool (goesB B t), .bool (goesB B t && decide (B.st = 2)), .int .i64 (refT B t 0)]) ∧ Moved Iv w w' p H (enterB B t) := by
  have hI := h
  have hL := look_any t h
  obtain ⟨q, go, h1, h2, h3, h4, h5, h6⟩ := h
  have hpu := enter_pu h5 t
  refine enter_core p t (refT B t 0) B.st (goesB B t) (goesB B t && decide (B.st = 2)) w _ (h1.cell 0 _ rfl) ⟨_, h1.cell 11 _ rfl⟩ (h1.fr 0) (h1.fr 11) (hid hL) ?_
  by_cases hz : refT B t 0 = 0
  · right
    refine ⟨hz, ?_⟩
    obtain ⟨t0, t1, t2, -⟩ := refT_zero hz
    have et : ((t.toNat : Nat) : Int) = t := by omega
    have eg : goesB B t = passB B t := by unfold goesB; rw [decide_eq_true hz]; rfl
    rw [eg]
    by_cases hp : passB B t = true ∧ B.st = 2
    · right
      have e1 : enterB B t = { B with last := t.toNat, st := 3 } := by unfold enterB; rw [if_pos hz, if_pos hp]
      refine ⟨by rw [hp.1, hp.2]; rfl, hp.1, by rw [hp.2]; rfl, hid fun wx hx => ?_⟩
      rw [e1] at hpu ⊢
      refine iv_mv h2 h3 h4 h6 (here (here (Lets.ofBelow hx) 11 _) 0 _) ?_ rfl hpu
      exact ((h1.below hx).set 11 _ (B' := { B with last := t.toNat }) (q' := q) (by simp [BreZ.bv, et])).set 0 _ (by simp [BreZ.bv])
    · left
      have e1 : enterB B t = { B with last := t.toNat } := by unfold enterB; rw [if_pos hz, if_neg hp]
      refine ⟨?_, ?_, hid fun wx hx => ?_⟩
      · cases hb : passB B t
        · rfl
        · rw [decide_eq_false fun e => hp ⟨hb, e⟩]; rfl
      · cases hb : passB B t
        · exact .inl rfl
        · exact .inr ⟨rfl, by have : ¬ B.st = 2 := fun e => hp ⟨hb, e⟩; simp; omega⟩
      rw [e1] at hpu ⊢
      refine iv_mv h2 h3 h4 h6 (here (Lets.ofBelow hx) 11 _) ?_ rfl hpu
      exact (h1.below hx).set 11 _ (by simp [BreZ.bv, et])
  · left
    have eg : goesB B t = false := by unfold goesB; rw [decide_eq_false hz]; rfl
    have e1 : enterB B t = B := by unfold enterB; rw [if_neg hz]
    rw [eg, e1]
    exact ⟨by simpa using hz, rfl, rfl, hid fun wx hx => iv_same hI hx⟩

theorem give_any {w : World} {p : Nat} {H : Nat → Prop} {B : Bk} (t : Int) (h : Iv w p H B) : Calls Try.prog 19 #[ptr p, .int .i64 t] w fun e w' => e = .returned (.int .i64 (refG B t)) ∧ Moved Iv w w' p H (giveB B t) := by
  have hI := h
  obtain ⟨q, go, h1, h2, h3, h4, h5, h6⟩ := h
  have hpu := give_pu h5 t
  refine give_core p t (refT B t 0) B.st (refG B t) w _ (h1.cell 0 _ rfl) ⟨_, h1.cell 11 _ rfl⟩ (h1.fr 0) (h1.fr 11) (hid (refuses_at p B t w (h1.cell 11 _ rfl))) ?_
  have same : giveB B t = B → Moved Iv w w p H (giveB B t) := fun e => by rw [e]; exact iv_same hI (Below.refl _ _)
  by_cases hz : refT B t 0 = 0
  · right
    refine ⟨hz, ?_⟩
    obtain ⟨t0, t1, t2, -⟩ := refT_zero hz
    have et : ((t.toNat : Nat) : Int) = t := by omega
    by_cases hs : B.st = 3
    · right
      have eg : refG B t = 0 := by unfold refG; rw [if_pos hz, if_neg (by simpa using hs)]
      have e1 : giveB B t = { B with last := t.toNat, st := 2 } := by unfold giveB; rw [if_pos eg]
      refine ⟨by rw [hs]; rfl, eg, ?_⟩
      rw [e1] at hpu ⊢
      refine iv_mv h2 h3 h4 h6 (here (here (Lets.refl _ w) 11 _) 0 _) ?_ rfl hpu
      exact (h1.set 11 _ (B' := { B with last := t.toNat }) (q' := q) (by simp [BreZ.bv, et])).set 0 _ (by simp [BreZ.bv])
    · left
      have eg : refG B t = 4 := by unfold refG; rw [if_pos hz, if_pos hs]
      exact ⟨by simp; omega, eg, same (by unfold giveB; rw [eg]; rfl)⟩
  · left
    have eg : refG B t = refT B t 0 := by unfold refG; rw [if_neg hz]
    exact ⟨by simpa using hz, eg, same (by unfold giveB; rw [eg, if_neg hz])⟩

end Go.Proofs.Ytcmklahbophclaa.BreJ
