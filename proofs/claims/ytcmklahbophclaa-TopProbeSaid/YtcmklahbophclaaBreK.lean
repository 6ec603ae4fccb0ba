/- Breakers: the program's own: the end of an entry; all contracts. -/
import Derived.Test.YtcmklahbophclaaBreJ
namespace Go.Proofs.Ytcmklahbophclaa.BreK
set_option linter.unusedVariables false
open Go.ChangeShapes Go.WideShapes Go.ChangeAt Go.RowKit Base WinM WinA WinB WinC WinE WinH WinI WinK WinN BreP BreA BreV BreU BreW BreY BreZ BreI BreJ

theorem bad_is (r : Rule) (rt : Int) (f : Bool) (B : Bk) (hr : B.r = r) (w : World) :
    Calls Try.prog 40 #[.agg #[.string r.nm, .int .u8 r.g, .int .i64 r.count, .int .i64 r.slow, .int .i64 r.least, .int .i64 r.width, .int .i64 r.rcv], .int .i64 rt, .bool f] w fun e w' => e = .returned (.bool (badB B rt f)) ∧ Below w.heap.size w w' := by
  refine isBad_core r.nm r.g r.count r.slow r.least r.width r.rcv rt f _ w ?_
  unfold badB
  rw [hr]
  by_cases hg : r.g = 0
  · exact .inl ⟨hg, by rw [if_pos hg]⟩
  · exact .inr ⟨by simp; omega, by rw [if_neg hg]⟩

/-- the row with a trip -/
theorem trip_is {w wx : World} {p q : Nat} {B : Bk} (h : Row wx p q B) (hl : Lets (fun k => k = p) w wx) (t : Int) (t0 : 0 ≤ t) (t1 : t ≤ 1152921504606846976) (hg : RuleGood B.r) (hn : B.trips ≤ 10000000000000) :
    Calls Try.prog 41 #[ptr p, .int .i64 t] wx fun e w' => e = .returned (.tuple #[]) ∧ Row w' p q (tripB B t) ∧ Lets (fun k => k = p) w w' := by
  have r0 := hg.rcv0
  have r1 := hg.rcv1
  have eu : ((plusM t B.r.rcv : Nat) : Int) = t + B.r.rcv := by unfold BreP.plusM; omega
  refine (trip_core p t B.r.rcv (plusM t B.r.rcv : Nat) B.trips wx ⟨_, h.cell 0 _ rfl⟩ ⟨_, h.cell 1 _ rfl⟩ (h.cell 8 _ rfl) (h.cell 10 _ rfl) (h.fr 0) (h.fr 1) (h.fr 10) (by rw [eu]; unfold wrap64; omega) (by unfold wrap64; omega)).mono ?_
  rintro e w' ⟨rfl, rfl⟩
  refine ⟨rfl, ?_, here (here (here hl 0 _) 1 _) 10 _⟩
  exact ((h.set 0 _ (B' := { B with st := 2 }) (q' := q) (by simp [BreZ.bv])).set 1 _ (B' := { B with st := 2, til := plusM t B.r.rcv }) (q' := q) (by simp [BreZ.bv])).set 10 _ (by simp [BreZ.bv, tripB])

theorem broken_is {B : Bk} (hw : WOk B) (hg : RuleGood B.r) (hn : B.n ≤ 10000000000000) (t : Int) (w : World) :
    Calls Try.prog 67 #[.agg #[.string B.r.nm, .int .u8 B.r.g, .int .i64 B.r.count, .int .i64 B.r.slow, .int .i64 B.r.least, .int .i64 B.r.width, .int .i64 B.r.rcv], cv (winS B.win t)] w fun e w' => e = .returned (.bool (overB B.r (winS B.win t))) ∧ Below w.heap.size w w' := by
  have hs := winS_few hw hg hn t
  generalize winS B.win t = c at *
  obtain ⟨c1, c2, c3, c4, c5, c6⟩ := c
  obtain ⟨s1, s2, s3, s4⟩ := hs
  dsimp only at s1 s2 s3 s4
  have k0 := hg.cnt0
  have k1 := hg.cnt1
  refine isBroken_core B.r.nm B.r.g B.r.count B.r.slow B.r.least B.r.width B.r.rcv c1 c2 c3 c4 c5 c6 (c4 * 1000) (NumC.keep (B.r.count * c3)) _ w (hid ?_)
  unfold overB
  dsimp only
  by_cases h1 : c3 < B.r.least
  · exact .inl ⟨decide_eq_true h1, by rw [if_pos h1]⟩
  · refine .inr ⟨decide_eq_false h1, ?_⟩
    rw [if_neg h1]
    by_cases h2 : B.r.g = 2
    · exact .inl ⟨h2, by rw [if_pos h2]⟩
    · refine .inr ⟨by simp; omega, ?_⟩
      rw [if_neg h2]
      by_cases h3 : B.r.count = 1000
      · exact .inl ⟨h3, by rw [if_pos h3]; rfl⟩
      · refine .inr ⟨by simpa using h3, ?_, hid fun w => ?_, hid fun w => NumC.times_any _ _ (by unfold NumM.Fits; omega) (by unfold NumM.Fits; omega) w⟩
        · rw [if_neg h3, keep_cmp _ _ (Int.mul_nonneg k0 s3) (by omega), Int.mul_comm c3]
        · have := NumC.times_any 1000 c4 (by unfold NumM.Fits; omega) (by unfold NumM.Fits; omega) w
          rw [show NumC.keep (1000 * c4) = c4 * 1000 by unfold NumC.keep; rw [if_pos (by unfold NumM.Fits; omega)]; omega] at this
          exact this

theorem done_any {w : World} {p : Nat} {H : Nat → Prop} {B : Bk} (t rt : Int) (f pr : Bool) (h : Iv w p H B) (hn : (doneB B t rt f pr).n ≤ 10000000000000) : Calls Try.prog 18 #[ptr p, .int .i64 t, .int .i64 rt, .bool f, .bool pr] w fun e w' => e = .returned (.int .i64 (refD B t rt pr)) ∧ Moved Iv w w' p H (doneB B t rt f pr) := by
  have hI := h
  obtain ⟨q, go, h1, h2, h3, h4, h5, h6⟩ := h
  have hpu := done_pu h5 t rt f pr
  have hst := h5.ok.st
  have hlw : B.last = B.last := rfl
  have same : doneB B t rt f pr = B → ∀ wx, Below w.heap.size w wx → Moved Iv w wx p H (doneB B t rt f pr) := fun e wx hx => by rw [e]; exact iv_same hI hx
  refine done_core p q t rt (refT B t rt) (refD B t rt pr) B.st B.r.nm B.r.g B.r.count B.r.slow B.r.least B.r.width B.r.rcv f pr (badB B rt f) w _
    (fun wx => Row wx p q { B with last := t.toNat, n := B.n + 1 } ∧ Lets (fun k => k = p) w wx)
    (fun wx => ∃ go', Row wx p q { B with last := t.toNat, n := B.n + 1, win := winA B.win t (badB B rt f) } ∧ IsWin wx q go' (winA B.win t (badB B rt f)) ∧ go' ≠ some p ∧ (go' = go ∨ ∃ g, go' = some g ∧ w.heap.size ≤ g) ∧ Lets H w wx)
    (h1.cell 0 _ rfl) (h1.cell 2 _ rfl) (h1.cell 3 _ rfl) (h1.cell 4 _ rfl) (h1.cell 5 _ rfl) (h1.cell 6 _ rfl) (h1.cell 7 _ rfl) (h1.cell 8 _ rfl) ⟨_, h1.cell 11 _ rfl⟩ (h1.fr 11)
    (hid fun wx g hx hc => refuses_two p g B t rt wx ((h1.below hx).cell 11 _ rfl) hc) (hid fun wx => bad_is B.r rt f B rfl wx) (hid fun hz wx wy hx hy => ?_) (hid fun wx hx => ⟨hx.1.cell 0 _ rfl, hx.1.cell 9 _ rfl⟩) ?_
  · obtain ⟨t0, t1, t2, -⟩ := refT_zero hz
    have et : ((t.toNat : Nat) : Int) = t := by omega
    have e1 : Row (wx.setCell ⟨p, 11, none⟩ (.int .i64 t)) p q { B with last := t.toNat, n := B.n + 1 } := (h1.below hx).set 11 _ (by simp [BreZ.bv, et])
    have hy2 : Below (wx.setCell ⟨p, 11, none⟩ (.int .i64 t)).heap.size (wx.setCell ⟨p, 11, none⟩ (.int .i64 t)) wy := by simpa using hy
    exact ⟨e1.below hy2, (here (Lets.ofBelow hx) 11 _).trans (Lets.ofBelow hy2)⟩
  by_cases hz : refT B t rt = 0
  rotate_left
  · left
    have eg : refD B t rt pr = refT B t rt := by unfold refD; rw [if_neg hz]
    exact ⟨by simpa using hz, eg, hid (same (by unfold doneB; rw [eg, if_neg hz]))⟩
  right
  refine ⟨hz, ?_⟩
  obtain ⟨t0, t1, t2, -⟩ := refT_zero hz
  have et : ((t.toNat : Nat) : Int) = t := by omega
  by_cases h4d : pr = true ∧ B.st ≠ 3
  · left
    have eg : refD B t rt pr = 4 := by unfold refD; rw [if_pos hz, if_pos h4d]
    exact ⟨h4d.1, by have := h4d.2; simp; omega, eg, hid (same (by unfold doneB; rw [eg]; rfl))⟩
  right
  have eg : refD B t rt pr = 0 := by unfold refD; rw [if_pos hz, if_neg h4d]
  refine ⟨eg, ?_⟩
  have htr := h5.ok.tr
  have hn0 : B.n ≤ 10000000000000 := Nat.le_trans (doneB_n B t rt f pr).1 hn
  cases pr with
  | true =>
    left
    have hs3 : B.st = 3 := Decidable.byContradiction fun e => h4d ⟨rfl, e⟩
    refine ⟨rfl, by rw [hs3]; rfl, ?_⟩
    cases hb : badB B rt f with
    | true =>
      left
      have e1 : doneB B t rt f true = tripB { B with last := t.toNat, n := B.n + 1 } t := by unfold doneB; rw [if_pos eg, if_pos rfl, hb]; rfl
      refine ⟨rfl, hid fun wx hx => (trip_is hx.1 hx.2 t t0 t1 h5.good (by show B.trips ≤ _; omega)).mono fun e w' y => ⟨y.1, ?_⟩⟩
      rw [e1] at hpu ⊢
      exact iv_mv h2 h3 h4 h6 y.2.2 y.2.1 rfl hpu
    | false =>
      right
      have e1 : doneB B t rt f true = { B with last := t.toNat, n := B.n + 1, st := 1, til := 0, win := freshW B.r } := by unfold doneB; rw [if_pos eg, if_pos rfl, hb]; rfl
      refine ⟨rfl, hid fun wx hx => (close_is p B.r h5.good wx _ _ _ _ _ hx.1).mono ?_⟩
      rintro e w' ⟨rfl, q', g1, g2, g3, g4, g5⟩
      refine ⟨rfl, ?_⟩
      rw [e1] at hpu ⊢
      have hsz := hx.2.size
      refine ⟨fun k => k = p ∨ k = q' ∨ (none : Option Nat) = some k, ⟨q', none, g3, g4, g2, by simp, hpu, fun k => Iff.rfl⟩, ?_, ?_⟩
      · rintro k (rfl | rfl | h)
        · exact .inl ((h6 _).2 (.inl rfl))
        · exact .inr (by omega)
        · cases h
      · exact (hx.2.trans g5).mono fun k hk => (h6 k).2 (.inl hk)
  | false =>
    right
    refine ⟨rfl, ?_⟩
    by_cases hs1 : B.st = 1
    rotate_left
    · right
      refine ⟨by simp; omega, hid fun wx hx => ?_⟩
      have e1 : doneB B t rt f false = { B with last := t.toNat, n := B.n + 1 } := by unfold doneB; rw [if_pos eg, if_neg (by decide), if_neg hs1]
      rw [e1] at hpu ⊢
      exact iv_mv h2 h3 h4 h6 hx.2 hx.1 rfl hpu
    left
    refine ⟨by rw [hs1]; rfl, ?_, ?_⟩
    · refine hid fun wx hx => note_core q t _ wx _ (hid fun wz g hb g1 g2 g3 => ?_)
      have hlz : Lets (fun k => k = p) w wz := hx.2.trans (Lets.ofBelow hb)
      have hsz := hx.2.size
      have hqw := h2.lt
      have hwz : IsWin wz q go B.win := h2.keep hlz h3 (fun g hg e => by subst e; exact h4 hg)
      have hwid := h5.win.wid
      have hsiz := h5.win.siz
      obtain ⟨l, l1, l2, ht⟩ := h5.win.last
      have w0 := h5.good.wid0
      have w1 := h5.good.wid1
      have hadd := WinI.add_yes q go B.win B.win.width t.toNat (one (badB B rt f)) g 0 1 wz hwz (by rw [hsiz]; simp) (by omega) (by omega) (by omega) (by omega) (by rw [l1]; omega) (wok_fine h5.win) (by have := wok_len h5.win h5.good; omega) (one_right _) g3 g2 (by omega) (fun e => by have := h2.lt2 g e; omega)
      rw [et] at hadd
      refine hadd.mono ?_
      rintro e w' ⟨go', rfl, a1, a2, a3⟩
      have hpz : p < wz.heap.size := hlz.size |> Nat.lt_of_lt_of_le h1.lt
      have hrow : Row w' p q { B with last := t.toNat, n := B.n + 1 } := (hx.1.below hb).lets a3 (fun e => e.elim (fun e => h3 e.symm) (fun e => h4 e))
      refine ⟨rfl, go', hrow, a1, ?_, ?_, ?_⟩
      · rcases a2 with rfl | ⟨g', rfl, hg'⟩
        · exact h4
        · intro e; have := Option.some.inj e; omega
      · rcases a2 with rfl | ⟨g', rfl, hg'⟩
        · exact .inl rfl
        · exact .inr ⟨g', rfl, by have := hlz.size; omega⟩
      · exact (hlz.mono fun k hk => (h6 k).2 (.inl hk)).trans (a3.mono fun k hk => (h6 k).2 (.inr hk))
    · refine hid fun wx hy => ?_
      obtain ⟨go', y1, y2, y3, y4, y5⟩ := hy
      have hwk := wok_add h5.win h5.good t t2 (badB B rt f)
      have hwid : (winA B.win t (badB B rt f)).width = B.r.width.toNat := hwk.wid
      have hsiz := hwk.siz
      have w0 := h5.good.wid0
      have w1 := h5.good.wid1
      have hsum := sum_yes q go' (winA B.win t (badB B rt f)) (winA B.win t (badB B rt f)).width t.toNat wx y2 (by rw [show (winA B.win t (badB B rt f)).size = 1 from hsiz]; simp) (by omega) (by rw [show (winA B.win t (badB B rt f)).size = 1 from hsiz]; omega) (by omega) (by omega) (Int.le_refl _) (wok_fine hwk) (by have := wok_len hwk h5.good; exact Nat.le_trans this (by omega))
      rw [et] at hsum
      have e1 : doneB B t rt f false = countB { B with last := t.toNat, n := B.n + 1 } t (badB B rt f) := by unfold doneB; rw [if_pos eg, if_neg (by decide), if_pos hs1]
      have hn1 : B.n + 1 ≤ 10000000000000 := by
        rw [e1] at hn
        unfold countB at hn
        split at hn <;> exact hn
      have hbr := broken_is (B := { B with last := t.toNat, n := B.n + 1, win := winA B.win t (badB B rt f) }) hwk h5.good hn1 t
      have mv : ∀ (w' : World) (B' : Bk), Row w' p q B' → Lets (fun k => k = p) wx w' → B'.win = winA B.win t (badB B rt f) → Pu B' → Moved Iv w w' p H B' := fun w' B' b1 b2 b3 b4 => by
        refine ⟨fun k => k = p ∨ k = q ∨ go' = some k, ⟨q, go', b1, by rw [b3]; exact y2.keep b2 h3 (fun g hg e => by subst e; exact y3 hg), h3, y3, b4, fun k => Iff.rfl⟩, ?_, ?_⟩
        · rintro k (rfl | rfl | h)
          · exact .inl ((h6 _).2 (.inl rfl))
          · exact .inl ((h6 _).2 (.inr (.inl rfl)))
          · rcases y4 with rfl | ⟨g, rfl, hg⟩
            · exact .inl ((h6 _).2 (.inr (.inr h)))
            · exact .inr (by have := Option.some.inj h; omega)
        · exact y5.trans (b2.mono fun k hk => (h6 k).2 (.inl hk))
      rw [e1] at hpu ⊢
      unfold countB at hpu ⊢
      refine tripIf_core p q t B.r.nm B.r.g B.r.count B.r.slow B.r.least B.r.width B.r.rcv _ _ _ _ _ _ _ wx _ (y1.cell 2 _ rfl) (y1.cell 3 _ rfl) (y1.cell 4 _ rfl) (y1.cell 5 _ rfl) (y1.cell 6 _ rfl) (y1.cell 7 _ rfl) (y1.cell 8 _ rfl) (y1.cell 9 _ rfl) (hid hsum) (hid hbr) (hid fun hr wy hb => ?_) (hid fun hr wy hb => ?_)
      · rw [if_pos hr] at hpu ⊢
        refine (trip_is (w := wx) (y1.below hb) (Lets.ofBelow hb) t t0 t1 h5.good (by show B.trips ≤ _; omega)).mono fun e w' y => ⟨y.1, ?_⟩
        exact mv w' _ y.2.1 y.2.2 rfl hpu
      · have hr' : ¬ overB B.r (winS (winA B.win t (badB B rt f)) t) = true := by rw [hr]; decide
        rw [if_neg hr'] at hpu ⊢
        exact mv wy _ (y1.below hb) (Lets.ofBelow hb) rfl hpu

end Go.Proofs.Ytcmklahbophclaa.BreK
