/- Rows of buckets; forget's closure; IndexFunc and DeleteFunc over buckets. -/
import Derived.Test.YtnloedhcginopaaWinB
import Derived.Test.YtnloedhcginopaaWldG
import Derived.Lib.SliceRun
namespace Go.Proofs.Ytnloedhcginopaa.WinC
open Go.ChangeShapes Go.WideShapes Go.ChangeAt Go.RowKit Base WinM WinA WinB WldF

structure Bkt where
  at_ : Int
  c : Cnt

/-- the cells of a bucket -/
def bv (b : Bkt) : List Value := [.int .i64 b.at_, .int .i64 b.c.pass, .int .i64 b.c.block, .int .i64 b.c.done, .int .i64 b.c.errs, .int .i64 b.c.rt, .int .i64 b.c.low]

/-- block g is a row of buckets, with room for cap of them; the first n are told by f -/
def IsBk (w : World) (g cap n : Nat) (f : Nat → Bkt) : Prop :=
  ∃ cur, w.heap[g]? = some (.cells cur 115) ∧ cur.size = cap * 7 ∧ n ≤ cap ∧ cap ≤ maxLen ∧ ∀ i, i < n → ∀ j, j < 7 → cur[i * 7 + j]? = (bv (f i))[j]?

theorem IsBk.of_block {w w' : World} {g cap n : Nat} {f : Nat → Bkt} (h : IsBk w g cap n f) (e : w'.heap[g]? = w.heap[g]?) : IsBk w' g cap n f := by
  obtain ⟨cur, h1, h2⟩ := h
  exact ⟨cur, e.trans h1, h2⟩
theorem IsBk.lt {w : World} {g cap n : Nat} {f : Nat → Bkt} (h : IsBk w g cap n f) : g < w.heap.size := by
  obtain ⟨cur, h1, _⟩ := h
  exact (Array.getElem?_eq_some_iff.1 h1).1
theorem IsBk.below {w w' : World} {B g cap n : Nat} {f : Nat → Bkt} (h : IsBk w g cap n f) (hb : Below B w w') (hg : g < B) : IsBk w' g cap n f := h.of_block (hb.block g hg)
theorem IsBk.le {w : World} {g cap n : Nat} {f : Nat → Bkt} (h : IsBk w g cap n f) : n ≤ cap ∧ cap ≤ maxLen := by
  obtain ⟨_, _, _, h1, h2, _⟩ := h
  exact ⟨h1, h2⟩

theorem IsBk.cell {w : World} {g cap n : Nat} {f : Nat → Bkt} (h : IsBk w g cap n f) (i : Nat) (hi : i < n) (j : Nat) (hj : j < 7) (v : Value) (hv : (bv (f i))[j]? = some v) : w.cell? ⟨g, i * 7 + j, none⟩ = some v := by
  obtain ⟨cur, h1, _, _, _, h5⟩ := h
  have := h5 i hi j hj
  rw [hv] at this
  simp [World.cell?, h1, this]
theorem IsBk.frozen {w : World} {g cap n : Nat} {f : Nat → Bkt} (h : IsBk w g cap n f) (o : Nat) : w.frozen? ⟨g, o, none⟩ = false := by
  obtain ⟨cur, h1, _⟩ := h
  simp [World.frozen?, h1]
theorem IsBk.there {w : World} {g cap n : Nat} {f : Nat → Bkt} (h : IsBk w g cap n f) (o : Nat) (ho : o < cap * 7) : (w.cell? ⟨g, o, none⟩).isSome = true := by
  obtain ⟨cur, h1, h2, _⟩ := h
  simp [World.cell?, h1, h2, ho]
theorem IsBk.at6 {w : World} {g cap n : Nat} {f : Nat → Bkt} (h : IsBk w g cap n f) (i : Nat) (hi : i < n) : w.cell? ⟨g, i * 7, none⟩ = some (.int .i64 (f i).at_) ∧ At6 w g (i * 7 + 1) (f i).c :=
  ⟨h.cell i hi 0 (by omega) _ rfl, h.cell i hi 1 (by omega) _ rfl, h.cell i hi 2 (by omega) _ rfl, h.cell i hi 3 (by omega) _ rfl, h.cell i hi 4 (by omega) _ rfl, h.cell i hi 5 (by omega) _ rfl, h.cell i hi 6 (by omega) _ rfl⟩
theorem IsBk.less {w : World} {g cap n m : Nat} {f : Nat → Bkt} (h : IsBk w g cap n f) (hm : m ≤ n) : IsBk w g cap m f := by
  obtain ⟨cur, h1, h2, h3, h4, h5⟩ := h
  exact ⟨cur, h1, h2, by omega, h4, fun i hi => h5 i (by omega)⟩
theorem IsBk.congr {w : World} {g cap n : Nat} {f f' : Nat → Bkt} (h : IsBk w g cap n f) (e : ∀ i, i < n → f i = f' i) : IsBk w g cap n f' := by
  obtain ⟨cur, h1, h2, h3, h4, h5⟩ := h
  exact ⟨cur, h1, h2, h3, h4, fun i hi j hj => by rw [← e i hi]; exact h5 i hi j hj⟩

/-- one cell written in the row, past its first n -/
theorem IsBk.set_past {w : World} {g cap n : Nat} {f : Nat → Bkt} (h : IsBk w g cap n f) (o : Nat) (ho : n * 7 ≤ o) (v : Value) : IsBk (w.setCell ⟨g, o, none⟩ v) g cap n f := by
  obtain ⟨cur, h1, h2, h3, h4, h5⟩ := h
  refine ⟨cur.setIfInBounds o v, heap_setCell_same w g o cur _ v h1, by simpa using h2, h3, h4, fun i hi j hj => ?_⟩
  rw [Array.getElem?_setIfInBounds_ne (by omega)]
  exact h5 i hi j hj

theorem IsBk.sets_past {g cap n : Nat} {f : Nat → Bkt} : ∀ (vs : List Value) (w : World) (o : Nat), IsBk w g cap n f → n * 7 ≤ o → IsBk (w.setCells g o vs) g cap n f
  | [], _, _, h, _ => h
  | v :: vs, w, o, h, ho => by
    show IsBk ((w.setCell ⟨g, o, none⟩ v).setCells g (o + 1) vs) g cap n f
    exact IsBk.sets_past vs _ _ (h.set_past o ho v) (by omega)

/-- a bucket's cells laid one by one -/
def put7 (w : World) (g o : Nat) (b : Bkt) : World :=
  ((((((w.setCell ⟨g, o, none⟩ (.int .i64 b.at_)).setCell ⟨g, o + 1, none⟩ (.int .i64 b.c.pass)).setCell ⟨g, o + 2, none⟩ (.int .i64 b.c.block)).setCell ⟨g, o + 3, none⟩ (.int .i64 b.c.done)).setCell ⟨g, o + 4, none⟩ (.int .i64 b.c.errs)).setCell ⟨g, o + 5, none⟩ (.int .i64 b.c.rt)).setCell ⟨g, o + 6, none⟩ (.int .i64 b.c.low)
def put6 (w : World) (g o : Nat) (c : Cnt) : World :=
  (((((w.setCell ⟨g, o, none⟩ (.int .i64 c.pass)).setCell ⟨g, o + 1, none⟩ (.int .i64 c.block)).setCell ⟨g, o + 2, none⟩ (.int .i64 c.done)).setCell ⟨g, o + 3, none⟩ (.int .i64 c.errs)).setCell ⟨g, o + 4, none⟩ (.int .i64 c.rt)).setCell ⟨g, o + 5, none⟩ (.int .i64 c.low)

theorem IsBk.put7 {w : World} {g cap n : Nat} {f : Nat → Bkt} (h : IsBk w g cap n f) (i : Nat) (hi : i < n) (b : Bkt) : IsBk (put7 w g (i * 7) b) g cap n (fun k => if k = i then b else f k) := by
  obtain ⟨cur, h1, h2, h3, h4, h5⟩ := h
  have hz : i * 7 + 7 ≤ cur.size := by omega
  refine ⟨((((((cur.setIfInBounds (i * 7) (.int .i64 b.at_)).setIfInBounds (i * 7 + 1) (.int .i64 b.c.pass)).setIfInBounds (i * 7 + 2) (.int .i64 b.c.block)).setIfInBounds (i * 7 + 3) (.int .i64 b.c.done)).setIfInBounds (i * 7 + 4) (.int .i64 b.c.errs)).setIfInBounds (i * 7 + 5) (.int .i64 b.c.rt)).setIfInBounds (i * 7 + 6) (.int .i64 b.c.low), ?_, by simpa using h2, h3, h4, ?_⟩
  · unfold WinC.put7
    exact heap_setCell_same _ _ _ _ _ _ (heap_setCell_same _ _ _ _ _ _ (heap_setCell_same _ _ _ _ _ _ (heap_setCell_same _ _ _ _ _ _ (heap_setCell_same _ _ _ _ _ _ (heap_setCell_same _ _ _ _ _ _ (heap_setCell_same _ _ _ _ _ _ h1))))))
  · intro k hk j hj
    by_cases e : k = i
    · subst e
      dsimp only
      rw [if_pos rfl]
      match j, hj with
      | 0, _ => simp [Array.getElem?_setIfInBounds, bv]; omega
      | 1, _ => simp [Array.getElem?_setIfInBounds, bv]; omega
      | 2, _ => simp [Array.getElem?_setIfInBounds, bv]; omega
      | 3, _ => simp [Array.getElem?_setIfInBounds, bv]; omega
      | 4, _ => simp [Array.getElem?_setIfInBounds, bv]; omega
      | 5, _ => simp [Array.getElem?_setIfInBounds, bv]; omega
      | 6, _ => simp [Array.getElem?_setIfInBounds, bv]; omega
    · dsimp only
      rw [if_neg e, ← h5 k hk j hj]
      rw [Array.getElem?_setIfInBounds_ne (by omega), Array.getElem?_setIfInBounds_ne (by omega), Array.getElem?_setIfInBounds_ne (by omega), Array.getElem?_setIfInBounds_ne (by omega), Array.getElem?_setIfInBounds_ne (by omega), Array.getElem?_setIfInBounds_ne (by omega), Array.getElem?_setIfInBounds_ne (by omega)]

theorem IsBk.put6 {w : World} {g cap n : Nat} {f : Nat → Bkt} (h : IsBk w g cap n f) (i : Nat) (hi : i < n) (c : Cnt) : IsBk (put6 w g (i * 7 + 1) c) g cap n (fun k => if k = i then ⟨(f i).at_, c⟩ else f k) := by
  obtain ⟨cur, h1, h2, h3, h4, h5⟩ := h
  have hz : i * 7 + 7 ≤ cur.size := by omega
  refine ⟨(((((cur.setIfInBounds (i * 7 + 1) (.int .i64 c.pass)).setIfInBounds (i * 7 + 1 + 1) (.int .i64 c.block)).setIfInBounds (i * 7 + 1 + 2) (.int .i64 c.done)).setIfInBounds (i * 7 + 1 + 3) (.int .i64 c.errs)).setIfInBounds (i * 7 + 1 + 4) (.int .i64 c.rt)).setIfInBounds (i * 7 + 1 + 5) (.int .i64 c.low), ?_, by simpa using h2, h3, h4, ?_⟩
  · unfold WinC.put6
    exact heap_setCell_same _ _ _ _ _ _ (heap_setCell_same _ _ _ _ _ _ (heap_setCell_same _ _ _ _ _ _ (heap_setCell_same _ _ _ _ _ _ (heap_setCell_same _ _ _ _ _ _ (heap_setCell_same _ _ _ _ _ _ h1)))))
  · intro k hk j hj
    by_cases e : k = i
    · subst e
      dsimp only
      rw [if_pos rfl]
      match j, hj with
      | 0, _ =>
        rw [Array.getElem?_setIfInBounds_ne (by omega), Array.getElem?_setIfInBounds_ne (by omega), Array.getElem?_setIfInBounds_ne (by omega), Array.getElem?_setIfInBounds_ne (by omega), Array.getElem?_setIfInBounds_ne (by omega), Array.getElem?_setIfInBounds_ne (by omega)]
        exact h5 k hk 0 (by omega)
      | 1, _ => simp [Array.getElem?_setIfInBounds, bv]; omega
      | 2, _ => simp [Array.getElem?_setIfInBounds, bv]; omega
      | 3, _ => simp [Array.getElem?_setIfInBounds, bv]; omega
      | 4, _ => simp [Array.getElem?_setIfInBounds, bv]; omega
      | 5, _ => simp [Array.getElem?_setIfInBounds, bv]; omega
      | 6, _ => simp [Array.getElem?_setIfInBounds, bv]; omega
    · dsimp only
      rw [if_neg e, ← h5 k hk j hj]
      rw [Array.getElem?_setIfInBounds_ne (by omega), Array.getElem?_setIfInBounds_ne (by omega), Array.getElem?_setIfInBounds_ne (by omega), Array.getElem?_setIfInBounds_ne (by omega), Array.getElem?_setIfInBounds_ne (by omega), Array.getElem?_setIfInBounds_ne (by omega)]

set_option maxHeartbeats 400000 in
theorem forget1_any (a0 a1 a2 a3 a4 a5 a6 lim : Int) (F : Nat) (w : World) (hF : F < w.heap.size) (h : w.cell? ⟨F, 0, none⟩ = some (.int .i64 lim)) :
    Calls Try.prog 93 #[.agg #[.int .i64 a0, .int .i64 a1, .int .i64 a2, .int .i64 a3, .int .i64 a4, .int .i64 a5, .int .i64 a6], .pointer (some ⟨F, 0, none⟩)] w fun e w' => e = .returned (.bool (decide (a0 < lim))) ∧ Below w.heap.size w w' := by
  go_enter Try.func93, Try.ntmps93
  go_wp2
  go_ret
  exact ⟨rfl, (by repeat (first | (with_reducible exact Below.refl _ _) | (with_reducible refine Below.setCell ?_ (by first | (simp; done) | (simp; omega) | omega) _) | (with_reducible refine Below.alloc ?_ (by first | (simp; done) | (simp; omega) | omega) _) | (with_reducible refine Below.drew ?_) | (with_reducible refine below_drewN ?_ _)))⟩

set_option maxRecDepth 20000 in
set_option maxHeartbeats 1000000 in
theorem indexBk (g cap n c F : Nat) (f : Nat → Bkt) (lim : Int) (w : World) (hn : n ≤ 9223372036854775807) (hF : F < w.heap.size) (hl : w.cell? ⟨F, 0, none⟩ = some (.int .i64 lim)) (HB : Hid (IsBk w g cap n f)) :
    Calls Try.prog 98 #[.slice (some ⟨g, 0, none⟩) n c, .func (Fn.func 93) #[] #[.pointer (some ⟨F, 0, none⟩)]] w
      fun e w' => Below w.heap.size w w' ∧ ((∃ k : Nat, k < n ∧ e = .returned (.int .i64 k) ∧ (f k).at_ < lim ∧ ∀ i, i < k → lim ≤ (f i).at_) ∨ (e = .returned (.int .i64 (-1)) ∧ ∀ i, i < n → lim ≤ (f i).at_)) := by
  have HL := hid hl
  have HG := HB.out.lt
  go_enter Try.func98, Try.ntmps98
  go_wp2
  go_loopw [8] (fun i wr => ∃ k : Nat, k ≤ n ∧ i = .int .i64 k ∧ Below w.heap.size w wr ∧ ∀ i, i < k → lim ≤ (f i).at_) (fun i _ => n - (intOf i).toNat)
  case atStart => exact ⟨0, Nat.zero_le _, rfl, Below.refl _ _, fun i hi => by omega⟩
  case round =>
    obtain ⟨k, hk, rfl, hbel, hno⟩ := hrel
    have HBel := hid hbel
    have HNo := hid hno
    clear hno hl
    by_cases hlt : k < n
    · obtain ⟨c0, c1, c2, c3, c4, c5, c6⟩ := (HB.out.below hbel HG).at6 k hlt
      have hs := hbel.size
      have hl2 : wr.cell? ⟨F, 0, none⟩ = some (.int .i64 lim) := (hbel.cell (p := ⟨F, 0, none⟩) hF).trans HL.out
      clear hbel
      by_cases hq : (f k).at_ < lim
      · have HQ := hid hq
        have hd : decide ((f k).at_ < lim) = true := by simpa using hq
        clear hq
        go_wp2_with fail
        refine (forget1_any _ _ _ _ _ _ _ lim F _ (by omega) hl2).mono ?_
        rintro e w2 ⟨rfl, hb2⟩
        have HB2 : Hid (Below w.heap.size w w2) := hid (HBel.out.trans (hb2.mono hs))
        clear hb2 c0 c1 c2 c3 c4 c5 c6
        go_wp2
        go_ret
        exact ⟨HB2.out, .inl ⟨k, hlt, rfl, HQ.out, HNo.out⟩⟩
      · have HQ : Hid (lim ≤ (f k).at_) := hid (by omega)
        have hd : decide ((f k).at_ < lim) = false := by simpa using hq
        clear hq
        go_wp2_with fail
        refine (forget1_any _ _ _ _ _ _ _ lim F _ (by omega) hl2).mono ?_
        rintro e w2 ⟨rfl, hb2⟩
        have HB2 : Hid (Below w.heap.size w w2) := hid (HBel.out.trans (hb2.mono hs))
        clear hb2 c0 c1 c2 c3 c4 c5 c6
        go_wp2
        go_roundw
        case rel => exact ⟨k + 1, by omega, by go_num, HB2.out, fun i hi => by by_cases h : i = k; (subst h; exact HQ.out); exact HNo.out i (by omega)⟩
        case measure => simp [intOf]; omega
    · go_wp2
      go_ret
      exact ⟨HBel.out, .inr ⟨rfl, fun i hi => HNo.out i (by omega)⟩⟩

end Go.Proofs.Ytnloedhcginopaa.WinC
