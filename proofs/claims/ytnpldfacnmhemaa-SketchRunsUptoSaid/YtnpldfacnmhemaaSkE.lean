/- Rows of a sketch's buckets; IndexFunc and DeleteFunc over them. -/
import Derived.Test.YtnpldfacnmhemaaSkD
import Derived.Lib.SliceRun
namespace Go.Proofs.Ytnpldfacnmhemaa.SkE
open Go.ChangeShapes Go.WideShapes Go.ChangeAt Go.RowKit Base Wri WldF WldG SkA SkB SkD

structure Bk where
  at_ : Int
  tot : Int
  mp : Nat

def bv (b : Bk) : List Value := [.int .i64 b.at_, .int .i64 b.tot, .map (some b.mp)]

/-- block g is a row of buckets, with room for cap of them; the first n are told by f -/
def IsBk (w : World) (g cap n : Nat) (f : Nat → Bk) : Prop :=
  ∃ cur, w.heap[g]? = some (.cells cur 88) ∧ cur.size = cap * 3 ∧ n ≤ cap ∧ cap ≤ maxLen ∧ ∀ i, i < n → ∀ j, j < 3 → cur[i * 3 + j]? = (bv (f i))[j]?

theorem IsBk.of_block {w w' : World} {g cap n : Nat} {f : Nat → Bk} (h : IsBk w g cap n f) (e : w'.heap[g]? = w.heap[g]?) : IsBk w' g cap n f := by
  obtain ⟨cur, h1, h2⟩ := h
  exact ⟨cur, e.trans h1, h2⟩
theorem IsBk.lt {w : World} {g cap n : Nat} {f : Nat → Bk} (h : IsBk w g cap n f) : g < w.heap.size := by
  obtain ⟨cur, h1, _⟩ := h
  exact (Array.getElem?_eq_some_iff.1 h1).1
theorem IsBk.below {w w' : World} {B g cap n : Nat} {f : Nat → Bk} (h : IsBk w g cap n f) (hb : Below B w w') (hg : g < B) : IsBk w' g cap n f := h.of_block (hb.block g hg)
theorem IsBk.le {w : World} {g cap n : Nat} {f : Nat → Bk} (h : IsBk w g cap n f) : n ≤ cap ∧ cap ≤ maxLen := by
  obtain ⟨_, _, _, h1, h2, _⟩ := h
  exact ⟨h1, h2⟩
theorem IsBk.cell {w : World} {g cap n : Nat} {f : Nat → Bk} (h : IsBk w g cap n f) (i : Nat) (hi : i < n) (j : Nat) (hj : j < 3) (v : Value) (hv : (bv (f i))[j]? = some v) : w.cell? ⟨g, i * 3 + j, none⟩ = some v := by
  obtain ⟨cur, h1, _, _, _, h5⟩ := h
  have := h5 i hi j hj
  rw [hv] at this
  simp [World.cell?, h1, this]
theorem IsBk.frozen {w : World} {g cap n : Nat} {f : Nat → Bk} (h : IsBk w g cap n f) (o : Nat) : w.frozen? ⟨g, o, none⟩ = false := by
  obtain ⟨cur, h1, _⟩ := h
  simp [World.frozen?, h1]
theorem IsBk.there {w : World} {g cap n : Nat} {f : Nat → Bk} (h : IsBk w g cap n f) (o : Nat) (ho : o < cap * 3) : (w.cell? ⟨g, o, none⟩).isSome = true := by
  obtain ⟨cur, h1, h2, _⟩ := h
  simp [World.cell?, h1, h2, ho]
theorem IsBk.at3 {w : World} {g cap n : Nat} {f : Nat → Bk} (h : IsBk w g cap n f) (i : Nat) (hi : i < n) : w.cell? ⟨g, i * 3, none⟩ = some (.int .i64 (f i).at_) ∧ w.cell? ⟨g, i * 3 + 1, none⟩ = some (.int .i64 (f i).tot) ∧ w.cell? ⟨g, i * 3 + 2, none⟩ = some (.map (some (f i).mp)) :=
  ⟨h.cell i hi 0 (by omega) _ rfl, h.cell i hi 1 (by omega) _ rfl, h.cell i hi 2 (by omega) _ rfl⟩
theorem IsBk.less {w : World} {g cap n m : Nat} {f : Nat → Bk} (h : IsBk w g cap n f) (hm : m ≤ n) : IsBk w g cap m f := by
  obtain ⟨cur, h1, h2, h3, h4, h5⟩ := h
  exact ⟨cur, h1, h2, by omega, h4, fun i hi => h5 i (by omega)⟩
theorem IsBk.congr {w : World} {g cap n : Nat} {f f' : Nat → Bk} (h : IsBk w g cap n f) (e : ∀ i, i < n → f i = f' i) : IsBk w g cap n f' := by
  obtain ⟨cur, h1, h2, h3, h4, h5⟩ := h
  exact ⟨cur, h1, h2, h3, h4, fun i hi j hj => by rw [← e i hi]; exact h5 i hi j hj⟩

/-- one cell behind the first n -/
theorem IsBk.set_past {w : World} {g cap n : Nat} {f : Nat → Bk} (h : IsBk w g cap n f) (o : Nat) (ho : n * 3 ≤ o) (v : Value) : IsBk (w.setCell ⟨g, o, none⟩ v) g cap n f := by
  obtain ⟨cur, h1, h2, h3, h4, h5⟩ := h
  refine ⟨cur.setIfInBounds o v, heap_setCell_same w g o cur _ v h1, by simpa using h2, h3, h4, fun i hi j hj => ?_⟩
  rw [Array.getElem?_setIfInBounds_ne (by omega)]
  exact h5 i hi j hj
theorem IsBk.sets_past {g cap n : Nat} {f : Nat → Bk} : ∀ (vs : List Value) (w : World) (o : Nat), IsBk w g cap n f → n * 3 ≤ o → IsBk (w.setCells g o vs) g cap n f
  | [], _, _, h, _ => h
  | v :: vs, w, o, h, ho => by
    show IsBk ((w.setCell ⟨g, o, none⟩ v).setCells g (o + 1) vs) g cap n f
    exact IsBk.sets_past vs _ _ (h.set_past o ho v) (by omega)

def put3 (w : World) (g o : Nat) (b : Bk) : World := ((w.setCell ⟨g, o, none⟩ (.int .i64 b.at_)).setCell ⟨g, o + 1, none⟩ (.int .i64 b.tot)).setCell ⟨g, o + 2, none⟩ (.map (some b.mp))

theorem IsBk.put3 {w : World} {g cap n : Nat} {f : Nat → Bk} (h : IsBk w g cap n f) (i : Nat) (hi : i < n) (b : Bk) : IsBk (put3 w g (i * 3) b) g cap n (fun k => if k = i then b else f k) := by
  obtain ⟨cur, h1, h2, h3, h4, h5⟩ := h
  have hz : i * 3 + 3 ≤ cur.size := by omega
  refine ⟨((cur.setIfInBounds (i * 3) (.int .i64 b.at_)).setIfInBounds (i * 3 + 1) (.int .i64 b.tot)).setIfInBounds (i * 3 + 2) (.map (some b.mp)), ?_, by simpa using h2, h3, h4, fun k hk j hj => ?_⟩
  · exact heap_setCell_same _ _ _ _ _ _ (heap_setCell_same _ _ _ _ _ _ (heap_setCell_same _ _ _ _ _ _ h1))
  · by_cases e : k = i
    · subst e
      dsimp only
      rw [if_pos rfl]
      match j, hj with
      | 0, _ => simp [Array.getElem?_setIfInBounds, bv]; omega
      | 1, _ => simp [Array.getElem?_setIfInBounds, bv]; omega
      | 2, _ => simp [Array.getElem?_setIfInBounds, bv]; omega
    · have n0 : i * 3 ≠ k * 3 + j := by omega
      have n1 : i * 3 + 1 ≠ k * 3 + j := by omega
      have n2 : i * 3 + 2 ≠ k * 3 + j := by omega
      dsimp only
      rw [if_neg e, ← h5 k hk j hj, Array.getElem?_setIfInBounds_ne n2, Array.getElem?_setIfInBounds_ne n1, Array.getElem?_setIfInBounds_ne n0]

/-- one bucket's total -/
theorem IsBk.putTot {w : World} {g cap n : Nat} {f : Nat → Bk} (h : IsBk w g cap n f) (i : Nat) (hi : i < n) (t : Int) : IsBk (w.setCell ⟨g, i * 3 + 1, none⟩ (.int .i64 t)) g cap n (fun k => if k = i then ⟨(f i).at_, t, (f i).mp⟩ else f k) := by
  obtain ⟨cur, h1, h2, h3, h4, h5⟩ := h
  have hz : i * 3 + 3 ≤ cur.size := by omega
  refine ⟨cur.setIfInBounds (i * 3 + 1) (.int .i64 t), heap_setCell_same _ _ _ _ _ _ h1, by simpa using h2, h3, h4, fun k hk j hj => ?_⟩
  by_cases e : k = i
  · subst e
    dsimp only
    rw [if_pos rfl]
    match j, hj with
    | 0, _ => rw [Array.getElem?_setIfInBounds_ne (by omega)]; exact h5 k hk 0 (by omega)
    | 1, _ => simp [Array.getElem?_setIfInBounds, bv]; omega
    | 2, _ => rw [Array.getElem?_setIfInBounds_ne (by omega)]; exact h5 k hk 2 (by omega)
  · dsimp only
    rw [if_neg e, ← h5 k hk j hj]
    rw [Array.getElem?_setIfInBounds_ne (show i * 3 + 1 ≠ k * 3 + j by omega)]

theorem Keeps.sets {b : Nat} {w : World} : ∀ (vs : List Value) (w' : World) (o : Nat), Keeps b w w' → Keeps b w (w'.setCells b o vs)
  | [], _, _, h => h
  | v :: vs, w', o, h => by
    show Keeps b w ((w'.setCell ⟨b, o, none⟩ v).setCells b (o + 1) vs)
    exact Keeps.sets vs _ _ (h.set o v)
theorem Keeps.put3 {b : Nat} {w w' : World} (h : Keeps b w w') (o : Nat) (x : Bk) : Keeps b w (put3 w' b o x) := ((h.set _ _).set _ _).set _ _

set_option maxRecDepth 20000 in
set_option maxHeartbeats 1000000 in
theorem indexBk (g cap n c F : Nat) (f : Nat → Bk) (lim : Int) (w : World) (hn : n ≤ 9223372036854775807) (hF : F < w.heap.size) (hl : w.cell? ⟨F, 0, none⟩ = some (.int .i64 lim)) (HB : Hid (IsBk w g cap n f)) :
    Calls Try.prog 80 #[.slice (some ⟨g, 0, none⟩) n c, .func (Fn.func 70) #[] #[.pointer (some ⟨F, 0, none⟩)]] w
      fun e w' => Below w.heap.size w w' ∧ ((∃ k : Nat, k < n ∧ e = .returned (.int .i64 k) ∧ (f k).at_ < lim ∧ ∀ i, i < k → lim ≤ (f i).at_) ∨ (e = .returned (.int .i64 (-1)) ∧ ∀ i, i < n → lim ≤ (f i).at_)) := by
  have HL := hid hl
  have HG := HB.out.lt
  go_enter Try.func80, Try.ntmps80
  go_wp2
  go_loopw [8] (fun i wr => ∃ k : Nat, k ≤ n ∧ i = .int .i64 k ∧ Below w.heap.size w wr ∧ ∀ i, i < k → lim ≤ (f i).at_) (fun i _ => n - (intOf i).toNat)
  case atStart => exact ⟨0, Nat.zero_le _, rfl, Below.refl _ _, fun i hi => by omega⟩
  case round =>
    obtain ⟨k, hk, rfl, hbel, hno⟩ := hrel
    have HBel := hid hbel
    have HNo := hid hno
    clear hno hl
    by_cases hlt : k < n
    · obtain ⟨c0, c1, c2⟩ := (HB.out.below hbel HG).at3 k hlt
      have hs := hbel.size
      have hl2 : wr.cell? ⟨F, 0, none⟩ = some (.int .i64 lim) := (hbel.cell (p := ⟨F, 0, none⟩) hF).trans HL.out
      clear hbel
      by_cases hq : (f k).at_ < lim
      · have HQ := hid hq
        have hd : decide ((f k).at_ < lim) = true := by simpa using hq
        clear hq
        go_wp2_with fail
        refine (forget1_any _ _ lim _ F _ (by omega) hl2).mono ?_
        rintro e w2 ⟨rfl, hb2⟩
        have HB2 : Hid (Below w.heap.size w w2) := hid (HBel.out.trans (hb2.mono hs))
        clear hb2 c0 c1 c2
        go_wp2
        go_ret
        exact ⟨HB2.out, .inl ⟨k, hlt, rfl, HQ.out, HNo.out⟩⟩
      · have HQ : Hid (lim ≤ (f k).at_) := hid (by omega)
        have hd : decide ((f k).at_ < lim) = false := by simpa using hq
        clear hq
        go_wp2_with fail
        refine (forget1_any _ _ lim _ F _ (by omega) hl2).mono ?_
        rintro e w2 ⟨rfl, hb2⟩
        have HB2 : Hid (Below w.heap.size w w2) := hid (HBel.out.trans (hb2.mono hs))
        clear hb2 c0 c1 c2
        go_wp2
        go_roundw
        case rel => exact ⟨k + 1, by omega, by go_num, HB2.out, fun i hi => by by_cases h : i = k; (subst h; exact HQ.out); exact HNo.out i (by omega)⟩
        case measure => simp [intOf]; omega
    · go_wp2
      go_ret
      exact ⟨HBel.out, .inr ⟨rfl, fun i hi => HNo.out i (by omega)⟩⟩

/-- the first n as a list -/
def toL (f : Nat → Bk) (n : Nat) : List Bk := (List.range n).map f
theorem toL_succ (f : Nat → Bk) (n : Nat) : toL f (n + 1) = toL f n ++ [f n] := by simp [toL, List.range_succ]
theorem toL_len (f : Nat → Bk) (n : Nat) : (toL f n).length = n := by simp [toL]
theorem toL_congr {f f' : Nat → Bk} {n : Nat} (h : ∀ i, i < n → f i = f' i) : toL f n = toL f' n := by
  unfold toL
  exact List.map_congr_left fun i hi => h i (List.mem_range.1 hi)
def stays (lim : Int) (l : List Bk) : List Bk := l.filter fun b => !decide (b.at_ < lim)
theorem stays_all {lim : Int} {f : Nat → Bk} {n : Nat} (h : ∀ i, i < n → lim ≤ (f i).at_) : stays lim (toL f n) = toL f n := by
  unfold stays toL
  rw [List.filter_eq_self]
  intro b hb
  obtain ⟨i, hi, rfl⟩ := List.mem_map.1 hb
  have := h i (List.mem_range.1 hi)
  simpa using this
theorem stays_yes {lim : Int} {f : Nat → Bk} {n : Nat} (h : lim ≤ (f n).at_) : stays lim (toL f (n + 1)) = stays lim (toL f n) ++ [f n] := by
  rw [toL_succ]; unfold stays; rw [List.filter_append]; congr 1; rw [List.filter_cons, if_pos (by simpa using h)]; rfl
theorem stays_no {lim : Int} {f : Nat → Bk} {n : Nat} (h : (f n).at_ < lim) : stays lim (toL f (n + 1)) = stays lim (toL f n) := by
  rw [toL_succ]; unfold stays; rw [List.filter_append, List.filter_cons, if_neg (by simpa using h)]; simp

def zs (n : Nat) : List Value := (Builtin.zeroCells #[Value.int .i64 0, .int .i64 0, .map none] n).toList
theorem zs_len (n : Nat) : (zs n).length = n * 3 := by
  unfold zs
  rw [Array.length_toList, size_zeroCells]
  rfl
theorem zs_one (n : Nat) : ∀ v ∈ zs n, v.oneCell' = true := by
  intro v hv
  unfold zs at hv
  simp [Builtin.zeroCells] at hv
  obtain ⟨i, hi, rfl⟩ := hv
  have : i % 3 < 3 := Nat.mod_lt _ (by omega)
  generalize i % 3 = r at *
  match r, this with
  | 0, _ => rfl
  | 1, _ => rfl
  | 2, _ => rfl

theorem run_clear3 (w : World) (ty : TypeId) (g o n c : Nat) (hn : 0 < n) (hc : ∀ j, j < n * 3 → (w.cell? ⟨g, o + j, none⟩).isSome = true) (hf : ∀ j, j < n * 3 → w.frozen? ⟨g, o + j, none⟩ = false) :
    (Builtin.clear_ #[81] ty #[.slice (some ⟨g, o, none⟩) n c]).run Try.prog w = .ok (.tuple #[]) (w.setCells g o (zs n)) := by
  have hzv : ∀ w, (zeroValue 88).run Try.prog w = .ok (.agg #[.int .i64 0, .int .i64 0, .map none]) w := fun _ => by kernel_rfl
  have hz : (Value.agg #[.int .i64 0, .int .i64 0, .map none]).cells = #[.int .i64 0, .int .i64 0, .map none] := rfl
  have hst := run_storeCells_cells (P := Try.prog) g o (zs n) 0 w (by rw [zs_len]; simpa using hc) (by rw [zs_len]; simpa using hf) (zs_one n)
  simp only [Nat.add_zero] at hst
  unfold zs at *
  obtain ⟨m, rfl⟩ : ∃ m, n = m + 1 := ⟨n - 1, by omega⟩
  simp [Builtin.clear_, run_underlying Try.underlying81, hzv, hz, hst]

def DelPost (g cap n : Nat) (f : Nat → Bk) (lim : Int) (w : World) (e : Ending) (w' : World) : Prop :=
  ∃ (m : Nat) (f' : Nat → Bk), e = .returned (.slice (some ⟨g, 0, none⟩) m cap) ∧ toL f' m = stays lim (toL f n) ∧ IsBk w' g cap m f' ∧ Keeps g w w'

set_option maxRecDepth 100000 in
set_option maxHeartbeats 2000000 in
theorem deleteBk (g cap n F : Nat) (f : Nat → Bk) (lim : Int) (w : World) (hn : n ≤ 9223372036854775807) (hcap : cap ≤ 9223372036854775807) (hF : F < w.heap.size) (hFg : F ≠ g) (hl : w.cell? ⟨F, 0, none⟩ = some (.int .i64 lim)) (HB : Hid (IsBk w g cap n f)) :
    Calls Try.prog 69 #[.slice (some ⟨g, 0, none⟩) n cap, .func (Fn.func 70) #[] #[.pointer (some ⟨F, 0, none⟩)]] w (DelPost g cap n f lim w) := by
  have HL := hid hl
  have HG := HB.out.lt
  have hncap := HB.out.le.1
  go_enter Try.func69, Try.ntmps69
  go_wp2_with fail
  refine (indexBk g cap n cap F f lim _ hn hF hl HB).mono ?_
  rintro e w1 ⟨hb1, ⟨k0, hk0, rfl, hyes, hno⟩ | ⟨rfl, hno⟩⟩
  · have HB1 := hid hb1
    have HYes := hid hyes
    have HNo := hid hno
    clear hb1 hyes hno hl
    have hkm : ((k0 : Int) == -1) = false := by simp
    go_wp2
    go_loopw [5, 6] (fun i j wr => ∃ (ii jj : Nat) (f' : Nat → Bk), i = .int .i64 ii ∧ j = .int .i64 jj ∧ ii < jj ∧ jj ≤ n ∧ IsBk wr g cap n f' ∧ toL f' ii = stays lim (toL f jj) ∧ (∀ k, jj ≤ k → k < n → f' k = f k) ∧ Keeps g w wr) (fun _ j _ => n - (intOf j).toNat)
    case atStart =>
      refine ⟨k0, k0 + 1, f, rfl, by go_num, by omega, by omega, HB.out.below HB1.out HG, ?_, fun _ _ _ => rfl, Keeps.belowOf HB1.out⟩
      rw [stays_no HYes.out, stays_all HNo.out]
    case round =>
      obtain ⟨ii, jj, f', rfl, rfl, hij, hjn, hbk, hst, hrest, hkeep⟩ := hrel
      have HBk := hid hbk
      have HSt := hid hst
      have HRest := hid hrest
      have HK := hid hkeep
      have hsz := hkeep.size
      have hFr : F < wr.heap.size := by omega
      have hl2 : wr.cell? ⟨F, 0, none⟩ = some (.int .i64 lim) := (hkeep.cell 0 hF hFg).trans HL.out
      clear hst hrest hkeep HYes HNo HB1
      by_cases hlt : jj < n
      · have hff := HRest.out jj (Nat.le_refl _) hlt
        obtain ⟨c0, c1, c2⟩ := hbk.at3 jj hlt
        rw [hff] at c0 c1 c2
        have HFF := hid hff
        clear hff hbk
        by_cases hq : (f jj).at_ < lim
        · have HQ := hid hq
          have hd : decide ((f jj).at_ < lim) = true := by simpa using hq
          clear hq
          go_wp2_with fail
          refine (forget1_any _ _ lim _ F _ (by simp; omega) (by go_cell)).mono ?_
          rintro e w2 ⟨rfl, hb2⟩
          have hs2 := hb2.size
          have hbw : Below wr.heap.size wr w2 := ((Below.refl _ _).alloc (Nat.le_refl _) _).trans (hb2.mono (by simp))
          have HBk2 := hid (HBk.out.below hbw (HBk.out.lt))
          have HK2 := hid (HK.out.trans (Keeps.belowOf hbw))
          clear hb2 hbw c0 c1 c2
          go_wp2
          go_roundw
          case rel => exact ⟨ii, jj + 1, f', rfl, by go_num, by omega, by omega, HBk2.out, by rw [stays_no HQ.out]; exact HSt.out, fun k h1 h2 => HRest.out k (by omega) h2, HK2.out⟩
          case measure => simp [intOf]; omega
        · have HQ : Hid (lim ≤ (f jj).at_) := hid (by omega)
          have hd : decide ((f jj).at_ < lim) = false := by simpa using hq
          clear hq
          go_wp2_with fail
          refine (forget1_any _ _ lim _ F _ (by simp; omega) (by go_cell)).mono ?_
          rintro e w2 ⟨rfl, hb2⟩
          obtain ⟨hc2, hf2⟩ := bcell hb2
          have d0 : w2.cell? ⟨wr.heap.size, 0, none⟩ = some (.int .i64 (f jj).at_) := by rw [hc2 _ _ (by simp)]; go_cell
          have d1 : w2.cell? ⟨wr.heap.size, 1, none⟩ = some (.int .i64 (f jj).tot) := by rw [hc2 _ _ (by simp)]; go_cell
          have d2 : w2.cell? ⟨wr.heap.size, 2, none⟩ = some (.map (some (f jj).mp)) := by rw [hc2 _ _ (by simp)]; go_cell
          have hbw : Below wr.heap.size wr w2 := ((Below.refl _ _).alloc (Nat.le_refl _) _).trans (hb2.mono (by simp))
          have hbk2 := HBk.out.below hbw (HBk.out.lt)
          have HK2 := hid (HK.out.trans (Keeps.belowOf hbw))
          obtain ⟨e0, e1, e2⟩ := hbk2.at3 ii (by omega)
          have z0 := hbk2.frozen (ii * 3)
          have z1 := hbk2.frozen (ii * 3 + 1)
          have z2 := hbk2.frozen (ii * 3 + 2)
          have HBk2 := hid hbk2
          clear hb2 hbw hc2 hf2 c0 c1 c2 hbk2
          go_wp2_with fail
          refine ⟨⟨ii + 1, jj + 1, fun k => if k = ii then f jj else f' k, by go_num, by go_num, by omega, by omega, HBk2.out.put3 ii (by omega) (f jj), ?_, ?_, Keeps.put3 HK2.out _ _⟩, by simp [intOf]; omega⟩
          · rw [stays_yes HQ.out, ← HSt.out, toL_succ, if_pos rfl]
            congr 1
            exact toL_congr fun i hi => if_neg (by omega)
          · intro k h1 h2
            dsimp only
            rw [if_neg (by omega)]
            exact HRest.out k (by omega) h2
      · obtain rfl : jj = n := by omega
        clear HRest
        have hcl : ∀ ty, (Builtin.clear_ #[81] ty #[.slice (some ⟨g, ii * 3, none⟩) (jj - ii) (cap - ii)]).run Try.prog wr = .ok (.tuple #[]) (wr.setCells g (ii * 3) (zs (jj - ii))) :=
          fun ty => run_clear3 wr ty g (ii * 3) (jj - ii) (cap - ii) (by omega) (fun j hj => hbk.there _ (by omega)) (fun j hj => hbk.frozen _)
        clear hbk
        go_wp2
        go_ret
        exact ⟨ii, f', rfl, HSt.out, (HBk.out.less (by omega)).sets_past _ _ _ (Nat.le_refl _), Keeps.sets _ _ _ HK.out⟩
  · have HB1 := hid hb1
    have HNo := hid hno
    clear hb1 hno hl
    go_wp2
    go_ret
    exact ⟨n, f, rfl, (stays_all HNo.out).symm, HB.out.below HB1.out HG, Keeps.belowOf HB1.out⟩

end Go.Proofs.Ytnpldfacnmhemaa.SkE
