/- Contract of Sum. -/
import Derived.Test.YtnloedhcginopaaWinJ
namespace Go.Proofs.Ytnloedhcginopaa.WinK
open Go.ChangeShapes Go.WideShapes Go.ChangeAt Go.RowKit Base WinM WinA WinB WinC WinD WinE WinF WinG WinH WinI WinJ WldF WldG
open Go.Shelf

attribute [local go_sem] Oper.semAt_some

theorem block_own {β : Type} (b : Nat) (t : TypeId) (g : β → Array Value) : Own fun s W => W.heap[b]? = some (.cells (g s) t) := by
  intro s W W' row h hg hr
  by_cases e : some b = row
  · obtain ⟨o, ho, hc⟩ := hr b e.symm
    rw [h] at ho
    cases ho
    cases hc
  · have hb : b < W.heap.size := (Array.getElem?_eq_some_iff.1 h).1
    show W'.heap[b]? = _
    rw [hg.block b hb e]
    exact h

theorem kp_b {n0 b : Nat} {w : World} (hn : n0 ≤ w.heap.size) (hb : b < w.heap.size) : ∀ (W : World) (l : Nat) (o o' : Obj), w.heap.size ≤ l → W.heap[l]? = some o → o.isCells = false → o.isWalk = false → Kp n0 b W (W.putObj l o') := by
  intro W l o o' hl ho hc hw
  have hlW : l < W.heap.size := (Array.getElem?_eq_some_iff.1 ho).1
  exact ⟨belowK_b hn W l o o' hl ho hc hw, (grownBy_putObj' W l o').block b (by omega) (fun e => by cases e; omega)⟩

/-- counts of buckets together -/
def sumF (l : List FB) : Cnt := l.foldl (fun s b => joinM s b.1.c) ⟨0, 0, 0, 0, 0, 0⟩
def sumM (l : List Bkt) : Cnt := l.foldl (fun s b => joinM s b.c) ⟨0, 0, 0, 0, 0, 0⟩
theorem sumF_snoc (l : List FB) (x : FB) : sumF (l ++ [x]) = joinM (sumF l) x.1.c := by simp [sumF]
theorem sumF_map (l : List FB) : sumF l = sumM (l.map (·.1)) := by unfold sumF sumM; rw [List.foldl_map]
theorem sumF_fine (l : List FB) : (sumF l).Fine := by
  unfold sumF
  suffices ∀ (s : Cnt), s.Fine → (l.foldl (fun s b => joinM s b.1.c) s).Fine from this _ zero_fine
  induction l with
  | nil => intro s h; exact h
  | cons x l ih => intro s h; exact ih _ (joinM_fine h x.2)

/-- the cells of counts -/
def cl (c : Cnt) : Array Value := #[.int .i64 c.pass, .int .i64 c.block, .int .i64 c.done, .int .i64 c.errs, .int .i64 c.rt, .int .i64 c.low]
def bl (b : Bkt) : Array Value := #[.int .i64 b.at_, .int .i64 b.c.pass, .int .i64 b.c.block, .int .i64 b.c.done, .int .i64 b.c.errs, .int .i64 b.c.rt, .int .i64 b.c.low]

theorem cl_at {W : World} {b : Nat} {c : Cnt} {t : TypeId} (h : W.heap[b]? = some (.cells (cl c) t)) : At6 W b 0 c ∧ Free6 W b 0 := by
  unfold cl at h
  exact ⟨⟨by simp [World.cell?, h], by simp [World.cell?, h], by simp [World.cell?, h], by simp [World.cell?, h], by simp [World.cell?, h], by simp [World.cell?, h]⟩, ⟨by simp [World.frozen?, h], by simp [World.frozen?, h], by simp [World.frozen?, h], by simp [World.frozen?, h], by simp [World.frozen?, h], by simp [World.frozen?, h]⟩⟩

/-- counts laid in a block of their own -/
def set6 (w : World) (b : Nat) (c : Cnt) : World :=
  (((((w.setCell ⟨b, 0, none⟩ (.int .i64 c.pass)).setCell ⟨b, 1, none⟩ (.int .i64 c.block)).setCell ⟨b, 2, none⟩ (.int .i64 c.done)).setCell ⟨b, 3, none⟩ (.int .i64 c.errs)).setCell ⟨b, 4, none⟩ (.int .i64 c.rt)).setCell ⟨b, 5, none⟩ (.int .i64 c.low)
theorem set6_heap {w : World} {b : Nat} {c0 c : Cnt} {t : TypeId} (h : w.heap[b]? = some (.cells (cl c0) t)) : (set6 w b c).heap[b]? = some (.cells (cl c) t) :=
  heap_setCell_same _ _ _ _ _ _ (heap_setCell_same _ _ _ _ _ _ (heap_setCell_same _ _ _ _ _ _ (heap_setCell_same _ _ _ _ _ _ (heap_setCell_same _ _ _ _ _ _ (heap_setCell_same _ _ _ _ _ _ h)))))
theorem set6_other (w : World) (b k : Nat) (c : Cnt) (h : k ≠ b) : (set6 w b c).heap[k]? = w.heap[k]? := by
  unfold set6
  rw [heap_setCell_other _ _ _ _ h, heap_setCell_other _ _ _ _ h, heap_setCell_other _ _ _ _ h, heap_setCell_other _ _ _ _ h, heap_setCell_other _ _ _ _ h, heap_setCell_other _ _ _ _ h]
theorem set6_below {B : Nat} {a w : World} (h : Below B a w) (b : Nat) (c : Cnt) (hb : B ≤ b) : Below B a (set6 w b c) :=
  (((((h.setCell (p := ⟨b, 0, none⟩) hb _).setCell (p := ⟨b, 1, none⟩) hb _).setCell (p := ⟨b, 2, none⟩) hb _).setCell (p := ⟨b, 3, none⟩) hb _).setCell (p := ⟨b, 4, none⟩) hb _).setCell (p := ⟨b, 5, none⟩) hb _
theorem set6_others (w : World) (b : Nat) (c : Cnt) : KeepsOthers w (set6 w b c) :=
  (((((KeepsOthers.setCell _ _ _).trans (KeepsOthers.setCell _ _ _)).trans (KeepsOthers.setCell _ _ _)).trans (KeepsOthers.setCell _ _ _)).trans (KeepsOthers.setCell _ _ _)).trans (KeepsOthers.setCell _ _ _)
theorem keepsFrom_below {w w' : World} (B : Nat) (h : Below w.heap.size w w') : KeepsFrom B w w' := ⟨h.size, fun k o _ hk _ => by rw [h.block k (Array.getElem?_eq_some_iff.1 hk).1]; exact hk⟩

set_option maxRecDepth 100000 in
set_option maxHeartbeats 4000000 in
theorem sum_yes (p : Nat) (go : Option Nat) (s : Win) (q at_ : Nat) (w : World) (h : IsWin w p go s) (hq : s.width / s.size = q) (hq0 : 0 < q) (hz : 0 < s.size) (hwd : s.width ≤ 1099511627776)
    (hat : at_ ≤ 1152921504606846976) (hback : s.last ≤ at_) (hfine : ∀ x ∈ s.bs, x.c.Fine) (hlen : s.bs.length ≤ 1000) :
    Calls Try.prog 71 #[.pointer (some ⟨p, 0, none⟩), .int .i64 at_] w fun e w' => e = .returned (.tuple #[cv (sumM (stays ((begN q at_ : Int) - s.width + q) s.bs)), .int .i64 0]) ∧ Below w.heap.size w w' := by
  have hr0 : refM s.last at_ = 0 := by unfold refM; rw [if_neg (by omega), if_neg (by omega)]
  refine callsIn_wide.1 (callsIn_of_wp_marks (n := 10) Try.func71 rfl trivial ?_ rfl)
  simp only [Try.ntmps71, List.size_toArray, List.length_cons, List.length_nil, Nat.reduceAdd, Nat.reduceSub, Array.replicate_succ, Array.replicate_zero, List.push_toArray, List.append_toArray, List.nil_append, List.cons_append]
  have hp := h.lt
  have hg := h.lt2
  have hw1 : IsWin (w.alloc (.cells #[.int .i64 0, .int .i64 0, .int .i64 0, .int .i64 0, .int .i64 0, .int .i64 0] 32)) p go s := h.keep (R := fun _ => False) (Lets.ofBelow ((Below.refl _ _).alloc (Nat.le_refl _) _)) (fun h => h) (fun _ _ h => h)
  have hw2 : IsWin ((w.alloc (.cells #[.int .i64 0, .int .i64 0, .int .i64 0, .int .i64 0, .int .i64 0, .int .i64 0] 32)).alloc (.cells #[.int .i64 0, .int .i64 0, .int .i64 0, .int .i64 0, .int .i64 0, .int .i64 0] 32)) p go s := hw1.keep (R := fun _ => False) (Lets.ofBelow ((Below.refl _ _).alloc (Nat.le_refl _) _)) (fun h => h) (fun _ _ h => h)
  have HR := hid (refuses_any p s.last at_ _ hw1.cells.2.2.1)
  rw [hr0] at HR
  have HWi := hid (within_any p s go q at_ _ hw2 hq hq0 hz hwd hat)
  have HW2 := hid hw2
  have HLen := hid hlen
  have HFine := hid hfine
  clear hw1 hw2 h hq hq0 hz hwd hat hback hfine hlen hr0
  gi_wp2_with (refine ⟨trivial, ?_⟩; gi_at_call 79; refine (callsIn_wide.2 HR.out).mono ?_; rintro e w1 ⟨rfl, rfl⟩)
  refine ⟨trivial, ?_⟩
  refine (callsIn_wide.2 HWi.out).mono ?_
  rintro e w2 ⟨rfl, hb2, k1, k2, hsz2⟩
  clear HR HWi
  have hA0 : w2.heap[w.heap.size]? = some (.cells (cl ⟨0, 0, 0, 0, 0, 0⟩) 32) := by
    rw [hb2.block _ (by simp; omega), Below.heap_alloc _ _ _ (by simp)]
    exact heap_alloc_new _ _
  have hA1 : w2.heap[w.heap.size + 1]? = some (.cells (cl ⟨0, 0, 0, 0, 0, 0⟩) 32) := by
    rw [hb2.block _ (by simp)]
    have := heap_alloc_new (w.alloc (.cells #[.int .i64 0, .int .i64 0, .int .i64 0, .int .i64 0, .int .i64 0, .int .i64 0] 32)) (.cells (cl ⟨0, 0, 0, 0, 0, 0⟩) 32)
    simp only [World.size_alloc] at this
    exact this
  have hB2 : Below w.heap.size w w2 := Below.trans (((Below.refl _ w).alloc (Nat.le_refl _) _).alloc (by simp) _) (hb2.mono (by simp; omega))
  have hW3 : IsWin w2 p go s := HW2.out.keep (R := fun _ => False) (Lets.ofBelow hb2) (fun h => h) (fun _ _ h => h)
  simp only [World.size_alloc] at k1 k2 hsz2
  have HSZ := hid hsz2
  clear hb2 HW2
  gi_wp2
  clear hsz2
  have hz2 := HSZ.out
  refine wpIn_rangeFunc_ownH rfl (by omega) (gf := 97) (lb := #[.pointer (some ⟨w.heap.size + 1 + 1, 0, none⟩), .pointer (some ⟨w.heap.size + 1 + 1 + 1, 0, none⟩)]) rfl trivial (enters_of Try.func97 (by kernel_rfl) rfl)
    (within_stops 9 (by omega) (w.heap.size + 1 + 1) (w.heap.size + 1 + 1 + 1) p go s ((begN q at_ : Int) - s.width + q) w.heap.size w2 (by omega) (by omega) (by omega) hg (by have := HLen.out; omega) HFine.out k1 k2 hW3) Kp.trans (kp_b (by omega) (by omega)) (Below.refl _ _) (fun _ => rfl)
    (fun pre W => (W.heap[w.heap.size + 1]? = some (.cells (cl (sumF pre)) 32) ∧ W.heap[w.heap.size]? = some (.cells (cl ⟨0, 0, 0, 0, 0, 0⟩) 32)) ∧ Below w.heap.size w2 W)
    (fun _ _ _ => False)
    (OwnFrom.and (OwnFrom.and (Own.from (block_own _ _ _) _) (Own.from (block_own _ _ (fun _ => cl ⟨0, 0, 0, 0, 0, 0⟩)) _)) (ownFrom_below (by omega) (by omega)))
    (fun _ _ _ _ _ hs _ _ => hs)
    ⟨⟨hA1, hA0⟩, Below.refl _ _⟩
    (fun x a' W => ∃ Bx, w.heap.size + 4 ≤ Bx ∧ W.heap[Bx]? = some (.cells (bl x.1) 115) ∧ a' = { tmps := #[.pointer (some ⟨p, 0, none⟩), .int .i64 at_, undef, undef, .pointer (some ⟨w.heap.size, 0, none⟩), .int .i64 0, .int .i64 0, .pointer (some ⟨w.heap.size + 1, 0, none⟩), .pointer (some ⟨Bx, 0, none⟩), .pointer (some ⟨p, 0, none⟩), .int .i64 at_, .int .i64 0, .int .i64 0, .bool false, undef, undef, .pointer (some ⟨p, 0, none⟩), .int .i64 at_, .func (Fn.func 97) #[] #[.pointer (some ⟨w.heap.size + 1 + 1, 0, none⟩), .pointer (some ⟨w.heap.size + 1 + 1 + 1, 0, none⟩)], .agg #[.int .i64 x.1.at_, .int .i64 x.1.c.pass, .int .i64 x.1.c.block, .int .i64 x.1.c.done, .int .i64 x.1.c.errs, .int .i64 x.1.c.rt, .int .i64 x.1.c.low], undef, undef, undef, undef, undef, undef], defers := [] })
    (fun x a' _ X Y row hs hg hr => by obtain ⟨Bx, h1, h2, h3⟩ := hs; exact ⟨Bx, h1, block_own Bx _ (fun (_ : Unit) => bl x.1) () X Y row h2 hg (fun r e => (hr r e).2), h3⟩)
    ?assign ?body ?done ?stop
  case assign =>
    rintro l pre x W K ⟨⟨hA1, hA0⟩, hB⟩ hK
    have HK := hid hK
    clear hK
    unfold be
    gi_wp2
    have hs1 := hB.size
    exact HK.out _ _ ((KeepsOthers.alloc _ _).from _) ((Kp.refl _ _ _).alloc (by omega) (by omega) _) ⟨⟨(Below.heap_alloc _ _ _ (by omega)).trans hA1, (Below.heap_alloc _ _ _ (by omega)).trans hA0⟩, hB.alloc (by omega) _⟩ ⟨W.heap.size, by omega, heap_alloc_new _ _, rfl⟩
  case body =>
    rintro l pre x a' W hl ⟨r, hr⟩ ⟨⟨hA1, hA0⟩, hB⟩ ⟨Bx, hBx, bX, rfl⟩ hlt
    have hs1 := hB.size
    have hA1s : w.heap.size + 1 < W.heap.size := by omega
    have hBxs : Bx < W.heap.size := (Array.getElem?_eq_some_iff.1 bX).1
    have HA1 := hid hA1
    have HA0 := hid hA0
    have HB := hid hB
    have HX := hid x.2
    have HPre := hid (sumF_fine pre)
    have HSn := hid (sumF_snoc pre x)
    obtain ⟨⟨s1, s2, s3, s4, s5, s6⟩, _⟩ := cl_at hA1
    unfold bl at bX
    have x1 : W.cell? ⟨Bx, 1, none⟩ = some (.int .i64 x.1.c.pass) := by simp [World.cell?, bX]
    have x2 : W.cell? ⟨Bx, 2, none⟩ = some (.int .i64 x.1.c.block) := by simp [World.cell?, bX]
    have x3 : W.cell? ⟨Bx, 3, none⟩ = some (.int .i64 x.1.c.done) := by simp [World.cell?, bX]
    have x4 : W.cell? ⟨Bx, 4, none⟩ = some (.int .i64 x.1.c.errs) := by simp [World.cell?, bX]
    have x5 : W.cell? ⟨Bx, 5, none⟩ = some (.int .i64 x.1.c.rt) := by simp [World.cell?, bX]
    have x6 : W.cell? ⟨Bx, 6, none⟩ = some (.int .i64 x.1.c.low) := by simp [World.cell?, bX]
    have HT := hid (together_one (sumF pre).pass (sumF pre).block (sumF pre).done (sumF pre).errs (sumF pre).rt (sumF pre).low x.1.c.pass x.1.c.block x.1.c.done x.1.c.errs x.1.c.rt x.1.c.low W.heap.size 0 1 (W.alloc (.cells #[.int .i64 x.1.c.pass, .int .i64 x.1.c.block, .int .i64 x.1.c.done, .int .i64 x.1.c.errs, .int .i64 x.1.c.rt, .int .i64 x.1.c.low] 32)) HPre.out HX.out
      (hid ⟨by simp, by simp, by simp, by simp, by simp, by simp⟩) (by simp))
    clear hA1 hA0 hB bX
    gi_wp2_with (refine ⟨trivial, ?_⟩; gi_at_call 73; refine (CallsIn.inRound l (callsIn_wide.2 HT.out)).mono ?_; rintro e w3 ⟨rfl, hb3⟩; have hA1w : w3.heap[w.heap.size + 1]? = _ := ((hb3.block _ (by simp; omega)).trans (Below.heap_alloc _ _ _ hA1s)).trans HA1.out; obtain ⟨⟨t1, t2, t3, t4, t5, t6⟩, ⟨g1, g2, g3, g4, g5, g6⟩⟩ := cl_at hA1w; simp only [Nat.zero_add] at t1 t2 t3 t4 t5 t6 g1 g2 g3 g4 g5 g6; have HA1W := hid hA1w; have HB3 := hid hb3; clear hA1w hb3 s1 s2 s3 s4 s5 s6 x1 x2 x3 x4 x5 x6; unfold cv)
    have hb3 := HB3.out
    have hs3 := hb3.size
    simp only [World.size_alloc] at hs3
    have hJ : joinM ⟨(sumF pre).pass, (sumF pre).block, (sumF pre).done, (sumF pre).errs, (sumF pre).rt, (sumF pre).low⟩ ⟨x.1.c.pass, x.1.c.block, x.1.c.done, x.1.c.errs, x.1.c.rt, x.1.c.low⟩ = sumF (pre ++ [x]) := HSn.out.symm
    rw [hJ]
    have hbW : Below W.heap.size W w3 := ((Below.refl _ W).alloc (Nat.le_refl _) _).trans (hb3.mono (by simp))
    show KeepsFrom _ W (set6 w3 (w.heap.size + 1) (sumF (pre ++ [x]))) ∧ Kp _ _ W (set6 w3 (w.heap.size + 1) (sumF (pre ++ [x]))) ∧ _
    refine ⟨(keepsFrom_below _ hbW).trans ((set6_others _ _ _).from _), ⟨set6_below (hbW.mono (by omega)) _ _ (by omega), ?_⟩, ⟨set6_heap HA1W.out, ?_⟩, HB.out.trans (set6_below (hbW.mono (by omega)) _ _ (by omega))⟩
    · rw [set6_other _ _ _ _ (by omega)]
      exact hbW.block _ (by omega)
    · show (set6 w3 (w.heap.size + 1) (sumF (pre ++ [x]))).heap[w.heap.size]? = _
      rw [set6_other _ _ _ _ (by omega)]
      exact (hbW.block _ (by omega)).trans HA0.out
  case done =>
    rintro D ys W hD hys ⟨⟨hA1, hA0⟩, hB⟩ hK
    have hs1 := hB.size
    have HYs := hid hys
    have HA0 := hid hA0
    have HB := hid hB
    obtain ⟨⟨s1, s2, s3, s4, s5, s6⟩, _⟩ := cl_at hA1
    obtain ⟨⟨t1, t2, t3, t4, t5, t6⟩, ⟨g1, g2, g3, g4, g5, g6⟩⟩ := cl_at hA0
    simp only [Nat.zero_add] at s1 s2 s3 s4 s5 s6 t1 t2 t3 t4 t5 t6 g1 g2 g3 g4 g5 g6
    clear hA1 hA0 hB hys
    gi_wp2
    obtain ⟨W4, hW4⟩ : ∃ W4, set6 W w.heap.size (sumF ys) = W4 := ⟨_, rfl⟩
    have hK4 : W4.heap[D]? = some (.deferred (some [])) := by rw [← hW4, set6_other _ _ _ _ (by omega)]; exact hK
    have hA4 : (W4.putObj D (.deferred none)).heap[w.heap.size]? = some (.cells (cl (sumF ys)) 32) := by
      rw [(grownBy_putObj' W4 D (.deferred none)).block _ (by rw [← hW4]; exact Nat.lt_of_lt_of_le (by omega) (set6_below (Below.refl 0 W) _ _ (Nat.zero_le _)).size) (fun e => by cases e; omega), ← hW4]
      exact set6_heap HA0.out
    have hB4 : Below w.heap.size w (W4.putObj D (.deferred none)) := by
      have h4 : Below w.heap.size W W4 := by rw [← hW4]; exact set6_below (Below.refl _ W) _ _ (Nat.le_refl _)
      refine (hB2.trans (HB.out.trans h4)).trans ?_
      exact belowK_b (w := w) (Nat.le_refl _) W4 D _ _ (by omega) hK4 rfl rfl
    show bodyPostM _ _ _ _ _ _ _ (set6 W w.heap.size (sumF ys))
    rw [hW4]
    obtain ⟨⟨r1, r2, r3, r4, r5, r6⟩, _⟩ := cl_at hA4
    simp only [Nat.zero_add] at r1 r2 r3 r4 r5 r6
    have hS : cv (sumM (stays ((begN q at_ : Int) - s.width + q) s.bs)) = cv (sumF ys) := by rw [← HYs.out, ← sumF_map]
    refine ⟨by simp, .inl ⟨_, _, rfl, run_takeDeferred hK4, ?_⟩⟩
    rw [hS]
    refine ⟨.tuple #[cv (sumF ys), .int .i64 0], ?_, rfl, hB4⟩
    simp [results, Try.results71, go_sem, r1, r2, r3, r4, r5, r6, cv]
  case stop =>
    rintro D c pre W _ _ h _
    exact h.elim

end Go.Proofs.Ytnloedhcginopaa.WinK
