/- Contract of bucket. -/
import Derived.Test.YtnloedhcginopaaWinF
namespace Go.Proofs.Ytnloedhcginopaa.WinG
open Go.ChangeShapes Go.WideShapes Go.ChangeAt Go.RowKit Base WinM WinA WinB WinC WinD WinE WinF WldF WldG

theorem infoBk : (Try.prog.info? 115).map (fun i => (i.zero, i.size, i.bytes)) = some (some (.agg #[.int .i64 0, .int .i64 0, .int .i64 0, .int .i64 0, .int .i64 0, .int .i64 0, .int .i64 0]), 7, 56) := by kernel_rfl

theorem flat_succ (f : Nat → Bkt) (n : Nat) : flat f (n + 1) = flat f n ++ bv (f n) := by unfold flat; rw [toL_succ, List.flatMap_append]; simp
theorem flat_len (f : Nat → Bkt) (n : Nat) : (flat f n).length = n * 7 := by
  induction n with
  | zero => rfl
  | succ n ih => rw [flat_succ, List.length_append, ih]; simp [bv]; omega
theorem flat_get (f : Nat → Bkt) (n i j : Nat) (hi : i < n) (hj : j < 7) : (flat f n)[i * 7 + j]? = (bv (f i))[j]? := by
  induction n with
  | zero => omega
  | succ n ih =>
    rw [flat_succ]
    by_cases h : i < n
    · rw [List.getElem?_append_left (by rw [flat_len]; omega)]; exact ih h
    · obtain rfl : i = n := by omega
      rw [List.getElem?_append_right (by rw [flat_len]; omega), flat_len]
      congr 1
      omega

theorem own_of_bk {w : World} {g cap n : Nat} {f : Nat → Bkt} (h : IsBk w g cap n f) : w.ownsRow 0 115 7 (.slice (some ⟨g, 0, none⟩) n cap) n (flat f n) := by
  obtain ⟨cur, h1, h2, h3, h4, h5⟩ := h
  refine ⟨flat_len f n, .inr ⟨g, cap, cur, rfl, Nat.zero_le _, h1, h3, h4, h2, ?_⟩⟩
  apply List.ext_getElem?
  intro k
  by_cases hk : k < n * 7
  · have e : k = k / 7 * 7 + k % 7 := by omega
    rw [List.getElem?_take, if_pos hk, Array.getElem?_toList, e, flat_get f n (k / 7) (k % 7) (by omega) (by omega)]
    exact h5 (k / 7) (by omega) (k % 7) (by omega)
  · rw [List.getElem?_take, if_neg hk, List.getElem?_eq_none (by rw [flat_len]; omega)]

theorem bk_of_own {w : World} {base n : Nat} {v : Value} {f : Nat → Bkt} (h : w.ownsRow base 115 7 v n (flat f n)) (hn : 0 < n) : ∃ g cap, v = .slice (some ⟨g, 0, none⟩) n cap ∧ IsBk w g cap n f := by
  obtain ⟨hl, h⟩ := h
  rcases h with ⟨_, h0⟩ | ⟨g, cap, cur, hv, hg, hh, hc, hm, hs, hcur⟩
  · omega
  · refine ⟨g, cap, hv, cur, hh, hs, hc, hm, fun i hi j hj => ?_⟩
    have h1 : (cur.toList.take (n * 7))[i * 7 + j]? = (flat f n)[i * 7 + j]? := by rw [hcur]
    rw [List.getElem?_take, if_pos (by omega), flat_get f n i j hi hj, Array.getElem?_toList] at h1
    exact h1

theorem flat_snoc (f : Nat → Bkt) (n : Nat) (b : Bkt) : flat f n ++ bv b = flat (fun k => if k = n then b else f k) (n + 1) := by
  rw [flat_succ, if_pos rfl]
  congr 1
  unfold flat
  rw [toL_congr fun i hi => ?_]
  rw [if_neg (by omega)]

theorem bk_of_own' {w : World} {base n : Nat} {v : Value} {f : Nat → Bkt} {xs : List Value} (h : w.ownsRow base 115 7 v n xs) (hn : 0 < n) (e : xs = flat f n) : ∃ g cap, v = .slice (some ⟨g, 0, none⟩) n cap ∧ IsBk w g cap n f := by
  subst e; exact bk_of_own h hn

def BucketPost (p : Nat) (go : Option Nat) (s : Win) (b : Int) (n : Nat) (f : Nat → Bkt) (w : World) (e : Ending) (w' : World) : Prop :=
  ∃ g cap, e = .returned (.pointer (some ⟨g, n * 7, none⟩)) ∧ IsBk w' g cap (n + 1) (fun k => if k = n then ⟨b, ⟨0, 0, 0, 0, 0, 0⟩⟩ else f k) ∧
    w'.heap[p]? = some (.cells #[.int .i64 s.width, .int .i64 s.size, .int .i64 s.last, .slice (some ⟨g, 0, none⟩) (n + 1) cap] 112) ∧
    g ≠ p ∧ (go = some g ∨ w.heap.size ≤ g) ∧ Lets (fun k => k = p ∨ go = some k) w w'

set_option maxRecDepth 20000 in
set_option maxHeartbeats 1000000 in
theorem bucket_nil (p : Nat) (a : Option Addr) (cap0 : Nat) (go : Option Nat) (s : Win) (b : Int) (f : Nat → Bkt) (w : World)
    (hw : w.heap[p]? = some (.cells #[.int .i64 s.width, .int .i64 s.size, .int .i64 s.last, .slice a 0 cap0] 112)) (hgo : go ≠ some p) (hgl : ∀ g, go = some g → g < w.heap.size)
    (HO : Hid (w.ownsRow 0 115 7 (.slice a 0 cap0) 0 (flat f 0))) (HE : Hid ((Value.slice a 0 cap0).ownBlock = go))  :
    Calls Try.prog 83 #[.pointer (some ⟨p, 0, none⟩), .int .i64 b] w (BucketPost p go s b 0 f w) := by
  obtain ⟨i0, hi, hz0, hz1, hz2⟩ := info_parts infoBk
  have HWp := hid hw
  have HGo := hid hgo
  have HGl := hid hgl
  have hp : p < w.heap.size := (Array.getElem?_eq_some_iff.1 hw).1
  have c3 : w.cell? ⟨p, 3, none⟩ = some (.slice a 0 cap0) := by simp [World.cell?, hw]
  have f3 : w.frozen? ⟨p, 3, none⟩ = false := by simp [World.frozen?, hw]
  have hown := hid (HO.out.kept (World.grownBy_alloc w (.cells #[.int .i64 b, .int .i64 0, .int .i64 0, .int .i64 0, .int .i64 0, .int .i64 0, .int .i64 0] 115) none) (by cases (Value.slice a 0 cap0).ownBlock; exact .inl rfl; exact .inr (by simp)))
  clear hw hgo hgl
  go_enter Try.func83, Try.ntmps83
  go_wp2_with (at_builtin; refine wpList_append_own_at _ rfl _ _ 110 rfl 0 115 i0 (.agg #[.int .i64 0, .int .i64 0, .int .i64 0, .int .i64 0, .int .i64 0, .int .i64 0, .int .i64 0]) 7 56 Try.underlying110 hi hz0 hz1 hz2 rfl (by decide) _ _ _ rfl hown.out ⟨w.heap.size, 0, none⟩ 1 1 [.int .i64 b, .int .i64 0, .int .i64 0, .int .i64 0, .int .i64 0, .int .i64 0, .int .i64 0] rfl ?c1 ?c2 ?c3 ?c4 ?c5 (Nat.zero_le _) ?_; rotate_left 5; intro v' w2 hown1 hgrow hnil hat; obtain ⟨g, cap, rfl, hbk⟩ := bk_of_own' (f := fun k => if k = 0 then ⟨b, ⟨0, 0, 0, 0, 0, 0⟩⟩ else f k) hown1 (by omega) (flat_snoc f 0 ⟨b, ⟨0, 0, 0, 0, 0, 0⟩⟩); have HBK := hid hbk; have HGR := hid hgrow; have HAT := hid hat; clear hown1 hgrow hnil hat hbk; have m3 : w2.cell? ⟨p, 3, none⟩ = some (.slice a 0 cap0) := (World.cell?_of_block (a := ⟨p, 3, none⟩) ((HGR.out.block p (by simp; omega) (fun e => HGo.out (HE.out.symm.trans e.symm))).trans (Below.heap_alloc _ _ _ hp))).trans c3; have n3 : w2.frozen? ⟨p, 3, none⟩ = false := (World.frozen?_of_block (a := ⟨p, 3, none⟩) ((HGR.out.block p (by simp; omega) (fun e => HGo.out (HE.out.symm.trans e.symm))).trans (Below.heap_alloc _ _ _ hp))).trans f3; have hw2 := hid ((HGR.out.block p (by simp; omega) (fun e => HGo.out (HE.out.symm.trans e.symm))).trans (Below.heap_alloc _ _ _ hp)); clear c3 f3)
  case c1 => rfl
  case c2 =>
    intro j u hj
    rw [Go.WideShapes.add_plain, Nat.zero_add]
    exact (World.cell?_alloc_new w _ _ j).trans (by simpa using hj)
  case c3 => intro u hu; simp at hu; rcases hu with rfl | rfl <;> rfl
  case c4 => unfold maxLen; omega
  case c5 => omega
  have m3' : (w2.setCell ⟨p, 3, none⟩ (.slice (some ⟨g, 0, none⟩) (0 + 1) cap)).cell? ⟨p, 3, none⟩ = some (.slice (some ⟨g, 0, none⟩) (0 + 1) cap) := World.cell?_setCell_same _ _ _ m3
  have hgp : g ≠ p := by
    rcases HAT.out with e | e
    · intro e2; subst e2; exact HGo.out (HE.out.symm.trans e.symm)
    · have e2 : g = (w.alloc (.cells #[.int .i64 b, .int .i64 0, .int .i64 0, .int .i64 0, .int .i64 0, .int .i64 0, .int .i64 0] 115)).heap.size := Option.some.inj e
      simp at e2
      omega
  go_quiet (fail)
  go_wp2_with fail
  go_ret
  refine ⟨g, cap, rfl, HBK.out.of_block (heap_setCell_other _ _ _ _ (by simp; exact hgp)), ?_, hgp, ?_, ?_⟩
  · have h1 := HWp.out
    rw [← hw2.out] at h1
    exact heap_setCell_same _ _ _ _ _ _ h1
  · rcases HAT.out with e | e
    · exact .inl (HE.out.symm.trans e.symm)
    · right
      have e2 : g = (w.alloc (.cells #[.int .i64 b, .int .i64 0, .int .i64 0, .int .i64 0, .int .i64 0, .int .i64 0, .int .i64 0] 115)).heap.size := Option.some.inj e
      simp at e2
      omega
  · refine Lets.drewN (Lets.set ?_ _ _ (.inl (.inl rfl))) _
    exact ((Lets.refl _ w).alloc _).trans (Lets.ofGrown HGR.out (fun k e => .inr (HE.out.symm.trans e)))

set_option maxRecDepth 20000 in
set_option maxHeartbeats 1000000 in
theorem bucket_new (p : Nat) (g0 n : Nat) (x : Int) (cap0 : Nat) (go : Option Nat) (s : Win) (b : Int) (f : Nat → Bkt) (w : World)
    (hw : w.heap[p]? = some (.cells #[.int .i64 s.width, .int .i64 s.size, .int .i64 s.last, .slice (some ⟨g0, 0, none⟩) n cap0] 112)) (hgo : go ≠ some p) (hgl : ∀ g, go = some g → g < w.heap.size)
    (HO : Hid (w.ownsRow 0 115 7 (.slice (some ⟨g0, 0, none⟩) n cap0) n (flat f n))) (HE : Hid ((Value.slice (some ⟨g0, 0, none⟩) n cap0).ownBlock = go)) (hn : 0 < n) (hn2 : n ≤ 1000) (hlast : w.cell? ⟨g0, (n - 1) * 7, none⟩ = some (.int .i64 x)) (hne : x ≠ b) :
    Calls Try.prog 83 #[.pointer (some ⟨p, 0, none⟩), .int .i64 b] w (BucketPost p go s b n f w) := by
  obtain ⟨i0, hi, hz0, hz1, hz2⟩ := info_parts infoBk
  have HWp := hid hw
  have HGo := hid hgo
  have HGl := hid hgl
  have hp : p < w.heap.size := (Array.getElem?_eq_some_iff.1 hw).1
  have c3 : w.cell? ⟨p, 3, none⟩ = some (.slice (some ⟨g0, 0, none⟩) n cap0) := by simp [World.cell?, hw]
  have f3 : w.frozen? ⟨p, 3, none⟩ = false := by simp [World.frozen?, hw]
  have hown := hid (HO.out.kept (World.grownBy_alloc w (.cells #[.int .i64 b, .int .i64 0, .int .i64 0, .int .i64 0, .int .i64 0, .int .i64 0, .int .i64 0] 115) none) (by cases (Value.slice (some ⟨g0, 0, none⟩) n cap0).ownBlock; exact .inl rfl; exact .inr (by simp)))
  clear hw hgo hgl
  have c0 := hlast
  have HC0 := hid hlast
  have hne' : (x != b) = true := by simpa using hne
  have hn0 : ((n : Int) == 0) = false := by simp; omega
  clear hne
  go_enter Try.func83, Try.ntmps83
  go_wp2_with (at_builtin; refine wpList_append_own_at _ rfl _ _ 110 rfl 0 115 i0 (.agg #[.int .i64 0, .int .i64 0, .int .i64 0, .int .i64 0, .int .i64 0, .int .i64 0, .int .i64 0]) 7 56 Try.underlying110 hi hz0 hz1 hz2 rfl (by decide) _ _ _ rfl hown.out ⟨w.heap.size, 0, none⟩ 1 1 [.int .i64 b, .int .i64 0, .int .i64 0, .int .i64 0, .int .i64 0, .int .i64 0, .int .i64 0] rfl ?c1 ?c2 ?c3 ?c4 ?c5 (Nat.zero_le _) ?_; rotate_left 5; intro v' w2 hown1 hgrow hnil hat; obtain ⟨g, cap, rfl, hbk⟩ := bk_of_own' (f := fun k => if k = n then ⟨b, ⟨0, 0, 0, 0, 0, 0⟩⟩ else f k) hown1 (by omega) (flat_snoc f n ⟨b, ⟨0, 0, 0, 0, 0, 0⟩⟩); have HBK := hid hbk; have HGR := hid hgrow; have HAT := hid hat; clear hown1 hgrow hnil hat hbk; have m3 : w2.cell? ⟨p, 3, none⟩ = some (.slice (some ⟨g0, 0, none⟩) n cap0) := (World.cell?_of_block (a := ⟨p, 3, none⟩) ((HGR.out.block p (by simp; omega) (fun e => HGo.out (HE.out.symm.trans e.symm))).trans (Below.heap_alloc _ _ _ hp))).trans c3; have n3 : w2.frozen? ⟨p, 3, none⟩ = false := (World.frozen?_of_block (a := ⟨p, 3, none⟩) ((HGR.out.block p (by simp; omega) (fun e => HGo.out (HE.out.symm.trans e.symm))).trans (Below.heap_alloc _ _ _ hp))).trans f3; have hw2 := hid ((HGR.out.block p (by simp; omega) (fun e => HGo.out (HE.out.symm.trans e.symm))).trans (Below.heap_alloc _ _ _ hp)); clear c3 f3)
  case c1 => rfl
  case c2 =>
    intro j u hj
    rw [Go.WideShapes.add_plain, Nat.zero_add]
    exact (World.cell?_alloc_new w _ _ j).trans (by simpa using hj)
  case c3 => intro u hu; simp at hu; rcases hu with rfl | rfl <;> rfl
  case c4 => unfold maxLen; omega
  case c5 => omega
  have m3' : (w2.setCell ⟨p, 3, none⟩ (.slice (some ⟨g, 0, none⟩) (n + 1) cap)).cell? ⟨p, 3, none⟩ = some (.slice (some ⟨g, 0, none⟩) (n + 1) cap) := World.cell?_setCell_same _ _ _ m3
  have hgp : g ≠ p := by
    rcases HAT.out with e | e
    · intro e2; subst e2; exact HGo.out (HE.out.symm.trans e.symm)
    · have e2 : g = (w.alloc (.cells #[.int .i64 b, .int .i64 0, .int .i64 0, .int .i64 0, .int .i64 0, .int .i64 0, .int .i64 0] 115)).heap.size := Option.some.inj e
      simp at e2
      omega
  go_quiet (fail)
  go_wp2_with fail
  go_ret
  refine ⟨g, cap, rfl, HBK.out.of_block (heap_setCell_other _ _ _ _ (by simp; exact hgp)), ?_, hgp, ?_, ?_⟩
  · have h1 := HWp.out
    rw [← hw2.out] at h1
    exact heap_setCell_same _ _ _ _ _ _ h1
  · rcases HAT.out with e | e
    · exact .inl (HE.out.symm.trans e.symm)
    · right
      have e2 : g = (w.alloc (.cells #[.int .i64 b, .int .i64 0, .int .i64 0, .int .i64 0, .int .i64 0, .int .i64 0, .int .i64 0] 115)).heap.size := Option.some.inj e
      simp at e2
      omega
  · refine Lets.drewN (Lets.set ?_ _ _ (.inl (.inl rfl))) _
    exact ((Lets.refl _ w).alloc _).trans (Lets.ofGrown HGR.out (fun k e => .inr (HE.out.symm.trans e)))

set_option maxRecDepth 20000 in
set_option maxHeartbeats 1000000 in
theorem bucket_same (p : Nat) (g0 n : Nat) (cap0 : Nat) (v1 v2 v3 : Value) (b : Int) (w : World)
    (hw : w.heap[p]? = some (.cells #[v1, v2, v3, .slice (some ⟨g0, 0, none⟩) n cap0] 112)) (hn : 0 < n) (hn2 : n ≤ 1000) (hlast : w.cell? ⟨g0, (n - 1) * 7, none⟩ = some (.int .i64 b)) :
    Calls Try.prog 83 #[.pointer (some ⟨p, 0, none⟩), .int .i64 b] w fun e w' => e = .returned (.pointer (some ⟨g0, (n - 1) * 7, none⟩)) ∧ ∃ m, w.drewN m = w' := by
  have c3 : w.cell? ⟨p, 3, none⟩ = some (.slice (some ⟨g0, 0, none⟩) n cap0) := by simp [World.cell?, hw]
  have c0 := hlast
  have hn0 : ((n : Int) == 0) = false := by simp; omega
  have hbb : (b != b) = false := by simp
  clear hw
  go_enter Try.func83, Try.ntmps83
  go_wp2_with fail
  go_quiet (fail)
  go_wp2_with fail
  go_ret
  exact ⟨rfl, _, rfl⟩

end Go.Proofs.Ytnloedhcginopaa.WinG
