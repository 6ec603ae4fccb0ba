/- A sketch's bucket of a time: the last one, or a new one. -/
import Derived.Test.YtnpldfacnmhemaaSkG
import Derived.OwnWalk
import Derived.Maps.AppendAt
import Derived.Deep.QuietTactic
import Derived.BigQuiet
namespace Go.Proofs.Ytnpldfacnmhemaa.SkH
open Go.ChangeShapes Go.WideShapes Go.ChangeAt Go.RowKit Base Wri WldF WldG SkA SkB SkC SkD SkE SkF SkG

theorem infoBk : (Try.prog.info? 88).map (fun i => (i.zero, i.size, i.bytes)) = some (some (.agg #[.int .i64 0, .int .i64 0, .map none]), 3, 24) := by kernel_rfl

/-- the row's cells, one behind the other -/
def flat (f : Nat → Bk) (n : Nat) : List Value := (toL f n).flatMap bv

theorem flat_succ (f : Nat → Bk) (n : Nat) : flat f (n + 1) = flat f n ++ bv (f n) := by unfold flat; rw [toL_succ, List.flatMap_append]; simp
theorem flat_len (f : Nat → Bk) (n : Nat) : (flat f n).length = n * 3 := by
  induction n with
  | zero => rfl
  | succ n ih => rw [flat_succ, List.length_append, ih]; simp [bv]; omega
theorem flat_get (f : Nat → Bk) (n i j : Nat) (hi : i < n) (hj : j < 3) : (flat f n)[i * 3 + j]? = (bv (f i))[j]? := by
  induction n with
  | zero => omega
  | succ n ih =>
    rw [flat_succ]
    by_cases h : i < n
    · rw [List.getElem?_append_left (by rw [flat_len]; omega)]; exact ih h
    · obtain rfl : i = n := by omega
      rw [List.getElem?_append_right (by rw [flat_len]; omega), flat_len]
      congr 1
      omega

theorem own_of_bk {w : World} {g cap n : Nat} {f : Nat → Bk} (h : IsBk w g cap n f) : w.ownsRow 0 88 3 (.slice (some ⟨g, 0, none⟩) n cap) n (flat f n) := by
  obtain ⟨cur, h1, h2, h3, h4, h5⟩ := h
  refine ⟨flat_len f n, .inr ⟨g, cap, cur, rfl, Nat.zero_le _, h1, h3, h4, h2, ?_⟩⟩
  apply List.ext_getElem?
  intro k
  by_cases hk : k < n * 3
  · have e : k = k / 3 * 3 + k % 3 := by omega
    rw [List.getElem?_take, if_pos hk, Array.getElem?_toList, e, flat_get f n (k / 3) (k % 3) (by omega) (by omega)]
    exact h5 (k / 3) (by omega) (k % 3) (by omega)
  · rw [List.getElem?_take, if_neg hk, List.getElem?_eq_none (by rw [flat_len]; omega)]

theorem bk_of_own {w : World} {base n : Nat} {v : Value} {f : Nat → Bk} (h : w.ownsRow base 88 3 v n (flat f n)) (hn : 0 < n) : ∃ g cap, v = .slice (some ⟨g, 0, none⟩) n cap ∧ IsBk w g cap n f := by
  obtain ⟨hl, h⟩ := h
  rcases h with ⟨_, h0⟩ | ⟨g, cap, cur, hv, hg, hh, hc, hm, hs, hcur⟩
  · omega
  · refine ⟨g, cap, hv, cur, hh, hs, hc, hm, fun i hi j hj => ?_⟩
    have h1 : (cur.toList.take (n * 3))[i * 3 + j]? = (flat f n)[i * 3 + j]? := by rw [hcur]
    rw [List.getElem?_take, if_pos (by omega), flat_get f n i j hi hj, Array.getElem?_toList] at h1
    exact h1

theorem flat_snoc (f : Nat → Bk) (n : Nat) (b : Bk) : flat f n ++ bv b = flat (fun k => if k = n then b else f k) (n + 1) := by
  rw [flat_succ, if_pos rfl]
  congr 1
  unfold flat
  rw [toL_congr fun i hi => ?_]
  rw [if_neg (by omega)]

theorem bk_of_own' {w : World} {base n : Nat} {v : Value} {f : Nat → Bk} {xs : List Value} (h : w.ownsRow base 88 3 v n xs) (hn : 0 < n) (e : xs = flat f n) : ∃ g cap, v = .slice (some ⟨g, 0, none⟩) n cap ∧ IsBk w g cap n f := by
  subst e; exact bk_of_own h hn

/-- a bucket of nothing is put behind the others, with a map of its own -/
def NewPost (p : Nat) (go : Option Nat) (X : Shp) (last : Int) (b : Int) (n : Nat) (f : Nat → Bk) (w : World) (e : Ending) (w' : World) : Prop :=
  ∃ g cap, e = .returned (.pointer (some ⟨g, n * 3, none⟩)) ∧ IsBk w' g cap (n + 1) (fun k => if k = n then ⟨b, 0, w.heap.size⟩ else f k) ∧
    w'.heap[p]? = some (.cells (sv X last (.slice (some ⟨g, 0, none⟩) (n + 1) cap)) 83) ∧ w'.heap[w.heap.size]? = some (.map #[] 0) ∧
    g ≠ p ∧ g ≠ w.heap.size ∧ (go = some g ∨ w.heap.size ≤ g) ∧ Wr (fun k => k = p ∨ go = some k) w w'

set_option maxRecDepth 20000 in
set_option maxHeartbeats 1000000 in
theorem bucket_nil (p : Nat) (a : Option Addr) (cap0 : Nat) (go : Option Nat) (X : Shp) (last : Int) (b : Int) (f : Nat → Bk) (w : World)
    (hw : w.heap[p]? = some (.cells (sv X last (Value.slice a 0 cap0)) 83)) (hgo : go ≠ some p) (hgl : ∀ g, go = some g → g < w.heap.size)
    (HO : Hid (w.ownsRow 0 88 3 (Value.slice a 0 cap0) 0 (flat f 0))) (HE : Hid ((Value.slice a 0 cap0).ownBlock = go)) :
    Calls Try.prog 37 #[.pointer (some ⟨p, 0, none⟩), .int .i64 b] w (NewPost p go X last b 0 f w) := by
  obtain ⟨i0, hi, hz0, hz1, hz2⟩ := info_parts infoBk
  have HWp := hid hw
  have HGo := hid hgo
  have HGl := hid hgl
  have hp : p < w.heap.size := (Array.getElem?_eq_some_iff.1 hw).1
  obtain ⟨-, -, -, -, -, -, c6, hfz⟩ := sv_cells hw
  have f6 := hfz 6
  have hown := hid (World.ownsRow.alloc (World.ownsRow.alloc HO.out (.map #[] 0)) (.cells #[.int .i64 b, .int .i64 0, .map (some w.heap.size)] 88))
  have hmp : Hid (w.heap.size < ((w.alloc (.map #[] 0)).alloc (.cells #[.int .i64 b, .int .i64 0, .map (some w.heap.size)] 88)).heap.size) := hid (by simp; omega)
  have hmm : Hid (((w.alloc (.map #[] 0)).alloc (.cells #[.int .i64 b, .int .i64 0, .map (some w.heap.size)] 88)).heap[w.heap.size]? = some (.map #[] 0)) := hid ((Below.heap_alloc _ _ _ (by simp)).trans (heap_alloc_new w _))
  have hmk : (Instr.makeMap 86 none).run Try.prog w = .ok (.map (some w.heap.size)) (w.alloc (.map #[] 0)) := run_makeMap _ _
  clear hw hgo hgl hfz
  go_enter Try.func37, Try.ntmps37
  go_wp2_with (at_builtin; refine wpList_append_own_at _ rfl _ _ 81 rfl 0 88 i0 (.agg #[.int .i64 0, .int .i64 0, .map none]) 3 24 Try.underlying81 hi hz0 hz1 hz2 rfl (by decide) (Value.slice a 0 cap0) _ _ rfl hown.out ⟨w.heap.size + 1, 0, none⟩ 1 1 [.int .i64 b, .int .i64 0, .map (some w.heap.size)] rfl ?c1 ?c2 ?c3 ?c4 ?c5 (Nat.zero_le _) ?_; rotate_left 5; intro v' w2 hown1 hgrow hnil hat
               obtain ⟨g, cap, rfl, hbk⟩ := bk_of_own' (f := fun k => if k = 0 then ⟨b, 0, w.heap.size⟩ else f k) hown1 (by omega) (flat_snoc f 0 ⟨b, 0, w.heap.size⟩)
               have HBK := hid hbk
               have HGR := hid hgrow
               have HAT := hid hat
               clear hown1 hgrow hnil hat hbk
               have hpb : w2.heap[p]? = w.heap[p]? := (HGR.out.block p (by simp; omega) (fun e => HGo.out (HE.out.symm.trans e.symm))).trans ((Below.heap_alloc _ _ _ (by simp; omega)).trans (Below.heap_alloc _ _ _ hp))
               have m6 : w2.cell? ⟨p, 6, none⟩ = some (Value.slice a 0 cap0) := (World.cell?_of_block (a := ⟨p, 6, none⟩) hpb).trans c6
               have n6 : w2.frozen? ⟨p, 6, none⟩ = false := (World.frozen?_of_block (a := ⟨p, 6, none⟩) hpb).trans f6
               have hw2 := hid hpb
               have hmw : Hid (w2.heap[w.heap.size]? = some (.map #[] 0)) := hid ((HGR.out.block w.heap.size hmp.out (fun e => by have := HGl.out w.heap.size (HE.out.symm.trans e.symm); omega)).trans hmm.out)
               clear hpb c6 f6)
  case c1 => rfl
  case c2 =>
    intro j u hj
    rw [Go.WideShapes.add_plain, Nat.zero_add]
    have := World.cell?_alloc_new (w.alloc (.map #[] 0)) (#[.int .i64 b, .int .i64 0, .map (some w.heap.size)] : Array Value) 88 j
    rw [World.size_alloc] at this
    exact this.trans (by simpa using hj)
  case c3 => intro u hu; simp at hu; rcases hu with rfl | rfl | rfl <;> rfl
  case c4 => unfold maxLen; omega
  case c5 => omega
  have hgp : g ≠ p := by
    rcases HAT.out with e | e
    · intro e2; subst e2; exact HGo.out (HE.out.symm.trans e.symm)
    · have e2 : g = ((w.alloc (.map #[] 0)).alloc (.cells #[.int .i64 b, .int .i64 0, .map (some w.heap.size)] 88)).heap.size := Option.some.inj e
      simp at e2
      omega
  have hgm : g ≠ w.heap.size := by
    rcases HAT.out with e | e
    · intro e2; have := HGl.out g (HE.out.symm.trans e.symm); omega
    · have e2 : g = ((w.alloc (.map #[] 0)).alloc (.cells #[.int .i64 b, .int .i64 0, .map (some w.heap.size)] 88)).heap.size := Option.some.inj e
      simp at e2
      omega
  have m6' : (w2.setCell ⟨p, 6, none⟩ (.slice (some ⟨g, 0, none⟩) (0 + 1) cap)).cell? ⟨p, 6, none⟩ = some (.slice (some ⟨g, 0, none⟩) (0 + 1) cap) := World.cell?_setCell_same _ _ _ m6
  have HM6 := hid (heap_setCell_same w2 p 6 _ _ (.slice (some ⟨g, 0, none⟩) (0 + 1) cap) (hw2.out.trans HWp.out))
  go_quiet (fail)
  go_wp2_with fail
  go_ret
  refine ⟨g, cap, rfl, HBK.out.of_block (heap_setCell_other _ _ _ _ (by simp; exact hgp)), HM6.out, (heap_setCell_other _ _ _ _ (by simp; omega)).trans hmw.out, hgp, hgm, ?_, ?_⟩
  · rcases HAT.out with e | e
    · exact .inl (HE.out.symm.trans e.symm)
    · right
      have e2 : g = ((w.alloc (.map #[] 0)).alloc (.cells #[.int .i64 b, .int .i64 0, .map (some w.heap.size)] 88)).heap.size := Option.some.inj e
      simp at e2
      omega
  · refine Wr.drewN (Wr.trans ?_ (Wr.set ⟨p, 6, none⟩ _ (.inl rfl))) _
    exact (Wr.ofBelow (((Below.refl _ w).alloc (Nat.le_refl _) _).alloc (by simp) _)).trans (Wr.ofGrown HGR.out (fun k e => .inr (HE.out.symm.trans e)))

set_option maxRecDepth 20000 in
set_option maxHeartbeats 1000000 in
theorem bucket_new (p : Nat) (g0 n : Nat) (x : Int) (cap0 : Nat) (go : Option Nat) (X : Shp) (last : Int) (b : Int) (f : Nat → Bk) (w : World)
    (hw : w.heap[p]? = some (.cells (sv X last (Value.slice (some ⟨g0, 0, none⟩) n cap0)) 83)) (hgo : go ≠ some p) (hgl : ∀ g, go = some g → g < w.heap.size)
    (HO : Hid (w.ownsRow 0 88 3 (Value.slice (some ⟨g0, 0, none⟩) n cap0) n (flat f n))) (HE : Hid ((Value.slice (some ⟨g0, 0, none⟩) n cap0).ownBlock = go)) (hn : 0 < n) (hn2 : n ≤ 1000) (hlast : w.cell? ⟨g0, (n - 1) * 3, none⟩ = some (.int .i64 x)) (hne : x ≠ b) :
    Calls Try.prog 37 #[.pointer (some ⟨p, 0, none⟩), .int .i64 b] w (NewPost p go X last b n f w) := by
  obtain ⟨i0, hi, hz0, hz1, hz2⟩ := info_parts infoBk
  have HWp := hid hw
  have HGo := hid hgo
  have HGl := hid hgl
  have hp : p < w.heap.size := (Array.getElem?_eq_some_iff.1 hw).1
  obtain ⟨-, -, -, -, -, -, c6, hfz⟩ := sv_cells hw
  have f6 := hfz 6
  have hown := hid (World.ownsRow.alloc (World.ownsRow.alloc HO.out (.map #[] 0)) (.cells #[.int .i64 b, .int .i64 0, .map (some w.heap.size)] 88))
  have hmp : Hid (w.heap.size < ((w.alloc (.map #[] 0)).alloc (.cells #[.int .i64 b, .int .i64 0, .map (some w.heap.size)] 88)).heap.size) := hid (by simp; omega)
  have hmm : Hid (((w.alloc (.map #[] 0)).alloc (.cells #[.int .i64 b, .int .i64 0, .map (some w.heap.size)] 88)).heap[w.heap.size]? = some (.map #[] 0)) := hid ((Below.heap_alloc _ _ _ (by simp)).trans (heap_alloc_new w _))
  have hmk : (Instr.makeMap 86 none).run Try.prog w = .ok (.map (some w.heap.size)) (w.alloc (.map #[] 0)) := run_makeMap _ _
  clear hw hgo hgl hfz
  have c0 := hlast
  have hne' : (x != b) = true := by simpa using hne
  have hn0 : ((n : Int) == 0) = false := by simp; omega
  clear hne
  go_enter Try.func37, Try.ntmps37
  go_wp2_with (at_builtin; refine wpList_append_own_at _ rfl _ _ 81 rfl 0 88 i0 (.agg #[.int .i64 0, .int .i64 0, .map none]) 3 24 Try.underlying81 hi hz0 hz1 hz2 rfl (by decide) (Value.slice (some ⟨g0, 0, none⟩) n cap0) _ _ rfl hown.out ⟨w.heap.size + 1, 0, none⟩ 1 1 [.int .i64 b, .int .i64 0, .map (some w.heap.size)] rfl ?c1 ?c2 ?c3 ?c4 ?c5 (Nat.zero_le _) ?_; rotate_left 5; intro v' w2 hown1 hgrow hnil hat
               obtain ⟨g, cap, rfl, hbk⟩ := bk_of_own' (f := fun k => if k = n then ⟨b, 0, w.heap.size⟩ else f k) hown1 (by omega) (flat_snoc f n ⟨b, 0, w.heap.size⟩)
               have HBK := hid hbk
               have HGR := hid hgrow
               have HAT := hid hat
               clear hown1 hgrow hnil hat hbk
               have hpb : w2.heap[p]? = w.heap[p]? := (HGR.out.block p (by simp; omega) (fun e => HGo.out (HE.out.symm.trans e.symm))).trans ((Below.heap_alloc _ _ _ (by simp; omega)).trans (Below.heap_alloc _ _ _ hp))
               have m6 : w2.cell? ⟨p, 6, none⟩ = some (Value.slice (some ⟨g0, 0, none⟩) n cap0) := (World.cell?_of_block (a := ⟨p, 6, none⟩) hpb).trans c6
               have n6 : w2.frozen? ⟨p, 6, none⟩ = false := (World.frozen?_of_block (a := ⟨p, 6, none⟩) hpb).trans f6
               have hw2 := hid hpb
               have hmw : Hid (w2.heap[w.heap.size]? = some (.map #[] 0)) := hid ((HGR.out.block w.heap.size hmp.out (fun e => by have := HGl.out w.heap.size (HE.out.symm.trans e.symm); omega)).trans hmm.out)
               clear hpb c6 f6)
  case c1 => rfl
  case c2 =>
    intro j u hj
    rw [Go.WideShapes.add_plain, Nat.zero_add]
    have := World.cell?_alloc_new (w.alloc (.map #[] 0)) (#[.int .i64 b, .int .i64 0, .map (some w.heap.size)] : Array Value) 88 j
    rw [World.size_alloc] at this
    exact this.trans (by simpa using hj)
  case c3 => intro u hu; simp at hu; rcases hu with rfl | rfl | rfl <;> rfl
  case c4 => unfold maxLen; omega
  case c5 => omega
  have hgp : g ≠ p := by
    rcases HAT.out with e | e
    · intro e2; subst e2; exact HGo.out (HE.out.symm.trans e.symm)
    · have e2 : g = ((w.alloc (.map #[] 0)).alloc (.cells #[.int .i64 b, .int .i64 0, .map (some w.heap.size)] 88)).heap.size := Option.some.inj e
      simp at e2
      omega
  have hgm : g ≠ w.heap.size := by
    rcases HAT.out with e | e
    · intro e2; have := HGl.out g (HE.out.symm.trans e.symm); omega
    · have e2 : g = ((w.alloc (.map #[] 0)).alloc (.cells #[.int .i64 b, .int .i64 0, .map (some w.heap.size)] 88)).heap.size := Option.some.inj e
      simp at e2
      omega
  have m6' : (w2.setCell ⟨p, 6, none⟩ (.slice (some ⟨g, 0, none⟩) (n + 1) cap)).cell? ⟨p, 6, none⟩ = some (.slice (some ⟨g, 0, none⟩) (n + 1) cap) := World.cell?_setCell_same _ _ _ m6
  have HM6 := hid (heap_setCell_same w2 p 6 _ _ (.slice (some ⟨g, 0, none⟩) (n + 1) cap) (hw2.out.trans HWp.out))
  go_quiet (fail)
  go_wp2_with fail
  go_ret
  refine ⟨g, cap, rfl, HBK.out.of_block (heap_setCell_other _ _ _ _ (by simp; exact hgp)), HM6.out, (heap_setCell_other _ _ _ _ (by simp; omega)).trans hmw.out, hgp, hgm, ?_, ?_⟩
  · rcases HAT.out with e | e
    · exact .inl (HE.out.symm.trans e.symm)
    · right
      have e2 : g = ((w.alloc (.map #[] 0)).alloc (.cells #[.int .i64 b, .int .i64 0, .map (some w.heap.size)] 88)).heap.size := Option.some.inj e
      simp at e2
      omega
  · refine Wr.drewN (Wr.trans ?_ (Wr.set ⟨p, 6, none⟩ _ (.inl rfl))) _
    exact (Wr.ofBelow (((Below.refl _ w).alloc (Nat.le_refl _) _).alloc (by simp) _)).trans (Wr.ofGrown HGR.out (fun k e => .inr (HE.out.symm.trans e)))

theorem bucket_same (p : Nat) (g0 n : Nat) (cap0 : Nat) (X : Shp) (last : Int) (b : Int) (w : World)
    (hw : w.heap[p]? = some (.cells (sv X last (.slice (some ⟨g0, 0, none⟩) n cap0)) 83)) (hn : 0 < n) (hn2 : n ≤ 1000) (hlast : w.cell? ⟨g0, (n - 1) * 3, none⟩ = some (.int .i64 b)) :
    Calls Try.prog 37 #[.pointer (some ⟨p, 0, none⟩), .int .i64 b] w fun e w' => e = .returned (.pointer (some ⟨g0, (n - 1) * 3, none⟩)) ∧ ∃ m, w.drewN m = w' := by
  obtain ⟨-, -, -, -, -, -, c6, -⟩ := sv_cells hw
  have c0 := hlast
  have hn0 : ((n : Int) == 0) = false := by simp; omega
  have hbb : (b != b) = false := by simp
  clear hw
  go_enter Try.func37, Try.ntmps37
  go_wp2_with fail
  go_quiet (fail)
  go_wp2_with fail
  go_ret
  exact ⟨rfl, _, rfl⟩

end Go.Proofs.Ytnpldfacnmhemaa.SkH
