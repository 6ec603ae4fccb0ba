/- The program's Fork of a sketch: all of it in memory of its own. -/
import Derived.Test.YtnpldfacnmhemaaSruD
namespace Go.Proofs.Ytnpldfacnmhemaa.SruE
open Go.ChangeShapes Go.WideShapes Go.ChangeAt Go.RowKit Go.Deep Base Wri Map WldA WldF WldG SkK SkA SkB SkC SkD SkE SkF SkG SkH SkI SkJ SkL SkM SkN SkP SkQ SkR SkS SkT SruD
set_option linter.unusedVariables false

variable {w w' : World} {p q last t : Nat} {go : Option Nat} {X : Shp} {ns : List Note} {qs : List Nat} {mpf : Nat → Nat}

def ForkPost (w : World) (X : Shp) (q last : Nat) (ns : List Note) (qs : List Nat) (e : Ending) (w' : World) : Prop :=
  ∃ p' go' mpf', e = .returned (.pointer (some ⟨p', 0, none⟩)) ∧ Full w' p' go' X q last ns qs mpf' ∧ (∀ k, Ft p' go' qs mpf' k → w.heap.size ≤ k) ∧ Below w.heap.size w w'

set_option maxRecDepth 20000 in
set_option maxHeartbeats 1000000 in
theorem fork_none (h : Full w p none X q last ns qs mpf) :
    Calls Try.prog 8 #[.pointer (some ⟨p, 0, none⟩)] w (ForkPost w X q last ns qs) := by
  have HH := hid h
  obtain ⟨hgo, v, hp, hv⟩ := h.sk
  rcases hv with ⟨_, rfl, hbs⟩ | ⟨g, cap, f, e, _⟩
  case inr => cases e
  have hqs : qs = [] := by
    have := congrArg List.length hbs
    rw [bs_len] at this
    exact List.length_eq_zero_iff.1 this
  subst hqs
  have hpl := (Array.getElem?_eq_some_iff.1 hp).1
  obtain ⟨c0, c1, c2, c3, c4, c5, c6, cf⟩ := sv_cells hp
  have HP := hid hp
  clear h hp cf hbs hgo
  go_enter Try.func8, Try.ntmps8
  go_wp2_with fail
  refine (bclone_nil _).mono ?_
  rintro e w1 ⟨rfl, rfl⟩
  go_wp2_with fail
  go_loop [20] (fun i => i = .int .i64 0) (fun i => 0)
  case atStart => rfl
  case round =>
    obtain rfl := hrel
    go_wp2_with fail
    go_ret
    refine ⟨w.heap.size, none, mpf, rfl, ⟨HH.out.ok, ⟨by simp, .slice none 0 0, heap_alloc_new w _, .inl ⟨rfl, rfl, rfl⟩⟩, fun b hb => (by cases hb), fun b hb => (by cases hb), fun b hb => (by cases hb), HH.out.inv, HH.out.late⟩, fun k hk => ?_, (by repeat (first | (with_reducible exact Below.refl _ _) | (with_reducible refine Below.setCell ?_ (by first | (simp; done) | (simp; omega) | omega) _) | (with_reducible refine Below.alloc ?_ (by first | (simp; done) | (simp; omega) | omega) _) | (with_reducible refine Below.drew ?_) | (with_reducible refine below_drewN ?_ _)))⟩
    rcases hk with rfl | hk | ⟨b, hb, _⟩
    · exact Nat.le_refl _
    · cases hk
    · cases hb

def fk (f : Nat → Bk) (M : Nat → Nat) (k : Nat) : Nat → Bk := fun i => if i < k then ⟨(f i).at_, (f i).tot, M i⟩ else f i
theorem fk_lt {f : Nat → Bk} {M : Nat → Nat} {k i : Nat} (h : i < k) : fk f M k i = ⟨(f i).at_, (f i).tot, M i⟩ := if_pos h
theorem fk_ge {f : Nat → Bk} {M : Nat → Nat} {k i : Nat} (h : ¬ i < k) : fk f M k i = f i := if_neg h

/-- the first k maps are copied -/
structure Fk (w : World) (g2 c2 n : Nat) (f : Nat → Bk) (X : Shp) (last : Int) (k : Nat) (M : Nat → Nat) (wr : World) : Prop where
  sk : wr.heap[w.heap.size]? = some (.cells (sv X last (.slice (some ⟨g2, 0, none⟩) n c2)) 83)
  bk : IsBk wr g2 c2 n (fk f M k)
  maps : ∀ i, i < k → wr.heap[M i]? = w.heap[(f i).mp]? ∧ w.heap.size < M i ∧ M i ≠ g2 ∧ M i < wr.heap.size
  inj : ∀ i j, i < k → j < k → M i = M j → i = j
  bel : Below w.heap.size w wr
  lt : w.heap.size < g2

theorem Fk.step {g2 c2 n k : Nat} {f : Nat → Bk} {M : Nat → Nat} {wr : World} {es : Array MapEntry} {clock : Nat} {o : Obj} (h : Fk w g2 c2 n f X last k M wr) (hk : k < n) (hm : w.heap[(f k).mp]? = some (.map es clock)) :
    Fk w g2 c2 n f X last (k + 1) (fun i => if i = k then wr.heap.size + 1 else M i) (((wr.setCell ⟨g2, k * 3 + 2, none⟩ (.map (some (wr.heap.size + 1)))).alloc o).alloc (.map es clock)).drew := by
  have hs := h.bel.size
  have hg2 := h.bk.lt
  have hlt := h.lt
  generalize hwz : wr.setCell ⟨g2, k * 3 + 2, none⟩ (.map (some (wr.heap.size + 1))) = wz
  have hz : wz.heap.size = wr.heap.size := by rw [← hwz]; simp
  have bz : Below w.heap.size w wz := by rw [← hwz]; exact h.bel.setCell (by show _ ≤ g2; omega) _
  have kz : ∀ j, j ≠ g2 → wz.heap[j]? = wr.heap[j]? := fun j hn => by rw [← hwz]; exact heap_setCell_other _ _ _ _ (by show j ≠ g2; exact hn)
  have iz : IsBk wz g2 c2 n (fk f (fun i => if i = k then wr.heap.size + 1 else M i) (k + 1)) := by
    obtain ⟨cur, h1, h2, h3, h4, h5⟩ := h.bk
    refine ⟨cur.setIfInBounds (k * 3 + 2) (.map (some (wr.heap.size + 1))), by rw [← hwz]; exact heap_setCell_same _ _ _ _ _ _ h1, by simpa using h2, h3, h4, fun i hi j hj => ?_⟩
    by_cases e : i = k
    · subst e
      have := h5 i hi j hj
      rw [fk_ge (by omega)] at this
      rw [fk_lt (by omega), if_pos rfl]
      rcases (by omega : j = 0 ∨ j = 1 ∨ j = 2) with rfl | rfl | rfl
      · rw [Array.getElem?_setIfInBounds_ne (by omega)]; exact this
      · rw [Array.getElem?_setIfInBounds_ne (by omega)]; exact this
      · simp [Array.getElem?_setIfInBounds, bv]; omega
    · rw [Array.getElem?_setIfInBounds_ne (by omega), h5 i hi j hj]
      by_cases hik : i < k
      · rw [fk_lt hik, fk_lt (by omega), if_neg e]
      · rw [fk_ge hik, fk_ge (by omega)]
  clear hwz
  have a1 : Below wz.heap.size wz ((wz.alloc o).alloc (.map es clock)).drew := (((Below.refl _ wz).alloc (Nat.le_refl _) _).alloc (by simp) _).drew
  have hsz : ((wz.alloc o).alloc (.map es clock)).drew.heap.size = wr.heap.size + 2 := by show ((wz.alloc o).alloc (.map es clock)).heap.size = _; simp; omega
  have keep : ∀ j, j < wr.heap.size → j ≠ g2 → ((wz.alloc o).alloc (.map es clock)).drew.heap[j]? = wr.heap[j]? := fun j hj hn => (a1.block j (by omega)).trans (kz j hn)
  have hnew : ((wz.alloc o).alloc (.map es clock)).drew.heap[wr.heap.size + 1]? = some (.map es clock) := by
    have := heap_alloc_new (wz.alloc o) (.map es clock)
    rw [World.size_alloc, hz] at this
    exact this
  refine ⟨(keep w.heap.size (by omega) (by omega)).trans h.sk, iz.of_block (a1.block g2 (by omega)), fun i hi => ?_, fun i j hi hj e => ?_, bz.trans (a1.mono (by omega)), h.lt⟩
  · by_cases e : i = k
    · subst e
      rw [if_pos rfl]
      exact ⟨hnew.trans hm.symm, by omega, by omega, by omega⟩
    · rw [if_neg e]
      obtain ⟨m1, m2, m3, m4⟩ := h.maps i (by omega)
      exact ⟨(keep _ m4 m3).trans m1, m2, m3, by omega⟩
  · by_cases e1 : i = k <;> by_cases e2 : j = k
    · omega
    · rw [if_pos e1, if_neg e2] at e
      have := (h.maps j (by omega)).2.2.2; omega
    · rw [if_neg e1, if_pos e2] at e
      have := (h.maps i (by omega)).2.2.2; omega
    · rw [if_neg e1, if_neg e2] at e
      exact h.inj i j (by omega) (by omega) e

theorem num_moved {mb mb' : Nat} {m : Nat → Nat → Nat} (h : Num w mb m) (e : w'.heap[mb']? = w.heap[mb]?) : Num w' mb' m := by
  obtain ⟨F, n, ⟨es, clock, h1, h2⟩, h3⟩ := h
  exact ⟨F, n, ⟨es, clock, e.trans h1, h2⟩, h3⟩

/-- when all of them are -/
theorem Fk.done {g g2 c2 n : Nat} {f : Nat → Bk} {M : Nat → Nat} {wr : World} (hF : Full w p (some g) X q last ns qs mpf) (hn : qs.length = n) (hf : toL f n = bsOf q ns mpf qs) (h : Fk w g2 c2 n f X last n M wr) :
    ∃ mpf', Full wr w.heap.size (some g2) X q last ns qs mpf' ∧ (∀ k, Ft w.heap.size (some g2) qs mpf' k → w.heap.size ≤ k) ∧ Below w.heap.size w wr := by
  subst hn
  have nd : qs.Nodup := hF.inv.rise.imp (fun h => Nat.ne_of_lt h)
  have at_ : ∀ b ∈ qs, ∃ i, ∃ hi : i < qs.length, qs[i] = b ∧ qs.idxOf b = i := fun b hb => by
    obtain ⟨i, hi, e⟩ := List.getElem_of_mem hb
    exact ⟨i, hi, e, by rw [← e]; exact nd.idxOf_getElem i hi⟩
  have mp : ∀ i, ∀ hi : i < qs.length, (f i).mp = mpf qs[i] := fun i hi => by rw [bs_at hf hi]
  have key : ∀ b ∈ qs, ∃ i, i < qs.length ∧ qs.idxOf b = i ∧ wr.heap[M i]? = w.heap[mpf b]? ∧ w.heap.size < M i ∧ M i ≠ g2 := fun b hb => by
    obtain ⟨i, hi, e1, e2⟩ := at_ b hb
    obtain ⟨m1, m2, m3, _⟩ := h.maps i hi
    rw [mp i hi, e1] at m1
    exact ⟨i, hi, e2, m1, m2, m3⟩
  have hlt := h.lt
  refine ⟨fun b => M (qs.idxOf b), ⟨hF.ok, ⟨by simp; omega, _, h.sk, .inr ⟨g2, c2, fk f M qs.length, rfl, by rw [bs_len], by rw [bs_len]; exact h.bk, ?_⟩⟩, fun b hb => ?_, fun b hb => ?_, fun b hb b' hb' e => ?_, hF.inv, hF.late⟩, fun k hk => ?_, h.bel⟩
  · rw [bs_len]
    refine List.ext_getElem? fun i => ?_
    unfold bsOf toL
    by_cases hi : i < qs.length
    · simp only [List.getElem?_map, List.getElem?_range hi, List.getElem?_eq_getElem hi, Option.map_some]
      rw [fk_lt hi, nd.idxOf_getElem i hi, bs_at hf hi]
    · rw [List.getElem?_eq_none (by simp; omega), List.getElem?_eq_none (by simp; omega)]
  · obtain ⟨i, hi, e, m1, _⟩ := key b hb
    exact num_moved (hF.nums b hb) (by rw [e]; exact m1)
  · obtain ⟨i, hi, e, _, m2, m3⟩ := key b hb
    rw [e]
    exact ⟨by omega, fun h => m3 (Option.some.inj h).symm⟩
  · obtain ⟨i, hi, e1, e2⟩ := at_ b hb
    obtain ⟨j, hj, e3, e4⟩ := at_ b' hb'
    rw [e2, e4] at e
    have := h.inj i j hi hj e
    subst this
    exact e1.symm.trans e3
  · rcases hk with rfl | hk | ⟨b, hb, rfl⟩
    · exact Nat.le_refl _
    · have := Option.some.inj hk; omega
    · obtain ⟨i, hi, e, _, m2, m3⟩ := key b hb
      dsimp only
      rw [e]
      omega

set_option maxRecDepth 20000 in
set_option maxHeartbeats 4000000 in
theorem fork_some (g : Nat) (h : Full w p (some g) X q last ns qs mpf) :
    Calls Try.prog 8 #[.pointer (some ⟨p, 0, none⟩)] w (ForkPost w X q last ns qs) := by
  have HH := hid h
  obtain ⟨hgo, v, hp, hv⟩ := h.sk
  rcases hv with ⟨e, _⟩ | ⟨g', cap, f, e, rfl, hbk, htl⟩
  case inl => cases e
  cases e
  obtain ⟨n, hne⟩ : ∃ n, qs.length = n := ⟨_, rfl⟩
  have hn : n ≤ 60 := by have := h.len; omega
  rw [bs_len, hne] at hp hbk htl
  have HNE := hid hne
  have HTL := hid htl
  have HBK := hid hbk
  have hpl := (Array.getElem?_eq_some_iff.1 hp).1
  have hgl := hbk.lt
  obtain ⟨c0, c1, c2, c3, c4, c5, c6, cf⟩ := sv_cells hp
  have HP := hid hp
  clear h hp cf hgo hne htl hbk
  go_enter Try.func8, Try.ntmps8
  go_wp2_with fail
  refine (bclone_some g cap n f _ (by omega) (HBK.out.below ((Below.refl _ w).alloc (Nat.le_refl _) _) hgl)).mono ?_
  rintro e w1 ⟨g2, cc2, rfl, hg2, hbk2, hb1⟩
  have hfp : w.heap.size < w1.heap.size := by have := hb1.size; simp at this; omega
  have hg3 : w.heap.size < g2 := by simp at hg2; omega
  have HSK : Hid (w1.heap[w.heap.size]? = some (.cells #[.int .i64 X.wd, .int .i64 X.bk, .int .i64 X.ro, .int .i64 X.co, .int .u64 X.seed, .int .i64 last, .slice (some ⟨g, 0, none⟩) n cap] 83)) := hid ((hb1.block w.heap.size (by simp)).trans (heap_alloc_new w _))
  have k6 : w1.cell? ⟨w.heap.size, 6, none⟩ = some (.slice (some ⟨g, 0, none⟩) n cap) := by unfold World.cell?; rw [HSK.out]; rfl
  have f6 : w1.frozen? ⟨w.heap.size, 6, none⟩ = false := by unfold World.frozen?; rw [HSK.out]; rfl
  have HBK2 := hid hbk2
  have HB1 : Hid (Below w.heap.size w w1) := hid (((Below.refl _ w).alloc (Nat.le_refl _) _).trans (hb1.mono (by simp)))
  have HST : Hid (Fk w g2 cc2 n f X last 0 (fun _ => 0) (w1.setCell ⟨w.heap.size, 6, none⟩ (.slice (some ⟨g2, 0, none⟩) n cc2))) := hid ⟨heap_setCell_same _ _ _ _ _ _ HSK.out, (HBK2.out.of_block (heap_setCell_other _ _ _ _ (by show g2 ≠ w.heap.size; omega))).congr (fun i hi => (fk_ge (by omega)).symm), fun i hi => by omega, fun i j hi => by omega, HB1.out.setCell (Nat.le_refl _) _, hg3⟩
  clear hb1 hbk2 hg2 c0 c1 c2 c3 c4 c5 c6
  go_wp2_with fail
  go_loopw [20] (fun i wr => ∃ (k : Nat) (M : Nat → Nat), k ≤ n ∧ i = .int .i64 k ∧ Fk w g2 cc2 n f X last k M wr) (fun i _ => n - (intOf i).toNat)
  case atStart => exact ⟨0, _, Nat.zero_le _, rfl, HST.out⟩
  case round =>
    obtain ⟨k, M, hk, rfl, hF⟩ := hrel
    have HF := hid hF
    clear hF
    have hws := HF.out.bel.size
    by_cases hlt : k < n
    · obtain ⟨k0, k1, k2⟩ := HF.out.bk.at3 k hlt
      rw [fk_ge (by omega)] at k0 k1 k2
      have kf := HF.out.bk.frozen (k * 3 + 2)
      have hgl2 := HF.out.bk.lt
      have ks6 : wr.cell? ⟨w.heap.size, 6, none⟩ = some (.slice (some ⟨g2, 0, none⟩) n cc2) := by unfold World.cell?; rw [HF.out.sk]; rfl
      have hfpr : w.heap.size < wr.heap.size := (Array.getElem?_eq_some_iff.1 HF.out.sk).1
      have hmp : ∃ es clock, w.heap[(f k).mp]? = some (.map es clock) := by
        have hkq : k < qs.length := by rw [HNE.out]; exact hlt
        have e := bs_at (by rw [HNE.out]; exact HTL.out) hkq
        have hnum := HH.out.nums qs[k] (List.getElem_mem hkq)
        obtain ⟨F, m, ⟨es, clock, h1, _⟩, _⟩ := hnum
        exact ⟨es, clock, by rw [e]; exact h1⟩
      obtain ⟨es, clock, hmp⟩ := hmp
      have hml := (Array.getElem?_eq_some_iff.1 hmp).1
      have HMP := hid hmp
      have HNX := hid (HF.out.step hlt hmp (o := .cells #[.int .i64 (f k).at_, .int .i64 (f k).tot, .map (some (f k).mp)] 88))
      have hmr : wr.heap[(f k).mp]? = some (.map es clock) := (HF.out.bel.block _ hml).trans hmp
      have HMR := hid hmr
      clear hmp hmr
      generalize (f k).at_ = x0 at *
      generalize (f k).tot = x1 at *
      generalize (f k).mp = mp at *
      have hml2 : mp < wr.heap.size := by omega
      have hkn : (k : Int) < (n : Int) := by omega
      go_wp2_with fail
      have HC := hid (mclone_any mp es clock ((wr.alloc (.cells #[.int .i64 x0, .int .i64 x1, .map (some mp)] 88)).drew) ((Below.heap_alloc wr _ mp hml2).trans HMR.out))
      go_region_with (go_at_call 31; refine HC.out.mono ?_; rintro e w3 ⟨rfl, rfl⟩)
      all_goals go_wp2_with fail
      all_goals exact ⟨⟨k + 1, _, by omega, by first | rfl | go_num, HNX.out⟩, by simp [intOf]; omega⟩
    · obtain rfl : k = n := by omega
      obtain ⟨mpf', F1, F2, F3⟩ := Fk.done HH.out HNE.out HTL.out HF.out
      go_wp2_with fail
      go_ret
      exact ⟨w.heap.size, some g2, mpf', rfl, F1, F2, F3⟩

end Go.Proofs.Ytnpldfacnmhemaa.SruE
