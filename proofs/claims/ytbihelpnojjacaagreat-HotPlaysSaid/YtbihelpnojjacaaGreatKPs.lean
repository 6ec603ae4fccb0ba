/- The document's Fork. -/
import Derived.Test.YtbihelpnojjacaaGreatKSk
import Derived.Shelf.SlMaps.Clone
import Derived.Maps.AppendAt
import Derived.Lib.SliceRun
import Derived.Deep.RegionHeld3

/- The program's Fork: maps.Clone, slices.Clone of buckets. -/
namespace Go.Proofs.YtbihelpnojjacaaGreat.SruD
open Go.ChangeShapes Go.WideShapes Go.ChangeAt Go.RowKit Go.Deep Base Wri Map WldA WldF WldG SkK SkA SkB SkC SkD SkE SkF SkG SkH SkI SkJ SkL SkM SkN SkP SkQ SkR SkS SkT
set_option linter.unusedVariables false

set_option maxRecDepth 20000 in
set_option maxHeartbeats 2000000 in
theorem mclone_any (b : Nat) (es : Array MapEntry) (clock : Nat) (w : World) (hb : w.heap[b]? = some (.map es clock)) :
    Calls Tryz.prog 62 #[.map (some b)] w fun e w' => e = .returned (.map (some w.heap.size)) ∧ w.alloc (.map es clock) = w' := by
  have hq := fun w => run_eql_map_nil_sl (P := Tryz.prog) w 130 _ _ (some b) Tryz.underlying130
  go_enter Tryz.func62, Tryz.ntmps62
  go_wp2
  rw [run_callFunc_extern (show Tryz.prog.funcs[93]? = some Tryz.f93 from by kernel_rfl) (by kernel_rfl) (by kernel_rfl) (by kernel_rfl) (e := Extern.MapsClone.clone) (by kernel_rfl), run_maps_clone_sl w 130 hb]
  simp only [Result.andThen]
  rw [Oper.upon_value]
  go_wp2
  rw [run_typeAssert_map_sl _ 130 _ _ _ _ Tryz.underlying130]
  simp only [Result.andThen]
  rw [Oper.upon_value]
  go_wp2
  go_ret
  exact ⟨rfl, rfl⟩

theorem infoBk : (Tryz.prog.info? 132).map (fun i => (i.zero, i.size, i.bytes)) = some (some (.agg #[.int .i64 0, .int .i64 0, .map none]), 3, 24) := by kernel_rfl

set_option maxRecDepth 20000 in
set_option maxHeartbeats 1000000 in
theorem bclone_nil (w : World) :
    Calls Tryz.prog 61 #[.slice none 0 0] w fun e w' => e = .returned (.slice none 0 0) ∧ w = w' := by
  have hq := fun wx => Lib.run_eql_slice_nil (P := Tryz.prog) wx 115 132 none 0 0 0 0 Tryz.underlying115
  go_enter Tryz.func61, Tryz.ntmps61
  go_wp2_with fail
  go_ret
  exact ⟨rfl, rfl⟩

theorem bk_new {w : World} {base g cap n : Nat} {f : Nat → Bk} (h : w.ownsRow base 132 3 (.slice (some ⟨g, 0, none⟩) n cap) n (flat f n)) : IsBk w g cap n f := by
  obtain ⟨hl, h⟩ := h
  rcases h with ⟨h0, _⟩ | ⟨g', cap', cur, hv, hg, hh, hc, hm, hs, hcur⟩
  · cases h0
  · cases hv
    refine ⟨cur, hh, hs, hc, hm, fun i hi j hj => ?_⟩
    have h1 : (cur.toList.take (n * 3))[i * 3 + j]? = (flat f n)[i * 3 + j]? := by rw [hcur]
    rw [List.getElem?_take, if_pos (by omega), flat_get f n i j hi hj, Array.getElem?_toList] at h1
    exact h1

theorem flat_oneC (f : Nat → Bk) (n : Nat) : ∀ u ∈ flat f n, u.oneCell' = true := by
  intro u hu
  unfold flat at hu
  obtain ⟨b, _, hb⟩ := List.mem_flatMap.1 hu
  unfold bv at hb
  simp only [List.mem_cons, List.not_mem_nil, or_false] at hb
  rcases hb with rfl | rfl | rfl <;> rfl

set_option maxRecDepth 20000 in
set_option maxHeartbeats 1000000 in
theorem bclone_some (g cap n : Nat) (f : Nat → Bk) (w : World) (hn : n ≤ 1000) (h : IsBk w g cap n f) :
    Calls Tryz.prog 61 #[.slice (some ⟨g, 0, none⟩) n cap] w fun e w' => ∃ g2 cap2, e = .returned (.slice (some ⟨g2, 0, none⟩) n cap2) ∧ w.heap.size ≤ g2 ∧ IsBk w' g2 cap2 n f ∧ Below w.heap.size w w' := by
  obtain ⟨i0, hi, hz0, hz1, hz2⟩ := info_parts infoBk
  have HB0 := hid h
  have hg := h.lt
  have hq := fun wx => Lib.run_eql_slice_nil (P := Tryz.prog) wx 115 132 (some ⟨g, 0, none⟩) n cap 0 0 Tryz.underlying115
  have hown1 : (w.alloc (.cells #[] 132)).ownsRow w.heap.size 132 3 (.slice (some ⟨w.heap.size, 0, none⟩) 0 0) 0 [] := ⟨rfl, .inr ⟨w.heap.size, 0, #[], rfl, Nat.le_refl _, heap_alloc_new w _, Nat.le_refl _, by decide, rfl, rfl⟩⟩
  clear h
  go_enter Tryz.func61, Tryz.ntmps61
  go_wp2_with (at_builtin; (refine wpList_append_own_at _ rfl _ _ 115 rfl w.heap.size 132 i0 (.agg #[.int .i64 0, .int .i64 0, .map none]) 3 24 Tryz.underlying115 hi hz0 hz1 hz2 rfl (by decide) (Value.slice (some ⟨w.heap.size, 0, none⟩) 0 0) _ _ rfl hown1 ⟨g, 0, none⟩ n cap (flat f n) rfl ?c1 ?c2 ?c3 ?c4 ?c5 ?c6 ?_); rotate_left 6; intro v6 w6 hown6 hgr6 hnil6 hat6)
  case c1 => exact flat_len f n
  case c2 =>
    intro j u hj
    rw [Go.WideShapes.add_plain, Nat.zero_add]
    have hj3 : j < n * 3 := by have := (List.getElem?_eq_some_iff.1 hj).1; rwa [flat_len] at this
    refine (((Below.refl _ w).alloc (Nat.le_refl _) _).cell (p := ⟨g, j, none⟩) hg).trans ?_
    have e : j = j / 3 * 3 + j % 3 := by omega
    rw [e]
    rw [e, flat_get f n (j / 3) (j % 3) (by omega) (by omega)] at hj
    exact HB0.out.cell (j / 3) (by omega) (j % 3) (by omega) u hj
  case c3 => exact flat_oneC f n
  case c4 => unfold maxLen; omega
  case c5 => omega
  case c6 => simp
  rw [List.nil_append, Nat.zero_add] at hown6
  have HB : Hid (Below w.heap.size w w6) := hid (((Below.refl _ w).alloc (Nat.le_refl _) _).grown hgr6 (by simp) (fun k e => by cases e; exact Nat.le_refl _))
  have hne : v6 ≠ .slice none 0 0 := fun e => by have := (hnil6.1 e).1; cases this
  obtain ⟨g2, c2, rfl, hg2⟩ : ∃ g2 c2, v6 = .slice (some ⟨g2, 0, none⟩) n c2 ∧ w.heap.size ≤ g2 := by
    rcases hown6.2 with ⟨e, _⟩ | ⟨g2, c2, cur, e, hb, _⟩
    · exact absurd e hne
    · exact ⟨g2, c2, e, hb⟩
  have HN := hid (bk_new hown6)
  clear hown6 hgr6 hnil6 hat6 hne
  go_wp2_with fail
  go_ret
  exact ⟨_, _, rfl, hg2, HN.out, HB.out⟩

end Go.Proofs.YtbihelpnojjacaaGreat.SruD

/- The program's Fork of a sketch: all of it in memory of its own. -/
namespace Go.Proofs.YtbihelpnojjacaaGreat.SruE
open Go.ChangeShapes Go.WideShapes Go.ChangeAt Go.RowKit Go.Deep Base Wri Map WldA WldF WldG SkK SkA SkB SkC SkD SkE SkF SkG SkH SkI SkJ SkL SkM SkN SkP SkQ SkR SkS SkT SruD
set_option linter.unusedVariables false

variable {w w' : World} {p q last t : Nat} {go : Option Nat} {X : Shp} {ns : List Note} {qs : List Nat} {mpf : Nat → Nat}

def ForkPost (w : World) (X : Shp) (q last : Nat) (ns : List Note) (qs : List Nat) (e : Ending) (w' : World) : Prop :=
  ∃ p' go' mpf', e = .returned (.pointer (some ⟨p', 0, none⟩)) ∧ Full w' p' go' X q last ns qs mpf' ∧ (∀ k, Ft p' go' qs mpf' k → w.heap.size ≤ k) ∧ Below w.heap.size w w'

set_option maxRecDepth 20000 in
set_option maxHeartbeats 1000000 in
theorem fork_none (h : Full w p none X q last ns qs mpf) :
    Calls Tryz.prog 33 #[.pointer (some ⟨p, 0, none⟩)] w (ForkPost w X q last ns qs) := by
  have HH := hid h
  obtain ⟨hgo, v, hp, hv⟩ := h.sk
  rcases hv with ⟨_, rfl, hbs⟩ | ⟨g, cap, f, e, _⟩
  case inr => cases e
  have hqs : qs = [] := by
    have := congrArg List.length hbs
    rw [bs_len] at this
    exact List.length_eq_zero_iff.1 this
  subst hqs
  have hpl := (Array.getElem?_eq_some_iff.1 hp).1
  obtain ⟨c0, c1, c2, c3, c4, c5, c6, cf⟩ := sv_cells hp
  have HP := hid hp
  clear h hp cf hbs hgo
  go_enter Tryz.func33, Tryz.ntmps33
  go_wp2_with fail
  refine (bclone_nil _).mono ?_
  rintro e w1 ⟨rfl, rfl⟩
  go_wp2_with fail
  go_loop [20] (fun i => i = .int .i64 0) (fun i => 0)
  case atStart => rfl
  case round =>
    obtain rfl := hrel
    go_wp2_with fail
    go_ret
    refine ⟨w.heap.size, none, mpf, rfl, ⟨HH.out.ok, ⟨by simp, .slice none 0 0, heap_alloc_new w _, .inl ⟨rfl, rfl, rfl⟩⟩, fun b hb => (by cases hb), fun b hb => (by cases hb), fun b hb => (by cases hb), HH.out.inv, HH.out.late⟩, fun k hk => ?_, (by repeat (first | (with_reducible exact Below.refl _ _) | (with_reducible refine Below.setCell ?_ (by first | (simp; done) | (simp; omega) | omega) _) | (with_reducible refine Below.alloc ?_ (by first | (simp; done) | (simp; omega) | omega) _) | (with_reducible refine Below.drew ?_) | (with_reducible refine below_drewN ?_ _)))⟩
    rcases hk with rfl | hk | ⟨b, hb, _⟩
    · exact Nat.le_refl _
    · cases hk
    · cases hb

def fk (f : Nat → Bk) (M : Nat → Nat) (k : Nat) : Nat → Bk := fun i => if i < k then ⟨(f i).at_, (f i).tot, M i⟩ else f i
theorem fk_lt {f : Nat → Bk} {M : Nat → Nat} {k i : Nat} (h : i < k) : fk f M k i = ⟨(f i).at_, (f i).tot, M i⟩ := if_pos h
theorem fk_ge {f : Nat → Bk} {M : Nat → Nat} {k i : Nat} (h : ¬ i < k) : fk f M k i = f i := if_neg h

/-- the first k maps are copied -/
structure Fk (w : World) (g2 c2 n : Nat) (f : Nat → Bk) (X : Shp) (last : Int) (k : Nat) (M : Nat → Nat) (wr : World) : Prop where
  sk : wr.heap[w.heap.size]? = some (.cells (sv X last (.slice (some ⟨g2, 0, none⟩) n c2)) 117)
  bk : IsBk wr g2 c2 n (fk f M k)
  maps : ∀ i, i < k → wr.heap[M i]? = w.heap[(f i).mp]? ∧ w.heap.size < M i ∧ M i ≠ g2 ∧ M i < wr.heap.size
  inj : ∀ i j, i < k → j < k → M i = M j → i = j
  bel : Below w.heap.size w wr
  lt : w.heap.size < g2

theorem Fk.step {g2 c2 n k : Nat} {f : Nat → Bk} {M : Nat → Nat} {wr : World} {es : Array MapEntry} {clock : Nat} {o : Obj} (h : Fk w g2 c2 n f X last k M wr) (hk : k < n) (hm : w.heap[(f k).mp]? = some (.map es clock)) :
    Fk w g2 c2 n f X last (k + 1) (fun i => if i = k then wr.heap.size + 1 else M i) (((wr.setCell ⟨g2, k * 3 + 2, none⟩ (.map (some (wr.heap.size + 1)))).alloc o).alloc (.map es clock)).drew := by
  have hs := h.bel.size
  have hg2 := h.bk.lt
  have hlt := h.lt
  generalize hwz : wr.setCell ⟨g2, k * 3 + 2, none⟩ (.map (some (wr.heap.size + 1))) = wz
  have hz : wz.heap.size = wr.heap.size := by rw [← hwz]; simp
  have bz : Below w.heap.size w wz := by rw [← hwz]; exact h.bel.setCell (by show _ ≤ g2; omega) _
  have kz : ∀ j, j ≠ g2 → wz.heap[j]? = wr.heap[j]? := fun j hn => by rw [← hwz]; exact heap_setCell_other _ _ _ _ (by show j ≠ g2; exact hn)
  have iz : IsBk wz g2 c2 n (fk f (fun i => if i = k then wr.heap.size + 1 else M i) (k + 1)) := by
    obtain ⟨cur, h1, h2, h3, h4, h5⟩ := h.bk
    refine ⟨cur.setIfInBounds (k * 3 + 2) (.map (some (wr.heap.size + 1))), by rw [← hwz]; exact heap_setCell_same _ _ _ _ _ _ h1, by simpa using h2, h3, h4, fun i hi j hj => ?_⟩
    by_cases e : i = k
    · subst e
      have := h5 i hi j hj
      rw [fk_ge (by omega)] at this
      rw [fk_lt (by omega), if_pos rfl]
      rcases (by omega : j = 0 ∨ j = 1 ∨ j = 2) with rfl | rfl | rfl
      · rw [Array.getElem?_setIfInBounds_ne (by omega)]; exact this
      · rw [Array.getElem?_setIfInBounds_ne (by omega)]; exact this
      · simp [Array.getElem?_setIfInBounds, bv]; omega
    · rw [Array.getElem?_setIfInBounds_ne (by omega), h5 i hi j hj]
      by_cases hik : i < k
      · rw [fk_lt hik, fk_lt (by omega), if_neg e]
      · rw [fk_ge hik, fk_ge (by omega)]
  clear hwz
  have a1 : Below wz.heap.size wz ((wz.alloc o).alloc (.map es clock)).drew := (((Below.refl _ wz).alloc (Nat.le_refl _) _).alloc (by simp) _).drew
  have hsz : ((wz.alloc o).alloc (.map es clock)).drew.heap.size = wr.heap.size + 2 := by show ((wz.alloc o).alloc (.map es clock)).heap.size = _; simp; omega
  have keep : ∀ j, j < wr.heap.size → j ≠ g2 → ((wz.alloc o).alloc (.map es clock)).drew.heap[j]? = wr.heap[j]? := fun j hj hn => (a1.block j (by omega)).trans (kz j hn)
  have hnew : ((wz.alloc o).alloc (.map es clock)).drew.heap[wr.heap.size + 1]? = some (.map es clock) := by
    have := heap_alloc_new (wz.alloc o) (.map es clock)
    rw [World.size_alloc, hz] at this
    exact this
  refine ⟨(keep w.heap.size (by omega) (by omega)).trans h.sk, iz.of_block (a1.block g2 (by omega)), fun i hi => ?_, fun i j hi hj e => ?_, bz.trans (a1.mono (by omega)), h.lt⟩
  · by_cases e : i = k
    · subst e
      rw [if_pos rfl]
      exact ⟨hnew.trans hm.symm, by omega, by omega, by omega⟩
    · rw [if_neg e]
      obtain ⟨m1, m2, m3, m4⟩ := h.maps i (by omega)
      exact ⟨(keep _ m4 m3).trans m1, m2, m3, by omega⟩
  · by_cases e1 : i = k <;> by_cases e2 : j = k
    · omega
    · rw [if_pos e1, if_neg e2] at e
      have := (h.maps j (by omega)).2.2.2; omega
    · rw [if_neg e1, if_pos e2] at e
      have := (h.maps i (by omega)).2.2.2; omega
    · rw [if_neg e1, if_neg e2] at e
      exact h.inj i j (by omega) (by omega) e

theorem num_moved {mb mb' : Nat} {m : Nat → Nat → Nat} (h : Num w mb m) (e : w'.heap[mb']? = w.heap[mb]?) : Num w' mb' m := by
  obtain ⟨F, n, ⟨es, clock, h1, h2⟩, h3⟩ := h
  exact ⟨F, n, ⟨es, clock, e.trans h1, h2⟩, h3⟩

/-- when all of them are -/
theorem Fk.done {g g2 c2 n : Nat} {f : Nat → Bk} {M : Nat → Nat} {wr : World} (hF : Full w p (some g) X q last ns qs mpf) (hn : qs.length = n) (hf : toL f n = bsOf q ns mpf qs) (h : Fk w g2 c2 n f X last n M wr) :
    ∃ mpf', Full wr w.heap.size (some g2) X q last ns qs mpf' ∧ (∀ k, Ft w.heap.size (some g2) qs mpf' k → w.heap.size ≤ k) ∧ Below w.heap.size w wr := by
  subst hn
  have nd : qs.Nodup := hF.inv.rise.imp (fun h => Nat.ne_of_lt h)
  have at_ : ∀ b ∈ qs, ∃ i, ∃ hi : i < qs.length, qs[i] = b ∧ qs.idxOf b = i := fun b hb => by
    obtain ⟨i, hi, e⟩ := List.getElem_of_mem hb
    exact ⟨i, hi, e, by rw [← e]; exact nd.idxOf_getElem i hi⟩
  have mp : ∀ i, ∀ hi : i < qs.length, (f i).mp = mpf qs[i] := fun i hi => by rw [bs_at hf hi]
  have key : ∀ b ∈ qs, ∃ i, i < qs.length ∧ qs.idxOf b = i ∧ wr.heap[M i]? = w.heap[mpf b]? ∧ w.heap.size < M i ∧ M i ≠ g2 := fun b hb => by
    obtain ⟨i, hi, e1, e2⟩ := at_ b hb
    obtain ⟨m1, m2, m3, _⟩ := h.maps i hi
    rw [mp i hi, e1] at m1
    exact ⟨i, hi, e2, m1, m2, m3⟩
  have hlt := h.lt
  refine ⟨fun b => M (qs.idxOf b), ⟨hF.ok, ⟨by simp; omega, _, h.sk, .inr ⟨g2, c2, fk f M qs.length, rfl, by rw [bs_len], by rw [bs_len]; exact h.bk, ?_⟩⟩, fun b hb => ?_, fun b hb => ?_, fun b hb b' hb' e => ?_, hF.inv, hF.late⟩, fun k hk => ?_, h.bel⟩
  · rw [bs_len]
    refine List.ext_getElem? fun i => ?_
    unfold bsOf toL
    by_cases hi : i < qs.length
    · simp only [List.getElem?_map, List.getElem?_range hi, List.getElem?_eq_getElem hi, Option.map_some]
      rw [fk_lt hi, nd.idxOf_getElem i hi, bs_at hf hi]
    · rw [List.getElem?_eq_none (by simp; omega), List.getElem?_eq_none (by simp; omega)]
  · obtain ⟨i, hi, e, m1, _⟩ := key b hb
    exact num_moved (hF.nums b hb) (by rw [e]; exact m1)
  · obtain ⟨i, hi, e, _, m2, m3⟩ := key b hb
    rw [e]
    exact ⟨by omega, fun h => m3 (Option.some.inj h).symm⟩
  · obtain ⟨i, hi, e1, e2⟩ := at_ b hb
    obtain ⟨j, hj, e3, e4⟩ := at_ b' hb'
    rw [e2, e4] at e
    have := h.inj i j hi hj e
    subst this
    exact e1.symm.trans e3
  · rcases hk with rfl | hk | ⟨b, hb, rfl⟩
    · exact Nat.le_refl _
    · have := Option.some.inj hk; omega
    · obtain ⟨i, hi, e, _, m2, m3⟩ := key b hb
      dsimp only
      rw [e]
      omega

set_option maxRecDepth 20000 in
set_option maxHeartbeats 4000000 in
theorem fork_some (g : Nat) (h : Full w p (some g) X q last ns qs mpf) :
    Calls Tryz.prog 33 #[.pointer (some ⟨p, 0, none⟩)] w (ForkPost w X q last ns qs) := by
  have HH := hid h
  obtain ⟨hgo, v, hp, hv⟩ := h.sk
  rcases hv with ⟨e, _⟩ | ⟨g', cap, f, e, rfl, hbk, htl⟩
  case inl => cases e
  cases e
  obtain ⟨n, hne⟩ : ∃ n, qs.length = n := ⟨_, rfl⟩
  have hn : n ≤ 60 := by have := h.len; omega
  rw [bs_len, hne] at hp hbk htl
  have HNE := hid hne
  have HTL := hid htl
  have HBK := hid hbk
  have hpl := (Array.getElem?_eq_some_iff.1 hp).1
  have hgl := hbk.lt
  obtain ⟨c0, c1, c2, c3, c4, c5, c6, cf⟩ := sv_cells hp
  have HP := hid hp
  clear h hp cf hgo hne htl hbk
  go_enter Tryz.func33, Tryz.ntmps33
  go_wp2_with fail
  refine (bclone_some g cap n f _ (by omega) (HBK.out.below ((Below.refl _ w).alloc (Nat.le_refl _) _) hgl)).mono ?_
  rintro e w1 ⟨g2, cc2, rfl, hg2, hbk2, hb1⟩
  have hfp : w.heap.size < w1.heap.size := by have := hb1.size; simp at this; omega
  have hg3 : w.heap.size < g2 := by simp at hg2; omega
  have HSK : Hid (w1.heap[w.heap.size]? = some (.cells #[.int .i64 X.wd, .int .i64 X.bk, .int .i64 X.ro, .int .i64 X.co, .int .u64 X.seed, .int .i64 last, .slice (some ⟨g, 0, none⟩) n cap] 117)) := hid ((hb1.block w.heap.size (by simp)).trans (heap_alloc_new w _))
  have k6 : w1.cell? ⟨w.heap.size, 6, none⟩ = some (.slice (some ⟨g, 0, none⟩) n cap) := by unfold World.cell?; rw [HSK.out]; rfl
  have f6 : w1.frozen? ⟨w.heap.size, 6, none⟩ = false := by unfold World.frozen?; rw [HSK.out]; rfl
  have HBK2 := hid hbk2
  have HB1 : Hid (Below w.heap.size w w1) := hid (((Below.refl _ w).alloc (Nat.le_refl _) _).trans (hb1.mono (by simp)))
  have HST : Hid (Fk w g2 cc2 n f X last 0 (fun _ => 0) (w1.setCell ⟨w.heap.size, 6, none⟩ (.slice (some ⟨g2, 0, none⟩) n cc2))) := hid ⟨heap_setCell_same _ _ _ _ _ _ HSK.out, (HBK2.out.of_block (heap_setCell_other _ _ _ _ (by show g2 ≠ w.heap.size; omega))).congr (fun i hi => (fk_ge (by omega)).symm), fun i hi => by omega, fun i j hi => by omega, HB1.out.setCell (Nat.le_refl _) _, hg3⟩
  clear hb1 hbk2 hg2 c0 c1 c2 c3 c4 c5 c6
  go_wp2_with fail
  go_loopw [20] (fun i wr => ∃ (k : Nat) (M : Nat → Nat), k ≤ n ∧ i = .int .i64 k ∧ Fk w g2 cc2 n f X last k M wr) (fun i _ => n - (intOf i).toNat)
  case atStart => exact ⟨0, _, Nat.zero_le _, rfl, HST.out⟩
  case round =>
    obtain ⟨k, M, hk, rfl, hF⟩ := hrel
    have HF := hid hF
    clear hF
    have hws := HF.out.bel.size
    by_cases hlt : k < n
    · obtain ⟨k0, k1, k2⟩ := HF.out.bk.at3 k hlt
      rw [fk_ge (by omega)] at k0 k1 k2
      have kf := HF.out.bk.frozen (k * 3 + 2)
      have hgl2 := HF.out.bk.lt
      have ks6 : wr.cell? ⟨w.heap.size, 6, none⟩ = some (.slice (some ⟨g2, 0, none⟩) n cc2) := by unfold World.cell?; rw [HF.out.sk]; rfl
      have hfpr : w.heap.size < wr.heap.size := (Array.getElem?_eq_some_iff.1 HF.out.sk).1
      have hmp : ∃ es clock, w.heap[(f k).mp]? = some (.map es clock) := by
        have hkq : k < qs.length := by rw [HNE.out]; exact hlt
        have e := bs_at (by rw [HNE.out]; exact HTL.out) hkq
        have hnum := HH.out.nums qs[k] (List.getElem_mem hkq)
        obtain ⟨F, m, ⟨es, clock, h1, _⟩, _⟩ := hnum
        exact ⟨es, clock, by rw [e]; exact h1⟩
      obtain ⟨es, clock, hmp⟩ := hmp
      have hml := (Array.getElem?_eq_some_iff.1 hmp).1
      have HMP := hid hmp
      have HNX := hid (HF.out.step hlt hmp (o := .cells #[.int .i64 (f k).at_, .int .i64 (f k).tot, .map (some (f k).mp)] 132))
      have hmr : wr.heap[(f k).mp]? = some (.map es clock) := (HF.out.bel.block _ hml).trans hmp
      have HMR := hid hmr
      clear hmp hmr
      generalize (f k).at_ = x0 at *
      generalize (f k).tot = x1 at *
      generalize (f k).mp = mp at *
      have hml2 : mp < wr.heap.size := by omega
      have hkn : (k : Int) < (n : Int) := by omega
      go_wp2_with fail
      have HC := hid (mclone_any mp es clock ((wr.alloc (.cells #[.int .i64 x0, .int .i64 x1, .map (some mp)] 132)).drew) ((Below.heap_alloc wr _ mp hml2).trans HMR.out))
      go_region_with (go_at_call 62; refine HC.out.mono ?_; rintro e w3 ⟨rfl, rfl⟩)
      all_goals go_wp2_with fail
      all_goals exact ⟨⟨k + 1, _, by omega, by first | rfl | go_num, HNX.out⟩, by simp [intOf]; omega⟩
    · obtain rfl : k = n := by omega
      obtain ⟨mpf', F1, F2, F3⟩ := Fk.done HH.out HNE.out HTL.out HF.out
      go_wp2_with fail
      go_ret
      exact ⟨w.heap.size, some g2, mpf', rfl, F1, F2, F3⟩

end Go.Proofs.YtbihelpnojjacaaGreat.SruE

/- SketchAlone. -/
namespace Go.Proofs.YtbihelpnojjacaaGreat.SkU
set_option linter.unusedVariables false
open Go.ChangeShapes Go.WideShapes Go.ChangeAt Go.RowKit Go.Deep Base Wri Map WldG SkK SkA SkB SkC SkD SkE SkF SkG SkH SkI SkJ SkL SkM SkN SkP SkQ SkR SkS SkT

variable {w w' w0 : World} {p q last t : Nat} {go : Option Nat} {X : Shp} {ns : List Note} {qs : List Nat} {mpf : Nat → Nat}

theorem Estimate_no (hO : Full w p go X q last ns qs mpf) (t : Int) (s : ByteArray) (r : Int) (hr : refT last t true = r) (h0 : r ≠ 0) :
    Calls Tryz.prog 73 #[.pointer (some ⟨p, 0, none⟩), .int .i64 t, .string s] w fun e w' => e = .returned (.tuple #[.int .i64 0, .int .i64 r]) ∧ w = w' := by
  obtain ⟨_, v, hp, _⟩ := hO.sk
  obtain ⟨-, -, -, -, -, c5, -, -⟩ := sv_cells hp
  have HR := hid (refuses_any p last t true w c5)
  rw [hr] at HR
  have hrb : (r != 0) = true := by simpa using h0
  clear hO hp c5 hr h0
  go_enter Tryz.func73, Tryz.ntmps73
  go_wp2_with fail
  refine HR.out.mono ?_
  rintro e w1 ⟨rfl, rfl⟩
  go_wp2_with fail
  go_ret2
  exact ⟨rfl, rfl⟩

/-- one key alone: its estimate is exact -/
theorem least_const {rows v : Nat} {f : Nat → Nat} (h0 : 0 < rows) (hv : v ≤ 4611686018427387904) (hf : ∀ r, r < rows → f r = v) : least rows f = v :=
  Nat.le_antisymm (Nat.le_trans (least_le h0) (Nat.le_of_eq (hf 0 h0))) (le_least (fun r hr => Nat.le_of_eq (hf r hr).symm) hv)

theorem est_alone (hO : Ok X q) (K : ByteArray) (hK : ∀ x ∈ ns, x.k = K) (t : Nat) : estN q X ns t K = totalN q X.bk ns t := by
  unfold estN
  refine least_const hO.r1 (by unfold totalN; exact sat_le _) fun r _ => ?_
  unfold rowN totalN
  congr 1
  refine sumN_same fun x hx => .inl ?_
  rw [hK x hx]
  simp

/-- all is gone -/
theorem est_gone (h : Full w p go X q last ns qs mpf) (K : ByteArray) : estN q X ns (last + X.wd) K = 0 := by
  unfold estN
  refine least_const h.ok.r1 (by omega) fun r _ => ?_
  unfold rowN
  rw [sumN_zero, sat_zero]
  intro x hx hw
  exfalso
  simp only [Bool.and_eq_true] at hw
  have hw := hw.1
  unfold inW at hw
  rw [decide_eq_true_iff] at hw
  have e : (last + X.wd) / q = last / q + X.bk := by
    rw [h.ok.we, Nat.add_mul_div_left _ _ h.ok.q0]
  have : x.t / q ≤ last / q := Nat.div_le_div_right (h.inv.late x hx)
  omega

/-- at a time when all has left the window, if there is such a time -/
theorem later_own (h : Own w0 w p go X q last ns qs mpf) (K : ByteArray) (hs : K.size ≤ maxLen) :
    Calls Tryz.prog 73 #[.pointer (some ⟨p, 0, none⟩), .int .i64 ((last : Int) + X.wd), .string K] w fun e w' => ((1152921504606846976 < (last : Int) + X.wd ∧ e = .returned (.tuple #[.int .i64 0, .int .i64 2])) ∨ ((last : Int) + X.wd ≤ 1152921504606846976 ∧ e = .returned (.tuple #[.int .i64 0, .int .i64 0]))) ∧ Own w0 w' p go X q last ns qs mpf := by
  by_cases hl : last + X.wd ≤ 1152921504606846976
  · have H := Estimate_yes h.full (t := last + X.wd) (by omega) hl K hs
    rw [est_gone h.full K] at H
    exact H.mono fun _ _ hh => ⟨.inr ⟨by omega, hh.1⟩, SkR.Own.below h hh.2⟩
  · exact (Estimate_no h.full ((last : Int) + X.wd) K 2 (by unfold refT; rw [if_pos (by omega)]) (by omega)).mono fun _ _ hh => ⟨.inl ⟨by omega, hh.1⟩, hh.2 ▸ h⟩

theorem notes_key {t : Int} {s : ByteArray} {f : Nat → Int} {n : Nat} (h : ∀ x ∈ ns, x.k = s) : ∀ x ∈ notesA last ns t s f n, x.k = s := by
  intro x hx
  unfold notesA at hx
  split at hx
  · rcases List.mem_append.1 hx with e | e
    · exact h x e
    · simp at e; rw [e]
  · exact h x hx

end Go.Proofs.YtbihelpnojjacaaGreat.SkU

/- Both sketches tell the same. -/
namespace Go.Proofs.YtbihelpnojjacaaGreat.SruF
open Go.ChangeShapes Go.WideShapes Go.ChangeAt Go.RowKit Go.Deep Base Wri Map WldA WldF WldG SkK SkA SkB SkC SkD SkE SkF SkG SkH SkI SkJ SkL SkM SkN SkP SkQ SkR SkS SkT SkU SruA SruB SruC SruD SruE
set_option linter.unusedVariables false

/-- as much of each key at each time -/
def Alk (ns rs : List Note) : Prop := ∀ P : Nat → ByteArray → Bool, sumN ns (fun x => P x.t x.k) = sumN rs (fun x => P x.t x.k)

variable {w w' : World} {p b B q last t : Nat} {go : Option Nat} {X : Shp} {ns rs : List Note} {qs : List Nat} {mpf : Nat → Nat} {rv : Value}

theorem Alk.nil : Alk [] [] := fun _ => rfl
theorem Alk.tot (h : Alk ns rs) : totalN q X.bk ns t = totalN q X.bk rs t := by
  unfold totalN
  rw [h (fun a _ => inW q X.bk t (a / q))]
theorem Alk.est (h : Alk ns rs) (s : ByteArray) : estN q X ns t s = estN q X rs t s := by
  unfold estN
  congr 1
  funext r
  unfold rowN
  rw [h (fun a k => inW q X.bk t (a / q) && colN X.seed X.co r k == colN X.seed X.co r s)]
theorem sumN_new (rs : List Note) (t : Nat) (s : ByteArray) (f : Nat → Int) (P : Nat → ByteArray → Bool) : ∀ n, sumN (rs ++ newR t s f n) (fun x => P x.t x.k) = sumN rs (fun x => P x.t x.k) + if P t s then SkD.sumTo (fun i => (f i).toNat) n else 0
  | 0 => by rw [show newR t s f 0 = [] from rfl, List.append_nil]; simp [SkD.sumTo]
  | n + 1 => by
    rw [newR_succ, ← List.append_assoc, sumN_snoc, sumN_new rs t s f P n]
    cases P t s <;> simp [SkD.sumTo, Nat.add_assoc]
theorem Alk.add (h : Alk ns rs) (t : Nat) (s : ByteArray) (f : Nat → Int) (n : Nat) : Alk (ns ++ [⟨t, s, SkD.sumTo (fun i => (f i).toNat) n⟩]) (rs ++ newR t s f n) := by
  intro P
  rw [sumN_snoc, sumN_new, h P]

noncomputable def estA (q : Nat) (X : Shp) (last : Nat) (ns : List Note) (t : Int) (s : ByteArray) : Nat := if refT last t true = 0 then estN q X ns t.toNat s else 0
noncomputable def totA (q : Nat) (X : Shp) (last : Nat) (ns : List Note) (t : Int) : Nat := if refT last t true = 0 then totalN q X.bk ns t.toNat else 0

end Go.Proofs.YtbihelpnojjacaaGreat.SruF

namespace Go.Proofs.YtbihelpnojjacaaGreat.SruG
open Go.ChangeShapes Go.WideShapes Go.ChangeAt Go.RowKit Go.Deep Base Wri Map WldA WldF WldG SkK SkA SkB SkC SkD SkE SkF SkG SkH SkI SkJ SkL SkM SkN SkP SkQ SkR SkS SkT SkU SruA SruB SruC SruD SruE SruF
set_option linter.unusedVariables false

variable {w w' : World} {p b B q last t : Nat} {go : Option Nat} {X : Shp} {ns rs : List Note} {qs : List Nat} {mpf : Nat → Nat} {rv : Value}

def RForkPost (w : World) (X : Shp) (q last : Nat) (rs : List Note) (e : Ending) (w' : World) : Prop :=
  ∃ b' rv', e = .returned (.pointer (some ⟨b', 0, none⟩)) ∧ IsRS w' b' w.heap.size X q last rv' rs ∧ w.heap.size ≤ b' ∧ (∀ g, rv'.ownBlock = some g → w.heap.size ≤ g) ∧ Below w.heap.size w w'

theorem rfork_fin {W : World} {v : Value} (h : IsRS w b B X q last rv rs) (e : W.heap[w.heap.size]? = some (.cells #[.int .i64 X.wd, .int .i64 X.bk, .int .i64 X.ro, .int .i64 X.co, .int .u64 X.seed, v, .int .i64 last] 125)) (hown : W.ownsRow w.heap.size 171 3 v rs.length (cellsR rs)) (hat : ∀ g, v.ownBlock = some g → w.heap.size < g) :
    IsRS W w.heap.size w.heap.size X q last v rs := by
  have c : ∀ (j : Nat) u, (#[Value.int .i64 X.wd, .int .i64 X.bk, .int .i64 X.ro, .int .i64 X.co, .int .u64 X.seed, v, .int .i64 last])[j]? = some u → W.cell? ⟨w.heap.size, j, none⟩ = some u := fun j u hu => by
    unfold World.cell?
    rw [e]
    exact hu
  have f : ∀ j, W.frozen? ⟨w.heap.size, j, none⟩ = false := fun j => by
    unfold World.frozen?
    rw [e]
    rfl
  exact ⟨h.ok, h.seed, c 0 _ rfl, c 1 _ rfl, c 2 _ rfl, c 3 _ rfl, c 4 _ rfl, c 5 _ rfl, c 6 _ rfl, f 5, f 6, hown, fun g hg => by have := hat g hg; omega, h.late, h.all, h.few⟩

theorem rfork_done {W : World} {v v0 : Value} (h : IsRS w b B X q last rv rs) (hs : W.heap[w.heap.size]? = some (.cells #[.int .i64 X.wd, .int .i64 X.bk, .int .i64 X.ro, .int .i64 X.co, .int .u64 X.seed, v0, .int .i64 last] 125)) (hown : W.ownsRow w.heap.size 171 3 v rs.length (cellsR rs)) (hat : ∀ g, v.ownBlock = some g → w.heap.size < g) :
    IsRS (W.setCell ⟨w.heap.size, 5, none⟩ v) w.heap.size w.heap.size X q last v rs := by
  have e := heap_setCell_same W w.heap.size 5 _ _ v hs
  refine rfork_fin h e ?_ hat
  exact owns_keep hown (fun g hg => (grown_set W ⟨w.heap.size, 5, none⟩ _).block g (hown.lt g hg).2 (fun e => by have := hat g hg; have := Option.some.inj e; dsimp only at this; omega))

theorem new_row (w : World) (o : Obj) : ((w.alloc o).alloc (.cells #[] 171)).ownsRow w.heap.size 171 3 (.slice (some ⟨w.heap.size + 1, 0, none⟩) 0 0) 0 [] := by
  refine ⟨rfl, .inr ⟨w.heap.size + 1, 0, #[], rfl, by omega, ?_, Nat.le_refl _, by decide, rfl, rfl⟩⟩
  have := heap_alloc_new (w.alloc o) (.cells #[] 171)
  rw [World.size_alloc] at this
  exact this

set_option maxRecDepth 20000 in
set_option maxHeartbeats 1000000 in
theorem rfork_any (h : IsRS w b B X q last rv rs) :
    Calls Tryz.prog 35 #[.pointer (some ⟨b, 0, none⟩)] w (RForkPost w X q last rs) := by
  obtain ⟨i0, hi, hz0, hz1, hz2⟩ := info_parts infoNote
  have HH := hid h
  have hb := h.lt
  have c0 := h.c0
  have c1 := h.c1
  have c2 := h.c2
  have c3 := h.c3
  have c4 := h.c4
  have c5 := h.c5
  have c6 := h.c6
  have hfew := h.few
  have hown0 := new_row w (.cells #[.int .i64 X.wd, .int .i64 X.bk, .int .i64 X.ro, .int .i64 X.co, .int .u64 X.seed, rv, .int .i64 last] 125)
  have hblo : Below w.heap.size w ((w.alloc (.cells #[.int .i64 X.wd, .int .i64 X.bk, .int .i64 X.ro, .int .i64 X.co, .int .u64 X.seed, rv, .int .i64 last] 125)).alloc (.cells #[] 171)) := ((Below.refl _ w).alloc (Nat.le_refl _) _).alloc (by simp) _
  have hsk : ((w.alloc (.cells #[.int .i64 X.wd, .int .i64 X.bk, .int .i64 X.ro, .int .i64 X.co, .int .u64 X.seed, rv, .int .i64 last] 125)).alloc (.cells #[] 171)).heap[w.heap.size]? = some (.cells #[.int .i64 X.wd, .int .i64 X.bk, .int .i64 X.ro, .int .i64 X.co, .int .u64 X.seed, rv, .int .i64 last] 125) := (Below.heap_alloc _ _ _ (by simp)).trans (heap_alloc_new w _)
  rcases h.own.2 with ⟨hrv, h0⟩ | ⟨g, cap, cur, hrv, hBg, hcu, hn, hcm, hcs, hct⟩
  · subst hrv
    have hrs : rs = [] := List.length_eq_zero_iff.1 h0
    have HO := hid hown0
    have HB := hid hblo
    have HSK := hid hsk
    clear h hown0 hblo hsk
    go_enter Tryz.func35, Tryz.ntmps35
    go_wp2_with (at_builtin; refine wpList_append_own_none rfl _ _ 123 rfl w.heap.size 171 i0 3 Tryz.underlying123 hi _ _ _ rfl HO.out rfl ?_)
    go_ret
    refine ⟨w.heap.size, .slice (some ⟨w.heap.size + 1, 0, none⟩) 0 0, rfl, rfork_fin HH.out ((Below.heap_alloc _ _ _ (by simp)).trans (heap_alloc_new w _)) (by rw [hrs]; exact new_row w _) (fun g hg => by have := Option.some.inj hg; dsimp only at this; omega), Nat.le_refl _, fun g hg => by have := Option.some.inj hg; dsimp only at this; omega, (by repeat (first | (with_reducible exact Below.refl _ _) | (with_reducible refine Below.setCell ?_ (by first | (simp; done) | (simp; omega) | omega) _) | (with_reducible refine Below.alloc ?_ (by first | (simp; done) | (simp; omega) | omega) _) | (with_reducible refine Below.drew ?_) | (with_reducible refine below_drewN ?_ _)))⟩
  · subst hrv
    have hnews : ∀ j u, (cellsR rs)[j]? = some u → ((w.alloc (.cells #[.int .i64 X.wd, .int .i64 X.bk, .int .i64 X.ro, .int .i64 X.co, .int .u64 X.seed, .slice (some ⟨g, 0, none⟩) rs.length cap, .int .i64 last] 125)).alloc (.cells #[] 171)).cell? ((⟨g, 0, none⟩ : Addr).add j) = some u := fun j u hu => by
      have hgl := (h.own.lt g rfl).2
      have hj : j < (cellsR rs).length := (List.getElem?_eq_some_iff.1 hu).1
      rw [cellsR_len] at hj
      rw [Go.WideShapes.add_plain, Nat.zero_add]
      exact (hblo.cell (p := ⟨g, j, none⟩) hgl).trans ((World.ownsRow.cellAt h.own j hj).trans hu)
    have HO := hid hown0
    have HB := hid hblo
    have HSK := hid hsk
    have HNW := hid hnews
    clear h hown0 hblo hsk hnews hcu hcs hct
    go_enter Tryz.func35, Tryz.ntmps35
    go_wp2_with (
      at_builtin
      refine wpList_append_own_at _ rfl _ _ 123 rfl w.heap.size 171 i0 (.agg #[.int .i64 0, .int .i64 0, .string ⟨#[]⟩]) 3 32 Tryz.underlying123 hi hz0 hz1 hz2 rfl (by decide) (.slice (some ⟨w.heap.size + 1, 0, none⟩) 0 0) 0 [] rfl HO.out ⟨g, 0, none⟩ rs.length cap (cellsR rs) rfl (cellsR_len rs) HNW.out (cellsR_one rs) (by unfold maxLen; omega) (by omega) (by simp; omega) ?_
      intro v6 w6 hown6 hgr6 hnil6 hat6
      obtain ⟨vb, vd, rfl⟩ := owns_shape hown6
      have hsk6 := (hgr6.block w.heap.size (by simp only [World.size_alloc]; omega) (fun e => by have := Option.some.inj e; dsimp only at this; omega)).trans HSK.out
      have q5 : w6.cell? ⟨w.heap.size, 5, none⟩ = some (.slice (some ⟨g, 0, none⟩) rs.length cap) := by unfold World.cell?; rw [hsk6]; rfl
      have qf : w6.frozen? ⟨w.heap.size, 5, none⟩ = false := by unfold World.frozen?; rw [hsk6]; rfl
      have HAT : Hid (∀ g', (Value.slice vb (0 + rs.length) vd).ownBlock = some g' → w.heap.size < g') := hid (fun g' hg' => by
        rcases hat6 with e | e
        · have := Option.some.inj (hg'.symm.trans e); dsimp only at this; omega
        · have := Option.some.inj (hg'.symm.trans e); simp at this; omega)
      have HB6 : Hid (Below w.heap.size w w6) := hid (HB.out.trans ((Wr.ofGrown hgr6 (R := fun k => k = w.heap.size + 1) (fun k e => (Option.some.inj e).symm)).below _ (by simp; omega) (fun k e => by rw [e]; omega)))
      have HO6 : Hid (w6.ownsRow w.heap.size 171 3 (.slice vb rs.length vd) rs.length (cellsR rs)) := hid (by have := hown6; rw [List.nil_append, Nat.zero_add] at this; exact this)
      rw [Nat.zero_add] at HAT
      have HS6 := hid hsk6
      clear hsk6 hat6 hnil6 hgr6 hown6 HSK HNW HO HB)
    go_ret
    exact ⟨w.heap.size, _, rfl, rfork_done HH.out HS6.out HO6.out HAT.out, Nat.le_refl _, fun g' hg' => Nat.le_of_lt (HAT.out g' hg'), HB6.out.setCell (Nat.le_refl _) _⟩

end Go.Proofs.YtbihelpnojjacaaGreat.SruG
