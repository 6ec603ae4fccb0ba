/- The program's Fork: maps.Clone, slices.Clone of buckets. -/
import Derived.Test.YtnpldfacnmhemaaSkV
import Derived.Shelf.SlMaps.Clone
import Derived.Maps.AppendAt
import Derived.Lib.SliceRun
namespace Go.Proofs.Ytnpldfacnmhemaa.SruD
open Go.ChangeShapes Go.WideShapes Go.ChangeAt Go.RowKit Go.Deep Base Wri Map WldA WldF WldG SkK SkA SkB SkC SkD SkE SkF SkG SkH SkI SkJ SkL SkM SkN SkP SkQ SkR SkS SkT
set_option linter.unusedVariables false

set_option maxRecDepth 20000 in
set_option maxHeartbeats 2000000 in
theorem mclone_any (b : Nat) (es : Array MapEntry) (clock : Nat) (w : World) (hb : w.heap[b]? = some (.map es clock)) :
    Calls Try.prog 31 #[.map (some b)] w fun e w' => e = .returned (.map (some w.heap.size)) ∧ w.alloc (.map es clock) = w' := by
  have hq := fun w => run_eql_map_nil_sl (P := Try.prog) w 86 _ _ (some b) Try.underlying86
  go_enter Try.func31, Try.ntmps31
  go_wp2
  rw [run_callFunc_extern (show Try.prog.funcs[66]? = some Try.f66 from by kernel_rfl) (by kernel_rfl) (by kernel_rfl) (by kernel_rfl) (e := Extern.MapsClone.clone) (by kernel_rfl), run_maps_clone_sl w 86 hb]
  simp only [Result.andThen]
  rw [Oper.upon_value]
  go_wp2
  rw [run_typeAssert_map_sl _ 86 _ _ _ _ Try.underlying86]
  simp only [Result.andThen]
  rw [Oper.upon_value]
  go_wp2
  go_ret
  exact ⟨rfl, rfl⟩

theorem infoBk : (Try.prog.info? 88).map (fun i => (i.zero, i.size, i.bytes)) = some (some (.agg #[.int .i64 0, .int .i64 0, .map none]), 3, 24) := by kernel_rfl

set_option maxRecDepth 20000 in
set_option maxHeartbeats 1000000 in
theorem bclone_nil (w : World) :
    Calls Try.prog 30 #[.slice none 0 0] w fun e w' => e = .returned (.slice none 0 0) ∧ w = w' := by
  have hq := fun wx => Lib.run_eql_slice_nil (P := Try.prog) wx 81 88 none 0 0 0 0 Try.underlying81
  go_enter Try.func30, Try.ntmps30
  go_wp2_with fail
  go_ret
  exact ⟨rfl, rfl⟩

theorem bk_new {w : World} {base g cap n : Nat} {f : Nat → Bk} (h : w.ownsRow base 88 3 (.slice (some ⟨g, 0, none⟩) n cap) n (flat f n)) : IsBk w g cap n f := by
  obtain ⟨hl, h⟩ := h
  rcases h with ⟨h0, _⟩ | ⟨g', cap', cur, hv, hg, hh, hc, hm, hs, hcur⟩
  · cases h0
  · cases hv
    refine ⟨cur, hh, hs, hc, hm, fun i hi j hj => ?_⟩
    have h1 : (cur.toList.take (n * 3))[i * 3 + j]? = (flat f n)[i * 3 + j]? := by rw [hcur]
    rw [List.getElem?_take, if_pos (by omega), flat_get f n i j hi hj, Array.getElem?_toList] at h1
    exact h1

theorem flat_oneC (f : Nat → Bk) (n : Nat) : ∀ u ∈ flat f n, u.oneCell' = true := by
  intro u hu
  unfold flat at hu
  obtain ⟨b, _, hb⟩ := List.mem_flatMap.1 hu
  unfold bv at hb
  simp only [List.mem_cons, List.not_mem_nil, or_false] at hb
  rcases hb with rfl | rfl | rfl <;> rfl

set_option maxRecDepth 20000 in
set_option maxHeartbeats 1000000 in
theorem bclone_some (g cap n : Nat) (f : Nat → Bk) (w : World) (hn : n ≤ 1000) (h : IsBk w g cap n f) :
    Calls Try.prog 30 #[.slice (some ⟨g, 0, none⟩) n cap] w fun e w' => ∃ g2 cap2, e = .returned (.slice (some ⟨g2, 0, none⟩) n cap2) ∧ w.heap.size ≤ g2 ∧ IsBk w' g2 cap2 n f ∧ Below w.heap.size w w' := by
  obtain ⟨i0, hi, hz0, hz1, hz2⟩ := info_parts infoBk
  have HB0 := hid h
  have hg := h.lt
  have hq := fun wx => Lib.run_eql_slice_nil (P := Try.prog) wx 81 88 (some ⟨g, 0, none⟩) n cap 0 0 Try.underlying81
  have hown1 : (w.alloc (.cells #[] 88)).ownsRow w.heap.size 88 3 (.slice (some ⟨w.heap.size, 0, none⟩) 0 0) 0 [] := ⟨rfl, .inr ⟨w.heap.size, 0, #[], rfl, Nat.le_refl _, heap_alloc_new w _, Nat.le_refl _, by decide, rfl, rfl⟩⟩
  clear h
  go_enter Try.func30, Try.ntmps30
  go_wp2_with (at_builtin; (refine wpList_append_own_at _ rfl _ _ 81 rfl w.heap.size 88 i0 (.agg #[.int .i64 0, .int .i64 0, .map none]) 3 24 Try.underlying81 hi hz0 hz1 hz2 rfl (by decide) (Value.slice (some ⟨w.heap.size, 0, none⟩) 0 0) _ _ rfl hown1 ⟨g, 0, none⟩ n cap (flat f n) rfl ?c1 ?c2 ?c3 ?c4 ?c5 ?c6 ?_); rotate_left 6; intro v6 w6 hown6 hgr6 hnil6 hat6)
  case c1 => exact flat_len f n
  case c2 =>
    intro j u hj
    rw [Go.WideShapes.add_plain, Nat.zero_add]
    have hj3 : j < n * 3 := by have := (List.getElem?_eq_some_iff.1 hj).1; rwa [flat_len] at this
    refine (((Below.refl _ w).alloc (Nat.le_refl _) _).cell (p := ⟨g, j, none⟩) hg).trans ?_
    have e : j = j / 3 * 3 + j % 3 := by omega
    rw [e]
    rw [e, flat_get f n (j / 3) (j % 3) (by omega) (by omega)] at hj
    exact HB0.out.cell (j / 3) (by omega) (j % 3) (by omega) u hj
  case c3 => exact flat_oneC f n
  case c4 => unfold maxLen; omega
  case c5 => omega
  case c6 => simp
  rw [List.nil_append, Nat.zero_add] at hown6
  have HB : Hid (Below w.heap.size w w6) := hid (((Below.refl _ w).alloc (Nat.le_refl _) _).grown hgr6 (by simp) (fun k e => by cases e; exact Nat.le_refl _))
  have hne : v6 ≠ .slice none 0 0 := fun e => by have := (hnil6.1 e).1; cases this
  obtain ⟨g2, c2, rfl, hg2⟩ : ∃ g2 c2, v6 = .slice (some ⟨g2, 0, none⟩) n c2 ∧ w.heap.size ≤ g2 := by
    rcases hown6.2 with ⟨e, _⟩ | ⟨g2, c2, cur, e, hb, _⟩
    · exact absurd e hne
    · exact ⟨g2, c2, e, hb⟩
  have HN := hid (bk_new hown6)
  clear hown6 hgr6 hnil6 hat6 hne
  go_wp2_with fail
  go_ret
  exact ⟨_, _, rfl, hg2, HN.out, HB.out⟩

end Go.Proofs.Ytnpldfacnmhemaa.SruD
