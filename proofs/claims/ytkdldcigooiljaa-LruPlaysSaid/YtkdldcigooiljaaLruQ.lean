/- A bounded map's keys. -/
import Derived.Test.YtkdldcigooiljaaLruP
import Derived.RangeFuncBox
import Derived.RangeFuncFrom
import Derived.RangeFuncWrites
import Derived.Maps.AppendAt
import Derived.Stop.RegionWithIn
namespace Go.Proofs.Ytkdldcigooiljaa.LruQ
open Go.ChangeShapes Go.WideShapes Go.ChangeAt Go.RowKit Base Wri Map LruA LruB LruC LruD LruP
open Go.Shelf
attribute [local go_sem] Oper.semAt_some
variable {S : Spot} {L : List Ent} {w : World}

/-- an append, kept whole -/
def app (ats : Array TypeId) (ty : TypeId) (args : Array Value) : Sem Value := Builtin.append_ ats ty args
theorem builtin_app {ats : Array TypeId} {ty : TypeId} {cs : Array Bool} {args : Array Value} : builtin .append ats ty cs args = (do pure (.value (← app ats ty args))) := rfl

theorem infoStr : (Try.prog.info? 9).map (fun i => (i.zero, i.size, i.bytes)) = some (some (.string ⟨#[]⟩), 1, 16) := by kernel_rfl

def ks (L : List Ent) : List Value := L.map fun x => Value.string x.k
theorem ks_snoc (L : List Ent) (x : Ent) : ks (L ++ [x]) = ks L ++ [.string x.k] := by simp [ks]
theorem kp_b {n0 b : Nat} {w : World} (hn : n0 ≤ w.heap.size) (hb : b < w.heap.size) : ∀ (W : World) (l : Nat) (o o' : Obj), w.heap.size ≤ l → W.heap[l]? = some o → o.isCells = false → o.isWalk = false → Kp n0 b W (W.putObj l o') := by
  intro W l o o' hl ho hc hw
  have hlW : l < W.heap.size := (Array.getElem?_eq_some_iff.1 ho).1
  exact ⟨belowK_b hn W l o o' hl ho hc hw, (grownBy_putObj' W l o').block b (by omega) (fun e => by cases e; omega)⟩
theorem boxed_own' {β : Type} (B : Nat) (t : TypeId) (v : Value) : Own (fun (_ : β) W => Boxed W B t v) := by
  rintro s X Y row hv hg hrow
  refine hv.kept hg (fun e' => ?_)
  obtain ⟨o, ho, hc⟩ := hrow B e'.symm
  rw [show X.heap[B]? = _ from hv] at ho; cases ho; cases hc

attribute [local go_sem ↓ high] builtin_app

set_option maxRecDepth 100000 in
set_option maxHeartbeats 1000000 in
theorem keys_any (h : IsLru w S L) :
    Calls Try.prog 18 #[ptr S.mb] w fun e w' => (∃ x, e = .returned x ∧ w'.ownsRow w.heap.size 9 1 x L.length (ks L)) ∧ Below w.heap.size w w' := by
  obtain ⟨i0, hi, hz0, hz1, hz2⟩ := info_parts infoStr
  refine callsIn_wide.1 (callsIn_of_wp_marks (n := 10) Try.func18 rfl trivial ?_ rfl)
  simp only [Try.ntmps18, List.size_toArray, List.length_cons, List.length_nil, Nat.reduceAdd, Nat.reduceSub, Array.replicate_succ, Array.replicate_zero, List.push_toArray, List.append_toArray, List.nil_append, List.cons_append]
  have c0 : w.cell? ⟨S.mb, 0, none⟩ = some (ptr S.kn) := (LRest.mcell h.rest).1
  have hmb : S.mb < w.heap.size := h.rest.lt _ (.inl rfl)
  have HA := hid (all_any S.kn (w.alloc (.cells #[.slice none 0 0] 35)))
  have H := hid h
  clear h
  unfold ptr at *
  gi_wp2
  refine ⟨trivial, ?_⟩
  refine (callsIn_wide.2 HA.out).mono ?_
  rintro e w2 ⟨rfl, rfl⟩
  clear HA
  gi_wp2
  have bO : Boxed ((w.alloc (.cells #[.slice none 0 0] 35)).alloc (.cells #[.pointer (some ⟨S.kn, 0, none⟩)] 111)) w.heap.size 35 (.slice none 0 0) := (Boxed.new w 35 (.slice none 0 0)).alloc _
  have bN := Boxed.new (w.alloc (.cells #[.slice none 0 0] 35)) 111 (.pointer (some ⟨S.kn, 0, none⟩))
  rw [World.size_alloc] at bN
  have hB0 : Below w.heap.size w ((w.alloc (.cells #[.slice none 0 0] 35)).alloc (.cells #[.pointer (some ⟨S.kn, 0, none⟩)] 111)) := ((Below.refl _ w).alloc (Nat.le_refl _) _).alloc (by simp) _
  have hsz2 : ((w.alloc (.cells #[.slice none 0 0] 35)).alloc (.cells #[.pointer (some ⟨S.kn, 0, none⟩)] 111)).heap.size = w.heap.size + 2 := by simp
  obtain ⟨w2, hw2⟩ : ∃ w2, (w.alloc (.cells #[.slice none 0 0] 35)).alloc (.cells #[.pointer (some ⟨S.kn, 0, none⟩)] 111) = w2 := ⟨_, rfl⟩
  rw [hw2] at bO bN hB0 hsz2 ⊢
  have hll : L.length ≤ 4096 := Nat.le_trans H.out.len H.out.rest.m2
  have hlt' : ∀ k, Has S L k → k < w.heap.size := fun k hk => H.out.rest.lt k hk
  refine wpIn_rangeFunc_ownG rfl (by omega) (gf := 106) (lb := #[.pointer (some ⟨w.heap.size + 1, 0, none⟩)]) rfl trivial (enters_of Try.func106 (by kernel_rfl) rfl)
    (all_stops (n := 9) (by omega) (w.heap.size + 1) w.heap.size w2 (by omega) (H.out.below hB0) hlt' bN.cell) Kp.trans (kp_b (by omega) (by omega)) (Below.refl _ _) (fun _ => rfl)
    (fun pre W => ((∃ v, Boxed W w.heap.size 35 v ∧ W.ownsRow w.heap.size 9 1 v (out pre).length (ks (out pre)) ∧ True) ∧ Boxed W (w.heap.size + 1) 111 (.pointer (some ⟨S.kn, 0, none⟩))) ∧ Below w.heap.size w W)
    (fun _ _ _ => False)
    (OwnFrom.and (OwnFrom.and (Own.from (holdsRow_own w.heap.size w.heap.size 35 9 1 (fun pre : List (In L) => (out pre).length) (fun pre => ks (out pre)) (fun _ _ => True)) _) (Own.from (boxed_own' _ _ _) _)) (ownFrom_below (Nat.le_refl _) (by omega)))
    (fun _ _ _ _ _ hs _ _ => hs)
    ⟨⟨⟨_, bO, World.ownsRow_nil _ _ _ _, trivial⟩, bN⟩, hB0⟩
    (fun x => { tmps := #[.pointer (some ⟨S.mb, 0, none⟩), undef, .slice none 0 0, .pointer (some ⟨w.heap.size, 0, none⟩), .pointer (some ⟨x.1.b, 0, none⟩), .pointer (some ⟨S.mb, 0, none⟩), .bool false, .pointer (some ⟨S.mb, 0, none⟩), .pointer (some ⟨S.mb, 0, none⟩), .pointer (some ⟨S.mb, 0, none⟩), .agg #[.pointer (some ⟨S.kn, 0, none⟩)], .func (Fn.func 106) #[] #[.pointer (some ⟨w.heap.size + 1, 0, none⟩)], .pointer (some ⟨x.1.b, 0, none⟩), undef, undef, undef, undef, undef, undef, undef, undef, undef], defers := [] }) ?assign ?body ?done ?stop
  case assign =>
    intro l x W K hK
    unfold bi be ptr
    gi_wp2
    exact hK
  case body =>
    rintro l pre x W ⟨⟨⟨v, hv, hrow, -⟩, hN⟩, hB⟩ hlt
    have hc : W.cell? ⟨w.heap.size, 0, none⟩ = some v := hv.cell
    obtain ⟨hb1, hk, -, -⟩ := H.out.rest.ents x.1 x.2
    have hxl : x.1.b < w.heap.size := hb1.lt
    have ck : W.cell? ⟨x.1.b, 0, none⟩ = some (.string x.1.k) := (hB.cell (p := ⟨x.1.b, 0, none⟩) hxl).trans hk
    have hol : (out pre).length < L.length := by rw [out_len]; exact hlt
    have hs := hB.size
    obtain ⟨m, hm⟩ : ∃ m, (out pre).length = m := ⟨_, rfl⟩
    rw [hm] at hrow hol
    have HM := hid hm
    obtain ⟨v', w1, hrun, hown', hgrow, -, -⟩ := run_append_own_at (P := Try.prog) (W.drew.alloc (.cells #[.string x.1.k] 9)) w.heap.size 35 35 9 i0 (.string ⟨#[]⟩) 1 16 Try.underlying35 hi hz0 hz1 hz2 rfl (by decide) v m (ks (out pre)) (World.ownsRow.alloc (w := W.drew) hrow _) ⟨W.heap.size, 0, none⟩ 1 1 [.string x.1.k] rfl (cell_one_new W.drew _ _) (by intro u hu; obtain rfl := List.mem_singleton.1 hu; rfl) (by unfold maxLen; omega) (by omega) (by simp; omega)
    obtain ⟨g', cap', rfl⟩ := ownsRow_succ hown'
    obtain ⟨hv1, hv2, hr2, hk2, hb2⟩ := Boxed.appended (W := W.drew) (n₀ := w.heap.size) hv (by decide) hrow hs (Nat.le_refl _) hown' hgrow
    have hc1 := hv1.cell
    have hf1 := hv1.frozen
    have HN1 : Hid (Boxed (w1.setCell ⟨w.heap.size, 0, none⟩ (.slice (some ⟨g', 0, none⟩) (m + 1) cap')) (w.heap.size + 1) 111 (.pointer (some ⟨S.kn, 0, none⟩))) := hid (by
      have h1 : Boxed (W.drew.alloc (.cells #[.string x.1.k] 9)) (w.heap.size + 1) 111 (.pointer (some ⟨S.kn, 0, none⟩)) := Boxed.alloc (W := W.drew) hN _
      have h2 := h1.kept hgrow (Boxed.not_row (W := W.drew) hN (by decide) hrow)
      exact h2.kept (grownBy_setCell' w1 _ _) (by simp))
    have hlt2 : w.heap.size < W.heap.size := hv.lt
    have hne2 : W.heap.size ≠ w.heap.size := by omega
    have hne3 : ¬ w.heap.size = W.heap.size := by omega
    have HF := hid (And.intro hv2 (And.intro hr2 (And.intro hk2 hb2)))
    have HNB := hid hN
    have HB := hid hB
    change Sem.run Try.prog (app _ _ _) (W.alloc (.cells #[.string x.1.k] 9)).drew = _ at hrun
    clear hv1 hv2 hr2 hk2 hb2 hgrow hown' hrow hN hB hb1 hk hm
    gi_wp2
    gi_region_with (fail)
    all_goals
      gi_wp2
      obtain ⟨hv2, hr2, hk3, hb3⟩ := HF.out
      have hb2 := (Below.refl w.heap.size W).drew.trans hb3
      have hk2 := (KeepsOthers.drew W).trans hk3
      refine ⟨hk2.from _, ⟨hb2, HN1.out.trans HNB.out.symm⟩, ⟨⟨_, hv2, ?_, trivial⟩, HN1.out⟩, HB.out.trans hb2⟩
      rw [out_snoc, ks_snoc, List.length_append, HM.out]
      exact hr2
  case done =>
    rintro D ys W hD hys ⟨⟨⟨v, hv, hrow, -⟩, hN⟩, hB⟩ hK
    have hc : W.cell? ⟨w.heap.size, 0, none⟩ = some v := hv.cell
    rw [hys] at hrow
    gi_wp2
    refine ⟨by simp, .inl ⟨_, _, rfl, run_takeDeferred hK, ?_⟩⟩
    exact ⟨_, results_tmp rfl _ _ _, ⟨v, rfl, ownsRow_putObj hrow _ hK rfl⟩, hB.trans (belowK_b (w := w) (Nat.le_refl _) W D _ _ (by omega) hK rfl rfl)⟩
  case stop =>
    rintro D c pre W _ _ h _
    exact h.elim

end Go.Proofs.Ytkdldcigooiljaa.LruQ
