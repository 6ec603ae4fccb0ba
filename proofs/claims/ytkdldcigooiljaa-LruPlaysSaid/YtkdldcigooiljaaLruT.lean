/- A bounded map's Fork. -/
import Derived.Test.YtkdldcigooiljaaLruS
import Derived.Test.YtkdldcigooiljaaLruR
namespace Go.Proofs.Ytkdldcigooiljaa.LruT
open Go.ChangeShapes Go.WideShapes Go.ChangeAt Go.RowKit Base Wri Map LruA LruB LruC LruD LruE LruF LruP LruQ LruS
open LruR (kv kvs)
open Go.Shelf
attribute [local go_sem] Oper.semAt_some
variable {S S2 : Spot} {L L2 : List Ent} {w W W' : World}

theorem cells_of {w : World} {b i : Nat} (h : ∃ u, w.cell? ⟨b, i, none⟩ = some u) {o : Obj} (ho : w.heap[b]? = some o) : o.isCells = true := by
  obtain ⟨u, hu⟩ := h
  obtain ⟨c, t, z, hc⟩ := heap_of_cell hu
  rw [hc] at ho
  cases ho
  rfl

/-- what the map has are cells, but for its places -/
theorem has_cells (h : LW W S2 L2) {k : Nat} (hk : Has S2 L2 k) (hp : k ≠ S2.pb) {o : Obj} (ho : W.heap[k]? = some o) : o.isCells = true := by
  rcases hk with rfl | rfl | rfl | ⟨x, hx, rfl⟩
  · rw [h.map] at ho; cases ho; rfl
  · exact cells_of h.knot.c2 ho
  · exact absurd rfl hp
  · exact cells_of (h.ents x hx).1.c2 ho

/-- the fork, when so many have come -/
structure FI (w : World) (S2 : Spot) (B0 kn : Nat) (q : List Ent) (W : World) (L2 : List Ent) : Prop where
  kvs : kvs L2 = kvs q
  lw : LW W S2 L2
  ring : Ring W S2.kn (L2.map Ent.b)
  up : ∀ k, Has S2 L2 k → w.heap.size ≤ k ∧ k ≠ B0 ∧ k ≠ B0 + 1
  box : Boxed W B0 23 (.pointer (some ⟨S2.mb, 0, none⟩))
  bx1 : Boxed W (B0 + 1) 111 (.pointer (some ⟨kn, 0, none⟩))
  bel : Below w.heap.size w W

theorem FI.row {B0 kn : Nat} {q : List Ent} (h : FI w S2 B0 kn q W L2) {row : Option Nat} (hg : W.grownBy W' row) (hr : ∀ r, row = some r → (S2.pb < r ∧ w.heap.size ≤ r) ∧ ∃ o, W.heap[r]? = some o ∧ o.isCells = false) : FI w S2 B0 kn q W' L2 := by
  have hne : ∀ k, Has S2 L2 k → some k ≠ row := fun k hk e => by
    obtain ⟨⟨h1, _⟩, o, ho, hc⟩ := hr k e.symm
    rw [has_cells h.lw hk (by omega) ho] at hc
    cases hc
  have hnb : ∀ {B : Nat} {t : TypeId} {v : Value}, Boxed W B t v → some B ≠ row := fun {B t v} hb e => by
    obtain ⟨_, o, ho, hc⟩ := hr B e.symm
    rw [show W.heap[B]? = _ from hb] at ho; cases ho; cases hc
  have hk : ∀ k, Has S2 L2 k → W'.heap[k]? = W.heap[k]? := fun k hk => hg.block k (h.lw.lt k hk) (hne k hk)
  refine ⟨h.kvs, h.lw.keep hk, Ring.keep h.ring (fun x hx => hk x ?_), h.up, h.box.kept hg (hnb h.box), h.bx1.kept hg (hnb h.bx1), h.bel.grown hg h.bel.size (fun j e => (hr j e).1.2)⟩
  rcases List.mem_cons.1 hx with rfl | hx
  · exact .inr (.inl rfl)
  · obtain ⟨y, hy, rfl⟩ := List.mem_map.1 hx
    exact .inr (.inr (.inr ⟨y, hy, rfl⟩))

theorem FI.lru {B0 kn : Nat} {q : List Ent} (h : FI w S2 B0 kn q W L2) (hq : (q.map Ent.k).Nodup) (hl : q.length ≤ S2.most) : IsLru W S2 L2 := by
  have e : L2.map Ent.k = q.map Ent.k := by
    have := congrArg (List.map Prod.fst) h.kvs
    simpa [LruR.kvs, LruR.kv, Function.comp_def] using this
  have el : L2.length = q.length := by have := congrArg List.length e; simpa using this
  exact ⟨h.lw.rest (by rw [e]; exact hq), h.ring, by omega⟩

theorem FI.step {B0 kn : Nat} {q : List Ent} {w3 : World} (h : FI w S2 B0 kn q W L2) (x : Ent) (hw : Wr (Has S2 L2) W.drew w3) (h3 : LW w3 S2 (L2 ++ [⟨W.drew.heap.size + 1, x.k, x.v⟩])) (hr3 : Ring w3 S2.kn ((L2 ++ [(⟨W.drew.heap.size + 1, x.k, x.v⟩ : Ent)]).map Ent.b)) :
    FI w S2 B0 kn (q ++ [x]) w3 (L2 ++ [⟨W.drew.heap.size + 1, x.k, x.v⟩]) := by
  have l0 : B0 < W.heap.size := h.box.lt
  have l1 : B0 + 1 < W.heap.size := h.bx1.lt
  have lz : W.drew.heap.size = W.heap.size := rfl
  have lb := h.bel.size
  refine ⟨by rw [LruR.kvs_app, LruR.kvs_app, h.kvs]; rfl, h3, hr3, fun k hk => ?_, (hw.block B0 l0 (fun e => (h.up _ e).2.1 rfl)).trans h.box, (hw.block (B0 + 1) l1 (fun e => (h.up _ e).2.2 rfl)).trans h.bx1, (h.bel.drew).trans (hw.below w.heap.size lb (fun k e => (h.up k e).1))⟩
  rcases hk with e | e | e | ⟨y, hy, e⟩
  · exact h.up k (.inl e)
  · exact h.up k (.inr (.inl e))
  · exact h.up k (.inr (.inr (.inl e)))
  · rcases List.mem_append.1 hy with hy | hy
    · exact h.up k (.inr (.inr (.inr ⟨y, hy, e⟩)))
    · rw [List.mem_singleton.1 hy] at e
      subst e
      show _ ≤ W.drew.heap.size + 1 ∧ W.drew.heap.size + 1 ≠ _ ∧ W.drew.heap.size + 1 ≠ _
      omega

theorem FI.keeps {B0 kn B : Nat} {q : List Ent} {w3 : World} (h : FI w S2 B0 kn q W L2) (hB : S2.pb < B) (hw : Wr (Has S2 L2) W.drew w3) : KeepsFrom B W w3 :=
  ⟨hw.size, fun k o hk ho hc => (hw.block k (Array.getElem?_eq_some_iff.1 ho).1 (fun e => by
    have := has_cells h.lw e (by omega) ho
    rw [hc] at this
    cases this)).trans ho⟩

set_option maxRecDepth 100000 in
set_option maxHeartbeats 1000000 in
theorem fork_any (h : IsLru w S L) :
    Calls Try.prog 23 #[ptr S.mb] w fun e w' => (∃ S2 L2, e = .returned (ptr S2.mb) ∧ S2.most = S.most ∧ IsLru w' S2 L2 ∧ kvs L2 = kvs L ∧ ∀ k, Has S2 L2 k → w.heap.size ≤ k) ∧ Below w.heap.size w w' := by
  refine callsIn_wide.1 (callsIn_of_wp_marks (n := 10) Try.func23 rfl trivial ?_ rfl)
  simp only [Try.ntmps23, List.size_toArray, List.length_cons, List.length_nil, Nat.reduceAdd, Nat.reduceSub, Array.replicate_succ, Array.replicate_zero, List.push_toArray, List.append_toArray, List.nil_append, List.cons_append]
  have c0 : w.cell? ⟨S.mb, 0, none⟩ = some (ptr S.kn) := (LRest.mcell h.rest).1
  have c1 := (LRest.mcell h.rest).2.1
  have hmb : S.mb < w.heap.size := h.rest.lt _ (.inl rfl)
  have HE := hid (empty_any S.most w h.rest.m1 h.rest.m2)
  have H := hid h
  clear h
  unfold ptr at *
  gi_wp2
  refine ⟨trivial, ?_⟩
  refine (callsIn_wide.2 HE.out).mono ?_
  rintro e w1 ⟨S2, rfl, hm2, hL2, hb1, hup⟩
  have c01 := (hb1.cell (p := ⟨S.mb, 0, none⟩) hmb).trans c0
  have hs1 := hb1.size
  have hmb1 : S.mb < w1.heap.size := Nat.lt_of_lt_of_le hmb hs1
  have HL2 := hid hL2
  have HB1 := hid hb1
  have HUP := hid hup
  have HM2 := hid hm2
  have HA := hid (all_any S.kn (w1.alloc (.cells #[.pointer (some ⟨S2.mb, 0, none⟩)] 23)))
  clear HE hL2 hb1 hup hm2 c0 c1
  unfold ptr at *
  gi_wp2
  refine ⟨trivial, ?_⟩
  refine (callsIn_wide.2 HA.out).mono ?_
  rintro e w2 ⟨rfl, rfl⟩
  clear HA
  gi_wp2
  have bO : Boxed ((w1.alloc (.cells #[.pointer (some ⟨S2.mb, 0, none⟩)] 23)).alloc (.cells #[.pointer (some ⟨S.kn, 0, none⟩)] 111)) w1.heap.size 23 (.pointer (some ⟨S2.mb, 0, none⟩)) := (Boxed.new w1 23 _).alloc _
  have bN := Boxed.new (w1.alloc (.cells #[.pointer (some ⟨S2.mb, 0, none⟩)] 23)) 111 (.pointer (some ⟨S.kn, 0, none⟩))
  rw [World.size_alloc] at bN
  have hB0 : Below w1.heap.size w1 ((w1.alloc (.cells #[.pointer (some ⟨S2.mb, 0, none⟩)] 23)).alloc (.cells #[.pointer (some ⟨S.kn, 0, none⟩)] 111)) := ((Below.refl _ w1).alloc (Nat.le_refl _) _).alloc (by simp) _
  have hsz2 : ((w1.alloc (.cells #[.pointer (some ⟨S2.mb, 0, none⟩)] 23)).alloc (.cells #[.pointer (some ⟨S.kn, 0, none⟩)] 111)).heap.size = w1.heap.size + 2 := by simp
  obtain ⟨w2, hw2⟩ : ∃ w2, (w1.alloc (.cells #[.pointer (some ⟨S2.mb, 0, none⟩)] 23)).alloc (.cells #[.pointer (some ⟨S.kn, 0, none⟩)] 111) = w2 := ⟨_, rfl⟩
  rw [hw2] at bO bN hB0 hsz2 ⊢
  have hll : L.length ≤ S2.most := HM2.out ▸ H.out.len
  have hlt' : ∀ k, Has S L k → k < w.heap.size := fun k hk => H.out.rest.lt k hk
  have hb02 : Below w.heap.size w w2 := HB1.out.trans (hB0.mono hs1)
  have hlt2 : ∀ k, Has S2 [] k → k < w1.heap.size := fun k hk => HL2.out.rest.lt k hk
  have hpb2 : S2.pb < w1.heap.size := hlt2 _ (.inr (.inr (.inl rfl)))
  have h0 : FI w S2 w1.heap.size S.kn [] w2 [] := ⟨rfl, LW.of (HL2.out.below hB0).rest, (HL2.out.below hB0).ring, fun k hk => ⟨HUP.out k hk, by have := hlt2 k hk; omega, by have := hlt2 k hk; omega⟩, bO, bN, hb02⟩
  refine wpIn_rangeFunc_ownG rfl (by omega) (gf := 106) (lb := #[.pointer (some ⟨w1.heap.size + 1, 0, none⟩)]) rfl trivial (enters_of Try.func106 (by kernel_rfl) rfl)
    (all_stops (n := 9) (by omega) (w1.heap.size + 1) w.heap.size w2 (by omega) (H.out.below hb02) hlt' bN.cell) Kp.trans (kp_b (by omega) (by omega)) (Below.refl _ _) (fun _ => rfl)
    (fun pre W => ∃ L2, FI w S2 w1.heap.size S.kn (out pre) W L2)
    (fun _ _ _ => False)
    (fun s A B row hs hg hr => by
      obtain ⟨L2, hf⟩ := hs
      exact ⟨L2, hf.row hg (fun r e => ⟨by have := (hr r e).1; omega, (hr r e).2⟩)⟩)
    (fun _ _ _ _ _ hs _ _ => hs)
    ⟨[], h0⟩
    (fun x => { tmps := #[.pointer (some ⟨S.mb, 0, none⟩), undef, .pointer none, .pointer (some ⟨w1.heap.size, 0, none⟩), .pointer (some ⟨x.1.b, 0, none⟩), .pointer (some ⟨S.mb, 0, none⟩), .bool false, .pointer (some ⟨S.mb, 0, none⟩), .pointer (some ⟨S.mb, 0, none⟩), .pointer (some ⟨S.mb, 1, none⟩), .int .i64 S.most, .pointer (some ⟨S2.mb, 0, none⟩), .pointer (some ⟨S.mb, 0, none⟩), .pointer (some ⟨S.mb, 0, none⟩), .pointer (some ⟨S.mb, 0, none⟩), .agg #[.pointer (some ⟨S.kn, 0, none⟩)], .func (Fn.func 106) #[] #[.pointer (some ⟨w1.heap.size + 1, 0, none⟩)], .pointer (some ⟨x.1.b, 0, none⟩), undef, undef, undef, undef, undef, undef, undef], defers := [] }) ?assign ?body ?done ?stop
  case assign =>
    intro l x W K hK
    unfold bi be ptr
    gi_wp2
    exact hK
  case body =>
    rintro l pre x W ⟨L2, hf⟩ hlt
    obtain ⟨hb1, hk, hv, hsk⟩ := H.out.rest.ents x.1 x.2
    have hxl : x.1.b < w.heap.size := hb1.lt
    have ck : W.cell? ⟨x.1.b, 0, none⟩ = some (.string x.1.k) := (hf.bel.cell (p := ⟨x.1.b, 0, none⟩) hxl).trans hk
    have cv : W.cell? ⟨x.1.b, 1, none⟩ = some (.int .i64 x.1.v) := (hf.bel.cell (p := ⟨x.1.b, 1, none⟩) hxl).trans hv
    have cb : W.cell? ⟨w1.heap.size, 0, none⟩ = some (.pointer (some ⟨S2.mb, 0, none⟩)) := hf.box.cell
    have HF := hid hf
    have HW := hid (wadd_any (w := W.drew) (S := S2) (L := L2) (hf.lw.keep fun _ _ => rfl) (Ring.keep hf.ring fun _ _ => rfl) hsk x.1.v)
    clear hf hb1 hk hv hsk
    unfold ptr at *
    gi_wp2
    gi_region_with (refine ⟨trivial, ?_⟩; gi_at_call 57; refine (CallsIn.inRound l (callsIn_wide.2 HW.out)).mono ?_; rintro e w3 ⟨rfl, ⟨h3, hr3⟩, hw3⟩; clear HW)
    all_goals
      have HX := hid (HF.out.step x.1 hw3 h3 hr3)
      have HKF : Hid (KeepsFrom w2.heap.size W w3) := hid (HF.out.keeps (by omega) hw3)
      have hszW := HF.out.bel.size
      have HKp : Hid (Kp w.heap.size (w1.heap.size + 1) W w3) := hid ⟨((Below.refl w.heap.size W).drew).trans (hw3.below w.heap.size hszW (fun k e => (HF.out.up k e).1)), hw3.block (w1.heap.size + 1) HF.out.bx1.lt (fun e => (HF.out.up _ e).2.2 rfl)⟩
      clear hw3 h3 hr3
      gi_wp2
      exact ⟨HKF.out, HKp.out, _, by rw [out_snoc]; exact HX.out⟩
  case done =>
    rintro D ys W hD hys ⟨L2, hf⟩ hK
    have cb : W.cell? ⟨w1.heap.size, 0, none⟩ = some (.pointer (some ⟨S2.mb, 0, none⟩)) := hf.box.cell
    have HF := hid hf
    rw [hys] at HF
    clear hf
    gi_wp2
    have HF2 := HF.out.row (grownBy_putObj' W D (.deferred none)) (fun r e => by cases e; exact ⟨⟨by omega, by omega⟩, _, hK, rfl⟩)
    refine ⟨by simp, .inl ⟨_, _, rfl, run_takeDeferred hK, ?_⟩⟩
    exact ⟨_, results_tmp rfl _ _ _, ⟨S2, L2, rfl, HM2.out, HF2.lru H.out.rest.keys hll, HF2.kvs, fun k hk => (HF2.up k hk).1⟩, HF2.bel⟩
  case stop =>
    rintro D c pre W _ _ h _
    exact h.elim

theorem fork_nil (w : World) : Calls Try.prog 23 #[.pointer none] w fun e w' => e = .returned (.pointer none) ∧ w = w' := by
  go_enter Try.func23, Try.ntmps23
  go_wp2
  go_ret
  exact ⟨rfl, rfl⟩

end Go.Proofs.Ytkdldcigooiljaa.LruT
