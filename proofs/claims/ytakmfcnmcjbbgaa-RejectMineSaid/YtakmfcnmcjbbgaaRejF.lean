/- The numbers of the rules that look at a call. -/
import Derived.Test.YtakmfcnmcjbbgaaRejE
import Derived.RangeFuncBox
import Derived.RangeFuncFrom
import Derived.RangeFuncWrites
import Derived.Maps.AppendAt
import Derived.Stop.RegionWithIn
namespace Go.Proofs.Ytakmfcnmcjbbgaa.RejF
set_option linter.unusedVariables false
open Go.ChangeShapes Go.WideShapes Go.ChangeAt Go.RowKit Base RejA RejB RejD RejE Txt
open Go.Shelf

/-- an append, kept whole -/
def app (ats : Array TypeId) (ty : TypeId) (args : Array Value) : Sem Value := Builtin.append_ ats ty args
theorem builtin_app {ats : Array TypeId} {ty : TypeId} {cs : Array Bool} {args : Array Value} : builtin .append ats ty cs args = (do pure (.value (← app ats ty args))) := rfl
theorem infoInt2 : (Try.prog.info? 3).map (fun i => (i.zero, i.size, i.bytes)) = some (some (.int .i64 0), 1, 8) := by kernel_rfl

def vals (l : List Nat) : List Value := l.map fun k => Value.int .i64 (k : Nat)
theorem vals_snoc (l : List Nat) (k : Nat) : vals (l ++ [k]) = vals l ++ [.int .i64 (k : Nat)] := by simp [vals]

theorem kq_b {n0 b1 b2 : Nat} {w : World} (hn : n0 ≤ w.heap.size) (h1 : b1 < w.heap.size) (h2 : b2 < w.heap.size) : ∀ (W : World) (l : Nat) (o o' : Obj), w.heap.size ≤ l → W.heap[l]? = some o → o.isCells = false → o.isWalk = false → Kq n0 b1 b2 W (W.putObj l o') := by
  intro W l o o' hl ho hc hw
  have hlW : l < W.heap.size := (Array.getElem?_eq_some_iff.1 ho).1
  exact ⟨belowK_b hn W l o o' hl ho hc hw, (grownBy_putObj' W l o').block b1 (by omega) (fun e => by cases e; omega), (grownBy_putObj' W l o').block b2 (by omega) (fun e => by cases e; omega)⟩
theorem boxed_own' {β : Type} (B : Nat) (t : TypeId) (v : Value) : Own (fun (_ : β) W => Boxed W B t v) := by
  rintro s X Y row hv hg hrow
  refine hv.kept hg (fun e' => ?_)
  obtain ⟨o, ho, hc⟩ := hrow B e'.symm
  rw [show X.heap[B]? = _ from hv] at ho; cases ho; cases hc
theorem cells_own {β : Type} (B : Nat) (cs : Array Value) (t : TypeId) : Own (fun (_ : β) W => W.heap[B]? = some (.cells cs t)) := by
  rintro s X Y row hv hg hrow
  refine (hg.block B (Array.getElem?_eq_some_iff.1 hv).1 (fun e => ?_)).trans hv
  obtain ⟨o, ho, hc⟩ := hrow B e.symm
  rw [hv] at ho; cases ho; cases hc

set_option maxRecDepth 20000 in
set_option maxHeartbeats 400000 in
theorem conc_any (a : Option Addr) (n cap : Nat) (c : Cal) (w : World) :
    Calls Try.prog 22 #[.slice a n cap, .agg (cv c)] w fun e w' => e = .returned (.func (Fn.func 32) #[] #[.pointer (some ⟨w.heap.size, 0, none⟩), .pointer (some ⟨w.heap.size + 1, 0, none⟩)]) ∧
      (w.alloc (.cells #[.slice a n cap] 40)).alloc (.cells (cv c) 28) = w' := by
  unfold cv
  go_enter Try.func22, Try.ntmps22
  go_wp2_with fail
  go_ret
  exact ⟨rfl, rfl⟩

attribute [local go_sem] Oper.semAt_some
attribute [local go_sem ↓ high] builtin_app

set_option maxRecDepth 100000 in
set_option maxHeartbeats 2000000 in
theorem Mine_any (a : Option Addr) (n cap : Nat) (L : Nat → Flow) (c : Cal) (w : World) (hn : n ≤ 4000000000000) (hF : Flows w a n L) :
    Calls Try.prog 16 #[.slice a n cap, .agg (cv c)] w fun e w' => (∃ x, e = .returned x ∧ w'.ownsRow w.heap.size 3 1 x (mines n L c n).length (vals (mines n L c n))) ∧ Below w.heap.size w w' := by
  obtain ⟨i0, hi, hz0, hz1, hz2⟩ := info_parts infoInt2
  have hml := mines_len n L c n
  refine callsIn_wide.1 (callsIn_of_wp_marks (n := 10) Try.func16 rfl trivial ?_ rfl)
  simp only [Try.ntmps16, List.size_toArray, List.length_cons, List.length_nil, Nat.reduceAdd, Nat.reduceSub, Array.replicate_succ, Array.replicate_zero, List.push_toArray, List.append_toArray, List.nil_append, List.cons_append]
  have HA := hid (conc_any a n cap c ((w.alloc (.cells (cv c) 28)).alloc (.cells #[.slice none 0 0] 41)))
  have HF := hid hF
  clear hF
  unfold cv at HA ⊢
  gi_wp2
  refine ⟨trivial, ?_⟩
  refine (callsIn_wide.2 HA.out).mono ?_
  rintro e w2 ⟨rfl, rfl⟩
  clear HA
  gi_wp2
  obtain ⟨w1, hw1⟩ : ∃ w1, (w.alloc (.cells #[.int .i64 c.at_, .string c.res, .string c.ctx, .string c.org, .bool c.inb, .int .i64 c.cnt, .slice c.a c.n c.cap] 28)).alloc (.cells #[.slice none 0 0] 41) = w1 := ⟨_, rfl⟩
  have hs1 : w1.heap.size = w.heap.size + 2 := by rw [← hw1]; simp
  have bO : Boxed w1 w.heap.size 41 (.slice none 0 0) ∨ True := .inr trivial
  have bO1 : Boxed w1 (w.heap.size + 1) 41 (.slice none 0 0) := by
    rw [← hw1]
    have := Boxed.new (w.alloc (.cells #[.int .i64 c.at_, .string c.res, .string c.ctx, .string c.org, .bool c.inb, .int .i64 c.cnt, .slice c.a c.n c.cap] 28)) 41 (.slice none 0 0)
    rwa [World.size_alloc] at this
  have hB1 : Below w.heap.size w w1 := by rw [← hw1]; exact ((Below.refl _ w).alloc (Nat.le_refl _) _).alloc (by simp) _
  rw [hw1]
  clear hw1 bO
  have bO2 : Boxed ((w1.alloc (.cells #[.slice a n cap] 40)).alloc (.cells #[.int .i64 c.at_, .string c.res, .string c.ctx, .string c.org, .bool c.inb, .int .i64 c.cnt, .slice c.a c.n c.cap] 28)) (w.heap.size + 1) 41 (.slice none 0 0) := (bO1.alloc _).alloc _
  have bL := (Boxed.new w1 40 (.slice a n cap)).alloc (.cells #[.int .i64 c.at_, .string c.res, .string c.ctx, .string c.org, .bool c.inb, .int .i64 c.cnt, .slice c.a c.n c.cap] 28)
  have bC := heap_alloc_new (w1.alloc (.cells #[.slice a n cap] 40)) (.cells #[.int .i64 c.at_, .string c.res, .string c.ctx, .string c.org, .bool c.inb, .int .i64 c.cnt, .slice c.a c.n c.cap] 28)
  rw [World.size_alloc, hs1] at bC
  rw [hs1] at bL
  have hB0 : Below w.heap.size w ((w1.alloc (.cells #[.slice a n cap] 40)).alloc (.cells #[.int .i64 c.at_, .string c.res, .string c.ctx, .string c.org, .bool c.inb, .int .i64 c.cnt, .slice c.a c.n c.cap] 28)) := (hB1.alloc hB1.size _).alloc (by simp; omega) _
  have hsz2 : ((w1.alloc (.cells #[.slice a n cap] 40)).alloc (.cells #[.int .i64 c.at_, .string c.res, .string c.ctx, .string c.org, .bool c.inb, .int .i64 c.cnt, .slice c.a c.n c.cap] 28)).heap.size = w.heap.size + 4 := by simp; omega
  obtain ⟨w2, hw2⟩ : ∃ w2, (w1.alloc (.cells #[.slice a n cap] 40)).alloc (.cells #[.int .i64 c.at_, .string c.res, .string c.ctx, .string c.org, .bool c.inb, .int .i64 c.cnt, .slice c.a c.n c.cap] 28) = w2 := ⟨_, rfl⟩
  rw [hw2] at bO2 bL bC hB0 hsz2 ⊢
  clear hw2
  have hFl : Fl w2 w.heap.size a n L := (Flows.low HF.out).kq hB0 (Nat.le_refl _)
  refine wpIn_rangeFunc_ownG rfl (by omega) (gf := 32) (lb := #[.pointer (some ⟨w.heap.size + 2, 0, none⟩), .pointer (some ⟨w.heap.size + 3, 0, none⟩)]) rfl trivial (enters_of Try.func32 (by kernel_rfl) rfl)
    (conc_stops (m := 9) (by omega) (w.heap.size + 2) (w.heap.size + 3) w.heap.size a n cap L c 28 (by omega) w2 (by omega) bL.cell bC hFl) Kq.trans (kq_b (by omega) (by omega) (by omega)) (Below.refl _ _) (fun _ => rfl)
    (fun pre W => ((∃ v, Boxed W (w.heap.size + 1) 41 v ∧ W.ownsRow w.heap.size 3 1 v pre.length (vals pre) ∧ True) ∧ (Boxed W (w.heap.size + 2) 40 (.slice a n cap) ∧ W.heap[w.heap.size + 3]? = some (.cells (cv c) 28))) ∧ Below w.heap.size w W)
    (fun _ _ _ => False)
    (OwnFrom.and (OwnFrom.and (Own.from (holdsRow_own w.heap.size (w.heap.size + 1) 41 3 1 (fun pre : List Nat => pre.length) (fun pre => vals pre) (fun _ _ => True)) _) (OwnFrom.and (Own.from (boxed_own' _ _ _) _) (Own.from (cells_own _ _ _) _))) (ownFrom_below (Nat.le_refl _) (by omega)))
    (fun _ _ _ _ _ hs _ _ => hs)
    ⟨⟨⟨_, bO2, World.ownsRow_nil _ _ _ _, trivial⟩, bL, bC⟩, hB0⟩
    (fun k => { tmps := #[.slice a n cap, .agg #[.int .i64 c.at_, .string c.res, .string c.ctx, .string c.org, .bool c.inb, .int .i64 c.cnt, .slice c.a c.n c.cap], undef, .pointer (some ⟨w.heap.size, 0, none⟩), .slice none 0 0, .pointer (some ⟨w.heap.size + 1, 0, none⟩), .int .i64 (k : Nat), .slice a n cap, .agg #[.int .i64 c.at_, .string c.res, .string c.ctx, .string c.org, .bool c.inb, .int .i64 c.cnt, .slice c.a c.n c.cap], .func (Fn.func 32) #[] #[.pointer (some ⟨w.heap.size + 2, 0, none⟩), .pointer (some ⟨w.heap.size + 3, 0, none⟩)], .int .i64 (k : Nat), undef, undef, undef, undef, undef], defers := [] }) ?assign ?body ?done ?stop
  case assign =>
    intro l x W K hK
    gi_wp2
    exact hK
  case body =>
    rintro l pre k W ⟨⟨⟨v, hv, hrow, -⟩, hL, hC⟩, hB⟩ hlt
    have hc : W.cell? ⟨w.heap.size + 1, 0, none⟩ = some v := hv.cell
    have hs := hB.size
    obtain ⟨m, hm⟩ : ∃ m, pre.length = m := ⟨_, rfl⟩
    rw [hm] at hrow hlt
    have HM := hid hm
    obtain ⟨v', w3, hrun, hown', hgrow, -, -⟩ := run_append_own_at (P := Try.prog) (W.alloc (.cells #[.int .i64 (k : Nat)] 3)) w.heap.size 41 41 3 i0 (.int .i64 0) 1 8 Try.underlying41 hi hz0 hz1 hz2 rfl (by decide) v m (vals pre) (World.ownsRow.alloc hrow _) ⟨W.heap.size, 0, none⟩ 1 1 [.int .i64 (k : Nat)] rfl (cell_one_new W _ _) (by intro u hu; obtain rfl := List.mem_singleton.1 hu; rfl) (by unfold maxLen; omega) (by omega) (by simp; omega)
    obtain ⟨g', cap', rfl⟩ := ownsRow_succ hown'
    obtain ⟨hv1, hv2, hr2, hk2, hb2⟩ := Boxed.appended (W := W) (n₀ := w.heap.size) hv (by decide) hrow hs (by omega) hown' hgrow
    have hc1 := hv1.cell
    have hf1 := hv1.frozen
    have HL1 : Hid (Boxed (w3.setCell ⟨w.heap.size + 1, 0, none⟩ (.slice (some ⟨g', 0, none⟩) (m + 1) cap')) (w.heap.size + 2) 40 (.slice a n cap)) := hid (by
      have h1 : Boxed (W.alloc (.cells #[.int .i64 (k : Nat)] 3)) (w.heap.size + 2) 40 (.slice a n cap) := Boxed.alloc hL _
      have h2 := h1.kept hgrow (Boxed.not_row hL (by decide) hrow)
      exact h2.kept (grownBy_setCell' w3 _ _) (by simp))
    have hown_ne : v.ownBlock ≠ some (w.heap.size + 3) := fun e => by
      rcases hrow.2 with ⟨rfl, _⟩ | ⟨gg, cp, cur, rfl, _, hgg, _⟩
      · simp [Value.ownBlock] at e
      · obtain rfl : gg = w.heap.size + 3 := by simpa [Value.ownBlock] using e
        rw [hC] at hgg
        cases hgg
    have HC1 : Hid ((w3.setCell ⟨w.heap.size + 1, 0, none⟩ (.slice (some ⟨g', 0, none⟩) (m + 1) cap')).heap[w.heap.size + 3]? = some (.cells (cv c) 28)) := hid (by
      have hlC : w.heap.size + 3 < W.heap.size := (Array.getElem?_eq_some_iff.1 hC).1
      have h1 : (W.alloc (.cells #[.int .i64 (k : Nat)] 3)).heap[w.heap.size + 3]? = some (.cells (cv c) 28) := (Below.heap_alloc W _ _ hlC).trans hC
      have h2 := (hgrow.block (w.heap.size + 3) (by simp; omega) (fun e => hown_ne e.symm)).trans h1
      exact ((grownBy_setCell' w3 _ _).block (w.heap.size + 3) (Array.getElem?_eq_some_iff.1 h2).1 (fun e => by simp at e)).trans h2)
    have hlt2 : w.heap.size + 1 < W.heap.size := hv.lt
    have hne2 : W.heap.size ≠ w.heap.size + 1 := by omega
    have hne3 : ¬ w.heap.size + 1 = W.heap.size := by omega
    have HFx := hid (And.intro hv2 (And.intro hr2 (And.intro hk2 hb2)))
    have HNB := hid (And.intro hL hC)
    have HB := hid hB
    change Sem.run Try.prog (app _ _ _) (W.alloc (.cells #[.int .i64 (k : Nat)] 3)) = _ at hrun
    clear hv1 hv2 hr2 hk2 hb2 hgrow hown' hrow hL hC hB hm hown_ne
    gi_wp2
    obtain ⟨hv2, hr2, hk3, hb3⟩ := HFx.out
    refine ⟨hk3.from _, ⟨hb3, HL1.out.trans HNB.out.1.symm, HC1.out.trans HNB.out.2.symm⟩, ⟨⟨_, hv2, ?_, trivial⟩, HL1.out, HC1.out⟩, HB.out.trans hb3⟩
    rw [vals_snoc, List.length_append, HM.out]
    exact hr2
  case done =>
    rintro D ys W hD hys ⟨⟨⟨v, hv, hrow, -⟩, -, -⟩, hB⟩ hK
    have hc : W.cell? ⟨w.heap.size + 1, 0, none⟩ = some v := hv.cell
    rw [hys] at hrow
    gi_wp2
    refine ⟨by simp, .inl ⟨_, _, rfl, run_takeDeferred hK, ?_⟩⟩
    exact ⟨_, results_tmp rfl _ _ _, ⟨v, rfl, ownsRow_putObj hrow _ hK rfl⟩, hB.trans (belowK_b (w := w) (Nat.le_refl _) W D _ _ (by omega) hK rfl rfl)⟩
  case stop =>
    rintro D c pre W _ _ h _
    exact h.elim

end Go.Proofs.Ytakmfcnmcjbbgaa.RejF
