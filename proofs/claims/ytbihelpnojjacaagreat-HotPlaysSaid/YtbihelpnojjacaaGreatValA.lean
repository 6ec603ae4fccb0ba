/- A list's values, one behind the other, collected into a new list. -/
import Derived.Test.YtbihelpnojjacaaGreatWri
import Derived.RangeFuncNested
import Derived.RangeFuncBound
import Derived.RangeFuncCalls
import Derived.RangeFuncLeaves
import Derived.RangeFuncBox
import Derived.RangeFuncFrom
import Derived.RangeFuncWrites
import Derived.Shelf.Abstract
import Derived.Shelf.RegionOpen
import Derived.OwnWalkIn
import Derived.TacticsInMore
import Derived.LoopNIn
import Derived.LoopIn
import Derived.Maps.AppendAt
import Derived.Stop.RegionWithIn
import Derived.Sort.EncStr
namespace Go.Proofs.YtbihelpnojjacaaGreat.ValA
open Go.ChangeShapes Go.WideShapes Go.ChangeAt Go.RowKit Base Wri
open Go.Shelf
attribute [local go_sem] Oper.semAt_some
set_option linter.unusedVariables false

/-- texts that lie in a row, below a block -/
def TAt (w : World) (n0 : Nat) (a : Option Addr) (ss : List (List UInt8)) : Prop :=
  0 < ss.length → ∃ g o, a = some ⟨g, o, none⟩ ∧ g < n0 ∧ ∀ i x, ss[i]? = some x → w.cell? ⟨g, o + i, none⟩ = some (encStr x)

theorem TAt.below {w w' : World} {n0 : Nat} {a : Option Addr} {ss : List (List UInt8)} (h : TAt w n0 a ss) (hb : Below n0 w w') : TAt w' n0 a ss := fun h0 => by
  obtain ⟨g, o, ha, hg, hc⟩ := h h0
  exact ⟨g, o, ha, hg, fun i x hx => (hb.cell (p := ⟨g, o + i, none⟩) hg).trans (hc i x hx)⟩
theorem TAt.mono {w : World} {n0 n1 : Nat} {a : Option Addr} {ss : List (List UInt8)} (h : TAt w n0 a ss) (hb : n0 ≤ n1) : TAt w n1 a ss := fun h0 => by
  obtain ⟨g, o, ha, hg, hc⟩ := h h0
  exact ⟨g, o, ha, Nat.lt_of_lt_of_le hg hb, hc⟩

set_option maxRecDepth 100000 in
set_option maxHeartbeats 1000000 in
theorem vals1_in (m : Nat) (hm : 1 ≤ m) (l B1 n0 : Nat) (a : Option Addr) (cap : Nat) (ss : List (List UInt8)) (hss : ss.length ≤ 4611686018427387903) (J Jx : List (List UInt8) → World → Prop)
    (hY : ∀ pre x W, J pre W → pre.length < ss.length → YieldAt Fence.wide (m - 1) Tryz.prog l #[encStr x] W fun e W' =>
      (e = .returned (.bool true) ∧ J (pre ++ [x]) W' ∧ Below n0 W W') ∨ (e = .returned (.bool false) ∧ Jx (pre ++ [x]) W'))
    (W : World) (hl0 : n0 ≤ W.heap.size) (h1 : W.cell? ⟨B1, 0, none⟩ = some (.slice a ss.length cap)) (HT : Hid (TAt W n0 a ss)) (h0 : J [] W) :
    CallsIn Fence.wide m Tryz.prog 160 #[.func (.yield l) #[] #[], .pointer (some ⟨B1, 0, none⟩)] W fun e W' => (∃ v, e = .returned v) ∧
      ((∃ ys, ys = ss ∧ J ys W') ∨ (∃ pre, pre <+: ss ∧ Jx pre W')) := by
  refine callsIn_of_wp Tryz.func160 rfl trivial ?_ rfl
  simp only [Tryz.ntmps160, List.size_toArray, List.length_cons, List.length_nil, Nat.reduceAdd, Nat.reduceSub, Array.replicate_succ, Array.replicate_zero, List.push_toArray, List.append_toArray, List.nil_append, List.cons_append]
  obtain ⟨n, hn⟩ : ∃ n, ss.length = n := ⟨_, rfl⟩
  have HN := hid hn
  rw [hn] at h1 hss
  clear hn
  gi_wp2
  gi_loopw [7] (fun i wr => ∃ k : Nat, k ≤ n ∧ i = .int .i64 k ∧ J (ss.take k) wr ∧ Below n0 W wr) (fun i _ => n - (intOf i).toNat)
  case atStart => exact ⟨0, Nat.zero_le _, rfl, h0, Below.refl _ _⟩
  case round =>
    obtain ⟨k, hk, rfl, hJs, hkq⟩ := hrel
    have HK := hid hkq
    have HJs := hid hJs
    have hs := hkq.size
    clear hkq hJs h1
    by_cases hlt : k < n
    · obtain ⟨g, o, rfl, hg, hc⟩ := HT.out (by rw [HN.out]; omega)
      obtain ⟨x, hx⟩ : ∃ x, ss[k]? = some x := ⟨ss[k]'(by rw [HN.out]; exact hlt), List.getElem?_eq_getElem _⟩
      have hT : Hid (ss.take (k + 1) = ss.take k ++ [x]) := hid (by rw [List.take_add_one, hx]; rfl)
      have hgs : g < wr.heap.size := by omega
      have x0 : wr.cell? ⟨g, o + k, none⟩ = some (.string ⟨x.toArray⟩) := (HK.out.cell (p := ⟨g, o + k, none⟩) hg).trans (hc k x hx)
      obtain ⟨fn, tmps, assign, body, hy, hR⟩ := hY (ss.take k) x wr HJs.out (by rw [List.length_take, HN.out]; omega)
      clear hc hx
      gi_wp2
      refine hR.mono ?_
      rintro e W3 (⟨rfl, hJ3, hk3⟩ | ⟨rfl, hJx3⟩)
      · have HJ3 := hid hJ3
        have HK3 := hid (HK.out.trans hk3)
        clear hJ3 hk3 hy hR x0
        gi_wp2
        go_roundw
        case rel => exact ⟨k + 1, by omega, by go_num, by rw [hT.out]; exact HJ3.out, HK3.out⟩
        case measure => simp [intOf]; omega
      · have HJx3 := hid hJx3
        clear hJx3 hy hR x0
        gi_wp2
        refine bodyPost_ret (results_none rfl _ _ _) rfl ?_
        refine ⟨⟨_, rfl⟩, .inr ⟨_, ?_, HJx3.out⟩⟩
        rw [← hT.out]
        exact List.take_prefix _ _
    · obtain rfl : k = n := by omega
      have HJf : Hid (J ss wr) := hid (by have := HJs.out; rwa [List.take_of_length_le (by rw [HN.out]; exact Nat.le_refl _)] at this)
      gi_wp2
      go_end0
      exact ⟨⟨_, rfl⟩, .inl ⟨_, rfl, HJf.out⟩⟩

theorem vals_stops (m : Nat) (hm : 1 ≤ m) (B1 n0 : Nat) (a : Option Addr) (cap : Nat) (ss : List (List UInt8)) (hss : ss.length ≤ 4611686018427387903) (w : World) (hl0 : n0 ≤ w.heap.size) (h1 : w.cell? ⟨B1, 0, none⟩ = some (.slice a ss.length cap)) (hT : TAt w n0 a ss) :
    SeqStopsK Fence.wide m Tryz.prog 160 #[.pointer (some ⟨B1, 0, none⟩)] (fun x : List UInt8 => #[encStr x]) (Below n0) (fun ys => ys = ss) (fun pre => pre <+: ss) ss.length w := fun l J Jx W hW hJ hJx hY h0 =>
  vals1_in m hm l B1 n0 a cap ss hss J Jx (fun pre F W hj hl => hY pre F W hj hl) W (Nat.le_trans hl0 hW.size) ((hW.cell (p := ⟨B1, 0, none⟩) (World.block_lt_of_cell? _ _ h1)).trans h1) (hid (hT.below (hW.mono hl0))) h0

/-- an append, kept whole -/
def app (ats : Array TypeId) (ty : TypeId) (args : Array Value) : Sem Value := Builtin.append_ ats ty args
theorem builtin_app {ats : Array TypeId} {ty : TypeId} {cs : Array Bool} {args : Array Value} : builtin .append ats ty cs args = (do pure (.value (← app ats ty args))) := rfl

theorem infoStr : (Tryz.prog.info? 9).map (fun i => (i.zero, i.size, i.bytes)) = some (some (.string ⟨#[]⟩), 1, 16) := by kernel_rfl

attribute [local go_sem ↓ high] builtin_app

theorem map_snoc (ss : List (List UInt8)) (x : List UInt8) : (ss ++ [x]).map encStr = ss.map encStr ++ [encStr x] := by simp

set_option maxRecDepth 100000 in
set_option maxHeartbeats 1000000 in
theorem appendSeq_any (B1 : Nat) (a : Option Addr) (cap : Nat) (ss : List (List UInt8)) (hss : ss.length ≤ 4096) (w : World) (h1 : w.cell? ⟨B1, 0, none⟩ = some (.slice a ss.length cap)) (hT : TAt w w.heap.size a ss) :
    Calls Tryz.prog 162 #[.slice none 0 0, .func (Fn.func 160) #[] #[.pointer (some ⟨B1, 0, none⟩)]] w fun e w' => (∃ x, e = .returned x ∧ w'.ownsRow w.heap.size 9 1 x ss.length (ss.map encStr)) ∧ Below w.heap.size w w' := by
  obtain ⟨i0, hi, hz0, hz1, hz2⟩ := info_parts infoStr
  refine callsIn_wide.1 (callsIn_of_wp_marks (n := 10) Tryz.func162 rfl trivial ?_ rfl)
  simp only [Tryz.ntmps162, List.size_toArray, List.length_cons, List.length_nil, Nat.reduceAdd, Nat.reduceSub, Array.replicate_succ, Array.replicate_zero, List.push_toArray, List.append_toArray, List.nil_append, List.cons_append]
  have hB1 := World.block_lt_of_cell? _ _ h1
  have HT := hid hT
  have H1 := hid h1
  clear hT h1
  gi_wp2
  have bO := Boxed.new w 43 (.slice none 0 0)
  have hB0 : Below w.heap.size w (w.alloc (.cells #[.slice none 0 0] 43)) := (Below.refl _ w).alloc (Nat.le_refl _) _
  have hsz2 : (w.alloc (.cells #[.slice none 0 0] 43)).heap.size = w.heap.size + 1 := by simp
  obtain ⟨w2, hw2⟩ : ∃ w2, w.alloc (.cells #[.slice none 0 0] 43) = w2 := ⟨_, rfl⟩
  rw [hw2] at bO hB0 hsz2 ⊢
  clear hw2
  refine wpIn_rangeFunc_ownG rfl (by omega) (gf := 160) (lb := #[.pointer (some ⟨B1, 0, none⟩)]) rfl trivial (enters_of Tryz.func160 (by kernel_rfl) rfl)
    (vals_stops (m := 9) (by omega) B1 w.heap.size a cap ss (by omega) w2 (by omega) ((hB0.cell (p := ⟨B1, 0, none⟩) hB1).trans H1.out) (HT.out.below hB0)) belowK_t (belowK_b (by omega)) (Below.refl _ _) (fun _ => rfl)
    (fun pre W => (∃ v, Boxed W w.heap.size 43 v ∧ W.ownsRow w.heap.size 9 1 v pre.length (pre.map encStr) ∧ True) ∧ Below w.heap.size w W)
    (fun _ _ _ => False)
    (OwnFrom.and (Own.from (holdsRow_own w.heap.size w.heap.size 43 9 1 (fun pre : List (List UInt8) => pre.length) (fun pre => pre.map encStr) (fun _ _ => True)) _) (ownFrom_below (Nat.le_refl _) (by omega)))
    (fun _ _ _ _ _ hs _ _ => hs)
    ⟨⟨_, bO, World.ownsRow_nil _ _ _ _, trivial⟩, hB0⟩
    (fun x => { tmps := #[.slice none 0 0, .func (Fn.func 160) #[] #[.pointer (some ⟨B1, 0, none⟩)], .pointer (some ⟨w.heap.size, 0, none⟩), undef, .slice none 0 0, .string ⟨x.toArray⟩, .func (Fn.func 160) #[] #[.pointer (some ⟨B1, 0, none⟩)], .string ⟨x.toArray⟩, undef, undef, undef, undef, undef], defers := [] }) ?assign ?body ?done ?stop
  case assign =>
    intro l x W K hK
    gi_wp2
    exact hK
  case body =>
    rintro l pre x W ⟨⟨v, hv, hrow, -⟩, hB⟩ hlt
    have hc : W.cell? ⟨w.heap.size, 0, none⟩ = some v := hv.cell
    have hs := hB.size
    obtain ⟨m, hm⟩ : ∃ m, pre.length = m := ⟨_, rfl⟩
    rw [hm] at hrow hlt
    have HM := hid hm
    obtain ⟨v', w1, hrun, hown', hgrow, -, -⟩ := run_append_own_at (P := Tryz.prog) (W.alloc (.cells #[.string ⟨x.toArray⟩] 9)) w.heap.size 43 43 9 i0 (.string ⟨#[]⟩) 1 16 Tryz.underlying43 hi hz0 hz1 hz2 rfl (by decide) v m (pre.map encStr) (World.ownsRow.alloc (w := W) hrow _) ⟨W.heap.size, 0, none⟩ 1 1 [.string ⟨x.toArray⟩] rfl (cell_one_new W _ _) (by intro u hu; obtain rfl := List.mem_singleton.1 hu; rfl) (by unfold maxLen; omega) (by omega) (by simp; omega)
    obtain ⟨g', cap', rfl⟩ := ownsRow_succ hown'
    obtain ⟨hv1, hv2, hr2, hk2, hb2⟩ := Boxed.appended (W := W) (n₀ := w.heap.size) hv (by decide) hrow hs (Nat.le_refl _) hown' hgrow
    have hc1 := hv1.cell
    have hf1 := hv1.frozen
    have hlt2 : w.heap.size < W.heap.size := hv.lt
    have hne2 : W.heap.size ≠ w.heap.size := by omega
    have hne3 : ¬ w.heap.size = W.heap.size := by omega
    have HF := hid (And.intro hv2 (And.intro hr2 (And.intro hk2 hb2)))
    have HB := hid hB
    change Sem.run Tryz.prog (app _ _ _) (W.alloc (.cells #[.string ⟨x.toArray⟩] 9)) = _ at hrun
    clear hv1 hv2 hr2 hk2 hb2 hgrow hown' hrow hB hm
    gi_wp2
    obtain ⟨hv2, hr2, hk2, hb2⟩ := HF.out
    refine ⟨hk2.from _, hb2, ⟨⟨_, hv2, ?_, trivial⟩, HB.out.trans hb2⟩⟩
    rw [map_snoc, List.length_append, HM.out]
    exact hr2
  case done =>
    rintro D ys W hD hys ⟨⟨v, hv, hrow, -⟩, hB⟩ hK
    have hc : W.cell? ⟨w.heap.size, 0, none⟩ = some v := hv.cell
    rw [hys] at hrow
    gi_wp2
    refine ⟨by simp, .inl ⟨_, _, rfl, run_takeDeferred hK, ?_⟩⟩
    exact ⟨_, results_tmp rfl _ _ _, ⟨v, rfl, ownsRow_putObj hrow _ hK rfl⟩, hB.trans (belowK_b (w := w) (Nat.le_refl _) W D _ _ (by omega) hK rfl rfl)⟩
  case stop =>
    rintro D c pre W _ _ h _
    exact h.elim

end Go.Proofs.YtbihelpnojjacaaGreat.ValA
