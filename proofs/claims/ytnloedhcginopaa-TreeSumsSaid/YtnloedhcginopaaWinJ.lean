/- The iterator over a window's buckets: within, and its closure's contract. -/
import Derived.Test.YtnloedhcginopaaWinI
import Derived.RangeFuncNested
import Derived.RangeFuncBound
import Derived.RangeFuncCalls
import Derived.RangeFuncLeaves
import Derived.Shelf.Abstract
import Derived.Shelf.RegionOpen
import Derived.OwnWalkIn
import Derived.TacticsInMore
import Derived.LoopNIn
import Derived.LoopIn
namespace Go.Proofs.Ytnloedhcginopaa.WinJ
open Go.ChangeShapes Go.WideShapes Go.ChangeAt Go.RowKit Base WinM WinA WinB WinC WinD WinE WinF WinG WinH WinI WldF WldG
open Go.Shelf

set_option maxRecDepth 20000 in
set_option maxHeartbeats 400000 in
theorem within_any (p : Nat) (s : Win) (go : Option Nat) (q at_ : Nat) (w : World) (h : IsWin w p go s) (hq : s.width / s.size = q) (hq0 : 0 < q) (hz : 0 < s.size) (hwd : s.width ≤ 1099511627776) (ha : at_ ≤ 1152921504606846976) :
    Calls Try.prog 88 #[.pointer (some ⟨p, 0, none⟩), .int .i64 at_] w fun e w' => e = .returned (.func (Fn.func 97) #[] #[.pointer (some ⟨w.heap.size, 0, none⟩), .pointer (some ⟨w.heap.size + 1, 0, none⟩)]) ∧
      Below w.heap.size w w' ∧ w'.cell? ⟨w.heap.size, 0, none⟩ = some (.pointer (some ⟨p, 0, none⟩)) ∧ w'.cell? ⟨w.heap.size + 1, 0, none⟩ = some (.int .i64 ((begN q at_ : Int) - s.width + q)) ∧ w'.heap.size = w.heap.size + 2 := by
  have hp := h.lt
  obtain ⟨c0, c1, _, _⟩ := h.cells
  have HF := hid (first_any p s.width s.size q at_ (w.alloc (.cells #[.pointer (some ⟨p, 0, none⟩)] 83)) (by go_cell) (by go_cell) hz hq hq0 hwd ha)
  clear h hq hq0 hz hwd c0 c1 ha
  go_enter Try.func88, Try.ntmps88
  go_wp2_with fail
  refine HF.out.mono ?_
  rintro e w1 ⟨rfl, m, rfl⟩
  clear HF
  go_wp2
  go_ret
  exact ⟨rfl, (by repeat (first | (with_reducible exact Below.refl _ _) | (with_reducible refine Below.setCell ?_ (by first | (simp; done) | (simp; omega) | omega) _) | (with_reducible refine Below.alloc ?_ (by first | (simp; done) | (simp; omega) | omega) _) | (with_reducible refine Below.drew ?_) | (with_reducible refine below_drewN ?_ _))), by go_cell, by go_cell, by simp⟩

/-- a bucket whose counts are fine -/
abbrev FB := { b : Bkt // b.c.Fine }
def toF (f : Nat → FB) (n : Nat) : List FB := (List.range n).map f
def staysF (lim : Int) (l : List FB) : List FB := l.filter fun b => !decide (b.1.at_ < lim)
theorem toF_succ (f : Nat → FB) (n : Nat) : toF f (n + 1) = toF f n ++ [f n] := by simp [toF, List.range_succ]
theorem toF_len (f : Nat → FB) (n : Nat) : (toF f n).length = n := by simp [toF]
theorem staysF_yes {lim : Int} {f : Nat → FB} {n : Nat} (h : lim ≤ (f n).1.at_) : staysF lim (toF f (n + 1)) = staysF lim (toF f n) ++ [f n] := by
  rw [toF_succ]; unfold staysF; rw [List.filter_append]; congr 1; rw [List.filter_cons, if_pos (by simpa using h)]; rfl
theorem staysF_no {lim : Int} {f : Nat → FB} {n : Nat} (h : (f n).1.at_ < lim) : staysF lim (toF f (n + 1)) = staysF lim (toF f n) := by
  rw [toF_succ]; unfold staysF; rw [List.filter_append, List.filter_cons, if_neg (by simpa using h)]; simp
theorem staysF_prefix {lim : Int} (f : Nat → FB) {k n : Nat} (h : k ≤ n) : staysF lim (toF f k) <+: staysF lim (toF f n) := by
  unfold staysF
  refine List.IsPrefix.filter _ ?_
  obtain ⟨d, rfl⟩ : ∃ d, n = k + d := ⟨n - k, by omega⟩
  induction d with
  | zero => exact List.prefix_refl _
  | succ d ih => exact (ih (by omega)).trans (by rw [← Nat.add_assoc, toF_succ]; exact List.prefix_append _ _)
theorem staysF_map (lim : Int) (f : Nat → FB) (n : Nat) : (staysF lim (toF f n)).map (·.1) = stays lim (toL (fun i => (f i).1) n) := by
  induction n with
  | zero => rfl
  | succ n ih =>
    by_cases h : lim ≤ (f n).1.at_
    · rw [staysF_yes h, stays_yes (f := fun i => (f i).1) h, List.map_append, ih]; rfl
    · rw [staysF_no (by omega), stays_no (f := fun i => (f i).1) (by omega), ih]

attribute [local go_sem] Oper.semAt_some

/-- the value that is handed to a loop's body -/
def be (x : FB) : Array Value := #[.agg #[.int .i64 x.1.at_, .int .i64 x.1.c.pass, .int .i64 x.1.c.block, .int .i64 x.1.c.done, .int .i64 x.1.c.errs, .int .i64 x.1.c.rt, .int .i64 x.1.c.low]]

/-- what a round keeps: all below n0, and block b -/
def Kp (n0 b : Nat) (W W' : World) : Prop := Below n0 W W' ∧ W'.heap[b]? = W.heap[b]?
theorem Kp.refl (n0 b : Nat) (W : World) : Kp n0 b W W := ⟨Below.refl _ _, rfl⟩
theorem Kp.trans {n0 b : Nat} {A B C : World} (h : Kp n0 b A B) (h2 : Kp n0 b B C) : Kp n0 b A C := ⟨h.1.trans h2.1, h2.2.trans h.2⟩
theorem Kp.alloc {n0 b : Nat} {A B : World} (h : Kp n0 b A B) (hn : n0 ≤ B.heap.size) (hb : b < B.heap.size) (o : Obj) : Kp n0 b A (B.alloc o) := ⟨h.1.alloc hn o, (Below.heap_alloc B o b hb).trans h.2⟩

set_option maxRecDepth 100000 in
set_option maxHeartbeats 2000000 in
theorem within1_in (n : Nat) (hn : 1 ≤ n) (l B1 B2 n0 B p g len cap : Nat) (f : Nat → FB) (lim : Int) (hlen : len ≤ 9223372036854775807) (hg : g < n0) (J Jx : List FB → World → Prop) (hJ : AbidesFrom B J)
    (hY : ∀ pre x W, J pre W → pre.length < len → YieldAt Fence.wide (n - 1) Try.prog l (be x) W fun e W' =>
      (e = .returned (.bool true) ∧ J (pre ++ [x]) W' ∧ Kp n0 B2 W W') ∨ (e = .returned (.bool false) ∧ Jx (pre ++ [x]) W'))
    (W : World) (hsz : n0 ≤ W.heap.size) (hb2 : B2 < W.heap.size) (h1 : W.cell? ⟨B1, 0, none⟩ = some (.pointer (some ⟨p, 0, none⟩))) (h2 : W.cell? ⟨B2, 0, none⟩ = some (.int .i64 lim)) (h3 : W.cell? ⟨p, 3, none⟩ = some (.slice (some ⟨g, 0, none⟩) len cap)) (HB : Hid (IsBk W g cap len fun i => (f i).1)) (h0 : J [] W) :
    CallsIn Fence.wide n Try.prog 97 #[.func (.yield l) #[] #[], .pointer (some ⟨B1, 0, none⟩), .pointer (some ⟨B2, 0, none⟩)] W fun e W' => (∃ v, e = .returned v) ∧
      ((∃ ys, ys = staysF lim (toF f len) ∧ J ys W') ∨ (∃ pre, pre <+: staysF lim (toF f len) ∧ Jx pre W')) := by
  refine callsIn_of_wp Try.func97 rfl trivial ?_ rfl
  simp only [Try.ntmps97, List.size_toArray, List.length_cons, List.length_nil, Nat.reduceAdd, Nat.reduceSub, Array.replicate_succ, Array.replicate_zero, List.push_toArray, List.append_toArray, List.nil_append, List.cons_append]
  gi_wp2
  gi_loopw [11] (fun i wr => ∃ k : Nat, k ≤ len ∧ i = .int .i64 k ∧ J (staysF lim (toF f k)) wr ∧ Kp n0 B2 W wr) (fun i _ => len - (intOf i).toNat)
  case atStart => exact ⟨0, Nat.zero_le _, rfl, h0, Kp.refl _ _ _⟩
  case round =>
    obtain ⟨k, hk, rfl, hJs, hnx⟩ := hrel
    by_cases hlt : k < len
    · obtain ⟨c0, c1, c2, c3, c4, c5, c6⟩ := (HB.out.below hnx.1 hg).at6 k hlt
      have k2 : wr.cell? ⟨B2, 0, none⟩ = some (.int .i64 lim) := (World.cell?_of_block (a := ⟨B2, 0, none⟩) hnx.2).trans h2
      have hsw := hnx.1.size
      have z2 : B2 < wr.heap.size := by omega
      have hJs2 := hJ _ wr (wr.alloc (.cells #[.int .i64 (f k).1.at_, .int .i64 (f k).1.c.pass, .int .i64 (f k).1.c.block, .int .i64 (f k).1.c.done, .int .i64 (f k).1.c.errs, .int .i64 (f k).1.c.rt, .int .i64 (f k).1.c.low] 115)) none hJs (World.grownBy_alloc _ _ _) (fun _ e => by cases e)
      have HN := hid (hnx.alloc (by omega) (by omega) (.cells #[.int .i64 (f k).1.at_, .int .i64 (f k).1.c.pass, .int .i64 (f k).1.c.block, .int .i64 (f k).1.c.done, .int .i64 (f k).1.c.errs, .int .i64 (f k).1.c.rt, .int .i64 (f k).1.c.low] 115))
      by_cases hq : lim ≤ (f k).1.at_
      · obtain ⟨fn, tmps, assign, body, hy, hR⟩ := hY _ (f k) _ hJs2 (by
          have : (staysF lim (toF f k)).length ≤ (toF f k).length := List.length_filter_le _ _
          rw [toF_len] at this; omega)
        dsimp only [be] at hy
        have HQ := hid hq
        have hd : decide (lim ≤ (f k).1.at_) = true := by simpa using hq
        clear hq hJs hJs2
        gi_wp2
        refine hR.mono ?_
        rintro e W3 (⟨rfl, hJ3, hk3⟩ | ⟨rfl, hJx3⟩)
        · have HJ3 := hid hJ3
          have HK3 := hid hk3
          clear hJ3 hk3 hy
          gi_wp2
          go_roundw
          case rel => exact ⟨k + 1, by omega, by simp, by rw [staysF_yes HQ.out]; exact HJ3.out, HN.out.trans HK3.out⟩
          case measure => simp [intOf]; omega
        · have HJx3 := hid hJx3
          clear hJx3 hy
          gi_wp2
          refine bodyPost_ret (results_none rfl _ _ _) rfl ?_
          refine ⟨⟨_, rfl⟩, .inr ⟨_, ?_, HJx3.out⟩⟩
          rw [← staysF_yes HQ.out]
          exact staysF_prefix f (by omega)
      · have hd : decide (lim ≤ (f k).1.at_) = false := by simpa using hq
        have HQ : Hid ((f k).1.at_ < lim) := hid (by omega)
        clear hq
        have HJ2 := hid hJs2
        clear hJs hJs2
        gi_wp2
        refine ⟨fun _ h => (by cases h), ?_⟩
        gi_wp2
        go_roundw
        case rel => exact ⟨k + 1, by omega, by simp, by rw [staysF_no HQ.out]; exact HJ2.out, HN.out⟩
        case measure => simp [intOf]; omega
    · obtain rfl : k = len := by omega
      have HJs := hid hJs
      clear hJs
      gi_wp2
      go_end0
      exact ⟨⟨_, rfl⟩, .inl ⟨_, rfl, HJs.out⟩⟩

set_option maxRecDepth 100000 in
set_option maxHeartbeats 1000000 in
theorem within1_nil (n : Nat) (l B1 B2 p : Nat) (J : List FB → World → Prop) (W : World) (h1 : W.cell? ⟨B1, 0, none⟩ = some (.pointer (some ⟨p, 0, none⟩))) (h3 : W.cell? ⟨p, 3, none⟩ = some (.slice none 0 0)) (h0 : J [] W) :
    CallsIn Fence.wide n Try.prog 97 #[.func (.yield l) #[] #[], .pointer (some ⟨B1, 0, none⟩), .pointer (some ⟨B2, 0, none⟩)] W fun e W' => (∃ v, e = .returned v) ∧ J [] W' := by
  refine callsIn_of_wp Try.func97 rfl trivial ?_ rfl
  simp only [Try.ntmps97, List.size_toArray, List.length_cons, List.length_nil, Nat.reduceAdd, Nat.reduceSub, Array.replicate_succ, Array.replicate_zero, List.push_toArray, List.append_toArray, List.nil_append, List.cons_append]
  gi_wp2
  gi_loopw [11] (fun i wr => i = .int .i64 0 ∧ J [] wr) (fun _ _ => 0)
  case atStart => exact ⟨rfl, h0⟩
  case round =>
    obtain ⟨rfl, hJs⟩ := hrel
    gi_wp2
    go_end0
    exact ⟨⟨_, rfl⟩, hJs⟩

open Classical in
noncomputable def fine (f : Nat → Bkt) (i : Nat) : FB := if h : (f i).c.Fine then ⟨f i, h⟩ else ⟨⟨0, ⟨0, 0, 0, 0, 0, 0⟩⟩, zero_fine⟩

/-- what a window's iterator gives: its buckets from lim on -/
theorem within_stops (n : Nat) (hn : 1 ≤ n) (B1 B2 p : Nat) (go : Option Nat) (s : Win) (lim : Int) (n0 : Nat) (w : World) (hn0 : n0 ≤ w.heap.size) (hb1 : B1 < w.heap.size) (hb2 : B2 < w.heap.size) (hgn : ∀ g, go = some g → g < n0) (hlen : s.bs.length ≤ 9223372036854775807) (hfine : ∀ x ∈ s.bs, x.c.Fine)
    (h1 : w.cell? ⟨B1, 0, none⟩ = some (.pointer (some ⟨p, 0, none⟩))) (h2 : w.cell? ⟨B2, 0, none⟩ = some (.int .i64 lim)) (h : IsWin w p go s) :
    SeqStopsK Fence.wide n Try.prog 97 #[.pointer (some ⟨B1, 0, none⟩), .pointer (some ⟨B2, 0, none⟩)] be (Kp n0 B2) (fun ys => ys.map (·.1) = stays lim s.bs) (fun pre => pre.map (·.1) <+: stays lim s.bs) s.bs.length w := fun l J Jx W hW hJ _ hY h0 => by
  have k1 := (hW.cell (p := ⟨B1, 0, none⟩) hb1).trans h1
  have k2 := (hW.cell (p := ⟨B2, 0, none⟩) hb2).trans h2
  have hw' : IsWin W p go s := h.keep (R := fun _ => False) (Lets.ofBelow hW) (fun h => h) (fun _ _ h => h)
  obtain ⟨_, _, _, v, k3, hv⟩ := hw'.cells
  rcases hv with ⟨rfl, rfl, hbs⟩ | ⟨g, cap, f, rfl, rfl, hb, hf⟩
  · refine (within1_nil n l B1 B2 p J W k1 k3 h0).mono ?_
    rintro e W' ⟨he, hj⟩
    exact ⟨he, .inl ⟨[], by rw [hbs]; rfl, hj⟩⟩
  · have hff : ∀ i, i < s.bs.length → (f i).c.Fine := fun i hi => hfine _ (by rw [← hf]; exact List.mem_map.2 ⟨i, List.mem_range.2 hi, rfl⟩)
    have he : ∀ i, i < s.bs.length → f i = (fine f i).1 := fun i hi => by unfold fine; rw [dif_pos (hff i hi)]
    refine (within1_in n hn l B1 B2 n0 W.heap.size p g s.bs.length cap (fine f) lim hlen (hgn g rfl) J Jx hJ hY W (Nat.le_trans hn0 hW.size) (Nat.lt_of_lt_of_le hb2 hW.size) k1 k2 k3 (hid (hb.congr he)) h0).mono ?_
    have hm : (staysF lim (toF (fine f) s.bs.length)).map (·.1) = stays lim s.bs := by rw [staysF_map, ← toL_congr he, hf]
    rintro e W' ⟨he, ⟨ys, rfl, hj⟩ | ⟨pre, hp, hj⟩⟩
    · exact ⟨he, .inl ⟨_, hm, hj⟩⟩
    · exact ⟨he, .inr ⟨_, by rw [← hm]; exact List.IsPrefix.map _ hp, hj⟩⟩

end Go.Proofs.Ytnloedhcginopaa.WinJ
