/- The rules that concern a call, gone through. -/
import Derived.Test.YtakmfcnmcjbbgaaRejD
import Derived.RangeFuncNested
import Derived.RangeFuncBound
import Derived.RangeFuncCalls
import Derived.RangeFuncLeaves
import Derived.Shelf.Abstract
import Derived.Shelf.RegionOpen
import Derived.OwnWalkIn
import Derived.TacticsInMore
import Derived.LoopNIn
import Derived.LoopIn
namespace Go.Proofs.Ytakmfcnmcjbbgaa.RejE
set_option linter.unusedVariables false
open Go.ChangeShapes Go.WideShapes Go.ChangeAt Go.RowKit Base RejA RejB RejD Txt
open Go.Shelf

/-- what a round keeps: all below n0, and two blocks -/
def Kq (n0 b1 b2 : Nat) (W W' : World) : Prop := Below n0 W W' ∧ W'.heap[b1]? = W.heap[b1]? ∧ W'.heap[b2]? = W.heap[b2]?
theorem Kq.refl (n0 b1 b2 : Nat) (W : World) : Kq n0 b1 b2 W W := ⟨Below.refl _ _, rfl, rfl⟩
theorem Kq.trans {n0 b1 b2 : Nat} {A B C : World} (h : Kq n0 b1 b2 A B) (h2 : Kq n0 b1 b2 B C) : Kq n0 b1 b2 A C := ⟨h.1.trans h2.1, h2.2.1.trans h.2.1, h2.2.2.trans h.2.2⟩
theorem Kq.below {n0 b1 b2 : Nat} {A B : World} (h : Below A.heap.size A B) (hn : n0 ≤ A.heap.size) (h1 : b1 < A.heap.size) (h2 : b2 < A.heap.size) : Kq n0 b1 b2 A B := ⟨h.mono hn, h.block _ h1, h.block _ h2⟩

theorem grown_none {A B : World} (h : Below A.heap.size A B) : A.grownBy B none := ⟨h.os, h.tape, h.output, h.size, fun k hk _ => h.block k hk⟩

/-- flow rules that lie below n0 -/
structure Fl (w : World) (n0 : Nat) (a : Option Addr) (n : Nat) (L : Nat → Flow) : Prop where
  fl : Flows w a n L
  low : 0 < n → ∀ x, a = some x → x.block < n0

theorem Fl.kq {w w' : World} {n0 : Nat} {a : Option Addr} {n : Nat} {L : Nat → Flow} (h : Fl w n0 a n L) (hb : Below n0 w w') (hn : n0 ≤ w.heap.size) : Fl w' n0 a n L := by
  refine ⟨⟨fun h0 => ?_, h.fl.s1, h.fl.s2, h.fl.s3⟩, h.low⟩
  obtain ⟨g, o, rfl, hg, hc⟩ := h.fl.at_ h0
  have hl : g < n0 := h.low h0 _ rfl
  exact ⟨g, o, rfl, Nat.lt_of_lt_of_le hl (Nat.le_trans hn hb.size), fun i hi j v hv => (hb.cell (p := ⟨g, o + i * 12 + j, none⟩) hl).trans (hc i hi j v hv)⟩
theorem Flows.low {w : World} {a : Option Addr} {n : Nat} {L : Nat → Flow} (h : Flows w a n L) : Fl w w.heap.size a n L := ⟨h, fun h0 x e => by
  obtain ⟨g, o, rfl, hg, _⟩ := h.at_ h0
  cases e
  exact hg⟩

/-- does the rule of number k look at a call? -/
noncomputable def mineB (n : Nat) (L : Nat → Flow) (c : Cal) (k : Nat) : Bool := decide ((L k).res = c.res) && conc n L k c.org && !skips (L k) c
noncomputable def mines (n : Nat) (L : Nat → Flow) (c : Cal) (k : Nat) : List Nat := (List.range k).filter (mineB n L c)
theorem mines_yes {n : Nat} {L : Nat → Flow} {c : Cal} {k : Nat} (h : mineB n L c k = true) : mines n L c (k + 1) = mines n L c k ++ [k] := by
  unfold mines; rw [List.range_succ, List.filter_append]; simp [h]
theorem mines_no {n : Nat} {L : Nat → Flow} {c : Cal} {k : Nat} (h : mineB n L c k = false) : mines n L c (k + 1) = mines n L c k := by
  unfold mines; rw [List.range_succ, List.filter_append]; simp [h]
theorem mines_len (n : Nat) (L : Nat → Flow) (c : Cal) (k : Nat) : (mines n L c k).length ≤ k := by
  unfold mines
  exact Nat.le_trans (List.length_filter_le _ _) (by simp)
theorem mines_pre (n : Nat) (L : Nat → Flow) (c : Cal) {j k : Nat} (h : j ≤ k) : mines n L c j <+: mines n L c k := by
  induction k with
  | zero => obtain rfl : j = 0 := by omega
            exact List.prefix_refl _
  | succ k ih =>
    rcases Nat.lt_or_ge k j with e | e
    · obtain rfl : j = k + 1 := by omega
      exact List.prefix_refl _
    · refine (ih e).trans ?_
      cases hb : mineB n L c k with
      | true => rw [mines_yes hb]; exact List.prefix_append _ _
      | false => rw [mines_no hb]; exact List.prefix_refl _

theorem look_field (f : Flow) (c : Cal) (w : World) : Sem.run Try.prog (Instr.field 30 (lookV f c) 3) w = .ok (.bool (skips f c)) w := by
  unfold lookV skips
  by_cases h1 : f.strat = 1
  · rw [if_pos h1, h1]; rfl
  · rw [if_neg h1]
    by_cases h2 : f.strat = 2
    · rw [if_pos h2, h2]
      by_cases h3 : f.ref = c.ctx
      · rw [if_pos h3, decide_eq_true h3]; rfl
      · rw [if_neg h3, decide_eq_false h3]; rfl
    · rw [if_neg h2, decide_eq_false h2]
      by_cases h4 : f.org = dft
      · rw [if_pos h4]; rfl
      · rw [if_neg h4]; rfl

theorem fv_at {w : World} {b : Nat} {f : Flow} {ty : TypeId} (h : w.heap[b]? = some (.cells (fv f) ty)) : w.cell? ⟨b, 0, none⟩ = some (.string f.res) ∧ w.cell? ⟨b, 1, none⟩ = some (.string f.org) ∧ w.cell? ⟨b, 2, none⟩ = some (.bool f.thr) ∧ w.cell? ⟨b, 3, none⟩ = some (.int .i64 f.cnt) ∧
    w.cell? ⟨b, 4, none⟩ = some (.int .u8 f.strat) ∧ w.cell? ⟨b, 5, none⟩ = some (.string f.ref) ∧ w.cell? ⟨b, 6, none⟩ = some (.int .u8 f.shape) ∧ w.cell? ⟨b, 7, none⟩ = some (.int .i64 f.warm) ∧ w.cell? ⟨b, 8, none⟩ = some (.int .i64 f.queue) ∧ w.cell? ⟨b, 9, none⟩ = some (.bool f.clus) ∧
    w.cell? ⟨b, 10, none⟩ = some (.int .i64 f.id_) ∧ w.cell? ⟨b, 11, none⟩ = some (.bool f.fall) := by
  unfold fv at h
  exact ⟨by simp [World.cell?, h], by simp [World.cell?, h], by simp [World.cell?, h], by simp [World.cell?, h], by simp [World.cell?, h], by simp [World.cell?, h], by simp [World.cell?, h], by simp [World.cell?, h], by simp [World.cell?, h], by simp [World.cell?, h], by simp [World.cell?, h], by simp [World.cell?, h]⟩
theorem cv_at {w : World} {b : Nat} {c : Cal} {ty : TypeId} (h : w.heap[b]? = some (.cells (cv c) ty)) : w.cell? ⟨b, 0, none⟩ = some (.int .i64 c.at_) ∧ w.cell? ⟨b, 1, none⟩ = some (.string c.res) ∧ w.cell? ⟨b, 2, none⟩ = some (.string c.ctx) ∧ w.cell? ⟨b, 3, none⟩ = some (.string c.org) ∧
    w.cell? ⟨b, 4, none⟩ = some (.bool c.inb) ∧ w.cell? ⟨b, 5, none⟩ = some (.int .i64 c.cnt) ∧ w.cell? ⟨b, 6, none⟩ = some (.slice c.a c.n c.cap) := by
  unfold cv at h
  exact ⟨by simp [World.cell?, h], by simp [World.cell?, h], by simp [World.cell?, h], by simp [World.cell?, h], by simp [World.cell?, h], by simp [World.cell?, h], by simp [World.cell?, h]⟩

attribute [local go_sem] Oper.semAt_some

set_option maxRecDepth 100000 in
set_option maxHeartbeats 4000000 in
theorem conc1_in (m : Nat) (hm : 1 ≤ m) (l B1 B2 n0 : Nat) (a : Option Addr) (n cap : Nat) (L : Nat → Flow) (c : Cal) (ty : TypeId) (hn : n ≤ 9223372036854775807) (J Jx : List Nat → World → Prop)
    (hJ : ∀ pre W W', J pre W → Below W.heap.size W W' → J pre W') (hJx : ∀ pre W W', Jx pre W → Below W.heap.size W W' → Jx pre W')
    (hY : ∀ pre k W, k < n → J pre W → pre.length < (mines n L c n).length → YieldAt Fence.wide (m - 1) Try.prog l #[.int .i64 (k : Nat)] W fun e W' =>
      (e = .returned (.bool true) ∧ J (pre ++ [k]) W' ∧ Kq n0 B1 B2 W W') ∨ (e = .returned (.bool false) ∧ Jx (pre ++ [k]) W'))
    (W : World) (hl0 : n0 ≤ W.heap.size) (HB1 : Hid (W.cell? ⟨B1, 0, none⟩ = some (.slice a n cap))) (HB2 : Hid (W.heap[B2]? = some (.cells (cv c) ty))) (HF : Hid (Fl W n0 a n L)) (h0 : J [] W) :
    CallsIn Fence.wide m Try.prog 32 #[.func (.yield l) #[] #[], .pointer (some ⟨B1, 0, none⟩), .pointer (some ⟨B2, 0, none⟩)] W fun e W' => (∃ v, e = .returned v) ∧
      ((∃ ys, ys = mines n L c n ∧ J ys W') ∨ (∃ pre, pre <+: mines n L c n ∧ Jx pre W')) := by
  refine callsIn_of_wp Try.func32 rfl trivial ?_ rfl
  simp only [Try.ntmps32, List.size_toArray, List.length_cons, List.length_nil, Nat.reduceAdd, Nat.reduceSub, Array.replicate_succ, Array.replicate_zero, List.push_toArray, List.append_toArray, List.nil_append, List.cons_append]
  have b1 := HB1.out
  have hB1 := World.block_lt_of_cell? _ _ HB1.out
  have hB2 : B2 < W.heap.size := (Array.getElem?_eq_some_iff.1 HB2.out).1
  have HJ := hid (And.intro hJ hJx)
  clear hJ hJx
  gi_wp2
  gi_loopw [8] (fun i wr => ∃ k : Nat, k ≤ n ∧ i = .int .i64 k ∧ J (mines n L c k) wr ∧ Kq n0 B1 B2 W wr) (fun i _ => n - (intOf i).toNat)
  case atStart => exact ⟨0, Nat.zero_le _, rfl, h0, Kq.refl _ _ _ _⟩
  case round =>
    obtain ⟨k, hk, rfl, hJs, hkq⟩ := hrel
    have HK := hid hkq
    have HJs := hid hJs
    have hs := hkq.1.size
    have q1 : wr.cell? ⟨B1, 0, none⟩ = some (.slice a n cap) := (World.cell?_of_block (a := ⟨B1, 0, none⟩) hkq.2.1).trans HB1.out
    have q2 : wr.heap[B2]? = some (.cells (cv c) ty) := hkq.2.2.trans HB2.out
    have HFr := hid (HF.out.kq hkq.1 hl0)
    clear hkq hJs b1
    by_cases hlt : k < n
    · obtain ⟨g, o, rfl, hg, hc⟩ := HFr.out.fl.at_ (by omega)
      have hc := hc k hlt
      obtain ⟨f, hf⟩ : ∃ f, L k = f := ⟨_, rfl⟩
      have HLf := hid hf
      rw [hf] at hc
      have c0 : wr.cell? ⟨g, o + k * 12, none⟩ = some (.string f.res) := hc 0 _ rfl
      have c1 : wr.cell? ⟨g, o + k * 12 + 1, none⟩ = some (.string f.org) := hc 1 _ rfl
      have c2 : wr.cell? ⟨g, o + k * 12 + 2, none⟩ = some (.bool f.thr) := hc 2 _ rfl
      have c3 : wr.cell? ⟨g, o + k * 12 + 3, none⟩ = some (.int .i64 f.cnt) := hc 3 _ rfl
      have c4 : wr.cell? ⟨g, o + k * 12 + 4, none⟩ = some (.int .u8 f.strat) := hc 4 _ rfl
      have c5 : wr.cell? ⟨g, o + k * 12 + 5, none⟩ = some (.string f.ref) := hc 5 _ rfl
      have c6 : wr.cell? ⟨g, o + k * 12 + 6, none⟩ = some (.int .u8 f.shape) := hc 6 _ rfl
      have c7 : wr.cell? ⟨g, o + k * 12 + 7, none⟩ = some (.int .i64 f.warm) := hc 7 _ rfl
      have c8 : wr.cell? ⟨g, o + k * 12 + 8, none⟩ = some (.int .i64 f.queue) := hc 8 _ rfl
      have c9 : wr.cell? ⟨g, o + k * 12 + 9, none⟩ = some (.bool f.clus) := hc 9 _ rfl
      have c10 : wr.cell? ⟨g, o + k * 12 + 10, none⟩ = some (.int .i64 f.id_) := hc 10 _ rfl
      have c11 : wr.cell? ⟨g, o + k * 12 + 11, none⟩ = some (.bool f.fall) := hc 11 _ rfl
      obtain ⟨v0, v1, v2, v3, v4, v5, v6⟩ := cv_at q2
      have hB1r : B1 < wr.heap.size := Nat.lt_of_lt_of_le hB1 hs
      have hB2r : B2 < wr.heap.size := Nat.lt_of_lt_of_le hB2 hs
      have HN0 : Hid (n0 ≤ wr.heap.size) := hid (Nat.le_trans hl0 hs)
      have HBA : Hid (Below wr.heap.size wr (wr.alloc (.cells (fv f) 25))) := hid ((Below.refl _ _).alloc (Nat.le_refl _) _)
      have HNew : Hid ((wr.alloc (.cells (fv f) 25)).heap[wr.heap.size]? = some (.cells (fv f) 25)) := hid (heap_alloc_new _ _)
      have HQ2 := hid q2
      clear hc hf q2
      cases d1 : decide (f.res = c.res) with
      | false =>
        have e1 : (f.res.toList == c.res.toList) = false := by rw [text_eq]; exact d1
        have HM : Hid (mines n L c (k + 1) = mines n L c k) := hid (mines_no (by unfold mineB; rw [HLf.out, d1]; rfl))
        clear d1
        gi_wp2
        refine ⟨trivial, ?_⟩
        gi_wp2
        refine ⟨trivial, ?_⟩
        gi_wp2
        refine ⟨fun _ h => (by cases h), ?_⟩
        gi_wp2
        go_roundw
        case rel => exact ⟨k + 1, by omega, by go_num, by rw [HM.out]; exact HJ.out.1 _ _ _ HJs.out HBA.out, HK.out.trans (Kq.below HBA.out HN0.out hB1r hB2r)⟩
        case measure => simp [intOf]; omega
      | true =>
        have e1 : (f.res.toList == c.res.toList) = true := by rw [text_eq]; exact d1
        gi_wp2
        refine ⟨trivial, ?_⟩
        obtain ⟨b2, hb2⟩ : ∃ b2, conc n L k c.org = b2 := ⟨_, rfl⟩
        have HCo := Concerns_any (some ⟨g, o, none⟩) n cap L k c.org (wr.alloc (.cells (fv f) 25)) hn (HFr.out.fl.below HBA.out)
        rw [hb2] at HCo
        refine (callsIn_wide.2 HCo).mono ?_
        rintro e w5 ⟨rfl, hb5⟩
        have HB5 : Hid (Below wr.heap.size wr w5) := hid (HBA.out.trans (hb5.mono HBA.out.size))
        have HNew5 : Hid (w5.heap[wr.heap.size]? = some (.cells (fv f) 25)) := hid ((hb5.block _ (by simp)).trans HNew.out)
        have HQ5 := hid ((HB5.out.block B2 hB2r).trans HQ2.out)
        have hz5 : wr.heap.size < w5.heap.size := (Array.getElem?_eq_some_iff.1 HNew5.out).1
        clear HCo hb5 c0 c1 c2 c3 c4 c5 c6 c7 c8 c9 c10 c11 v0 v1 v2 v3 v4 v5 v6 HBA HNew HQ2
        cases b2 with
        | false =>
          have HM : Hid (mines n L c (k + 1) = mines n L c k) := hid (mines_no (by unfold mineB; rw [hb2]; simp))
          clear d1 hb2
          gi_wp2
          refine ⟨trivial, ?_⟩
          gi_wp2
          refine ⟨fun _ h => (by cases h), ?_⟩
          gi_wp2
          go_roundw
          case rel => exact ⟨k + 1, by omega, by go_num, by rw [HM.out]; exact HJ.out.1 _ _ _ HJs.out HB5.out, HK.out.trans (Kq.below HB5.out HN0.out hB1r hB2r)⟩
          case measure => simp [intOf]; omega
        | true =>
          obtain ⟨c0, c1, c2, c3, c4, c5, c6, c7, c8, c9, c10, c11⟩ := fv_at HNew5.out
          obtain ⟨v0, v1, v2, v3, v4, v5, v6⟩ := cv_at HQ5.out
          have HW := hid (Where_any f c w5)
          unfold fv cv at HW
          gi_wp2
          refine ⟨trivial, ?_⟩
          refine (callsIn_wide.2 HW.out).mono ?_
          rintro e w6 ⟨rfl, hb6⟩
          have HB6 : Hid (Below wr.heap.size wr w6) := hid (HB5.out.trans (hb6.mono HB5.out.size))
          have hfd := look_field f c w6
          obtain ⟨lv, hlv⟩ : ∃ lv, lookV f c = lv := ⟨_, rfl⟩
          rw [hlv] at hfd ⊢
          clear HW hb6 c0 c1 c2 c3 c4 c5 c6 c7 c8 c9 c10 c11 v0 v1 v2 v3 v4 v5 v6 hlv
          cases hsk : skips f c with
          | true =>
            rw [hsk] at hfd
            have HM : Hid (mines n L c (k + 1) = mines n L c k) := hid (mines_no (by unfold mineB; rw [HLf.out, hsk]; simp))
            clear d1 hb2 hsk
            gi_wp2
            refine ⟨fun _ h => (by cases h), ?_⟩
            gi_wp2
            go_roundw
            case rel => exact ⟨k + 1, by omega, by go_num, by rw [HM.out]; exact HJ.out.1 _ _ _ HJs.out HB6.out, HK.out.trans (Kq.below HB6.out HN0.out hB1r hB2r)⟩
            case measure => simp [intOf]; omega
          | false =>
            rw [hsk] at hfd
            have HMB : mineB n L c k = true := by unfold mineB; rw [HLf.out, d1, hb2, hsk]; rfl
            have HM : Hid (mines n L c (k + 1) = mines n L c k ++ [k]) := hid (mines_yes HMB)
            have hlen : (mines n L c k).length < (mines n L c n).length := by
              have h1 := (mines_pre n L c (show k + 1 ≤ n by omega)).length_le
              rw [HM.out, List.length_append] at h1
              simp at h1
              omega
            obtain ⟨fn, tmps, assign, body, hy, hR⟩ := hY (mines n L c k) k w6 hlt (HJ.out.1 _ _ _ HJs.out HB6.out) hlen
            clear d1 hb2 hsk HMB hlen
            gi_wp2
            refine hR.mono ?_
            rintro e W3 (⟨rfl, hJ3, hk3⟩ | ⟨rfl, hJx3⟩)
            · have HJ3 := hid hJ3
              have HK3 := hid ((HK.out.trans (Kq.below HB6.out HN0.out hB1r hB2r)).trans hk3)
              clear hJ3 hk3 hy hR hfd
              gi_wp2
              go_roundw
              case rel => exact ⟨k + 1, by omega, by go_num, by rw [HM.out]; exact HJ3.out, HK3.out⟩
              case measure => simp [intOf]; omega
            · have HJx3 := hid hJx3
              clear hJx3 hy hR hfd
              gi_wp2
              refine bodyPost_ret (results_none rfl _ _ _) rfl ?_
              refine ⟨⟨_, rfl⟩, .inr ⟨_, ?_, HJx3.out⟩⟩
              rw [← HM.out]
              exact mines_pre n L c (by omega)
    · obtain rfl : k = n := by omega
      gi_wp2
      go_end0
      exact ⟨⟨_, rfl⟩, .inl ⟨_, rfl, HJs.out⟩⟩

/-- what the iterator gives: the numbers that look at the call, in order -/
theorem conc_stops (m : Nat) (hm : 1 ≤ m) (B1 B2 n0 : Nat) (a : Option Addr) (n cap : Nat) (L : Nat → Flow) (c : Cal) (ty : TypeId) (hn : n ≤ 9223372036854775807) (w : World) (hl0 : n0 ≤ w.heap.size) (h1 : w.cell? ⟨B1, 0, none⟩ = some (.slice a n cap)) (h2 : w.heap[B2]? = some (.cells (cv c) ty)) (hF : Fl w n0 a n L) :
    SeqStopsK Fence.wide m Try.prog 32 #[.pointer (some ⟨B1, 0, none⟩), .pointer (some ⟨B2, 0, none⟩)] (fun k : Nat => #[.int .i64 (k : Nat)]) (Kq n0 B1 B2) (fun ys => ys = mines n L c n) (fun pre => pre <+: mines n L c n) (mines n L c n).length w := fun l J Jx W hW hJ hJx hY h0 =>
  conc1_in m hm l B1 B2 n0 a n cap L c ty hn J Jx (fun pre W W' h hb => hJ pre W W' none h (grown_none hb) (fun r e => by cases e)) (fun pre W W' h hb => hJx pre W W' none h (grown_none hb) (fun r e => by cases e))
    (fun pre k W _ hj hl => hY pre k W hj hl) W (Nat.le_trans hl0 hW.size) (hid ((hW.cell (p := ⟨B1, 0, none⟩) (World.block_lt_of_cell? _ _ h1)).trans h1)) (hid ((hW.block B2 (Array.getElem?_eq_some_iff.1 h2).1).trans h2)) (hid (hF.kq (hW.mono hl0) hl0)) h0

end Go.Proofs.Ytakmfcnmcjbbgaa.RejE
