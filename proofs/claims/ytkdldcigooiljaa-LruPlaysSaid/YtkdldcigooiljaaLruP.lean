/- The chain's iterator. -/
import Derived.Test.YtkdldcigooiljaaLruL
import Derived.Test.YtkdldcigooiljaaSam
import Derived.RangeFuncNested
import Derived.RangeFuncBound
import Derived.RangeFuncCalls
import Derived.RangeFuncLeaves
import Derived.Shelf.Abstract
import Derived.Shelf.RegionOpen
import Derived.OwnWalkIn
import Derived.TacticsInMore
import Derived.LoopNIn
import Derived.LoopIn
import Derived.LaidEqlPtr
import Derived.Lib.Builder
namespace Go.Proofs.Ytkdldcigooiljaa.LruP
open Go.ChangeShapes Go.WideShapes Go.ChangeAt Go.RowKit Base Wri Map LruA LruB LruC
open Go.Shelf

set_option maxRecDepth 20000 in
set_option maxHeartbeats 400000 in
theorem all_any (kn : Nat) (w : World) :
    Calls Try.prog 65 #[.agg #[ptr kn]] w fun e w' => e = .returned (.func (Fn.func 106) #[] #[.pointer (some ⟨w.heap.size, 0, none⟩)]) ∧
      w' = w.alloc (.cells #[ptr kn] 111) := by
  unfold ptr
  go_enter Try.func65, Try.ntmps65
  go_wp2_with fail
  go_ret
  exact ⟨rfl, rfl⟩

attribute [local go_sem] Oper.semAt_some

/-- the value that is handed to a loop's body -/
def be (x : Ent) : Array Value := #[ptr x.b]

/-- what a round keeps: all below n0, and block b -/
def Kp (n0 b : Nat) (W W' : World) : Prop := Below n0 W W' ∧ W'.heap[b]? = W.heap[b]?
theorem Kp.refl (n0 b : Nat) (W : World) : Kp n0 b W W := ⟨Below.refl _ _, rfl⟩
theorem Kp.trans {n0 b : Nat} {A B C : World} (h : Kp n0 b A B) (h2 : Kp n0 b B C) : Kp n0 b A C := ⟨h.1.trans h2.1, h2.2.trans h.2⟩
theorem Kp.alloc {n0 b : Nat} {A B : World} (h : Kp n0 b A B) (hn : n0 ≤ B.heap.size) (hb : b < B.heap.size) (o : Obj) : Kp n0 b A (B.alloc o) := ⟨h.1.alloc hn o, (Below.heap_alloc B o b hb).trans h.2⟩

/-- who stands behind the k-th -/
theorem Ring.at_ {w : World} {kn : Nat} {R : List Nat} (h : Ring w kn R) (k : Nat) : w.cell? ⟨lst kn (R.take k), 3, none⟩ = some (ptr (nxt kn (R.drop k))) := by
  rcases Nat.lt_or_ge k R.length with hlt | hge
  · have e : R = R.take k ++ R[k] :: R.drop (k + 1) := by rw [List.getElem_cons_drop, List.take_append_drop]
    have hd : R.drop k = R[k] :: R.drop (k + 1) := (List.getElem_cons_drop hlt).symm
    rw [hd]
    rw [e] at h
    exact (Ring.around h).1.1
  · rw [List.take_of_length_le hge, List.drop_eq_nil_of_le hge]
    exact h.2.1

theorem heap_of_cell {w : World} {b i : Nat} {u : Value} (h : w.cell? ⟨b, i, none⟩ = some u) : ∃ c t z, w.heap[b]? = some (.cells c t z) := by
  unfold World.cell? at h
  split at h
  · exact ⟨_, _, _, by assumption⟩
  · cases h

theorem neq_other {P : Program} (w : World) {tp te : TypeId} {j : TypeInfo} {a b : Nat} (hp : P.underlying tp = some (.pointer te)) (hte : P.info? te = some j) (hsz : j.size ≠ 0) (hne : a ≠ b) (ha : Blk w a) (hb : Blk w b) :
    (binOp .neq tp (.pointer (some ⟨a, 0, none⟩)) (.pointer (some ⟨b, 0, none⟩))).run P w = .ok (.bool true) w := by
  obtain ⟨u, hu⟩ := ha.c2
  obtain ⟨v, hv⟩ := hb.c2
  obtain ⟨ca, ta, za, h1⟩ := heap_of_cell hu
  obtain ⟨cb, tb, zb, h2⟩ := heap_of_cell hv
  have f1 := ha.fr
  have f2 := hb.fr
  have hs : (sameAddr ⟨a, 0, none⟩ ⟨b, 0, none⟩).run P w = .ok false w := by
    simp [sameAddr, hne, noView, viewAt, World.shape?, h1, h2, mayBeOne, stringish, f1, f2]
  have h : ∀ d : Nat, (Op.equalIn (d + 1) tp (.pointer (some ⟨a, 0, none⟩)) (.pointer (some ⟨b, 0, none⟩))).run P w = .ok false w := fun d => by
    simp [Op.equalIn, run_underlying hp, sizeOf, typeInfo, hte, hsz, hs]
  simp only [binOp]
  simp [Op.equal, Op.maxDepth, h 9999]

theorem infoEl : (Try.prog.info? 109).map (fun i => i.size) = some 4 := by kernel_rfl

theorem neq_run {a b : Nat} {w : World} (h : a ≠ b) (ha : Blk w a) (hb : Blk w b) : (binOp .neq 104 (.pointer (some ⟨a, 0, none⟩)) (.pointer (some ⟨b, 0, none⟩))).run Try.prog w = .ok (.bool true) w := by
  obtain ⟨j, hj, hz⟩ := Option.map_eq_some_iff.1 infoEl
  exact neq_other w (tp := 104) (te := 109) Try.underlying104 hj (by rw [hz]; decide) h ha hb

theorem neq_same (a : Nat) (w : World) : (binOp .neq 104 (.pointer (some ⟨a, 0, none⟩)) (.pointer (some ⟨a, 0, none⟩))).run Try.prog w = .ok (.bool false) w := by
  obtain ⟨j, hj, hz⟩ := Option.map_eq_some_iff.1 infoEl
  exact Go.Lib.run_neq_ptr_same w (tp := 104) (te := 109) _ Try.underlying104 hj

theorem nxt_mem (kn : Nat) (R : List Nat) : nxt kn R = kn ∨ nxt kn R ∈ R := by
  cases R with
  | nil => exact .inl rfl
  | cons x r => exact .inr List.mem_cons_self

/-- how many are still to come -/
def left (R : List Nat) (v : Value) : Nat := match v with
  | .pointer (some a) => (R.dropWhile fun y => decide (y ≠ a.block)).length
  | _ => 0
theorem left_at {kn : Nat} {R : List Nat} (h : (kn :: R).Nodup) (k : Nat) : R.dropWhile (fun y => decide (y ≠ nxt kn (R.drop k))) = R.drop k := by
  induction k generalizing R with
  | zero =>
    cases R with
    | nil => rfl
    | cons x r => simp [nxt]
  | succ k ih =>
    cases R with
    | nil => rfl
    | cons x r =>
      obtain ⟨h1, h2⟩ := List.nodup_cons.1 h
      obtain ⟨h3, h4⟩ := List.nodup_cons.1 h2
      have hx : x ≠ nxt kn (r.drop k) := by
        rcases nxt_mem kn (r.drop k) with e | e
        · rw [e]; rintro rfl; exact h1 List.mem_cons_self
        · intro e2; rw [← e2] at e; exact h3 (List.mem_of_mem_drop e)
      show (x :: r).dropWhile (fun y => decide (y ≠ nxt kn (r.drop k))) = r.drop k
      rw [List.dropWhile_cons_of_pos (by simpa using hx)]
      exact ih (List.nodup_cons.2 ⟨fun e => h1 (List.mem_cons_of_mem _ e), h4⟩)
theorem left_num {kn : Nat} {R : List Nat} (h : (kn :: R).Nodup) (k : Nat) : left R (.pointer (some ⟨nxt kn (R.drop k), 0, none⟩)) = R.length - k := by
  show (R.dropWhile fun y => decide (y ≠ nxt kn (R.drop k))).length = _
  rw [left_at h, List.length_drop]

set_option maxRecDepth 100000 in
set_option maxHeartbeats 2000000 in
theorem all1_in (n : Nat) (hn : 1 ≤ n) (l B1 n0 kn : Nat) (L : List Ent) (J Jx : List Ent → World → Prop)
    (hY : ∀ pre x W, x ∈ L → J pre W → pre.length < L.length → YieldAt Fence.wide (n - 1) Try.prog l (be x) W fun e W' =>
      (e = .returned (.bool true) ∧ J (pre ++ [x]) W' ∧ Kp n0 B1 W W') ∨ (e = .returned (.bool false) ∧ Jx (pre ++ [x]) W'))
    (W : World) (h1 : W.cell? ⟨B1, 0, none⟩ = some (ptr kn)) (HR : Hid (Ring W kn (L.map Ent.b))) (hlow : Hid (∀ x ∈ kn :: L.map Ent.b, x < n0)) (hno : Hid ((kn :: L.map Ent.b).Nodup)) (hbk : Hid (∀ x ∈ kn :: L.map Ent.b, Blk W x)) (h0 : J [] W) :
    CallsIn Fence.wide n Try.prog 106 #[.func (.yield l) #[] #[], .pointer (some ⟨B1, 0, none⟩)] W fun e W' => (∃ v, e = .returned v) ∧
      ((∃ ys, ys = L ∧ J ys W') ∨ (∃ pre, pre <+: L ∧ Jx pre W')) := by
  refine callsIn_of_wp Try.func106 rfl trivial ?_ rfl
  simp only [Try.ntmps106, List.size_toArray, List.length_cons, List.length_nil, Nat.reduceAdd, Nat.reduceSub, Array.replicate_succ, Array.replicate_zero, List.push_toArray, List.append_toArray, List.nil_append, List.cons_append]
  unfold ptr at *
  have c0 : W.cell? ⟨kn, 3, none⟩ = some (.pointer (some ⟨nxt kn (L.map Ent.b), 0, none⟩)) := Ring.at_ HR.out 0
  gi_wp2
  gi_loopw [3] (fun e wr => ∃ k : Nat, k ≤ L.length ∧ e = .pointer (some ⟨nxt kn ((L.map Ent.b).drop k), 0, none⟩) ∧ J (L.take k) wr ∧ Kp n0 B1 W wr) (fun e _ => left (L.map Ent.b) e)
  case atStart => exact ⟨0, Nat.zero_le _, rfl, h0, Kp.refl _ _ _⟩
  case round =>
    obtain ⟨k, hk, rfl, hJs, hnx⟩ := hrel
    have hM := hid (left_num hno.out k)
    have k2 : wr.cell? ⟨B1, 0, none⟩ = some (.pointer (some ⟨kn, 0, none⟩)) := (World.cell?_of_block (a := ⟨B1, 0, none⟩) hnx.2).trans h1
    rcases Nat.lt_or_ge k L.length with hlt | hge
    · obtain ⟨x, hx⟩ : ∃ x, L[k]? = some x := ⟨L[k], List.getElem?_eq_getElem hlt⟩
      have hd : (L.map Ent.b).drop k = x.b :: (L.map Ent.b).drop (k + 1) := by
        rw [List.drop_eq_getElem_cons (by simpa using hlt)]
        congr 1
        rw [List.getElem?_eq_getElem hlt] at hx
        simpa using congrArg Ent.b (Option.some.inj hx)
      have hT : Hid (L.take (k + 1) = L.take k ++ [x]) := hid (by rw [List.take_add_one, hx]; rfl)
      have hmem : x.b ∈ L.map Ent.b := List.mem_map.2 ⟨x, List.mem_of_getElem? hx, rfl⟩
      have hne : x.b ≠ kn := fun e => (List.nodup_cons.1 hno.out).1 (e ▸ hmem)
      have hxl : x.b < n0 := hlow.out _ (List.mem_cons_of_mem _ hmem)
      have hnext : W.cell? ⟨x.b, 3, none⟩ = some (.pointer (some ⟨nxt kn ((L.map Ent.b).drop (k + 1)), 0, none⟩)) := by
        have := Ring.at_ HR.out (k + 1)
        have e : (L.map Ent.b).take (k + 1) = (L.map Ent.b).take k ++ x.b :: [] := by
          rw [← List.map_take, hT.out, List.map_append, List.map_take]; rfl
        rw [e, lst_app] at this
        exact this
      have hM1 := hid (left_num hno.out (k + 1))
      have hnk : nxt kn ((L.map Ent.b).drop k) = x.b := by rw [hd]; rfl
      rw [hnk] at hM ⊢
      obtain ⟨fn, tmps, assign, body, hy, hR⟩ := hY _ x _ (List.mem_of_getElem? hx) hJs (by rw [List.length_take]; omega)
      dsimp only [be, ptr] at hy
      have hneq := neq_run hne ((hbk.out _ (List.mem_cons_of_mem _ hmem)).of_block (hnx.1.block _ hxl)) ((hbk.out _ List.mem_cons_self).of_block (hnx.1.block _ (hlow.out _ List.mem_cons_self)))
      have HN := hid hnx
      have HNE := hid hnext
      clear hx hd hmem hnx hnext hJs hnk
      obtain ⟨nx, hnx2⟩ : ∃ nx, nxt kn ((L.map Ent.b).drop (k + 1)) = nx := ⟨_, rfl⟩
      rw [hnx2] at hM1 HNE
      have HNX := hid hnx2
      clear hnx2
      generalize nxt kn (L.map Ent.b) = nf at *
      gi_wp2
      refine hR.mono ?_
      rintro e W3 (⟨rfl, hJ3, hk3⟩ | ⟨rfl, hJx3⟩)
      · have HJ3 := hid hJ3
        have HK3 := hid hk3
        have c3 : W3.cell? ⟨x.b, 3, none⟩ = some (.pointer (some ⟨nx, 0, none⟩)) := by
          rw [World.cell?_of_block (a := ⟨x.b, 3, none⟩) (hk3.1.block _ hxl), World.cell?_of_block (a := ⟨x.b, 3, none⟩) (HN.out.1.block _ hxl)]
          exact HNE.out
        clear hJ3 hk3 hy hneq
        gi_wp2
        go_roundw
        case rel => exact ⟨k + 1, by omega, by rw [HNX.out], by rw [hT.out]; exact HJ3.out, HN.out.trans HK3.out⟩
        case measure =>
          have := hM.out
          have := hM1.out
          rw [List.length_map] at *
          omega
      · have HJx3 := hid hJx3
        clear hJx3 hy hneq
        gi_wp2
        go_end0
        refine ⟨⟨_, rfl⟩, .inr ⟨_, ?_, HJx3.out⟩⟩
        rw [← hT.out]
        exact List.take_prefix _ _
    · obtain rfl : k = L.length := by omega
      have hnk : nxt kn ((L.map Ent.b).drop L.length) = kn := by rw [List.drop_eq_nil_of_le (by simp)]; rfl
      have HJs : Hid (J L wr) := hid (by rw [← List.take_length (l := L)]; exact hJs)
      have hneq := neq_same kn wr
      rw [hnk]
      clear hJs hnk
      generalize nxt kn (L.map Ent.b) = nf at *
      gi_wp2
      refine ⟨fun _ h => (by cases h), ?_⟩
      gi_wp2
      go_end0
      exact ⟨⟨_, rfl⟩, .inl ⟨_, rfl, HJs.out⟩⟩

variable {S : Spot} {L : List Ent}

theorem mem_has {x : Nat} (h : x ∈ S.kn :: L.map Ent.b) : Has S L x := by
  rcases List.mem_cons.1 h with rfl | h
  · exact .inr (.inl rfl)
  · obtain ⟨y, hy, rfl⟩ := List.mem_map.1 h
    exact .inr (.inr (.inr ⟨y, hy, rfl⟩))

/-- an element of L -/
abbrev In (L : List Ent) := { x : Ent // x ∈ L }
def bi {L : List Ent} (x : In L) : Array Value := be x.1
def out {L : List Ent} (ys : List (In L)) : List Ent := ys.map Subtype.val
theorem out_snoc {L : List Ent} (ys : List (In L)) (x : In L) : out (ys ++ [x]) = out ys ++ [x.1] := by simp [out]
theorem out_len {L : List Ent} (ys : List (In L)) : (out ys).length = ys.length := by simp [out]

/-- what the chain's iterator gives: all, in their order -/
theorem all_stops (n : Nat) (hn : 1 ≤ n) (B1 n0 : Nat) (w : World) (hb1 : B1 < w.heap.size) (h : IsLru w S L) (hlow : ∀ k, Has S L k → k < n0) (h1 : w.cell? ⟨B1, 0, none⟩ = some (ptr S.kn)) :
    SeqStopsK Fence.wide n Try.prog 106 #[.pointer (some ⟨B1, 0, none⟩)] (bi (L := L)) (Kp n0 B1) (fun ys => out ys = L) (fun pre => out pre <+: L) L.length w := fun l J Jx W hW _ _ hY h0 => by
  have k1 := (hW.cell (p := ⟨B1, 0, none⟩) hb1).trans h1
  have hw' : IsLru W S L := h.below hW
  have hno : (S.kn :: L.map Ent.b).Nodup := (List.nodup_cons.1 (List.nodup_cons.1 hw'.rest.apart).2).2
  refine (all1_in n hn l B1 n0 S.kn L (fun pre W => ∃ ys : List (In L), out ys = pre ∧ J ys W) (fun pre W => ∃ ys : List (In L), out ys = pre ∧ Jx ys W) ?_ W k1 (hid hw'.ring) (hid fun x hx => hlow x (mem_has hx)) (hid hno) (hid fun x hx => ?_) ⟨[], rfl, h0⟩).mono ?_
  · rintro pre x W2 hx ⟨ys, rfl, hj⟩ hlt
    refine YieldAt.mono (hY ys ⟨x, hx⟩ W2 hj (by rw [out_len] at hlt; exact hlt)) ?_
    rintro e W3 (⟨he, hj3, hk⟩ | ⟨he, hj3⟩)
    · exact .inl ⟨he, ⟨_, out_snoc _ _, hj3⟩, hk⟩
    · exact .inr ⟨he, _, out_snoc _ _, hj3⟩
  · rcases List.mem_cons.1 hx with rfl | hx
    · exact hw'.rest.knot
    · obtain ⟨y, hy, rfl⟩ := List.mem_map.1 hx
      exact (hw'.rest.ents y hy).1
  · rintro e W' ⟨he, ⟨ys, hys, zs, hz, hj⟩ | ⟨pre, hp, zs, hz, hj⟩⟩
    · exact ⟨he, .inl ⟨zs, hz.trans hys, hj⟩⟩
    · exact ⟨he, .inr ⟨zs, (by subst hz; exact hp), hj⟩⟩

end Go.Proofs.Ytkdldcigooiljaa.LruP
