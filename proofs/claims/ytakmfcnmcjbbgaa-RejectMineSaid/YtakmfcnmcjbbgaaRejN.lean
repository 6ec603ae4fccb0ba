/- The least of the rules of some numbers. -/
import Derived.Test.YtakmfcnmcjbbgaaRejM
namespace Go.Proofs.Ytakmfcnmcjbbgaa.RejN
set_option linter.unusedVariables false
open Go.ChangeShapes Go.WideShapes Go.ChangeAt Go.RowKit Base RejA RejB RejD RejE RejF RejM Txt
open Go.Shelf

/-- a rule that looks at the resource itself, by tokens -/
def plainB (F : Flow) : Bool := decide (F.strat = 0) && decide (F.org = dft) && decide (F.shape = 0) && !F.thr
def stepL (s : Int × Bool) (F : Flow) : Int × Bool := if plainB F && (!s.2 || decide (F.cnt < s.1)) then (F.cnt, true) else s
def leastV (l : List Flow) : Int × Bool := l.foldl stepL (0, false)
theorem leastV_snoc (l : List Flow) (F : Flow) : leastV (l ++ [F]) = stepL (leastV l) F := by unfold leastV; rw [List.foldl_append]; rfl
theorem stepL_no {s : Int × Bool} {F : Flow} (h : plainB F = false) : stepL s F = s := by unfold stepL; rw [h]; rfl
theorem stepL_first {v : Int} {F : Flow} (h : plainB F = true) : stepL (v, false) F = (F.cnt, true) := by unfold stepL; rw [h]; rfl
theorem stepL_less {v : Int} {F : Flow} (h : plainB F = true) (hl : decide (F.cnt < v) = true) : stepL (v, true) F = (F.cnt, true) := by unfold stepL; rw [h]; simp only [hl]; rfl
theorem stepL_more {v : Int} {F : Flow} (hl : decide (F.cnt < v) = false) : stepL (v, true) F = (v, true) := by unfold stepL; simp only [hl]; simp

set_option maxRecDepth 20000 in
set_option maxHeartbeats 1000000 in
theorem plain_core (res org : ByteArray) (thr : Bool) (cnt st : Int) (ref : ByteArray) (sh warm queue : Int) (clus : Bool) (id_ : Int) (fall : Bool) (b1 b2 b3 : Bool)
    (e1 : (st == 0) = b1) (e2 : (org.toList == [100, 101, 102, 97, 117, 108, 116]) = b2) (e3 : (sh == 0) = b3) (w : World) :
    Calls Try.prog 21 #[.agg #[.string res, .string org, .bool thr, .int .i64 cnt, .int .u8 st, .string ref, .int .u8 sh, .int .i64 warm, .int .i64 queue, .bool clus, .int .i64 id_, .bool fall]] w
      fun e w' => e = .returned (.bool (b1 && b2 && b3 && !thr)) ∧ Below w.heap.size w w' := by
  go_enter Try.func21, Try.ntmps21
  cases b1 <;> cases b2 <;> cases b3 <;> cases thr <;> (
    go_wp2_with fail
    go_ret
    exact ⟨rfl, (by repeat (first | (with_reducible exact Below.refl _ _) | (with_reducible refine Below.setCell ?_ (by first | (simp; done) | (simp; omega) | omega) _) | (with_reducible refine Below.alloc ?_ (by first | (simp; done) | (simp; omega) | omega) _) | (with_reducible refine Below.drew ?_) | (with_reducible refine below_drewN ?_ _)))⟩)

theorem plain_any (F : Flow) (w : World) :
    Calls Try.prog 21 #[.agg (fv F)] w fun e w' => e = .returned (.bool (plainB F)) ∧ Below w.heap.size w w' :=
  plain_core F.res F.org F.thr F.cnt F.strat F.ref F.shape F.warm F.queue F.clus F.id_ F.fall (decide (F.strat = 0)) (decide (F.org = dft)) (decide (F.shape = 0))
    (by rw [Bool.eq_iff_iff]; simp) (eq_dft _) (by rw [Bool.eq_iff_iff]; simp) w

set_option maxRecDepth 20000 in
set_option maxHeartbeats 400000 in
theorem named_any (a a2 : Option Addr) (n cap n2 cap2 : Nat) (w : World) :
    Calls Try.prog 20 #[.slice a n cap, .slice a2 n2 cap2] w fun e w' => e = .returned (.func (Fn.func 31) #[] #[.pointer (some ⟨w.heap.size + 1, 0, none⟩), .pointer (some ⟨w.heap.size, 0, none⟩)]) ∧
      (w.alloc (.cells #[.slice a n cap] 40)).alloc (.cells #[.slice a2 n2 cap2] 41) = w' := by
  go_enter Try.func20, Try.ntmps20
  go_wp2_with fail
  go_ret
  exact ⟨rfl, rfl⟩

theorem boxed_bel {W W' : World} {B : Nat} {t : TypeId} {v : Value} (h : Boxed W B t v) (hb : Below W.heap.size W W') : Boxed W' B t v := (hb.block B h.lt).trans h
theorem four (w : World) (x0 x1 x2 x3 : Value) (t0 t1 t2 t3 : TypeId) (W : World) (h : (((w.alloc (.cells #[x0] t0)).alloc (.cells #[x1] t1)).alloc (.cells #[x2] t2)).alloc (.cells #[x3] t3) = W) :
    Boxed W w.heap.size t0 x0 ∧ Boxed W (w.heap.size + 1) t1 x1 ∧ Boxed W (w.heap.size + 1 + 1) t2 x2 ∧ Boxed W (w.heap.size + 1 + 1 + 1) t3 x3 ∧ Below w.heap.size w W ∧ W.heap.size = w.heap.size + 4 := by
  subst h
  have b0 := Boxed.new w t0 x0
  have b1 := Boxed.new (w.alloc (.cells #[x0] t0)) t1 x1
  have b2 := Boxed.new ((w.alloc (.cells #[x0] t0)).alloc (.cells #[x1] t1)) t2 x2
  have b3 := Boxed.new (((w.alloc (.cells #[x0] t0)).alloc (.cells #[x1] t1)).alloc (.cells #[x2] t2)) t3 x3
  rw [World.size_alloc] at b1
  rw [World.size_alloc, World.size_alloc] at b2
  rw [World.size_alloc, World.size_alloc, World.size_alloc] at b3
  exact ⟨((b0.alloc _).alloc _).alloc _, (b1.alloc _).alloc _, b2.alloc _, b3, ((((Below.refl _ w).alloc (Nat.le_refl _) _).alloc (by simp) _).alloc (by simp; omega) _).alloc (by simp; omega) _, by simp⟩
theorem keepsFrom_below {B : Nat} {W W' : World} (h : Below W.heap.size W W') : KeepsFrom B W W' := ⟨h.size, fun k o _ hk _ => (h.block k (Array.getElem?_eq_some_iff.1 hk).1).trans hk⟩

/-- what lies in a round -/
def Iv (w : World) (a a2 : Option Addr) (n cap n2 cap2 : Nat) (s : Int × Bool) (W : World) : Prop :=
  ((Boxed W w.heap.size 3 (.int .i64 s.1) ∧ Boxed W (w.heap.size + 1) 4 (.bool s.2)) ∧ (Boxed W (w.heap.size + 1 + 1) 40 (.slice a n cap) ∧ Boxed W (w.heap.size + 1 + 1 + 1) 41 (.slice a2 n2 cap2))) ∧ Below w.heap.size w W
theorem Iv.below {w : World} {a a2 : Option Addr} {n cap n2 cap2 : Nat} {s : Int × Bool} {W W' : World} (h : Iv w a a2 n cap n2 cap2 s W) (hb : Below W.heap.size W W') : Iv w a a2 n cap n2 cap2 s W' :=
  ⟨⟨⟨boxed_bel h.1.1.1 hb, boxed_bel h.1.1.2 hb⟩, boxed_bel h.1.2.1 hb, boxed_bel h.1.2.2 hb⟩, h.2.trans (hb.mono h.2.size)⟩
theorem Iv.kq {w : World} {a a2 : Option Addr} {n cap n2 cap2 : Nat} {s s' : Int × Bool} {W W' : World} (h : Iv w a a2 n cap n2 cap2 s W) (h' : Iv w a a2 n cap n2 cap2 s' W') (hb : Below w.heap.size W W') : Kq w.heap.size (w.heap.size + 1 + 1 + 1) (w.heap.size + 1 + 1) W W' :=
  ⟨hb, (show W'.heap[w.heap.size + 1 + 1 + 1]? = _ from h'.1.2.2).trans (show W.heap[w.heap.size + 1 + 1 + 1]? = _ from h.1.2.2).symm, (show W'.heap[w.heap.size + 1 + 1]? = _ from h'.1.2.1).trans (show W.heap[w.heap.size + 1 + 1]? = _ from h.1.2.1).symm⟩
theorem Iv.set {w : World} {a a2 : Option Addr} {n cap n2 cap2 : Nat} {s : Int × Bool} {W : World} (h : Iv w a a2 n cap n2 cap2 s W) (x : Int) (y : Bool) : Iv w a a2 n cap n2 cap2 (x, y) ((W.setCell ⟨w.heap.size, 0, none⟩ (.int .i64 x)).setCell ⟨w.heap.size + 1, 0, none⟩ (.bool y)) :=
  ⟨⟨⟨(h.1.1.1.set _).other (by omega) _, (h.1.1.2.other (by omega) _).set _⟩, (h.1.2.1.other (by omega) _).other (by omega) _, (h.1.2.2.other (by omega) _).other (by omega) _⟩, (h.2.setCell (Nat.le_refl _) _).setCell (by simp) _⟩
theorem set_keeps {B N : Nat} {W : World} (hB : N + 1 < B) (x y : Value) : KeepsFrom B W ((W.setCell ⟨N, 0, none⟩ x).setCell ⟨N + 1, 0, none⟩ y) :=
  (KeepsFrom.of_grownBy (grownBy_setCell' W _ _) (fun j e => by cases e; omega)).trans (KeepsFrom.of_grownBy (grownBy_setCell' _ _ _) (fun j e => by cases e; omega))

def actOf (w : World) (a a2 : Option Addr) (n cap n2 cap2 : Nat) (F : Flow) (b : Nat) : Act :=
  { tmps := #[.slice a n cap, .slice a2 n2 cap2, undef, undef, .int .i64 0, .bool false, .pointer (some ⟨w.heap.size, 0, none⟩), .pointer (some ⟨w.heap.size + 1, 0, none⟩), .pointer (some ⟨b, 0, none⟩), .slice a n cap, .slice a2 n2 cap2,
      .func (Fn.func 31) #[] #[.pointer (some ⟨w.heap.size + 1 + 1 + 1, 0, none⟩), .pointer (some ⟨w.heap.size + 1 + 1, 0, none⟩)],
      .agg #[.string F.res, .string F.org, .bool F.thr, .int .i64 F.cnt, .int .u8 F.strat, .string F.ref, .int .u8 F.shape, .int .i64 F.warm, .int .i64 F.queue, .bool F.clus, .int .i64 F.id_, .bool F.fall], undef, undef, undef, undef, undef, undef, undef, undef, undef, undef, undef, undef, undef, undef, undef, undef], defers := [] }

attribute [local go_sem] Oper.semAt_some

set_option maxRecDepth 100000 in
set_option maxHeartbeats 2000000 in
theorem Least_any (a a2 : Option Addr) (n cap n2 cap2 : Nat) (L : Nat → Flow) (f : Nat → Int) (w : World) (hn : n ≤ 9223372036854775807) (hn2 : n2 ≤ 9223372036854775807) (hF : Flows w a n L) (hI : IAt w a2 n2 f) :
    Calls Try.prog 13 #[.slice a n cap, .slice a2 n2 cap2] w fun e w' => e = .returned (.tuple #[.int .i64 (leastV (picks n L f n2)).1, .bool (leastV (picks n L f n2)).2]) ∧ Below w.heap.size w w' := by
  refine callsIn_wide.1 (callsIn_of_wp_marks (n := 10) Try.func13 rfl trivial ?_ rfl)
  simp only [Try.ntmps13, List.size_toArray, List.length_cons, List.length_nil, Nat.reduceAdd, Nat.reduceSub, Array.replicate_succ, Array.replicate_zero, List.push_toArray, List.append_toArray, List.nil_append, List.cons_append]
  have HF := hid (And.intro hF hI)
  clear hF hI
  gi_wp2
  refine ⟨trivial, ?_⟩
  refine (callsIn_wide.2 (named_any _ _ _ _ _ _ _)).mono ?_
  rintro e w2 ⟨rfl, rfl⟩
  gi_wp2
  obtain ⟨W4, hW4⟩ : ∃ W4, (((w.alloc (.cells #[.int .i64 0] 3)).alloc (.cells #[.bool false] 4)).alloc (.cells #[.slice a n cap] 40)).alloc (.cells #[.slice a2 n2 cap2] 41) = W4 := ⟨_, rfl⟩
  obtain ⟨bA, bB, bL, bN, hB0, hsz⟩ := four w _ _ _ _ _ _ _ _ W4 hW4
  rw [hW4]
  clear hW4
  have hFl : Fl W4 w.heap.size a n L := (Flows.low HF.out.1).kq hB0 (Nat.le_refl _)
  have hIl : Il W4 w.heap.size a2 n2 f := (IAt.lowed HF.out.2).kq hB0 (Nat.le_refl _)
  refine wpIn_rangeFunc_ownH rfl (by omega) (gf := 31) (lb := #[.pointer (some ⟨w.heap.size + 1 + 1 + 1, 0, none⟩), .pointer (some ⟨w.heap.size + 1 + 1, 0, none⟩)]) rfl trivial (enters_of Try.func31 (by kernel_rfl) rfl)
    (named_stops (m := 9) (by omega) (w.heap.size + 1 + 1 + 1) (w.heap.size + 1 + 1) w.heap.size a a2 n cap n2 cap2 L f hn hn2 W4 (by omega) bN.cell bL.cell hFl hIl) Kq.trans (kq_b (by omega) (by omega) (by omega)) (Below.refl _ _) (fun _ => rfl)
    (fun pre W => Iv w a a2 n cap n2 cap2 (leastV pre) W)
    (fun _ _ _ => False)
    (OwnFrom.and (OwnFrom.and (OwnFrom.and (Own.from (boxed_own _ _ (fun pre => .int .i64 (leastV pre).1)) _) (Own.from (boxed_own _ _ (fun pre => .bool (leastV pre).2)) _)) (OwnFrom.and (Own.from (boxed_own' _ _ _) _) (Own.from (boxed_own' _ _ _) _))) (ownFrom_below (Nat.le_refl _) (by omega)))
    (fun _ _ _ _ _ hs _ _ => hs)
    ⟨⟨⟨bA, bB⟩, bL, bN⟩, hB0⟩
    (fun F a' W => ∃ b, w.heap.size + 4 ≤ b ∧ a' = actOf w a a2 n cap n2 cap2 F b ∧ W.heap[b]? = some (.cells (fv F) 25))
    (fun F a' => by
      rintro s X Y row ⟨b, h1, h2, h3⟩ hg hr
      refine ⟨b, h1, h2, (hg.block b (Array.getElem?_eq_some_iff.1 h3).1 (fun e => ?_)).trans h3⟩
      obtain ⟨-, o, ho, hc⟩ := hr b e.symm
      rw [h3] at ho; cases ho; cases hc) ?assign ?body ?done ?stop
  case assign =>
    intro l pre F W K hI2 hK
    have hlt := hI2.1.2.2.lt
    have hbl : Below W.heap.size W (W.alloc (.cells (fv F) 25)) := (Below.refl _ _).alloc (Nat.le_refl _) _
    have HK := hid (hK (actOf w a a2 n cap n2 cap2 F W.heap.size) _ (keepsFrom_below hbl) (hI2.kq (hI2.below hbl) (hbl.mono hI2.2.size)) (hI2.below hbl) ⟨W.heap.size, by omega, rfl, heap_alloc_new _ _⟩)
    clear hK hI2 hbl
    unfold actOf fv at HK
    unfold fv
    gi_wp2
    exact HK.out
  case body =>
    rintro l pre F a' W hl - hI2 ⟨b, hb1, rfl, hbl⟩ -
    have HBL := hid hbl
    obtain ⟨⟨v, s⟩, hvs⟩ : ∃ x, leastV pre = x := ⟨_, rfl⟩
    rw [hvs] at hI2
    have HI := hid hI2
    have HSN : Hid (leastV (pre ++ [F]) = stepL (v, s) F) := hid (by rw [leastV_snoc, hvs])
    have HBlt : b < W.heap.size := (Array.getElem?_eq_some_iff.1 hbl).1
    obtain ⟨c0, c1, c2, c3, c4, c5, c6, c7, c8, c9, c10, c11⟩ := fv_at hbl
    have HP := hid (plain_any F W)
    unfold fv at HP
    clear hI2 hbl hvs
    unfold actOf
    gi_wp2
    refine ⟨trivial, ?_⟩
    refine (callsIn_wide.2 HP.out).mono ?_
    rintro e W5 ⟨rfl, hb5⟩
    have HI5 := hid (HI.out.below hb5)
    have HBL5 := hid ((hb5.block b HBlt).trans HBL.out)
    have HB5 := hid hb5
    have HQ5 := hid (HI.out.kq HI5.out (HB5.out.mono HI.out.2.size))
    clear c0 c1 c2 c3 c4 c5 c6 c7 c8 c9 c10 c11 HP hb5
    have cB := HI5.out.1.1.2.cell
    have cA := HI5.out.1.1.1.cell
    have fB := HI5.out.1.1.2.frozen
    have fA := HI5.out.1.1.1.frozen
    obtain ⟨c0, c1, c2, c3, c4, c5, c6, c7, c8, c9, c10, c11⟩ := fv_at HBL5.out
    have HSET := hid (HI5.out.set F.cnt true)
    have HKS := hid (set_keeps (B := W4.heap.size) (W := W5) (N := w.heap.size) (by omega) (.int .i64 F.cnt) (.bool true))
    have HBS : Hid (Below w.heap.size W5 ((W5.setCell ⟨w.heap.size, 0, none⟩ (.int .i64 F.cnt)).setCell ⟨w.heap.size + 1, 0, none⟩ (.bool true))) := hid (((Below.refl w.heap.size W5).setCell (p := ⟨w.heap.size, 0, none⟩) (Nat.le_refl _) _).setCell (p := ⟨w.heap.size + 1, 0, none⟩) (Nat.le_succ _) _)
    cases hp : plainB F with
    | false =>
      have HNO := hid (HSN.out.trans (stepL_no hp))
      clear hp
      gi_wp2
      refine ⟨keepsFrom_below HB5.out, HQ5.out, ?_⟩
      show Iv _ _ _ _ _ _ _ _ _
      rw [HNO.out]
      exact HI5.out
    | true =>
      cases s with
      | false =>
        have HNO := hid (HSN.out.trans (stepL_first hp))
        clear hp
        gi_wp2
        refine ⟨(keepsFrom_below HB5.out).trans HKS.out, HQ5.out.trans (HI5.out.kq HSET.out HBS.out), ?_⟩
        show Iv _ _ _ _ _ _ _ _ _
        rw [HNO.out]
        exact HSET.out
      | true =>
        cases hd : decide (F.cnt < v) with
        | true =>
          have HNO := hid (HSN.out.trans (stepL_less hp hd))
          clear hp
          gi_wp2
          refine ⟨(keepsFrom_below HB5.out).trans HKS.out, HQ5.out.trans (HI5.out.kq HSET.out HBS.out), ?_⟩
          show Iv _ _ _ _ _ _ _ _ _
          rw [HNO.out]
          exact HSET.out
        | false =>
          have HNO := hid (HSN.out.trans (stepL_more hd))
          clear hp
          gi_wp2
          refine ⟨keepsFrom_below HB5.out, HQ5.out, ?_⟩
          show Iv _ _ _ _ _ _ _ _ _
          rw [HNO.out]
          exact HI5.out
  case done =>
    rintro D ys W hD hys hI2 hK
    rw [hys] at hI2
    have cA := hI2.1.1.1.cell
    have cB := hI2.1.1.2.cell
    have HBel := hid hI2.2
    clear hI2
    gi_wp2
    gi_region
    have hK2 : W.drew.heap[D]? = some (.deferred (some [])) := hK
    gi_wp2
    refine ⟨by simp, .inl ⟨_, _, rfl, run_takeDeferred hK2, ?_⟩⟩
    refine ⟨_, by simp [results, Try.results13, go_sem], rfl, HBel.out.drew.trans (belowK_b (w := w) (Nat.le_refl _) W.drew D _ _ (by omega) hK2 rfl rfl)⟩
  case stop =>
    rintro D c pre W _ _ h _
    exact h.elim

end Go.Proofs.Ytakmfcnmcjbbgaa.RejN
