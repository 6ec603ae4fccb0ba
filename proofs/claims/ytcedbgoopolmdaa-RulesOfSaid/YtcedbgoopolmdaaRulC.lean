/- A flow rule, looked at. -/
import Derived.Test.YtcedbgoopolmdaaRulB
namespace Go.Proofs.Ytcedbgoopolmdaa.RulC
open Go.ChangeShapes Go.WideShapes Go.ChangeAt Go.RowKit Base RulA RulB

set_option maxRecDepth 20000 in
set_option maxHeartbeats 4000000 in
theorem look_core (res org : ByteArray) (thr : Bool) (cnt : Int) (strat : Nat) (ref : ByteArray) (shape : Nat) (warm queue : Int) (clus : Bool) (id_ : Int) (fall : Bool) (b1 b2 b3 b4 b5 : Bool) (r : Int) (R : Hid ((if b1 then (if b2 && b3 && b4 && b5 then 0 else 30) else 10) = r)) (w : World) (H1 : Hid (∀ w, Calls Try.prog 125 #[.agg #[.string res, .string org, .bool thr, .int .i64 cnt, .int .u8 strat, .string ref, .int .u8 shape, .int .i64 warm, .int .i64 queue, .bool clus, .int .i64 id_, .bool fall]] w fun e w' => e = .returned (.bool b1) ∧ Below w.heap.size w w')) (H2 : Hid (∀ w, Calls Try.prog 126 #[.agg #[.string res, .string org, .bool thr, .int .i64 cnt, .int .u8 strat, .string ref, .int .u8 shape, .int .i64 warm, .int .i64 queue, .bool clus, .int .i64 id_, .bool fall]] w fun e w' => e = .returned (.bool b2) ∧ Below w.heap.size w w')) (H3 : Hid (∀ w, Calls Try.prog 127 #[.agg #[.string res, .string org, .bool thr, .int .i64 cnt, .int .u8 strat, .string ref, .int .u8 shape, .int .i64 warm, .int .i64 queue, .bool clus, .int .i64 id_, .bool fall]] w fun e w' => e = .returned (.bool b3) ∧ Below w.heap.size w w')) (H4 : Hid (∀ w, Calls Try.prog 128 #[.agg #[.string res, .string org, .bool thr, .int .i64 cnt, .int .u8 strat, .string ref, .int .u8 shape, .int .i64 warm, .int .i64 queue, .bool clus, .int .i64 id_, .bool fall]] w fun e w' => e = .returned (.bool b4) ∧ Below w.heap.size w w')) (H5 : Hid (∀ w, Calls Try.prog 129 #[.agg #[.string res, .string org, .bool thr, .int .i64 cnt, .int .u8 strat, .string ref, .int .u8 shape, .int .i64 warm, .int .i64 queue, .bool clus, .int .i64 id_, .bool fall]] w fun e w' => e = .returned (.bool b5) ∧ Below w.heap.size w w')) :
    Calls Try.prog 103 #[.agg #[.string res, .string org, .bool thr, .int .i64 cnt, .int .u8 strat, .string ref, .int .u8 shape, .int .i64 warm, .int .i64 queue, .bool clus, .int .i64 id_, .bool fall]] w fun e w' => e = .returned (.int .i64 r) ∧ Below w.heap.size w w' := by
  go_enter Try.func103, Try.ntmps103
  have HB0 : Hid (Below w.heap.size w (w.alloc (.cells #[.string res, .string org, .bool thr, .int .i64 cnt, .int .u8 strat, .string ref, .int .u8 shape, .int .i64 warm, .int .i64 queue, .bool clus, .int .i64 id_, .bool fall] 173))) := hid ((Below.refl _ w).alloc (Nat.le_refl _) _)
  have hz0 : w.heap.size < (w.alloc (.cells #[.string res, .string org, .bool thr, .int .i64 cnt, .int .u8 strat, .string ref, .int .u8 shape, .int .i64 warm, .int .i64 queue, .bool clus, .int .i64 id_, .bool fall] 173)).heap.size := by simp
  have c0 : (w.alloc (.cells #[.string res, .string org, .bool thr, .int .i64 cnt, .int .u8 strat, .string ref, .int .u8 shape, .int .i64 warm, .int .i64 queue, .bool clus, .int .i64 id_, .bool fall] 173)).cell? ⟨w.heap.size, 0, none⟩ = some (.string res) := by unfold World.cell?; rw [heap_alloc_new]; rfl
  have c1 : (w.alloc (.cells #[.string res, .string org, .bool thr, .int .i64 cnt, .int .u8 strat, .string ref, .int .u8 shape, .int .i64 warm, .int .i64 queue, .bool clus, .int .i64 id_, .bool fall] 173)).cell? ⟨w.heap.size, 1, none⟩ = some (.string org) := by unfold World.cell?; rw [heap_alloc_new]; rfl
  have c2 : (w.alloc (.cells #[.string res, .string org, .bool thr, .int .i64 cnt, .int .u8 strat, .string ref, .int .u8 shape, .int .i64 warm, .int .i64 queue, .bool clus, .int .i64 id_, .bool fall] 173)).cell? ⟨w.heap.size, 2, none⟩ = some (.bool thr) := by unfold World.cell?; rw [heap_alloc_new]; rfl
  have c3 : (w.alloc (.cells #[.string res, .string org, .bool thr, .int .i64 cnt, .int .u8 strat, .string ref, .int .u8 shape, .int .i64 warm, .int .i64 queue, .bool clus, .int .i64 id_, .bool fall] 173)).cell? ⟨w.heap.size, 3, none⟩ = some (.int .i64 cnt) := by unfold World.cell?; rw [heap_alloc_new]; rfl
  have c4 : (w.alloc (.cells #[.string res, .string org, .bool thr, .int .i64 cnt, .int .u8 strat, .string ref, .int .u8 shape, .int .i64 warm, .int .i64 queue, .bool clus, .int .i64 id_, .bool fall] 173)).cell? ⟨w.heap.size, 4, none⟩ = some (.int .u8 strat) := by unfold World.cell?; rw [heap_alloc_new]; rfl
  have c5 : (w.alloc (.cells #[.string res, .string org, .bool thr, .int .i64 cnt, .int .u8 strat, .string ref, .int .u8 shape, .int .i64 warm, .int .i64 queue, .bool clus, .int .i64 id_, .bool fall] 173)).cell? ⟨w.heap.size, 5, none⟩ = some (.string ref) := by unfold World.cell?; rw [heap_alloc_new]; rfl
  have c6 : (w.alloc (.cells #[.string res, .string org, .bool thr, .int .i64 cnt, .int .u8 strat, .string ref, .int .u8 shape, .int .i64 warm, .int .i64 queue, .bool clus, .int .i64 id_, .bool fall] 173)).cell? ⟨w.heap.size, 6, none⟩ = some (.int .u8 shape) := by unfold World.cell?; rw [heap_alloc_new]; rfl
  have c7 : (w.alloc (.cells #[.string res, .string org, .bool thr, .int .i64 cnt, .int .u8 strat, .string ref, .int .u8 shape, .int .i64 warm, .int .i64 queue, .bool clus, .int .i64 id_, .bool fall] 173)).cell? ⟨w.heap.size, 7, none⟩ = some (.int .i64 warm) := by unfold World.cell?; rw [heap_alloc_new]; rfl
  have c8 : (w.alloc (.cells #[.string res, .string org, .bool thr, .int .i64 cnt, .int .u8 strat, .string ref, .int .u8 shape, .int .i64 warm, .int .i64 queue, .bool clus, .int .i64 id_, .bool fall] 173)).cell? ⟨w.heap.size, 8, none⟩ = some (.int .i64 queue) := by unfold World.cell?; rw [heap_alloc_new]; rfl
  have c9 : (w.alloc (.cells #[.string res, .string org, .bool thr, .int .i64 cnt, .int .u8 strat, .string ref, .int .u8 shape, .int .i64 warm, .int .i64 queue, .bool clus, .int .i64 id_, .bool fall] 173)).cell? ⟨w.heap.size, 9, none⟩ = some (.bool clus) := by unfold World.cell?; rw [heap_alloc_new]; rfl
  have c10 : (w.alloc (.cells #[.string res, .string org, .bool thr, .int .i64 cnt, .int .u8 strat, .string ref, .int .u8 shape, .int .i64 warm, .int .i64 queue, .bool clus, .int .i64 id_, .bool fall] 173)).cell? ⟨w.heap.size, 10, none⟩ = some (.int .i64 id_) := by unfold World.cell?; rw [heap_alloc_new]; rfl
  have c11 : (w.alloc (.cells #[.string res, .string org, .bool thr, .int .i64 cnt, .int .u8 strat, .string ref, .int .u8 shape, .int .i64 warm, .int .i64 queue, .bool clus, .int .i64 id_, .bool fall] 173)).cell? ⟨w.heap.size, 11, none⟩ = some (.bool fall) := by unfold World.cell?; rw [heap_alloc_new]; rfl
  go_wp2_with fail
  generalize w.alloc (.cells #[.string res, .string org, .bool thr, .int .i64 cnt, .int .u8 strat, .string ref, .int .u8 shape, .int .i64 warm, .int .i64 queue, .bool clus, .int .i64 id_, .bool fall] 173) = w0 at *
  refine (H1.out _).mono ?_
  rintro e w1 ⟨rfl, hb⟩
  have HB1 := hid (HB0.out.trans (hb.mono HB0.out.size))
  have hz1 : w.heap.size < w1.heap.size := Nat.lt_of_lt_of_le hz0 hb.size
  have d0 := (hb.cell (p := ⟨w.heap.size, 0, none⟩) hz0).trans c0
  have d1 := (hb.cell (p := ⟨w.heap.size, 1, none⟩) hz0).trans c1
  have d2 := (hb.cell (p := ⟨w.heap.size, 2, none⟩) hz0).trans c2
  have d3 := (hb.cell (p := ⟨w.heap.size, 3, none⟩) hz0).trans c3
  have d4 := (hb.cell (p := ⟨w.heap.size, 4, none⟩) hz0).trans c4
  have d5 := (hb.cell (p := ⟨w.heap.size, 5, none⟩) hz0).trans c5
  have d6 := (hb.cell (p := ⟨w.heap.size, 6, none⟩) hz0).trans c6
  have d7 := (hb.cell (p := ⟨w.heap.size, 7, none⟩) hz0).trans c7
  have d8 := (hb.cell (p := ⟨w.heap.size, 8, none⟩) hz0).trans c8
  have d9 := (hb.cell (p := ⟨w.heap.size, 9, none⟩) hz0).trans c9
  have d10 := (hb.cell (p := ⟨w.heap.size, 10, none⟩) hz0).trans c10
  have d11 := (hb.cell (p := ⟨w.heap.size, 11, none⟩) hz0).trans c11
  clear hb hz0 c0 c1 c2 c3 c4 c5 c6 c7 c8 c9 c10 c11
  have c0 := d0
  have c1 := d1
  have c2 := d2
  have c3 := d3
  have c4 := d4
  have c5 := d5
  have c6 := d6
  have c7 := d7
  have c8 := d8
  have c9 := d9
  have c10 := d10
  have c11 := d11
  clear d0 d1 d2 d3 d4 d5 d6 d7 d8 d9 d10 d11
  cases b1 with
  | false =>
    go_wp2_with fail
    go_ret
    exact ⟨ret_int R.out, HB1.out⟩
  | true =>
    go_wp2_with fail
    refine (H2.out _).mono ?_
    rintro e w2 ⟨rfl, hb⟩
    have HB2 := hid (HB1.out.trans (hb.mono HB1.out.size))
    have hz2 : w.heap.size < w2.heap.size := Nat.lt_of_lt_of_le hz1 hb.size
    have d0 := (hb.cell (p := ⟨w.heap.size, 0, none⟩) hz1).trans c0
    have d1 := (hb.cell (p := ⟨w.heap.size, 1, none⟩) hz1).trans c1
    have d2 := (hb.cell (p := ⟨w.heap.size, 2, none⟩) hz1).trans c2
    have d3 := (hb.cell (p := ⟨w.heap.size, 3, none⟩) hz1).trans c3
    have d4 := (hb.cell (p := ⟨w.heap.size, 4, none⟩) hz1).trans c4
    have d5 := (hb.cell (p := ⟨w.heap.size, 5, none⟩) hz1).trans c5
    have d6 := (hb.cell (p := ⟨w.heap.size, 6, none⟩) hz1).trans c6
    have d7 := (hb.cell (p := ⟨w.heap.size, 7, none⟩) hz1).trans c7
    have d8 := (hb.cell (p := ⟨w.heap.size, 8, none⟩) hz1).trans c8
    have d9 := (hb.cell (p := ⟨w.heap.size, 9, none⟩) hz1).trans c9
    have d10 := (hb.cell (p := ⟨w.heap.size, 10, none⟩) hz1).trans c10
    have d11 := (hb.cell (p := ⟨w.heap.size, 11, none⟩) hz1).trans c11
    clear hb hz1 c0 c1 c2 c3 c4 c5 c6 c7 c8 c9 c10 c11
    have c0 := d0
    have c1 := d1
    have c2 := d2
    have c3 := d3
    have c4 := d4
    have c5 := d5
    have c6 := d6
    have c7 := d7
    have c8 := d8
    have c9 := d9
    have c10 := d10
    have c11 := d11
    clear d0 d1 d2 d3 d4 d5 d6 d7 d8 d9 d10 d11
    cases b2 with
    | false =>
      go_wp2_with fail
      go_ret
      exact ⟨ret_int R.out, HB2.out⟩
    | true =>
      go_wp2_with fail
      refine (H3.out _).mono ?_
      rintro e w3 ⟨rfl, hb⟩
      have HB3 := hid (HB2.out.trans (hb.mono HB2.out.size))
      have hz3 : w.heap.size < w3.heap.size := Nat.lt_of_lt_of_le hz2 hb.size
      have d0 := (hb.cell (p := ⟨w.heap.size, 0, none⟩) hz2).trans c0
      have d1 := (hb.cell (p := ⟨w.heap.size, 1, none⟩) hz2).trans c1
      have d2 := (hb.cell (p := ⟨w.heap.size, 2, none⟩) hz2).trans c2
      have d3 := (hb.cell (p := ⟨w.heap.size, 3, none⟩) hz2).trans c3
      have d4 := (hb.cell (p := ⟨w.heap.size, 4, none⟩) hz2).trans c4
      have d5 := (hb.cell (p := ⟨w.heap.size, 5, none⟩) hz2).trans c5
      have d6 := (hb.cell (p := ⟨w.heap.size, 6, none⟩) hz2).trans c6
      have d7 := (hb.cell (p := ⟨w.heap.size, 7, none⟩) hz2).trans c7
      have d8 := (hb.cell (p := ⟨w.heap.size, 8, none⟩) hz2).trans c8
      have d9 := (hb.cell (p := ⟨w.heap.size, 9, none⟩) hz2).trans c9
      have d10 := (hb.cell (p := ⟨w.heap.size, 10, none⟩) hz2).trans c10
      have d11 := (hb.cell (p := ⟨w.heap.size, 11, none⟩) hz2).trans c11
      clear hb hz2 c0 c1 c2 c3 c4 c5 c6 c7 c8 c9 c10 c11
      have c0 := d0
      have c1 := d1
      have c2 := d2
      have c3 := d3
      have c4 := d4
      have c5 := d5
      have c6 := d6
      have c7 := d7
      have c8 := d8
      have c9 := d9
      have c10 := d10
      have c11 := d11
      clear d0 d1 d2 d3 d4 d5 d6 d7 d8 d9 d10 d11
      cases b3 with
      | false =>
        go_wp2_with fail
        go_ret
        exact ⟨ret_int R.out, HB3.out⟩
      | true =>
        go_wp2_with fail
        refine (H4.out _).mono ?_
        rintro e w4 ⟨rfl, hb⟩
        have HB4 := hid (HB3.out.trans (hb.mono HB3.out.size))
        have hz4 : w.heap.size < w4.heap.size := Nat.lt_of_lt_of_le hz3 hb.size
        have d0 := (hb.cell (p := ⟨w.heap.size, 0, none⟩) hz3).trans c0
        have d1 := (hb.cell (p := ⟨w.heap.size, 1, none⟩) hz3).trans c1
        have d2 := (hb.cell (p := ⟨w.heap.size, 2, none⟩) hz3).trans c2
        have d3 := (hb.cell (p := ⟨w.heap.size, 3, none⟩) hz3).trans c3
        have d4 := (hb.cell (p := ⟨w.heap.size, 4, none⟩) hz3).trans c4
        have d5 := (hb.cell (p := ⟨w.heap.size, 5, none⟩) hz3).trans c5
        have d6 := (hb.cell (p := ⟨w.heap.size, 6, none⟩) hz3).trans c6
        have d7 := (hb.cell (p := ⟨w.heap.size, 7, none⟩) hz3).trans c7
        have d8 := (hb.cell (p := ⟨w.heap.size, 8, none⟩) hz3).trans c8
        have d9 := (hb.cell (p := ⟨w.heap.size, 9, none⟩) hz3).trans c9
        have d10 := (hb.cell (p := ⟨w.heap.size, 10, none⟩) hz3).trans c10
        have d11 := (hb.cell (p := ⟨w.heap.size, 11, none⟩) hz3).trans c11
        clear hb hz3 c0 c1 c2 c3 c4 c5 c6 c7 c8 c9 c10 c11
        have c0 := d0
        have c1 := d1
        have c2 := d2
        have c3 := d3
        have c4 := d4
        have c5 := d5
        have c6 := d6
        have c7 := d7
        have c8 := d8
        have c9 := d9
        have c10 := d10
        have c11 := d11
        clear d0 d1 d2 d3 d4 d5 d6 d7 d8 d9 d10 d11
        cases b4 with
        | false =>
          go_wp2_with fail
          go_ret
          exact ⟨ret_int R.out, HB4.out⟩
        | true =>
          go_wp2_with fail
          refine (H5.out _).mono ?_
          rintro e w5 ⟨rfl, hb⟩
          have HB5 := hid (HB4.out.trans (hb.mono HB4.out.size))
          have hz5 : w.heap.size < w5.heap.size := Nat.lt_of_lt_of_le hz4 hb.size
          have d0 := (hb.cell (p := ⟨w.heap.size, 0, none⟩) hz4).trans c0
          have d1 := (hb.cell (p := ⟨w.heap.size, 1, none⟩) hz4).trans c1
          have d2 := (hb.cell (p := ⟨w.heap.size, 2, none⟩) hz4).trans c2
          have d3 := (hb.cell (p := ⟨w.heap.size, 3, none⟩) hz4).trans c3
          have d4 := (hb.cell (p := ⟨w.heap.size, 4, none⟩) hz4).trans c4
          have d5 := (hb.cell (p := ⟨w.heap.size, 5, none⟩) hz4).trans c5
          have d6 := (hb.cell (p := ⟨w.heap.size, 6, none⟩) hz4).trans c6
          have d7 := (hb.cell (p := ⟨w.heap.size, 7, none⟩) hz4).trans c7
          have d8 := (hb.cell (p := ⟨w.heap.size, 8, none⟩) hz4).trans c8
          have d9 := (hb.cell (p := ⟨w.heap.size, 9, none⟩) hz4).trans c9
          have d10 := (hb.cell (p := ⟨w.heap.size, 10, none⟩) hz4).trans c10
          have d11 := (hb.cell (p := ⟨w.heap.size, 11, none⟩) hz4).trans c11
          clear hb hz4 c0 c1 c2 c3 c4 c5 c6 c7 c8 c9 c10 c11
          have c0 := d0
          have c1 := d1
          have c2 := d2
          have c3 := d3
          have c4 := d4
          have c5 := d5
          have c6 := d6
          have c7 := d7
          have c8 := d8
          have c9 := d9
          have c10 := d10
          have c11 := d11
          clear d0 d1 d2 d3 d4 d5 d6 d7 d8 d9 d10 d11
          cases b5 with
          | false =>
            go_wp2_with fail
            go_ret
            exact ⟨ret_int R.out, HB5.out⟩
          | true =>
            go_wp2_with fail
            go_ret
            exact ⟨ret_int R.out, HB5.out⟩

theorem look_any (f : Flow) (w : World) (h1 : f.res.size ≤ maxLen) (h2 : f.org.size ≤ maxLen) (h3 : f.ref.size ≤ maxLen) :
    Calls Try.prog 103 #[.agg (fv f)] w fun e w' => e = .returned (.int .i64 (flowE f)) ∧ Below w.heap.size w w' :=
  look_core f.res f.org f.thr f.cnt f.strat f.ref f.shape f.warm f.queue f.clus f.id_ f.fall _ _ _ _ _ _ (hid rfl) w (hid fun w => isNamed_any f w h1 h2 h3) (hid fun w => mayCount_any f w) (hid fun w => mayLook_any f w) (hid fun w => mayWait_any f w) (hid fun w => mayShare_any f w)

set_option maxHeartbeats 1000000 in
theorem Flow_core (res org : ByteArray) (thr : Bool) (cnt : Int) (strat : Nat) (ref : ByteArray) (shape : Nat) (warm queue : Int) (clus : Bool) (id_ : Int) (fall : Bool) (r : Int) (w : World) (H : Hid (∀ w, Calls Try.prog 103 #[.agg #[.string res, .string org, .bool thr, .int .i64 cnt, .int .u8 strat, .string ref, .int .u8 shape, .int .i64 warm, .int .i64 queue, .bool clus, .int .i64 id_, .bool fall]] w fun e w' => e = .returned (.int .i64 r) ∧ Below w.heap.size w w')) :
    Calls Try.prog 65 #[.agg #[.string res, .string org, .bool thr, .int .i64 cnt, .int .u8 strat, .string ref, .int .u8 shape, .int .i64 warm, .int .i64 queue, .bool clus, .int .i64 id_, .bool fall]] w fun e w' => e = .returned (.int .i64 r) ∧ Below w.heap.size w w' := by
  go_enter Try.func65, Try.ntmps65
  go_wp2_with fail
  refine (H.out _).mono ?_
  rintro e w1 ⟨rfl, hb⟩
  have HB := hid (((Below.refl _ w).alloc (Nat.le_refl _) _).trans (hb.mono (by simp)))
  clear hb
  go_wp2_with fail
  go_ret
  exact ⟨rfl, HB.out⟩

theorem Flow_any (f : Flow) (w : World) (h1 : f.res.size ≤ maxLen) (h2 : f.org.size ≤ maxLen) (h3 : f.ref.size ≤ maxLen) :
    Calls Try.prog 65 #[.agg (fv f)] w fun e w' => e = .returned (.int .i64 (flowE f)) ∧ Below w.heap.size w w' :=
  Flow_core f.res f.org f.thr f.cnt f.strat f.ref f.shape f.warm f.queue f.clus f.id_ f.fall _ w (hid fun w => look_any f w h1 h2 h3)

end Go.Proofs.Ytcedbgoopolmdaa.RulC
