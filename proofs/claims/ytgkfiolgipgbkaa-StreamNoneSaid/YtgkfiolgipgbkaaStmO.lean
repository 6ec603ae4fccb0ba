/- Where there is no network: the law StreamNone. -/
import Derived.Test.YtgkfiolgipgbkaaStmN
namespace Go.Proofs.Ytgkfiolgipgbkaa.StmO
open Go.ChangeShapes Go.WideShapes Go.ChangeAt Go.RowKit Base Wri Map FrmP FrmA StmA StmB StmC StmD StmE StmF VaiA StmG StmH StmI StmJ StmK StmL StmM StmN
set_option linter.unusedVariables false
set_option linter.unusedSimpArgs false

theorem refuses_nil (v : Value) (w : World) : Calls Try.prog 47 #[.pointer none, v] w fun x w' => x = .returned (.int .i64 1) ∧ w' = w := by
  go_enter Try.func47, Try.ntmps47
  go_wp2_with fail
  go_ret
  exact ⟨rfl, rfl⟩
theorem at_nil (c e m : Int) (fv : Value) (w : World) : Calls Try.prog 50 #[.pointer none, .int .i64 c, .int .i64 e, .int .i64 m, fv] w fun x w' => x = .returned (.int .i64 1) ∧ w' = w := by
  go_enter Try.func50, Try.ntmps50
  go_wp2_with fail
  go_ret
  exact ⟨rfl, rfl⟩

set_option maxRecDepth 20000 in
set_option maxHeartbeats 1000000 in
theorem Listen_nil (a : Option Addr) (n c : Nat) (w : World) : Calls Try.prog 13 #[.pointer none, .slice a n c] w fun x w' => x = .returned (.int .i64 1) ∧ Below w.heap.size w w' := by
  go_enter Try.func13, Try.ntmps13
  go_wp2_with (first
    | (go_at_call 47; refine (refuses_nil _ _).mono ?_; rintro x w1 ⟨rfl, rfl⟩)
    | (go_at_call 50; refine (at_nil _ _ _ _ _).mono ?_; rintro x w1 ⟨rfl, rfl⟩))
  go_ret
  exact ⟨rfl, (by repeat (first | (with_reducible exact Below.refl _ _) | (with_reducible refine Below.setCell ?_ (by first | (simp; done) | (simp; omega) | omega) _) | (with_reducible refine Below.alloc ?_ (by first | (simp; done) | (simp; omega) | omega) _) | (with_reducible refine Below.drew ?_)))⟩

set_option maxRecDepth 20000 in
set_option maxHeartbeats 1000000 in
theorem Stop_nil (a : Option Addr) (n c : Nat) (w : World) : Calls Try.prog 21 #[.pointer none, .slice a n c] w fun x w' => x = .returned (.int .i64 1) ∧ Below w.heap.size w w' := by
  go_enter Try.func21, Try.ntmps21
  go_wp2_with (first
    | (go_at_call 47; refine (refuses_nil _ _).mono ?_; rintro x w1 ⟨rfl, rfl⟩)
    | (go_at_call 50; refine (at_nil _ _ _ _ _).mono ?_; rintro x w1 ⟨rfl, rfl⟩))
  go_ret
  exact ⟨rfl, (by repeat (first | (with_reducible exact Below.refl _ _) | (with_reducible refine Below.setCell ?_ (by first | (simp; done) | (simp; omega) | omega) _) | (with_reducible refine Below.alloc ?_ (by first | (simp; done) | (simp; omega) | omega) _) | (with_reducible refine Below.drew ?_)))⟩

set_option maxRecDepth 20000 in
set_option maxHeartbeats 1000000 in
theorem Dial_nil (k : Int) (w : World) : Calls Try.prog 14 #[.pointer none, .int .i64 k] w fun x w' => x = .returned (.tuple #[.int .i64 0, .int .i64 1]) ∧ Below w.heap.size w w' := by
  go_enter Try.func14, Try.ntmps14
  go_wp2_with (first
    | (go_at_call 47; refine (refuses_nil _ _).mono ?_; rintro x w1 ⟨rfl, rfl⟩)
    | (go_at_call 50; refine (at_nil _ _ _ _ _).mono ?_; rintro x w1 ⟨rfl, rfl⟩))
  go_ret2
  exact ⟨rfl, (by repeat (first | (with_reducible exact Below.refl _ _) | (with_reducible refine Below.setCell ?_ (by first | (simp; done) | (simp; omega) | omega) _) | (with_reducible refine Below.alloc ?_ (by first | (simp; done) | (simp; omega) | omega) _) | (with_reducible refine Below.drew ?_)))⟩

set_option maxRecDepth 20000 in
set_option maxHeartbeats 1000000 in
theorem Write_nil (c e : Int) (a : Option Addr) (n cx : Nat) (w : World) : Calls Try.prog 15 #[.pointer none, .int .i64 c, .int .i64 e, .slice a n cx] w fun x w' => x = .returned (.int .i64 1) ∧ Below w.heap.size w w' := by
  go_enter Try.func15, Try.ntmps15
  go_wp2_with (first
    | (go_at_call 47; refine (refuses_nil _ _).mono ?_; rintro x w1 ⟨rfl, rfl⟩)
    | (go_at_call 50; refine (at_nil _ _ _ _ _).mono ?_; rintro x w1 ⟨rfl, rfl⟩))
  go_ret
  exact ⟨rfl, (by repeat (first | (with_reducible exact Below.refl _ _) | (with_reducible refine Below.setCell ?_ (by first | (simp; done) | (simp; omega) | omega) _) | (with_reducible refine Below.alloc ?_ (by first | (simp; done) | (simp; omega) | omega) _) | (with_reducible refine Below.drew ?_)))⟩

set_option maxRecDepth 20000 in
set_option maxHeartbeats 1000000 in
theorem Move_nil (c e m : Int) (w : World) : Calls Try.prog 16 #[.pointer none, .int .i64 c, .int .i64 e, .int .i64 m] w fun x w' => x = .returned (.tuple #[.int .i64 0, .int .i64 1]) ∧ Below w.heap.size w w' := by
  go_enter Try.func16, Try.ntmps16
  go_wp2_with (first
    | (go_at_call 47; refine (refuses_nil _ _).mono ?_; rintro x w1 ⟨rfl, rfl⟩)
    | (go_at_call 50; refine (at_nil _ _ _ _ _).mono ?_; rintro x w1 ⟨rfl, rfl⟩))
  go_ret2
  exact ⟨rfl, (by repeat (first | (with_reducible exact Below.refl _ _) | (with_reducible refine Below.setCell ?_ (by first | (simp; done) | (simp; omega) | omega) _) | (with_reducible refine Below.alloc ?_ (by first | (simp; done) | (simp; omega) | omega) _) | (with_reducible refine Below.drew ?_)))⟩

set_option maxRecDepth 20000 in
set_option maxHeartbeats 1000000 in
theorem Read_nil (c e m : Int) (w : World) : Calls Try.prog 17 #[.pointer none, .int .i64 c, .int .i64 e, .int .i64 m] w fun x w' => x = .returned (.tuple #[.slice none 0 0, .bool false, .int .i64 1]) ∧ Below w.heap.size w w' := by
  go_enter Try.func17, Try.ntmps17
  go_wp2_with (first
    | (go_at_call 47; refine (refuses_nil _ _).mono ?_; rintro x w1 ⟨rfl, rfl⟩)
    | (go_at_call 50; refine (at_nil _ _ _ _ _).mono ?_; rintro x w1 ⟨rfl, rfl⟩))
  go_quiet (fail)
  go_wp2_with fail
  go_ret3
  refine ⟨rfl, ?_⟩
  have h : Below w.heap.size w ((((w.alloc (.cells #[.int .i64 e] 3)).alloc (.cells #[.int .i64 m] 3)).alloc (.cells #[.slice none 0 0] 32)).alloc (.cells #[.bool false] 4)) := bel_next (bel_next (bel_next (bel_alloc _ _) _) _) _
  exact ⟨h.os, h.tape, h.output, h.size, h.block⟩

set_option maxRecDepth 20000 in
set_option maxHeartbeats 1000000 in
theorem Shut_nil (c e : Int) (w : World) : Calls Try.prog 19 #[.pointer none, .int .i64 c, .int .i64 e] w fun x w' => x = .returned (.int .i64 1) ∧ Below w.heap.size w w' := by
  go_enter Try.func19, Try.ntmps19
  go_wp2_with (first
    | (go_at_call 47; refine (refuses_nil _ _).mono ?_; rintro x w1 ⟨rfl, rfl⟩)
    | (go_at_call 50; refine (at_nil _ _ _ _ _).mono ?_; rintro x w1 ⟨rfl, rfl⟩))
  go_ret
  exact ⟨rfl, (by repeat (first | (with_reducible exact Below.refl _ _) | (with_reducible refine Below.setCell ?_ (by first | (simp; done) | (simp; omega) | omega) _) | (with_reducible refine Below.alloc ?_ (by first | (simp; done) | (simp; omega) | omega) _) | (with_reducible refine Below.drew ?_)))⟩

set_option maxRecDepth 20000 in
set_option maxHeartbeats 1000000 in
theorem Break_nil (a : Option Addr) (n c : Nat) (w : World) : Calls Try.prog 22 #[.pointer none, .slice a n c] w fun x w' => x = .returned (.int .i64 1) ∧ Below w.heap.size w w' := by
  go_enter Try.func22, Try.ntmps22
  go_wp2_with (first
    | (go_at_call 47; refine (refuses_nil _ _).mono ?_; rintro x w1 ⟨rfl, rfl⟩)
    | (go_at_call 50; refine (at_nil _ _ _ _ _).mono ?_; rintro x w1 ⟨rfl, rfl⟩))
  go_ret
  exact ⟨rfl, (by repeat (first | (with_reducible exact Below.refl _ _) | (with_reducible refine Below.setCell ?_ (by first | (simp; done) | (simp; omega) | omega) _) | (with_reducible refine Below.alloc ?_ (by first | (simp; done) | (simp; omega) | omega) _) | (with_reducible refine Below.drew ?_)))⟩

set_option maxRecDepth 20000 in
set_option maxHeartbeats 1000000 in
theorem Port_nil (c : Int) (w : World) : Calls Try.prog 23 #[.pointer none, .int .i64 c] w fun x w' => x = .returned (.int .i64 0) ∧ Below w.heap.size w w' := by
  go_enter Try.func23, Try.ntmps23
  go_wp2_with (first
    | (go_at_call 47; refine (refuses_nil _ _).mono ?_; rintro x w1 ⟨rfl, rfl⟩)
    | (go_at_call 50; refine (at_nil _ _ _ _ _).mono ?_; rintro x w1 ⟨rfl, rfl⟩))
  go_ret
  exact ⟨rfl, (by repeat (first | (with_reducible exact Below.refl _ _) | (with_reducible refine Below.setCell ?_ (by first | (simp; done) | (simp; omega) | omega) _) | (with_reducible refine Below.alloc ?_ (by first | (simp; done) | (simp; omega) | omega) _) | (with_reducible refine Below.drew ?_)))⟩

set_option maxRecDepth 20000 in
set_option maxHeartbeats 1000000 in
theorem Conns_nil  (w : World) : Calls Try.prog 24 #[.pointer none] w fun x w' => x = .returned (.slice none 0 0) ∧ Below w.heap.size w w' := by
  go_enter Try.func24, Try.ntmps24
  go_wp2_with (first
    | (go_at_call 47; refine (refuses_nil _ _).mono ?_; rintro x w1 ⟨rfl, rfl⟩)
    | (go_at_call 50; refine (at_nil _ _ _ _ _).mono ?_; rintro x w1 ⟨rfl, rfl⟩))
  go_ret
  exact ⟨rfl, (by repeat (first | (with_reducible exact Below.refl _ _) | (with_reducible refine Below.setCell ?_ (by first | (simp; done) | (simp; omega) | omega) _) | (with_reducible refine Below.alloc ?_ (by first | (simp; done) | (simp; omega) | omega) _) | (with_reducible refine Below.drew ?_)))⟩

set_option maxRecDepth 20000 in
set_option maxHeartbeats 1000000 in
theorem Fork_nil  (w : World) : Calls Try.prog 9 #[.pointer none] w fun x w' => x = .returned (.pointer none) ∧ Below w.heap.size w w' := by
  go_enter Try.func9, Try.ntmps9
  go_wp2_with (first
    | (go_at_call 47; refine (refuses_nil _ _).mono ?_; rintro x w1 ⟨rfl, rfl⟩)
    | (go_at_call 50; refine (at_nil _ _ _ _ _).mono ?_; rintro x w1 ⟨rfl, rfl⟩))
  go_ret
  exact ⟨rfl, (by repeat (first | (with_reducible exact Below.refl _ _) | (with_reducible refine Below.setCell ?_ (by first | (simp; done) | (simp; omega) | omega) _) | (with_reducible refine Below.alloc ?_ (by first | (simp; done) | (simp; omega) | omega) _) | (with_reducible refine Below.drew ?_)))⟩

set_option maxRecDepth 20000 in
set_option maxHeartbeats 1000000 in
theorem Look_nil (c e : Int) (w : World) : Calls Try.prog 20 #[.pointer none, .int .i64 c, .int .i64 e] w fun x w' => x = .returned (.tuple #[.int .i64 0, .int .i64 0, .int .i64 1]) ∧ Below w.heap.size w w' := by
  have b1 := bel_alloc w (.cells #[.int .i64 e] 3)
  have b2 := bel_next b1 (.cells #[.int .i64 0] 3)
  have b3 := bel_next b2 (.cells #[.int .i64 0] 3)
  have s1 : (w.alloc (.cells #[.int .i64 e] 3)).heap.size = w.heap.size + 1 := by simp
  have s2 : ((w.alloc (.cells #[.int .i64 e] 3)).alloc (.cells #[.int .i64 0] 3)).heap.size = w.heap.size + 1 + 1 := by simp
  have n1 := heap_alloc_new (w.alloc (.cells #[.int .i64 e] 3)) (.cells #[.int .i64 0] 3)
  have n2 := heap_alloc_new ((w.alloc (.cells #[.int .i64 e] 3)).alloc (.cells #[.int .i64 0] 3)) (.cells #[.int .i64 0] 3)
  rw [s1] at n1
  rw [s2] at n2
  have n1 := heap_keep (o := .cells #[.int .i64 0] 3) n1
  obtain ⟨W, hW⟩ : ∃ W, ((w.alloc (.cells #[.int .i64 e] 3)).alloc (.cells #[.int .i64 0] 3)).alloc (.cells #[.int .i64 0] 3) = W := ⟨_, rfl⟩
  rw [hW] at b3 n1 n2
  have x6 : W.cell? ⟨w.heap.size + 1, 0, none⟩ = some (.int .i64 0) := blk_cell n1 rfl
  have x7 : W.cell? ⟨w.heap.size + 1 + 1, 0, none⟩ = some (.int .i64 0) := blk_cell n2 rfl
  have f6 : W.frozen? ⟨w.heap.size + 1, 0, none⟩ = false := blk_frozen n1
  have f7 : W.frozen? ⟨w.heap.size + 1 + 1, 0, none⟩ = false := blk_frozen n2
  have HB := hid b3
  have HW := hid hW
  clear b1 b2 b3 s1 s2 n1 n2 hW
  go_enter Try.func20, Try.ntmps20
  go_wp2_with fail
  rw [HW.out]
  refine (at_nil _ _ _ _ _).mono ?_
  rintro x w1 ⟨rfl, rfl⟩
  go_wp2_with fail
  go_region
  all_goals
    go_wp2_with fail
    obtain ⟨W2, hW2⟩ : ∃ W2, (w1.setCell ⟨w.heap.size + 1, 0, none⟩ (.int .i64 0)).setCell ⟨w.heap.size + 1 + 1, 0, none⟩ (.int .i64 0) = W2 := ⟨_, rfl⟩
    have y6 : W2.cell? ⟨w.heap.size + 1, 0, none⟩ = some (.int .i64 0) := by
      rw [← hW2, World.cell?_setCell_other _ _ _ _ (fun e => by have := congrArg Addr.block e; dsimp only at this; omega)]
      exact World.cell?_setCell_same _ _ _ x6
    have y7 : W2.cell? ⟨w.heap.size + 1 + 1, 0, none⟩ = some (.int .i64 0) := by
      rw [← hW2]
      exact World.cell?_setCell_same _ _ _ ((World.cell?_setCell_other _ _ _ _ (fun e => by have := congrArg Addr.block e; dsimp only at this; omega)).trans x7)
    have hB2 : Below w.heap.size w W2 := by
      rw [← hW2]
      exact (HB.out.setCell (p := ⟨w.heap.size + 1, 0, none⟩) (by show _ ≤ w.heap.size + 1; omega) _).setCell (p := ⟨w.heap.size + 1 + 1, 0, none⟩) (by show _ ≤ w.heap.size + 1 + 1; omega) _
    rw [hW2]
    refine bodyPost_ret (v := .tuple #[.int .i64 0, .int .i64 0, .int .i64 1]) (by simp [results, Try.results20, go_sem, y6, y7]) rfl ?_
    exact ⟨rfl, hB2.os, hB2.tape, hB2.output, hB2.size, hB2.block⟩

theorem bel_call {w W w' : World} (h : Below w.heap.size w W) (hb : Below W.heap.size W w') : Below w.heap.size w w' := h.trans (hb.mono h.size)

set_option maxRecDepth 100000 in
set_option maxHeartbeats 4000000 in
theorem main {W : World} (a0 : Int) (w0 : (Lit.int .i64 a0).wf = true) (a1 : Int) (w1 : (Lit.int .i64 a1).wf = true) (a2 : Int) (w2 : (Lit.int .i64 a2).wf = true) :
    Calls Try.prog 5 #[.int .i64 a0, .int .i64 a1, .int .i64 a2] W fun e w' => e = .returned (.bool true) ∧ Below W.heap.size W w' := by
  clear w0 w1 w2
  have HB := hid (Below.refl W.heap.size W)
  go_enter Try.func5, Try.ntmps5
  go_wp2_with (first
    |(go_at_call 6; refine (live_any _).mono ?_; rintro x w1 ⟨rfl, hb⟩; have HB := hid (bel_call (by first | exact HB.out | exact bel_next HB.out _) hb); clear hb)
    | (go_at_call 13; refine (Listen_nil _ _ _ _).mono ?_; rintro x w1 ⟨rfl, hb⟩; have HB := hid (bel_call (by first | exact HB.out | exact bel_next HB.out _) hb); clear hb)
    | (go_at_call 21; refine (Stop_nil _ _ _ _).mono ?_; rintro x w1 ⟨rfl, hb⟩; have HB := hid (bel_call (by first | exact HB.out | exact bel_next HB.out _) hb); clear hb)
    | (go_at_call 14; refine (Dial_nil _ _).mono ?_; rintro x w1 ⟨rfl, hb⟩; have HB := hid (bel_call (by first | exact HB.out | exact bel_next HB.out _) hb); clear hb)
    | (go_at_call 15; refine (Write_nil _ _ _ _ _ _).mono ?_; rintro x w1 ⟨rfl, hb⟩; have HB := hid (bel_call (by first | exact HB.out | exact bel_next HB.out _) hb); clear hb)
    | (go_at_call 16; refine (Move_nil _ _ _ _).mono ?_; rintro x w1 ⟨rfl, hb⟩; have HB := hid (bel_call (by first | exact HB.out | exact bel_next HB.out _) hb); clear hb)
    | (go_at_call 17; refine (Read_nil _ _ _ _).mono ?_; rintro x w1 ⟨rfl, hb⟩; have HB := hid (bel_call (by first | exact HB.out | exact bel_next HB.out _) hb); clear hb)
    | (go_at_call 19; refine (Shut_nil _ _ _).mono ?_; rintro x w1 ⟨rfl, hb⟩; have HB := hid (bel_call (by first | exact HB.out | exact bel_next HB.out _) hb); clear hb)
    | (go_at_call 22; refine (Break_nil _ _ _ _).mono ?_; rintro x w1 ⟨rfl, hb⟩; have HB := hid (bel_call (by first | exact HB.out | exact bel_next HB.out _) hb); clear hb)
    | (go_at_call 23; refine (Port_nil _ _).mono ?_; rintro x w1 ⟨rfl, hb⟩; have HB := hid (bel_call (by first | exact HB.out | exact bel_next HB.out _) hb); clear hb)
    | (go_at_call 24; refine (Conns_nil _).mono ?_; rintro x w1 ⟨rfl, hb⟩; have HB := hid (bel_call (by first | exact HB.out | exact bel_next HB.out _) hb); clear hb)
    | (go_at_call 9; refine (Fork_nil _).mono ?_; rintro x w1 ⟨rfl, hb⟩; have HB := hid (bel_call (by first | exact HB.out | exact bel_next HB.out _) hb); clear hb)
    | (go_at_call 20; refine (Look_nil _ _ _).mono ?_; rintro x w1 ⟨rfl, hb⟩; have HB := hid (bel_call (by first | exact HB.out | exact bel_next HB.out _) hb); clear hb)
    )
  go_ret
  exact ⟨rfl, HB.out⟩

end Go.Proofs.Ytgkfiolgipgbkaa.StmO
