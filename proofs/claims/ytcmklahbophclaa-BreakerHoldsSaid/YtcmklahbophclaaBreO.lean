/- Breakers: all contracts that the laws lean on, kept by the program's own; the laws from what comes in. -/
import Derived.Test.YtcmklahbophclaaBreK
import Derived.Test.YtcmklahbophclaaBreL
namespace Go.Proofs.Ytcmklahbophclaa.BreO
set_option linter.unusedVariables false
open Go.ChangeShapes Go.WideShapes Go.ChangeAt Go.RowKit Base WinM WinA WinB WinC WinE WinH WinI WinK WinN BreP BreA BreV BreU BreW BreY BreZ BreI BreJ BreK

theorem api0 : Api0 Iv BreR.refR where
  keep := fun h hl hr => iv_keep h hl hr
  ok := fun h => by obtain ⟨q, go, -, -, -, -, h5, -⟩ := h; exact h5.ok
  lt := fun h => iv_lt h
  new_ := fun r w hs => new_any r w hs
  state_ := fun h => by obtain ⟨q, go, h1, -⟩ := h; exact state_core _ _ _ (h1.cell 0 _ rfl)
  until_ := fun {w p H B} h => by
    obtain ⟨q, go, h1, -, -, -, h5, -⟩ := h
    have e1 : ((if B.st = 1 then 0 else B.til : Nat)) = B.til := by
      split
      · rename_i h; exact (h5.til h).symm
      · rfl
    rw [e1]
    refine until_core p B.st B.til _ w (h1.cell 0 _ rfl) (h1.cell 1 _ rfl) ?_
    by_cases hs : B.st = 1
    · rw [hs]; rfl
    · rw [decide_eq_true hs]
      simp
      omega
  trips_ := fun h => by obtain ⟨q, go, h1, -⟩ := h; exact trips_core _ _ _ (h1.cell 10 _ rfl)
  enter_ := fun t h => enter_any t h
  done_ := fun t rt f pr h hn => done_any t rt f pr h hn
  give_ := fun t h => give_any t h
  look_ := fun t h => look_any t h

theorem api : Api Iv BreR.refR := { api0 with live_ := fun w => BreL.live_of api0 BreR.live_right w }

set_option maxHeartbeats 1000000 in
theorem look_nil (t : Int) (w : World) : Calls Try.prog 22 #[.pointer none, .int .i64 t] w fun e w' => e = .returned (.tuple #[.bool false, .int .i64 1]) ∧ Below w.heap.size w w' := by
  go_enter Try.func22, Try.ntmps22
  go_wp2_with fail
  refine (refuses_nil t _ _).mono ?_
  rintro e w2 ⟨rfl, rfl⟩
  go_wp2_with fail
  go_ret2
  exact ⟨rfl, Below.refl _ _⟩

set_option maxHeartbeats 1000000 in
theorem enter_nil (t : Int) (w : World) : Calls Try.prog 17 #[.pointer none, .int .i64 t] w fun e w' => e = .returned (.tuple #[.bool false, .bool false, .int .i64 1]) ∧ Below w.heap.size w w' := by
  go_enter Try.func17, Try.ntmps17
  go_wp2_with fail
  refine (look_nil t _).mono ?_
  rintro e w2 ⟨rfl, hb⟩
  have HB := hid hb
  clear hb
  go_wp2_with fail
  go_ret3
  exact ⟨rfl, HB.out⟩

set_option maxHeartbeats 1000000 in
theorem done_nil (t rt : Int) (f pr : Bool) (w : World) : Calls Try.prog 18 #[.pointer none, .int .i64 t, .int .i64 rt, .bool f, .bool pr] w fun e w' => e = .returned (.int .i64 1) ∧ Below w.heap.size w w' := by
  go_enter Try.func18, Try.ntmps18
  go_wp2_with fail
  refine (refuses_nil t _ _).mono ?_
  rintro e w2 ⟨rfl, rfl⟩
  go_wp2_with fail
  go_ret
  exact ⟨rfl, (Below.refl _ _).alloc (Nat.le_refl _) _⟩

set_option maxHeartbeats 1000000 in
theorem give_nil (t : Int) (w : World) : Calls Try.prog 19 #[.pointer none, .int .i64 t] w fun e w' => e = .returned (.int .i64 1) ∧ Below w.heap.size w w' := by
  go_enter Try.func19, Try.ntmps19
  go_wp2_with fail
  refine (refuses_nil t _ _).mono ?_
  rintro e w2 ⟨rfl, rfl⟩
  go_wp2_with fail
  go_ret
  exact ⟨rfl, Below.refl _ _⟩

set_option maxHeartbeats 1000000 in
theorem state_nil (w : World) : Calls Try.prog 15 #[.pointer none] w fun e w' => e = .returned (.int .u8 0) ∧ Below w.heap.size w w' := by
  go_enter Try.func15, Try.ntmps15
  go_wp2_with fail
  go_ret
  exact ⟨rfl, Below.refl _ _⟩

set_option maxHeartbeats 1000000 in
theorem trips_nil (w : World) : Calls Try.prog 21 #[.pointer none] w fun e w' => e = .returned (.int .i64 0) ∧ Below w.heap.size w w' := by
  go_enter Try.func21, Try.ntmps21
  go_wp2_with fail
  go_ret
  exact ⟨rfl, Below.refl _ _⟩

set_option maxHeartbeats 1000000 in
theorem last_nil (w : World) : Calls Try.prog 24 #[.pointer none] w fun e w' => e = .returned (.int .i64 0) ∧ Below w.heap.size w w' := by
  go_enter Try.func24, Try.ntmps24
  go_wp2_with fail
  go_ret
  exact ⟨rfl, Below.refl _ _⟩

set_option maxHeartbeats 1000000 in
theorem fork_nil (w : World) : Calls Try.prog 25 #[.pointer none] w fun e w' => e = .returned (.pointer none) ∧ Below w.heap.size w w' := by
  go_enter Try.func25, Try.ntmps25
  go_wp2_with fail
  go_ret
  exact ⟨rfl, Below.refl _ _⟩

set_option maxHeartbeats 1000000 in
theorem until_nil (w : World) : Calls Try.prog 16 #[.pointer none] w fun e w' => e = .returned (.tuple #[.int .i64 0, .bool false]) ∧ Below w.heap.size w w' := by
  go_enter Try.func16, Try.ntmps16
  go_wp2_with fail
  go_ret2
  exact ⟨rfl, Below.refl _ _⟩

set_option maxHeartbeats 1000000 in
theorem sum_nil (t : Int) (w : World) : Calls Try.prog 23 #[.pointer none, .int .i64 t] w fun e w' => e = .returned (.tuple #[.agg #[.int .i64 0, .int .i64 0, .int .i64 0, .int .i64 0, .int .i64 0, .int .i64 0], .int .i64 1]) ∧ Below w.heap.size w w' := by
  go_enter Try.func23, Try.ntmps23
  go_wp2_with fail
  refine (refuses_nil t _ _).mono ?_
  rintro e w2 ⟨rfl, rfl⟩
  go_wp2_with fail
  exact bodyPost_ret (v := .tuple #[.agg #[.int .i64 0, .int .i64 0, .int .i64 0, .int .i64 0, .int .i64 0, .int .i64 0], .int .i64 1]) (by simp [results, Try.results23, go_sem]) rfl ⟨rfl, (Below.refl _ _).alloc (Nat.le_refl _) _⟩

set_option maxRecDepth 20000 in
set_option maxHeartbeats 1000000 in
theorem all_nil (t : Int) (w : World) (b : Nat) (h0 : w.cell? ⟨b, 0, none⟩ = some (.pointer none)) (h1 : w.cell? ⟨b, 1, none⟩ = some (.pointer none)) :
    Calls Try.prog 13 #[.int .i64 t, .slice (some ⟨b, 0, none⟩) 2 2] w fun e w' => e = .returned (.tuple #[.int .i64 2, .bool true, .int .i64 0]) ∧ Below w.heap.size w w' := by
  have HC : Hid (∀ k : Nat, k < 2 → w.cell? ⟨b, k, none⟩ = some (.pointer none)) := hid fun k hk => by
    match k, hk with
    | 0, _ => exact h0
    | 1, _ => exact h1
  clear h0 h1
  go_enter Try.func13, Try.ntmps13
  go_wp2
  go_loop [16, 7, 8, 9, 10, 11] (fun i m x y u v => ∃ k : Nat, k ≤ 2 ∧ i = .int .i64 k ∧ m = .int .i64 2) (fun i _ _ _ _ _ => 2 - (intOf i).toNat)
  case atStart => exact ⟨0, Nat.zero_le _, rfl, rfl⟩
  case round =>
    obtain ⟨k, hk, rfl, rfl⟩ := hrel
    by_cases hlt : k < 2
    · have hx := HC.out k hlt
      go_wp2
      go_round
      case rel => exact ⟨k + 1, by omega, by go_num, rfl⟩
      case measure => simp [intOf]; omega
    · go_wp2
      go_ret3
      exact ⟨rfl, Below.refl _ _⟩

theorem nils : BreL.ApiNil where
  look_ := look_nil
  enter_ := enter_nil
  sum_ := sum_nil
  until_ := until_nil
  all_ := all_nil
  done_ := done_nil
  give_ := give_nil
  state_ := state_nil
  trips_ := trips_nil
  last_ := last_nil
  fork_ := fork_nil
  live_ := api.live_

end Go.Proofs.Ytcmklahbophclaa.BreO
