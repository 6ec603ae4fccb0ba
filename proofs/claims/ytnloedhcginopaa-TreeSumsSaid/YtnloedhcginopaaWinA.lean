/- Contracts of counts: plus, least, wrong, together. -/
import Derived.Test.YtnloedhcginopaaBase
import Derived.Test.YtnloedhcginopaaWinM
import Derived.Deep.QuietTactic
import Derived.BigQuiet
import Derived.Deep.RegionHeld3
namespace Go.Proofs.Ytnloedhcginopaa.WinA
open Go.ChangeShapes Go.WideShapes Go.ChangeAt Go.RowKit Base WinM

set_option maxHeartbeats 400000 in
theorem plus_any (a b : Int) (ha : InN a) (hb : InN b) (w : World) :
    Calls Try.prog 89 #[.int .i64 a, .int .i64 b] w fun e w' => e = .returned (.int .i64 (plusM a b)) ∧ w = w' := by
  have a1 := ha.1
  have a2 := ha.2
  have b1 := hb.1
  have b2 := hb.2
  clear ha hb
  by_cases h : 4611686018427387904 < a + b
  · have e : plusM a b = 4611686018427387904 := by unfold plusM; rw [if_pos h]
    rw [e]
    have h2 : 4611686018427387904 - b < a := by omega
    clear e h
    go_enter Try.func89, Try.ntmps89
    go_wp2
    go_ret
    exact ⟨rfl, rfl⟩
  · have e : plusM a b = a + b := by unfold plusM; rw [if_neg h]
    rw [e]
    have h2 : decide (4611686018427387904 - b < a) = false := by simp; omega
    have h3 : a + b ≤ 4611686018427387904 := by omega
    clear e h
    go_enter Try.func89, Try.ntmps89
    go_wp2
    go_ret
    exact ⟨rfl, rfl⟩

/-- the value of counts -/
def cv (c : Cnt) : Value := .agg #[.int .i64 c.pass, .int .i64 c.block, .int .i64 c.done, .int .i64 c.errs, .int .i64 c.rt, .int .i64 c.low]
def cs (c : Cnt) : Array Value := #[.int .i64 c.pass, .int .i64 c.block, .int .i64 c.done, .int .i64 c.errs, .int .i64 c.rt, .int .i64 c.low]

set_option maxHeartbeats 400000 in
theorem least_any (a1 a2 a3 a4 a5 a6 b1 b2 b3 b4 b5 b6 : Int) (w : World) :
    Calls Try.prog 90 #[.agg #[.int .i64 a1, .int .i64 a2, .int .i64 a3, .int .i64 a4, .int .i64 a5, .int .i64 a6], .agg #[.int .i64 b1, .int .i64 b2, .int .i64 b3, .int .i64 b4, .int .i64 b5, .int .i64 b6]] w fun e w' => e = .returned (.int .i64 (leastM ⟨a1, a2, a3, a4, a5, a6⟩ ⟨b1, b2, b3, b4, b5, b6⟩)) ∧ (w.alloc (.cells (cs ⟨a1, a2, a3, a4, a5, a6⟩) 32)).alloc (.cells (cs ⟨b1, b2, b3, b4, b5, b6⟩) 32) = w' := by
  by_cases h : a3 = 0
  · subst h
    have e : leastM ⟨a1, a2, 0, a4, a5, a6⟩ ⟨b1, b2, b3, b4, b5, b6⟩ = b6 := by unfold leastM; rw [if_pos rfl]
    rw [e]
    clear e
    go_enter Try.func90, Try.ntmps90
    go_wp2
    go_ret
    exact ⟨rfl, rfl⟩
  · by_cases h2 : b3 = 0
    · subst h2
      have e : leastM ⟨a1, a2, a3, a4, a5, a6⟩ ⟨b1, b2, 0, b4, b5, b6⟩ = a6 := by unfold leastM; rw [if_neg h, if_pos rfl]
      rw [e]
      clear e
      go_enter Try.func90, Try.ntmps90
      go_wp2
      go_ret
      exact ⟨rfl, rfl⟩
    · by_cases hm : b6 < a6
      · have e : leastM ⟨a1, a2, a3, a4, a5, a6⟩ ⟨b1, b2, b3, b4, b5, b6⟩ = b6 := by unfold leastM; rw [if_neg h, if_neg h2]; dsimp only; omega
        rw [e]
        clear e
        go_enter Try.func90, Try.ntmps90
        go_wp2
        go_ret
        exact ⟨rfl, rfl⟩
      · have e : leastM ⟨a1, a2, a3, a4, a5, a6⟩ ⟨b1, b2, b3, b4, b5, b6⟩ = a6 := by unfold leastM; rw [if_neg h, if_neg h2]; dsimp only; omega
        rw [e]
        clear e
        by_cases hm2 : a6 = b6
        · subst hm2
          clear hm
          go_enter Try.func90, Try.ntmps90
          go_wp2
          go_ret
          exact ⟨rfl, rfl⟩
        · have hm3 : a6 < b6 := by omega
          clear hm hm2
          go_enter Try.func90, Try.ntmps90
          go_wp2
          go_ret
          exact ⟨rfl, rfl⟩

set_option maxRecDepth 20000 in
set_option maxHeartbeats 1000000 in
theorem wrong_no (a1 a2 a3 a4 a5 a6 : Int) (h : (Cnt.mk a1 a2 a3 a4 a5 a6).Right) (w : World) :
    Calls Try.prog 72 #[.agg #[.int .i64 a1, .int .i64 a2, .int .i64 a3, .int .i64 a4, .int .i64 a5, .int .i64 a6]] w fun e w' => e = .returned (.bool false) ∧ w.alloc (.cells (cs ⟨a1, a2, a3, a4, a5, a6⟩) 32) = w' := by
  obtain ⟨⟨h1, h2, h3, h4, h5, h6⟩, k1, k2, k3⟩ := h
  dsimp only at *
  unfold InN at *
  obtain ⟨l1, u1⟩ := h1
  obtain ⟨l2, u2⟩ := h2
  obtain ⟨l3, u3⟩ := h3
  obtain ⟨l4, u4⟩ := h4
  obtain ⟨l5, u5⟩ := h5
  obtain ⟨l6, u6⟩ := h6
  have n1 : decide (a3 < a4) = false := by simp; omega
  have n2 : decide (a5 < a6) = false := by simp; omega
  have n3 : a3 = 0 → a5 = 0 := fun h => by by_cases h5 : a5 = 0; exact h5; exact absurd ⟨h, h5⟩ k3
  have N3 := hid n3
  clear k1 k2 k3 n3
  have i0 : ∀ w, (Instr.index 129 (.agg #[.int .i64 a1, .int .i64 a2, .int .i64 a3, .int .i64 a4, .int .i64 a5, .int .i64 a6]) (.int .i64 0)).run Try.prog w = .ok (.int .i64 a1) w := fun _ => by kernel_rfl
  have i1 : ∀ w, (Instr.index 129 (.agg #[.int .i64 a1, .int .i64 a2, .int .i64 a3, .int .i64 a4, .int .i64 a5, .int .i64 a6]) (.int .i64 1)).run Try.prog w = .ok (.int .i64 a2) w := fun _ => by kernel_rfl
  have i2 : ∀ w, (Instr.index 129 (.agg #[.int .i64 a1, .int .i64 a2, .int .i64 a3, .int .i64 a4, .int .i64 a5, .int .i64 a6]) (.int .i64 2)).run Try.prog w = .ok (.int .i64 a3) w := fun _ => by kernel_rfl
  have i3 : ∀ w, (Instr.index 129 (.agg #[.int .i64 a1, .int .i64 a2, .int .i64 a3, .int .i64 a4, .int .i64 a5, .int .i64 a6]) (.int .i64 3)).run Try.prog w = .ok (.int .i64 a4) w := fun _ => by kernel_rfl
  have i4 : ∀ w, (Instr.index 129 (.agg #[.int .i64 a1, .int .i64 a2, .int .i64 a3, .int .i64 a4, .int .i64 a5, .int .i64 a6]) (.int .i64 4)).run Try.prog w = .ok (.int .i64 a5) w := fun _ => by kernel_rfl
  have i5 : ∀ w, (Instr.index 129 (.agg #[.int .i64 a1, .int .i64 a2, .int .i64 a3, .int .i64 a4, .int .i64 a5, .int .i64 a6]) (.int .i64 5)).run Try.prog w = .ok (.int .i64 a6) w := fun _ => by kernel_rfl
  go_enter Try.func72, Try.ntmps72
  go_wp2
  go_loop [18] (fun i => ∃ k : Nat, k ≤ 6 ∧ i = .int .i64 k) (fun i => 6 - (intOf i).toNat)
  case atStart => exact ⟨0, by omega, rfl⟩
  case round =>
    obtain ⟨k, hk, rfl⟩ := hrel
    match k, hk with
    | 0, _ => go_wp2; go_round; case rel => exact ⟨1, by omega, by go_num⟩
              case measure => simp [intOf]
    | 1, _ => go_wp2; go_round; case rel => exact ⟨2, by omega, by go_num⟩
              case measure => simp [intOf]
    | 2, _ => go_wp2; go_round; case rel => exact ⟨3, by omega, by go_num⟩
              case measure => simp [intOf]
    | 3, _ => go_wp2; go_round; case rel => exact ⟨4, by omega, by go_num⟩
              case measure => simp [intOf]
    | 4, _ => go_wp2; go_round; case rel => exact ⟨5, by omega, by go_num⟩
              case measure => simp [intOf]
    | 5, _ => go_wp2; go_round; case rel => exact ⟨6, by omega, by go_num⟩
              case measure => simp [intOf]
    | 6, _ =>
      by_cases h3 : a3 = 0
      · have h5 := N3.out h3
        subst h3 h5
        go_wp2
        go_ret
        exact ⟨rfl, rfl⟩
      · have h3' : decide (a3 = 0) = false := by simpa using h3
        go_wp2
        go_ret
        exact ⟨rfl, rfl⟩

end Go.Proofs.Ytnloedhcginopaa.WinA
