/- Contracts of SameInts, of Shuffle for every number, and of a chance's Fork. -/
import Derived.Test.YthkpfjjcpifkcaaWldJ
namespace Go.Proofs.Ythkpfjjcpifkcaa.WldK
open Go.ChangeShapes Go.WideShapes Go.ChangeAt Go.RowKit Base ClkM Clk WldA WldF WldG WldH WldI WldJ

set_option maxRecDepth 20000 in
set_option maxHeartbeats 400000 in
theorem sameInts_core (g q g' q' n cap cap' : Nat) (f : Nat → Int) (w : World) (hn : n ≤ 9223372036854775807)
    (H : Hid (∀ j, j < n → w.cell? ⟨g, q + j, none⟩ = some (.int .i64 (f j)))) (H' : Hid (∀ j, j < n → w.cell? ⟨g', q' + j, none⟩ = some (.int .i64 (f j)))) :
    Calls Try.prog 10 #[.slice (some ⟨g, q, none⟩) n cap, .slice (some ⟨g', q', none⟩) n cap'] w fun e w' => e = .returned (.bool true) ∧ ∃ m, w.drewN m = w' := by
  go_enter Try.func10, Try.ntmps10
  go_wp2
  go_loopw [5] (fun i wr => ∃ k m : Nat, k ≤ n ∧ i = .int .i64 k ∧ w.drewN m = wr) (fun i _ => n - (intOf i).toNat)
  case atStart => exact ⟨0, 0, Nat.zero_le _, rfl, rfl⟩
  case round =>
    obtain ⟨k, m, hk, rfl, hwr⟩ := hrel
    by_cases hlt : k < n
    · have h1 : wr.cell? ⟨g, q + k, none⟩ = some (.int .i64 (f k)) := by rw [← hwr]; exact H.out k hlt
      have h2 : wr.cell? ⟨g', q' + k, none⟩ = some (.int .i64 (f k)) := by rw [← hwr]; exact H'.out k hlt
      have HW := hid hwr
      clear hwr
      generalize f k = x at *
      go_wp2_with fail
      go_quiet (fail)
      go_wp2
      go_roundw
      case rel => exact ⟨k + 1, m + _, by omega, by go_num, by rw [← HW.out, World.drewN_drewN]⟩
      case measure => simp [intOf]; omega
    · go_wp2
      go_ret
      exact ⟨rfl, m, hwr⟩

set_option maxHeartbeats 400000 in
theorem sameInts_none (a a' : Option Addr) (cap cap' : Nat) (w : World) :
    Calls Try.prog 10 #[.slice a 0 cap, .slice a' 0 cap'] w fun e w' => e = .returned (.bool true) ∧ ∃ m, w.drewN m = w' := by
  go_enter Try.func10, Try.ntmps10
  go_wp2
  go_loop [5] (fun i => i = .int .i64 0) (fun i => 0)
  case atStart => rfl
  case round =>
    obtain rfl := hrel
    go_wp2
    go_ret
    exact ⟨rfl, 0, rfl⟩

theorem sameInts_rows (a a' : Option Addr) (n cap cap' : Nat) (f : Nat → Int) (w : World) (hn : n ≤ 9223372036854775807)
    (h : 0 < n → ∃ g, a = some ⟨g, 0, none⟩ ∧ Row w g n f) (h' : 0 < n → ∃ g, a' = some ⟨g, 0, none⟩ ∧ Row w g n f) :
    Calls Try.prog 10 #[.slice a n cap, .slice a' n cap'] w fun e w' => e = .returned (.bool true) ∧ ∃ m, w.drewN m = w' := by
  by_cases h0 : n = 0
  · subst h0; exact sameInts_none a a' cap cap' w
  · obtain ⟨g, rfl, hr⟩ := h (by omega)
    obtain ⟨g', rfl, hr'⟩ := h' (by omega)
    exact sameInts_core g 0 g' 0 n cap cap' f w hn (hid fun j hj => by rw [Nat.zero_add]; exact (hr j hj).1) (hid fun j hj => by rw [Nat.zero_add]; exact (hr' j hj).1)

def ShufPost (b x : Nat) (n : Int) (w : World) (e : Ending) (w' : World) : Prop :=
  (¬ (0 ≤ n ∧ n ≤ 4096) ∧ e = .returned (.tuple #[.slice none 0 0, .int .i64 2]) ∧ w = w') ∨ (∃ N : Nat, n = N ∧ N ≤ 4096 ∧ ShufOk b x N w e w')

set_option maxHeartbeats 400000 in
theorem shuffle_no (b : Nat) (n : Int) (w : World) (hn : ¬ (0 ≤ n ∧ n ≤ 4096)) :
    Calls Try.prog 9 #[.pointer (some ⟨b, 0, none⟩), .int .i64 n] w fun e w' => e = .returned (.tuple #[.slice none 0 0, .int .i64 2]) ∧ w = w' := by
  by_cases h0 : n < 0
  · clear hn
    go_enter Try.func9, Try.ntmps9
    go_wp2
    go_ret2
    exact ⟨rfl, rfl⟩
  · have h1 : decide (n < 0) = false := by simpa using h0
    have h2 : 4096 < n := by omega
    clear hn h0
    go_enter Try.func9, Try.ntmps9
    go_wp2
    go_ret2
    exact ⟨rfl, rfl⟩

theorem shuffle_any (b x : Nat) (n : Int) (w : World) (h : w.cell? ⟨b, 0, none⟩ = some (.int .u64 x)) (hf : w.frozen? ⟨b, 0, none⟩ = false) :
    Calls Try.prog 9 #[.pointer (some ⟨b, 0, none⟩), .int .i64 n] w (ShufPost b x n w) := by
  by_cases hn : 0 ≤ n ∧ n ≤ 4096
  · obtain ⟨N, rfl⟩ : ∃ N : Nat, n = N := ⟨n.toNat, by omega⟩
    exact (shuffle_yes b x N w (by omega) h hf).mono fun e w' hp => .inr ⟨N, rfl, by omega, hp⟩
  · exact (shuffle_no b n w hn).mono fun e w' hp => .inl ⟨hn, hp.1, hp.2⟩

end Go.Proofs.Ythkpfjjcpifkcaa.WldK
