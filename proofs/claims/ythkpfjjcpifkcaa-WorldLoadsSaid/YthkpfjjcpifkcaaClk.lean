/- Contracts of a clock: isTime, NewClock, Now, Tick, for every time and ticks. -/
import Derived.Test.YthkpfjjcpifkcaaBase
import Derived.Test.YthkpfjjcpifkcaaClkM
namespace Go.Proofs.Ythkpfjjcpifkcaa.Clk
open Go.ChangeShapes Go.WideShapes Go.ChangeAt Go.RowKit Base ClkM

set_option maxHeartbeats 400000 in
theorem isTime_yes (n : Int) (h : 0 ≤ n) (h2 : n ≤ 1152921504606846976) (w : World) :
    Calls Try.prog 70 #[.int .i64 n] w fun e w' => e = .returned (.bool true) ∧ w = w' := by
  go_enter Try.func70, Try.ntmps70
  go_wp2
  go_ret
  exact ⟨rfl, rfl⟩

set_option maxHeartbeats 400000 in
theorem isTime_no (n : Int) (h : ¬ IsT n) (w : World) :
    Calls Try.prog 70 #[.int .i64 n] w fun e w' => e = .returned (.bool false) ∧ w = w' := by
  by_cases h1 : 0 ≤ n
  · have h2 : decide (n ≤ 1152921504606846976) = false := by unfold IsT at h; simp; omega
    clear h
    go_enter Try.func70, Try.ntmps70
    go_wp2
    go_ret
    exact ⟨rfl, rfl⟩
  · have h0 : decide (0 ≤ n) = false := by simpa using h1
    clear h h1
    go_enter Try.func70, Try.ntmps70
    go_wp2
    go_ret
    exact ⟨rfl, rfl⟩

set_option maxHeartbeats 400000 in
theorem newClock_yes (n : Int) (h : IsT n) (w : World) :
    Calls Try.prog 36 #[.int .i64 n] w fun e w' => e = .returned (.tuple #[.pointer (some ⟨w.heap.size, 0, none⟩), .int .i64 0]) ∧ w.alloc (.cells #[.int .i64 n] 141) = w' := by
  have H : Hid (IsT n) := hid h
  clear h
  go_enter Try.func36, Try.ntmps36
  go_wp2_with (go_at_call 70; refine (isTime_yes n H.out.1 H.out.2 _).mono ?_; rintro e w1 ⟨rfl, rfl⟩)
  go_ret2
  exact ⟨rfl, rfl⟩

set_option maxHeartbeats 400000 in
theorem newClock_no (n : Int) (h : ¬ IsT n) (w : World) :
    Calls Try.prog 36 #[.int .i64 n] w fun e w' => e = .returned (.tuple #[.pointer none, .int .i64 2]) ∧ w = w' := by
  have H : Hid (¬ IsT n) := hid h
  clear h
  go_enter Try.func36, Try.ntmps36
  go_wp2_with (go_at_call 70; refine (isTime_no n H.out _).mono ?_; rintro e w1 ⟨rfl, rfl⟩)
  go_ret2
  exact ⟨rfl, rfl⟩

/-- what a Tick of a clock in block b comes to -/
def TickPost (b : Nat) (r : Option Int) (w : World) (e : Ending) (w' : World) : Prop :=
  match r with
  | some t => e = .returned (.tuple #[.int .i64 t, .int .i64 0]) ∧ w.setCell ⟨b, 0, none⟩ (.int .i64 t) = w'
  | none => e = .returned (.tuple #[.int .i64 0, .int .i64 2]) ∧ w = w'

theorem TickPost.some' {b : Nat} {r : Option Int} {w : World} {e : Ending} {w' : World} {t : Int} (hr : r = some t) (h : e = .returned (.tuple #[.int .i64 t, .int .i64 0]) ∧ w.setCell ⟨b, 0, none⟩ (.int .i64 t) = w') : TickPost b r w e w' := by subst hr; exact h
theorem TickPost.none' {b : Nat} {r : Option Int} {w : World} {e : Ending} {w' : World} (hr : r = none) (h : e = .returned (.tuple #[.int .i64 0, .int .i64 2]) ∧ w = w') : TickPost b r w e w' := by subst hr; exact h

set_option maxHeartbeats 400000 in
theorem tick_core (b : Nat) (s : Int) (p q len cap : Nat) (xs : List Int) (w : World) (h : w.cell? ⟨b, 0, none⟩ = some (.int .i64 s)) (hf : w.frozen? ⟨b, 0, none⟩ = false)
    (hlen : len ≤ 9223372036854775807) (HL : Hid (xs.length = len)) (HC : Hid (∀ i, i < len → w.cell? ⟨p, q + i, none⟩ = some (.int .i64 (xs.getD i 0)))) (HS : Hid (IsT s)) :
    Calls Try.prog 37 #[.pointer (some ⟨b, 0, none⟩), .slice (some ⟨p, q, none⟩) len cap] w (TickPost b (tickF s xs) w) := by
  go_enter Try.func37, Try.ntmps37
  go_wp2
  go_loop [6, 17] (fun t i => ∃ (k : Nat) (n : Int), k ≤ len ∧ i = .int .i64 k ∧ t = .int .i64 n ∧ tickF s (xs.take k) = some n) (fun _ i => len - (intOf i).toNat)
  case atStart => exact ⟨0, s, Nat.zero_le _, rfl, rfl, rfl⟩
  case round =>
    obtain ⟨k, n, hk, rfl, rfl, hn⟩ := hrel
    have HN : Hid (tickF s (xs.take k) = some n) := hid hn
    have hT := (tickF_some HS.out hn).1
    have hT1 := hT.1
    have hT2 := hT.2
    clear hn hT
    by_cases hlt : k < len
    · have hx := HC.out k hlt
      have HX : Hid (xs.take (k + 1) = xs.take k ++ [xs.getD k 0]) := hid (by have hkl : k < xs.length := (by rw [HL.out]; exact hlt); rw [take_snoc xs k hkl]; simp [List.getD, hkl])
      generalize xs.getD k 0 = x at *
      have HX2 : Hid (tickF s (xs.take (k + 1)) = if 0 ≤ x ∧ n + x ≤ 1152921504606846976 then some (n + x) else none) := hid (by rw [HX.out, tickF_snoc, HN.out]; rfl)
      by_cases hg0 : 0 ≤ x
      · by_cases hg : n + x ≤ 1152921504606846976
        · go_wp2
          go_round
          case rel => exact ⟨k + 1, n + x, by omega, by go_num, rfl, by rw [HX2.out, if_pos ⟨hg0, hg⟩]⟩
          case measure => simp [intOf]; omega
        · have HE : Hid (tickF s xs = none) := hid (tickF_take_none (k + 1) (by rw [HX2.out, if_neg (by omega)]))
          go_wp2
          go_ret2
          exact TickPost.none' HE.out ⟨rfl, rfl⟩
      · have HE : Hid (tickF s xs = none) := hid (tickF_take_none (k + 1) (by rw [HX2.out, if_neg (by omega)]))
        go_wp2
        go_ret2
        exact TickPost.none' HE.out ⟨rfl, rfl⟩
    · have HE : Hid (tickF s xs = some n) := hid (by have := HN.out; rwa [List.take_of_length_le (by rw [HL.out]; omega)] at this)
      go_wp2
      go_ret2
      exact TickPost.some' HE.out ⟨rfl, rfl⟩

set_option maxHeartbeats 400000 in
theorem tick_nil (b : Nat) (s : Int) (w : World) (h : w.cell? ⟨b, 0, none⟩ = some (.int .i64 s)) (hf : w.frozen? ⟨b, 0, none⟩ = false) :
    Calls Try.prog 37 #[.pointer (some ⟨b, 0, none⟩), .slice none 0 0] w (TickPost b (some s) w) := by
  go_enter Try.func37, Try.ntmps37
  go_wp2
  go_loop [6, 17] (fun t i => i = .int .i64 0 ∧ t = .int .i64 s) (fun _ i => 0)
  case atStart => exact ⟨rfl, rfl⟩
  case round =>
    obtain ⟨rfl, rfl⟩ := hrel
    go_wp2
    go_ret2
    exact TickPost.some' rfl ⟨rfl, rfl⟩

end Go.Proofs.Ythkpfjjcpifkcaa.Clk
