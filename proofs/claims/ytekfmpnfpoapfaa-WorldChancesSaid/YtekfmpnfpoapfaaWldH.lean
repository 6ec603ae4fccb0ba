/- Contracts of Below, of the program's chance and of the document's. -/
import Derived.Test.YtekfmpnfpoapfaaWldG
namespace Go.Proofs.Ytekfmpnfpoapfaa.WldH
open Go.ChangeShapes Go.WideShapes Go.ChangeAt Go.RowKit Base ClkM Clk WldA WldF WldG

set_option maxHeartbeats 400000 in
theorem mixRef_look (x : Nat) (hx : x < 18446744073709551616) (w : World) :
    Calls Try.prog 26 #[.int .u64 x] w fun e w' => e = .returned (.int .u64 (mixN x)) ∧ w = w' := by
  have e := mix_eq x hx
  clear hx
  go_enter Try.func26, Try.ntmps26
  go_wp2
  go_ret
  exact ⟨rfl, rfl⟩

set_option maxHeartbeats 400000 in
theorem nextRef_any (b : Nat) (x : Nat) (w : World) (h : w.cell? ⟨b, 0, none⟩ = some (.int .u64 x)) (hf : w.frozen? ⟨b, 0, none⟩ = false) :
    Calls Try.prog 33 #[.pointer (some ⟨b, 0, none⟩)] w fun e w' => e = .returned (.int .u64 (mixN (stepN x))) ∧ w.setCell ⟨b, 0, none⟩ (.int .u64 (stepN x)) = w' := by
  have e := step_eq x
  go_enter Try.func33, Try.ntmps33
  go_wp2_with fail
  refine (mixRef_look (stepN x) (stepN_lt x) _).mono ?_
  rintro e w1 ⟨rfl, rfl⟩
  go_wp2
  go_ret
  exact ⟨rfl, rfl⟩

set_option maxHeartbeats 400000 in
theorem newChanceRef_any (x : Nat) (w : World) :
    Calls Try.prog 24 #[.int .u64 x] w fun e w' => e = .returned (.pointer (some ⟨w.heap.size, 0, none⟩)) ∧ w.alloc (.cells #[.int .u64 x] 126) = w' := by
  go_enter Try.func24, Try.ntmps24
  go_wp2
  go_ret
  exact ⟨rfl, rfl⟩

/-- what Below of n comes to, of a chance in block b that stands at x -/
def BelowPost (b x : Nat) (n : Int) (w : World) (e : Ending) (w' : World) : Prop :=
  (n < 1 ∧ e = .returned (.tuple #[.int .i64 0, .int .i64 2]) ∧ w = w') ∨
  (1 ≤ n ∧ e = .returned (.tuple #[.int .i64 ((mixN (stepN x) % n.toNat : Nat) : Int), .int .i64 0]) ∧ w.setCell ⟨b, 0, none⟩ (.int .u64 (stepN x)) = w')

theorem narrow_eq (m : Nat) (n : Int) (hn : 1 ≤ n) (hn2 : n ≤ 9223372036854775807) : wrap64 ((m : Int) % n) = ((m % n.toNat : Nat) : Int) := by
  obtain ⟨k, rfl⟩ : ∃ k : Nat, n = k := ⟨n.toNat, by omega⟩
  have h0 : m % k < k := Nat.mod_lt _ (by omega)
  have e : (m : Int) % (k : Int) = ((m % k : Nat) : Int) := rfl
  rw [e, Int.toNat_natCast]
  generalize m % k = r at *
  unfold wrap64
  omega

set_option maxHeartbeats 400000 in
theorem below_no (b : Nat) (n : Int) (w : World) (hn : n < 1) :
    Calls Try.prog 30 #[.pointer (some ⟨b, 0, none⟩), .int .i64 n] w fun e w' => e = .returned (.tuple #[.int .i64 0, .int .i64 2]) ∧ w = w' := by
  go_enter Try.func30, Try.ntmps30
  go_wp2
  go_ret2
  exact ⟨rfl, rfl⟩

set_option maxHeartbeats 400000 in
theorem below_yes (b : Nat) (x : Nat) (n : Int) (w : World) (hn : 1 ≤ n) (hn2 : n ≤ 9223372036854775807) (h : w.cell? ⟨b, 0, none⟩ = some (.int .u64 x)) (hf : w.frozen? ⟨b, 0, none⟩ = false) :
    Calls Try.prog 30 #[.pointer (some ⟨b, 0, none⟩), .int .i64 n] w fun e w' => e = .returned (.tuple #[.int .i64 ((mixN (stepN x) % n.toNat : Nat) : Int), .int .i64 0]) ∧ w.setCell ⟨b, 0, none⟩ (.int .u64 (stepN x)) = w' := by
  have HX := hid (next_any b x w h hf)
  generalize mixN (stepN x) = m at *
  generalize stepN x = s at *
  clear h hf
  have hw := hid (narrow_eq m n hn hn2)
  go_enter Try.func30, Try.ntmps30
  go_wp2_with fail
  refine HX.out.mono ?_
  rintro e w1 ⟨rfl, rfl⟩
  go_wp2
  go_ret2
  exact ⟨by rw [← hw.out]; rfl, rfl⟩

theorem below_any (b : Nat) (x : Nat) (n : Int) (w : World) (hn2 : n ≤ 9223372036854775807) (h : w.cell? ⟨b, 0, none⟩ = some (.int .u64 x)) (hf : w.frozen? ⟨b, 0, none⟩ = false) :
    Calls Try.prog 30 #[.pointer (some ⟨b, 0, none⟩), .int .i64 n] w (BelowPost b x n w) := by
  by_cases hn : n < 1
  · exact (below_no b n w hn).mono fun e w' h => .inl ⟨hn, h.1, h.2⟩
  · exact (below_yes b x n w (by omega) hn2 h hf).mono fun e w' h => .inr ⟨by omega, h.1, h.2⟩

set_option maxHeartbeats 400000 in
theorem belowRef_no (b : Nat) (n : Int) (w : World) (hn : n < 1) :
    Calls Try.prog 31 #[.pointer (some ⟨b, 0, none⟩), .int .i64 n] w fun e w' => e = .returned (.tuple #[.int .i64 0, .int .i64 2]) ∧ w = w' := by
  go_enter Try.func31, Try.ntmps31
  go_wp2
  go_ret2
  exact ⟨rfl, rfl⟩

set_option maxHeartbeats 400000 in
theorem belowRef_yes (b : Nat) (x : Nat) (n : Int) (w : World) (hn : 1 ≤ n) (hn2 : n ≤ 9223372036854775807) (h : w.cell? ⟨b, 0, none⟩ = some (.int .u64 x)) (hf : w.frozen? ⟨b, 0, none⟩ = false) :
    Calls Try.prog 31 #[.pointer (some ⟨b, 0, none⟩), .int .i64 n] w fun e w' => e = .returned (.tuple #[.int .i64 ((mixN (stepN x) % n.toNat : Nat) : Int), .int .i64 0]) ∧ w.setCell ⟨b, 0, none⟩ (.int .u64 (stepN x)) = w' := by
  have HX := hid (nextRef_any b x w h hf)
  generalize mixN (stepN x) = m at *
  generalize stepN x = s at *
  clear h hf
  have hw := hid (narrow_eq m n hn hn2)
  go_enter Try.func31, Try.ntmps31
  go_wp2_with fail
  refine HX.out.mono ?_
  rintro e w1 ⟨rfl, rfl⟩
  go_wp2
  go_ret2
  exact ⟨by rw [← hw.out]; rfl, rfl⟩

theorem belowRef_any (b : Nat) (x : Nat) (n : Int) (w : World) (hn2 : n ≤ 9223372036854775807) (h : w.cell? ⟨b, 0, none⟩ = some (.int .u64 x)) (hf : w.frozen? ⟨b, 0, none⟩ = false) :
    Calls Try.prog 31 #[.pointer (some ⟨b, 0, none⟩), .int .i64 n] w (BelowPost b x n w) := by
  by_cases hn : n < 1
  · exact (belowRef_no b n w hn).mono fun e w' h => .inl ⟨hn, h.1, h.2⟩
  · exact (belowRef_yes b x n w (by omega) hn2 h hf).mono fun e w' h => .inr ⟨by omega, h.1, h.2⟩

end Go.Proofs.Ytekfmpnfpoapfaa.WldH
