/- Contracts of Below, of the program's chance and of the document's. -/
import Derived.Test.YthkpfjjcpifkcaaWldG
namespace Go.Proofs.Ythkpfjjcpifkcaa.WldH
open Go.ChangeShapes Go.WideShapes Go.ChangeAt Go.RowKit Base ClkM Clk WldA WldF WldG

/-- what Below of n comes to, of a chance in block b that stands at x -/
def BelowPost (b x : Nat) (n : Int) (w : World) (e : Ending) (w' : World) : Prop :=
  (n < 1 ∧ e = .returned (.tuple #[.int .i64 0, .int .i64 2]) ∧ w = w') ∨
  (1 ≤ n ∧ e = .returned (.tuple #[.int .i64 ((mixN (stepN x) % n.toNat : Nat) : Int), .int .i64 0]) ∧ w.setCell ⟨b, 0, none⟩ (.int .u64 (stepN x)) = w')

theorem narrow_eq (m : Nat) (n : Int) (hn : 1 ≤ n) (hn2 : n ≤ 9223372036854775807) : wrap64 ((m : Int) % n) = ((m % n.toNat : Nat) : Int) := by
  obtain ⟨k, rfl⟩ : ∃ k : Nat, n = k := ⟨n.toNat, by omega⟩
  have h0 : m % k < k := Nat.mod_lt _ (by omega)
  have e : (m : Int) % (k : Int) = ((m % k : Nat) : Int) := rfl
  rw [e, Int.toNat_natCast]
  generalize m % k = r at *
  unfold wrap64
  omega

set_option maxHeartbeats 400000 in
theorem below_no (b : Nat) (n : Int) (w : World) (hn : n < 1) :
    Calls Try.prog 11 #[.pointer (some ⟨b, 0, none⟩), .int .i64 n] w fun e w' => e = .returned (.tuple #[.int .i64 0, .int .i64 2]) ∧ w = w' := by
  go_enter Try.func11, Try.ntmps11
  go_wp2
  go_ret2
  exact ⟨rfl, rfl⟩

set_option maxHeartbeats 400000 in
theorem below_yes (b : Nat) (x : Nat) (n : Int) (w : World) (hn : 1 ≤ n) (hn2 : n ≤ 9223372036854775807) (h : w.cell? ⟨b, 0, none⟩ = some (.int .u64 x)) (hf : w.frozen? ⟨b, 0, none⟩ = false) :
    Calls Try.prog 11 #[.pointer (some ⟨b, 0, none⟩), .int .i64 n] w fun e w' => e = .returned (.tuple #[.int .i64 ((mixN (stepN x) % n.toNat : Nat) : Int), .int .i64 0]) ∧ w.setCell ⟨b, 0, none⟩ (.int .u64 (stepN x)) = w' := by
  have HX := hid (next_any b x w h hf)
  generalize mixN (stepN x) = m at *
  generalize stepN x = s at *
  clear h hf
  have hw := hid (narrow_eq m n hn hn2)
  go_enter Try.func11, Try.ntmps11
  go_wp2_with fail
  refine HX.out.mono ?_
  rintro e w1 ⟨rfl, rfl⟩
  go_wp2
  go_ret2
  exact ⟨by rw [← hw.out]; rfl, rfl⟩

theorem below_any (b : Nat) (x : Nat) (n : Int) (w : World) (hn2 : n ≤ 9223372036854775807) (h : w.cell? ⟨b, 0, none⟩ = some (.int .u64 x)) (hf : w.frozen? ⟨b, 0, none⟩ = false) :
    Calls Try.prog 11 #[.pointer (some ⟨b, 0, none⟩), .int .i64 n] w (BelowPost b x n w) := by
  by_cases hn : n < 1
  · exact (below_no b n w hn).mono fun e w' h => .inl ⟨hn, h.1, h.2⟩
  · exact (below_yes b x n w (by omega) hn2 h hf).mono fun e w' h => .inr ⟨by omega, h.1, h.2⟩

end Go.Proofs.Ythkpfjjcpifkcaa.WldH
