/- A warm-up's rule: its marks and its rate. -/
import Derived.Test.YtamofanfgdjmnaaWrmP
import Derived.Test.YtamofanfgdjmnaaNumC
import Derived.Test.YtamofanfgdjmnaaPlu
import Derived.Deep.RegionHeld3
import Derived.BigQuiet
namespace Go.Proofs.Ytamofanfgdjmnaa.WrmA
set_option linter.unusedVariables false
open Go.ChangeShapes Go.WideShapes Go.ChangeAt Go.RowKit Base WrmP NumM NumC NumA

theorem bl {w w1 w2 : World} (h : Below w.heap.size w w1) (h2 : Below w1.heap.size w1 w2) : Below w.heap.size w w2 := h.trans (h2.mono h.size)
theorem kc {w1 w2 : World} {p o : Nat} {v : Value} (h2 : Below w1.heap.size w1 w2) (h : w1.cell? ⟨p, o, none⟩ = some v) : w2.cell? ⟨p, o, none⟩ = some v :=
  (h2.cell (p := ⟨p, o, none⟩) (World.block_lt_of_cell? _ _ h)).trans h

def inW (n a b : Int) : Bool := decide (a ≤ n) && decide (n ≤ b)

set_option maxHeartbeats 400000 in
theorem within_any (n a b : Int) (w : World) :
    Calls Try.prog 29 #[.int .i64 n, .int .i64 a, .int .i64 b] w fun e w' => e = .returned (.bool (inW n a b)) ∧ w = w' := by
  go_enter Try.func29, Try.ntmps29
  unfold inW
  by_cases h : a ≤ n
  · have h1 : decide (a ≤ n) = true := by simpa using h
    rw [h1]
    go_wp2
    go_ret
    exact ⟨rfl, rfl⟩
  · have h1 : decide (a ≤ n) = false := by simpa using h
    rw [h1]
    go_wp2
    go_ret
    exact ⟨rfl, rfl⟩

set_option maxHeartbeats 400000 in
theorem third_core (c q : Int) (h0 : 0 ≤ c) (e1 : c / 3 = q) (e2 : Int.tdiv c 3 = q) (e3 : wrap64 q = q) (w : World) :
    Calls Try.prog 35 #[.int .i64 c] w fun e w' => e = .returned (.int .i64 q) ∧ w = w' := by
  go_enter Try.func35, Try.ntmps35
  go_wp2
  go_ret
  exact ⟨congrArg (fun z => Ending.returned (.int .i64 z)) e3, rfl⟩

theorem third_any (c : Nat) (hc : c ≤ 9223372036854775807) (w : World) :
    Calls Try.prog 35 #[.int .i64 c] w fun e w' => e = .returned (.int .i64 ((c / 3 : Nat) : Int)) ∧ w = w' :=
  third_core c _ (by omega) rfl (Int.ofNat_tdiv c 3) (by unfold wrap64; omega) w

set_option maxHeartbeats 400000 in
theorem greatest_core (c s g : Int) (e1 : wrap64 (s * c) = g) (w : World) :
    Calls Try.prog 38 #[.agg #[.int .i64 c, .int .i64 s]] w fun e w' => e = .returned (.int .i64 g) ∧ Below w.heap.size w w' := by
  go_enter Try.func38, Try.ntmps38
  go_wp2
  go_ret
  exact ⟨congrArg (fun z => Ending.returned (.int .i64 z)) e1, (Below.refl w.heap.size w).alloc (Nat.le_refl _) _⟩

theorem greatest_any (c s : Nat) (h : s * c ≤ 4503599627370496) (w : World) :
    Calls Try.prog 38 #[.agg #[.int .i64 c, .int .i64 s]] w fun e w' => e = .returned (.int .i64 ((s * c : Nat) : Int)) ∧ Below w.heap.size w w' :=
  greatest_core c s _ (by rw [← Int.natCast_mul]; generalize s * c = g at *; unfold wrap64; omega) w

set_option maxHeartbeats 1000000 in
theorem warning_any (c s : Nat) (h : s * c ≤ 4503599627370496) (w : World) :
    Calls Try.prog 37 #[.agg #[.int .i64 c, .int .i64 s]] w fun e w' => e = .returned (.int .i64 ((wn (s * c) : Nat) : Int)) ∧ Below w.heap.size w w' := by
  have HG := hid (fun w => greatest_any c s h w)
  generalize s * c = g at *
  have x5 : Int.tdiv (g : Int) 2 = ((g / 2 : Nat) : Int) := Int.ofNat_tdiv g 2
  have x1 : IntKind.i64.wrap ((g / 2 : Nat) : Int) = ((g / 2 : Nat) : Int) := by rw [IntKind.wrap_i64]; omega
  have x6 : IntKind.i64.wrap (Int.tdiv (g : Int) 2) = ((g / 2 : Nat) : Int) := by rw [x5]; exact x1
  have x7 : IntKind.i64.wrap ((g : Int) - IntKind.i64.wrap ((g : Int) / 2)) = ((wn g : Nat) : Int) := by rw [IntKind.wrap_i64, IntKind.wrap_i64]; unfold wn; omega
  go_enter Try.func37, Try.ntmps37
  have kb : Below w.heap.size w (w.alloc (.cells #[.int .i64 c, .int .i64 s] 68)).drew := ((Below.refl w.heap.size w).alloc (Nat.le_refl _) _).drew
  go_wp2_with fail
  go_region_held3 (fun w' => w'.cell? ⟨w.heap.size, 0, none⟩ = some (.int .i64 c) ∧ w'.cell? ⟨w.heap.size, 1, none⟩ = some (.int .i64 s)) (first | assumption | go_keep)
    (first | (go_at_call 38; refine (HG.out _).mono ?_; rintro e w3 ⟨rfl, hb3⟩
              have k0 : w3.cell? ⟨w.heap.size, 0, none⟩ = some (.int .i64 c) := kc hb3 (by first | assumption | go_cell)
              have k1 : w3.cell? ⟨w.heap.size, 1, none⟩ = some (.int .i64 s) := kc hb3 (by first | assumption | go_cell)
              have kb : Below w.heap.size w w3 := bl (by assumption) hb3))
  all_goals
    go_wp2_with fail
    go_ret
    exact ⟨rfl, by assumption⟩

end Go.Proofs.Ytamofanfgdjmnaa.WrmA
