/- Contracts of HandInts, KeptInts and SameInts: numbers handed in with marked room behind them. -/
import Derived.Test.YthkpfjjcpifkcaaWldG
import Derived.OwnWalk
namespace Go.Proofs.Ythkpfjjcpifkcaa.Mem
open Go.ChangeShapes Go.WideShapes Go.ChangeAt Go.RowKit Base WldF WldG

/-- numbers, and the marks behind them -/
def markF (n : Nat) (f : Nat → Int) : Nat → Int := fun j => if j < n then f j else -700 - (j : Int) + n
/-- made places, the first k of them filled -/
def fillF (k : Nat) (g : Nat → Int) : Nat → Int := fun j => if j < k then g j else 0

theorem fillF_set (k : Nat) (g : Nat → Int) : (fun j => if j = k then g k else fillF k g j) = fillF (k + 1) g := by
  funext j
  unfold fillF
  by_cases h : j = k
  · subst h; simp
  · by_cases h2 : j < k
    · simp [h, h2, Nat.lt_succ_of_lt h2]
    · simp [h, h2]; omega

/-- a list of ints that lies somewhere -/
def IntsAt (w : World) (a : Option Addr) (n : Nat) (f : Nat → Int) : Prop := 0 < n → ∃ g o, a = some ⟨g, o, none⟩ ∧ g < w.heap.size ∧ ∀ i, i < n → w.cell? ⟨g, o + i, none⟩ = some (.int .i64 (f i))

theorem IntsAt.congr {w : World} {a : Option Addr} {n : Nat} {f f' : Nat → Int} (h : IntsAt w a n f) (e : ∀ i, i < n → f i = f' i) : IntsAt w a n f' := fun h0 => by
  obtain ⟨g, o, ha, hg, hc⟩ := h h0
  exact ⟨g, o, ha, hg, fun i hi => by rw [← e i hi]; exact hc i hi⟩

theorem IntsAt.below {w w' : World} {a : Option Addr} {n : Nat} {f : Nat → Int} (h : IntsAt w a n f) (hb : Below w.heap.size w w') : IntsAt w' a n f := fun h0 => by
  obtain ⟨g, o, ha, hg, hc⟩ := h h0
  exact ⟨g, o, ha, Nat.lt_of_lt_of_le hg hb.size, fun i hi => (hb.cell (p := ⟨g, o + i, none⟩) hg).trans (hc i hi)⟩

set_option maxRecDepth 20000 in
set_option maxHeartbeats 400000 in
theorem same_core (g q g' q' n cap cap' : Nat) (f : Nat → Int) (w : World) (hn : n ≤ 9223372036854775807)
    (H : Hid (∀ j, j < n → w.cell? ⟨g, q + j, none⟩ = some (.int .i64 (f j)))) (H' : Hid (∀ j, j < n → w.cell? ⟨g', q' + j, none⟩ = some (.int .i64 (f j)))) :
    Calls Try.prog 10 #[.slice (some ⟨g, q, none⟩) n cap, .slice (some ⟨g', q', none⟩) n cap'] w fun e w' => e = .returned (.bool true) ∧ ∃ m, w.drewN m = w' := by
  go_enter Try.func10, Try.ntmps10
  go_wp2
  go_loopw [5] (fun i wr => ∃ k m : Nat, k ≤ n ∧ i = .int .i64 k ∧ w.drewN m = wr) (fun i _ => n - (intOf i).toNat)
  case atStart => exact ⟨0, 0, Nat.zero_le _, rfl, rfl⟩
  case round =>
    obtain ⟨k, m, hk, rfl, hwr⟩ := hrel
    by_cases hlt : k < n
    · have h1 : wr.cell? ⟨g, q + k, none⟩ = some (.int .i64 (f k)) := by rw [← hwr]; exact H.out k hlt
      have h2 : wr.cell? ⟨g', q' + k, none⟩ = some (.int .i64 (f k)) := by rw [← hwr]; exact H'.out k hlt
      have HW := hid hwr
      clear hwr
      generalize f k = x at *
      go_wp2_with fail
      go_quiet (fail)
      go_wp2
      go_roundw
      case rel => exact ⟨k + 1, m + _, by omega, by go_num, by rw [← HW.out, World.drewN_drewN]⟩
      case measure => simp [intOf]; omega
    · go_wp2
      go_ret
      exact ⟨rfl, m, hwr⟩

set_option maxHeartbeats 400000 in
theorem same_none (a a' : Option Addr) (cap cap' : Nat) (w : World) :
    Calls Try.prog 10 #[.slice a 0 cap, .slice a' 0 cap'] w fun e w' => e = .returned (.bool true) ∧ ∃ m, w.drewN m = w' := by
  go_enter Try.func10, Try.ntmps10
  go_wp2
  go_loop [5] (fun i => i = .int .i64 0) (fun i => 0)
  case atStart => rfl
  case round =>
    obtain rfl := hrel
    go_wp2
    go_ret
    exact ⟨rfl, 0, rfl⟩

theorem same_any (a a' : Option Addr) (n cap cap' : Nat) (f : Nat → Int) (w : World) (hn : n ≤ 9223372036854775807) (h : IntsAt w a n f) (h' : IntsAt w a' n f) :
    Calls Try.prog 10 #[.slice a n cap, .slice a' n cap'] w fun e w' => e = .returned (.bool true) ∧ ∃ m, w.drewN m = w' := by
  by_cases h0 : n = 0
  · subst h0; exact same_none a a' cap cap' w
  · obtain ⟨g, o, rfl, _, hr⟩ := h (by omega)
    obtain ⟨g', o', rfl, _, hr'⟩ := h' (by omega)
    exact same_core g o g' o' n cap cap' f w hn (hid hr) (hid hr')

theorem Row.intsAt {w : World} {g n : Nat} {f : Nat → Int} (h : Row w g n f) (hg : g < w.heap.size) (m : Nat) (hm : m ≤ n) : IntsAt w (some ⟨g, 0, none⟩) m f := fun _ => ⟨g, 0, rfl, hg, fun i hi => by rw [Nat.zero_add]; exact (h i (by omega)).1⟩

end Go.Proofs.Ythkpfjjcpifkcaa.Mem
