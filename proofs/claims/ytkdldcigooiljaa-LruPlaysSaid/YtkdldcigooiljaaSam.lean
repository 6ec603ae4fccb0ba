/- Two rows of texts are the same. -/
import Derived.Test.YtkdldcigooiljaaLruE
import Derived.Test.YtkdldcigooiljaaStr
namespace Go.Proofs.Ytkdldcigooiljaa.Sam
open Go.ChangeShapes Go.WideShapes Go.ChangeAt Go.RowKit Base Str
open LruE (Strs)

set_option maxRecDepth 20000 in
set_option maxHeartbeats 1000000 in
theorem same_core (g q g' q' n cap cap' : Nat) (f : Nat → ByteArray) (w : World) (hn : n ≤ 9223372036854775807)
    (H : Hid (∀ j, j < n → w.cell? ⟨g, q + j, none⟩ = some (.string (f j)))) (H' : Hid (∀ j, j < n → w.cell? ⟨g', q' + j, none⟩ = some (.string (f j)))) :
    Calls Try.prog 24 #[.slice (some ⟨g, q, none⟩) n cap, .slice (some ⟨g', q', none⟩) n cap'] w fun e w' => e = .returned (.bool true) ∧ ∃ m, w.drewN m = w' := by
  go_enter Try.func24, Try.ntmps24
  go_wp2
  go_loopw [5] (fun i wr => ∃ k m : Nat, k ≤ n ∧ i = .int .i64 k ∧ w.drewN m = wr) (fun i _ => n - (intOf i).toNat)
  case atStart => exact ⟨0, 0, Nat.zero_le _, rfl, rfl⟩
  case round =>
    obtain ⟨k, m, hk, rfl, hwr⟩ := hrel
    by_cases hlt : k < n
    · have h1 : wr.cell? ⟨g, q + k, none⟩ = some (.string (f k)) := by rw [← hwr]; exact H.out k hlt
      have h2 : wr.cell? ⟨g', q' + k, none⟩ = some (.string (f k)) := by rw [← hwr]; exact H'.out k hlt
      have HW := hid hwr
      clear hwr
      generalize f k = x at *
      have hb : (x.toList == x.toList) = true := by rw [text_eq]; simp
      go_wp2_with fail
      go_quiet (fail)
      go_wp2
      go_roundw
      case rel => exact ⟨k + 1, m + _, by omega, by go_num, by rw [← HW.out, World.drewN_drewN]⟩
      case measure => simp [intOf]; omega
    · go_wp2
      go_ret
      exact ⟨rfl, m, hwr⟩

set_option maxHeartbeats 400000 in
theorem same_none (a a' : Option Addr) (cap cap' : Nat) (w : World) :
    Calls Try.prog 24 #[.slice a 0 cap, .slice a' 0 cap'] w fun e w' => e = .returned (.bool true) ∧ ∃ m, w.drewN m = w' := by
  go_enter Try.func24, Try.ntmps24
  go_wp2
  go_loop [5] (fun i => i = .int .i64 0) (fun i => 0)
  case atStart => rfl
  case round =>
    obtain rfl := hrel
    go_wp2
    go_ret
    exact ⟨rfl, 0, rfl⟩

theorem same_any (a a' : Option Addr) (n cap cap' : Nat) (f : Nat → ByteArray) (w : World) (hn : n ≤ 9223372036854775807) (h : Strs w a n f) (h' : Strs w a' n f) :
    Calls Try.prog 24 #[.slice a n cap, .slice a' n cap'] w fun e w' => e = .returned (.bool true) ∧ ∃ m, w.drewN m = w' := by
  by_cases h0 : n = 0
  · subst h0; exact same_none a a' cap cap' w
  · obtain ⟨g, o, rfl, _, hr⟩ := h (by omega)
    obtain ⟨g', o', rfl, _, hr'⟩ := h' (by omega)
    exact same_core g o g' o' n cap cap' f w hn (hid hr) (hid hr')

end Go.Proofs.Ytkdldcigooiljaa.Sam
