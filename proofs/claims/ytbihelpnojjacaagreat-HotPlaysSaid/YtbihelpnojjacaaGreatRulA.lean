/- Names, and numbers within limits. -/
import Derived.Test.YtbihelpnojjacaaGreatBase
import Derived.Deep.QuietTactic
import Derived.BigQuiet
namespace Go.Proofs.YtbihelpnojjacaaGreat.RulA
open Go.ChangeShapes Go.WideShapes Go.ChangeAt Go.RowKit Base

theorem ret_bool {a b : Bool} (h : a = b) : Ending.returned (.bool a) = .returned (.bool b) := by rw [h]
theorem ret_int {k : IntKind} {a b : Int} (h : a = b) : Ending.returned (.int k a) = .returned (.int k b) := by rw [h]

/-- a byte of a name -/
def okB (b : UInt8) : Bool := decide (33 ≤ b.toNat ∧ b.toNat ≤ 126)
def nameB (s : ByteArray) : Bool := decide (1 ≤ s.size ∧ s.size ≤ 64 ∧ ∀ k, (h : k < s.size) → okB s[k] = true)
def inR (n lo hi : Int) : Bool := decide (lo ≤ n ∧ n ≤ hi)

theorem inR_iff {n lo hi : Int} : inR n lo hi = true ↔ lo ≤ n ∧ n ≤ hi := by unfold inR; exact decide_eq_true_iff
theorem inR_not {n lo hi : Int} : inR n lo hi = false ↔ ¬ (lo ≤ n ∧ n ≤ hi) := by unfold inR; exact decide_eq_false_iff_not
theorem name_iff {s : ByteArray} : nameB s = true ↔ 1 ≤ s.size ∧ s.size ≤ 64 ∧ ∀ k, (h : k < s.size) → okB s[k] = true := by unfold nameB; exact decide_eq_true_iff
theorem name_not {s : ByteArray} : nameB s = false ↔ ¬ (1 ≤ s.size ∧ s.size ≤ 64 ∧ ∀ k, (h : k < s.size) → okB s[k] = true) := by unfold nameB; exact decide_eq_false_iff_not

set_option maxHeartbeats 400000 in
theorem within_any (n lo hi : Int) (w : World) :
    Calls Tryz.prog 87 #[.int .i64 n, .int .i64 lo, .int .i64 hi] w fun e w' => e = .returned (.bool (inR n lo hi)) ∧ w = w' := by
  by_cases h1 : lo ≤ n
  · by_cases h2 : n ≤ hi
    · have e : inR n lo hi = true := inR_iff.2 ⟨h1, h2⟩
      rw [e]; clear e
      go_enter Tryz.func87, Tryz.ntmps87
      go_wp2
      go_ret
      exact ⟨rfl, rfl⟩
    · have e : inR n lo hi = false := inR_not.2 (by omega)
      rw [e]; clear e
      have h2' : decide (n ≤ hi) = false := by simpa using h2
      clear h2
      go_enter Tryz.func87, Tryz.ntmps87
      go_wp2
      go_ret
      exact ⟨rfl, rfl⟩
  · have e : inR n lo hi = false := inR_not.2 (by omega)
    rw [e]; clear e
    have h1' : decide (lo ≤ n) = false := by simpa using h1
    clear h1
    go_enter Tryz.func87, Tryz.ntmps87
    go_wp2
    go_ret
    exact ⟨rfl, rfl⟩

/-- withinIf -/
def inIf (b : Bool) (n lo hi : Int) : Bool := if b then inR n lo hi else decide (n = 0)

set_option maxRecDepth 20000 in
set_option maxHeartbeats 1000000 in
theorem IsName_any (s : ByteArray) (w : World) (hs : s.size ≤ maxLen) :
    Calls Tryz.prog 86 #[.string s] w fun e w' => e = .returned (.bool (nameB s)) ∧ w = w' := by
  unfold maxLen at hs
  have HW := hid (within_any s.size 1 64 w)
  cases hr : inR s.size 1 64 with
  | false =>
    have e : nameB s = false := name_not.2 (fun h => inR_not.1 hr ⟨by omega, by omega⟩)
    rw [e]; rw [hr] at HW; clear e hr
    go_enter Tryz.func86, Tryz.ntmps86
    go_wp2_with fail
    refine HW.out.mono ?_
    rintro e w1 ⟨rfl, rfl⟩
    go_wp2_with fail
    go_ret
    exact ⟨rfl, rfl⟩
  | true =>
    rw [hr] at HW
    have HR := hid hr
    clear hr
    go_enter Tryz.func86, Tryz.ntmps86
    go_wp2_with fail
    refine HW.out.mono ?_
    rintro e w1 ⟨rfl, rfl⟩
    clear HW
    go_wp2_with fail
    go_loop [10] (fun i => ∃ k : Nat, k ≤ s.size ∧ i = .int .i64 k ∧ ∀ j, (h : j < s.size) → j < k → okB s[j] = true) (fun i => s.size - (intOf i).toNat)
    case atStart => exact ⟨0, Nat.zero_le _, rfl, fun j _ h => by omega⟩
    case round =>
      obtain ⟨k, hk, rfl, hok⟩ := hrel
      have HOK := hid hok
      clear hok
      by_cases hlt : k < s.size
      · cases hb : okB s[k] with
        | true =>
          have hb2 : 33 ≤ s[k].toNat ∧ s[k].toNat ≤ 126 := by unfold okB at hb; simpa using hb
          obtain ⟨hb3, hb4⟩ := hb2
          have HX := hid hb
          clear hb
          go_wp2
          go_round
          case rel => exact ⟨k + 1, by omega, by go_num, fun j h1 h2 => (by
            by_cases e : j = k
            · subst e; exact HX.out
            · exact HOK.out j h1 (by omega))⟩
          case measure => simp [intOf]; omega
        | false =>
          have e : nameB s = false := name_not.2 (fun h => by have := h.2.2 k hlt; rw [hb] at this; cases this)
          have hb2 : s[k].toNat < 33 ∨ 126 < s[k].toNat := by unfold okB at hb; simp at hb; omega
          have E := hid e
          clear e hb
          rcases hb2 with h | h
          · go_wp2
            go_ret
            exact ⟨ret_bool E.out.symm, rfl⟩
          · have h' : ¬ s[k].toNat < 33 := by omega
            go_wp2
            go_ret
            exact ⟨ret_bool E.out.symm, rfl⟩
      · have e : nameB s = true := name_iff.2 ⟨by have := inR_iff.1 HR.out; omega, by have := inR_iff.1 HR.out; omega, fun j h => HOK.out j h (by omega)⟩
        have E := hid e
        clear e
        obtain rfl : k = s.size := by omega
        go_wp2
        go_ret
        exact ⟨ret_bool E.out.symm, rfl⟩

end Go.Proofs.YtbihelpnojjacaaGreat.RulA
