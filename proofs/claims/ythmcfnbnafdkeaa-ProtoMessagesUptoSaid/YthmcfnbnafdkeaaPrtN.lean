/- The document's names. -/
import Derived.Test.YthmcfnbnafdkeaaRulA
import Derived.Deep.QuietTactic
import Derived.BigQuiet
namespace Go.Proofs.Ythmcfnbnafdkeaa.PrtN
open Go.ChangeShapes Go.WideShapes Go.ChangeAt Go.RowKit Base RulA
set_option linter.unusedVariables false

set_option maxRecDepth 20000 in
set_option maxHeartbeats 1000000 in
theorem rname_any (s : ByteArray) (w : World) (hs : s.size ≤ maxLen) :
    Calls Try.prog 64 #[.string s] w fun e w' => e = .returned (.bool (nameB s)) ∧ w = w' := by
  unfold maxLen at hs
  by_cases h1 : s.size < 1
  · have e : nameB s = false := name_not.2 (fun h => by omega)
    rw [e]; clear e
    go_enter Try.func64, Try.ntmps64
    go_wp2_with fail
    go_ret
    exact ⟨rfl, rfl⟩
  · by_cases h2 : 64 < s.size
    · have e : nameB s = false := name_not.2 (fun h => by omega)
      rw [e]; clear e
      have h1' : decide (s.size < 1) = false := by simpa using h1
      have h2' : decide (64 < s.size) = true := by simpa using h2
      clear h1
      go_enter Try.func64, Try.ntmps64
      go_wp2_with fail
      go_ret
      exact ⟨rfl, rfl⟩
    · have HR : Hid (1 ≤ s.size ∧ s.size ≤ 64) := hid ⟨by omega, by omega⟩
      have h1' : ¬ ((s.size : Int) < 1) := by omega
      have h2' : ¬ (64 < (s.size : Int)) := by omega
      clear h1 h2
      go_enter Try.func64, Try.ntmps64
      go_wp2_with fail
      clear h1' h2'
      go_loop [3] (fun i => ∃ k : Nat, k ≤ s.size ∧ i = .int .i64 k ∧ ∀ j, (h : j < s.size) → j < k → okB s[j] = true) (fun i => s.size - (intOf i).toNat)
      case atStart => exact ⟨0, Nat.zero_le _, rfl, fun j _ h => by omega⟩
      case round =>
        obtain ⟨k, hk, rfl, hok⟩ := hrel
        have HOK := hid hok
        clear hok
        by_cases hlt : k < s.size
        · cases hb : okB s[k] with
          | true =>
            have hb2 : 33 ≤ s[k].toNat ∧ s[k].toNat ≤ 126 := by unfold okB at hb; simpa using hb
            obtain ⟨hb3, hb4⟩ := hb2
            have HX := hid hb
            clear hb
            go_wp2
            go_round
            case rel => exact ⟨k + 1, by omega, by go_num, fun j h1 h2 => (by
              by_cases e : j = k
              · subst e; exact HX.out
              · exact HOK.out j h1 (by omega))⟩
            case measure => simp [intOf]; omega
          | false =>
            have e : nameB s = false := name_not.2 (fun h => by have := h.2.2 k hlt; rw [hb] at this; cases this)
            have hb2 : s[k].toNat < 33 ∨ 126 < s[k].toNat := by unfold okB at hb; simp at hb; omega
            have E := hid e
            clear e hb
            rcases hb2 with h | h
            · go_wp2
              go_ret
              exact ⟨ret_bool E.out.symm, rfl⟩
            · have h' : ¬ s[k].toNat < 33 := by omega
              go_wp2
              go_ret
              exact ⟨ret_bool E.out.symm, rfl⟩
        · have e : nameB s = true := name_iff.2 ⟨HR.out.1, HR.out.2, fun j h => HOK.out j h (by omega)⟩
          have E := hid e
          clear e
          obtain rfl : k = s.size := by omega
          go_wp2
          go_ret
          exact ⟨ret_bool E.out.symm, rfl⟩


end Go.Proofs.Ythmcfnbnafdkeaa.PrtN
