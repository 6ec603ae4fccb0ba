/- Same, and what must be whatever is asked. -/

import Derived.Test.YthmcfnbnafdkeaaFrmX
import Derived.Laws.BytesString
import Derived.Laws.Cells
namespace Go.Proofs.Ythmcfnbnafdkeaa.FrmY
open Go.ChangeShapes Go.WideShapes Go.ChangeAt Go.RowKit Base Wri FrmP FrmA FrmB FrmC FrmD FrmE FrmF FrmQ FrmR FrmS FrmX
set_option linter.unusedVariables false
set_option linter.unusedSimpArgs false

set_option maxRecDepth 20000 in
set_option maxHeartbeats 1000000 in
theorem same_bytes (a a' : Option Addr) (cap cap' : Nat) (s : Bs) (w : World) (hn : s.length ≤ 9223372036854775807) (H : Hid (BAt w w.heap.size a s)) (H' : Hid (BAt w w.heap.size a' s)) :
    Calls Try.prog 32 #[.slice a s.length cap, .slice a' s.length cap'] w fun e w' => e = .returned (.bool true) ∧ ∃ m, w.drewN m = w' := by
  obtain ⟨n, hln⟩ : ∃ n, s.length = n := ⟨_, rfl⟩
  have HL := hid hln
  rw [hln] at hn ⊢
  clear hln
  go_enter Try.func32, Try.ntmps32
  go_wp2
  go_loopw [5] (fun i wr => ∃ k m : Nat, k ≤ n ∧ i = .int .i64 k ∧ w.drewN m = wr) (fun i _ => n - (intOf i).toNat)
  case atStart => exact ⟨0, 0, Nat.zero_le _, rfl, rfl⟩
  case round =>
    obtain ⟨k, m, hk, rfl, hwr⟩ := hrel
    have HW := hid hwr
    by_cases hlt : k < n
    · obtain ⟨g, o, rfl, _, hc⟩ := H.out (by rw [HL.out]; omega)
      obtain ⟨g', o', rfl, _, hc'⟩ := H'.out (by rw [HL.out]; omega)
      obtain ⟨x, hx⟩ : ∃ x, s[k]? = some x := ⟨s[k]'(by rw [HL.out]; exact hlt), List.getElem?_eq_getElem _⟩
      have h1 : wr.cell? ⟨g, o + k, none⟩ = some (.int .u8 (x.toNat : Int)) := by rw [← hwr]; exact hc k x hx
      have h2 : wr.cell? ⟨g', o' + k, none⟩ = some (.int .u8 (x.toNat : Int)) := by rw [← hwr]; exact hc' k x hx
      clear hwr hc hc' hx
      generalize (x.toNat : Int) = y at *
      go_wp2_with fail
      go_quiet (fail)
      go_wp2_with fail
      go_roundw
      case rel => exact ⟨k + 1, m + _, by omega, by go_num, by rw [← HW.out, World.drewN_drewN]⟩
      case measure => simp [intOf]; omega
    · go_wp2
      go_ret
      exact ⟨rfl, m, hwr⟩

theorem put1 : Rd.zero.put [0, 0, 0, 2, 97] = ([], ⟨[0, 0, 0, 2, 97], false⟩) := by
  have e : sp (Rd.zero.g ++ [0, 0, 0, 2, 97]) = ([], [0, 0, 0, 2, 97]) := sp_none (by decide)
  rw [Rd.put_good rfl (by rw [e]; decide), e]
theorem put2 : (Rd.mk [0, 0, 0, 2, 97] false).put [98] = ([[97, 98]], ⟨[], false⟩) := by
  have e : sp ((Rd.mk [0, 0, 0, 2, 97] false).g ++ [98]) = ([[97, 98]], []) := by
    have := sp_frame (p := [97, 98]) (by decide) []
    rw [sp_nil] at this
    exact this
  rw [Rd.put_good rfl (by rw [e]; decide), e]
theorem put3 : (Rd.mk [] false).put [0, 0, 0, 0] = ([], ⟨[], true⟩) := by
  have e : sp ((Rd.mk [] false).g ++ [0, 0, 0, 0]) = ([], [0, 0, 0, 0]) := sp_none (by decide)
  rw [Rd.put_bad rfl (by rw [e]; decide), e]
theorem ok1 : (Rd.mk [0, 0, 0, 2, 97] false).Ok := ⟨(fun h => by cases h), by decide, by decide⟩
theorem ok2 : (Rd.mk [] false).Ok := Rd.zero_ok
theorem miss1 : (Rd.mk [0, 0, 0, 2, 97] false).missing = 1 := by decide
theorem first_ab : firstErr [([97, 98] : Bs)] = 0 := by decide

end Go.Proofs.Ythmcfnbnafdkeaa.FrmY
