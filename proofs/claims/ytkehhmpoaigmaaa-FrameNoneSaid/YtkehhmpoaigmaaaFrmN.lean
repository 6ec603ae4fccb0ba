/- Nothing panics, and all is zero, where there is no reader. -/
import Derived.Test.YtkehhmpoaigmaaaFrmL
import Derived.Test.YtkehhmpoaigmaaaOpn
namespace Go.Proofs.Ytkehhmpoaigmaaa.FrmN
open Go.ChangeShapes Go.WideShapes Go.ChangeAt Go.RowKit Go.Deep Base Wri FrmP FrmA FrmR FrmW FrmX FrmL
set_option linter.unusedVariables false
set_option linter.unusedSimpArgs false

set_option maxRecDepth 100000 in
set_option maxHeartbeats 1000000 in
theorem none_core (a : Option Addr) (n c : Nat) (w : World) : Calls Try.prog 7 #[.slice a n c] w fun e w' => e = .returned (.bool true) ∧ Below w.heap.size w w' := by
  have H1 := hid (put_none a n c w)
  have H2 := hid (reset_none w)
  have H3 := hid (live_any w)
  go_enter Try.func7, Try.ntmps7
  go_wp2_with (first
    | (go_at_call 27
       refine H1.out.mono ?_
       rintro e w1 ⟨rfl, rfl⟩)
    | (go_at_call 24
       refine H2.out.mono ?_
       rintro e w1 ⟨rfl, rfl⟩)
    | (go_at_call 13
       refine H3.out.mono ?_
       rintro e w3 ⟨rfl, hb3⟩
       have HB := hid hb3
       clear hb3)
    | (go_at_call 29
       refine (left_none _).mono ?_
       rintro e w4 ⟨rfl, rfl⟩)
    | (go_at_call 31
       refine (missing_none _).mono ?_
       rintro e w5 ⟨rfl, rfl⟩)
    | (go_at_call 33
       refine (broken_none _).mono ?_
       rintro e w6 ⟨rfl, rfl⟩)
    | (go_at_call 25
       refine (fork_none _).mono ?_
       rintro e w7 ⟨rfl, rfl⟩))
  go_ret
  exact ⟨rfl, HB.out⟩

theorem main {H : Type} {enc : TypeId × Value → H} {W : World} {base : Nat} {spare : Nat → Bool} {held : Bool} (a0 : Option Addr) (len0 cap0 : Nat) {d : DataW H} {p : List MemPlace}
    (h : DataW.Trod enc Try.prog W base spare held 23 (.slice a0 len0 cap0) d p) :
    Calls Try.prog 7 #[.slice a0 len0 cap0] W fun e w' => e = .returned (.bool true) ∧ Below W.heap.size W w' := none_core a0 len0 cap0 W

end Go.Proofs.Ytkehhmpoaigmaaa.FrmN
