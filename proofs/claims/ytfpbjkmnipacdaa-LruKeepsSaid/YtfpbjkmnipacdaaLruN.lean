/- LruKeeps at every argument. -/
import Derived.Test.YtfpbjkmnipacdaaOpnS
import Derived.Test.YtfpbjkmnipacdaaLruM
namespace Go.Proofs.Ytfpbjkmnipacdaa.LruN
open Go.ChangeShapes Go.WideShapes Go.Deep Go.RowKit Base

theorem main {H : Type} {enc : TypeId × Value → H} {W : World} {base : Nat} {spare : Nat → Bool} {held : Bool} {d : DataW H} {p : List MemPlace} (a0 : Int) (w0 : (Lit.int .u8 a0).wf = true) (a1 : Option Addr) (len1 cap1 : Nat)
    (h1 : DataW.Trod enc Try.prog W base spare held 50 (.slice a1 len1 cap1) d p) :
    Calls Try.prog 6 #[.int .u8 a0, .slice a1 len1 cap1] W fun e w' => e = .returned (.bool true) ∧ Below W.heap.size W w' := by
  obtain ⟨fuel, hf⟩ := h1
  obtain ⟨a, n, cap, f, hv, hn, hs, hc⟩ := OpnS.strs_of Try.underlying50 Try.underlying9 (by kernel_rfl) (by simpa [Value.cells] using hf)
  injection hv with e1 e2 e3
  subst e1 e2 e3
  have hw : 0 ≤ a0 ∧ a0 ≤ 255 := by simpa [Lit.wf, IntKind.min, IntKind.max, IntKind.bits, IntKind.signed] using w0
  obtain ⟨m, rfl⟩ : ∃ m : Nat, a0 = m := ⟨a0.toNat, by omega⟩
  exact LruM.keeps_core m (by omega) _ _ _ f _ rfl W hn (hid hc) (hid hs)

end Go.Proofs.Ytfpbjkmnipacdaa.LruN
