/- Breakers: a law from what comes in. -/
import Derived.Test.YtcmklahbophclaaBreO
import Derived.Test.YtcmklahbophclaaBreE
import Derived.Test.YtcmklahbophclaaRoom
import Derived.Test.YtcmklahbophclaaBreX
namespace Go.Proofs.Ytcmklahbophclaa.BreOe
set_option linter.unusedVariables false
open Go.ChangeShapes Go.WideShapes Go.ChangeAt Go.RowKit Go.Deep Base BreP BreA
theorem deeds_sized {H : Type} {enc : TypeId × Value → H} {W : World} {base : Nat} {spare : Nat → Bool} {held : Bool} {a0 : Option Addr} {len0 cap0 : Nat} {d : DataW H} {p : List MemPlace}
    (h : DataW.Trod enc Try.prog W base spare held 26 (.slice a0 len0 cap0) d p) (hz : ∀ m ∈ d.weights Try.prog 26, m ≤ reachBytes) : len0 ≤ 4400000000000 ∧ ∃ D, Deeds W a0 len0 D := by
  obtain ⟨fuel, hf⟩ := h
  have hf' : DataW.trod enc Try.prog W base spare held fuel 26 [.slice a0 len0 cap0] = some (d, p) := by simpa [Value.cells] using hf
  have hr := Room.rows_room Try.underlying26 hf' hz
  rw [show Try.prog.bytesOf 42 = 32 by kernel_rfl] at hr
  unfold reachBytes at hr
  exact ⟨by omega, (BreX.deeds_of hf').2⟩

section
variable {I : Inv} {refR : Rule → Int} (A : Api I refR) {H : Type} {enc : TypeId × Value → H} {W : World} {base : Nat} {spare : Nat → Bool} {held : Bool} (F : Rule) (hs : F.nm.size ≤ maxLen)
include A hs
theorem ends_main {d1 d2 : DataW H} {p1 p2 : List MemPlace} (a1 : Option Addr) (len1 cap1 : Nat) (h1 : DataW.Trod enc Try.prog W base spare held 26 (.slice a1 len1 cap1) d1 p1) (z1 : ∀ m ∈ d1.weights Try.prog 26, m ≤ reachBytes)
    (a2 : Option Addr) (len2 cap2 : Nat) (h2 : DataW.Trod enc Try.prog W base spare held 26 (.slice a2 len2 cap2) d2 p2) (z2 : ∀ m ∈ d2.weights Try.prog 26, m ≤ reachBytes) :
    Calls Try.prog 5 #[rv F, .slice a1 len1 cap1, .slice a2 len2 cap2] W fun e w' => e = .returned (.bool true) ∧ Below W.heap.size W w' := by
  obtain ⟨hn1, D1, hD1⟩ := deeds_sized h1 z1
  obtain ⟨hn2, D2, hD2⟩ := deeds_sized h2 z2
  obtain ⟨nm, g, ct, sl, ls, wd, rc⟩ := F
  exact BreE.core A nm g ct sl ls wd rc hs a1 len1 cap1 D1 a2 len2 cap2 D2 W hn1 hn2 (hid hD1) (hid hD2)
end


variable {H : Type} {enc : TypeId × Value → H} {W : World} {base : Nat} {spare : Nat → Bool} {held : Bool}
theorem main {d1 d2 : DataW H} {p1 p2 : List MemPlace} (F : Rule) (hs : F.nm.size ≤ maxLen) (a1 : Option Addr) (len1 cap1 : Nat) (h1 : DataW.Trod enc Try.prog W base spare held 26 (.slice a1 len1 cap1) d1 p1) (z1 : ∀ m ∈ d1.weights Try.prog 26, m ≤ reachBytes) (a2 : Option Addr) (len2 cap2 : Nat) (h2 : DataW.Trod enc Try.prog W base spare held 26 (.slice a2 len2 cap2) d2 p2) (z2 : ∀ m ∈ d2.weights Try.prog 26, m ≤ reachBytes) :
    Calls Try.prog 5 #[rv F, .slice a1 len1 cap1, .slice a2 len2 cap2] W fun e w' => e = .returned (.bool true) ∧ Below W.heap.size W w' := by
  exact ends_main BreO.api F hs a1 len1 cap1 h1 z1 a2 len2 cap2 h2 z2
end Go.Proofs.Ytcmklahbophclaa.BreOe
