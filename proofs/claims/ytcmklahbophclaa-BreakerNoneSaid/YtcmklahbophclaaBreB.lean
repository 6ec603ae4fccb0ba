/- Breakers: one's own breaker beside other blocks that stay. -/
import Derived.Test.YtcmklahbophclaaBreA
namespace Go.Proofs.Ytcmklahbophclaa.BreB
set_option linter.unusedVariables false
open Go.ChangeShapes Go.WideShapes Go.ChangeAt Go.RowKit Base WinM WinE BreP BreA

def MyS (I : Inv) (w0 w : World) (S : List Nat) (p : Nat) (B : Bk) : Prop := ∃ H, I w p H B ∧ (∀ k, H k → w0.heap.size ≤ k ∧ k ∉ S) ∧ Below w0.heap.size w0 w ∧ ∀ s ∈ S, s < w.heap.size
def Kept (S : List Nat) (w w' : World) : Prop := ∀ s ∈ S, w'.heap[s]? = w.heap[s]?
theorem MyS.my {I : Inv} {w0 w : World} {S : List Nat} {p : Nat} {B : Bk} (h : MyS I w0 w S p B) : My I w0 w p B := by obtain ⟨H, a, b, c, -⟩ := h; exact ⟨H, a, fun k hk => (b k hk).1, c⟩
theorem MyS.bel {I : Inv} {w0 w : World} {S : List Nat} {p : Nat} {B : Bk} (h : MyS I w0 w S p B) : Below w0.heap.size w0 w := by obtain ⟨H, -, -, h, -⟩ := h; exact h
theorem my_bel {I : Inv} {w0 w : World} {p : Nat} {B : Bk} (h : My I w0 w p B) : Below w0.heap.size w0 w := by obtain ⟨H, -, -, h⟩ := h; exact h
theorem Kept.cell {S : List Nat} {w w' : World} (h : Kept S w w') {b o : Nat} (hb : b ∈ S) {v : Value} (hc : w.cell? ⟨b, o, none⟩ = some v) : w'.cell? ⟨b, o, none⟩ = some v := by
  rw [← hc]; unfold World.cell?; rw [h b hb]
theorem Kept.froz {S : List Nat} {w w' : World} (h : Kept S w w') {b o : Nat} (hb : b ∈ S) {v : Bool} (hc : w.frozen? ⟨b, o, none⟩ = v) : w'.frozen? ⟨b, o, none⟩ = v := by
  rw [← hc]; unfold World.frozen?; rw [h b hb]

theorem movedS {I : Inv} {w0 w w' : World} {S : List Nat} {p : Nat} {H : Nat → Prop} {B' : Bk} (h2 : ∀ k, H k → w0.heap.size ≤ k ∧ k ∉ S) (h3 : Below w0.heap.size w0 w) (h4 : ∀ s ∈ S, s < w.heap.size) (hm : Moved I w w' p H B') : MyS I w0 w' S p B' ∧ Kept S w w' := by
  obtain ⟨H', a, b, c⟩ := hm
  exact ⟨⟨H', a, fun k hk => (b k hk).elim (h2 k) (fun h => ⟨Nat.le_trans h3.size h, fun hs => by have := h4 k hs; omega⟩), h3.trans (c.below _ h3.size (fun k hk => (h2 k hk).1)), fun s hs => Nat.lt_of_lt_of_le (h4 s hs) c.size⟩, fun s hs => c.block s (h4 s hs) (fun h => (h2 s h).2 hs)⟩

section
variable {I : Inv} {refR : Rule → Int} (A : Api I refR)
include A
/-- a block more -/
theorem boxS {w0 w : World} {p : Nat} {B : Bk} (h : My I w0 w p B) (o : Obj) : MyS I w0 (w.alloc o) [w.heap.size] p B := by
  obtain ⟨H, a, b, c⟩ := h
  have hb : Below w.heap.size w (w.alloc o) := (Below.refl _ _).alloc (Nat.le_refl _) _
  refine ⟨H, A.keep (R := fun _ => False) a (Lets.ofBelow hb) (fun _ _ h => h), fun k hk => ⟨b k hk, ?_⟩, c.trans (hb.mono c.size), fun s hs => ?_⟩
  · have := A.lt a k hk
    simp; omega
  · simp at hs; subst hs; simp
theorem belowS {w0 w w' : World} {S : List Nat} {p : Nat} {B : Bk} (h : MyS I w0 w S p B) (hb : Below w.heap.size w w') : MyS I w0 w' S p B ∧ Kept S w w' := by
  obtain ⟨H, h1, h2, h3, h4⟩ := h
  exact ⟨⟨H, A.keep (R := fun _ => False) h1 (Lets.ofBelow hb) (fun _ _ h => h), h2, h3.trans (hb.mono h3.size), fun s hs => Nat.lt_of_lt_of_le (h4 s hs) hb.size⟩, fun s hs => hb.block s (h4 s hs)⟩
/-- one of the blocks beside it is written -/
theorem setS {w0 w w' : World} {S : List Nat} {p : Nat} {B : Bk} (h : MyS I w0 w S p B) {b : Nat} (hb : b ∈ S) (hlo : w0.heap.size ≤ b) (hl : Lets (fun k => k = b) w w') : MyS I w0 w' S p B := by
  obtain ⟨H, h1, h2, h3, h4⟩ := h
  exact ⟨H, A.keep h1 hl (fun k hk e => (h2 k hk).2 (e ▸ hb)), h2, h3.trans (hl.below _ h3.size (fun k e => e ▸ hlo)), fun s hs => Nat.lt_of_lt_of_le (h4 s hs) hl.size⟩
theorem stateS {w0 w : World} {S : List Nat} {p : Nat} {B : Bk} (s : Int) (hs : ((B.st : Nat) : Int) = s) (h : MyS I w0 w S p B) : Calls Try.prog 15 #[ptr p] w fun e w' => e = .returned (.int .u8 s) ∧ MyS I w0 w' S p B ∧ Kept S w w' := by
  obtain ⟨H, h1, -⟩ := id h
  rw [← hs]; exact (A.state_ h1).mono fun e w' x => ⟨x.1, belowS A h x.2⟩
theorem tripsS {w0 w : World} {S : List Nat} {p : Nat} {B : Bk}  (h : MyS I w0 w S p B) : Calls Try.prog 21 #[ptr p] w fun e w' => e = .returned (.int .i64 B.trips) ∧ MyS I w0 w' S p B ∧ Kept S w w' := by
  obtain ⟨H, h1, -⟩ := id h
  exact (A.trips_ h1).mono fun e w' x => ⟨x.1, belowS A h x.2⟩
theorem untilS {w0 w : World} {S : List Nat} {p : Nat} {B : Bk} (u : Int) (b : Bool) (hu : ((if B.st = 1 then 0 else B.til : Nat) : Int) = u) (hb : decide (B.st ≠ 1) = b) (h : MyS I w0 w S p B) : Calls Try.prog 16 #[ptr p] w fun e w' => e = .returned (.tuple #[.int .i64 u, .bool b]) ∧ MyS I w0 w' S p B ∧ Kept S w w' := by
  obtain ⟨H, h1, -⟩ := id h
  rw [← hu, ← hb]
  exact (A.until_ h1).mono fun e w' x => ⟨x.1, belowS A h x.2⟩
theorem enterS {w0 w : World} {S : List Nat} {p : Nat} {B B' : Bk} (t : Int) (x y : Bool) (z : Int) (hx : goesB B t = x) (hy : (goesB B t && decide (B.st = 2)) = y) (hz : refT B t 0 = z) (hB : enterB B t = B') (h : MyS I w0 w S p B) : Calls Try.prog 17 #[ptr p, .int .i64 t] w fun e w' => e = .returned (.tuple #[.bool x, .bool y, .int .i64 z]) ∧ MyS I w0 w' S p B' ∧ Kept S w w' := by
  obtain ⟨H, h1, h2, h3, h4⟩ := h
  subst hx hy hz hB
  exact (A.enter_ t h1).mono fun e w' x => ⟨x.1, movedS h2 h3 h4 x.2⟩
theorem doneS {w0 w : World} {S : List Nat} {p : Nat} {B B' : Bk} (t rt : Int) (f pr : Bool) (z : Int) (hz : refD B t rt pr = z) (hB : doneB B t rt f pr = B') (h : MyS I w0 w S p B) (ht : B'.n ≤ 10000000000000) : Calls Try.prog 18 #[ptr p, .int .i64 t, .int .i64 rt, .bool f, .bool pr] w fun e w' => e = .returned (.int .i64 z) ∧ MyS I w0 w' S p B' ∧ Kept S w w' := by
  obtain ⟨H, h1, h2, h3, h4⟩ := h
  subst hz hB
  exact (A.done_ t rt f pr h1 ht).mono fun e w' x => ⟨x.1, movedS h2 h3 h4 x.2⟩
theorem giveS {w0 w : World} {S : List Nat} {p : Nat} {B B' : Bk} (t : Int) (z : Int) (hz : refG B t = z) (hB : giveB B t = B') (h : MyS I w0 w S p B) : Calls Try.prog 19 #[ptr p, .int .i64 t] w fun e w' => e = .returned (.int .i64 z) ∧ MyS I w0 w' S p B' ∧ Kept S w w' := by
  obtain ⟨H, h1, h2, h3, h4⟩ := h
  subst hz hB
  exact (A.give_ t h1).mono fun e w' x => ⟨x.1, movedS h2 h3 h4 x.2⟩
end

/-- the document's sum of times -/
theorem plus_ref (t c z : Int) (h1 : wrap64 (4611686018427387904 - t) = 4611686018427387904 - t) (h2 : decide (4611686018427387904 - t < c) = false) (h3 : wrap64 (t + c) = z) (w : World) :
    Calls Try.prog 20 #[.int .i64 t, .int .i64 c] w fun e w' => e = .returned (.int .i64 z) ∧ w = w' := by
  have H3 := hid h3
  clear h3
  go_enter Try.func20, Try.ntmps20
  go_wp2
  go_ret
  exact ⟨congrArg (fun z => Ending.returned (.int .i64 z)) H3.out, rfl⟩

end Go.Proofs.Ytcmklahbophclaa.BreB
