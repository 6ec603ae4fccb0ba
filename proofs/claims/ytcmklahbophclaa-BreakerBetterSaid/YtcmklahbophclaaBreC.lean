/- Breakers: two side by side; bools that came in. -/
import Derived.Test.YtcmklahbophclaaBreB
import Derived.Test.YtcmklahbophclaaBreX
namespace Go.Proofs.Ytcmklahbophclaa.BreC
set_option linter.unusedVariables false
open Go.ChangeShapes Go.WideShapes Go.ChangeAt Go.RowKit Go.Deep Base WinM WinE BreP BreA BreB

def Bools (w : World) (a : Option Addr) (n : Nat) (D : Nat → Bool) : Prop := 0 < n → ∃ g o, a = some ⟨g, o, none⟩ ∧ g < w.heap.size ∧ ∀ i, i < n → w.cell? ⟨g, o + i, none⟩ = some (.bool (D i))
theorem bools_of {H : Type} {enc : TypeId × Value → H} {W : World} {base : Nat} {spare : Nat → Bool} {held : Bool} {a0 : Option Addr} {len0 cap0 fuel : Nat} {x : DataW H × List MemPlace}
    (hf : DataW.trod enc Try.prog W base spare held fuel 59 [.slice a0 len0 cap0] = some x) : len0 ≤ 9223372036854775807 ∧ ∃ D, Bools W a0 len0 D := by
  rcases open_slice Try.underlying59 hf with ⟨h0, -⟩ | ⟨a, len, cap, m, n, D, Pl, hcs, hb, hl, hm, hmm, -, hx⟩
  · simp at h0
    exact ⟨by omega, fun _ => false, fun h => by omega⟩
  · simp at hcs
    obtain ⟨rfl, rfl, rfl⟩ := hcs
    have hlm : len0 ≤ m := by rw [hmm]; split <;> omega
    have hc1 : Try.prog.cellsOf 4 = 1 := by kernel_rfl
    have each : ∀ i, i < len0 → ∃ b : Bool, W.cell? (a.add i) = some (.bool b) := by
      intro i hi
      obtain ⟨cs', h1, h2⟩ := hx i (by omega)
      rw [hc1] at h1
      obtain ⟨_, hlen, hcell⟩ := World.cells?_some h1
      match cs', hlen with
      | [v], _ =>
        obtain ⟨b, e, _⟩ := DataW.trod_bool Try.underlying4 h2
        simp only [List.cons.injEq, and_true] at e
        subst e
        have := hcell 0 (by omega)
        exact ⟨b, by simpa [Addr.add] using this⟩
    obtain ⟨L, hL⟩ := choose_lt each
    refine ⟨by unfold maxLen at hm; omega, L, fun h0 => ?_⟩
    obtain ⟨b, off, spot⟩ := a
    have h00 := hL 0 h0
    have hspot : spot = none := by simpa [Addr.add] using World.cell?_spot h00
    subst hspot
    refine ⟨b, off, rfl, by have := World.block_lt_of_cell? _ _ h00; simpa [Addr.add] using this, fun i hil => ?_⟩
    have := hL i hil
    rwa [Go.WideShapes.add_plain] at this

def My2 (I : Inv) (w0 w : World) (S : List Nat) (p q : Nat) (A B : Bk) : Prop := ∃ H K, I w p H A ∧ I w q K B ∧ (∀ k, H k → ¬ K k) ∧ (∀ k, H k → w0.heap.size ≤ k ∧ k ∉ S) ∧ (∀ k, K k → w0.heap.size ≤ k ∧ k ∉ S) ∧ Below w0.heap.size w0 w ∧ ∀ s ∈ S, s < w.heap.size
theorem My2.bel {I : Inv} {w0 w : World} {S : List Nat} {p q : Nat} {A B : Bk} (h : My2 I w0 w S p q A B) : Below w0.heap.size w0 w := by obtain ⟨H, K, -, -, -, -, -, h, -⟩ := h; exact h
theorem My2.less {I : Inv} {w0 w : World} {S : List Nat} {p q : Nat} {A B : Bk} (h : My2 I w0 w S p q A B) : My2 I w0 w [] p q A B := by
  obtain ⟨H, K, a, b, c, d, e, f, g⟩ := h; exact ⟨H, K, a, b, c, fun k hk => ⟨(d k hk).1, by simp⟩, fun k hk => ⟨(e k hk).1, by simp⟩, f, by simp⟩

section
variable {I : Inv} {refR : Rule → Int} (A : Api I refR)
include A
theorem pair_new {w0 w w' : World} {p q : Nat} {K : Nat → Prop} {B C : Bk} (h : My I w0 w p B) (h1 : I w' q K C) (h2 : ∀ k, K k → w.heap.size ≤ k) (h3 : Below w.heap.size w w') : My2 I w0 w' [] p q B C := by
  obtain ⟨H, a, b, c⟩ := h
  exact ⟨H, K, A.keep (R := fun _ => False) a (Lets.ofBelow h3) (fun _ _ h => h), h1, fun k x y => by have := A.lt a k x; have := h2 k y; omega, fun k hk => ⟨b k hk, by simp⟩, fun k hk => ⟨Nat.le_trans c.size (h2 k hk), by simp⟩, c.trans (h3.mono c.size), by simp⟩
theorem box2 {w0 w : World} {p q : Nat} {B C : Bk} (h : My2 I w0 w [] p q B C) (o : Obj) : My2 I w0 (w.alloc o) [w.heap.size] p q B C := by
  obtain ⟨H, K, a, b, c, d, e, f, -⟩ := h
  have hb : Below w.heap.size w (w.alloc o) := (Below.refl _ _).alloc (Nat.le_refl _) _
  refine ⟨H, K, A.keep (R := fun _ => False) a (Lets.ofBelow hb) (fun _ _ h => h), A.keep (R := fun _ => False) b (Lets.ofBelow hb) (fun _ _ h => h), c, fun k hk => ⟨(d k hk).1, ?_⟩, fun k hk => ⟨(e k hk).1, ?_⟩, f.trans (hb.mono f.size), fun s hs => ?_⟩
  · have := A.lt a k hk
    simp; omega
  · have := A.lt b k hk
    simp; omega
  · simp at hs; subst hs; simp
theorem set2 {w0 w w' : World} {S : List Nat} {p q : Nat} {B C : Bk} (h : My2 I w0 w S p q B C) {b : Nat} (hb : b ∈ S) (hlo : w0.heap.size ≤ b) (hl : Lets (fun k => k = b) w w') : My2 I w0 w' S p q B C := by
  obtain ⟨H, K, h1, h2, h3, h4, h5, h6, h7⟩ := h
  exact ⟨H, K, A.keep h1 hl (fun k hk e => (h4 k hk).2 (e ▸ hb)), A.keep h2 hl (fun k hk e => (h5 k hk).2 (e ▸ hb)), h3, h4, h5, h6.trans (hl.below _ h6.size (fun k e => e ▸ hlo)), fun s hs => Nat.lt_of_lt_of_le (h7 s hs) hl.size⟩
theorem below2 {w0 w w' : World} {S : List Nat} {p q : Nat} {B C : Bk} (h : My2 I w0 w S p q B C) (hb : Below w.heap.size w w') : My2 I w0 w' S p q B C ∧ Kept S w w' := by
  obtain ⟨H, K, h1, h2, h3, h4, h5, h6, h7⟩ := h
  exact ⟨⟨H, K, A.keep (R := fun _ => False) h1 (Lets.ofBelow hb) (fun _ _ h => h), A.keep (R := fun _ => False) h2 (Lets.ofBelow hb) (fun _ _ h => h), h3, h4, h5, h6.trans (hb.mono h6.size), fun s hs => Nat.lt_of_lt_of_le (h7 s hs) hb.size⟩, fun s hs => hb.block s (h7 s hs)⟩
theorem state2a {w0 w : World} {S : List Nat} {p q : Nat} {B C : Bk} (s : Int) (hs : ((B.st : Nat) : Int) = s) (h : My2 I w0 w S p q B C) : Calls Try.prog 15 #[ptr p] w fun e w' => e = .returned (.int .u8 s) ∧ My2 I w0 w' S p q B C ∧ Kept S w w' := by
  obtain ⟨H, K, h1, h2, -⟩ := id h
  rw [← hs]; exact (A.state_ h1).mono fun e w' x => ⟨x.1, below2 A h x.2⟩
theorem state2b {w0 w : World} {S : List Nat} {p q : Nat} {B C : Bk} (s : Int) (hs : ((C.st : Nat) : Int) = s) (h : My2 I w0 w S p q B C) : Calls Try.prog 15 #[ptr q] w fun e w' => e = .returned (.int .u8 s) ∧ My2 I w0 w' S p q B C ∧ Kept S w w' := by
  obtain ⟨H, K, h1, h2, -⟩ := id h
  rw [← hs]; exact (A.state_ h2).mono fun e w' x => ⟨x.1, below2 A h x.2⟩
theorem done2a {w0 w : World} {S : List Nat} {p q : Nat} {B C B' : Bk} (t rt : Int) (f pr : Bool) (z : Int) (hz : refD B t rt pr = z) (hB : doneB B t rt f pr = B') (h : My2 I w0 w S p q B C) (ht : B'.n ≤ 10000000000000) : Calls Try.prog 18 #[ptr p, .int .i64 t, .int .i64 rt, .bool f, .bool pr] w fun e w' => e = .returned (.int .i64 z) ∧ My2 I w0 w' S p q B' C ∧ Kept S w w' := by
  obtain ⟨H, K, h1, h2, h3, h4, h5, h6, h7⟩ := h
  subst hz hB
  refine (A.done_ t rt f pr h1 ht).mono ?_
  rintro e w' ⟨x, H', a, b, c⟩
  exact ⟨x, ⟨H', K, a, A.keep h2 c (fun k hk y => h3 k y hk), fun k y z => (b k y).elim (fun y => h3 k y z) (fun y => by have := A.lt h2 k z; omega), fun k hk => (b k hk).elim (h4 k) (fun y => ⟨Nat.le_trans h6.size y, fun hs => by have := h7 k hs; omega⟩), h5, h6.trans (c.below _ h6.size (fun k hk => (h4 k hk).1)), fun s hs => Nat.lt_of_lt_of_le (h7 s hs) c.size⟩, fun s hs => c.block s (h7 s hs) (fun y => (h4 s y).2 hs)⟩
theorem done2b {w0 w : World} {S : List Nat} {p q : Nat} {B C C' : Bk} (t rt : Int) (f pr : Bool) (z : Int) (hz : refD C t rt pr = z) (hB : doneB C t rt f pr = C') (h : My2 I w0 w S p q B C) (ht : C'.n ≤ 10000000000000) : Calls Try.prog 18 #[ptr q, .int .i64 t, .int .i64 rt, .bool f, .bool pr] w fun e w' => e = .returned (.int .i64 z) ∧ My2 I w0 w' S p q B C' ∧ Kept S w w' := by
  obtain ⟨H, K, h1, h2, h3, h4, h5, h6, h7⟩ := h
  subst hz hB
  refine (A.done_ t rt f pr h2 ht).mono ?_
  rintro e w' ⟨x, K', a, b, c⟩
  exact ⟨x, ⟨H, K', A.keep h1 c (fun k hk y => h3 k hk y), a, fun k z y => (b k y).elim (fun y => h3 k z y) (fun y => by have := A.lt h1 k z; omega), h4, fun k hk => (b k hk).elim (h5 k) (fun y => ⟨Nat.le_trans h6.size y, fun hs => by have := h7 k hs; omega⟩), h6.trans (c.below _ h6.size (fun k hk => (h5 k hk).1)), fun s hs => Nat.lt_of_lt_of_le (h7 s hs) c.size⟩, fun s hs => c.block s (h7 s hs) (fun y => (h5 s y).2 hs)⟩
end

end Go.Proofs.Ytcmklahbophclaa.BreC
