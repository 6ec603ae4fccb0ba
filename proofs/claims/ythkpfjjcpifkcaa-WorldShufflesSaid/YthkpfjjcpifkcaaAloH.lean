/- A book of two lists of ints that are apart: alone. -/
import Derived.Test.YthkpfjjcpifkcaaAloE
namespace Go.Proofs.Ythkpfjjcpifkcaa.AloH
open Go.ChangeShapes Go.WideShapes Go.ChangeAt Go.RowKit Base AloA WldF Wri AloC AloD AloF AloG AloE
set_option linter.unusedVariables false

/-- a book in block b that has no list -/
def Fresh (w : World) (b : Nat) : Prop := ∀ j, j < 8 → w.cell? ⟨b, j, none⟩ = some (.slice none 0 0) ∧ w.frozen? ⟨b, j, none⟩ = false

/-- what a TakeInts leaves -/
def Took (b B n : Nat) (va : Option Addr) (vc : Nat) (xs : List Value) (l : Value) (w w' : World) (va' : Option Addr) (vc' : Nat) : Prop :=
  w'.cell? ⟨b, 2, none⟩ = some (.slice va' (n + 1) vc') ∧ w'.frozen? ⟨b, 2, none⟩ = false ∧ w'.ownsRow B 26 1 (.slice va' (n + 1) vc') (n + 1) (xs ++ [l]) ∧ (∀ g, (Value.slice va' (n + 1) vc').ownBlock = some g → g ≠ b) ∧
    Wr (fun k => k = b ∨ (Value.slice va n vc).ownBlock = some k) w w' ∧ ∀ j, j ≠ 2 → w'.cell? ⟨b, j, none⟩ = w.cell? ⟨b, j, none⟩ ∧ w'.frozen? ⟨b, j, none⟩ = w.frozen? ⟨b, j, none⟩

/-- an owned list of ints -/
def Own1 (w : World) (B : Nat) (L : Value) (l : Nat) : Prop := ∃ xs, w.ownsRow B 3 1 L l xs

theorem Own1.base {w : World} {B B' : Nat} {L : Value} {l : Nat} (h : Own1 w B L l) (hb : B' ≤ B) : Own1 w B' L l := by
  obtain ⟨xs, h1, h2⟩ := h
  refine ⟨xs, h1, ?_⟩
  rcases h2 with hn | ⟨g, cap, cur, rfl, hg, rest⟩
  · exact .inl hn
  · exact .inr ⟨g, cap, cur, rfl, by omega, rest⟩

def pick (L0 L1 : Value) : Nat → Value := fun i => if i = 0 then L0 else L1
def pickN (l0 l1 : Nat) : Nat → Nat := fun i => if i = 0 then l0 else l1

theorem lists_two {B b l0 l1 vc1 vc2 : Nat} {L0 L1 : Value} {va1 va2 : Option Addr} {w6 w7 w8 : World} (hB : B ≤ b) (hb : b < w6.heap.size) (hf : Fresh w6 b) (o0 : Own1 w6 B L0 l0) (o1 : Own1 w6 B L1 l1) (n0 : ∀ g, L0.ownBlock = some g → g ≠ b) (n1 : ∀ g, L1.ownBlock = some g → g ≠ b)
    (ap : ∀ g, L0.ownBlock = some g → L1.ownBlock ≠ some g) (t0 : l0 ≤ 1000000) (t1 : l1 ≤ 1000000) (h7 : Took b w6.heap.size 0 none 0 [] L0 w6 w7 va1 vc1) (h8 : Took b w6.heap.size 1 va1 vc1 [L0] L1 w7 w8 va2 vc2) :
    ∃ bb bc, Lists w8 B b bb 2 bc (pick L0 L1) (pickN l0 l1) ∧ ∀ j, j < 8 → (∃ v, w8.cell? ⟨b, j, none⟩ = some v ∧ w8.frozen? ⟨b, j, none⟩ = false) ∧ (j ≠ 2 → w8.cell? ⟨b, j, none⟩ = some (.slice none 0 0)) := by
  obtain ⟨c7, f7, own7, nb7, w67, j7⟩ := h7
  obtain ⟨c8, f8, own8, nb8, w78, j8⟩ := h8
  have hs7 := w67.size
  have hs8 := w78.size
  obtain ⟨bb, bc, e, hbb, hbs, hcell⟩ := owns_at own8 (by omega)
  cases e
  have keep : ∀ L l, Own1 w6 B L l → (∀ g, L.ownBlock = some g → g ≠ b) → Own1 w8 B L l ∧ ∀ g, L.ownBlock = some g → g ≠ b ∧ g ≠ bb ∧ g < w8.heap.size ∧ B ≤ g := by
    rintro L l ⟨xs, hx⟩ hn
    have hl := hx.lt
    refine ⟨⟨xs, ?_⟩, fun g hg => ⟨hn g hg, by have := (hl g hg).2; omega, by have := (hl g hg).2; omega, (hl g hg).1⟩⟩
    refine owns_wr (owns_wr hx w67 (fun g hg e => ?_)) w78 (fun g hg e => ?_)
    · rcases e with e | e
      · exact hn g hg e
      · cases e
    · rcases e with e | e
      · exact hn g hg e
      · have h1 := (own7.lt g e).1
        have h2 := (hl g hg).2
        omega
  obtain ⟨k0, q0⟩ := keep L0 l0 o0 n0
  obtain ⟨k1, q1⟩ := keep L1 l1 o1 n1
  have two : ∀ i, i < 2 → i = 0 ∨ i = 1 := fun i hi => by omega
  refine ⟨bb, vc2, ⟨by omega, by omega, ?_, ⟨hB, by omega⟩, ⟨by omega, hbs⟩, c8, ?_, ?_, ?_, ?_⟩, ?_⟩
  · intro i hi
    rcases two i hi with rfl | rfl
    · exact t0
    · exact t1
  · intro i hi
    rcases two i hi with rfl | rfl
    · exact hcell 0 _ hi rfl
    · exact hcell 1 _ hi rfl
  · intro i hi
    rcases two i hi with rfl | rfl
    · exact k0
    · exact k1
  · intro i k g hi hk h1 h2
    rcases two i hi with rfl | rfl <;> rcases two k hk with rfl | rfl
    · rfl
    · exact absurd h2 (ap g h1)
    · exact absurd h1 (ap g h2)
    · rfl
  · intro i g hi h1
    rcases two i hi with rfl | rfl
    · exact q0 g h1
    · exact q1 g h1
  · intro j hj
    by_cases e : j = 2
    · subst e
      exact ⟨⟨_, c8, f8⟩, fun h => absurd rfl h⟩
    · have e1 := (j8 j e).1.trans ((j7 j e).1.trans (hf j hj).1)
      have e2 := (j8 j e).2.trans ((j7 j e).2.trans (hf j hj).2)
      exact ⟨⟨_, e1, e2⟩, fun _ => e1⟩

/-- Alone of such a book -/
theorem alone_two {B b bb bc l0 l1 : Nat} {L0 L1 : Value} {w8 : World} (hL : Lists w8 B b bb 2 bc (pick L0 L1) (pickN l0 l1)) (hn : ∀ j, j < 8 → (∃ v, w8.cell? ⟨b, j, none⟩ = some v ∧ w8.frozen? ⟨b, j, none⟩ = false) ∧ (j ≠ 2 → w8.cell? ⟨b, j, none⟩ = some (.slice none 0 0))) :
    Calls Try.prog 13 #[.pointer (some ⟨b, 0, none⟩)] w8 fun e w' => e = .returned (.bool true) ∧ Below B w8 w' := by
  refine alone_of b B w8 hL.low.1 (hid fun j hj h2 => (hn j hj).2 h2) (hid ((alone_ints b B bb 2 bc _ _ w8 (hid hL)).mono fun e w' h => ?_))
  obtain ⟨rfl, hw⟩ := h
  refine ⟨rfl, hw.below B (by have := hL.low; have := hL.lt; omega) (fun k hk => (hL.mine_off hk).2.2), fun j hj => ?_⟩
  have hb : ¬ Mine 2 (pick L0 L1) b := fun e => (hL.mine_off e).1 rfl
  have e1 := hw.cell j hL.lt.1 hb
  have e2 := hw.frozen j hL.lt.1 hb
  obtain ⟨⟨v, h1, h2⟩, h3⟩ := hn j hj
  exact ⟨⟨v, e1.trans h1, e2.trans h2⟩, fun hne => e1.trans (h3 hne)⟩

end Go.Proofs.Ythkpfjjcpifkcaa.AloH
