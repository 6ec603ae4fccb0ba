/- What Alone tells of a book with lists of ints alone. -/
import Derived.Test.YtbpajgkhajheaaaAloA
import Derived.Test.YtbpajgkhajheaaaWri
namespace Go.Proofs.Ytbpajgkhajheaaa.AloC
open Go.ChangeShapes Go.WideShapes Go.ChangeAt Go.RowKit Base AloA WldF Wri
set_option linter.unusedVariables false

/-- a book in block b that holds nothing but lists of ints -/
def Nils (w : World) (b : Nat) : Prop := ∀ j, j < 8 → (∃ v, w.cell? ⟨b, j, none⟩ = some v ∧ w.frozen? ⟨b, j, none⟩ = false) ∧ (j ≠ 2 → w.cell? ⟨b, j, none⟩ = some (.slice none 0 0))

set_option maxRecDepth 20000 in
set_option maxHeartbeats 1000000 in
theorem alone_of (b B : Nat) (w : World) (hB : B ≤ b) (C1 : Hid (∀ j, j < 8 → j ≠ 2 → w.cell? ⟨b, j, none⟩ = some (.slice none 0 0)))
    (K : Hid (Calls Try.prog 57 #[.pointer (some ⟨b, 0, none⟩)] w fun e w' => e = .returned (.bool true) ∧ Below B w w' ∧ Nils w' b)) :
    Calls Try.prog 22 #[.pointer (some ⟨b, 0, none⟩)] w fun e w' => e = .returned (.bool true) ∧ Below B w w' := by
  go_enter Try.func22, Try.ntmps22
  go_wp2_with (first | (go_at_call 55; with_reducible refine (aloneBytes_none b _ (C1.out 0 (by omega) (by omega))).mono ?_; rintro e w1 ⟨rfl, rfl⟩) | (go_at_call 56; with_reducible refine (aloneTexts_none b _ (C1.out 1 (by omega) (by omega))).mono ?_; rintro e w1 ⟨rfl, rfl⟩) | (go_at_call 58; with_reducible refine (aloneCounts_none b _ (C2.out 3 (by omega) (by omega))).mono ?_; rintro e w1 ⟨rfl, rfl⟩) | (go_at_call 59; with_reducible refine (aloneItems_none b _ (C2.out 4 (by omega) (by omega))).mono ?_; rintro e w1 ⟨rfl, rfl⟩) | (go_at_call 60; with_reducible refine (aloneFlows_none b _ (C2.out 5 (by omega) (by omega))).mono ?_; rintro e w1 ⟨rfl, rfl⟩) | (go_at_call 61; with_reducible refine (aloneBreaks_none b _ (C2.out 6 (by omega) (by omega))).mono ?_; rintro e w1 ⟨rfl, rfl⟩) | (go_at_call 62; with_reducible refine (aloneSystems_none b _ (C2.out 7 (by omega) (by omega))).mono ?_; rintro e w1 ⟨rfl, rfl⟩) | (go_at_call 57; refine K.out.mono ?_; rintro e w2 ⟨rfl, hb, hc⟩; have HB := hid hb; have C2 := hid (fun j hj hn => (hc j hj).2 hn); obtain ⟨⟨x2, q2, _⟩, _⟩ := hc 2 (by omega); have f0 : w2.frozen? ⟨b, 0, none⟩ = false := (by obtain ⟨⟨v, _, hh⟩, _⟩ := hc 0 (by omega); exact hh); have f1 : w2.frozen? ⟨b, 1, none⟩ = false := (by obtain ⟨⟨v, _, hh⟩, _⟩ := hc 1 (by omega); exact hh); have f2 : w2.frozen? ⟨b, 2, none⟩ = false := (by obtain ⟨⟨v, _, hh⟩, _⟩ := hc 2 (by omega); exact hh); have f3 : w2.frozen? ⟨b, 3, none⟩ = false := (by obtain ⟨⟨v, _, hh⟩, _⟩ := hc 3 (by omega); exact hh); have f4 : w2.frozen? ⟨b, 4, none⟩ = false := (by obtain ⟨⟨v, _, hh⟩, _⟩ := hc 4 (by omega); exact hh); have f5 : w2.frozen? ⟨b, 5, none⟩ = false := (by obtain ⟨⟨v, _, hh⟩, _⟩ := hc 5 (by omega); exact hh); have f6 : w2.frozen? ⟨b, 6, none⟩ = false := (by obtain ⟨⟨v, _, hh⟩, _⟩ := hc 6 (by omega); exact hh); have f7 : w2.frozen? ⟨b, 7, none⟩ = false := (by obtain ⟨⟨v, _, hh⟩, _⟩ := hc 7 (by omega); exact hh); have q0 := (hc 0 (by omega)).2 (by omega); have q1 := (hc 1 (by omega)).2 (by omega); have q3 := (hc 3 (by omega)).2 (by omega); have q4 := (hc 4 (by omega)).2 (by omega); have q5 := (hc 5 (by omega)).2 (by omega); have q6 := (hc 6 (by omega)).2 (by omega); have q7 := (hc 7 (by omega)).2 (by omega); clear hb hc))
  go_ret
  refine ⟨rfl, ?_⟩
  exact (((((((HB.out.setCell hB _).setCell hB _).setCell hB _).setCell hB _).setCell hB _).setCell hB _).setCell hB _).setCell hB _

theorem heap_alloc_old (w : World) (o : Obj) (b : Nat) (hb : b < w.heap.size) : (w.alloc o).heap[b]? = w.heap[b]? := Below.block ((Below.refl _ w).alloc (Nat.le_refl _) o) b hb

theorem cell_one (w : World) (x : Value) (ty : TypeId) (j : Nat) (u : Value) (hu : [x][j]? = some u) : (w.alloc (.cells #[x] ty)).cell? (Addr.add ⟨w.heap.size, 0, none⟩ j) = some u := by
  rw [Go.WideShapes.add_plain, Nat.zero_add]
  unfold World.cell?
  rw [heap_alloc_new]
  simpa using hu

theorem infoInts : (Try.prog.info? 110).map (fun i => (i.zero, i.size, i.bytes)) = some (some (.slice none 0 0), 1, 24) := by kernel_rfl

def TakePost (b B n : Nat) (va : Option Addr) (vc : Nat) (xs : List Value) (l : Value) (w : World) (e : Ending) (w' : World) : Prop :=
  e = .returned (.tuple #[]) ∧ ∃ va' vc', w'.cell? ⟨b, 2, none⟩ = some (.slice va' (n + 1) vc') ∧ w'.frozen? ⟨b, 2, none⟩ = false ∧ w'.ownsRow B 110 1 (.slice va' (n + 1) vc') (n + 1) (xs ++ [l]) ∧ (∀ g, (Value.slice va' (n + 1) vc').ownBlock = some g → g ≠ b) ∧
    Wr (fun k => k = b ∨ (Value.slice va n vc).ownBlock = some k) w w' ∧ ∀ j, j ≠ 2 → w'.cell? ⟨b, j, none⟩ = w.cell? ⟨b, j, none⟩ ∧ w'.frozen? ⟨b, j, none⟩ = w.frozen? ⟨b, j, none⟩

end Go.Proofs.Ytbpajgkhajheaaa.AloC
