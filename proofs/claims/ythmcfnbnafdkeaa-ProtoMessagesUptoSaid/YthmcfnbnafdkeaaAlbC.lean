/- What Alone tells of a book with lists of bytes alone. -/
import Derived.Test.YthmcfnbnafdkeaaAloA
import Derived.Test.YthmcfnbnafdkeaaWri
namespace Go.Proofs.Ythmcfnbnafdkeaa.AlbC
open Go.ChangeShapes Go.WideShapes Go.ChangeAt Go.RowKit Base AloA WldF Wri
set_option linter.unusedVariables false

/-- a book in block b that holds nothing but lists of bytes -/
def Nils (w : World) (b : Nat) : Prop := ∀ j, j < 8 → (∃ v, w.cell? ⟨b, j, none⟩ = some v ∧ w.frozen? ⟨b, j, none⟩ = false) ∧ (j ≠ 0 → w.cell? ⟨b, j, none⟩ = some (.slice none 0 0))

set_option maxRecDepth 20000 in
set_option maxHeartbeats 1000000 in
theorem alone_of (b : Nat) (R : Nat → Prop) (w : World) (hB : R b) (C1 : Hid (∀ j, j < 8 → j ≠ 0 → w.cell? ⟨b, j, none⟩ = some (.slice none 0 0)))
    (K : Hid (Calls Try.prog 50 #[.pointer (some ⟨b, 0, none⟩)] w fun e w' => e = .returned (.bool true) ∧ Wr R w w' ∧ Nils w' b)) :
    Calls Try.prog 26 #[.pointer (some ⟨b, 0, none⟩)] w fun e w' => e = .returned (.bool true) ∧ Wr R w w' := by
  go_enter Try.func26, Try.ntmps26
  go_wp2_with (first | (go_at_call 52; with_reducible refine (aloneInts_none b _ (C2.out 2 (by omega) (by omega))).mono ?_; rintro e w1 ⟨rfl, rfl⟩) | (go_at_call 51; with_reducible refine (aloneTexts_none b _ (C2.out 1 (by omega) (by omega))).mono ?_; rintro e w1 ⟨rfl, rfl⟩) | (go_at_call 53; with_reducible refine (aloneCounts_none b _ (C2.out 3 (by omega) (by omega))).mono ?_; rintro e w1 ⟨rfl, rfl⟩) | (go_at_call 54; with_reducible refine (aloneItems_none b _ (C2.out 4 (by omega) (by omega))).mono ?_; rintro e w1 ⟨rfl, rfl⟩) | (go_at_call 55; with_reducible refine (aloneFlows_none b _ (C2.out 5 (by omega) (by omega))).mono ?_; rintro e w1 ⟨rfl, rfl⟩) | (go_at_call 56; with_reducible refine (aloneBreaks_none b _ (C2.out 6 (by omega) (by omega))).mono ?_; rintro e w1 ⟨rfl, rfl⟩) | (go_at_call 57; with_reducible refine (aloneSystems_none b _ (C2.out 7 (by omega) (by omega))).mono ?_; rintro e w1 ⟨rfl, rfl⟩) | (go_at_call 50; refine K.out.mono ?_; rintro e w2 ⟨rfl, hb, hc⟩; have HB := hid hb; have C2 := hid (fun j hj hn => (hc j hj).2 hn); obtain ⟨⟨x0, q0, _⟩, _⟩ := hc 0 (by omega); have f0 : w2.frozen? ⟨b, 0, none⟩ = false := (by obtain ⟨⟨v, _, hh⟩, _⟩ := hc 0 (by omega); exact hh); have f1 : w2.frozen? ⟨b, 1, none⟩ = false := (by obtain ⟨⟨v, _, hh⟩, _⟩ := hc 1 (by omega); exact hh); have f2 : w2.frozen? ⟨b, 2, none⟩ = false := (by obtain ⟨⟨v, _, hh⟩, _⟩ := hc 2 (by omega); exact hh); have f3 : w2.frozen? ⟨b, 3, none⟩ = false := (by obtain ⟨⟨v, _, hh⟩, _⟩ := hc 3 (by omega); exact hh); have f4 : w2.frozen? ⟨b, 4, none⟩ = false := (by obtain ⟨⟨v, _, hh⟩, _⟩ := hc 4 (by omega); exact hh); have f5 : w2.frozen? ⟨b, 5, none⟩ = false := (by obtain ⟨⟨v, _, hh⟩, _⟩ := hc 5 (by omega); exact hh); have f6 : w2.frozen? ⟨b, 6, none⟩ = false := (by obtain ⟨⟨v, _, hh⟩, _⟩ := hc 6 (by omega); exact hh); have f7 : w2.frozen? ⟨b, 7, none⟩ = false := (by obtain ⟨⟨v, _, hh⟩, _⟩ := hc 7 (by omega); exact hh); have q2 := (hc 2 (by omega)).2 (by omega); have q1 := (hc 1 (by omega)).2 (by omega); have q3 := (hc 3 (by omega)).2 (by omega); have q4 := (hc 4 (by omega)).2 (by omega); have q5 := (hc 5 (by omega)).2 (by omega); have q6 := (hc 6 (by omega)).2 (by omega); have q7 := (hc 7 (by omega)).2 (by omega); clear hb hc))
  go_ret
  refine ⟨rfl, ?_⟩
  exact (((((((HB.out.trans (Wr.set _ _ hB)).trans (Wr.set _ _ hB)).trans (Wr.set _ _ hB)).trans (Wr.set _ _ hB)).trans (Wr.set _ _ hB)).trans (Wr.set _ _ hB)).trans (Wr.set _ _ hB)).trans (Wr.set _ _ hB)

theorem heap_alloc_old (w : World) (o : Obj) (b : Nat) (hb : b < w.heap.size) : (w.alloc o).heap[b]? = w.heap[b]? := Below.block ((Below.refl _ w).alloc (Nat.le_refl _) o) b hb

theorem cell_one (w : World) (x : Value) (ty : TypeId) (j : Nat) (u : Value) (hu : [x][j]? = some u) : (w.alloc (.cells #[x] ty)).cell? (Addr.add ⟨w.heap.size, 0, none⟩ j) = some u := by
  rw [Go.WideShapes.add_plain, Nat.zero_add]
  unfold World.cell?
  rw [heap_alloc_new]
  simpa using hu

theorem infoBytes : (Try.prog.info? 28).map (fun i => (i.zero, i.size, i.bytes)) = some (some (.slice none 0 0), 1, 24) := by kernel_rfl

def TakePost (b B n : Nat) (va : Option Addr) (vc : Nat) (xs : List Value) (l : Value) (w : World) (e : Ending) (w' : World) : Prop :=
  e = .returned (.tuple #[]) ∧ ∃ va' vc', w'.cell? ⟨b, 0, none⟩ = some (.slice va' (n + 1) vc') ∧ w'.frozen? ⟨b, 0, none⟩ = false ∧ w'.ownsRow B 28 1 (.slice va' (n + 1) vc') (n + 1) (xs ++ [l]) ∧ (∀ g, (Value.slice va' (n + 1) vc').ownBlock = some g → g ≠ b) ∧ ((Value.slice va' (n + 1) vc').ownBlock = (Value.slice va n vc).ownBlock ∨ (Value.slice va' (n + 1) vc').ownBlock = some (w.heap.size + 1)) ∧
    Wr (fun k => k = b ∨ (Value.slice va n vc).ownBlock = some k) w w' ∧ ∀ j, j ≠ 0 → w'.cell? ⟨b, j, none⟩ = w.cell? ⟨b, j, none⟩ ∧ w'.frozen? ⟨b, j, none⟩ = w.frozen? ⟨b, j, none⟩

set_option maxRecDepth 20000 in
set_option maxHeartbeats 1000000 in
theorem take_core (b B n : Nat) (va : Option Addr) (vc : Nat) (xs : List Value) (la : Option Addr) (ll lc : Nat) (w : World) (hB : B ≤ w.heap.size) (hb : b < w.heap.size) (hn : n ≤ 1099511627776) (h2 : w.cell? ⟨b, 0, none⟩ = some (.slice va n vc)) (hf : w.frozen? ⟨b, 0, none⟩ = false)
    (hown : w.ownsRow B 28 1 (.slice va n vc) n xs) (hnb : ∀ g, (Value.slice va n vc).ownBlock = some g → g ≠ b) :
    Calls Try.prog 49 #[.pointer (some ⟨b, 0, none⟩), .slice la ll lc] w (TakePost b B n va vc xs (.slice la ll lc) w) := by
  obtain ⟨i0, hi, hz0, hz1, hz2⟩ := info_parts infoBytes
  go_enter Try.func49, Try.ntmps49
  have hown1 : (w.alloc (.cells #[.slice la ll lc] 28)).ownsRow B 28 1 (.slice va n vc) n xs := World.ownsRow.alloc hown _
  go_wp2_with (at_builtin; (refine wpList_append_own_at _ rfl _ _ 22 rfl B 28 i0 (.slice none 0 0) 1 24 Try.underlying22 hi hz0 hz1 hz2 rfl (by decide) (Value.slice va n vc) _ _ rfl hown1 ⟨w.heap.size, 0, none⟩ 1 1 [.slice la ll lc] rfl ?c1 ?c2 ?c3 ?c4 ?c5 ?c6 ?_); rotate_left 6; intro v6 w6 hown6 hgr6 hnil6 hat6; obtain ⟨vb, vd, rfl⟩ := owns_shape hown6; have e6 := (hgr6.block b (by simp; omega) (fun e => hnb b e.symm rfl)).trans (heap_alloc_old w _ b hb); have q2 := (World.cell?_of_block (a := ⟨b, 0, none⟩) e6).trans h2; have f2 := (World.frozen?_of_block (a := ⟨b, 0, none⟩) e6).trans hf)
  case c1 => rfl
  case c2 => exact cell_one _ _ _
  case c3 => intro u hu; obtain rfl := List.mem_singleton.1 hu; rfl
  case c4 => unfold maxLen; omega
  case c5 => omega
  case c6 => simp; omega
  go_end0
  have hnb6 : ∀ g, (Value.slice vb (n + 1) vd).ownBlock = some g → g ≠ b := fun g hg => by
    rcases hat6 with h | h
    · exact hnb g (h ▸ hg)
    · rw [h] at hg
      cases hg
      simp; omega
  refine ⟨rfl, vb, vd, World.cell?_setCell_same _ _ _ q2, by rw [World.frozen?_setCell]; exact f2, ?_, hnb6, by simpa using hat6, ?_, fun j hj => ⟨?_, ?_⟩⟩
  · refine owns_keep hown6 (fun g hg => ?_)
    exact ((grown_set w6 ⟨b, 0, none⟩ (.slice vb (n + 1) vd)).block g (hown6.lt g hg).2 (fun e => hnb6 g hg (Option.some.inj e)))
  · refine Wr.on (Wr.on (Wr.ofBelow ((Below.refl _ w).alloc (Nat.le_refl _) _)) (Wr.ofGrown hgr6 (R := fun k => (Value.slice va n vc).ownBlock = some k) (fun k e => e)) (fun k e => .inl (.inr e))) (Wr.set (R := fun k => k = b) ⟨b, 0, none⟩ _ rfl) (fun k e => .inl (.inl e))
  · rw [World.cell?_setCell_other _ _ _ _ (by intro e2; cases e2; exact hj rfl)]
    exact World.cell?_of_block (a := ⟨b, j, none⟩) e6
  · rw [World.frozen?_setCell]
    exact World.frozen?_of_block (a := ⟨b, j, none⟩) e6

end Go.Proofs.Ythmcfnbnafdkeaa.AlbC
