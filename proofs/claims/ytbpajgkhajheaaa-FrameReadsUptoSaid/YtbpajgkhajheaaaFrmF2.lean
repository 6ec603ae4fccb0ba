/- A reader's Fork; the document's reader. -/
import Derived.Test.YtbpajgkhajheaaaFrmH
import Derived.Test.YtbpajgkhajheaaaFrmC2
import Derived.Deep.RegionHeld3
namespace Go.Proofs.Ytbpajgkhajheaaa.FrmF2
open Go.ChangeShapes Go.WideShapes Go.ChangeAt Go.RowKit Base Wri FrmP FrmA FrmD FrmE FrmF FrmG FrmQ FrmR FrmX FrmY FrmL FrmM FrmC2
set_option linter.unusedVariables false
set_option linter.unusedSimpArgs false

theorem clone_rd {B p : Nat} {va : Value} {r : Rd} {w : World} (h : IsRd w B p va r) (hl : r.g.length ≤ 4099) : Calls Try.prog 52 #[va] w fun e w' => ∃ a c, e = .returned (.slice a r.g.length c) ∧ w'.ownsRow w.heap.size 5 1 (.slice a r.g.length c) r.g.length (r.g.map bv) ∧ Below w.heap.size w w' := by
  obtain ⟨a, c, rfl, hba, hpos⟩ := h.slice
  cases a with
  | none =>
    refine (clone_nil w _ _).mono ?_
    rintro e w' ⟨rfl, rfl⟩
    have h0 : r.g.length = 0 := by
      apply Decidable.byContradiction
      intro hc
      obtain ⟨g, e, _⟩ := hpos (by omega)
      cases e
    have hg : r.g = [] := List.eq_nil_of_length_eq_zero h0
    refine ⟨none, 0, by rw [h0], ?_, Below.refl _ _⟩
    rw [hg]
    exact World.ownsRow_nil _ _ _ _
  | some ad =>
    have hown := h.own
    obtain ⟨g, rfl⟩ : ∃ g, ad = ⟨g, 0, none⟩ := by
      rcases hown.2 with ⟨h1, _⟩ | ⟨g, cap, cur, h1, _⟩
      · cases h1
      · injection h1 with e _ _; exact ⟨g, Option.some.inj e⟩
    refine (clone_some g 0 c r.g w (by omega) (fun i x hx => ?_) (hown.lt g rfl).2).mono ?_
    · have := hown.cells (g := g) rfl i (bv x) (by rw [List.getElem?_map, hx]; rfl)
      rwa [Go.WideShapes.add_plain] at this
    · rintro e w' ⟨v, rfl, h1, h2⟩
      obtain ⟨a', c', rfl⟩ := owns_shape h1
      exact ⟨a', c', rfl, h1, h2⟩

set_option maxRecDepth 20000 in
set_option maxHeartbeats 2000000 in
theorem fork_any (B p : Nat) (va : Value) (r : Rd) (w : World) (h : IsRd w B p va r) (hl : r.g.length ≤ 4099) :
    Calls Try.prog 26 #[.pointer (some ⟨p, 0, none⟩)] w fun e w' => ∃ q va', e = .returned (.pointer (some ⟨q, 0, none⟩)) ∧ IsRd w' w.heap.size q va' r ∧ w.heap.size ≤ q ∧ Below w.heap.size w w' := by
  obtain ⟨x0, x1, _, _⟩ := h.cells
  obtain ⟨a, c, rfl, _, _⟩ := h.slice
  have HC := hid (clone_rd (h.drewN 1) hl)
  have hp := h.lt
  have HO : Hid (r.g.length = r.g.length) := hid rfl
  generalize hb : r.broken = b0 at *
  clear h
  go_enter Try.func26, Try.ntmps26
  go_wp2_with fail
  go_region_held3 (fun w' => w'.cell? ⟨p, 0, none⟩ = some (.slice a r.g.length c) ∧ w'.cell? ⟨p, 1, none⟩ = some (.bool b0)) (first | assumption | (refine ⟨?_, ?_⟩ <;> first | assumption | go_keep)) (first
      | (go_at_call 52
         refine HC.out.mono ?_
         rintro e w3 ⟨a3, c3, rfl, hown3, hb3⟩
         have y0 : w3.cell? ⟨p, 0, none⟩ = some (.slice a r.g.length c) := (hb3.cell (p := ⟨p, 0, none⟩) hp).trans x0
         have y1 : w3.cell? ⟨p, 1, none⟩ = some (.bool b0) := (hb3.cell (p := ⟨p, 1, none⟩) hp).trans x1
         have H3 := hid (And.intro hown3 hb3)
         clear hown3 hb3))
  all_goals go_wp2_with fail
  all_goals go_ret
  all_goals exact ⟨_, _, rfl, ⟨by rw [hb]; exact heap_alloc_new _ _, World.ownsRow.alloc (w := w3) H3.out.1 _⟩, H3.out.2.size, (show Below w.heap.size w w3 from ⟨H3.out.2.os, H3.out.2.tape, H3.out.2.output, H3.out.2.size, H3.out.2.block⟩).alloc H3.out.2.size _⟩

end Go.Proofs.Ytbpajgkhajheaaa.FrmF2
