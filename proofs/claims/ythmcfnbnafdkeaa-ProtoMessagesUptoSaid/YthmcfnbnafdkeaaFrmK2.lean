/- The document's reader's Fork. -/
import Derived.Test.YthmcfnbnafdkeaaFrmK
import Derived.Deep.RegionHeld3
namespace Go.Proofs.Ythmcfnbnafdkeaa.FrmK2
open Go.ChangeShapes Go.WideShapes Go.ChangeAt Go.RowKit Base Wri FrmP FrmA FrmD FrmE FrmF FrmQ FrmR FrmV FrmX FrmY FrmL FrmM FrmU FrmC2 FrmI FrmJ FrmK
set_option linter.unusedVariables false
set_option linter.unusedSimpArgs false
attribute [local go_sem ↓ high] builtin_app

theorem own_room {W : World} {B n oc : Nat} {oa : Option Addr} {s : Bs} (hown : W.ownsRow B 5 1 (.slice oa n oc) n (s.map bv)) (hn : n = s.length) :
    n ≤ oc ∧ oc ≤ 9223372036854775807 ∧ (oa = none → oc = 0) ∧ BAt W W.heap.size oa s ∧ (∀ ad, oa = some ad → B ≤ ad.block) := by
  rcases hown.2 with ⟨e1, e2⟩ | ⟨g, cap, cur, e1, e2, e3, e4, e5, e6, e7⟩
  · injection e1 with e3 e4 e5
    subst e3 e5
    exact ⟨by omega, by omega, fun _ => rfl, fun h0 => by omega, fun ad e => by cases e⟩
  · injection e1 with e3' e4' e5'
    subst e3' e5'
    unfold maxLen at e5
    refine ⟨e4, by omega, fun e => (by cases e), fun h0 => ⟨g, 0, rfl, (hown.lt g rfl).2, fun i x hx => ?_⟩, fun ad e => by cases e; exact e2⟩
    have := hown.cells (g := g) rfl i (bv x) (by rw [List.getElem?_map, hx]; rfl)
    rwa [Go.WideShapes.add_plain] at this

set_option maxRecDepth 20000 in
set_option maxHeartbeats 2000000 in
theorem rfork_any (p c : Nat) (a : Option Addr) (r : Rd) (w : World) (h : IsDr w p a c r) (hl : r.g.length ≤ 4398046511104) :
    Calls Try.prog 13 #[.pointer (some ⟨p, 0, none⟩)] w fun e w' => ∃ q a' c', e = .returned (.pointer (some ⟨q, 0, none⟩)) ∧ IsDr w' q a' c' r ∧ (∀ ad, a' = some ad → w.heap.size ≤ ad.block) ∧ w.heap.size ≤ q ∧ Below w.heap.size w w' := by
  obtain ⟨x0, x1, _, _⟩ := h.cells
  have hp := h.lt
  have hba0 : Below w.heap.size w (w.alloc (.cells #[] 5)) := (Below.refl w.heap.size w).alloc (Nat.le_refl _) (.cells #[] 5)
  have hba : Below w.heap.size w (w.alloc (.cells #[] 5)).drew := ⟨hba0.os, hba0.tape, hba0.output, hba0.size, hba0.block⟩
  have hemp : (w.alloc (.cells #[] 5)).drew.ownsRow w.heap.size 5 1 (.slice (some ⟨w.heap.size, 0, none⟩) 0 0) 0 [] := empty_own w
  obtain ⟨oa1, oc1, w1, hrun1, hown1, hgrow1⟩ := bytes_run (w.alloc (.cells #[] 5)).drew w.heap.size hba.size _ [] 0 hemp w.heap.size a r.g c (h.bytes.below hba) r.g.length rfl (by omega)
  have hb1 : Below w.heap.size w w1 := Below.grown hba hgrow1 hba.size (fun g e => by cases e; exact Nat.le_refl _)
  rw [Nat.zero_add] at *
  rw [List.nil_append] at hown1
  have u0 : (w.alloc (.cells #[] 5)).drew.cell? ⟨p, 0, none⟩ = some (.slice a r.g.length c) := (hba.cell (p := ⟨p, 0, none⟩) hp).trans x0
  have u1 : (w.alloc (.cells #[] 5)).drew.cell? ⟨p, 1, none⟩ = some (.bool r.broken) := (hba.cell (p := ⟨p, 1, none⟩) hp).trans x1
  have y0 : w1.cell? ⟨p, 0, none⟩ = some (.slice a r.g.length c) := (hb1.cell (p := ⟨p, 0, none⟩) hp).trans x0
  have y1 : w1.cell? ⟨p, 1, none⟩ = some (.bool r.broken) := (hb1.cell (p := ⟨p, 1, none⟩) hp).trans x1
  have H1 := hid (And.intro hown1 hb1)
  have HR : Hid (r.g.length = r.g.length) := hid rfl
  generalize hb : r.broken = b0 at *
  clear hown1 hgrow1 hb1 h hba hba0 hemp
  go_enter Try.func13, Try.ntmps13
  go_wp2_with fail
  go_region_held3 (fun w' => w'.cell? ⟨p, 0, none⟩ = some (.slice a r.g.length c) ∧ w'.cell? ⟨p, 1, none⟩ = some (.bool b0)) (first | assumption | (refine ⟨?_, ?_⟩ <;> first | assumption | go_keep)) (fail)
  all_goals go_wp2_with fail
  all_goals go_ret
  all_goals
    obtain ⟨k1, k2, k3, k4, k5⟩ := own_room H1.out.1 rfl
    refine ⟨_, oa1, oc1, rfl, ⟨by rw [hb]; exact heap_alloc_new _ _, ?_, k1, k2⟩, k5, H1.out.2.size, H1.out.2.alloc H1.out.2.size _⟩
    exact (k4.below ((Below.refl w1.heap.size w1).alloc (Nat.le_refl _) _)).mono (by simp)

end Go.Proofs.Ythmcfnbnafdkeaa.FrmK2
