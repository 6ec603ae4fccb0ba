/- The document's Frame and Frames; its reader's small calls. -/
import Derived.Test.YthmcfnbnafdkeaaFrmL
import Derived.Laws.OwnMore
namespace Go.Proofs.Ythmcfnbnafdkeaa.FrmI
open Go.ChangeShapes Go.WideShapes Go.ChangeAt Go.RowKit Base Wri FrmP FrmA FrmD FrmE FrmF FrmQ FrmR FrmX FrmY FrmL
set_option linter.unusedVariables false
set_option linter.unusedSimpArgs false

theorem firstErr_one {q : Bs} (h : firstErr [q] ≠ 0) (r : List Bs) : firstErr (q :: r) = firstErr [q] := by
  by_cases h1 : q.length > 4096
  · rw [firstErr_long h1, firstErr_long h1]
  · by_cases h2 : q.length = 0
    · rw [firstErr_zero h2, firstErr_zero h2]
    · exfalso
      apply h
      show (if q.length > 4096 then (5 : Int) else if q.length = 0 then 6 else 0) = 0
      rw [if_neg h1, if_neg h2]
theorem firstErr_fine {q : Bs} (h1 : ¬ 4096 < q.length) (h2 : ¬ q.length = 0) : firstErr [q] = 0 := by
  show (if q.length > 4096 then (5 : Int) else if q.length = 0 then 6 else 0) = 0
  rw [if_neg h1, if_neg h2]

theorem lit_own (w : World) (x y : Int) : (w.alloc (.cells #[.int .u8 0, .int .u8 0, .int .u8 x, .int .u8 y] 5)).ownsRow w.heap.size 5 1 (.slice (some ⟨w.heap.size, 0, none⟩) 4 4) 4 [.int .u8 0, .int .u8 0, .int .u8 x, .int .u8 y] :=
  ⟨rfl, .inr ⟨_, 4, _, rfl, Nat.le_refl _, heap_alloc_new _ _, Nat.le_refl _, by unfold maxLen; omega, rfl, rfl⟩⟩

set_option maxRecDepth 20000 in
set_option maxHeartbeats 1000000 in
theorem rframe_any (a : Option Addr) (cap : Nat) (q : Bs) (w : World) (hq : q.length ≤ 1099511620000) (HB : Hid (BAt w w.heap.size a q)) :
    Calls Try.prog 38 #[.slice a q.length cap] w fun e w' => (∃ v, e = .returned (.tuple #[v, .int .i64 (firstErr [q])]) ∧ (firstErr [q] = 0 → Right q ∧ w'.ownsRow w.heap.size 5 1 v (frame q).length ((frame q).map bv)) ∧ (firstErr [q] ≠ 0 → v = .slice none 0 0)) ∧ Below w.heap.size w w' := by
  obtain ⟨i0, hi, hz0, hz1, hz2⟩ := info_parts infoU8
  obtain ⟨L, hL⟩ : ∃ L, q.length = L := ⟨_, rfl⟩
  have HQL := hid hL
  rw [hL] at hq ⊢
  clear hL
  by_cases hlong : 4096 < L
  · have HE : Hid (firstErr [q] = 5) := hid (firstErr_long (by rw [HQL.out]; exact hlong) [])
    go_enter Try.func38, Try.ntmps38
    go_wp2_with fail
    go_ret2
    exact ⟨⟨_, by rw [HE.out]; rfl, fun h => by rw [HE.out] at h; exact absurd h (by decide), fun _ => rfl⟩, Below.refl _ _⟩
  · by_cases hzero : L = 0
    · have HE : Hid (firstErr [q] = 6) := hid (firstErr_zero (by rw [HQL.out]; exact hzero) [])
      subst hzero
      go_enter Try.func38, Try.ntmps38
      go_wp2_with fail
      go_ret2
      exact ⟨⟨_, by rw [HE.out]; rfl, fun h => by rw [HE.out] at h; exact absurd h (by decide), fun _ => rfl⟩, Below.refl _ _⟩
    · obtain ⟨g, o, rfl, hg, hc⟩ := HB.out (by rw [HQL.out]; omega)
      have HE : Hid (firstErr [q] = 0) := hid (firstErr_fine (by rw [HQL.out]; exact hlong) (by rw [HQL.out]; exact hzero))
      have HCQ := hid hc
      clear hc
      go_enter Try.func38, Try.ntmps38
      go_wp2_with (at_builtin
                   refine wpList_append_own_at _ rfl _ _ 28 rfl w.heap.size 5 i0 (.int .u8 0) 1 1 Try.underlying28 hi hz0 hz1 hz2 rfl (by decide) _ 4 _ rfl (lit_own w _ _) ⟨g, o, none⟩ L _ (q.map bv) rfl (by rw [List.length_map, HQL.out, Nat.mul_one]) (news_of (fun i x hx => (((Below.refl w.heap.size w).alloc (Nat.le_refl _) _).cell (p := ⟨g, o + i, none⟩) hg).trans (HCQ.out i x hx))) (one_cells _) (by unfold maxLen; omega) (by omega) (by simp) ?_
                   intro v4 w4 hown4 hgrow4 _ _
                   have hb4 : Below w.heap.size w w4 := Below.grown ((Below.refl _ _).alloc (Nat.le_refl _) _) hgrow4 (by simp) (fun g e => by cases e; exact Nat.le_refl _)
                   have H4 := hid (And.intro hown4 hb4)
                   clear hown4 hgrow4 hb4)
      go_ret2
      refine ⟨⟨_, by rw [HE.out]; rfl, fun _ => ⟨by unfold Right; rw [HQL.out]; omega, ?_⟩, fun h => absurd HE.out h⟩, H4.out.2⟩
      have h4 := H4.out.1
      rw [frame_eq, List.map_append, List.length_append, HQL.out, head4_bv L (by omega)]
      have e3 : (L : Int) / 256 = ((L / 256 : Nat) : Int) := by omega
      have e4 : (L : Int) % 256 = ((L % 256 : Nat) : Int) := by omega
      rw [← e3, ← e4]
      exact h4

end Go.Proofs.Ythmcfnbnafdkeaa.FrmI
