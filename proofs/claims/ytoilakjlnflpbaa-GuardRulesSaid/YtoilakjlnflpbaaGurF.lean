/- GuardRules: its arguments opened. -/
import Derived.Test.YtoilakjlnflpbaaGurE
import Derived.Test.YtoilakjlnflpbaaRoom
namespace Go.Proofs.Ytoilakjlnflpbaa.GurF
open Go.ChangeShapes Go.WideShapes Go.ChangeAt Go.RowKit Go.Deep Base Opn WldF GurA GurE NumM NumE RulA Txt LisA LisD GuaA GuaB GuaC GuaD GuaE GuaH
set_option linter.unusedVariables false

theorem rows_arg {H : Type} {enc : TypeId × Value → H} {W : World} {base : Nat} {spare : Nat → Bool} {held : Bool} {fuel m : Nat} {t e : TypeId} {fs : Array Field} {a : Option Addr} {n c : Nat} {x : DataW H × List MemPlace}
    (ht : Try.prog.underlying t = some (.slice e)) (he : Try.prog.underlying e = some (.struct fs)) (h1 : oneCellFields Try.prog fs = true) (h2 : Try.prog.cellsOf e = fs.size) (h3 : fs.size = m) (hm : 0 < m)
    (hf : ∀ (j : Nat) (f : Field), fs[j]? = some f → f.type = 3) (h : DataW.trod enc Try.prog W base spare held fuel t [.slice a n c] = some x) :
    ∃ F, RowsI W a n m F := by
  rcases row_at ht he h1 h2 h with ⟨rfl, rfl⟩ | ⟨p, rfl, hl, hmx, hi⟩
  · exact ⟨fun _ _ => 0, fun h0 => by omega, fun _ _ => by show _ ≤ (0 : Int) ∧ (0 : Int) ≤ _; omega⟩
  · rw [h3] at hi
    have hint : ∀ i, i < n → ∀ j, j < m → ∃ y, W.cell? (p.add (i * m + j)) = some (.int .i64 y) ∧ (Lit.int .i64 y).wf = true := fun i hin j hj => by
      have hj' : j < fs.size := by omega
      obtain ⟨v, z, k, hc, hz⟩ := hi i hin j _ (Array.getElem?_eq_getElem hj')
      rw [hf _ _ (Array.getElem?_eq_getElem hj')] at hz
      obtain ⟨y, e0, _, hw⟩ := DataW.trod_int Try.underlying3 hz
      simp only [List.cons.injEq, and_true] at e0
      exact ⟨y, by rw [hc, e0], hw⟩
    refine ⟨fun i j => match W.cell? (p.add (i * m + j)) with | some (.int _ y) => if -9223372036854775808 ≤ y ∧ y ≤ 9223372036854775807 then y else 0 | _ => 0, fun h0 => ?_, fun i j => ?_⟩
    · obtain ⟨b, off, spot⟩ := p
      obtain ⟨y0, hc0, _⟩ := hint 0 h0 0 hm
      have hspot : spot = none := by simpa [Addr.add] using World.cell?_spot hc0
      subst hspot
      refine ⟨b, off, rfl, by have := World.block_lt_of_cell? _ _ hc0; simpa [Addr.add] using this, fun i hin j hj => ?_⟩
      obtain ⟨y, hc, hw⟩ := hint i hin j hj
      have hb := Go.bounds_i64 hw
      have e : W.cell? ⟨b, off + i * m + j, none⟩ = some (.int .i64 y) := by
        rw [Go.WideShapes.add_plain] at hc
        rw [Nat.add_assoc]
        exact hc
      rw [e]
      simp only [hc]
      rw [if_pos (by omega)]
    · dsimp only
      split
      · split <;> omega
      · omega

theorem main {H : Type} {enc : TypeId × Value → H} {W : World} {base0 base2 : Nat} {sp0 sp2 : Nat → Bool} {hd0 hd2 : Bool} {d0 d2 : DataW H} {p0 p2 : List MemPlace}
    (a0 : Option Addr) (len0 cap0 : Nat) (h0 : ∃ fuel, DataW.trod enc Try.prog W base0 sp0 hd0 fuel 22 [.slice a0 len0 cap0] = some (d0, p0)) (z0 : ∀ m ∈ d0.weights Try.prog 22, m ≤ reachBytes)
    (t : Int) (wt : (Lit.int .i64 t).wf = true)
    (a2 : Option Addr) (len2 cap2 : Nat) (h2 : ∃ fuel, DataW.trod enc Try.prog W base2 sp2 hd2 fuel 23 [.slice a2 len2 cap2] = some (d2, p2)) (z2 : ∀ m ∈ d2.weights Try.prog 23, m ≤ reachBytes) :
    Calls Try.prog 3 #[.slice a0 len0 cap0, .int .i64 t, .slice a2 len2 cap2] W fun e w' => e = .returned (.bool true) ∧ Below W.heap.size W w' := by
  obtain ⟨k0, h0⟩ := h0
  obtain ⟨k2, h2⟩ := h2
  have r0 := Room.rows_room Try.underlying22 h0 z0
  have r2 := Room.rows_room Try.underlying23 h2 z2
  rw [show Try.prog.bytesOf 38 = 40 by kernel_rfl] at r0
  rw [show Try.prog.bytesOf 29 = 56 by kernel_rfl] at r2
  unfold reachBytes at r0 r2
  obtain ⟨fs, gu, g1, g2, g5, gt0⟩ := under_now
  obtain ⟨fs5, su, s1, s2, s5, st0⟩ := under_sys
  obtain ⟨F, HF⟩ := rows_arg Try.underlying22 su s1 s2 s5 (by omega) (type_at (n := 5) st0) h0
  obtain ⟨G, HG⟩ := rows_arg Try.underlying23 gu g1 g2 g5 (by omega) (type_at (n := 7) gt0) h2
  exact rules_core a0 a2 len0 cap0 len2 cap2 F G t _ _ _ _ _ W (by omega) (by omega) rfl (hid HF) (hid HG) (hid live_any)
    (hid fun k w => System_is (G 0 0) (G 0 1) (G 0 2) (G 0 3) (G 0 4) (G 0 5) (G 0 6) _ _ _ _ _ t w) (hid fun k w => GurD.RSystem_is (G 0 0) (G 0 1) (G 0 2) (G 0 3) (G 0 4) (G 0 5) (G 0 6) _ _ _ _ _ t w) (hid fun k w => Field_any (G 0 0) (G 0 1) (G 0 2) (G 0 3) (G 0 4) (G 0 5) (G 0 6) _ _ _ _ _ t w) (hid fun k w => RField_any (G 0 0) (G 0 1) (G 0 2) (G 0 3) (G 0 4) (G 0 5) (G 0 6) _ _ _ _ _ t w)

end Go.Proofs.Ytoilakjlnflpbaa.GurF
