/- Lists of structs of ints that came in. -/
import Derived.Test.YtcnfgngkejjecaaOpn
import Derived.Test.YtcnfgngkejjecaaWrmA
namespace Go.Proofs.Ytcnfgngkejjecaa.Rows2
set_option linter.unusedVariables false
open Go.ChangeShapes Go.WideShapes Go.ChangeAt Go.RowKit Go.Deep Base Opn

/-- n rows of m ints each -/
def RowsI (w : World) (a : Option Addr) (n m : Nat) (F : Nat → Nat → Int) : Prop :=
  (0 < n → ∃ g o, a = some ⟨g, o, none⟩ ∧ g < w.heap.size ∧ ∀ i, i < n → ∀ j, j < m → w.cell? ⟨g, o + i * m + j, none⟩ = some (.int .i64 (F i j))) ∧ ∀ i j, -9223372036854775808 ≤ F i j ∧ F i j ≤ 9223372036854775807

theorem RowsI.below {w w' : World} {a : Option Addr} {n m : Nat} {F : Nat → Nat → Int} (h : RowsI w a n m F) (hb : Below w.heap.size w w') : RowsI w' a n m F := by
  refine ⟨fun h0 => ?_, h.2⟩
  obtain ⟨g, o, rfl, hg, hc⟩ := h.1 h0
  exact ⟨g, o, rfl, Nat.lt_of_lt_of_le hg hb.size, fun i hi j hj => (hb.cell (p := ⟨g, o + i * m + j, none⟩) hg).trans (hc i hi j hj)⟩

theorem rows_arg {H : Type} {enc : TypeId × Value → H} {W : World} {base : Nat} {spare : Nat → Bool} {held : Bool} {fuel m : Nat} {t e : TypeId} {fs : Array Field} {a : Option Addr} {n c : Nat} {x : DataW H × List MemPlace}
    (ht : Try.prog.underlying t = some (.slice e)) (he : Try.prog.underlying e = some (.struct fs)) (h1 : oneCellFields Try.prog fs = true) (h2 : Try.prog.cellsOf e = fs.size) (h3 : fs.size = m) (hm : 0 < m)
    (hf : ∀ j, j < m → fs[j]?.map (·.type) = some 3) (h : DataW.trod enc Try.prog W base spare held fuel t [.slice a n c] = some x) :
    n ≤ 9223372036854775807 ∧ ∃ F, RowsI W a n m F := by
  rcases row_at ht he h1 h2 h with ⟨rfl, rfl⟩ | ⟨p, rfl, hl, hmx, hi⟩
  · exact ⟨by omega, fun _ _ => 0, fun h0 => by omega, fun _ _ => by show _ ≤ (0 : Int) ∧ (0 : Int) ≤ _; omega⟩
  · unfold maxLen at hmx
    refine ⟨by omega, ?_⟩
    rw [h3] at hi
    have hint : ∀ i, i < n → ∀ j, j < m → ∃ y, W.cell? (p.add (i * m + j)) = some (.int .i64 y) ∧ (Lit.int .i64 y).wf = true := fun i hin j hj => by
      obtain ⟨f, hf, ht⟩ := Option.map_eq_some_iff.1 (hf j hj)
      obtain ⟨v, z, k, hc, hz⟩ := hi i hin j f hf
      rw [ht] at hz
      obtain ⟨y, e0, _, hw⟩ := DataW.trod_int Try.underlying3 hz
      simp only [List.cons.injEq, and_true] at e0
      exact ⟨y, by rw [hc, e0], hw⟩
    refine ⟨fun i j => match W.cell? (p.add (i * m + j)) with | some (.int _ y) => if -9223372036854775808 ≤ y ∧ y ≤ 9223372036854775807 then y else 0 | _ => 0, fun h0 => ?_, fun i j => ?_⟩
    · obtain ⟨b, off, spot⟩ := p
      obtain ⟨y0, hc0, _⟩ := hint 0 h0 0 hm
      have hspot : spot = none := by simpa [Addr.add] using World.cell?_spot hc0
      subst hspot
      refine ⟨b, off, rfl, by have := World.block_lt_of_cell? _ _ hc0; simpa [Addr.add] using this, fun i hin j hj => ?_⟩
      obtain ⟨y, hc, hw⟩ := hint i hin j hj
      have hb := Go.bounds_i64 hw
      have e : W.cell? ⟨b, off + i * m + j, none⟩ = some (.int .i64 y) := by
        rw [Go.WideShapes.add_plain] at hc
        rw [Nat.add_assoc]
        exact hc
      rw [e]
      simp only [hc]
      rw [if_pos (by omega)]
    · dsimp only
      split
      · split <;> omega
      · omega

end Go.Proofs.Ytcnfgngkejjecaa.Rows2
