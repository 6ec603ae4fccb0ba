/- Contracts of HandInts, KeptInts and SameInts: numbers handed in with marked room behind them. -/
import Derived.Test.YtoilakjlnflpbaaWldG
import Derived.OwnWalk
namespace Go.Proofs.Ytoilakjlnflpbaa.Mem
open Go.ChangeShapes Go.WideShapes Go.ChangeAt Go.RowKit Base WldF WldG

/-- numbers, and the marks behind them -/
def markF (n : Nat) (f : Nat → Int) : Nat → Int := fun j => if j < n then f j else -700 - (j : Int) + n
/-- made places, the first k of them filled -/
def fillF (k : Nat) (g : Nat → Int) : Nat → Int := fun j => if j < k then g j else 0

theorem fillF_set (k : Nat) (g : Nat → Int) : (fun j => if j = k then g k else fillF k g j) = fillF (k + 1) g := by
  funext j
  unfold fillF
  by_cases h : j = k
  · subst h; simp
  · by_cases h2 : j < k
    · simp [h, h2, Nat.lt_succ_of_lt h2]
    · simp [h, h2]; omega

/-- a list of ints that lies somewhere -/
def IntsAt (w : World) (a : Option Addr) (n : Nat) (f : Nat → Int) : Prop := 0 < n → ∃ g o, a = some ⟨g, o, none⟩ ∧ g < w.heap.size ∧ ∀ i, i < n → w.cell? ⟨g, o + i, none⟩ = some (.int .i64 (f i))

theorem IntsAt.congr {w : World} {a : Option Addr} {n : Nat} {f f' : Nat → Int} (h : IntsAt w a n f) (e : ∀ i, i < n → f i = f' i) : IntsAt w a n f' := fun h0 => by
  obtain ⟨g, o, ha, hg, hc⟩ := h h0
  exact ⟨g, o, ha, hg, fun i hi => by rw [← e i hi]; exact hc i hi⟩

theorem IntsAt.below {w w' : World} {a : Option Addr} {n : Nat} {f : Nat → Int} (h : IntsAt w a n f) (hb : Below w.heap.size w w') : IntsAt w' a n f := fun h0 => by
  obtain ⟨g, o, ha, hg, hc⟩ := h h0
  exact ⟨g, o, ha, Nat.lt_of_lt_of_le hg hb.size, fun i hi => (hb.cell (p := ⟨g, o + i, none⟩) hg).trans (hc i hi)⟩

theorem Row.intsAt {w : World} {g n : Nat} {f : Nat → Int} (h : Row w g n f) (hg : g < w.heap.size) (m : Nat) (hm : m ≤ n) : IntsAt w (some ⟨g, 0, none⟩) m f := fun _ => ⟨g, 0, rfl, hg, fun i hi => by rw [Nat.zero_add]; exact (h i (by omega)).1⟩

end Go.Proofs.Ytoilakjlnflpbaa.Mem
