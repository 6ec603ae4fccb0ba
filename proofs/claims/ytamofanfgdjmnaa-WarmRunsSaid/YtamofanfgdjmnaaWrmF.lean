/- A warm-up in memory: what it refuses, how it is filled, what it tells. -/
import Derived.Test.YtamofanfgdjmnaaWrmE
import Derived.Test.YtamofanfgdjmnaaWri
namespace Go.Proofs.Ytamofanfgdjmnaa.WrmF
set_option linter.unusedVariables false
open Go.ChangeShapes Go.WideShapes Go.ChangeAt Go.RowKit Base WrmP NumM NumC NumE NumA WrmA WrmB WrmC WrmD WrmE Wri

theorem keep_nat (n : Nat) : keep (n : Int) = ((min n 9223372036854775807 : Nat) : Int) := by
  unfold keep
  by_cases hf : Fits (n : Int)
  · rw [if_pos hf]; unfold Fits at hf; omega
  · rw [if_neg hf, if_neg (by omega)]; unfold Fits at hf; omega

theorem filled_any (m : Wm) (h : m.Ok) (t past : Nat) (h1 : m.last ≤ t) (h2 : t ≤ 1152921504606846976) (hp : past ≤ 4611686018427387904) (w : World) :
    Calls Try.prog 48 #[.agg #[.int .i64 m.tok, .int .i64 m.sec, .bool m.bg], .agg #[.int .i64 m.c, .int .i64 m.s], .int .i64 t, .int .i64 past] w fun e w' => e = .returned (.agg #[.int .i64 (m.tk t past : Nat), .int .i64 (secOf t : Nat), .bool true]) ∧ Below w.heap.size w w' := by
  have hg := h.g m
  have ht := h.tok
  have hkn := keep_nat m.tok
  have hkc := keep_nat (m.come t past)
  refine filled_core m.tok m.sec m.c m.s t past (t % 1000000 : Nat) (secOf t : Nat) (m.G : Nat) (keep (m.come t past : Nat)) _ m.bg w (by omega) rfl (Int.ofNat_tmod t 1000000) (by unfold wrap64; omega) (by unfold secOf wrap64; omega) (hid ⟨by unfold Fits; omega, by rw [hkc]; unfold Fits; omega⟩) (hid fun w => coming_any m h t past h1 h2 w) (hid fun w => greatest_any m.c m.s (by unfold Wm.G at hg; omega) w) ?_
  unfold Wm.tk
  by_cases hb : m.bg = true ∧ m.sec = secOf t
  · left
    rw [if_pos hb]
    refine ⟨hb.1, by rw [hb.2]; simp, ?_⟩
    rw [hb.1, hb.2]
  · right
    rw [if_neg hb]
    refine ⟨?_, _, _, _, rfl, rfl, rfl, ?_⟩
    · cases hbg : m.bg
      · exact .inl rfl
      · refine .inr ⟨rfl, ?_⟩
        have : ¬ m.sec = secOf t := fun e => hb ⟨hbg, e⟩
        simp; omega
    · have e1 : keep (keep (m.tok : Int) + keep (m.come t past : Nat)) = ((min (m.tok + min (m.come t past) 9223372036854775807) 9223372036854775807 : Nat) : Int) := by
        rw [hkn, hkc, ← Int.natCast_add, keep_nat]
        congr 1
        omega
      rw [e1]
      have e2 : wrap64 (min ((min (m.tok + min (m.come t past) 9223372036854775807) 9223372036854775807 : Nat) : Int) (m.G : Nat) - (past : Int)) = min ((min (m.tok + min (m.come t past) 9223372036854775807) 9223372036854775807 : Nat) : Int) (m.G : Nat) - (past : Int) := by
        generalize m.come t past = z at *
        unfold wrap64; omega
      rw [e2]
      have e3 : ((min (m.tok + m.come t past) m.G - past : Nat) : Int) = max (min ((min (m.tok + min (m.come t past) 9223372036854775807) 9223372036854775807 : Nat) : Int) (m.G : Nat) - (past : Int)) 0 := by
        generalize m.come t past = z at *
        omega
      rw [e3]

def wv (m : Wm) : Array Value := #[.int .i64 m.c, .int .i64 m.s, .int .i64 m.tok, .int .i64 m.sec, .bool m.bg, .int .i64 m.last]

/-- the warm-up m lies in block p -/
def At (w : World) (p : Nat) (m : Wm) : Prop := w.heap[p]? = some (.cells (wv m) 72)

theorem At.lt {w : World} {p : Nat} {m : Wm} (h : At w p m) : p < w.heap.size := (Array.getElem?_eq_some_iff.1 h).1
theorem At.cells {w : World} {p : Nat} {m : Wm} (h : At w p m) : w.cell? ⟨p, 0, none⟩ = some (.int .i64 m.c) ∧ w.cell? ⟨p, 1, none⟩ = some (.int .i64 m.s) ∧ w.cell? ⟨p, 2, none⟩ = some (.int .i64 m.tok) ∧ w.cell? ⟨p, 3, none⟩ = some (.int .i64 m.sec) ∧
    w.cell? ⟨p, 4, none⟩ = some (.bool m.bg) ∧ w.cell? ⟨p, 5, none⟩ = some (.int .i64 m.last) ∧ ∀ o, w.frozen? ⟨p, o, none⟩ = false := by
  unfold At wv at h
  exact ⟨by simp [World.cell?, h], by simp [World.cell?, h], by simp [World.cell?, h], by simp [World.cell?, h], by simp [World.cell?, h], by simp [World.cell?, h], fun o => by simp [World.frozen?, h]⟩
theorem At.below {w w' : World} {B p : Nat} {m : Wm} (h : At w p m) (hb : Below B w w') (hp : p < B) : At w' p m := (hb.block p hp).trans h
theorem At.wr {R : Nat → Prop} {w w' : World} {p : Nat} {m : Wm} (h : At w p m) (hb : Wr R w w') (hr : ¬ R p) : At w' p m := (hb.block p h.lt hr).trans h
theorem At.new (w : World) (m : Wm) : At (w.alloc (.cells (wv m) 72)) w.heap.size m := heap_alloc_new _ _

/-- a filling, stored -/
theorem At.fills {w : World} {p : Nat} {m m' : Wm} (h : At w p m) (e1 : m'.c = m.c) (e2 : m'.s = m.s) : At ((((w.setCell ⟨p, 2, none⟩ (.int .i64 m'.tok)).setCell ⟨p, 3, none⟩ (.int .i64 m'.sec)).setCell ⟨p, 4, none⟩ (.bool m'.bg)).setCell ⟨p, 5, none⟩ (.int .i64 m'.last)) p m' := by
  have := heap_setCell_same _ _ 5 _ _ (.int .i64 (m'.last : Int)) (heap_setCell_same _ _ 4 _ _ (.bool m'.bg) (heap_setCell_same _ _ 3 _ _ (.int .i64 (m'.sec : Int)) (heap_setCell_same _ _ 2 _ _ (.int .i64 (m'.tok : Int)) h)))
  unfold At
  rw [this]
  unfold wv
  simp [e1, e2]

end Go.Proofs.Ytamofanfgdjmnaa.WrmF
