/- The walk of WorldTicks: it returns true for every time and ticks. -/
import Derived.Test.YtbihelpnojjacaaGreatWldD
import Derived.OwnWalk
import Derived.WalkSmall
import Derived.Laws.AppendOwnNone
import Derived.Maps.AppendAt
namespace Go.Proofs.YtbihelpnojjacaaGreat.WldF
open Go.ChangeShapes Go.WideShapes Go.ChangeAt Go.RowKit Base ClkM Clk WldA WldB WldC WldD

theorem infoInt : (Tryz.prog.info? 3).map (fun i => (i.zero, i.size, i.bytes)) = some (some (.int .i64 0), 1, 8) := by kernel_rfl

theorem grown_set (w : World) (a : Addr) (v : Value) : w.grownBy (w.setCell a v) (some a.block) := by
  refine ⟨rfl, rfl, rfl, by simp, ?_⟩
  intro k _ hk
  exact heap_setCell_other w a k v (fun h => hk (by rw [h]))

/-- what is owned above a block stays owned, when that block alone turns -/
theorem own_keep {w w' : World} {base b : Nat} {e : TypeId} {size : Nat} {v : Value} {n : Nat} {xs : List Value} (h : w.ownsRow base e size v n xs) (hg : w.grownBy w' (some b)) (hb : b < base) :
    w'.ownsRow base e size v n xs := by
  refine h.kept hg (.inr ?_)
  intro hv
  have := (h.lt b hv).1
  omega

/-- the sum of the first k -/
def sumTo (f : Nat → Int) : Nat → Int
  | 0 => 0
  | k + 1 => sumTo f k + f k

theorem sumTo_le (f : Nat → Int) (M : Int) (h : ∀ i, 0 ≤ f i ∧ f i ≤ M) (k : Nat) : 0 ≤ sumTo f k ∧ sumTo f k ≤ k * M := by
  induction k with
  | zero => simp [sumTo]
  | succ k ih =>
    have := h k
    simp only [sumTo]
    have e : ((k + 1 : Nat) : Int) * M = k * M + M := by rw [Int.natCast_add, Int.add_mul]; simp
    omega

/-- the first k of a row -/
def firsts (f : Nat → Int) (k : Nat) : List Int := (List.range k).map f

theorem firsts_succ (f : Nat → Int) (k : Nat) : firsts f (k + 1) = firsts f k ++ [f k] := by simp [firsts, List.range_succ]
theorem firsts_len (f : Nat → Int) (k : Nat) : (firsts f k).length = k := by simp [firsts]
theorem firsts_get (f : Nat → Int) (k i : Nat) (h : i < k) : (firsts f k).getD i 0 = f i := by simp [firsts, List.getD, h]

theorem tickF_firsts (s : Int) (f : Nat → Int) (k : Nat) (h0 : ∀ i, 0 ≤ f i) (h : s + sumTo f k ≤ 1152921504606846976) : tickF s (firsts f k) = some (s + sumTo f k) := by
  induction k with
  | zero => simp [firsts, tickF, sumTo]
  | succ k ih =>
    have := h0 k
    simp only [sumTo] at h ⊢
    rw [firsts_succ, tickF_snoc, ih (by omega)]
    simp only [Option.bind_some]
    rw [if_pos (by omega)]
    congr 1
    omega

/-- what an owned row of numbers is: nil where there is none, else a row of the call's own -/
theorem own_row {w : World} {base : Nat} {v : Value} {n : Nat} {xs : List Int} (h : w.ownsRow base 3 1 v n (xs.map (Value.int .i64))) (hn : 0 < n) (hx : xs.length = n) :
    ∃ g cap, v = .slice (some ⟨g, 0, none⟩) n cap ∧ base ≤ g ∧ g < w.heap.size ∧ ∀ i, i < n → w.cell? ⟨g, 0 + i, none⟩ = some (.int .i64 (xs.getD i 0)) := by
  obtain ⟨hl, h⟩ := h
  rcases h with ⟨_, h0⟩ | ⟨g, cap, cur, hv, hg, hh, hc, hm, hs, hcur⟩
  · omega
  · refine ⟨g, cap, hv, hg, ?_, fun i hi => ?_⟩
    · by_cases hlt : g < w.heap.size
      · exact hlt
      · rw [Array.getElem?_eq_none (by omega)] at hh; cases hh
    · have e : cur[i]? = some (.int .i64 (xs.getD i 0)) := by
        have h1 : (cur.toList.take (n * 1))[i]? = (xs.map (Value.int .i64))[i]? := by rw [hcur]
        rw [List.getElem?_take, if_pos (by omega), List.getElem?_map] at h1
        rw [← Array.getElem?_toList, h1]
        have hi2 : i < xs.length := by omega
        simp [List.getD, hi2]
      simp [World.cell?, hh, e]

/-- the loop's relation: a is the first clock's block -/
def Rel (W : World) (A : Nat) (s : Int) (f : Nat → Int) (len : Nat) (sum all i : Value) (wr : World) : Prop :=
  ∃ (k : Nat) (v0 : Value), v0 = all ∧ k ≤ len ∧ k ≤ 1000 ∧ i = .int .i64 k ∧ sum = .int .i64 (sumTo f k) ∧
    wr.ownsRow (A + 2) 3 1 v0 k ((firsts f k).map (Value.int .i64)) ∧
    wr.cell? ⟨A, 0, none⟩ = some (.int .i64 (s + sumTo f k)) ∧ wr.frozen? ⟨A, 0, none⟩ = false ∧
    wr.cell? ⟨A + 1, 0, none⟩ = some (.int .i64 s) ∧ wr.frozen? ⟨A + 1, 0, none⟩ = false ∧
    Below W.heap.size W wr ∧ A + 2 ≤ wr.heap.size

theorem wf_u32 {n : Int} (h : (Lit.int .u32 n).wf = true) : 0 ≤ n ∧ n ≤ 4294967295 := by
  have := Go.bounds_u32 h
  omega

end Go.Proofs.YtbihelpnojjacaaGreat.WldF
