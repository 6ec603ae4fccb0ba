/- Contracts of num's Plus over a list. -/
import Derived.Test.YtcmklahbophclaaNumC
namespace Go.Proofs.Ytcmklahbophclaa.Plu
open Go.ChangeShapes Go.WideShapes Go.ChangeAt Go.RowKit Base NumM NumA NumB NumC

/-- the sum from the left, at each step kept within int64 -/
def plusL (l : List Int) : Int := l.foldl (fun s x => keep (s + x)) 0
theorem plusL_snoc (l : List Int) (x : Int) : plusL (l ++ [x]) = keep (plusL l + x) := by simp [plusL]
theorem keep_fits (n : Int) : Fits (keep n) := by
  unfold keep
  by_cases h : Fits n
  · rw [if_pos h]; exact h
  · rw [if_neg h]
    by_cases h2 : n < 0
    · rw [if_pos h2]; decide
    · rw [if_neg h2]; decide
theorem fold_fits (l : List Int) : ∀ s, Fits s → Fits (l.foldl (fun s x => keep (s + x)) s) := by
  induction l with
  | nil => intro s h; exact h
  | cons x l ih => intro s _; exact ih _ (keep_fits _)
theorem plusL_fits (l : List Int) : Fits (plusL l) := fold_fits l 0 (by decide)

theorem take_snoc (l : List Int) (k : Nat) (h : k < l.length) : l.take (k + 1) = l.take k ++ [l.getD k 0] := by
  rw [List.take_succ_eq_append_getElem h]; simp [List.getD, h]

def PRel (w : World) (len : Nat) (xs : List Int) (t i : Value) (wr : World) : Prop :=
  ∃ k : Nat, k ≤ len ∧ i = .int .i64 k ∧ t = .int .i64 (plusL (xs.take k)) ∧ Below w.heap.size w wr

end Go.Proofs.Ytcmklahbophclaa.Plu
