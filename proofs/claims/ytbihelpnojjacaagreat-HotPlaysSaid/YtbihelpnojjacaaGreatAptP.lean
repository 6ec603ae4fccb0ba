/- Texts in order, of which equal ones that stand side by side are told once: as many as there were just if no two are alike. -/
import Derived.Test.YtbihelpnojjacaaGreatBase
import Derived.Lib.SlicesCompact
import Derived.Sort.EncStr
namespace Go.Proofs.YtbihelpnojjacaaGreat.AptP
open Go.Lib

abbrev ordered (ss : List (List UInt8)) : List (List UInt8) := ss.mergeSort fun x y => decide (x ≤ y)

theorem ordered_pairwise (ss : List (List UInt8)) : (ordered ss).Pairwise (fun x y => x ≤ y) := by
  have h := List.pairwise_mergeSort (le := fun (x y : List UInt8) => decide (x ≤ y)) (fun a b c h1 h2 => by
    simp only [decide_eq_true_eq] at *; exact List.le_trans h1 h2) (fun a b => by
    simp only [Bool.or_eq_true, decide_eq_true_eq]; exact List.le_total a b) ss
  exact h.imp fun h => by simpa using h

theorem filter_all {n : Nat} {p : Nat → Bool} : ((List.range n).filter p).length = n ↔ ∀ j, j < n → p j = true := by
  have h := List.length_filter_eq_length_iff (l := List.range n) (p := p)
  rw [List.length_range] at h
  rw [h]
  simp

theorem compact_full {zs : List (List UInt8)} : (compact zs).length = zs.length ↔ ∀ j, j < zs.length → j = 0 ∨ zs[j]! ≠ zs[j - 1]! := by
  unfold compact compactUpTo
  rw [List.length_map, filter_all]
  simp [keeps]

theorem nodup_of_steps {zs : List (List UInt8)} (hp : zs.Pairwise (fun x y => x ≤ y)) : (∀ j, j < zs.length → j = 0 ∨ zs[j]! ≠ zs[j - 1]!) ↔ zs.Nodup := by
  rw [List.pairwise_iff_getElem] at hp
  unfold List.Nodup
  rw [List.pairwise_iff_getElem]
  constructor
  · intro h i j hi hj hij he
    have h1 := h j hj
    have hj1 : j - 1 < zs.length := by omega
    rw [getElem!_pos zs j hj, getElem!_pos zs (j - 1) hj1] at h1
    rcases h1 with h1 | h1
    · omega
    · refine h1 ?_
      have a1 := hp (j - 1) j hj1 hj (by omega)
      by_cases e : i = j - 1
      · subst e; exact he.symm
      · have a2 := hp i (j - 1) hi hj1 (by omega)
        rw [he] at a2
        exact List.le_antisymm a2 a1
  · intro h j hj
    by_cases h0 : j = 0
    · exact .inl h0
    · refine .inr ?_
      have hj1 : j - 1 < zs.length := by omega
      rw [getElem!_pos zs j hj, getElem!_pos zs (j - 1) hj1]
      exact fun e => h (j - 1) j hj1 hj (by omega) e.symm

theorem apart_iff (ss : List (List UInt8)) : (compact (ordered ss)).length = ss.length ↔ ss.Nodup := by
  have hl : (ordered ss).length = ss.length := List.length_mergeSort ss
  have h := compact_full (zs := ordered ss)
  rw [hl] at h
  rw [h]
  have h2 := nodup_of_steps (ordered_pairwise ss)
  rw [hl] at h2
  rw [h2]
  exact (List.mergeSort_perm ss _).nodup_iff

end Go.Proofs.YtbihelpnojjacaaGreat.AptP
