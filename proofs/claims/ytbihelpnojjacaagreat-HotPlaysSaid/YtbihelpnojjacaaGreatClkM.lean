/- Plain mathematics of a clock: no Go in sight. -/
namespace Go.Proofs.YtbihelpnojjacaaGreat.ClkM

def IsT (n : Int) : Prop := 0 ≤ n ∧ n ≤ 1152921504606846976
instance (n : Int) : Decidable (IsT n) := by unfold IsT; exact inferInstance

/-- where a clock stands behind ticks, if it may -/
def tickF : Int → List Int → Option Int
  | s, [] => some s
  | s, x :: l => if 0 ≤ x ∧ s + x ≤ 1152921504606846976 then tickF (s + x) l else none

theorem tickF_snoc (s : Int) (l : List Int) (x : Int) : tickF s (l ++ [x]) = (tickF s l).bind fun t => if 0 ≤ x ∧ t + x ≤ 1152921504606846976 then some (t + x) else none := by
  induction l generalizing s with
  | nil => simp [tickF]
  | cons y l ih => simp only [List.cons_append, tickF]; split; · exact ih _
                   · rfl

theorem tickF_some {s t : Int} {l : List Int} (hs : IsT s) (h : tickF s l = some t) : IsT t ∧ s ≤ t := by
  induction l generalizing s with
  | nil => simp [tickF] at h; subst h; exact ⟨hs, Int.le_refl _⟩
  | cons x l ih =>
    simp only [tickF] at h
    split at h
    · rename_i hx
      have := ih (s := s + x) (by unfold IsT at *; omega) h
      exact ⟨this.1, by omega⟩
    · simp at h

theorem tickF_take_none {s : Int} {l : List Int} (k : Nat) (h : tickF s (l.take k) = none) : tickF s l = none := by
  have e : l = l.take k ++ l.drop k := (List.take_append_drop k l).symm
  rw [e]
  generalize l.drop k = r
  revert h
  generalize l.take k = q
  intro h
  induction q generalizing s with
  | nil => simp [tickF] at h
  | cons x q ih =>
    simp only [List.cons_append, tickF] at *
    split <;> simp_all

theorem take_snoc (l : List Int) (k : Nat) (h : k < l.length) : l.take (k + 1) = l.take k ++ [l[k]] := by
  rw [List.take_succ_eq_append_getElem h]

end Go.Proofs.YtbihelpnojjacaaGreat.ClkM
