/- Maps that calls own, as functions from keys: look-ups, stores, deletions, how many. -/
import Derived.Test.YtbihelpnojjacaaGreatWri
import Derived.Maps.Keyed
import Derived.Carry
namespace Go.Proofs.YtbihelpnojjacaaGreat.Map
open Go.ChangeShapes Go.WideShapes Go.ChangeAt Go.RowKit Base Wri
open Go.Maps (Keyed)
open Go.ChangeMaps (setBlock modify_eq_set)

/-- when the entries of a map were born: each ahead of the clock, no two at once -/
def Bn (es : Array MapEntry) (clock : Nat) : Prop := (∀ x ∈ es.toList, x.born < clock) ∧ (es.toList.map (·.born)).Nodup

/-- block b is a map of n entries: what stands at each key -/
def MapOf (P : Program) (k : TypeId) (w : World) (b : Nat) (F : Value → Option Value) (n : Nat) : Prop :=
  ∃ es clock, w.heap[b]? = some (.map es clock) ∧ es.size = n ∧ (∀ x ∈ es.toList, ∃ l, keyOf P k x.key = some l) ∧ es.toList.Pairwise (fun x y => x.key ≠ y.key) ∧ (∀ key v, F key = some v ↔ ∃ x ∈ es.toList, x.key = key ∧ x.val = v) ∧ Bn es clock

open Classical in
/-- one key more, or another value there -/
noncomputable def put (F : Value → Option Value) (key val : Value) : Value → Option Value := fun q => if q = key then some val else F q
open Classical in
/-- one key less -/
noncomputable def del (F : Value → Option Value) (key : Value) : Value → Option Value := fun q => if q = key then none else F q

theorem put_same (F : Value → Option Value) (key val : Value) : put F key val key = some val := by simp [put]
theorem put_other {F : Value → Option Value} {key val q : Value} (h : q ≠ key) : put F key val q = F q := by simp [put, h]
theorem del_same (F : Value → Option Value) (key : Value) : del F key key = none := by simp [del]
theorem del_other {F : Value → Option Value} {key q : Value} (h : q ≠ key) : del F key q = F q := by simp [del, h]

variable {P : Program} {k e t : TypeId} {w w' : World} {b n : Nat} {F : Value → Option Value}

theorem MapOf.of_block (h : MapOf P k w b F n) (hb : w'.heap[b]? = w.heap[b]?) : MapOf P k w' b F n := by
  obtain ⟨es, clock, h1, rest⟩ := h
  exact ⟨es, clock, hb.trans h1, rest⟩

theorem MapOf.lt (h : MapOf P k w b F n) : b < w.heap.size := by
  obtain ⟨es, clock, h1, _⟩ := h
  exact (Array.getElem?_eq_some_iff.1 h1).1

theorem MapOf.made (w : World) : MapOf P k (w.alloc (.map #[] 0)) w.heap.size (fun _ => none) 0 :=
  ⟨#[], 0, heap_alloc_new w _, rfl, by simp, by simp, by simp, by simp, by simp⟩

theorem heap_set_same {o o' : Obj} (hb : w.heap[b]? = some o) : (setBlock w b o').heap[b]? = some o' := by
  have hlt := (Array.getElem?_eq_some_iff.1 hb).1
  simp [setBlock, hlt]

theorem wr_set (o' : Obj) : Wr (fun j => j = b) w (setBlock w b o') :=
  ⟨rfl, rfl, rfl, by simp [setBlock], fun j _ hj => by simp [setBlock]; rw [Array.getElem?_setIfInBounds_ne (fun e => hj e.symm)]⟩

theorem MapOf.look (c : Bool) (h : MapOf P k w b F n) (K : Keyed P k) (ht : P.underlying t = some (.map k e)) {z : Value} (hz : (zeroValue e).run P w = .ok z w) {key : Value} {kl : Lit} (hkey : keyOf P k key = some kl) :
    (Instr.lookup t (.map (some b)) key c).run P w = .ok (match F key with | some v => if c then .tuple #[v, .bool true] else v | none => if c then .tuple #[z, .bool false] else z) w := by
  obtain ⟨es, clock, hb, hn, hks, hnd, hF, hB⟩ := h
  rcases K.find w hkey es.toList hks with ⟨h1, h2⟩ | ⟨j, e0, h1, h2, h3⟩
  · have hf : F key = none := by
      cases hc : F key with
      | none => rfl
      | some v => obtain ⟨x, hx, hk, _⟩ := (hF key v).1 hc; exact absurd hk (h2 x hx)
    rw [hf]
    simp [Instr.lookup, run_underlying ht, MapKept.run_getObj_map hb, K.check w _ hkey, h1, hz, Result.andThen]
  · have hf : F key = some e0.val := (hF key _).2 ⟨e0, List.mem_of_getElem? h2, h3, rfl⟩
    rw [hf]
    simp [Instr.lookup, run_underlying ht, MapKept.run_getObj_map hb, K.check w _ hkey, h1, Result.andThen]

theorem MapOf.len (h : MapOf P k w b F n) (ht : P.underlying t = some (.map k e)) (ty : TypeId) : (Builtin.len_ #[t] ty #[.map (some b)]).run P w = .ok (.int .i64 n) w := by
  obtain ⟨es, clock, hb, rfl, _⟩ := h
  simp [Builtin.len_, run_underlying ht, MapKept.run_getObj_map hb, Result.andThen, goInt]

/-- no two entries of a map have one key -/
theorem only {es : List MapEntry} (hnd : es.Pairwise (fun x y => x.key ≠ y.key)) {i j : Nat} {x y : MapEntry} (hi : es[i]? = some x) (hj : es[j]? = some y) (hk : x.key = y.key) : i = j := by
  rcases Nat.lt_trichotomy i j with h | h | h
  · obtain ⟨h1, h2⟩ := List.getElem?_eq_some_iff.1 hi
    obtain ⟨h3, h4⟩ := List.getElem?_eq_some_iff.1 hj
    have := List.pairwise_iff_getElem.1 hnd i j h1 h3 h
    rw [h2, h4] at this
    exact absurd hk this
  · exact h
  · obtain ⟨h1, h2⟩ := List.getElem?_eq_some_iff.1 hi
    obtain ⟨h3, h4⟩ := List.getElem?_eq_some_iff.1 hj
    have := List.pairwise_iff_getElem.1 hnd j i h3 h1 h
    rw [h2, h4] at this
    exact absurd hk.symm this

theorem MapOf.store (h : MapOf P k w b F n) (K : Keyed P k) (ht : P.underlying t = some (.map k e)) {key val : Value} {kl : Lit} (hkey : keyOf P k key = some kl) :
    ∃ w', (Instr.mapUpdate t (.map (some b)) key val).run P w = .ok () w' ∧ MapOf P k w' b (put F key val) (if (F key).isSome then n else n + 1) ∧ Wr (fun j => j = b) w w' := by
  obtain ⟨es, clock, hb, hn, hks, hnd, hF, hB⟩ := h
  rcases K.find w hkey es.toList hks with ⟨h1, h2⟩ | ⟨j, e0, h1, h2, h3⟩
  · have hf : F key = none := by
      cases hc : F key with
      | none => rfl
      | some v => obtain ⟨x, hx, hk, _⟩ := (hF key v).1 hc; exact absurd hk (h2 x hx)
    refine ⟨setBlock w b (.map (es.push ⟨key, val, clock⟩) (clock + 1)), ?_, ⟨_, _, heap_set_same hb, ?_, ?_, ?_, ?_, ?_⟩, wr_set _⟩
    · simp [Instr.mapUpdate, run_underlying ht, MapKept.run_getObj_map hb, K.check w false hkey, h1, MapKept.run_setObj_map _ hb, Result.andThen, setBlock]
    · simp [hf, hn]
    · intro x hx
      simp only [Array.toList_push, List.mem_append, List.mem_singleton] at hx
      rcases hx with hx | rfl
      · exact hks x hx
      · exact ⟨kl, hkey⟩
    · rw [Array.toList_push, List.pairwise_append]
      exact ⟨hnd, by simp, fun x hx y hy => by obtain rfl := List.mem_singleton.1 hy; exact h2 x hx⟩
    · intro q v
      simp only [Array.toList_push, List.mem_append, List.mem_singleton]
      by_cases hq : q = key
      · subst hq
        rw [put_same]
        constructor
        · intro e1
          cases e1
          exact ⟨_, .inr rfl, rfl, rfl⟩
        · rintro ⟨x, hx | rfl, hk, hv⟩
          · exact absurd hk (h2 x hx)
          · exact congrArg some hv
      · rw [put_other hq, hF q v]
        constructor
        · rintro ⟨x, hx, hk⟩
          exact ⟨x, .inl hx, hk⟩
        · rintro ⟨x, hx | rfl, hk⟩
          · exact ⟨x, hx, hk⟩
          · exact absurd hk.1.symm hq
    · unfold Bn
      rw [Array.toList_push, List.map_append]
      refine ⟨fun x hx => ?_, ?_⟩
      · rcases List.mem_append.1 hx with hx | hx
        · have := hB.1 x hx; omega
        · obtain rfl := List.mem_singleton.1 hx; show clock < clock + 1; omega
      · rw [List.nodup_append]
        refine ⟨hB.2, by simp, fun x hx y hy => ?_⟩
        obtain ⟨z, hz, rfl⟩ := List.mem_map.1 hx
        simp at hy
        subst hy
        have := hB.1 z hz
        omega
  · have hf : F key = some e0.val := (hF key _).2 ⟨e0, List.mem_of_getElem? h2, h3, rfl⟩
    have hj : es[j]? = some e0 := by simpa using h2
    have hjl : j < es.toList.length := (List.getElem?_eq_some_iff.1 h2).1
    have hjs : j < es.size := by simpa using hjl
    have hlist : (es.modify j (fun e' => { e' with key := key, val := val })).toList = es.toList.set j { e0 with key := key, val := val } := by rw [Array.toList_modify, modify_eq_set _ _ _ _ h2]
    have hmem : ∀ x, x ∈ es.toList.set j { e0 with key := key, val := val } ↔ x = { e0 with key := key, val := val } ∨ (x ∈ es.toList ∧ x.key ≠ key) := by
      intro x
      constructor
      · intro hx
        obtain ⟨i, hi⟩ := List.getElem?_of_mem hx
        rw [List.getElem?_set] at hi
        split at hi
        · simp at hi
          exact .inl hi.symm
        · rename_i hne
          refine .inr ⟨List.mem_of_getElem? hi, fun hk => hne ?_⟩
          exact only hnd h2 hi (by rw [h3, hk])
      · rintro (rfl | ⟨hx, hk⟩)
        · exact List.mem_of_getElem? (i := j) (by rw [List.getElem?_set]; simp [hjs])
        · obtain ⟨i, hi⟩ := List.getElem?_of_mem hx
          refine List.mem_of_getElem? (i := i) ?_
          rw [List.getElem?_set, if_neg (fun e1 => ?_)]
          · exact hi
          · subst e1
            rw [h2] at hi
            cases hi
            exact hk h3
    refine ⟨setBlock w b (.map (es.modify j (fun e' => { e' with key := key, val := val })) clock), ?_, ⟨_, _, heap_set_same hb, ?_, ?_, ?_, ?_, ?_⟩, wr_set _⟩
    · simp [Instr.mapUpdate, run_underlying ht, MapKept.run_getObj_map hb, K.check w false hkey, h1, hj, h3, K.stays w hkey, MapKept.run_setObj_map _ hb, Result.andThen, setBlock]
    · simp [hf, hn]
    · intro x hx
      rw [hlist] at hx
      rcases (hmem x).1 hx with rfl | ⟨hx, _⟩
      · exact ⟨kl, hkey⟩
      · exact hks x hx
    · rw [hlist, List.pairwise_iff_getElem]
      intro p q hp hq hpq hc
      rw [List.getElem_set, List.getElem_set] at hc
      rw [List.length_set] at hp hq
      split at hc <;> split at hc
      · omega
      · rename_i e1 e2
        subst e1
        have := only hnd h2 (List.getElem?_eq_getElem hq) (by rw [h3]; exact hc)
        exact e2 this
      · rename_i e1 e2
        subst e2
        have := only hnd h2 (List.getElem?_eq_getElem hp) (by rw [h3]; exact hc.symm)
        exact e1 this
      · exact List.pairwise_iff_getElem.1 hnd p q hp hq hpq hc
    · intro q v
      rw [hlist]
      by_cases hq : q = key
      · subst hq
        rw [put_same]
        constructor
        · intro e1
          cases e1
          exact ⟨_, (hmem _).2 (.inl rfl), rfl, rfl⟩
        · rintro ⟨x, hx, hk, hv⟩
          rcases (hmem x).1 hx with rfl | ⟨_, hne⟩
          · exact congrArg some hv
          · exact absurd hk hne
      · rw [put_other hq, hF q v]
        constructor
        · rintro ⟨x, hx, hk, hv⟩
          exact ⟨x, (hmem x).2 (.inr ⟨hx, fun e1 => hq (hk.symm.trans e1)⟩), hk, hv⟩
        · rintro ⟨x, hx, hk, hv⟩
          rcases (hmem x).1 hx with rfl | ⟨hx, _⟩
          · exact absurd hk.symm hq
          · exact ⟨x, hx, hk, hv⟩
    · unfold Bn
      rw [hlist]
      have hm : (es.toList.set j { e0 with key := key, val := val }).map (·.born) = es.toList.map (·.born) := by
        apply List.ext_getElem?
        intro i
        rw [List.getElem?_map, List.getElem?_map, List.getElem?_set]
        by_cases e : j = i
        · subst e
          rw [if_pos rfl, if_pos hjl, h2]
          rfl
        · rw [if_neg e]
      refine ⟨fun x hx => ?_, by rw [hm]; exact hB.2⟩
      rcases (hmem x).1 hx with rfl | ⟨hx, _⟩
      · exact hB.1 e0 (List.mem_of_getElem? h2)
      · exact hB.1 x hx

theorem MapOf.drop (h : MapOf P k w b F n) (K : Keyed P k) (ht : P.underlying t = some (.map k e)) (ty : TypeId) {key : Value} {kl : Lit} (hkey : keyOf P k key = some kl) :
    ∃ w', (Builtin.delete_ #[t, k] ty #[.map (some b), key]).run P w = .ok (.tuple #[]) w' ∧ MapOf P k w' b (del F key) (if (F key).isSome then n - 1 else n) ∧ Wr (fun j => j = b) w w' := by
  obtain ⟨es, clock, hb, hn, hks, hnd, hF, hB⟩ := h
  rcases K.find w hkey es.toList hks with ⟨h1, h2⟩ | ⟨j, e0, h1, h2, h3⟩
  · have hf : F key = none := by
      cases hc : F key with
      | none => rfl
      | some v => obtain ⟨x, hx, hk, _⟩ := (hF key v).1 hc; exact absurd hk (h2 x hx)
    refine ⟨setBlock w b (.map es clock), ?_, ⟨_, _, heap_set_same hb, by simp [hf, hn], hks, hnd, fun q v => ?_, hB⟩, wr_set _⟩
    · simp [Builtin.delete_, run_underlying ht, MapKept.run_getObj_map hb, K.check w _ hkey, h1, MapKept.run_setObj_map _ hb, Result.andThen, setBlock]
    · by_cases hq : q = key
      · subst hq
        rw [del_same]
        exact ⟨fun e1 => (by cases e1), fun ⟨x, hx, hk, _⟩ => absurd hk (h2 x hx)⟩
      · rw [del_other hq]
        exact hF q v
  · have hf : F key = some e0.val := (hF key _).2 ⟨e0, List.mem_of_getElem? h2, h3, rfl⟩
    have hjl : j < es.toList.length := (List.getElem?_eq_some_iff.1 h2).1
    have hjs : j < es.size := by simpa using hjl
    have hsub : (es.eraseIdxIfInBounds j).toList = es.toList.eraseIdx j := by
      unfold Array.eraseIdxIfInBounds
      rw [dif_pos hjs]
      simp
    refine ⟨setBlock w b (.map (es.eraseIdxIfInBounds j) clock), ?_, ⟨_, _, heap_set_same hb, ?_, ?_, ?_, fun q v => ?_, ?_⟩, wr_set _⟩
    · simp [Builtin.delete_, run_underlying ht, MapKept.run_getObj_map hb, K.check w _ hkey, h1, MapKept.run_setObj_map _ hb, Result.andThen, setBlock]
    · unfold Array.eraseIdxIfInBounds
      rw [dif_pos hjs]
      simp [hf, hn]
    · intro x hx
      rw [hsub] at hx
      exact hks x ((List.eraseIdx_sublist _ _).subset hx)
    · rw [hsub]
      exact hnd.sublist (List.eraseIdx_sublist _ _)
    · rw [hsub]
      have hmem : ∀ x, x ∈ es.toList.eraseIdx j ↔ x ∈ es.toList ∧ x.key ≠ key := by
        intro x
        rw [List.mem_eraseIdx_iff_getElem?]
        constructor
        · rintro ⟨i, hne, hi⟩
          exact ⟨List.mem_of_getElem? hi, fun hk => hne (only hnd hi h2 (by rw [h3, hk]))⟩
        · rintro ⟨hx, hk⟩
          obtain ⟨i, hi⟩ := List.getElem?_of_mem hx
          refine ⟨i, fun e1 => ?_, hi⟩
          subst e1
          rw [h2] at hi
          cases hi
          exact hk h3
      by_cases hq : q = key
      · subst hq
        rw [del_same]
        exact ⟨fun e1 => (by cases e1), fun ⟨x, hx, hk, _⟩ => absurd hk ((hmem x).1 hx).2⟩
      · rw [del_other hq, hF q v]
        exact ⟨fun ⟨x, hx, hk, hv⟩ => ⟨x, (hmem x).2 ⟨hx, fun e1 => hq (hk.symm.trans e1)⟩, hk, hv⟩, fun ⟨x, hx, hk, hv⟩ => ⟨x, ((hmem x).1 hx).1, hk, hv⟩⟩
    · unfold Bn
      rw [hsub]
      exact ⟨fun x hx => hB.1 x ((List.eraseIdx_sublist _ _).subset hx), hB.2.sublist ((List.eraseIdx_sublist _ _).map _)⟩


end Go.Proofs.YtbihelpnojjacaaGreat.Map
