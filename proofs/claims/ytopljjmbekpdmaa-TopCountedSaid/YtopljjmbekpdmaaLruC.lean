/- A bounded map as a list of what it holds: how calls change it. -/
import Derived.Test.YtopljjmbekpdmaaLruB
namespace Go.Proofs.Ytopljjmbekpdmaa.LruC
open Go.ChangeShapes Go.WideShapes Go.ChangeAt Go.RowKit Base Wri Map LruA LruB
open Go.Maps (Keyed)

structure Ent where
  b : Nat
  k : ByteArray
  v : Int

/-- where a map lies -/
structure Spot where
  mb : Nat
  kn : Nat
  pb : Nat
  most : Nat

def Has (S : Spot) (L : List Ent) (k : Nat) : Prop := k = S.mb ∨ k = S.kn ∨ k = S.pb ∨ ∃ x ∈ L, x.b = k

/-- L is what it holds: all but how the ring goes -/
structure LRest (w : World) (S : Spot) (L : List Ent) : Prop where
  map : w.heap[S.mb]? = some (.cells #[ptr S.kn, .int .i64 S.most, .map (some S.pb)] 138)
  knot : Blk w S.kn
  ents : ∀ x ∈ L, Blk w x.b ∧ w.cell? ⟨x.b, 0, none⟩ = some (.string x.k) ∧ w.cell? ⟨x.b, 1, none⟩ = some (.int .i64 x.v) ∧ x.k.size ≤ maxLen
  apart : (S.mb :: S.pb :: S.kn :: L.map Ent.b).Nodup
  keys : (L.map Ent.k).Nodup
  places : ∃ F, MapOf Try.prog 9 w S.pb F L.length ∧ ∀ s v, F (.string s) = some v ↔ ∃ x ∈ L, x.k = s ∧ v = ptr x.b
  m1 : 1 ≤ S.most
  m2 : S.most ≤ 4096

structure IsLru (w : World) (S : Spot) (L : List Ent) : Prop where
  rest : LRest w S L
  ring : Ring w S.kn (L.map Ent.b)
  len : L.length ≤ S.most

variable {w w' : World} {S : Spot} {L L' : List Ent} {R : List Nat}

theorem Ring.keep {w w' : World} {kn : Nat} {R : List Nat} (h : Ring w kn R) (hk : ∀ x ∈ kn :: R, w'.heap[x]? = w.heap[x]?) : Ring w' kn R := by
  refine ⟨h.1.keep (fun x hx => World.cell?_of_block (a := ⟨x, 3, none⟩) (hk x (srcs_sub kn R x hx))) (fun y hy => World.cell?_of_block (a := ⟨y, 2, none⟩) (hk y (List.mem_cons_of_mem _ hy))), ?_⟩
  exact ⟨(World.cell?_of_block (a := ⟨lst kn R, 3, none⟩) (hk _ (lst_mem kn R))).trans h.2.1, (World.cell?_of_block (a := ⟨kn, 2, none⟩) (hk kn List.mem_cons_self)).trans h.2.2⟩

theorem LRest.keep (h : LRest w S L) (hk : ∀ k, Has S L k → w'.heap[k]? = w.heap[k]?) : LRest w' S L where
  map := (hk _ (.inl rfl)).trans h.map
  knot := h.knot.of_block (hk _ (.inr (.inl rfl)))
  ents := fun x hx => by
    obtain ⟨h1, h2, h3, h4⟩ := h.ents x hx
    have e := hk x.b (.inr (.inr (.inr ⟨x, hx, rfl⟩)))
    exact ⟨h1.of_block e, (World.cell?_of_block (a := ⟨x.b, 0, none⟩) e).trans h2, (World.cell?_of_block (a := ⟨x.b, 1, none⟩) e).trans h3, h4⟩
  apart := h.apart
  keys := h.keys
  places := by
    obtain ⟨F, h1, h2⟩ := h.places
    exact ⟨F, h1.of_block (hk _ (.inr (.inr (.inl rfl)))), h2⟩
  m1 := h.m1
  m2 := h.m2

theorem LRest.lt (h : LRest w S L) (k : Nat) (hk : Has S L k) : k < w.heap.size := by
  rcases hk with rfl | rfl | rfl | ⟨x, hx, rfl⟩
  · exact (Array.getElem?_eq_some_iff.1 h.map).1
  · exact h.knot.lt
  · obtain ⟨F, h1, _⟩ := h.places
    exact h1.lt
  · exact (h.ents x hx).1.lt

theorem LRest.below (h : LRest w S L) (hb : Below w.heap.size w w') : LRest w' S L := h.keep fun k hk => hb.block k (h.lt k hk)

theorem IsLru.keep (h : IsLru w S L) (hk : ∀ k, Has S L k → w'.heap[k]? = w.heap[k]?) : IsLru w' S L :=
  ⟨h.rest.keep hk, Ring.keep h.ring (fun x hx => by
    rcases List.mem_cons.1 hx with rfl | hx
    · exact hk _ (.inr (.inl rfl))
    · obtain ⟨y, hy, rfl⟩ := List.mem_map.1 hx
      exact hk _ (.inr (.inr (.inr ⟨y, hy, rfl⟩)))), h.len⟩
theorem IsLru.below (h : IsLru w S L) (hb : Below w.heap.size w w') : IsLru w' S L := h.keep fun k hk => hb.block k (h.rest.lt k hk)
theorem IsLru.wr {Q : Nat → Prop} (h : IsLru w S L) (hw : Wr Q w w') (hq : ∀ k, Has S L k → ¬ Q k) : IsLru w' S L := h.keep fun k hk => hw.block k (h.rest.lt k hk) (hq k hk)

theorem LRest.perm (h : LRest w S L) (hp : L.Perm L') : LRest w S L' where
  map := h.map
  knot := h.knot
  ents := fun x hx => h.ents x (hp.mem_iff.2 hx)
  apart := ((((hp.map Ent.b).cons S.kn).cons S.pb).cons S.mb).nodup_iff.1 h.apart
  keys := (hp.map Ent.k).nodup_iff.1 h.keys
  places := by
    obtain ⟨F, h1, h2⟩ := h.places
    refine ⟨F, hp.length_eq ▸ h1, fun s v => (h2 s v).trans ?_⟩
    exact ⟨fun ⟨x, hx, e⟩ => ⟨x, hp.mem_iff.1 hx, e⟩, fun ⟨x, hx, e⟩ => ⟨x, hp.mem_iff.2 hx, e⟩⟩
  m1 := h.m1
  m2 := h.m2

theorem LRest.far (h : LRest w S L) (b : Nat) (hb : b = S.kn ∨ ∃ x ∈ L, x.b = b) : b ≠ S.mb ∧ b ≠ S.pb := by
  have := h.apart
  simp only [List.nodup_cons, List.mem_cons, List.mem_map, not_or] at this
  rcases hb with rfl | ⟨x, hx, rfl⟩
  · exact ⟨fun e => this.1.2.1 e.symm, fun e => this.2.1.1 e.symm⟩
  · exact ⟨fun e => this.1.2.2 ⟨x, hx, e⟩, fun e => this.2.1.2 ⟨x, hx, e⟩⟩

/-- a link of an element is written: all but the ring stays -/
theorem LRest.link (h : LRest w S L) (b i : Nat) (hb : b = S.kn ∨ ∃ x ∈ L, x.b = b) (hi : 2 ≤ i) (v : Value) : LRest (w.setCell ⟨b, i, none⟩ v) S L where
  map := by rw [heap_setCell_other _ _ _ _ (h.far b hb).1.symm]; exact h.map
  knot := h.knot.set _ _
  ents := fun x hx => by
    obtain ⟨h1, h2, h3, h4⟩ := h.ents x hx
    exact ⟨h1.set _ _, by rw [cell_other (by omega)]; exact h2, by rw [cell_other (by omega)]; exact h3, h4⟩
  apart := h.apart
  keys := h.keys
  places := by
    obtain ⟨F, h1, h2⟩ := h.places
    exact ⟨F, h1.of_block (heap_setCell_other _ _ _ _ (h.far b hb).2.symm), h2⟩
  m1 := h.m1
  m2 := h.m2

/-- one and its value -/
theorem LRest.only (h : LRest w S L) {x y : Ent} (hx : x ∈ L) (hy : y ∈ L) (e : x.k = y.k ∨ x.b = y.b) : x = y := by
  rcases e with e | e
  · have := h.keys
    obtain ⟨i, hi⟩ := List.getElem?_of_mem hx
    obtain ⟨j, hj⟩ := List.getElem?_of_mem hy
    have hij : i = j := by
      have h1 : (L.map Ent.k)[i]? = some x.k := by simp [hi]
      have h2 : (L.map Ent.k)[j]? = some x.k := by simp [hj, e]
      exact (List.getElem?_inj (by have := (List.getElem?_eq_some_iff.1 h1).1; exact this) this).1 (h1.trans h2.symm)
    subst hij
    rw [hi] at hj
    exact Option.some.inj hj
  · have := h.apart
    simp only [List.nodup_cons] at this
    have := this.2.2.2
    obtain ⟨i, hi⟩ := List.getElem?_of_mem hx
    obtain ⟨j, hj⟩ := List.getElem?_of_mem hy
    have hij : i = j := by
      have h1 : (L.map Ent.b)[i]? = some x.b := by simp [hi]
      have h2 : (L.map Ent.b)[j]? = some x.b := by simp [hj, e]
      exact (List.getElem?_inj (by have := (List.getElem?_eq_some_iff.1 h1).1; exact this) this).1 (h1.trans h2.symm)
    subst hij
    rw [hi] at hj
    exact Option.some.inj hj

theorem LRest.value {A B : List Ent} {x : Ent} (h : LRest w S (A ++ x :: B)) (n : Int) : LRest (w.setCell ⟨x.b, 1, none⟩ (.int .i64 n)) S (A ++ { x with v := n } :: B) where
  map := by rw [heap_setCell_other _ _ _ _ (h.far x.b (.inr ⟨x, by simp, rfl⟩)).1.symm]; exact h.map
  knot := h.knot.set _ _
  ents := fun y hy => by
    have hx := h.ents x (by simp)
    by_cases e : y = { x with v := n }
    · subst e
      exact ⟨hx.1.set _ _, by show World.cell? _ ⟨x.b, 0, none⟩ = _; rw [cell_other (by omega)]; exact hx.2.1, World.cell?_setCell_same _ _ _ hx.2.2.1, hx.2.2.2⟩
    · have hy2 : y ∈ A ++ B := by
        rcases List.mem_append.1 hy with hy | hy
        · exact List.mem_append.2 (.inl hy)
        · rcases List.mem_cons.1 hy with hy | hy
          · exact absurd hy e
          · exact List.mem_append.2 (.inr hy)
      have hy3 : y ∈ A ++ x :: B := by
        rcases List.mem_append.1 hy2 with hy | hy
        · exact List.mem_append.2 (.inl hy)
        · exact List.mem_append.2 (.inr (List.mem_cons_of_mem _ hy))
      obtain ⟨h1, h2, h3, h4⟩ := h.ents y hy3
      have hne : y.b ≠ x.b := fun e2 => by
        have hnd := h.keys
        have e3 := h.only hy3 (by simp) (.inr e2)
        subst e3
        rw [List.map_append, List.map_cons] at hnd
        have hnd2 := (List.perm_middle.nodup_iff.1 hnd)
        rw [← List.map_append] at hnd2
        exact (List.nodup_cons.1 hnd2).1 (List.mem_map.2 ⟨y, hy2, rfl⟩)
      exact ⟨h1.set _ _, by rw [cell_other (fun e => hne e.1)]; exact h2, by rw [cell_other (fun e => hne e.1)]; exact h3, h4⟩
  apart := by simpa using h.apart
  keys := by simpa using h.keys
  places := by
    obtain ⟨F, h1, h2⟩ := h.places
    refine ⟨F, ?_, fun s v => (h2 s v).trans ?_⟩
    · have : MapOf Try.prog 9 (w.setCell ⟨x.b, 1, none⟩ (.int .i64 n)) S.pb F (A ++ x :: B).length := h1.of_block (heap_setCell_other _ _ _ _ (h.far x.b (.inr ⟨x, by simp, rfl⟩)).2.symm)
      simpa using this
    · simp only [List.mem_append, List.mem_cons]
      constructor
      · rintro ⟨y, hy | rfl | hy, e⟩
        · exact ⟨y, .inl hy, e⟩
        · exact ⟨_, .inr (.inl rfl), e⟩
        · exact ⟨y, .inr (.inr hy), e⟩
      · rintro ⟨y, hy | rfl | hy, e⟩
        · exact ⟨y, .inl hy, e⟩
        · exact ⟨x, .inr (.inl rfl), e⟩
        · exact ⟨y, .inr (.inr hy), e⟩
  m1 := h.m1
  m2 := h.m2

theorem ring_value {kn : Nat} {R : List Nat} {b : Nat} {v : Value} (h : Ring w kn R) : Ring (w.setCell ⟨b, 1, none⟩ v) kn R :=
  ⟨h.1.keep (fun x _ => cell_other (by omega)) (fun y _ => cell_other (by omega)), (cell_other (by omega)).trans h.2.1, (cell_other (by omega)).trans h.2.2⟩

end Go.Proofs.Ytopljjmbekpdmaa.LruC
