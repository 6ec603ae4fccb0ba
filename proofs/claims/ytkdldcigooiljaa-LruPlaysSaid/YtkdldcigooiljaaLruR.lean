/- The program's bounded map beside the document's: both hold the same. -/
import Derived.Test.YtkdldcigooiljaaLruL
import Derived.Test.YtkdldcigooiljaaRefP
namespace Go.Proofs.Ytkdldcigooiljaa.LruR
open Go.ChangeShapes Go.WideShapes Go.ChangeAt Go.RowKit Base Wri Map LruA LruB LruC LruD LruE LruF RefL RefM RefN RefO RefP

def kv (x : Ent) : ByteArray × Int := (x.k, x.v)
def kvs (L : List Ent) : List (ByteArray × Int) := L.map kv

variable {S : Spot} {L L' A B : List Ent} {x y : Ent} {s : ByteArray} {w0 w w' : World} {rb : Nat} {v : Value}

theorem kvs_app (A B : List Ent) : kvs (A ++ B) = kvs A ++ kvs B := List.map_append
theorem kvs_len (L : List Ent) : (kvs L).length = L.length := List.length_map _

theorem place_no (h : ∀ x ∈ L, x.k ≠ s) : placeF s (kvs L) = none :=
  placeF_none.2 fun p hp => by
    obtain ⟨x, hx, rfl⟩ := List.mem_map.1 hp
    exact h x hx
theorem placeI_no (h : ∀ x ∈ L, x.k ≠ s) : placeI s (kvs L) = -1 := by unfold placeI; rw [place_no h]

theorem nodup_ahead (h : ((A ++ x :: B).map Ent.k).Nodup) : ∀ y ∈ A, y.k ≠ x.k := fun y hy e => by
  rw [List.map_append, List.map_cons] at h
  exact (List.nodup_append.1 h).2.2 y.k (List.mem_map.2 ⟨y, hy, rfl⟩) x.k List.mem_cons_self e

theorem place_at (h : ((A ++ x :: B).map Ent.k).Nodup) : placeF x.k (kvs (A ++ x :: B)) = some A.length := by
  rw [kvs_app, placeF_app (fun p hp => by
    obtain ⟨y, hy, rfl⟩ := List.mem_map.1 hp
    exact nodup_ahead h y hy)]
  have : placeF x.k (kvs (x :: B)) = some 0 := by
    show (if x.k = x.k then some 0 else _) = _
    rw [if_pos rfl]
  rw [this, Option.map_some, kvs_len, Nat.zero_add]
theorem placeI_at (h : ((A ++ x :: B).map Ent.k).Nodup) : placeI x.k (kvs (A ++ x :: B)) = (A.length : Int) := by unfold placeI; rw [place_at h]

theorem kvs_get (A B : List Ent) (x : Ent) : (kvs (A ++ x :: B))[A.length]? = some (x.k, x.v) := by
  rw [kvs_app, ← kvs_len A, List.getElem?_append_right (Nat.le_refl _), Nat.sub_self]; rfl
theorem kvs_erase (A B : List Ent) (x : Ent) : (kvs (A ++ x :: B)).eraseIdx A.length = kvs (A ++ B) := by
  rw [kvs_app, ← kvs_len A, List.eraseIdx_append_of_length_le (Nat.le_refl _), Nat.sub_self, kvs_app]; rfl

theorem outP_no (h : ∀ x ∈ L, x.k ≠ s) : outP s (kvs L) = kvs L := by unfold outP; rw [place_no h]
theorem outP_at (h : ((A ++ x :: B).map Ent.k).Nodup) : outP x.k (kvs (A ++ x :: B)) = kvs (A ++ B) := by
  unfold outP; rw [place_at h]; exact kvs_erase A B x
theorem outP_out (h : (L.map Ent.k).Nodup) (s : ByteArray) : outP s (kvs L) = kvs (out s L) := by
  by_cases hin : ∃ x ∈ L, x.k = s
  · obtain ⟨x, hx, rfl⟩ := hin
    obtain ⟨A, B, rfl⟩ := List.append_of_mem hx
    rw [outP_at h, out_mid h]
  · have hn : ∀ x ∈ L, x.k ≠ s := fun x hx e => hin ⟨x, hx, e⟩
    rw [outP_no hn, out_none hn]
theorem nodup_outs (h : (L.map Ent.k).Nodup) (f : Nat → ByteArray) (n : Nat) : ((outs f n L).map Ent.k).Nodup := by
  induction n with
  | zero => exact h
  | succ n ih => exact List.Nodup.sublist ((List.filter_sublist).map _) ih
theorem outsP_outs (h : (L.map Ent.k).Nodup) (f : Nat → ByteArray) (n : Nat) : outsP f n (kvs L) = kvs (outs f n L) := by
  induction n with
  | zero => rfl
  | succ n ih =>
    show outP (f n) (outsP f n (kvs L)) = kvs (out (f n) (outs f n L))
    rw [ih, outP_out (nodup_outs h f n)]

/-- where the two lie -/
def Ft (S : Spot) (L : List Ent) (rb : Nat) (v : Value) (k : Nat) : Prop := Has S L k ∨ k = rb ∨ v.ownBlock = some k

/-- the program's map and the document's, the same in both -/
structure Two (w0 w : World) (S : Spot) (L : List Ent) (rb : Nat) (v : Value) : Prop where
  lru : IsLru w S L
  ref : RM w0 w rb S.most v (kvs L)
  ab : ∀ k, Has S L k → w0.heap.size ≤ k
  ap : ∀ k, Has S L k → k ≠ rb ∧ v.ownBlock ≠ some k

theorem Two.lt (h : Two w0 w S L rb v) {k : Nat} (hk : Ft S L rb v k) : k < w.heap.size := by
  rcases hk with hk | rfl | hk
  · exact h.lru.rest.lt k hk
  · exact h.ref.lt
  · exact (h.ref.row.lt k hk).2
theorem Two.up (h : Two w0 w S L rb v) {k : Nat} (hk : Ft S L rb v k) : w0.heap.size ≤ k := by
  rcases hk with hk | rfl | hk
  · exact h.ab k hk
  · exact h.ref.lb
  · exact (h.ref.row.lt k hk).1
theorem Two.keep (h : Two w0 w S L rb v) (hk : ∀ k, Ft S L rb v k → w'.heap[k]? = w.heap[k]?) : Two w0 w' S L rb v :=
  ⟨h.lru.keep fun k e => hk k (.inl e), h.ref.keep fun k e => hk k (.inr e), h.ab, h.ap⟩
theorem Two.below (h : Two w0 w S L rb v) (hb : Below w.heap.size w w') : Two w0 w' S L rb v := h.keep fun k e => hb.block k (h.lt e)
theorem Two.wr {Q : Nat → Prop} (h : Two w0 w S L rb v) (hw : Wr Q w w') (hq : ∀ k, Ft S L rb v k → ¬ Q k) : Two w0 w' S L rb v := h.keep fun k e => hw.block k (h.lt e) (hq k e)
theorem Two.len (h : Two w0 w S L rb v) : L.length ≤ 4096 := Nat.le_trans h.lru.len h.lru.rest.m2

/-- what a step on both leaves -/
def Then (w0 w : World) (S : Spot) (L : List Ent) (rb : Nat) (v : Value) (w' : World) : Prop :=
  ∃ L' v', Two w0 w' S L' rb v' ∧ Wr (Ft S L rb v) w w' ∧ ∀ k, Ft S L' rb v' k → Ft S L rb v k ∨ w.heap.size ≤ k

theorem Then.same (h : Two w0 w S L rb v) (hw : Wr (Ft S L rb v) w w') (hk : w'.heap = w.heap) : Then w0 w S L rb v w' := ⟨L, v, h.keep fun k _ => by rw [hk], hw, fun _ h => .inl h⟩

/-- one step of the program's, then one of the document's -/
theorem Two.step {L' : List Ent} {w1 w2 : World} (h : Two w0 w S L rb v) (h1 : IsLru w1 S L') (hw1 : Wr (Has S L) w w1) (hf : ∀ k, Has S L' k → Has S L k ∨ w.heap.size ≤ k)
    (h2 : RPost w0 w1 rb S.most v (kvs L') w2) : Then w0 w S L rb v w2 := by
  obtain ⟨⟨v', hr, hv⟩, hw2⟩ := h2
  have hlt := h.ref.lt
  have hfar : ∀ k, Has S L' k → k ≠ rb ∧ v.ownBlock ≠ some k := fun k hk => by
    rcases hf k hk with e | e
    · exact h.ap k e
    · exact ⟨fun e2 => by omega, fun e2 => by have := (h.ref.row.lt k e2).2; omega⟩
  refine ⟨L', v', ⟨h1.wr hw2 (fun k hk e => ?_), hr, fun k hk => ?_, fun k hk => ⟨(hfar k hk).1, fun e => ?_⟩⟩, ?_, fun k hk => ?_⟩
  · exact e.elim (hfar k hk).1 (hfar k hk).2
  · rcases hf k hk with e | e
    · exact h.ab k e
    · have := h.ref.lb; omega
  · rcases hv k e with e2 | e2
    · exact (hfar k hk).2 e2
    · have := h1.rest.lt k hk; omega
  · exact (hw1.mono (fun k e => .inl e)).trans (hw2.mono (fun k e => .inr e))
  · rcases hk with hk | hk | hk
    · exact (hf k hk).elim (fun e => .inl (.inl e)) .inr
    · exact .inl (.inr (.inl hk))
    · exact (hv k hk).elim (fun e => .inl (.inr (.inr e))) (fun e => .inr (Nat.le_trans hw1.size e))

/-- the document's map is there still behind the program's step -/
theorem Two.other {w1 : World} (h : Two w0 w S L rb v) (hw1 : Wr (Has S L) w w1) : RM w0 w1 rb S.most v (kvs L) :=
  h.ref.keep fun k hk => by
    refine hw1.block k (h.lt (.inr hk)) (fun e => ?_)
    exact hk.elim (h.ap k e).1 (h.ap k e).2

end Go.Proofs.Ytkdldcigooiljaa.LruR
