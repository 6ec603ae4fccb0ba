/- What a bounded map keeps of keys that were put one behind the other: plain mathematics. -/
import Derived.Test.YtfpbjkmnipacdaaLruC
namespace Go.Proofs.Ytfpbjkmnipacdaa.LruK
open LruC

/-- p is the last of the first i at which its key stands -/
def Last (f : Nat → ByteArray) (i p : Nat) : Prop := p < i ∧ ∀ j, p < j → j < i → f j ≠ f p

theorem Last.eq {f : Nat → ByteArray} {i p q : Nat} (hp : Last f i p) (hq : Last f i q) (e : f p = f q) : p = q := by
  rcases Nat.lt_trichotomy p q with h | h | h
  · exact absurd e.symm (hp.2 q h hq.1)
  · exact h
  · exact absurd e (hq.2 p h hp.1)
theorem Last.pred {f : Nat → ByteArray} {i p : Nat} (h : Last f (i + 1) p) (hi : p ≠ i) : Last f i p := ⟨by have := h.1; omega, fun j h1 h2 => h.2 j h1 (by omega)⟩
theorem Last.succ {f : Nat → ByteArray} {i p : Nat} (h : Last f i p) (hi : f i ≠ f p) : Last f (i + 1) p :=
  ⟨by have := h.1; omega, fun j h1 h2 => (Nat.lt_or_ge j i).elim (fun h3 => h.2 j h1 h3) (fun h3 => (show i = j by omega) ▸ hi)⟩
theorem Last.self (f : Nat → ByteArray) (i : Nat) : Last f (i + 1) i := ⟨by omega, fun j h1 h2 => by omega⟩

structure Kept (f : Nat → ByteArray) (n i : Nat) (L : List Ent) : Prop where
  len : L.length ≤ n
  each : ∀ x ∈ L, ∃ p : Nat, x.v = p ∧ x.k = f p ∧ Last f i p
  rise : L.Pairwise fun x y => x.v < y.v
  all : ∀ p, Last f i p → (∃ x ∈ L, x.k = f p) ∨ (L.length = n ∧ ∀ x ∈ L, (p : Int) < x.v)

variable {f : Nat → ByteArray} {n i : Nat} {L : List Ent}

theorem kept_zero : Kept f n 0 [] := ⟨Nat.zero_le _, (fun _ h => by cases h), List.Pairwise.nil, (fun p h => absurd h.1 (Nat.not_lt_zero p))⟩

theorem Kept.below (h : Kept f n i L) {x : Ent} (hx : x ∈ L) : x.v < (i : Int) := by
  obtain ⟨p, h1, _, h2⟩ := h.each x hx
  have := h2.1
  omega

theorem rise_snoc {A : List Ent} {b : Nat} {s : ByteArray} {m : Int} (h : A.Pairwise fun x y => x.v < y.v) (hm : ∀ x ∈ A, x.v < m) : (A ++ [(⟨b, s, m⟩ : Ent)]).Pairwise fun x y => x.v < y.v := by
  rw [List.pairwise_append]
  exact ⟨h, List.pairwise_singleton _ _, fun x hx y hy => by rw [List.mem_singleton.1 hy]; exact hm x hx⟩

theorem Kept.there {A B : List Ent} {x : Ent} (h : Kept f n i (A ++ x :: B)) (hk : ((A ++ x :: B).map Ent.k).Nodup) (hx : x.k = f i) : Kept f n (i + 1) (A ++ B ++ [{ x with v := i }]) := by
  have hp : (A ++ x :: B).Perm (x :: (A ++ B)) := List.perm_middle
  have hin : ∀ y ∈ A ++ B, y ∈ A ++ x :: B := fun y hy => hp.mem_iff.2 (List.mem_cons_of_mem _ hy)
  have hne : ∀ y ∈ A ++ B, y.k ≠ f i := fun y hy e => by
    have := (hp.map Ent.k).nodup_iff.1 hk
    exact (List.nodup_cons.1 this).1 (by rw [hx, ← e]; exact List.mem_map.2 ⟨y, hy, rfl⟩)
  have hl : (A ++ B ++ [({ x with v := i } : Ent)]).length = (A ++ x :: B).length := by simp only [List.length_append, List.length_cons, List.length_nil]; omega
  refine ⟨by rw [hl]; exact h.len, fun y hy => ?_, ?_, fun p hpl => ?_⟩
  · rcases List.mem_append.1 hy with hy | hy
    · obtain ⟨p, h1, h2, h3⟩ := h.each y (hin y hy)
      exact ⟨p, h1, h2, h3.succ (fun e => hne y hy (h2.trans e.symm))⟩
    · rw [List.mem_singleton.1 hy]
      exact ⟨i, rfl, hx, Last.self f i⟩
  · exact rise_snoc (h.rise.sublist (List.Sublist.append_left (List.sublist_cons_self x B) A)) (fun y hy => h.below (hin y hy))
  · by_cases hpi : p = i
    · subst hpi
      exact .inl ⟨{ x with v := p }, by simp, hx⟩
    · rcases h.all p (hpl.pred hpi) with ⟨y, hy, e⟩ | ⟨h1, h2⟩
      · rcases List.mem_cons.1 (hp.mem_iff.1 hy) with rfl | hy
        · exact absurd (hx.symm.trans e) (hpl.2 i (by have := hpl.1; omega) (by omega))
        · exact .inl ⟨y, by simp only [List.mem_append] at hy ⊢; exact .inl hy, e⟩
      · refine .inr ⟨by rw [hl]; exact h1, fun y hy => ?_⟩
        rcases List.mem_append.1 hy with hy | hy
        · exact h2 y (hin y hy)
        · rw [List.mem_singleton.1 hy]
          show (p : Int) < i
          have := hpl.1
          omega

theorem Kept.room (h : Kept f n i L) (hn : ∀ x ∈ L, x.k ≠ f i) (hl : L.length < n) (b : Nat) : Kept f n (i + 1) (L ++ [⟨b, f i, i⟩]) := by
  refine ⟨by simp; omega, fun y hy => ?_, rise_snoc h.rise (fun y hy => h.below hy), fun p hpl => ?_⟩
  · rcases List.mem_append.1 hy with hy | hy
    · obtain ⟨p, h1, h2, h3⟩ := h.each y hy
      exact ⟨p, h1, h2, h3.succ (fun e => hn y hy (h2.trans e.symm))⟩
    · rw [List.mem_singleton.1 hy]
      exact ⟨i, rfl, rfl, Last.self f i⟩
  · by_cases hpi : p = i
    · subst hpi
      exact .inl ⟨⟨b, f p, p⟩, by simp, rfl⟩
    · rcases h.all p (hpl.pred hpi) with ⟨y, hy, e⟩ | ⟨h1, _⟩
      · exact .inl ⟨y, by simp [hy], e⟩
      · omega

theorem Kept.full {y : Ent} {r : List Ent} (h : Kept f n i (y :: r)) (hn : ∀ x ∈ y :: r, x.k ≠ f i) (hl : (y :: r).length = n) (b : Nat) : Kept f n (i + 1) (r ++ [⟨b, f i, i⟩]) := by
  have hl2 : (r ++ [(⟨b, f i, i⟩ : Ent)]).length = n := by simp at hl ⊢; exact hl
  refine ⟨by omega, fun z hz => ?_, rise_snoc (List.pairwise_cons.1 h.rise).2 (fun z hz => h.below (List.mem_cons_of_mem _ hz)), fun p hpl => ?_⟩
  · rcases List.mem_append.1 hz with hz | hz
    · obtain ⟨p, h1, h2, h3⟩ := h.each z (List.mem_cons_of_mem _ hz)
      exact ⟨p, h1, h2, h3.succ (fun e => hn z (List.mem_cons_of_mem _ hz) (h2.trans e.symm))⟩
    · rw [List.mem_singleton.1 hz]
      exact ⟨i, rfl, rfl, Last.self f i⟩
  · by_cases hpi : p = i
    · subst hpi
      exact .inl ⟨⟨b, f p, p⟩, by simp, rfl⟩
    · have hgt : ∀ z ∈ [(⟨b, f i, i⟩ : Ent)], (p : Int) < z.v := fun z hz => by
        rw [List.mem_singleton.1 hz]
        show (p : Int) < i
        have := hpl.1
        omega
      rcases h.all p (hpl.pred hpi) with ⟨z, hz, e⟩ | ⟨_, h2⟩
      · rcases List.mem_cons.1 hz with rfl | hz
        · obtain ⟨q, h3, h4, h5⟩ := h.each z List.mem_cons_self
          have hq : q = p := h5.eq (hpl.pred hpi) (h4.symm.trans e)
          subst hq
          refine .inr ⟨hl2, fun u hu => ?_⟩
          rcases List.mem_append.1 hu with hu | hu
          · have := (List.pairwise_cons.1 h.rise).1 u hu
            omega
          · exact hgt u hu
        · exact .inl ⟨z, by simp [hz], e⟩
      · refine .inr ⟨hl2, fun u hu => ?_⟩
        rcases List.mem_append.1 hu with hu | hu
        · exact h2 u (List.mem_cons_of_mem _ hu)
        · exact hgt u hu

theorem nodup_sub {α : Type} [DecidableEq α] : ∀ {l m : List α}, l.Nodup → (∀ x ∈ l, x ∈ m) → l.length ≤ m.length
  | [], _, _, _ => Nat.zero_le _
  | x :: r, m, hn, hs => by
    obtain ⟨h1, h2⟩ := List.nodup_cons.1 hn
    have hx := hs x List.mem_cons_self
    have := nodup_sub (l := r) (m := m.erase x) h2 (fun y hy => (List.mem_erase_of_ne (show y ≠ x from fun e => h1 (e ▸ hy))).2 (hs y (List.mem_cons_of_mem _ hy)))
    rw [List.length_erase_of_mem hx] at this
    have hpos : 0 < m.length := List.length_pos_of_mem hx
    simp only [List.length_cons]
    omega

/-- who was put among the last is there -/
theorem Kept.here (h : Kept f n i L) (hk : (L.map Ent.k).Nodup) {k : Nat} (hki : k < i) {seen : List ByteArray} (hs : ∀ j, k < j → j < i → f j ∈ seen) (hl : seen.length < n) (hnew : f k ∉ seen) : ∃ x ∈ L, x.k = f k ∧ x.v = k := by
  have hlast : Last f i k := ⟨hki, fun j h1 h2 e => hnew (e ▸ hs j h1 h2)⟩
  rcases h.all k hlast with ⟨x, hx, e⟩ | ⟨h1, h2⟩
  · obtain ⟨p, h3, h4, h5⟩ := h.each x hx
    have := h5.eq hlast (h4.symm.trans e)
    subst this
    exact ⟨x, hx, e, h3⟩
  · have : (L.map Ent.k).length ≤ seen.length := nodup_sub hk (fun s hs2 => by
      obtain ⟨x, hx, rfl⟩ := List.mem_map.1 hs2
      obtain ⟨p, h3, h4, h5⟩ := h.each x hx
      have := h2 x hx
      rw [h4]
      exact hs p (by omega) h5.1)
    rw [List.length_map] at this
    omega

end Go.Proofs.Ytfpbjkmnipacdaa.LruK
