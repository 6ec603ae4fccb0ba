/- What must be of a bounded map whatever is asked. -/
import Derived.Test.YtopljjmbekpdmaaLruF
namespace Go.Proofs.Ytopljjmbekpdmaa.LruL
open Go.ChangeShapes Go.WideShapes Go.ChangeAt Go.RowKit Base Wri Map LruA LruB LruC LruD LruE LruF

theorem has_or {S : Spot} {L : List Ent} {nb : Nat} {s : ByteArray} {v : Int} {B : Nat} (h : ∀ k, Has S L k → B ≤ k) (hn : B ≤ nb) : ∀ k, Has S (L ++ [⟨nb, s, v⟩]) k → B ≤ k := by
  rintro k (e | e | e | ⟨x, hx, e⟩)
  · exact h k (.inl e)
  · exact h k (.inr (.inl e))
  · exact h k (.inr (.inr (.inl e)))
  · rcases List.mem_append.1 hx with hx | hx
    · exact h k (.inr (.inr (.inr ⟨x, hx, e⟩)))
    · rw [List.mem_singleton.1 hx] at e
      exact e ▸ hn

theorem has_sub {S : Spot} {L L' : List Ent} {B : Nat} (h : ∀ k, Has S L k → B ≤ k) (hs : ∀ x ∈ L', ∃ y ∈ L, y.b = x.b) : ∀ k, Has S L' k → B ≤ k := by
  rintro k (e | e | e | ⟨x, hx, e⟩)
  · exact h k (.inl e)
  · exact h k (.inr (.inl e))
  · exact h k (.inr (.inr (.inl e)))
  · obtain ⟨y, hy, e2⟩ := hs x hx
    exact h k (.inr (.inr (.inr ⟨y, hy, e2.trans e⟩)))

/-- a bounded map that a call owns -/
structure Own (w0 : World) (S : Spot) (L : List Ent) (w : World) : Prop where
  lru : IsLru w S L
  above : ∀ k, Has S L k → w0.heap.size ≤ k
  bel : Below w0.heap.size w0 w

variable {w0 w w' : World} {S : Spot} {L : List Ent}

theorem Own.below (h : Own w0 S L w) (hb : Below w.heap.size w w') : Own w0 S L w' := ⟨h.lru.below hb, h.above, h.bel.trans (hb.mono h.bel.size)⟩

theorem own_put_room (h : Own w0 S L w) {s : ByteArray} (hs : s.size ≤ maxLen) (hn : ∀ x ∈ L, x.k ≠ s) (hl : L.length < S.most) (n : Int) :
    Calls Try.prog 36 #[ptr S.mb, .string s, .int .i64 n] w fun e w' => e = .returned (.tuple #[.string ⟨#[]⟩, .bool false, .int .i64 0]) ∧ ∃ nb, Own w0 S (L ++ [⟨nb, s, n⟩]) w' := by
  refine (put_room h.lru hs hn hl n).mono ?_
  rintro e w' ⟨he, ⟨nb, hnb, h1⟩, hw⟩
  exact ⟨he, nb, h1, has_or h.above (Nat.le_trans h.bel.size hnb), h.bel.trans (hw.below _ h.bel.size h.above)⟩

theorem own_put_there {A B : List Ent} {x : Ent} (h : Own w0 S (A ++ x :: B) w) (n : Int) :
    Calls Try.prog 36 #[ptr S.mb, .string x.k, .int .i64 n] w fun e w' => e = .returned (.tuple #[.string ⟨#[]⟩, .bool false, .int .i64 0]) ∧ Own w0 S (A ++ B ++ [{ x with v := n }]) w' := by
  refine (put_there h.lru n).mono ?_
  rintro e w' ⟨he, h1, hw⟩
  refine ⟨he, h1, has_sub h.above (fun y hy => ?_), h.bel.trans (hw.below _ h.bel.size h.above)⟩
  rcases List.mem_append.1 hy with hy | hy
  · rcases List.mem_append.1 hy with hy | hy
    · exact ⟨y, by simp [hy], rfl⟩
    · exact ⟨y, by simp [hy], rfl⟩
  · rw [List.mem_singleton.1 hy]; exact ⟨x, by simp, rfl⟩

theorem own_put_full {y : Ent} {r : List Ent} (h : Own w0 S (y :: r) w) {s : ByteArray} (hs : s.size ≤ maxLen) (hn : ∀ x ∈ y :: r, x.k ≠ s) (hl : (y :: r).length = S.most) (n : Int) :
    Calls Try.prog 36 #[ptr S.mb, .string s, .int .i64 n] w fun e w' => e = .returned (.tuple #[.string y.k, .bool true, .int .i64 0]) ∧ ∃ nb, Own w0 S (r ++ [⟨nb, s, n⟩]) w' := by
  refine (put_full h.lru hs hn hl n).mono ?_
  rintro e w' ⟨he, ⟨nb, hnb, h1⟩, hw⟩
  exact ⟨he, nb, h1, has_or (has_sub h.above (fun x hx => ⟨x, List.mem_cons_of_mem _ hx, rfl⟩)) (Nat.le_trans h.bel.size hnb), h.bel.trans (hw.below _ h.bel.size h.above)⟩

theorem own_get {A B : List Ent} {x : Ent} (h : Own w0 S (A ++ x :: B) w) :
    Calls Try.prog 37 #[ptr S.mb, .string x.k] w fun e w' => e = .returned (.tuple #[.int .i64 x.v, .bool true]) ∧ Own w0 S (A ++ B ++ [x]) w' := by
  refine (get_yes h.lru).mono ?_
  rintro e w' ⟨he, h1, hw⟩
  refine ⟨he, h1, has_sub h.above (fun y hy => ?_), h.bel.trans (hw.below _ h.bel.size h.above)⟩
  rcases List.mem_append.1 hy with hy | hy
  · rcases List.mem_append.1 hy with hy | hy
    · exact ⟨y, by simp [hy], rfl⟩
    · exact ⟨y, by simp [hy], rfl⟩
  · rw [List.mem_singleton.1 hy]; exact ⟨x, by simp, rfl⟩

theorem own_new (most : Nat) (w : World) (h1 : 1 ≤ most) (h2 : most ≤ 4096) :
    Calls Try.prog 34 #[.int .i64 most] w fun e w' => ∃ S : Spot, e = .returned (.tuple #[ptr S.mb, .int .i64 0]) ∧ S.most = most ∧ Own w S [] w' := by
  refine (new_yes most w h1 h2).mono ?_
  rintro e w' ⟨S, he, hm, hl, hb, ha⟩
  exact ⟨S, he, hm, hl, ha, hb⟩

end Go.Proofs.Ytopljjmbekpdmaa.LruL
