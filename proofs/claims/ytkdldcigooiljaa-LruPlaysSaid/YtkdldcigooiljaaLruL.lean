/- What must be of a bounded map whatever is asked. -/
import Derived.Test.YtkdldcigooiljaaLruF
namespace Go.Proofs.Ytkdldcigooiljaa.LruL
open Go.ChangeShapes Go.WideShapes Go.ChangeAt Go.RowKit Base Wri Map LruA LruB LruC LruD LruE LruF

theorem has_or {S : Spot} {L : List Ent} {nb : Nat} {s : ByteArray} {v : Int} {B : Nat} (h : ∀ k, Has S L k → B ≤ k) (hn : B ≤ nb) : ∀ k, Has S (L ++ [⟨nb, s, v⟩]) k → B ≤ k := by
  rintro k (e | e | e | ⟨x, hx, e⟩)
  · exact h k (.inl e)
  · exact h k (.inr (.inl e))
  · exact h k (.inr (.inr (.inl e)))
  · rcases List.mem_append.1 hx with hx | hx
    · exact h k (.inr (.inr (.inr ⟨x, hx, e⟩)))
    · rw [List.mem_singleton.1 hx] at e
      exact e ▸ hn

theorem has_sub {S : Spot} {L L' : List Ent} {B : Nat} (h : ∀ k, Has S L k → B ≤ k) (hs : ∀ x ∈ L', ∃ y ∈ L, y.b = x.b) : ∀ k, Has S L' k → B ≤ k := by
  rintro k (e | e | e | ⟨x, hx, e⟩)
  · exact h k (.inl e)
  · exact h k (.inr (.inl e))
  · exact h k (.inr (.inr (.inl e)))
  · obtain ⟨y, hy, e2⟩ := hs x hx
    exact h k (.inr (.inr (.inr ⟨y, hy, e2.trans e⟩)))

/-- a bounded map that a call owns -/
structure Own (w0 : World) (S : Spot) (L : List Ent) (w : World) : Prop where
  lru : IsLru w S L
  above : ∀ k, Has S L k → w0.heap.size ≤ k
  bel : Below w0.heap.size w0 w

variable {w0 w w' : World} {S : Spot} {L : List Ent}

theorem Own.below (h : Own w0 S L w) (hb : Below w.heap.size w w') : Own w0 S L w' := ⟨h.lru.below hb, h.above, h.bel.trans (hb.mono h.bel.size)⟩

theorem own_put_room (h : Own w0 S L w) {s : ByteArray} (hs : s.size ≤ maxLen) (hn : ∀ x ∈ L, x.k ≠ s) (hl : L.length < S.most) (n : Int) :
    Calls Try.prog 12 #[ptr S.mb, .string s, .int .i64 n] w fun e w' => e = .returned (.tuple #[.string ⟨#[]⟩, .bool false, .int .i64 0]) ∧ ∃ nb, Own w0 S (L ++ [⟨nb, s, n⟩]) w' := by
  refine (put_room h.lru hs hn hl n).mono ?_
  rintro e w' ⟨he, ⟨nb, hnb, h1⟩, hw⟩
  exact ⟨he, nb, h1, has_or h.above (Nat.le_trans h.bel.size hnb), h.bel.trans (hw.below _ h.bel.size h.above)⟩

theorem own_put_there {A B : List Ent} {x : Ent} (h : Own w0 S (A ++ x :: B) w) (n : Int) :
    Calls Try.prog 12 #[ptr S.mb, .string x.k, .int .i64 n] w fun e w' => e = .returned (.tuple #[.string ⟨#[]⟩, .bool false, .int .i64 0]) ∧ Own w0 S (A ++ B ++ [{ x with v := n }]) w' := by
  refine (put_there h.lru n).mono ?_
  rintro e w' ⟨he, h1, hw⟩
  refine ⟨he, h1, has_sub h.above (fun y hy => ?_), h.bel.trans (hw.below _ h.bel.size h.above)⟩
  rcases List.mem_append.1 hy with hy | hy
  · rcases List.mem_append.1 hy with hy | hy
    · exact ⟨y, by simp [hy], rfl⟩
    · exact ⟨y, by simp [hy], rfl⟩
  · rw [List.mem_singleton.1 hy]; exact ⟨x, by simp, rfl⟩

theorem own_put_full {y : Ent} {r : List Ent} (h : Own w0 S (y :: r) w) {s : ByteArray} (hs : s.size ≤ maxLen) (hn : ∀ x ∈ y :: r, x.k ≠ s) (hl : (y :: r).length = S.most) (n : Int) :
    Calls Try.prog 12 #[ptr S.mb, .string s, .int .i64 n] w fun e w' => e = .returned (.tuple #[.string y.k, .bool true, .int .i64 0]) ∧ ∃ nb, Own w0 S (r ++ [⟨nb, s, n⟩]) w' := by
  refine (put_full h.lru hs hn hl n).mono ?_
  rintro e w' ⟨he, ⟨nb, hnb, h1⟩, hw⟩
  exact ⟨he, nb, h1, has_or (has_sub h.above (fun x hx => ⟨x, List.mem_cons_of_mem _ hx, rfl⟩)) (Nat.le_trans h.bel.size hnb), h.bel.trans (hw.below _ h.bel.size h.above)⟩

theorem own_get {A B : List Ent} {x : Ent} (h : Own w0 S (A ++ x :: B) w) :
    Calls Try.prog 13 #[ptr S.mb, .string x.k] w fun e w' => e = .returned (.tuple #[.int .i64 x.v, .bool true]) ∧ Own w0 S (A ++ B ++ [x]) w' := by
  refine (get_yes h.lru).mono ?_
  rintro e w' ⟨he, h1, hw⟩
  refine ⟨he, h1, has_sub h.above (fun y hy => ?_), h.bel.trans (hw.below _ h.bel.size h.above)⟩
  rcases List.mem_append.1 hy with hy | hy
  · rcases List.mem_append.1 hy with hy | hy
    · exact ⟨y, by simp [hy], rfl⟩
    · exact ⟨y, by simp [hy], rfl⟩
  · rw [List.mem_singleton.1 hy]; exact ⟨x, by simp, rfl⟩

theorem own_new (most : Nat) (w : World) (h1 : 1 ≤ most) (h2 : most ≤ 4096) :
    Calls Try.prog 15 #[.int .i64 most] w fun e w' => ∃ S : Spot, e = .returned (.tuple #[ptr S.mb, .int .i64 0]) ∧ S.most = most ∧ Own w S [] w' := by
  refine (new_yes most w h1 h2).mono ?_
  rintro e w' ⟨S, he, hm, hl, hb, ha⟩
  exact ⟨S, he, hm, hl, ha, hb⟩

set_option maxRecDepth 100000 in
set_option maxHeartbeats 4000000 in
theorem live_look (w : World) :
    Calls Try.prog 19 #[] w fun e w' => e = .returned (.bool true) ∧ Below w.heap.size w w' := by
  go_enter Try.func19, Try.ntmps19
  go_wp2_with fail
  refine (own_new 2 w (by omega) (by omega)).mono ?_
  rintro e w1 ⟨S, rfl, hm, h1⟩
  have HM := hid hm
  have H1 := hid (own_put_room h1 (s := ⟨#[97]⟩) (by decide) (fun x hx => by cases hx) (by rw [hm]; decide) 1)
  clear h1 hm
  unfold ptr at *
  go_wp2_with fail
  refine H1.out.mono ?_
  rintro e w2 ⟨rfl, n1, h2⟩
  have H2 := hid (own_put_room h2 (s := ⟨#[98]⟩) (by decide) (fun x hx => by rw [List.mem_singleton.1 hx]; show (⟨#[97]⟩ : ByteArray) ≠ ⟨#[98]⟩; decide) (by rw [HM.out]; show 1 < 2; decide) 2)
  clear H1 h2
  unfold ptr at *
  go_wp2_with fail
  refine H2.out.mono ?_
  rintro e w3 ⟨rfl, n2, h3⟩
  have H3 := hid (own_get (A := []) (x := ⟨n1, ⟨#[97]⟩, 1⟩) (B := [⟨n2, ⟨#[98]⟩, 2⟩]) h3)
  clear H2 h3
  unfold ptr at *
  go_wp2_with fail
  refine H3.out.mono ?_
  rintro e w4 ⟨rfl, h4⟩
  have H4 := hid (own_put_full (y := ⟨n2, ⟨#[98]⟩, 2⟩) (r := [⟨n1, ⟨#[97]⟩, 1⟩]) h4 (s := ⟨#[99]⟩) (by decide) (fun x hx => by
    rcases List.mem_cons.1 hx with rfl | hx
    · show (⟨#[98]⟩ : ByteArray) ≠ ⟨#[99]⟩; decide
    · rw [List.mem_singleton.1 hx]; show (⟨#[97]⟩ : ByteArray) ≠ ⟨#[99]⟩; decide) (by rw [HM.out]; rfl) 3)
  clear H3 h4
  unfold ptr at *
  go_wp2_with fail
  refine H4.out.mono ?_
  rintro e w5 ⟨rfl, n3, h5⟩
  have H5 := hid (len_any h5.lru.rest)
  have HB := hid h5.bel
  clear H4 h5
  unfold ptr at *
  go_wp2_with fail
  refine H5.out.mono ?_
  rintro e w6 ⟨rfl, rfl⟩
  go_wp2_with fail
  go_ret
  exact ⟨rfl, HB.out⟩

end Go.Proofs.Ytkdldcigooiljaa.LruL
