/- A deed on both maps: they answer the same, and hold the same behind it. -/
import Derived.Test.YtkdldcigooiljaaLruV
namespace Go.Proofs.Ytkdldcigooiljaa.LruW
open Go.ChangeShapes Go.WideShapes Go.ChangeAt Go.RowKit Base Wri LruA LruB LruC LruD LruE LruF LruR LruV RefL RefM RefN RefO RefP

variable {S : Spot} {L L' A B : List Ent} {x y : Ent} {s : ByteArray} {w0 w w' : World} {rb : Nat} {v : Value}

theorem Then.before {w1 : World} (hb : Below w.heap.size w w1) (h : Then w0 w1 S L rb v w') : Then w0 w S L rb v w' := by
  obtain ⟨L', v', h1, h2, h3⟩ := h
  exact ⟨L', v', h1, (Wr.ofBelow hb).trans h2, fun k hk => (h3 k hk).imp id (fun e => Nat.le_trans hb.size e)⟩

theorem has_sub (hs : ∀ x ∈ L', ∃ y ∈ L, y.b = x.b) {k : Nat} (h : Has S L' k) : Has S L k := by
  rcases h with e | e | e | ⟨x, hx, e⟩
  · exact .inl e
  · exact .inr (.inl e)
  · exact .inr (.inr (.inl e))
  · obtain ⟨y, hy, e2⟩ := hs x hx
    exact .inr (.inr (.inr ⟨y, hy, e2.trans e⟩))

theorem sub_move (z : Ent) (hz : z.b = x.b) : ∀ u ∈ A ++ B ++ [z], ∃ t ∈ A ++ x :: B, t.b = u.b := by
  intro u hu
  rcases List.mem_append.1 hu with hu | hu
  · rcases List.mem_append.1 hu with hu | hu
    · exact ⟨u, by simp [hu], rfl⟩
    · exact ⟨u, by simp [hu], rfl⟩
  · rw [List.mem_singleton.1 hu]
    exact ⟨x, by simp, hz.symm⟩

theorem has_new {b m : Nat} {q : ByteArray} {u : Int} (hb : m ≤ b) (hs : ∀ x ∈ L', x ∈ L) {k : Nat} (h : Has S (L' ++ [⟨b, q, u⟩]) k) : Has S L k ∨ m ≤ k := by
  rcases h with e | e | e | ⟨x, hx, e⟩
  · exact .inl (.inl e)
  · exact .inl (.inr (.inl e))
  · exact .inl (.inr (.inr (.inl e)))
  · rcases List.mem_append.1 hx with hx | hx
    · exact .inl (.inr (.inr (.inr ⟨x, hs x hx, e⟩)))
    · rw [List.mem_singleton.1 hx] at e
      exact .inr (e ▸ hb)

/-- the box of the deed lies on behind the program's call -/
theorem box_on {k u : Int} {m : Value} {w1 : World} (h : Two w0 w S L rb v) (hw : Wr (Has S L) (wb w k s u m) w1) : w1.heap[w.heap.size]? = some (.cells (dv k s u m) 37) :=
  (hw.block w.heap.size (by unfold wb; simp) (fun e => by have := h.lru.rest.lt _ e; omega)).trans (wb_new w k s u m)

theorem put_two (h : Two w0 w S L rb v) (hw0 : w0.heap.size ≤ w.heap.size) (s : ByteArray) (hs : s.size ≤ maxLen) (u : Int) (a : Option Addr) (n cap : Nat) :
    Calls Try.prog 17 #[ptr S.mb, ptr rb, .agg (dv 0 s u (.slice a n cap))] w fun e w' => e = .returned (.bool true) ∧ Then w0 w S L rb v w' := by
  have hB := wb_below w 0 s u (.slice a n cap)
  have h1 := h.below hB
  have hsz := hB.size
  by_cases hin : ∃ y ∈ L, y.k = s
  · obtain ⟨y, hy, rfl⟩ := hin
    obtain ⟨A, B, rfl⟩ := List.append_of_mem hy
    refine do_put _ _ _ u a n cap w ⟨#[]⟩ false 0 (fun w1 => IsLru w1 S (A ++ B ++ [{ y with v := u }]) ∧ Wr (Has S (A ++ y :: B)) (wb w 0 y.k u (.slice a n cap)) w1) (fun w' => Then w0 w S (A ++ y :: B) rb v w') (hid (put_there h1.lru u)) (hid ?_)
    rintro w1 ⟨hl1, hw1⟩
    have hr := h1.other hw1
    refine ⟨box_on h hw1, (rput_there (i := A.length) u hr (placeI_at h.lru.rest.keys) (by rw [kvs_len]; simp) (by rw [kvs_len]; exact h.len) (Nat.le_trans hw0 (Nat.le_trans hsz hw1.size))).mono ?_⟩
    rintro e w2 ⟨he, hp⟩
    refine ⟨he, Then.before hB (h1.step hl1 hw1 (fun k hk => .inl (has_sub (sub_move (A := A) (B := B) (x := y) { y with v := u } rfl) hk)) ?_)⟩
    rw [kvs_erase] at hp
    rw [kvs_app]
    exact hp
  · have hn : ∀ y ∈ L, y.k ≠ s := fun y hy e => hin ⟨y, hy, e⟩
    by_cases hf : L.length = S.most
    · cases L with
      | nil => have := h.lru.rest.m1; simp at hf; omega
      | cons y r =>
        refine do_put _ _ _ u a n cap w y.k true 0 (fun w1 => (∃ nb, (wb w 0 s u (.slice a n cap)).heap.size ≤ nb ∧ IsLru w1 S (r ++ [⟨nb, s, u⟩])) ∧ Wr (Has S (y :: r)) (wb w 0 s u (.slice a n cap)) w1) (fun w' => Then w0 w S (y :: r) rb v w') (hid (put_full h1.lru hs hn hf u)) (hid ?_)
        rintro w1 ⟨⟨nb, hnb, hl1⟩, hw1⟩
        have hr := h1.other hw1
        have hz := kvs_len (y :: r)
        refine ⟨box_on h hw1, (rput_full (p := (y.k, y.v)) (r := kvs r) u hr (placeI_no hn) (by rw [← hf]; exact hz) h.lru.rest.m2 (Nat.le_trans hw0 (Nat.le_trans hsz hw1.size))).mono ?_⟩
        rintro e w2 ⟨he, hp⟩
        refine ⟨he, Then.before hB (h1.step hl1 hw1 (fun k hk => has_new hnb (fun x hx => List.mem_cons_of_mem _ hx) hk) ?_)⟩
        rw [kvs_app]
        exact hp
    · have hlt : L.length < S.most := Nat.lt_of_le_of_ne h.lru.len hf
      refine do_put _ _ _ u a n cap w ⟨#[]⟩ false 0 (fun w1 => (∃ nb, (wb w 0 s u (.slice a n cap)).heap.size ≤ nb ∧ IsLru w1 S (L ++ [⟨nb, s, u⟩])) ∧ Wr (Has S L) (wb w 0 s u (.slice a n cap)) w1) (fun w' => Then w0 w S L rb v w') (hid (put_room h1.lru hs hn hlt u)) (hid ?_)
      rintro w1 ⟨⟨nb, hnb, hl1⟩, hw1⟩
      have hr := h1.other hw1
      refine ⟨box_on h hw1, (rput_room u hr (placeI_no hn) (by rw [kvs_len]; exact hlt) h.lru.rest.m2 (Nat.le_trans hw0 (Nat.le_trans hsz hw1.size))).mono ?_⟩
      rintro e w2 ⟨he, hp⟩
      refine ⟨he, Then.before hB (h1.step hl1 hw1 (fun k hk => has_new hnb (fun x hx => hx) hk) ?_)⟩
      rw [kvs_app]
      exact hp

theorem get_two (h : Two w0 w S L rb v) (hw0 : w0.heap.size ≤ w.heap.size) (s : ByteArray) (hs : s.size ≤ maxLen) (u : Int) (a : Option Addr) (n cap : Nat) :
    Calls Try.prog 17 #[ptr S.mb, ptr rb, .agg (dv 1 s u (.slice a n cap))] w fun e w' => e = .returned (.bool true) ∧ Then w0 w S L rb v w' := by
  have hB := wb_below w 1 s u (.slice a n cap)
  have h1 := h.below hB
  have hsz := hB.size
  by_cases hin : ∃ y ∈ L, y.k = s
  · obtain ⟨y, hy, rfl⟩ := hin
    obtain ⟨A, B, rfl⟩ := List.append_of_mem hy
    refine do_get _ _ _ u a n cap w true y.v (fun w1 => IsLru w1 S (A ++ B ++ [y]) ∧ Wr (Has S (A ++ y :: B)) (wb w 1 y.k u (.slice a n cap)) w1) (fun w' => Then w0 w S (A ++ y :: B) rb v w') (hid (get_yes h1.lru)) (hid ?_)
    rintro w1 ⟨hl1, hw1⟩
    have hr := h1.other hw1
    refine ⟨box_on h hw1, (rget_yes (i := A.length) (p := (y.k, y.v)) hr (placeI_at h.lru.rest.keys) (kvs_get A B y) (by rw [kvs_len]; exact h.len) (Nat.le_trans hw0 (Nat.le_trans hsz hw1.size))).mono ?_⟩
    rintro e w2 ⟨he, hp⟩
    refine ⟨he, Then.before hB (h1.step hl1 hw1 (fun k hk => .inl (has_sub (sub_move (A := A) (B := B) (x := y) _ rfl) hk)) ?_)⟩
    rw [kvs_erase] at hp
    rw [kvs_app]
    exact hp
  · have hn : ∀ y ∈ L, y.k ≠ s := fun y hy e => hin ⟨y, hy, e⟩
    refine do_get _ _ _ u a n cap w false 0 (fun w1 => wb w 1 s u (.slice a n cap) = w1) (fun w' => Then w0 w S L rb v w') (hid (get_no h1.lru.rest hs hn)) (hid ?_)
    rintro w1 rfl
    refine ⟨wb_new w 1 s u _, (rget_no h1.ref (placeI_no hn) (by rw [kvs_len]; exact h.len)).mono ?_⟩
    rintro e w2 ⟨he, rfl⟩
    exact ⟨he, Then.before hB (Then.same h1 (Wr.refl _ _) rfl)⟩

theorem peek_two (h : Two w0 w S L rb v) (s : ByteArray) (hs : s.size ≤ maxLen) (u : Int) (a : Option Addr) (n cap : Nat) :
    Calls Try.prog 17 #[ptr S.mb, ptr rb, .agg (dv 2 s u (.slice a n cap))] w fun e w' => e = .returned (.bool true) ∧ Then w0 w S L rb v w' := by
  have hB := wb_below w 2 s u (.slice a n cap)
  have h1 := h.below hB
  by_cases hin : ∃ y ∈ L, y.k = s
  · obtain ⟨y, hy, rfl⟩ := hin
    obtain ⟨A, B, rfl⟩ := List.append_of_mem hy
    refine do_peek _ _ _ u a n cap w true y.v (fun w1 => wb w 2 y.k u (.slice a n cap) = w1) (fun w' => Then w0 w S (A ++ y :: B) rb v w') (hid (peek_yes h1.lru.rest (by simp))) (hid ?_)
    rintro w1 rfl
    refine ⟨wb_new w 2 y.k u _, (rpeek_yes (i := A.length) (p := (y.k, y.v)) h1.ref (placeI_at h.lru.rest.keys) (kvs_get A B y) (by rw [kvs_len]; exact h.len)).mono ?_⟩
    rintro e w2 ⟨he, rfl⟩
    exact ⟨he, Then.before hB (Then.same h1 (Wr.refl _ _) rfl)⟩
  · have hn : ∀ y ∈ L, y.k ≠ s := fun y hy e => hin ⟨y, hy, e⟩
    refine do_peek _ _ _ u a n cap w false 0 (fun w1 => wb w 2 s u (.slice a n cap) = w1) (fun w' => Then w0 w S L rb v w') (hid (peek_no h1.lru.rest hs hn)) (hid ?_)
    rintro w1 rfl
    refine ⟨wb_new w 2 s u _, (rpeek_no h1.ref (placeI_no hn) (by rw [kvs_len]; exact h.len)).mono ?_⟩
    rintro e w2 ⟨he, rfl⟩
    exact ⟨he, Then.before hB (Then.same h1 (Wr.refl _ _) rfl)⟩

theorem drop_two (h : Two w0 w S L rb v) (hw0 : w0.heap.size ≤ w.heap.size) (k : Int) (hk0 : (k == 0) = false) (hk1 : (k == 1) = false) (hk2 : (k == 2) = false) (s : ByteArray) (u : Int) (a : Option Addr) (n cap : Nat) (f : Nat → ByteArray) (hn : n ≤ 9223372036854775807) (hsz : ∀ i, i < n → (f i).size ≤ maxLen)
    (hf : Strs w a n f) (hfar : 0 < n → ∀ g o, a = some ⟨g, o, none⟩ → g < w0.heap.size) :
    Calls Try.prog 17 #[ptr S.mb, ptr rb, .agg (dv k s u (.slice a n cap))] w fun e w' => e = .returned (.bool true) ∧ Then w0 w S L rb v w' := by
  have hB : Below w.heap.size w (wb w k s u (.slice a n cap)).drew := (wb_below w k s u (.slice a n cap)).drew
  have h1 : Two w0 (wb w k s u (.slice a n cap)).drew S L rb v := h.below hB
  have hz := hB.size
  have strs : ∀ {w1 : World}, (∀ g, g < w0.heap.size → w1.heap[g]? = w.heap[g]?) → w.heap.size ≤ w1.heap.size → Strs w1 a n f := fun {w1} hk hs h0 => by
    obtain ⟨g, o, rfl, hg, hc⟩ := hf h0
    have := hfar h0 g o rfl
    exact ⟨g, o, rfl, by omega, fun i hi => (World.cell?_of_block (a := ⟨g, o + i, none⟩) (hk g this)).trans (hc i hi)⟩
  have hW0 : ∀ g, g < w0.heap.size → (wb w k s u (.slice a n cap)).drew.heap[g]? = w.heap[g]? := fun g hg => hB.block g (by omega)
  refine do_drop _ _ k s u a n cap w hk0 hk1 hk2 ((L.length : Int) - (outs f n L).length) (fun w1 => IsLru w1 S (outs f n L) ∧ Wr (Has S L) (wb w k s u (.slice a n cap)).drew w1) (fun w' => Then w0 w S L rb v w' ∧ w'.heap[w.heap.size]? = (wb w k s u (.slice a n cap)).heap[w.heap.size]?)
    (hid (drop_any h1.lru a n cap f hn hsz (strs hW0 hz) (fun h0 g o e hh => by have := hfar h0 g o e; have := h.ab g hh; omega))) (hid ?_) (hid fun w2 h2 => (dv_cells (h2.2.trans (wb_new w k s u _))).2.2.2) |>.mono (fun e w' hh => ⟨hh.1, hh.2.1⟩)
  rintro w1 ⟨hl1, hw1⟩
  have hr := h1.other hw1
  have hbx : w1.heap[w.heap.size]? = (wb w k s u (.slice a n cap)).heap[w.heap.size]? := hw1.block w.heap.size (by show _ < (wb w k s u _).heap.size; unfold wb; simp) (fun e => by have := h.lru.rest.lt _ e; omega)
  refine ⟨hbx.trans (wb_new w k s u _), (rdrop_any hr (by rw [kvs_len]; exact h.len) (Nat.le_trans hw0 (Nat.le_trans hz hw1.size)) a n cap f hn (strs (fun g hg => (hw1.block g (by omega) (fun e => by have := h.ab g e; omega)).trans (hW0 g hg)) (Nat.le_trans hz hw1.size)) hfar).mono ?_⟩
  rintro e w2 ⟨he, hp⟩
  rw [outsP_outs h.lru.rest.keys] at he hp
  rw [kvs_len, kvs_len] at he
  refine ⟨he, Then.before hB (h1.step hl1 hw1 (fun k hk => .inl (has_sub (fun x hx => ⟨x, outs_sub f n L x hx, rfl⟩) hk)) hp), (hp.2.block w.heap.size (Nat.lt_of_lt_of_le (by show _ < (wb w k s u _).heap.size; unfold wb; simp) hw1.size) (fun e => ?_)).trans hbx⟩
  rcases e with e | e
  · have := h.ref.lt; omega
  · have := (h.ref.row.lt _ e).2; omega

/-- a deed on both -/
theorem do_two (h : Two w0 w S L rb v) (hw0 : w0.heap.size ≤ w.heap.size) (k : Int) (s : ByteArray) (hs : s.size ≤ maxLen) (u : Int) (a : Option Addr) (n cap : Nat) (f : Nat → ByteArray) (hn : n ≤ 9223372036854775807) (hsz : ∀ i, i < n → (f i).size ≤ maxLen)
    (hf : Strs w a n f) (hfar : 0 < n → ∀ g o, a = some ⟨g, o, none⟩ → g < w0.heap.size) :
    Calls Try.prog 17 #[ptr S.mb, ptr rb, .agg (dv k s u (.slice a n cap))] w fun e w' => e = .returned (.bool true) ∧ Then w0 w S L rb v w' := by
  by_cases h0 : k = 0
  · subst h0; exact put_two h hw0 s hs u a n cap
  by_cases h1 : k = 1
  · subst h1; exact get_two h hw0 s hs u a n cap
  by_cases h2 : k = 2
  · subst h2; exact peek_two h s hs u a n cap
  exact drop_two h hw0 k (by simpa using h0) (by simpa using h1) (by simpa using h2) s u a n cap f hn hsz hf hfar

end Go.Proofs.Ytkdldcigooiljaa.LruW
