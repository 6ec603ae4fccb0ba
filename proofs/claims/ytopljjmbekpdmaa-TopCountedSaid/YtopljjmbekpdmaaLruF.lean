/- Contracts of a bounded map's calls: Get, Put, New. -/
import Derived.Test.YtopljjmbekpdmaaLruE
namespace Go.Proofs.Ytopljjmbekpdmaa.LruF
open Go.ChangeShapes Go.WideShapes Go.ChangeAt Go.RowKit Base Wri Map LruA LruB LruC LruD LruE

variable {w w' : World} {S : Spot} {L L' : List Ent}

theorem get_yes {A B : List Ent} {x : Ent} (h : IsLru w S (A ++ x :: B)) :
    Calls Try.prog 37 #[ptr S.mb, .string x.k] w fun e w' => e = .returned (.tuple #[.int .i64 x.v, .bool true]) ∧ IsLru w' S (A ++ B ++ [x]) ∧ Wr (Has S (A ++ x :: B)) w w' := by
  have HT := hid (touch_yes h)
  clear h
  go_enter Try.func37, Try.ntmps37
  unfold ptr at *
  go_wp2_with fail
  refine HT.out.mono ?_
  rintro e w1 ⟨rfl, h1, hw1⟩
  have H1 := hid (And.intro h1 hw1)
  have HE := hid (tell_yes x.b x.v w1 (h1.rest.ents x (by simp)).2.2.1)
  clear HT h1 hw1
  unfold ptr at *
  go_wp2_with fail
  refine HE.out.mono ?_
  rintro e w2 ⟨rfl, rfl⟩
  go_wp2_with fail
  go_ret2
  exact ⟨rfl, H1.out⟩

theorem get_no (h : LRest w S L) {s : ByteArray} (hs : s.size ≤ maxLen) (hn : ∀ x ∈ L, x.k ≠ s) :
    Calls Try.prog 37 #[ptr S.mb, .string s] w fun e w' => e = .returned (.tuple #[.int .i64 0, .bool false]) ∧ w = w' := by
  have HT := hid (touch_no h hs hn)
  clear h hn
  go_enter Try.func37, Try.ntmps37
  unfold ptr at *
  go_wp2_with fail
  refine HT.out.mono ?_
  rintro e w1 ⟨rfl, rfl⟩
  go_wp2_with fail
  refine (tell_no _).mono ?_
  rintro e w2 ⟨rfl, rfl⟩
  go_wp2_with fail
  go_ret2
  exact ⟨rfl, rfl⟩

/-- the same list with another value at one key -/
theorem IsLru.value {A B : List Ent} {x : Ent} (h : IsLru w S (A ++ x :: B)) (n : Int) : IsLru (w.setCell ⟨x.b, 1, none⟩ (.int .i64 n)) S (A ++ { x with v := n } :: B) :=
  ⟨h.rest.value n, by have := ring_value (b := x.b) (v := .int .i64 n) h.ring; simpa using this, by simpa using h.len⟩

theorem put_there {A B : List Ent} {x : Ent} (h : IsLru w S (A ++ x :: B)) (n : Int) :
    Calls Try.prog 36 #[ptr S.mb, .string x.k, .int .i64 n] w fun e w' => e = .returned (.tuple #[.string ⟨#[]⟩, .bool false, .int .i64 0]) ∧ IsLru w' S (A ++ B ++ [{ x with v := n }]) ∧ Wr (Has S (A ++ x :: B)) w w' := by
  have HT := hid (touch_yes h)
  clear h
  unfold ptr at *
  go_enter Try.func36, Try.ntmps36
  go_wp2_with fail
  refine HT.out.mono ?_
  rintro e w1 ⟨rfl, h1, hw1⟩
  have c1 := (h1.rest.ents x (by simp)).2.2.1
  have f1 := (h1.rest.ents x (by simp)).1.fr 1
  have H1 := hid (IsLru.value (A := A ++ B) (B := []) h1 n)
  have HW := hid (hw1.trans (Wr.set (R := Has S (A ++ x :: B)) ⟨x.b, 1, none⟩ (.int .i64 n) (.inr (.inr (.inr ⟨x, by simp, rfl⟩)))))
  clear HT h1 hw1
  go_wp2_with fail
  go_ret3
  exact ⟨rfl, H1.out, HW.out⟩

theorem put_room (h : IsLru w S L) {s : ByteArray} (hs : s.size ≤ maxLen) (hn : ∀ x ∈ L, x.k ≠ s) (hl : L.length < S.most) (n : Int) :
    Calls Try.prog 36 #[ptr S.mb, .string s, .int .i64 n] w fun e w' => e = .returned (.tuple #[.string ⟨#[]⟩, .bool false, .int .i64 0]) ∧ (∃ nb, w.heap.size ≤ nb ∧ IsLru w' S (L ++ [⟨nb, s, n⟩])) ∧ Wr (Has S L) w w' := by
  have HT := hid (touch_no h.rest hs hn)
  have HL := hid (len_any (w := w.drew) (L := L) (lrest_heap h.rest rfl))
  have HA := hid (add_yes (w := w.drew) (L := L) ⟨lrest_heap h.rest rfl, ring_heap h.ring rfl, h.len⟩ hs hn hl n)
  have c1 := (LRest.mcell h.rest).2.1
  have hm := h.rest.m2
  clear h hn
  unfold ptr at *
  go_enter Try.func36, Try.ntmps36
  go_wp2_with fail
  refine HT.out.mono ?_
  rintro e w1 ⟨rfl, rfl⟩
  clear HT
  go_wp2_with fail
  go_region_held3 (fun w' => w'.cell? ⟨S.mb, 1, none⟩ = some (.int .i64 S.most)) (first | assumption | go_keep) (first | (go_at_call 38; go_loud (refine HL.out.mono ?_; rintro e w7 ⟨rfl, rfl⟩)))
  go_wp2_with fail
  refine HA.out.mono ?_
  rintro e w2 ⟨rfl, h2, hw2⟩
  have H2 := hid (And.intro h2 hw2)
  clear HA HL h2 hw2
  go_wp2_with fail
  go_ret3
  exact ⟨rfl, ⟨_, by show w.heap.size ≤ w.heap.size + 1; omega, H2.out.1⟩, (Wr.refl _ _).drewN 1 |>.trans H2.out.2⟩

set_option maxRecDepth 20000 in
set_option maxHeartbeats 1000000 in
theorem put_full {y : Ent} {r : List Ent} (h : IsLru w S (y :: r)) {s : ByteArray} (hs : s.size ≤ maxLen) (hn : ∀ x ∈ y :: r, x.k ≠ s) (hl : (y :: r).length = S.most) (n : Int) :
    Calls Try.prog 36 #[ptr S.mb, .string s, .int .i64 n] w fun e w' => e = .returned (.tuple #[.string y.k, .bool true, .int .i64 0]) ∧ (∃ nb, w.heap.size ≤ nb ∧ IsLru w' S (r ++ [⟨nb, s, n⟩])) ∧ Wr (Has S (y :: r)) w w' := by
  have HT := hid (touch_no h.rest hs hn)
  have hd : IsLru w.drew S (y :: r) := ⟨lrest_heap h.rest rfl, ring_heap h.ring rfl, h.len⟩
  have HL := hid (len_any hd.rest)
  have hm2 := h.rest.m2
  obtain ⟨q, hq⟩ : ∃ q, S.most = q := ⟨_, rfl⟩
  rw [hl, hq] at HL
  have c1 := (LRest.mcell h.rest).2.1
  rw [hq] at c1 hm2
  have c0 := (LRest.mcell hd.rest).1
  have hfirst := hd.ring.first.1
  have HF := hid (first_any S.kn y.b w.drew hfirst)
  have hk0 := (hd.rest.ents y (by simp)).2.1
  have hks := (hd.rest.ents y (by simp)).2.2.2
  have hyl := (hd.rest.ents y (by simp)).1.lt
  obtain ⟨w2, hw2⟩ : ∃ w2, w.drew.alloc (.cells #[ptr S.kn] 135) = w2 := ⟨_, rfl⟩
  rw [hw2] at HF
  have hb2 : Below w.heap.size w w2 := by rw [← hw2]; exact (Below.refl w.heap.size w).drew.alloc (Nat.le_refl _) _
  have h2 := h.below hb2
  have hk2 := (h2.rest.ents y (by simp)).2.1
  have h3 := h2.below ((Below.refl w2.heap.size w2).alloc (Nat.le_refl _) (.cells #[.string y.k] 9))
  have HD := hid (drop_any h3 (some ⟨w2.heap.size, 0, none⟩) 1 1 (fun _ => y.k) (by omega) (fun _ _ => hks) (fun _ => ⟨w2.heap.size, 0, rfl, by simp, fun i hi => by
    have hi0 : i = 0 := (by omega)
    subst hi0
    have hn := heap_alloc_new w2 (.cells #[.string y.k] 9)
    show World.cell? _ ⟨w2.heap.size, 0, none⟩ = _
    unfold World.cell?
    rw [hn]
    rfl⟩) (fun _ g o e hh => by
    have e2 := congrArg Addr.block (Option.some.inj e)
    have := h2.rest.lt g hh
    simp at e2; omega))
  have ho : outs (fun _ => y.k) 1 (y :: r) = r := out_mid (A := []) h.rest.keys
  rw [ho] at HD
  have HB2 := hid hb2
  have HN := hid hn
  have HQ := hid (And.intro hl hq)
  have c0' := (LRest.mcell h2.rest).1
  clear h hn hd hfirst hw2 hb2 h2 h3 ho hq hl
  unfold ptr at *
  go_enter Try.func36, Try.ntmps36
  go_wp2_with fail
  refine HT.out.mono ?_
  rintro e w1 ⟨rfl, rfl⟩
  clear HT
  go_wp2_with fail
  go_region_held3 (fun w' => w'.cell? ⟨S.mb, 1, none⟩ = some (.int .i64 q)) (first | assumption | go_keep) (first | (go_at_call 38; go_loud (refine HL.out.mono ?_; rintro e w7 ⟨rfl, rfl⟩)))
  go_wp2_with fail
  refine HF.out.mono ?_
  rintro e w3 ⟨rfl, rfl⟩
  clear HF
  go_wp2_with fail
  refine HD.out.mono ?_
  rintro e w4 ⟨rfl, h4, hw4⟩
  have hl4 : r.length < S.most := by have := HQ.out.1; simp at this; omega
  have HA := hid (add_yes h4 hs (fun x hx => HN.out x (by simp [hx])) hl4 n)
  have HW4 := hid (((Wr.ofBelow (R := Has S (y :: r)) HB2.out).on (Wr.ofBelow (R := Has S (y :: r)) ((Below.refl w2.heap.size w2).alloc (Nat.le_refl _) (.cells #[.string y.k] 9))) (fun k hk => .inl hk)).trans hw4)
  clear HD h4 hw4 hk2 c0'
  unfold ptr at *
  go_wp2_with fail
  refine HA.out.mono ?_
  rintro e w5 ⟨rfl, h5, hw5⟩
  have H5 := hid h5
  have HW5 := hid (HW4.out.on hw5 (fun k hk => .inl (has_mono hk (fun x hx => List.mem_cons_of_mem _ hx))))
  have hsz : w.heap.size ≤ w4.heap.size := HW4.out.size
  clear HA h5 hw5 HW4
  go_wp2_with fail
  go_ret3
  exact ⟨rfl, ⟨_, by omega, H5.out⟩, HW5.out⟩

set_option maxHeartbeats 400000 in
theorem empty_any (most : Nat) (w : World) (h1 : 1 ≤ most) (h2 : most ≤ 4096) :
    Calls Try.prog 75 #[.int .i64 most] w fun e w' => ∃ S : Spot, e = .returned (ptr S.mb) ∧ S.most = most ∧ IsLru w' S [] ∧ Below w.heap.size w w' ∧ (∀ k, Has S [] k → w.heap.size ≤ k) := by
  go_enter Try.func75, Try.ntmps75
  go_wp2_with fail
  refine (newChain_any w).mono ?_
  rintro e w1 ⟨rfl, hn, hb, hs⟩
  have HN := hid hn
  have HB := hid hb
  have hs2 := hb.size
  clear hn hb
  have hmk : (Instr.makeMap 136 none).run Try.prog w1 = .ok (.map (some w1.heap.size)) (w1.alloc (.map #[] 0)) := run_makeMap _ _
  have HFin : Hid (IsLru ((w1.alloc (.map #[] 0)).alloc (.cells #[ptr (w.heap.size + 1), .int .i64 most, .map (some w1.heap.size)] 138)) ⟨w1.heap.size + 1, w.heap.size + 1, w1.heap.size, most⟩ []) := hid (by
    have e1 : ((w1.alloc (.map #[] 0)).alloc (.cells #[ptr (w.heap.size + 1), .int .i64 most, .map (some w1.heap.size)] 138)).heap[w.heap.size + 1]? = _ := (Below.heap_alloc (w1.alloc (.map #[] 0)) _ _ (by simp; omega)).trans ((Below.heap_alloc w1 _ _ hs).trans HN.out)
    have e2 := heap_alloc_new (w1.alloc (.map #[] 0)) (.cells #[ptr (w.heap.size + 1), .int .i64 most, .map (some w1.heap.size)] 138)
    rw [World.size_alloc] at e2
    have c2 : ((w1.alloc (.map #[] 0)).alloc (.cells #[ptr (w.heap.size + 1), .int .i64 most, .map (some w1.heap.size)] 138)).cell? ⟨w.heap.size + 1, 2, none⟩ = some (ptr (w.heap.size + 1)) := by unfold World.cell?; rw [e1]; rfl
    have c3 : ((w1.alloc (.map #[] 0)).alloc (.cells #[ptr (w.heap.size + 1), .int .i64 most, .map (some w1.heap.size)] 138)).cell? ⟨w.heap.size + 1, 3, none⟩ = some (ptr (w.heap.size + 1)) := by unfold World.cell?; rw [e1]; rfl
    exact { rest := { map := e2, knot := ⟨⟨_, c2⟩, ⟨_, c3⟩, fun o => by unfold World.frozen?; rw [e1]; rfl⟩, ents := (fun x hx => by cases hx), apart := by simp; omega, keys := by simp, places := ⟨fun _ => none, (MapOf.made w1).of_block (Below.heap_alloc (w1.alloc (.map #[] 0)) _ _ (by simp)), by simp⟩, m1 := h1, m2 := h2 }, ring := ⟨trivial, c3, c2⟩, len := Nat.zero_le _ })
  unfold ptr at *
  go_wp2_with fail
  go_ret
  refine ⟨⟨w1.heap.size + 1, w.heap.size + 1, w1.heap.size, most⟩, rfl, rfl, HFin.out, (HB.out.alloc hs2 _).alloc (by simp; omega) _, ?_⟩
  rintro k (rfl | rfl | rfl | ⟨x, hx, _⟩)
  · show w.heap.size ≤ w1.heap.size + 1; omega
  · show w.heap.size ≤ w.heap.size + 1; omega
  · exact hs2
  · cases hx

set_option maxHeartbeats 400000 in
theorem new_yes (most : Nat) (w : World) (h1 : 1 ≤ most) (h2 : most ≤ 4096) :
    Calls Try.prog 34 #[.int .i64 most] w fun e w' => ∃ S : Spot, e = .returned (.tuple #[ptr S.mb, .int .i64 0]) ∧ S.most = most ∧ IsLru w' S [] ∧ Below w.heap.size w w' ∧ (∀ k, Has S [] k → w.heap.size ≤ k) := by
  go_enter Try.func34, Try.ntmps34
  go_wp2_with fail
  refine (empty_any most w h1 h2).mono ?_
  rintro e w1 ⟨S, rfl, h⟩
  have H := hid h
  clear h
  unfold ptr at *
  go_wp2_with fail
  go_ret2
  exact ⟨S, rfl, H.out⟩

set_option maxHeartbeats 400000 in
theorem new_no (most : Int) (w : World) (h : ¬ (1 ≤ most ∧ most ≤ 4096)) :
    Calls Try.prog 34 #[.int .i64 most] w fun e w' => e = .returned (.tuple #[.pointer none, .int .i64 2]) ∧ w = w' := by
  by_cases h1 : most < 1
  · clear h
    go_enter Try.func34, Try.ntmps34
    go_wp2_with fail
    go_ret2
    exact ⟨rfl, rfl⟩
  · have h2 : 4096 < most := by omega
    have h0 : 1 ≤ most := by omega
    clear h h1
    go_enter Try.func34, Try.ntmps34
    go_wp2_with fail
    go_ret2
    exact ⟨rfl, rfl⟩

end Go.Proofs.Ytopljjmbekpdmaa.LruF
