/- Contracts of a bounded map's calls: find, touch, and those that tell. -/
import Derived.Test.YtopljjmbekpdmaaLruC
namespace Go.Proofs.Ytopljjmbekpdmaa.LruD
open Go.ChangeShapes Go.WideShapes Go.ChangeAt Go.RowKit Base Wri Map LruA LruB LruC
open Go.Maps (Keyed string_keyed)

variable {w w' : World} {S : Spot} {L L' : List Ent}

theorem keyed : Keyed Try.prog 9 := string_keyed Try.underlying9
theorem zeroE (w : World) : (zeroValue 127).run Try.prog w = .ok (.pointer none) w := by kernel_rfl

theorem LRest.mcell (h : LRest w S L) : w.cell? ⟨S.mb, 0, none⟩ = some (ptr S.kn) ∧ w.cell? ⟨S.mb, 1, none⟩ = some (.int .i64 S.most) ∧ w.cell? ⟨S.mb, 2, none⟩ = some (.map (some S.pb)) := by
  have := h.map
  exact ⟨by simp [World.cell?, this], by simp [World.cell?, this], by simp [World.cell?, this]⟩

theorem LRest.look (h : LRest w S L) (s : ByteArray) (hs : s.size ≤ maxLen) :
    (∀ x ∈ L, x.k = s → (Instr.lookup 136 (.map (some S.pb)) (.string s) false).run Try.prog w = .ok (ptr x.b) w) ∧
    ((∀ x ∈ L, x.k ≠ s) → (Instr.lookup 136 (.map (some S.pb)) (.string s) false).run Try.prog w = .ok (.pointer none) w) := by
  obtain ⟨F, h1, h2⟩ := h.places
  have hl := h1.look false keyed Try.underlying136 (zeroE w) (Go.WideMaps.keyOf_string_mk Try.underlying9 hs)
  refine ⟨fun x hx hk => ?_, fun hn => ?_⟩
  · have : F (.string s) = some (ptr x.b) := (h2 s _).2 ⟨x, hx, hk, rfl⟩
    rw [this] at hl
    simpa using hl
  · have : F (.string s) = none := by
      cases hF : F (.string s) with
      | none => rfl
      | some v => obtain ⟨x, hx, hk, _⟩ := (h2 s v).1 hF; exact absurd hk (hn x hx)
    rw [this] at hl
    simpa using hl

set_option maxHeartbeats 400000 in
theorem find_core (mb pb : Nat) (s : ByteArray) (r : Value) (w : World) (c2 : w.cell? ⟨mb, 2, none⟩ = some (.map (some pb))) (hl : (Instr.lookup 136 (.map (some pb)) (.string s) false).run Try.prog w = .ok r w) :
    Calls Try.prog 76 #[ptr mb, .string s] w fun e w' => e = .returned r ∧ w = w' := by
  unfold ptr
  go_enter Try.func76, Try.ntmps76
  go_wp2
  go_ret
  exact ⟨rfl, rfl⟩

theorem find_yes (h : LRest w S L) {x : Ent} (hx : x ∈ L) : Calls Try.prog 76 #[ptr S.mb, .string x.k] w fun e w' => e = .returned (ptr x.b) ∧ w = w' :=
  find_core _ _ _ _ _ (LRest.mcell h).2.2 ((LRest.look h x.k (h.ents x hx).2.2.2).1 x hx rfl)
theorem find_no (h : LRest w S L) {s : ByteArray} (hs : s.size ≤ maxLen) (hn : ∀ x ∈ L, x.k ≠ s) : Calls Try.prog 76 #[ptr S.mb, .string s] w fun e w' => e = .returned (.pointer none) ∧ w = w' :=
  find_core _ _ _ _ _ (LRest.mcell h).2.2 ((LRest.look h s hs).2 hn)

set_option maxHeartbeats 400000 in
theorem find_nil (s : ByteArray) (w : World) : Calls Try.prog 76 #[.pointer none, .string s] w fun e w' => e = .returned (.pointer none) ∧ w = w' := by
  go_enter Try.func76, Try.ntmps76
  go_wp2
  go_ret
  exact ⟨rfl, rfl⟩

set_option maxHeartbeats 400000 in
theorem tell_yes (b : Nat) (n : Int) (w : World) (h : w.cell? ⟨b, 1, none⟩ = some (.int .i64 n)) : Calls Try.prog 77 #[ptr b] w fun e w' => e = .returned (.tuple #[.int .i64 n, .bool true]) ∧ w = w' := by
  unfold ptr
  go_enter Try.func77, Try.ntmps77
  go_wp2
  go_ret2
  exact ⟨rfl, rfl⟩

set_option maxHeartbeats 400000 in
theorem tell_no (w : World) : Calls Try.prog 77 #[.pointer none] w fun e w' => e = .returned (.tuple #[.int .i64 0, .bool false]) ∧ w = w' := by
  go_enter Try.func77, Try.ntmps77
  go_wp2
  go_ret2
  exact ⟨rfl, rfl⟩

set_option maxHeartbeats 400000 in
theorem len_core (mb pb n : Nat) (w : World) (c2 : w.cell? ⟨mb, 2, none⟩ = some (.map (some pb))) (hl : ∀ ty, (Builtin.len_ #[136] ty #[.map (some pb)]).run Try.prog w = .ok (.int .i64 n) w) :
    Calls Try.prog 38 #[ptr mb] w fun e w' => e = .returned (.int .i64 n) ∧ w = w' := by
  have hl3 := hl 3
  clear hl
  unfold ptr
  go_enter Try.func38, Try.ntmps38
  go_wp2
  go_ret
  exact ⟨rfl, rfl⟩

theorem len_any (h : LRest w S L) : Calls Try.prog 38 #[ptr S.mb] w fun e w' => e = .returned (.int .i64 L.length) ∧ w = w' := by
  obtain ⟨F, h1, _⟩ := h.places
  exact len_core _ _ _ _ (LRest.mcell h).2.2 (fun ty => h1.len Try.underlying136 ty)

set_option maxHeartbeats 400000 in
theorem most_core (mb n : Nat) (w : World) (c1 : w.cell? ⟨mb, 1, none⟩ = some (.int .i64 n)) : Calls Try.prog 39 #[ptr mb] w fun e w' => e = .returned (.int .i64 n) ∧ w = w' := by
  unfold ptr
  go_enter Try.func39, Try.ntmps39
  go_wp2
  go_ret
  exact ⟨rfl, rfl⟩

set_option maxHeartbeats 400000 in
theorem peek_core (m : Value) (s : ByteArray) (r t : Value) (w : World) (HF : Hid (Calls Try.prog 76 #[m, .string s] w fun e w' => e = .returned r ∧ w = w'))
    (v : Int) (b : Bool) (ht : t = .tuple #[.int .i64 v, .bool b]) (HT : Hid (Calls Try.prog 77 #[r] w fun e w' => e = .returned t ∧ w = w')) :
    Calls Try.prog 35 #[m, .string s] w fun e w' => e = .returned (.tuple #[.int .i64 v, .bool b]) ∧ w = w' := by
  subst ht
  go_enter Try.func35, Try.ntmps35
  go_wp2_with fail
  refine HF.out.mono ?_
  rintro e w1 ⟨rfl, rfl⟩
  go_wp2_with fail
  refine HT.out.mono ?_
  rintro e w1 ⟨rfl, rfl⟩
  go_wp2_with fail
  go_ret2
  exact ⟨rfl, rfl⟩

theorem peek_yes (h : LRest w S L) {x : Ent} (hx : x ∈ L) : Calls Try.prog 35 #[ptr S.mb, .string x.k] w fun e w' => e = .returned (.tuple #[.int .i64 x.v, .bool true]) ∧ w = w' :=
  peek_core _ _ _ _ w (hid (find_yes h hx)) _ _ rfl (hid (tell_yes x.b x.v w (h.ents x hx).2.2.1))
theorem peek_no (h : LRest w S L) {s : ByteArray} (hs : s.size ≤ maxLen) (hn : ∀ x ∈ L, x.k ≠ s) : Calls Try.prog 35 #[ptr S.mb, .string s] w fun e w' => e = .returned (.tuple #[.int .i64 0, .bool false]) ∧ w = w' :=
  peek_core _ _ _ _ w (hid (find_no h hs hn)) _ _ rfl (hid (tell_no w))

/-- what lies where it lay: all but what a map may write -/
theorem wr_link {b i : Nat} {v : Value} (hb : b = S.kn ∨ ∃ x ∈ L, x.b = b) : Wr (Has S L) w (w.setCell ⟨b, i, none⟩ v) :=
  Wr.set ⟨b, i, none⟩ v (hb.elim (fun e => .inr (.inl e)) (fun e => .inr (.inr (.inr e))))

theorem blk_of {w : World} (h : LRest w S L) {b : Nat} (hb : b = S.kn ∨ ∃ y ∈ L, y.b = b) : Blk w b := hb.elim (fun e => e ▸ h.knot) (fun ⟨y, hy, e⟩ => e ▸ (h.ents y hy).1)

theorem lrest_heap (h : LRest w S L) (e : w'.heap = w.heap) : LRest w' S L := h.keep fun k _ => by rw [e]
theorem ring_heap {kn : Nat} {R : List Nat} (h : Ring w kn R) (e : w'.heap = w.heap) : Ring w' kn R := Ring.keep h fun k _ => by rw [e]

theorem pushed {R : List Nat} {x : Ent} (h : LRest w S L) (hr : Ring w S.kn R) (hx : x ∈ L) (hxn : x.b ∉ S.kn :: R) (hnd : (S.kn :: R).Nodup) (hsub : ∀ b ∈ R, ∃ y ∈ L, y.b = b) :
    Calls Try.prog 97 #[.agg #[ptr S.kn], ptr x.b] w fun e w' => e = .returned (.tuple #[]) ∧ LRest w' S L ∧ Ring w' S.kn (R ++ [x.b]) ∧ Wr (Has S L) w w' := by
  have hlam := lst_mem S.kn R
  have hlam2 : lst S.kn R = S.kn ∨ ∃ y ∈ L, y.b = lst S.kn R := (List.mem_cons.1 hlam).elim .inl (fun e => .inr (hsub _ e))
  have hxm : x.b = S.kn ∨ ∃ y ∈ L, y.b = x.b := .inr ⟨x, hx, rfl⟩
  refine (push_any S.kn (lst S.kn R) x.b w hr.2.2 h.knot (blk_of h hlam2) (blk_of h hxm) (fun e => hxn (e ▸ List.mem_cons_self)) (fun e => hxn (e ▸ hlam))).mono ?_
  rintro e w' ⟨rfl, m, rfl⟩
  have h2 := (((h.link x.b 2 hxm (by omega) (ptr (lst S.kn R))).link x.b 3 hxm (by omega) (ptr S.kn)).link (lst S.kn R) 3 hlam2 (by omega) (ptr x.b)).link S.kn 2 (.inl rfl) (by omega) (ptr x.b)
  have hr2 := hr.push hnd hxn (blk_of h hxm).c2 (blk_of h hxm).c3
  have hb : ∀ (w1 : World) (o : Obj), Below w1.heap.size w1 ((w1.alloc o).drewN m) := fun w1 o => ⟨rfl, rfl, rfl, by simp [World.drewN], fun k hk => Below.heap_alloc w1 o k hk⟩
  refine ⟨rfl, h2.below (hb _ _), Ring.keep hr2 (fun k hk => (hb _ _).block k ?_), ((((wr_link hxm).trans (wr_link hxm)).trans (wr_link hlam2)).trans (wr_link (.inl rfl))).trans (Wr.ofBelow (hb _ _))⟩
  rcases List.mem_cons.1 hk with rfl | hk
  · exact h2.knot.lt
  · rcases List.mem_append.1 hk with hk | hk
    · exact (blk_of h2 (.inr (hsub _ hk))).lt
    · rw [List.mem_singleton.1 hk]; exact (blk_of h2 hxm).lt

theorem left {A B : List Ent} {x : Ent} (h : LRest w S (A ++ x :: B)) (hr : Ring w S.kn (A.map Ent.b ++ x.b :: B.map Ent.b)) :
    Calls Try.prog 96 #[ptr x.b] w fun e w' => e = .returned (.tuple #[]) ∧ LRest w' S (A ++ x :: B) ∧ Ring w' S.kn (A.map Ent.b ++ B.map Ent.b) ∧ Wr (Has S (A ++ x :: B)) w w' := by
  obtain ⟨hl1, hl2⟩ := hr.around
  have hpam : lst S.kn (A.map Ent.b) = S.kn ∨ ∃ y ∈ A ++ x :: B, y.b = lst S.kn (A.map Ent.b) := by
    rcases List.mem_cons.1 (lst_mem S.kn (A.map Ent.b)) with e | e
    · exact .inl e
    · obtain ⟨y, hy, e⟩ := List.mem_map.1 e
      exact .inr ⟨y, by simp [hy], e⟩
  have hpbm : nxt S.kn (B.map Ent.b) = S.kn ∨ ∃ y ∈ A ++ x :: B, y.b = nxt S.kn (B.map Ent.b) := by
    cases B with
    | nil => exact .inl rfl
    | cons y r => exact .inr ⟨y, by simp, rfl⟩
  have hnd : (S.kn :: (A.map Ent.b ++ x.b :: B.map Ent.b)).Nodup := by
    have := h.apart
    rw [List.map_append, List.map_cons] at this
    exact (List.nodup_cons.1 (List.nodup_cons.1 this).2).2
  refine (leave_any x.b _ _ w hl1.2 hl2.1 (blk_of h hpam) (blk_of h hpbm)).mono ?_
  rintro e w' ⟨rfl, m, rfl⟩
  have h1 := (h.link _ 3 hpam (by omega) (ptr (nxt S.kn (B.map Ent.b)))).link _ 2 hpbm (by omega) (ptr (lst S.kn (A.map Ent.b)))
  exact ⟨rfl, lrest_heap h1 rfl, ring_heap (hr.leave hnd (blk_of h hpam).c3 (blk_of h hpbm).c2) rfl, ((wr_link hpam).trans (wr_link hpbm)).drewN m⟩

/-- the ring's blocks without one -/
theorem apart_out {A B : List Ent} {x : Ent} (h : LRest w S (A ++ x :: B)) : x.b ∉ S.kn :: (A.map Ent.b ++ B.map Ent.b) ∧ (S.kn :: (A.map Ent.b ++ B.map Ent.b)).Nodup := by
  have hnd : (S.kn :: (A.map Ent.b ++ x.b :: B.map Ent.b)).Nodup := by
    have := h.apart
    rw [List.map_append, List.map_cons] at this
    exact (List.nodup_cons.1 (List.nodup_cons.1 this).2).2
  have hp : (S.kn :: (A.map Ent.b ++ x.b :: B.map Ent.b)).Perm (x.b :: S.kn :: (A.map Ent.b ++ B.map Ent.b)) := (List.Perm.cons _ List.perm_middle).trans (List.Perm.swap _ _ _)
  exact List.nodup_cons.1 (hp.nodup_iff.1 hnd)

theorem sub_out {A B : List Ent} {x : Ent} : ∀ b ∈ A.map Ent.b ++ B.map Ent.b, ∃ y ∈ A ++ x :: B, y.b = b := by
  intro b hb
  rw [← List.map_append] at hb
  obtain ⟨y, hy, e⟩ := List.mem_map.1 hb
  refine ⟨y, ?_, e⟩
  rcases List.mem_append.1 hy with hy | hy
  · simp [hy]
  · simp [hy]

theorem touch_yes {A B : List Ent} {x : Ent} (h : IsLru w S (A ++ x :: B)) :
    Calls Try.prog 78 #[ptr S.mb, .string x.k] w fun e w' => e = .returned (ptr x.b) ∧ IsLru w' S (A ++ B ++ [x]) ∧ Wr (Has S (A ++ x :: B)) w w' := by
  have hx : x ∈ A ++ x :: B := by simp
  have hr := h.ring
  rw [List.map_append, List.map_cons] at hr
  have HFY := hid (find_yes h.rest hx)
  have HL := hid (left h.rest hr)
  have HO := hid (apart_out h.rest)
  have hlen := h.len
  have HLen := hid hlen
  clear hr h hlen
  unfold ptr at *
  go_enter Try.func78, Try.ntmps78
  go_wp2_with fail
  refine HFY.out.mono ?_
  rintro e w3 ⟨rfl, rfl⟩
  go_wp2_with fail
  refine HL.out.mono ?_
  rintro e w3 ⟨rfl, h3, hr3, hw3⟩
  have hm := (LRest.mcell h3).1
  have HP := hid (pushed h3 hr3 hx HO.out.1 HO.out.2 sub_out)
  have HW := hid hw3
  clear HL HFY h3 hr3 hw3
  unfold ptr at *
  go_wp2_with fail
  refine HP.out.mono ?_
  rintro e w4 ⟨rfl, h4, hr4, hw4⟩
  have HF : Hid (IsLru w4 S (A ++ B ++ [x]) ∧ Wr (Has S (A ++ x :: B)) w w4) := hid ⟨⟨h4.perm (List.perm_middle.trans (List.perm_append_singleton x (A ++ B)).symm), by simpa using hr4, by have := HLen.out; simp at this ⊢; omega⟩, HW.out.trans hw4⟩
  clear HP h4 hr4 hw4 HW
  go_wp2_with fail
  go_ret
  exact ⟨rfl, HF.out⟩

theorem touch_no (h : LRest w S L) {s : ByteArray} (hs : s.size ≤ maxLen) (hn : ∀ x ∈ L, x.k ≠ s) :
    Calls Try.prog 78 #[ptr S.mb, .string s] w fun e w' => e = .returned (.pointer none) ∧ w = w' := by
  have HFN := hid (find_no h hs hn)
  clear h hn
  unfold ptr at *
  go_enter Try.func78, Try.ntmps78
  go_wp2_with fail
  refine HFN.out.mono ?_
  rintro e w3 ⟨rfl, rfl⟩
  go_wp2_with fail
  go_ret
  exact ⟨rfl, rfl⟩

end Go.Proofs.Ytopljjmbekpdmaa.LruD
