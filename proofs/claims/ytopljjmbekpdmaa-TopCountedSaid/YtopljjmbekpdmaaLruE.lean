/- Contracts of a bounded map's calls: add, Drop, Get. -/
import Derived.Test.YtopljjmbekpdmaaLruD
namespace Go.Proofs.Ytopljjmbekpdmaa.LruE
open Go.ChangeShapes Go.WideShapes Go.ChangeAt Go.RowKit Base Wri Map LruA LruB LruC LruD
open Go.Maps (Keyed string_keyed)

variable {w w' : World} {S : Spot} {L L' : List Ent}

/-- one more, its place noted -/
theorem LRest.added (h : LRest w S L) {nb : Nat} {s : ByteArray} {v : Int} {u2 u3 : Value} {F : Value → Option Value} (hnb : w.heap[nb]? = some (.cells #[.string s, .int .i64 v, u2, u3] 133)) (hfar : ¬ Has S L nb) (hs : s.size ≤ maxLen) (hn : ∀ x ∈ L, x.k ≠ s)
    (hF : ∀ s v, F (.string s) = some v ↔ ∃ x ∈ L, x.k = s ∧ v = ptr x.b) (hM : MapOf Try.prog 9 w' S.pb (put F (.string s) (ptr nb)) (L.length + 1)) (hW : Wr (fun j => j = S.pb) w w') : LRest w' S (L ++ [⟨nb, s, v⟩]) := by
  have hap := h.apart
  have hnl : nb < w.heap.size := (Array.getElem?_eq_some_iff.1 hnb).1
  have f1 : nb ≠ S.mb := fun e => hfar (.inl e)
  have f2 : nb ≠ S.kn := fun e => hfar (.inr (.inl e))
  have f3 : nb ≠ S.pb := fun e => hfar (.inr (.inr (.inl e)))
  have f4 : ∀ x ∈ L, x.b ≠ nb := fun x hx e => hfar (.inr (.inr (.inr ⟨x, hx, e⟩)))
  have hnb' : w'.heap[nb]? = some (.cells #[.string s, .int .i64 v, u2, u3] 133) := (hW.block nb hnl f3).trans hnb
  simp only [List.nodup_cons, List.mem_cons, List.mem_map, not_or] at hap
  refine { map := (hW.block _ (h.lt _ (.inl rfl)) hap.1.1).trans h.map, knot := h.knot.of_block (hW.block _ (h.lt _ (.inr (.inl rfl))) (fun e => hap.2.1.1 e.symm)), ents := fun x hx => ?_, apart := ?_, keys := ?_, places := ⟨put F (.string s) (ptr nb), by simpa using hM, fun q u => ?_⟩, m1 := h.m1, m2 := h.m2 }
  · rcases List.mem_append.1 hx with hx | hx
    · obtain ⟨h1, h2, h3, h4⟩ := h.ents x hx
      have e := hW.block x.b h1.lt (fun e => hap.2.1.2 ⟨x, hx, e⟩)
      exact ⟨h1.of_block e, (World.cell?_of_block (a := ⟨x.b, 0, none⟩) e).trans h2, (World.cell?_of_block (a := ⟨x.b, 1, none⟩) e).trans h3, h4⟩
    · obtain rfl := List.mem_singleton.1 hx
      have hB : Blk w' nb := Blk.mk (Exists.intro u2 (by simp [World.cell?, hnb'])) (Exists.intro u3 (by simp [World.cell?, hnb'])) (fun o => by simp [World.frozen?, hnb'])
      exact ⟨hB, by simp [World.cell?, hnb'], by simp [World.cell?, hnb'], hs⟩
  · have hp : (S.mb :: S.pb :: S.kn :: (L ++ [(⟨nb, s, v⟩ : Ent)]).map Ent.b).Perm (nb :: S.mb :: S.pb :: S.kn :: L.map Ent.b) := by
      rw [List.map_append]
      exact ((((List.perm_append_singleton nb (L.map Ent.b)).cons S.kn).cons S.pb).cons S.mb).trans ((((List.Perm.swap nb S.kn _).cons S.pb).cons S.mb).trans (((List.Perm.swap nb S.pb _).cons S.mb).trans (List.Perm.swap nb S.mb _)))
    refine hp.nodup_iff.2 (List.nodup_cons.2 ⟨?_, h.apart⟩)
    simp only [List.mem_cons, List.mem_map, not_or]
    exact ⟨f1, f3, f2, fun ⟨x, hx, e⟩ => f4 x hx e⟩
  · have hp : ((L ++ [(⟨nb, s, v⟩ : Ent)]).map Ent.k).Perm (s :: L.map Ent.k) := by
      rw [List.map_append]
      exact List.perm_append_singleton s (L.map Ent.k)
    refine hp.nodup_iff.2 (List.nodup_cons.2 ⟨?_, h.keys⟩)
    simp only [List.mem_map]
    exact fun ⟨x, hx, e⟩ => hn x hx e
  · by_cases hq : q = s
    · subst hq
      rw [put_same]
      constructor
      · intro e; cases e; exact ⟨⟨nb, q, v⟩, by simp, rfl, rfl⟩
      · rintro ⟨x, hx, hk, rfl⟩
        rcases List.mem_append.1 hx with hx | hx
        · exact absurd hk (hn x hx)
        · obtain rfl := List.mem_singleton.1 hx; rfl
    · rw [put_other (fun e => hq (by injection e)), hF q u]
      constructor
      · rintro ⟨x, hx, hk⟩; exact ⟨x, by simp [hx], hk⟩
      · rintro ⟨x, hx, hk⟩
        rcases List.mem_append.1 hx with hx | hx
        · exact ⟨x, hx, hk⟩
        · obtain rfl := List.mem_singleton.1 hx; exact absurd hk.1.symm hq

/-- one less -/
theorem LRest.gone {A B : List Ent} {x : Ent} (h : LRest w S (A ++ x :: B)) {F : Value → Option Value} (hF : ∀ s v, F (.string s) = some v ↔ ∃ y ∈ A ++ x :: B, y.k = s ∧ v = ptr y.b)
    (hM : MapOf Try.prog 9 w' S.pb (del F (.string x.k)) ((A ++ x :: B).length - 1)) (hW : Wr (fun j => j = S.pb) w w') : LRest w' S (A ++ B) := by
  have hap := h.apart
  have hp : (A ++ x :: B).Perm (x :: (A ++ B)) := List.perm_middle
  have hin : ∀ y ∈ A ++ B, y ∈ A ++ x :: B := fun y hy => hp.mem_iff.2 (List.mem_cons_of_mem _ hy)
  have hne : ∀ y ∈ A ++ B, y.k ≠ x.k := fun y hy e => by
    have := (hp.map Ent.k).nodup_iff.1 h.keys
    exact (List.nodup_cons.1 this).1 (e ▸ List.mem_map.2 ⟨y, hy, rfl⟩)
  simp only [List.nodup_cons, List.mem_cons, List.mem_map, not_or] at hap
  refine { map := (hW.block _ (h.lt _ (.inl rfl)) hap.1.1).trans h.map, knot := h.knot.of_block (hW.block _ (h.lt _ (.inr (.inl rfl))) (fun e => hap.2.1.1 e.symm)), ents := fun y hy => ?_, apart := ?_, keys := ?_, places := ⟨del F (.string x.k), by simpa using hM, fun q u => ?_⟩, m1 := h.m1, m2 := h.m2 }
  · obtain ⟨h1, h2, h3, h4⟩ := h.ents y (hin y hy)
    have e := hW.block y.b h1.lt (fun e => hap.2.1.2 ⟨y, hin y hy, e⟩)
    exact ⟨h1.of_block e, (World.cell?_of_block (a := ⟨y.b, 0, none⟩) e).trans h2, (World.cell?_of_block (a := ⟨y.b, 1, none⟩) e).trans h3, h4⟩
  · refine h.apart.sublist (((((List.Sublist.append_left (List.sublist_cons_self x B) A).map Ent.b).cons_cons S.kn).cons_cons S.pb).cons_cons S.mb)
  · exact h.keys.sublist ((List.Sublist.append_left (List.sublist_cons_self x B) A).map Ent.k)
  · by_cases hq : q = x.k
    · subst hq
      rw [del_same]
      constructor
      · intro e; cases e
      · rintro ⟨y, hy, hk, _⟩; exact absurd hk (hne y hy)
    · rw [del_other (fun e => hq (by injection e)), hF q u]
      constructor
      · rintro ⟨y, hy, hk⟩
        rcases List.mem_cons.1 (hp.mem_iff.1 hy) with rfl | hy
        · exact absurd hk.1.symm hq
        · exact ⟨y, hy, hk⟩
      · rintro ⟨y, hy, hk⟩; exact ⟨y, hin y hy, hk⟩

set_option maxRecDepth 20000 in
set_option maxHeartbeats 1000000 in
theorem add_core (mb kn pb : Nat) (s : ByteArray) (v : Int) (w w2 : World) (Q : World → Prop) (hmb : mb < w.heap.size) (c2 : w.cell? ⟨mb, 2, none⟩ = some (.map (some pb))) (k0 : w2.cell? ⟨mb, 0, none⟩ = some (ptr kn))
    (hrun : (Instr.mapUpdate 136 (.map (some pb)) (.string s) (ptr (w.heap.size + 1))).run Try.prog ((w.alloc (.cells #[.string s, .int .i64 v] 131)).alloc (.cells #[.string s, .int .i64 v, .pointer none, .pointer none] 133)).drew = .ok () w2)
    (HP : Hid (Calls Try.prog 97 #[.agg #[ptr kn], ptr (w.heap.size + 1)] w2 fun e w' => e = .returned (.tuple #[]) ∧ Q w')) :
    Calls Try.prog 81 #[ptr mb, .agg #[.string s, .int .i64 v]] w fun e w' => e = .returned (.tuple #[]) ∧ Q w' := by
  unfold ptr at *
  go_enter Try.func81, Try.ntmps81
  go_wp2_with fail
  go_region
  go_wp2_with fail
  refine HP.out.mono ?_
  rintro e w4 ⟨rfl, hq⟩
  go_wp2_with fail
  go_end0
  exact ⟨rfl, hq⟩

theorem add_yes (h : IsLru w S L) {s : ByteArray} (hs : s.size ≤ maxLen) (hn : ∀ x ∈ L, x.k ≠ s) (hl : L.length < S.most) (v : Int) :
    Calls Try.prog 81 #[ptr S.mb, .agg #[.string s, .int .i64 v]] w fun e w' => e = .returned (.tuple #[]) ∧ IsLru w' S (L ++ [⟨w.heap.size + 1, s, v⟩]) ∧ Wr (Has S L) w w' := by
  obtain ⟨wz, hwz⟩ : ∃ wz, ((w.alloc (.cells #[.string s, .int .i64 v] 131)).alloc (.cells #[.string s, .int .i64 v, .pointer none, .pointer none] 133)).drew = wz := ⟨_, rfl⟩
  have hbz : Below w.heap.size w wz := by rw [← hwz]; exact (((Below.refl _ _).alloc (Nat.le_refl _) _).alloc (by simp) _).drew
  have hsz : wz.heap.size = w.heap.size + 2 := by rw [← hwz]; show ((w.alloc _).alloc _).heap.size = _; simp
  have hz := h.below hbz
  have hnb : wz.heap[w.heap.size + 1]? = some (.cells #[.string s, .int .i64 v, .pointer none, .pointer none] 133) := by
    rw [← hwz]
    have := heap_alloc_new (w.alloc (.cells #[.string s, .int .i64 v] 131)) (.cells #[.string s, .int .i64 v, .pointer none, .pointer none] 133)
    rw [World.size_alloc] at this
    exact this
  have hfar : ¬ Has S L (w.heap.size + 1) := fun hh => by have := h.rest.lt _ hh; omega
  obtain ⟨F, hM, hF⟩ := hz.rest.places
  have hnone : F (.string s) = none := by
    cases hc : F (.string s) with
    | none => rfl
    | some u => obtain ⟨x, hx, hk, _⟩ := (hF s u).1 hc; exact absurd hk (hn x hx)
  obtain ⟨w2, hrun, hM2, hW2⟩ := hM.store (val := ptr (w.heap.size + 1)) keyed Try.underlying136 (Go.WideMaps.keyOf_string_mk Try.underlying9 hs)
  rw [hnone] at hM2
  have h2 : LRest w2 S (L ++ [⟨w.heap.size + 1, s, v⟩]) := LRest.added hz.rest hnb hfar hs hn hF hM2 hW2
  have hpb : ∀ k ∈ S.kn :: L.map Ent.b, k ≠ S.pb := fun k hk e => by
    have := h.rest.apart
    rw [e] at hk
    exact (List.nodup_cons.1 (List.nodup_cons.1 this).2).1 hk
  have hr2 : Ring w2 S.kn (L.map Ent.b) := Ring.keep hz.ring (fun k hk => hW2.block k (by
    rcases List.mem_cons.1 hk with rfl | hk2
    · exact hz.rest.knot.lt
    · obtain ⟨y, hy, rfl⟩ := List.mem_map.1 hk2
      exact (hz.rest.ents y hy).1.lt) (hpb k hk))
  have hwr : Wr (Has S L) w w2 := (Wr.ofBelow hbz).trans (hW2.mono (fun k e => .inr (.inr (.inl e))))
  have hno : (⟨w.heap.size + 1, s, v⟩ : Ent).b ∉ S.kn :: L.map Ent.b := fun hm => by
    refine hfar ?_
    rcases List.mem_cons.1 hm with e | hm
    · exact .inr (.inl e)
    · obtain ⟨y, hy, e⟩ := List.mem_map.1 hm
      exact .inr (.inr (.inr ⟨y, hy, e⟩))
  have HP := pushed h2 hr2 (x := ⟨w.heap.size + 1, s, v⟩) (by simp) hno (by have := h.rest.apart; exact (List.nodup_cons.1 (List.nodup_cons.1 this).2).2) (fun b hb => by obtain ⟨y, hy, e⟩ := List.mem_map.1 hb; exact ⟨y, by simp [hy], e⟩)
  refine add_core S.mb S.kn S.pb s v w w2 (fun w' => IsLru w' S (L ++ [⟨w.heap.size + 1, s, v⟩]) ∧ Wr (Has S L) w w') (h.rest.lt _ (.inl rfl)) (LRest.mcell h.rest).2.2 (LRest.mcell h2).1 (by rw [hwz]; exact hrun) (hid (HP.mono ?_))
  rintro e w' ⟨rfl, q1, q2, q3⟩
  refine ⟨rfl, ⟨q1, by simpa using q2, by simp; omega⟩, hwr.on q3 (fun k hk => ?_)⟩
  rcases hk with e | e | e | ⟨x, hx, e⟩
  · exact .inl (.inl e)
  · exact .inl (.inr (.inl e))
  · exact .inl (.inr (.inr (.inl e)))
  · rcases List.mem_append.1 hx with hx | hx
    · exact .inl (.inr (.inr (.inr ⟨x, hx, e⟩)))
    · rw [List.mem_singleton.1 hx] at e
      exact .inr (by rw [← e]; exact Nat.le_succ _)

/-- a list of texts that lies somewhere -/
def Strs (w : World) (a : Option Addr) (n : Nat) (f : Nat → ByteArray) : Prop := 0 < n → ∃ g o, a = some ⟨g, o, none⟩ ∧ g < w.heap.size ∧ ∀ i, i < n → w.cell? ⟨g, o + i, none⟩ = some (.string (f i))

/-- those of other keys -/
def out (s : ByteArray) (L : List Ent) : List Ent := L.filter (fun x => decide (x.k ≠ s))
/-- what is left without the first n keys -/
def outs (f : Nat → ByteArray) : Nat → List Ent → List Ent
  | 0, L => L
  | n + 1, L => out (f n) (outs f n L)

theorem out_none {s : ByteArray} (hn : ∀ x ∈ L, x.k ≠ s) : out s L = L := by
  unfold out
  rw [List.filter_eq_self]
  intro x hx
  simpa using hn x hx
theorem out_mid {A B : List Ent} {x : Ent} (h : ((A ++ x :: B).map Ent.k).Nodup) : out x.k (A ++ x :: B) = A ++ B := by
  have hp : (A ++ x :: B).Perm (x :: (A ++ B)) := List.perm_middle
  have hne : ∀ y ∈ A ++ B, y.k ≠ x.k := fun y hy e => by
    have := (hp.map Ent.k).nodup_iff.1 h
    exact (List.nodup_cons.1 this).1 (e ▸ List.mem_map.2 ⟨y, hy, rfl⟩)
  unfold out
  rw [List.filter_append, List.filter_cons]
  simp only [ne_eq, not_true_eq_false, decide_false, Bool.false_eq_true, if_false]
  rw [← List.filter_append, List.filter_eq_self]
  intro y hy
  simpa using hne y hy

theorem has_mono {k : Nat} (h : Has S L' k) (hs : ∀ x ∈ L', x ∈ L) : Has S L k := by
  rcases h with e | e | e | ⟨x, hx, e⟩
  · exact .inl e
  · exact .inr (.inl e)
  · exact .inr (.inr (.inl e))
  · exact .inr (.inr (.inr ⟨x, hs x hx, e⟩))

theorem out_sub (s : ByteArray) (L : List Ent) : ∀ x ∈ out s L, x ∈ L := fun _ hx => (List.mem_filter.1 hx).1
theorem outs_sub (f : Nat → ByteArray) (n : Nat) (L : List Ent) : ∀ x ∈ outs f n L, x ∈ L := by
  induction n with
  | zero => exact fun _ h => h
  | succ n ih => exact fun x hx => ih x (out_sub _ _ x hx)
theorem outs_len (f : Nat → ByteArray) (n : Nat) (L : List Ent) : (outs f n L).length ≤ L.length := by
  induction n with
  | zero => exact Nat.le_refl _
  | succ n ih => exact Nat.le_trans (List.length_filter_le _ _) ih

/-- behind leave: the key is taken out of the places -/
theorem gone_step {A B : List Ent} {x : Ent} (h : LRest w S (A ++ x :: B)) (hr : Ring w S.kn (A.map Ent.b ++ B.map Ent.b)) (hl : (A ++ x :: B).length ≤ S.most) :
    ∃ w', (∀ ty, (Builtin.delete_ #[136, 9] ty #[.map (some S.pb), .string x.k]).run Try.prog w = .ok (.tuple #[]) w') ∧ IsLru w' S (A ++ B) ∧ Wr (Has S (A ++ x :: B)) w w' := by
  obtain ⟨F, hM, hF⟩ := h.places
  have hx : x ∈ A ++ x :: B := by simp
  have hsome : F (.string x.k) = some (ptr x.b) := (hF _ _).2 ⟨x, hx, rfl, rfl⟩
  have hk := Go.WideMaps.keyOf_string_mk Try.underlying9 (h.ents x hx).2.2.2
  obtain ⟨w', hrun, hM2, hW⟩ := hM.drop keyed Try.underlying136 0 hk
  rw [hsome] at hM2
  have hpb : ∀ k ∈ S.kn :: (A.map Ent.b ++ B.map Ent.b), k ≠ S.pb := fun k hk e => by
    have := h.apart
    rw [e, ← List.map_append] at hk
    refine (List.nodup_cons.1 (List.nodup_cons.1 this).2).1 ?_
    rcases List.mem_cons.1 hk with hk | hk
    · exact hk ▸ List.mem_cons_self
    · exact List.mem_cons_of_mem _ (((List.Sublist.append_left (List.sublist_cons_self x B) A).map Ent.b).subset hk)
  refine ⟨w', fun ty => ?_, ⟨LRest.gone h hF hM2 hW, ?_, by simp at hl ⊢; omega⟩, hW.mono (fun k e => .inr (.inr (.inl e)))⟩
  · have : (Builtin.delete_ #[136, 9] ty #[.map (some S.pb), .string x.k]) = (Builtin.delete_ #[136, 9] 0 #[.map (some S.pb), .string x.k]) := rfl
    rw [this]; exact hrun
  · rw [List.map_append]
    exact Ring.keep hr (fun k hk => hW.block k (by
      rcases List.mem_cons.1 hk with rfl | hk2
      · exact h.knot.lt
      · obtain ⟨y, hy, e⟩ := sub_out (x := x) k hk2
        exact e ▸ (h.ents y hy).1.lt) (hpb k hk))

set_option maxRecDepth 20000 in
set_option maxHeartbeats 1000000 in
theorem drop_any (h : IsLru w S L) (a : Option Addr) (n cap : Nat) (f : Nat → ByteArray) (hn : n ≤ 9223372036854775807) (hs : ∀ i, i < n → (f i).size ≤ maxLen) (hf : Strs w a n f) (hfar : 0 < n → ∀ g o, a = some ⟨g, o, none⟩ → ¬ Has S L g) :
    Calls Try.prog 80 #[ptr S.mb, .slice a n cap] w fun e w' => e = .returned (.int .i64 ((L.length : Int) - (outs f n L).length)) ∧ IsLru w' S (outs f n L) ∧ Wr (Has S L) w w' := by
  have H0 := hid h
  have HS := hid hs
  have HF := hid (And.intro hf hfar)
  have hll : L.length ≤ 4096 := Nat.le_trans h.len h.rest.m2
  clear h hs hf hfar
  unfold ptr
  go_enter Try.func80, Try.ntmps80
  go_wp2_with fail
  go_loopw [5, 11] (fun d i wr => ∃ k : Nat, k ≤ n ∧ i = .int .i64 k ∧ d = .int .i64 ((L.length : Int) - (outs f k L).length) ∧ IsLru wr S (outs f k L) ∧ Wr (Has S L) w wr) (fun _ i _ => n - (intOf i).toNat)
  case atStart => exact ⟨0, Nat.zero_le _, rfl, by simp [outs], H0.out, Wr.refl _ _⟩
  case round =>
    obtain ⟨k, hk, rfl, rfl, hL, hW⟩ := hrel
    have HL := hid hL
    have HW := hid hW
    have hol := outs_len f k L
    obtain ⟨q, hq⟩ : ∃ q, (outs f k L).length = q := ⟨_, rfl⟩
    rw [hq] at hol ⊢
    have HQ := hid hq
    clear hL hW hq
    by_cases hlt : k < n
    · obtain ⟨hf, hfar⟩ := HF.out
      obtain ⟨g, o, rfl, hg, hc⟩ := hf (by omega)
      have hfg := hfar (by omega) g o rfl
      have c0 : wr.cell? ⟨g, o + k, none⟩ = some (.string (f k)) := (HW.out.cell (o + k) hg hfg).trans (hc k hlt)
      have hgs : g < wr.heap.size := Nat.lt_of_lt_of_le hg HW.out.size
      clear hc hfar hf
      by_cases hin : ∃ x ∈ outs f k L, x.k = f k
      · obtain ⟨x, hx, hxk⟩ := hin
        obtain ⟨A, B, hAB⟩ := List.append_of_mem hx
        have hstep : outs f (k + 1) L = A ++ B := by
          show out (f k) (outs f k L) = _
          rw [← hxk, hAB]
          exact out_mid (hAB ▸ HL.out.rest.keys)
        have HLen1 : Hid (q = (A ++ B).length + 1) := hid (by rw [← HQ.out, hAB]; simp; omega)
        have hq1 : 1 ≤ q := by rw [HLen1.out]; omega
        have h1 := HL.out.rest
        have hr1 := HL.out.ring
        have hle := HL.out.len
        rw [hAB] at h1 hr1 hle
        rw [List.map_append, List.map_cons] at hr1
        have HFY := hid (find_yes h1 (x := x) (by simp))
        rw [hxk] at HFY
        have HLV := hid (left h1 hr1)
        have HSt := hid hstep
        have HAB := hid hAB
        clear h1 hr1 hx hstep hAB HL
        unfold ptr at *
        go_wp2_with fail
        refine HFY.out.mono ?_
        rintro e w2 ⟨rfl, rfl⟩
        go_wp2_with fail
        refine HLV.out.mono ?_
        rintro e w3 ⟨rfl, h3, hr3, hw3⟩
        obtain ⟨w4, hrun, h4, hw4⟩ := gone_step h3 hr3 hle
        have c2 := (LRest.mcell h3).2.2
        have hrun0 := hrun 0
        rw [hxk] at hrun0
        have HFin : Hid (IsLru w4 S (outs f (k + 1) L) ∧ Wr (Has S L) w w4) := hid ⟨HSt.out ▸ h4, (HW.out.trans (hw3.mono (fun j hj => has_mono hj (fun y hy => outs_sub f k L y (HAB.out ▸ hy))))).trans (hw4.mono (fun j hj => has_mono hj (fun y hy => outs_sub f k L y (HAB.out ▸ hy))))⟩
        clear HLV HFY h3 hr3 hw3 hrun h4 hw4 HW
        go_wp2_with fail
        go_roundw
        case rel =>
          refine ⟨k + 1, by omega, by go_num, ?_, HFin.out⟩
          have e1 := HLen1.out
          rw [HSt.out]
          congr 1
          omega
        case measure => simp [intOf]; omega
      · have hno : ∀ x ∈ outs f k L, x.k ≠ f k := fun x hx e => hin ⟨x, hx, e⟩
        have HSt : Hid (outs f (k + 1) L = outs f k L) := hid (out_none hno)
        have HFN := hid (find_no HL.out.rest (HS.out k hlt) hno)
        clear hno hin
        unfold ptr at *
        go_wp2_with fail
        refine HFN.out.mono ?_
        rintro e w2 ⟨rfl, rfl⟩
        go_wp2_with fail
        go_roundw
        case rel => exact ⟨k + 1, by omega, by go_num, by rw [HSt.out, HQ.out], HSt.out ▸ HL.out, HW.out⟩
        case measure => simp [intOf]; omega
    · obtain rfl : k = n := by omega
      go_wp2_with fail
      go_ret
      exact ⟨by rw [HQ.out]; rfl, HL.out, HW.out⟩

end Go.Proofs.Ytopljjmbekpdmaa.LruE
