/- A bounded map to which elements are added whose keys may be there already: what holds of it. -/
import Derived.Test.YtkdldcigooiljaaLruQ
namespace Go.Proofs.Ytkdldcigooiljaa.LruS
open Go.ChangeShapes Go.WideShapes Go.ChangeAt Go.RowKit Base Wri Map LruA LruB LruC LruD LruE LruF
open Go.Maps (Keyed string_keyed)

structure LW (w : World) (S : Spot) (L : List Ent) : Prop where
  map : w.heap[S.mb]? = some (.cells #[ptr S.kn, .int .i64 S.most, .map (some S.pb)] 114)
  knot : Blk w S.kn
  ents : ∀ x ∈ L, Blk w x.b ∧ w.cell? ⟨x.b, 0, none⟩ = some (.string x.k) ∧ w.cell? ⟨x.b, 1, none⟩ = some (.int .i64 x.v) ∧ x.k.size ≤ maxLen
  apart : (S.mb :: S.pb :: S.kn :: L.map Ent.b).Nodup
  places : ∃ F n, MapOf Try.prog 9 w S.pb F n ∧ ((L.map Ent.k).Nodup → n = L.length ∧ ∀ s v, F (.string s) = some v ↔ ∃ x ∈ L, x.k = s ∧ v = ptr x.b)
  m1 : 1 ≤ S.most
  m2 : S.most ≤ 4096

variable {w w' : World} {S : Spot} {L L' : List Ent} {R : List Nat}

theorem LW.of (h : LRest w S L) : LW w S L := ⟨h.map, h.knot, h.ents, h.apart, (let ⟨F, h1, h2⟩ := h.places; ⟨F, _, h1, fun _ => ⟨rfl, h2⟩⟩), h.m1, h.m2⟩
theorem LW.rest (h : LW w S L) (hk : (L.map Ent.k).Nodup) : LRest w S L := by
  obtain ⟨F, n, h1, h2⟩ := h.places
  obtain ⟨rfl, h3⟩ := h2 hk
  exact { map := h.map, knot := h.knot, ents := h.ents, apart := h.apart, keys := hk, places := ⟨F, h1, h3⟩, m1 := h.m1, m2 := h.m2 }

theorem LW.lt (h : LW w S L) (k : Nat) (hk : Has S L k) : k < w.heap.size := by
  rcases hk with rfl | rfl | rfl | ⟨x, hx, rfl⟩
  · exact (Array.getElem?_eq_some_iff.1 h.map).1
  · exact h.knot.lt
  · obtain ⟨F, n, h1, _⟩ := h.places
    exact h1.lt
  · exact (h.ents x hx).1.lt
theorem LW.keep (h : LW w S L) (hk : ∀ k, Has S L k → w'.heap[k]? = w.heap[k]?) : LW w' S L where
  map := (hk _ (.inl rfl)).trans h.map
  knot := h.knot.of_block (hk _ (.inr (.inl rfl)))
  ents := fun x hx => by
    obtain ⟨h1, h2, h3, h4⟩ := h.ents x hx
    have e := hk x.b (.inr (.inr (.inr ⟨x, hx, rfl⟩)))
    exact ⟨h1.of_block e, (World.cell?_of_block (a := ⟨x.b, 0, none⟩) e).trans h2, (World.cell?_of_block (a := ⟨x.b, 1, none⟩) e).trans h3, h4⟩
  apart := h.apart
  places := by
    obtain ⟨F, n, h1, h2⟩ := h.places
    exact ⟨F, n, h1.of_block (hk _ (.inr (.inr (.inl rfl)))), h2⟩
  m1 := h.m1
  m2 := h.m2
theorem LW.below (h : LW w S L) (hb : Below w.heap.size w w') : LW w' S L := h.keep fun k hk => hb.block k (h.lt k hk)
theorem LW.far (h : LW w S L) (b : Nat) (hb : b = S.kn ∨ ∃ x ∈ L, x.b = b) : b ≠ S.mb ∧ b ≠ S.pb := by
  have := h.apart
  simp only [List.nodup_cons, List.mem_cons, List.mem_map, not_or] at this
  rcases hb with rfl | ⟨x, hx, rfl⟩
  · exact ⟨fun e => this.1.2.1 e.symm, fun e => this.2.1.1 e.symm⟩
  · exact ⟨fun e => this.1.2.2 ⟨x, hx, e⟩, fun e => this.2.1.2 ⟨x, hx, e⟩⟩
theorem LW.link (h : LW w S L) (b i : Nat) (hb : b = S.kn ∨ ∃ x ∈ L, x.b = b) (hi : 2 ≤ i) (v : Value) : LW (w.setCell ⟨b, i, none⟩ v) S L where
  map := by rw [heap_setCell_other _ _ _ _ (h.far b hb).1.symm]; exact h.map
  knot := h.knot.set _ _
  ents := fun x hx => by
    obtain ⟨h1, h2, h3, h4⟩ := h.ents x hx
    exact ⟨h1.set _ _, by rw [cell_other (by omega)]; exact h2, by rw [cell_other (by omega)]; exact h3, h4⟩
  apart := h.apart
  places := by
    obtain ⟨F, n, h1, h2⟩ := h.places
    exact ⟨F, n, h1.of_block (heap_setCell_other _ _ _ _ (h.far b hb).2.symm), h2⟩
  m1 := h.m1
  m2 := h.m2
theorem LW.blk (h : LW w S L) {b : Nat} (hb : b = S.kn ∨ ∃ y ∈ L, y.b = b) : Blk w b := hb.elim (fun e => e ▸ h.knot) (fun ⟨y, hy, e⟩ => e ▸ (h.ents y hy).1)

/-- one more, its place noted -/
theorem LW.added (h : LW w S L) {nb n : Nat} {s : ByteArray} {v : Int} {u2 u3 : Value} {F : Value → Option Value} (hnb : w.heap[nb]? = some (.cells #[.string s, .int .i64 v, u2, u3] 109)) (hfar : ¬ Has S L nb) (hs : s.size ≤ maxLen)
    (hF : (L.map Ent.k).Nodup → n = L.length ∧ ∀ s v, F (.string s) = some v ↔ ∃ x ∈ L, x.k = s ∧ v = ptr x.b) (hM : MapOf Try.prog 9 w' S.pb (put F (.string s) (ptr nb)) (if (F (.string s)).isSome then n else n + 1)) (hW : Wr (fun j => j = S.pb) w w') : LW w' S (L ++ [⟨nb, s, v⟩]) := by
  have hap := h.apart
  have hnl : nb < w.heap.size := (Array.getElem?_eq_some_iff.1 hnb).1
  have f1 : nb ≠ S.mb := fun e => hfar (.inl e)
  have f2 : nb ≠ S.kn := fun e => hfar (.inr (.inl e))
  have f3 : nb ≠ S.pb := fun e => hfar (.inr (.inr (.inl e)))
  have f4 : ∀ x ∈ L, x.b ≠ nb := fun x hx e => hfar (.inr (.inr (.inr ⟨x, hx, e⟩)))
  have hnb' : w'.heap[nb]? = some (.cells #[.string s, .int .i64 v, u2, u3] 109) := (hW.block nb hnl f3).trans hnb
  simp only [List.nodup_cons, List.mem_cons, List.mem_map, not_or] at hap
  refine { map := (hW.block _ (h.lt _ (.inl rfl)) hap.1.1).trans h.map, knot := h.knot.of_block (hW.block _ (h.lt _ (.inr (.inl rfl))) (fun e => hap.2.1.1 e.symm)), ents := fun x hx => ?_, apart := ?_, places := ⟨put F (.string s) (ptr nb), _, hM, fun hk => ?_⟩, m1 := h.m1, m2 := h.m2 }
  · rcases List.mem_append.1 hx with hx | hx
    · obtain ⟨h1, h2, h3, h4⟩ := h.ents x hx
      have e := hW.block x.b h1.lt (fun e => hap.2.1.2 ⟨x, hx, e⟩)
      exact ⟨h1.of_block e, (World.cell?_of_block (a := ⟨x.b, 0, none⟩) e).trans h2, (World.cell?_of_block (a := ⟨x.b, 1, none⟩) e).trans h3, h4⟩
    · obtain rfl := List.mem_singleton.1 hx
      have hB : Blk w' nb := Blk.mk (Exists.intro u2 (by simp [World.cell?, hnb'])) (Exists.intro u3 (by simp [World.cell?, hnb'])) (fun o => by simp [World.frozen?, hnb'])
      exact ⟨hB, by simp [World.cell?, hnb'], by simp [World.cell?, hnb'], hs⟩
  · have hp : (S.mb :: S.pb :: S.kn :: (L ++ [(⟨nb, s, v⟩ : Ent)]).map Ent.b).Perm (nb :: S.mb :: S.pb :: S.kn :: L.map Ent.b) := by
      rw [List.map_append]
      exact ((((List.perm_append_singleton nb (L.map Ent.b)).cons S.kn).cons S.pb).cons S.mb).trans ((((List.Perm.swap nb S.kn _).cons S.pb).cons S.mb).trans (((List.Perm.swap nb S.pb _).cons S.mb).trans (List.Perm.swap nb S.mb _)))
    refine hp.nodup_iff.2 (List.nodup_cons.2 ⟨?_, h.apart⟩)
    simp only [List.mem_cons, List.mem_map, not_or]
    exact ⟨f1, f3, f2, fun ⟨x, hx, e⟩ => f4 x hx e⟩
  · have hp : ((L ++ [(⟨nb, s, v⟩ : Ent)]).map Ent.k).Perm (s :: L.map Ent.k) := by
      rw [List.map_append]
      exact List.perm_append_singleton s (L.map Ent.k)
    obtain ⟨hk1, hk2⟩ := List.nodup_cons.1 (hp.nodup_iff.1 hk)
    have hn : ∀ x ∈ L, x.k ≠ s := fun x hx e => hk1 (List.mem_map.2 ⟨x, hx, e⟩)
    obtain ⟨hF1, hF⟩ := hF hk2
    have hnone : F (.string s) = none := by
      cases hc : F (.string s) with
      | none => rfl
      | some u => obtain ⟨x, hx, hk, _⟩ := (hF s u).1 hc; exact absurd hk (hn x hx)
    refine ⟨by rw [hnone]; simp [hF1], fun q u => ?_⟩
    by_cases hq : q = s
    · subst hq
      rw [put_same]
      constructor
      · intro e; cases e; exact ⟨⟨nb, q, v⟩, by simp, rfl, rfl⟩
      · rintro ⟨x, hx, hk, rfl⟩
        rcases List.mem_append.1 hx with hx | hx
        · exact absurd hk (hn x hx)
        · obtain rfl := List.mem_singleton.1 hx; rfl
    · rw [put_other (fun e => hq (by injection e)), hF q u]
      constructor
      · rintro ⟨x, hx, hk⟩; exact ⟨x, by simp [hx], hk⟩
      · rintro ⟨x, hx, hk⟩
        rcases List.mem_append.1 hx with hx | hx
        · exact ⟨x, hx, hk⟩
        · obtain rfl := List.mem_singleton.1 hx; exact absurd hk.1.symm hq

theorem LW.pushed {R : List Nat} {x : Ent} (h : LW w S L) (hr : Ring w S.kn R) (hx : x ∈ L) (hxn : x.b ∉ S.kn :: R) (hnd : (S.kn :: R).Nodup) (hsub : ∀ b ∈ R, ∃ y ∈ L, y.b = b) :
    Calls Try.prog 102 #[.agg #[ptr S.kn], ptr x.b] w fun e w' => e = .returned (.tuple #[]) ∧ LW w' S L ∧ Ring w' S.kn (R ++ [x.b]) ∧ Wr (Has S L) w w' := by
  have hlam := lst_mem S.kn R
  have hlam2 : lst S.kn R = S.kn ∨ ∃ y ∈ L, y.b = lst S.kn R := (List.mem_cons.1 hlam).elim .inl (fun e => .inr (hsub _ e))
  have hxm : x.b = S.kn ∨ ∃ y ∈ L, y.b = x.b := .inr ⟨x, hx, rfl⟩
  refine (push_any S.kn (lst S.kn R) x.b w hr.2.2 h.knot (h.blk hlam2) (h.blk hxm) (fun e => hxn (e ▸ List.mem_cons_self)) (fun e => hxn (e ▸ hlam))).mono ?_
  rintro e w' ⟨rfl, m, rfl⟩
  have h2 := (((h.link x.b 2 hxm (by omega) (ptr (lst S.kn R))).link x.b 3 hxm (by omega) (ptr S.kn)).link (lst S.kn R) 3 hlam2 (by omega) (ptr x.b)).link S.kn 2 (.inl rfl) (by omega) (ptr x.b)
  have hr2 := hr.push hnd hxn (h.blk hxm).c2 (h.blk hxm).c3
  have hb : ∀ (w1 : World) (o : Obj), Below w1.heap.size w1 ((w1.alloc o).drewN m) := fun w1 o => ⟨rfl, rfl, rfl, by simp [World.drewN], fun k hk => Below.heap_alloc w1 o k hk⟩
  refine ⟨rfl, h2.below (hb _ _), Ring.keep hr2 (fun k hk => (hb _ _).block k ?_), ((((wr_link hxm).trans (wr_link hxm)).trans (wr_link hlam2)).trans (wr_link (.inl rfl))).trans (Wr.ofBelow (hb _ _))⟩
  rcases List.mem_cons.1 hk with rfl | hk
  · exact h2.knot.lt
  · rcases List.mem_append.1 hk with hk | hk
    · exact (h2.blk (.inr (hsub _ hk))).lt
    · rw [List.mem_singleton.1 hk]; exact (h2.blk hxm).lt

theorem wadd_any (h : LW w S L) (hring : Ring w S.kn (L.map Ent.b)) {s : ByteArray} (hs : s.size ≤ maxLen) (v : Int) :
    Calls Try.prog 57 #[ptr S.mb, .agg #[.string s, .int .i64 v]] w fun e w' => e = .returned (.tuple #[]) ∧ (LW w' S (L ++ [⟨w.heap.size + 1, s, v⟩]) ∧ Ring w' S.kn ((L ++ [(⟨w.heap.size + 1, s, v⟩ : Ent)]).map Ent.b)) ∧ Wr (Has S L) w w' := by
  obtain ⟨wz, hwz⟩ : ∃ wz, ((w.alloc (.cells #[.string s, .int .i64 v] 107)).alloc (.cells #[.string s, .int .i64 v, .pointer none, .pointer none] 109)).drew = wz := ⟨_, rfl⟩
  have hbz : Below w.heap.size w wz := by rw [← hwz]; exact (((Below.refl _ _).alloc (Nat.le_refl _) _).alloc (by simp) _).drew
  have hsz : wz.heap.size = w.heap.size + 2 := by rw [← hwz]; show ((w.alloc _).alloc _).heap.size = _; simp
  have hz := h.below hbz
  have hrz : Ring wz S.kn (L.map Ent.b) := Ring.keep hring (fun k hk => hbz.block k (by
    rcases List.mem_cons.1 hk with rfl | hk2
    · exact h.knot.lt
    · obtain ⟨y, hy, rfl⟩ := List.mem_map.1 hk2
      exact (h.ents y hy).1.lt))
  have hnb : wz.heap[w.heap.size + 1]? = some (.cells #[.string s, .int .i64 v, .pointer none, .pointer none] 109) := by
    rw [← hwz]
    have := heap_alloc_new (w.alloc (.cells #[.string s, .int .i64 v] 107)) (.cells #[.string s, .int .i64 v, .pointer none, .pointer none] 109)
    rw [World.size_alloc] at this
    exact this
  have hfar : ¬ Has S L (w.heap.size + 1) := fun hh => by have := h.lt _ hh; omega
  obtain ⟨F, n, hM, hF⟩ := hz.places
  obtain ⟨w2, hrun, hM2, hW2⟩ := hM.store (val := ptr (w.heap.size + 1)) keyed Try.underlying112 (Go.WideMaps.keyOf_string_mk Try.underlying9 hs)
  have h2 : LW w2 S (L ++ [⟨w.heap.size + 1, s, v⟩]) := LW.added hz hnb hfar hs hF hM2 hW2
  have hpb : ∀ k ∈ S.kn :: L.map Ent.b, k ≠ S.pb := fun k hk e => by
    have := h.apart
    rw [e] at hk
    exact (List.nodup_cons.1 (List.nodup_cons.1 this).2).1 hk
  have hr2 : Ring w2 S.kn (L.map Ent.b) := Ring.keep hrz (fun k hk => hW2.block k (by
    rcases List.mem_cons.1 hk with rfl | hk2
    · exact hz.knot.lt
    · obtain ⟨y, hy, rfl⟩ := List.mem_map.1 hk2
      exact (hz.ents y hy).1.lt) (hpb k hk))
  have hwr : Wr (Has S L) w w2 := (Wr.ofBelow hbz).trans (hW2.mono (fun k e => .inr (.inr (.inl e))))
  have hno : (⟨w.heap.size + 1, s, v⟩ : Ent).b ∉ S.kn :: L.map Ent.b := fun hm => by
    refine hfar ?_
    rcases List.mem_cons.1 hm with e | hm
    · exact .inr (.inl e)
    · obtain ⟨y, hy, e⟩ := List.mem_map.1 hm
      exact .inr (.inr (.inr ⟨y, hy, e⟩))
  have HP := h2.pushed hr2 (x := ⟨w.heap.size + 1, s, v⟩) (by simp) hno (by have := h.apart; exact (List.nodup_cons.1 (List.nodup_cons.1 this).2).2) (fun b hb => by obtain ⟨y, hy, e⟩ := List.mem_map.1 hb; exact ⟨y, by simp [hy], e⟩)
  have hm2 : w.cell? ⟨S.mb, 2, none⟩ = some (.map (some S.pb)) := by simp [World.cell?, h.map]
  have hm0 : w2.cell? ⟨S.mb, 0, none⟩ = some (ptr S.kn) := by simp [World.cell?, h2.map]
  refine add_core S.mb S.kn S.pb s v w w2 (fun w' => (LW w' S (L ++ [⟨w.heap.size + 1, s, v⟩]) ∧ Ring w' S.kn ((L ++ [(⟨w.heap.size + 1, s, v⟩ : Ent)]).map Ent.b)) ∧ Wr (Has S L) w w') (h.lt _ (.inl rfl)) hm2 hm0 (by rw [hwz]; exact hrun) (hid (HP.mono ?_))
  rintro e w' ⟨rfl, q1, q2, q3⟩
  refine ⟨rfl, ⟨q1, by simpa using q2⟩, hwr.on q3 (fun k hk => ?_)⟩
  rcases hk with e | e | e | ⟨x, hx, e⟩
  · exact .inl (.inl e)
  · exact .inl (.inr (.inl e))
  · exact .inl (.inr (.inr (.inl e)))
  · rcases List.mem_append.1 hx with hx | hx
    · exact .inl (.inr (.inr (.inr ⟨x, hx, e⟩)))
    · rw [List.mem_singleton.1 hx] at e
      exact .inr (by rw [← e]; exact Nat.le_succ _)

end Go.Proofs.Ytkdldcigooiljaa.LruS
