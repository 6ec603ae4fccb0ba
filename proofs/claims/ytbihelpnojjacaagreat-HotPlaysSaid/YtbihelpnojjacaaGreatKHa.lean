/- A hot parameter's rule at work: Take, whole. -/
import Derived.Test.YtbihelpnojjacaaGreatKLr
import Derived.Test.YtbihelpnojjacaaGreatKSk
import Derived.Test.YtbihelpnojjacaaGreatKWin
import Derived.Test.YtbihelpnojjacaaGreatRulA
import Derived.BigQuiet
import Derived.Deep.RegionHeld3
import Derived.Deep.DeepCutAuto

/- A hot parameter's rule at work, as what lies in memory: the values that are kept exactly, each with its window, and the sketch. -/
namespace Go.Proofs.YtbihelpnojjacaaGreat.HotA
open Go.ChangeShapes Go.WideShapes Go.ChangeAt Go.RowKit Base Wri Map LruA LruB LruC LruD LruE LruF
open Go.Maps (Keyed string_keyed)
set_option linter.unusedVariables false

abbrev Wn := WinE.Win
/-- a value that is kept: its window, where that lies, and when it was noted last -/
structure KW where
  k : ByteArray
  p : Nat
  go : Option Nat
  s : Wn
  t : Nat
/-- what stays as it is -/
structure HC where
  h : Nat
  itb : Nat
  wb : Nat
  sp : Nat
  S : Spot
  cnt : Int
  q : Nat
  seed : Nat
  it : ByteArray → Option Int
/-- a sketch as it stands -/
structure SK where
  go : Option Nat
  qs : List Nat
  mpf : Nat → Nat
  ns : List SkA.Note
  t : Nat
/-- whose a block is -/
inductive Tg where
  | non | hd | it | lr | wn | sk | win (s : ByteArray)

def hX (C : HC) : SkG.Shp := ⟨10 * C.q, 10, 4, 256, C.seed⟩
def KW.Ok (C : HC) (last : Nat) (w : World) (x : KW) : Prop :=
  WinE.IsWin w x.p x.go x.s ∧ x.s.width = 10 * C.q ∧ x.s.size = 10 ∧ WinN.Tidy C.q x.s x.t ∧ x.s.last = x.t ∧ x.t ≤ last
def ext (own : Nat → Tg) (n : Nat) (T : Tg) : Nat → Tg := fun k => if k < n then own k else T
theorem ext_lt {own : Nat → Tg} {n k : Nat} {T : Tg} (h : k < n) : ext own n T k = own k := if_pos h
theorem ext_ge {own : Nat → Tg} {n k : Nat} {T : Tg} (h : n ≤ k) : ext own n T k = T := if_neg (by omega)

structure HMem (w : World) (own : Nat → Tg) (C : HC) (last : Nat) (L : List Ent) (K : List KW) (Z : SK) : Prop where
  head : w.heap[C.h]? = some (.cells #[.int .i64 C.cnt, .int .i64 ((10 * C.q : Nat) : Int), .map (some C.itb), ptr C.S.mb, .map (some C.wb), ptr C.sp, .int .i64 last] 72)
  items : ∃ F n, MapOf Tryz.prog 9 w C.itb F n ∧ ∀ s, F (.string s) = (C.it s).map (.int .i64)
  lru : IsLru w C.S L
  wins : ∃ F n, MapOf Tryz.prog 9 w C.wb F n ∧ ∀ s v, F (.string s) = some v ↔ ∃ x ∈ K, x.k = s ∧ v = ptr x.p
  kn : (K.map KW.k).Nodup
  wok : ∀ x ∈ K, x.Ok C last w
  sk : SkL.Full w C.sp Z.go (hX C) C.q Z.t Z.ns Z.qs Z.mpf
  skt : Z.t ≤ last
  late : last ≤ 1152921504606846976
  q0 : 0 < C.q
  q1 : C.q ≤ 6000000
  oh : own C.h = .hd
  oi : own C.itb = .it
  ol : ∀ k, Has C.S L k → own k = .lr
  ow : own C.wb = .wn
  os : ∀ k, SkL.Ft C.sp Z.go Z.qs Z.mpf k → own k = .sk
  ox : ∀ x ∈ K, own x.p = .win x.k ∧ ∀ g, x.go = some g → own g = .win x.k

variable {w w' : World} {own : Nat → Tg} {C : HC} {last : Nat} {L L' : List Ent} {K K' : List KW} {Z Z' : SK}

theorem lets_wr {R : Nat → Prop} {w w' : World} (h : WinE.Lets R w w') : Wr R w w' := ⟨h.os, h.tape, h.output, h.size, h.block⟩
theorem wr_lets {R : Nat → Prop} {w w' : World} (h : Wr R w w') : WinE.Lets R w w' := ⟨h.os, h.tape, h.output, h.size, h.block⟩

theorem HMem.hlt (h : HMem w own C last L K Z) : C.h < w.heap.size := (Array.getElem?_eq_some_iff.1 h.head).1
theorem HMem.ilt (h : HMem w own C last L K Z) : C.itb < w.heap.size := by obtain ⟨F, n, h1, _⟩ := h.items; exact h1.lt
theorem HMem.wlt (h : HMem w own C last L K Z) : C.wb < w.heap.size := by obtain ⟨F, n, h1, _⟩ := h.wins; exact h1.lt

/-- what a call that writes one part leaves of the others -/
theorem HMem.carry (h : HMem w own C last L K Z) (T : Tg) (hw : Wr (fun k => own k = T) w w') :
    (T ≠ .hd → w'.heap[C.h]? = w.heap[C.h]?) ∧ (T ≠ .it → ∃ F n, MapOf Tryz.prog 9 w' C.itb F n ∧ ∀ s, F (.string s) = (C.it s).map (.int .i64)) ∧ (T ≠ .lr → IsLru w' C.S L) ∧
    (T ≠ .wn → ∃ F n, MapOf Tryz.prog 9 w' C.wb F n ∧ ∀ s v, F (.string s) = some v ↔ ∃ x ∈ K, x.k = s ∧ v = ptr x.p) ∧ (∀ x ∈ K, T ≠ .win x.k → x.Ok C last w') ∧
    (T ≠ .sk → SkL.Full w' C.sp Z.go (hX C) C.q Z.t Z.ns Z.qs Z.mpf) := by
  refine ⟨fun e => hw.block _ h.hlt (fun e2 => e (by rw [← e2, h.oh])), fun e => ?_, fun e => h.lru.wr hw fun k hk e2 => e (by rw [← e2, h.ol k hk]), fun e => ?_, fun x hx e => ?_, fun e => h.sk.keep fun k hk => hw.block k (h.sk.lt hk) (fun e2 => e (by rw [← e2, h.os k hk]))⟩
  · obtain ⟨F, n, h1, h2⟩ := h.items
    exact ⟨F, n, h1.of_block (hw.block _ h1.lt (fun e2 => e (by rw [← e2, h.oi]))), h2⟩
  · obtain ⟨F, n, h1, h2⟩ := h.wins
    exact ⟨F, n, h1.of_block (hw.block _ h1.lt (fun e2 => e (by rw [← e2, h.ow]))), h2⟩
  · obtain ⟨h1, h2⟩ := h.wok x hx
    obtain ⟨o1, o2⟩ := h.ox x hx
    exact ⟨h1.keep (wr_lets hw) (fun e2 => e (by rw [← e2, o1])) (fun g hg e2 => e (by rw [← e2, o2 g hg])), h2⟩

theorem HMem.owns (h : HMem w own C last L K Z) (T : Tg) :
    ext own w.heap.size T C.h = .hd ∧ ext own w.heap.size T C.itb = .it ∧ (∀ k, Has C.S L k → ext own w.heap.size T k = .lr) ∧ ext own w.heap.size T C.wb = .wn ∧
    (∀ k, SkL.Ft C.sp Z.go Z.qs Z.mpf k → ext own w.heap.size T k = .sk) ∧ (∀ x ∈ K, ext own w.heap.size T x.p = .win x.k ∧ ∀ g, x.go = some g → ext own w.heap.size T g = .win x.k) := by
  refine ⟨by rw [ext_lt h.hlt, h.oh], by rw [ext_lt h.ilt, h.oi], fun k hk => by rw [ext_lt (h.lru.rest.lt k hk), h.ol k hk], by rw [ext_lt h.wlt, h.ow], fun k hk => by rw [ext_lt (h.sk.lt hk), h.os k hk], fun x hx => ?_⟩
  obtain ⟨h1, _⟩ := h.wok x hx
  obtain ⟨o1, o2⟩ := h.ox x hx
  exact ⟨by rw [ext_lt h1.lt, o1], fun g hg => by rw [ext_lt (h1.lt2 g hg), o2 g hg]⟩

theorem HMem.wr (h : HMem w own C last L K Z) (hw : Wr (fun _ => False) w w') : HMem w' own C last L K Z := by
  have hb : ∀ k, k < w.heap.size → w'.heap[k]? = w.heap[k]? := fun k hk => hw.block k hk (fun e => e)
  refine { head := (hb _ h.hlt).trans h.head, items := ?_, lru := h.lru.wr hw (fun _ _ e => e), wins := ?_, kn := h.kn, wok := fun x hx => ?_, sk := h.sk.keep fun k hk => hb k (h.sk.lt hk), skt := h.skt, late := h.late, q0 := h.q0, q1 := h.q1, oh := h.oh, oi := h.oi, ol := h.ol, ow := h.ow, os := h.os, ox := h.ox }
  · obtain ⟨F, n, h1, h2⟩ := h.items
    exact ⟨F, n, h1.of_block (hb _ h1.lt), h2⟩
  · obtain ⟨F, n, h1, h2⟩ := h.wins
    exact ⟨F, n, h1.of_block (hb _ h1.lt), h2⟩
  · obtain ⟨h1, h2⟩ := h.wok x hx
    exact ⟨h1.keep (wr_lets hw) (fun e => e) (fun _ _ e => e), h2⟩
theorem HMem.below (h : HMem w own C last L K Z) (hb : Below w.heap.size w w') : HMem w' own C last L K Z := h.wr (Wr.ofBelow hb)

/-- a call's time noted -/
theorem HMem.noted (h : HMem w own C last L K Z) {t : Nat} (ht : last ≤ t) (ht2 : t ≤ 1152921504606846976) : HMem (w.setCell ⟨C.h, 6, none⟩ (.int .i64 t)) own C t L K Z := by
  have hw : Wr (fun k => own k = .hd) w (w.setCell ⟨C.h, 6, none⟩ (.int .i64 t)) := Wr.set _ _ h.oh
  obtain ⟨-, c1, c2, c3, c4, c5⟩ := h.carry .hd hw
  refine { head := ?_, items := c1 (by simp), lru := c2 (by simp), wins := c3 (by simp), kn := h.kn, wok := fun x hx => ?_, sk := c5 (by simp), skt := Nat.le_trans h.skt ht, late := ht2, q0 := h.q0, q1 := h.q1, oh := h.oh, oi := h.oi, ol := h.ol, ow := h.ow, os := h.os, ox := h.ox }
  · exact heap_setCell_same _ _ _ _ _ _ h.head
  · obtain ⟨a1, a2, a3, a4, a5, a6⟩ := c4 x hx (by simp)
    exact ⟨a1, a2, a3, a4, a5, Nat.le_trans a6 ht⟩

/-- the bounded map turned -/
theorem HMem.lruTo (h : HMem w own C last L K Z) (hl : IsLru w' C.S L') (hw : Wr (Has C.S L) w w') (hn : ∀ k, Has C.S L' k → Has C.S L k ∨ w.heap.size ≤ k) : HMem w' (ext own w.heap.size .lr) C last L' K Z := by
  have hw2 : Wr (fun k => own k = .lr) w w' := hw.mono fun k hk => h.ol k hk
  obtain ⟨c0, c1, -, c3, c4, c5⟩ := h.carry .lr hw2
  obtain ⟨o1, o2, o3, o4, o5, o6⟩ := h.owns .lr
  exact { head := (c0 (by simp)).trans h.head, items := c1 (by simp), lru := hl, wins := c3 (by simp), kn := h.kn, wok := fun x hx => c4 x hx (by simp), sk := c5 (by simp), skt := h.skt, late := h.late, q0 := h.q0, q1 := h.q1, oh := o1, oi := o2,
          ol := fun k hk => (hn k hk).elim (o3 k) (fun e => ext_ge e), ow := o4, os := o5, ox := o6 }

/-- the sketch turned -/
theorem HMem.skTo (h : HMem w own C last L K Z) (hp : SkQ.AddPost w C.sp Z.go (hX C) C.q Z'.t Z'.ns Z.qs Z.mpf w') (ht : Z'.t ≤ last) : ∃ go qs mpf, HMem w' (ext own w.heap.size .sk) C last L K ⟨go, qs, mpf, Z'.ns, Z'.t⟩ := by
  obtain ⟨go', qs', mpf', hf, hw, hn⟩ := hp
  have hw2 : Wr (fun k => own k = .sk) w w' := hw.mono fun k hk => h.os k hk
  obtain ⟨c0, c1, c2, c3, c4, -⟩ := h.carry .sk hw2
  obtain ⟨o1, o2, o3, o4, o5, o6⟩ := h.owns .sk
  exact ⟨go', qs', mpf', { head := (c0 (by simp)).trans h.head, items := c1 (by simp), lru := c2 (by simp), wins := c3 (by simp), kn := h.kn, wok := fun x hx => c4 x hx (by simp), sk := hf, skt := ht, late := h.late, q0 := h.q0, q1 := h.q1, oh := o1, oi := o2, ol := o3, ow := o4, os := fun k hk => (hn k hk).elim (o5 k) (fun e => ext_ge e), ox := o6 }⟩

/-- the map of windows without a value -/
theorem HMem.gone (h : HMem w own C last L K Z) (s : ByteArray) {F : Value → Option Value} {n : Nat} (hF : ∀ s v, F (.string s) = some v ↔ ∃ x ∈ K, x.k = s ∧ v = ptr x.p) (hm : MapOf Tryz.prog 9 w' C.wb (del F (.string s)) n) (hw : Wr (fun j => j = C.wb) w w') :
    HMem w' own C last L (K.filter fun x => decide (x.k ≠ s)) Z := by
  have hw2 : Wr (fun k => own k = .wn) w w' := hw.mono fun k hk => by rw [hk]; exact h.ow
  obtain ⟨c0, c1, c2, -, c4, c5⟩ := h.carry .wn hw2
  have hsub : ∀ x ∈ K.filter (fun x => decide (x.k ≠ s)), x ∈ K := fun x hx => (List.mem_filter.1 hx).1
  refine { head := (c0 (by simp)).trans h.head, items := c1 (by simp), lru := c2 (by simp), wins := ⟨_, _, hm, fun s' v => ?_⟩, kn := ?_, wok := fun x hx => c4 x (hsub x hx) (by simp), sk := c5 (by simp), skt := h.skt, late := h.late, q0 := h.q0, q1 := h.q1, oh := h.oh, oi := h.oi,
           ol := h.ol, ow := h.ow, os := h.os, ox := fun x hx => h.ox x (hsub x hx) }
  · by_cases e : s' = s
    · subst e
      rw [del_same]
      constructor
      · intro h0; cases h0
      · rintro ⟨x, hx, hk, _⟩
        have := (List.mem_filter.1 hx).2
        simp [hk] at this
    · rw [del_other (fun e2 => e (by injection e2)), hF s' v]
      constructor
      · rintro ⟨x, hx, hk, hv⟩; exact ⟨x, List.mem_filter.2 ⟨hx, by simp [hk, e]⟩, hk, hv⟩
      · rintro ⟨x, hx, hk, hv⟩; exact ⟨x, hsub x hx, hk, hv⟩
  · exact List.Nodup.sublist (List.Sublist.map _ List.filter_sublist) h.kn

/-- a window more, for a value that has none -/
theorem HMem.more (h : HMem w own C last L K Z) (x : KW) (hx : x.Ok C last w) (hno : ∀ y ∈ K, y.k ≠ x.k) (hx1 : own x.p = .win x.k) (hx2 : ∀ g, x.go = some g → own g = .win x.k) {F : Value → Option Value} {n : Nat} (hF : ∀ s v, F (.string s) = some v ↔ ∃ x ∈ K, x.k = s ∧ v = ptr x.p)
    (hm : MapOf Tryz.prog 9 w' C.wb (put F (.string x.k) (ptr x.p)) n) (hw : Wr (fun j => j = C.wb) w w') : HMem w' own C last L (K ++ [x]) Z := by
  have hw2 : Wr (fun k => own k = .wn) w w' := hw.mono fun k hk => by rw [hk]; exact h.ow
  obtain ⟨c0, c1, c2, -, c4, c5⟩ := h.carry .wn hw2
  refine { head := (c0 (by simp)).trans h.head, items := c1 (by simp), lru := c2 (by simp), wins := ⟨_, _, hm, fun s' v => ?_⟩, kn := ?_, wok := fun y hy => ?_, sk := c5 (by simp), skt := h.skt, late := h.late, q0 := h.q0, q1 := h.q1, oh := h.oh, oi := h.oi,
           ol := h.ol, ow := h.ow, os := h.os, ox := fun y hy => ?_ }
  · by_cases e : s' = x.k
    · subst e
      rw [put_same]
      constructor
      · intro h0; cases h0; exact ⟨x, by simp, rfl, rfl⟩
      · rintro ⟨y, hy, hk, rfl⟩
        rcases List.mem_append.1 hy with hy | hy
        · exact absurd hk (hno y hy)
        · obtain rfl := List.mem_singleton.1 hy; rfl
    · rw [put_other (fun e2 => e (by injection e2)), hF s' v]
      constructor
      · rintro ⟨y, hy, hk, hv⟩; exact ⟨y, List.mem_append_left _ hy, hk, hv⟩
      · rintro ⟨y, hy, hk, hv⟩
        rcases List.mem_append.1 hy with hy | hy
        · exact ⟨y, hy, hk, hv⟩
        · obtain rfl := List.mem_singleton.1 hy; exact absurd hk.symm e
  · rw [List.map_append]
    refine (List.perm_append_comm.nodup_iff).2 (List.nodup_cons.2 ⟨?_, h.kn⟩)
    intro hm
    obtain ⟨y, hy, hk⟩ := List.mem_map.1 hm
    exact hno y hy hk
  · rcases List.mem_append.1 hy with hy | hy
    · exact c4 y hy (by simp)
    · obtain rfl := List.mem_singleton.1 hy
      obtain ⟨a1, a2⟩ := hx
      exact ⟨a1.keep (wr_lets hw2) (by rw [hx1]; simp) (fun g hg => by rw [hx2 g hg]; simp), a2⟩
  · rcases List.mem_append.1 hy with hy | hy
    · exact h.ox y hy
    · obtain rfl := List.mem_singleton.1 hy
      exact ⟨hx1, hx2⟩

/-- a window turned in its place -/
def upd (K : List KW) (y : KW) : List KW := K.map fun z => open Classical in if z.k = y.k then y else z
theorem upd_mem {K : List KW} {y z : KW} (h : z ∈ upd K y) : z = y ∨ (z ∈ K ∧ z.k ≠ y.k) := by
  obtain ⟨x, hx, rfl⟩ := List.mem_map.1 h
  by_cases e : x.k = y.k
  · exact .inl (if_pos e)
  · rw [if_neg e]; exact .inr ⟨hx, e⟩
theorem upd_of {K : List KW} {y z : KW} (h : z ∈ K) (hk : z.k ≠ y.k) : z ∈ upd K y := List.mem_map.2 ⟨z, h, by rw [if_neg hk]⟩
theorem upd_self {K : List KW} {x y : KW} (h : x ∈ K) (hk : x.k = y.k) : y ∈ upd K y := List.mem_map.2 ⟨x, h, by rw [if_pos hk]⟩
theorem upd_keys (K : List KW) (y : KW) : (upd K y).map KW.k = K.map KW.k := by
  unfold upd
  rw [List.map_map]
  refine List.map_congr_left fun z _ => ?_
  show (if z.k = y.k then y else z).k = z.k
  split
  · next h => exact h.symm
  · rfl

theorem HMem.winTo (h : HMem w own C last L K Z) {x y : KW} (hx : x ∈ K) (hk : y.k = x.k) (hp : y.p = x.p) (hy : y.Ok C last w') (hw : Wr (fun k => k = x.p ∨ x.go = some k) w w') (hn : y.go = x.go ∨ ∃ g, y.go = some g ∧ w.heap.size ≤ g) :
    HMem w' (ext own w.heap.size (.win x.k)) C last L (upd K y) Z := by
  obtain ⟨ox1, ox2⟩ := h.ox x hx
  have hw2 : Wr (fun k => own k = .win x.k) w w' := hw.mono fun k hk => hk.elim (fun e => by rw [e]; exact ox1) (fun e => ox2 k e)
  obtain ⟨c0, c1, c2, c3, c4, c5⟩ := h.carry (.win x.k) hw2
  obtain ⟨o1, o2, o3, o4, o5, o6⟩ := h.owns (.win x.k)
  refine { head := (c0 (by simp)).trans h.head, items := c1 (by simp), lru := c2 (by simp), wins := ?_, kn := by rw [upd_keys]; exact h.kn, wok := fun z hz => ?_, sk := c5 (by simp), skt := h.skt, late := h.late, q0 := h.q0, q1 := h.q1, oh := o1, oi := o2, ol := o3, ow := o4, os := o5, ox := fun z hz => ?_ }
  · obtain ⟨F, n, h1, h2⟩ := c3 (by simp)
    refine ⟨F, n, h1, fun s v => (h2 s v).trans ⟨?_, ?_⟩⟩
    · rintro ⟨z, hz, hk2, hv⟩
      by_cases e : z.k = y.k
      · have e2 : z = x := by
          have := h.kn
          obtain ⟨i, hi, rfl⟩ := List.getElem_of_mem hz
          obtain ⟨j, hj, rfl⟩ := List.getElem_of_mem hx
          by_cases hij : i = j
          · subst hij; rfl
          · exact absurd (e.trans hk) (fun e3 => by
              unfold List.Nodup at this
              rw [List.pairwise_iff_getElem] at this
              rcases Nat.lt_or_gt_of_ne hij with h4 | h4
              · exact this i j (by simpa using hi) (by simpa using hj) h4 (by simpa using e3)
              · exact this j i (by simpa using hj) (by simpa using hi) h4 (by simpa using e3.symm))
        subst e2
        exact ⟨y, upd_self hz e, by rw [← e]; exact hk2, by rw [hp]; exact hv⟩
      · exact ⟨z, upd_of hz e, hk2, hv⟩
    · rintro ⟨z, hz, hk2, hv⟩
      rcases upd_mem hz with rfl | ⟨hz, _⟩
      · exact ⟨x, hx, by rw [← hk]; exact hk2, by rw [← hp]; exact hv⟩
      · exact ⟨z, hz, hk2, hv⟩
  · rcases upd_mem hz with rfl | ⟨hz, hne⟩
    · exact hy
    · exact c4 z hz (fun e => hne (by rw [hk]; injection e with e; exact e.symm))
  · rcases upd_mem hz with rfl | ⟨hz, hne⟩
    · rw [hp, hk]
      refine ⟨(o6 x hx).1, fun g hg => ?_⟩
      rcases hn with e | ⟨g', e, hg'⟩
      · exact (o6 x hx).2 g (by rw [← e]; exact hg)
      · rw [e] at hg; cases hg; exact ext_ge hg'
    · exact o6 z hz

end Go.Proofs.YtbihelpnojjacaaGreat.HotA

/- Calls of a hot parameter's rule that only read: its limit, what is kept, what is used, what is refused. -/
namespace Go.Proofs.YtbihelpnojjacaaGreat.HotB
open Go.ChangeShapes Go.WideShapes Go.ChangeAt Go.RowKit Base Wri Map LruA LruB LruC LruD LruE LruF HotA RulA
open Go.Maps (Keyed string_keyed)
set_option linter.unusedVariables false
variable {w w' : World} {own : Nat → Tg} {C : HC} {last : Nat} {L L' : List Ent} {K K' : List KW} {Z Z' : SK}

theorem bl {w w1 w2 : World} (h : Below w.heap.size w w1) (h2 : Below w1.heap.size w1 w2) : Below w.heap.size w w2 := h.trans (h2.mono h.size)

theorem keyedS : Keyed Tryz.prog 9 := string_keyed Tryz.underlying9
theorem zeroW (w : World) : (zeroValue 126).run Tryz.prog w = .ok (.pointer none) w := by kernel_rfl
theorem zeroI (w : World) : (zeroValue 3).run Tryz.prog w = .ok (.int .i64 0) w := by kernel_rfl

def limN (C : HC) (s : ByteArray) : Int := (C.it s).getD C.cnt

theorem HMem.lookI (h : HMem w own C last L K Z) (s : ByteArray) (hs : s.size ≤ maxLen) :
    (Instr.lookup 57 (.map (some C.itb)) (.string s) true).run Tryz.prog w = .ok (match C.it s with | some v => .tuple #[.int .i64 v, .bool true] | none => .tuple #[.int .i64 0, .bool false]) w := by
  obtain ⟨F, n, h1, h2⟩ := h.items
  have hl := h1.look true keyedS Tryz.underlying57 (zeroI w) (Go.WideMaps.keyOf_string_mk Tryz.underlying9 hs)
  rw [hl, h2 s]
  cases C.it s <;> rfl

theorem HMem.lookW_no (h : HMem w own C last L K Z) (s : ByteArray) (hs : s.size ≤ maxLen) (hn : ∀ x ∈ K, x.k ≠ s) :
    (Instr.lookup 60 (.map (some C.wb)) (.string s) false).run Tryz.prog w = .ok (.pointer none) w := by
  obtain ⟨F, n, h1, h2⟩ := h.wins
  have hl := h1.look false keyedS Tryz.underlying60 (zeroW w) (Go.WideMaps.keyOf_string_mk Tryz.underlying9 hs)
  have hf : F (.string s) = none := by
    cases hc : F (.string s) with
    | none => rfl
    | some v => obtain ⟨x, hx, hk, _⟩ := (h2 s v).1 hc; exact absurd hk (hn x hx)
  rw [hl, hf]
  rfl
theorem HMem.lookW_yes (h : HMem w own C last L K Z) {x : KW} (hx : x ∈ K) (hs : x.k.size ≤ maxLen) :
    (Instr.lookup 60 (.map (some C.wb)) (.string x.k) false).run Tryz.prog w = .ok (.pointer (some ⟨x.p, 0, none⟩)) w := by
  obtain ⟨F, n, h1, h2⟩ := h.wins
  have hl := h1.look false keyedS Tryz.underlying60 (zeroW w) (Go.WideMaps.keyOf_string_mk Tryz.underlying9 hs)
  rw [hl, (h2 x.k (ptr x.p)).2 ⟨x, hx, rfl, rfl⟩]
  rfl

set_option maxHeartbeats 400000 in
theorem limit_core (cnt wd : Int) (b : Nat) (s : ByteArray) (r : Int) (v : Value) (w : World) (hv : (v = .tuple #[.int .i64 r, .bool true]) ∨ (v = .tuple #[.int .i64 0, .bool false] ∧ r = cnt))
    (H : Hid (∀ wx, Below w.heap.size w wx → (Instr.lookup 57 (.map (some b)) (.string s) true).run Tryz.prog wx = .ok v wx)) :
    Calls Tryz.prog 41 #[.agg #[.int .i64 cnt, .int .i64 wd, .map (some b)], .string s] w fun e w' => e = .returned (.int .i64 r) ∧ Below w.heap.size w w' := by
  have hb : Below w.heap.size w (w.alloc (.cells #[.int .i64 cnt, .int .i64 wd, .map (some b)] 66)) := (Below.refl _ w).alloc (Nat.le_refl _) _
  have h1 := H.out _ hb
  have HB := hid hb
  clear hb
  rcases hv with rfl | ⟨rfl, rfl⟩ <;> (
    go_enter Tryz.func41, Tryz.ntmps41
    go_wp2_with fail
    go_ret
    exact ⟨rfl, HB.out⟩)

theorem HMem.limit (h : HMem w own C last L K Z) (s : ByteArray) (hs : s.size ≤ maxLen) (wd : Int) :
    Calls Tryz.prog 41 #[.agg #[.int .i64 C.cnt, .int .i64 wd, .map (some C.itb)], .string s] w fun e w' => e = .returned (.int .i64 (limN C s)) ∧ Below w.heap.size w w' :=
  limit_core C.cnt wd C.itb s (limN C s) (match C.it s with | some v => .tuple #[.int .i64 v, .bool true] | none => .tuple #[.int .i64 0, .bool false]) w (by
    unfold limN
    cases C.it s
    · exact .inr ⟨rfl, rfl⟩
    · exact .inl rfl) (hid fun wx hb => HMem.lookI (h.below hb) s hs)

/-- the two parts of what is kept exactly -/
abbrev exV (C : HC) : Value := .agg #[.pointer (some ⟨C.S.mb, 0, none⟩), .map (some C.wb)]

set_option maxHeartbeats 400000 in
theorem has_core (a b : Nat) (s : ByteArray) (v : Value) (r : Bool) (w : World) (hv : (v = .pointer none ∧ r = false) ∨ ∃ p, v = .pointer (some ⟨p, 0, none⟩) ∧ r = true)
    (H : Hid (∀ wx, Below w.heap.size w wx → (Instr.lookup 60 (.map (some b)) (.string s) false).run Tryz.prog wx = .ok v wx)) :
    Calls Tryz.prog 65 #[.agg #[.pointer (some ⟨a, 0, none⟩), .map (some b)], .string s] w fun e w' => e = .returned (.bool r) ∧ Below w.heap.size w w' := by
  have hb : Below w.heap.size w (w.alloc (.cells #[.pointer (some ⟨a, 0, none⟩), .map (some b)] 62)) := (Below.refl _ w).alloc (Nat.le_refl _) _
  have h1 := H.out _ hb
  have HB := hid hb
  clear hb
  rcases hv with ⟨rfl, rfl⟩ | ⟨p, rfl, rfl⟩ <;> (
    go_enter Tryz.func65, Tryz.ntmps65
    go_wp2_with fail
    go_ret
    exact ⟨rfl, HB.out⟩)

theorem HMem.has_yes (h : HMem w own C last L K Z) {x : KW} (hx : x ∈ K) (hs : x.k.size ≤ maxLen) :
    Calls Tryz.prog 65 #[exV C, .string x.k] w fun e w' => e = .returned (.bool true) ∧ Below w.heap.size w w' :=
  has_core _ _ _ _ _ w (.inr ⟨x.p, rfl, rfl⟩) (hid fun wx hb => HMem.lookW_yes (h.below hb) hx hs)
theorem HMem.has_no (h : HMem w own C last L K Z) (s : ByteArray) (hs : s.size ≤ maxLen) (hn : ∀ x ∈ K, x.k ≠ s) :
    Calls Tryz.prog 65 #[exV C, .string s] w fun e w' => e = .returned (.bool false) ∧ Below w.heap.size w w' :=
  has_core _ _ _ _ _ w (.inl ⟨rfl, rfl⟩) (hid fun wx hb => HMem.lookW_no (h.below hb) s hs hn)

/-- a window's passes at a time -/
def passW (q : Nat) (s : Wn) (t : Nat) : WinM.Cnt := WinK.sumM (WinD.stays ((WinE.begN q t : Int) - s.width + q) s.bs)

theorem KW.sum {x : KW} (hx : x.Ok C last w) (hq : 0 < C.q) (hq1 : C.q ≤ 6000000) {t : Nat} (ht : last ≤ t) (ht2 : t ≤ 1152921504606846976) :
    Calls Tryz.prog 109 #[.pointer (some ⟨x.p, 0, none⟩), .int .i64 t] w fun e w' => e = .returned (.tuple #[WinA.cv (passW C.q x.s t), .int .i64 0]) ∧ Below w.heap.size w w' := by
  obtain ⟨h1, h2, h3, h4, h5, h6⟩ := hx
  have hlen := h4.len (by rw [h2, h3]) hq
  exact WinK.sum_yes x.p x.go x.s C.q t w h1 (by rw [h2, h3]; exact Nat.mul_div_cancel_left _ (by omega)) hq (by omega) (by omega) ht2 (by rw [h5]; omega) h4.fine (by omega)

set_option maxHeartbeats 1000000 in
theorem passed_core (a b p : Nat) (t : Int) (s : ByteArray) (c : WinM.Cnt) (w : World)
    (H0 : Hid (∀ wx, Below w.heap.size w wx → Calls Tryz.prog 65 #[.agg #[.pointer (some ⟨a, 0, none⟩), .map (some b)], .string s] wx fun e w' => e = .returned (.bool true) ∧ Below wx.heap.size wx w'))
    (H1 : Hid (∀ wx, Below w.heap.size w wx → (Instr.lookup 60 (.map (some b)) (.string s) false).run Tryz.prog wx = .ok (.pointer (some ⟨p, 0, none⟩)) wx))
    (H2 : Hid (∀ wx, Below w.heap.size w wx → Calls Tryz.prog 109 #[.pointer (some ⟨p, 0, none⟩), .int .i64 t] wx fun e w' => e = .returned (.tuple #[WinA.cv c, .int .i64 0]) ∧ Below wx.heap.size wx w')) :
    Calls Tryz.prog 72 #[.agg #[.pointer (some ⟨a, 0, none⟩), .map (some b)], .int .i64 t, .string s] w fun e w' => e = .returned (.tuple #[.int .i64 c.pass, .bool true]) ∧ Below w.heap.size w w' := by
  have hb : Below w.heap.size w (w.alloc (.cells #[.pointer (some ⟨a, 0, none⟩), .map (some b)] 62)) := (Below.refl _ w).alloc (Nat.le_refl _) _
  have HB := hid hb
  clear hb
  unfold WinA.cv at H2
  go_enter Tryz.func72, Tryz.ntmps72
  go_wp2_with fail
  refine (H0.out _ HB.out).mono ?_
  rintro e w1 ⟨rfl, hb⟩
  have HB1 := hid (bl HB.out hb)
  have c1 : w1.cell? ⟨w.heap.size, 1, none⟩ = some (.map (some b)) := (hb.cell (p := ⟨w.heap.size, 1, none⟩) (by simp)).trans (by go_cell)
  have l1 := H1.out _ HB1.out
  clear hb
  go_wp2_with fail
  refine (H2.out _ HB1.out).mono ?_
  rintro e w2 ⟨rfl, hb⟩
  have HB2 := hid (bl HB1.out hb)
  clear hb l1 c1
  go_wp2_with fail
  go_ret2
  exact ⟨rfl, HB2.out.alloc HB2.out.size _⟩

set_option maxHeartbeats 1000000 in
theorem passed_none (a b : Nat) (t : Int) (s : ByteArray) (w : World)
    (H0 : Hid (∀ wx, Below w.heap.size w wx → Calls Tryz.prog 65 #[.agg #[.pointer (some ⟨a, 0, none⟩), .map (some b)], .string s] wx fun e w' => e = .returned (.bool false) ∧ Below wx.heap.size wx w')) :
    Calls Tryz.prog 72 #[.agg #[.pointer (some ⟨a, 0, none⟩), .map (some b)], .int .i64 t, .string s] w fun e w' => e = .returned (.tuple #[.int .i64 0, .bool false]) ∧ Below w.heap.size w w' := by
  have hb : Below w.heap.size w (w.alloc (.cells #[.pointer (some ⟨a, 0, none⟩), .map (some b)] 62)) := (Below.refl _ w).alloc (Nat.le_refl _) _
  have HB := hid hb
  clear hb
  go_enter Tryz.func72, Tryz.ntmps72
  go_wp2_with fail
  refine (H0.out _ HB.out).mono ?_
  rintro e w1 ⟨rfl, hb⟩
  have HB1 := hid (bl HB.out hb)
  clear hb
  go_wp2_with fail
  go_ret2
  exact ⟨rfl, HB1.out⟩

/-- what counts as used of a value at a time -/
def Us (C : HC) (K : List KW) (Z : SK) (t : Nat) (s : ByteArray) (u : Nat) : Prop :=
  (∃ x ∈ K, x.k = s ∧ (u : Int) = (passW C.q x.s t).pass) ∨ ((∀ x ∈ K, x.k ≠ s) ∧ u = SkL.estN C.q (hX C) Z.ns t s)

theorem pass_in {q : Nat} {s : Wn} {t t0 : Nat} (h : WinN.Tidy q s t0) : 0 ≤ (passW q s t).pass ∧ (passW q s t).pass ≤ 4611686018427387904 := by
  have : ∀ (l : List WinC.Bkt) (c : WinM.Cnt), (∀ x ∈ l, x.c.Fine) → c.Fine → (l.foldl (fun s b => WinM.joinM s b.c) c).Fine := by
    intro l
    induction l with
    | nil => intro c _ h; exact h
    | cons x l ih => intro c h1 h2; exact ih _ (fun y hy => h1 y (List.mem_cons_of_mem _ hy)) (WinM.joinM_fine h2 (h1 x List.mem_cons_self))
  exact (this _ _ (fun x hx => h.fine x (List.mem_filter.1 hx).1) WinH.zero_fine).1

end Go.Proofs.YtbihelpnojjacaaGreat.HotB

/- What a hot parameter's rule refuses, what counts as used, and its looks. -/
namespace Go.Proofs.YtbihelpnojjacaaGreat.HotC
open Go.ChangeShapes Go.WideShapes Go.ChangeAt Go.RowKit Base Wri Map LruA LruB LruC LruD LruE LruF HotA HotB RulA
open Go.Maps (Keyed string_keyed)
set_option linter.unusedVariables false
variable {w w' : World} {own : Nat → Tg} {C : HC} {last : Nat} {L L' : List Ent} {K K' : List KW} {Z Z' : SK}

def noC (n : Int) : Bool := decide (n < 1) || decide (1099511627776 < n)

set_option maxHeartbeats 400000 in
theorem noCount_any (n : Int) (w : World) : Calls Tryz.prog 71 #[.int .i64 n] w fun e w' => e = .returned (.bool (noC n)) ∧ w = w' := by
  unfold noC
  by_cases h1 : n < 1
  · have e : (decide (n < 1) || decide (1099511627776 < n)) = true := by simp [h1]
    rw [e]; clear e
    go_enter Tryz.func71, Tryz.ntmps71
    go_wp2_with fail
    go_ret
    exact ⟨rfl, rfl⟩
  · by_cases h2 : 1099511627776 < n
    · have e : (decide (n < 1) || decide (1099511627776 < n)) = true := by simp [h2]
      rw [e]; clear e
      have h1' : decide (n < 1) = false := by simpa using h1
      clear h1
      go_enter Tryz.func71, Tryz.ntmps71
      go_wp2_with fail
      go_ret
      exact ⟨rfl, rfl⟩
    · have e : (decide (n < 1) || decide (1099511627776 < n)) = false := by simp [h1, h2]
      rw [e]; clear e
      have h1' : decide (n < 1) = false := by simpa using h1
      have h2' : decide (1099511627776 < n) = false := by simpa using h2
      clear h1 h2
      go_enter Tryz.func71, Tryz.ntmps71
      go_wp2_with fail
      go_ret
      exact ⟨rfl, rfl⟩

set_option maxHeartbeats 400000 in
theorem indexNil (f : Value) (w : World) : Calls Tryz.prog 108 #[.slice none 0 0, f] w fun e w' => e = .returned (.int .i64 (-1)) ∧ w = w' := by
  go_enter Tryz.func108, Tryz.ntmps108
  go_wp2_with fail
  go_loop [8] (fun i => i = .int .i64 0) (fun i => 0)
  case atStart => rfl
  case round =>
    obtain rfl := hrel
    go_wp2_with fail
    go_ret
    exact ⟨rfl, rfl⟩

set_option maxHeartbeats 1000000 in
theorem indexOne (g o cap : Nat) (n : Int) (w : World) (hg : g < w.heap.size) (hc : w.cell? ⟨g, o, none⟩ = some (.int .i64 n)) :
    Calls Tryz.prog 108 #[.slice (some ⟨g, o, none⟩) 1 cap, .func (Fn.func 71) #[] #[]] w fun e w' => e = .returned (.int .i64 (if noC n then 0 else -1)) ∧ w = w' := by
  obtain ⟨b, hb⟩ : ∃ b, noC n = b := ⟨_, rfl⟩
  have HN := hid (noCount_any n w)
  rw [hb] at HN ⊢
  clear hb
  go_enter Tryz.func108, Tryz.ntmps108
  go_wp2_with fail
  go_loop [8] (fun i => i = .int .i64 0 ∨ (i = .int .i64 1 ∧ b = false)) (fun i => 1 - (intOf i).toNat)
  case atStart => exact .inl rfl
  case round =>
    rcases hrel with rfl | ⟨rfl, rfl⟩
    · cases b with
      | true =>
        go_wp2_with fail
        refine HN.out.mono ?_
        rintro e w1 ⟨rfl, rfl⟩
        go_wp2_with fail
        go_ret
        exact ⟨rfl, rfl⟩
      | false =>
        go_wp2_with fail
        refine HN.out.mono ?_
        rintro e w1 ⟨rfl, rfl⟩
        go_wp2_with fail
        go_round
        case rel => simp
        case measure => simp [intOf]
    · go_wp2_with fail
      go_ret
      exact ⟨rfl, rfl⟩

set_option maxHeartbeats 400000 in
theorem contains_core (v : Value) (b : Bool) (w : World) (H : Hid (Calls Tryz.prog 108 #[v, .func (Fn.func 71) #[] #[]] w fun e w' => e = .returned (.int .i64 (if b then 0 else -1)) ∧ w = w')) :
    Calls Tryz.prog 70 #[v, .func (Fn.func 71) #[] #[]] w fun e w' => e = .returned (.bool b) ∧ w = w' := by
  cases b <;> (
    go_enter Tryz.func70, Tryz.ntmps70
    go_wp2_with fail
    refine H.out.mono ?_
    rintro e w1 ⟨rfl, rfl⟩
    go_wp2_with fail
    go_ret
    exact ⟨rfl, rfl⟩)

/-- a call's error -/
def hotE (last : Nat) (t : Int) (bad : Bool) (z : Nat) : Int := if t < 0 ∨ 1152921504606846976 < t ∨ bad = true then 2 else if 64 < z then 5 else if t < last then 7 else 0

set_option maxRecDepth 20000 in
set_option maxHeartbeats 1000000 in
theorem refuses_core (h : Nat) (last : Nat) (t : Int) (s : ByteArray) (v : Value) (bad : Bool) (w : World) (hs : s.size ≤ maxLen) (hc : w.cell? ⟨h, 6, none⟩ = some (.int .i64 last)) (r : Int) (R : Hid (hotE last t bad s.size = r))
    (H : Hid (Calls Tryz.prog 70 #[v, .func (Fn.func 71) #[] #[]] w fun e w' => e = .returned (.bool bad) ∧ w = w')) :
    Calls Tryz.prog 43 #[.pointer (some ⟨h, 0, none⟩), .int .i64 t, .string s, v] w fun e w' => e = .returned (.int .i64 r) ∧ w = w' := by
  unfold hotE at R
  unfold maxLen at hs
  by_cases h1 : t < 0
  · rw [if_pos (.inl h1)] at R
    go_enter Tryz.func43, Tryz.ntmps43
    go_wp2_with fail
    go_ret
    exact ⟨ret_int R.out, rfl⟩
  · by_cases h2 : 1152921504606846976 < t
    · rw [if_pos (.inr (.inl h2))] at R
      have h1' : decide (t < 0) = false := by simpa using h1
      clear h1
      go_enter Tryz.func43, Tryz.ntmps43
      go_wp2_with fail
      go_ret
      exact ⟨ret_int R.out, rfl⟩
    · have h1' : decide (t < 0) = false := by simpa using h1
      have h2' : decide (1152921504606846976 < t) = false := by simpa using h2
      cases bad with
      | true =>
        rw [if_pos (.inr (.inr rfl))] at R
        clear h1 h2
        go_enter Tryz.func43, Tryz.ntmps43
        go_wp2_with fail
        refine H.out.mono ?_
        rintro e w1 ⟨rfl, rfl⟩
        go_wp2_with fail
        go_ret
        exact ⟨ret_int R.out, rfl⟩
      | false =>
        rw [if_neg (by simp; omega)] at R
        by_cases h3 : 64 < s.size
        · rw [if_pos h3] at R
          clear h1 h2
          go_enter Tryz.func43, Tryz.ntmps43
          go_wp2_with fail
          refine H.out.mono ?_
          rintro e w1 ⟨rfl, rfl⟩
          go_wp2_with fail
          go_ret
          exact ⟨ret_int R.out, rfl⟩
        · rw [if_neg h3] at R
          have h3' : ¬ (64 < (s.size : Int)) := by omega
          by_cases h4 : t < last
          · rw [if_pos h4] at R
            clear h1 h2 h3
            go_enter Tryz.func43, Tryz.ntmps43
            go_wp2_with fail
            refine H.out.mono ?_
            rintro e w1 ⟨rfl, rfl⟩
            go_wp2_with fail
            go_ret
            exact ⟨ret_int R.out, rfl⟩
          · rw [if_neg h4] at R
            have h4' : decide (t < (last : Int)) = false := by simpa using h4
            clear h1 h2 h3 h4
            go_enter Tryz.func43, Tryz.ntmps43
            go_wp2_with fail
            refine H.out.mono ?_
            rintro e w1 ⟨rfl, rfl⟩
            go_wp2_with fail
            go_ret
            exact ⟨ret_int R.out, rfl⟩

theorem hot_ok {last : Nat} {t : Int} {bad : Bool} {z : Nat} (h : hotE last t bad z = 0) : ∃ n : Nat, t = n ∧ n ≤ 1152921504606846976 ∧ last ≤ n ∧ z ≤ 64 ∧ bad = false := by
  unfold hotE at h
  split at h
  · cases h
  · split at h
    · cases h
    · split at h
      · cases h
      · next h1 h2 h3 =>
        cases bad
        · exact ⟨t.toNat, by omega, by omega, by omega, by omega, rfl⟩
        · simp at h1

theorem HMem.cells (h : HMem w own C last L K Z) : w.cell? ⟨C.h, 0, none⟩ = some (.int .i64 C.cnt) ∧ w.cell? ⟨C.h, 1, none⟩ = some (.int .i64 ((10 * C.q : Nat) : Int)) ∧ w.cell? ⟨C.h, 2, none⟩ = some (.map (some C.itb)) ∧ w.cell? ⟨C.h, 3, none⟩ = some (.pointer (some ⟨C.S.mb, 0, none⟩)) ∧
    w.cell? ⟨C.h, 4, none⟩ = some (.map (some C.wb)) ∧ w.cell? ⟨C.h, 5, none⟩ = some (.pointer (some ⟨C.sp, 0, none⟩)) ∧ w.cell? ⟨C.h, 6, none⟩ = some (.int .i64 last) := by
  have h1 := h.head
  unfold ptr at h1
  exact ⟨by simp [World.cell?, h1], by simp [World.cell?, h1], by simp [World.cell?, h1], by simp [World.cell?, h1], by simp [World.cell?, h1], by simp [World.cell?, h1], by simp [World.cell?, h1]⟩

theorem HMem.refuses_nil (h : HMem w own C last L K Z) (t : Int) (s : ByteArray) (hs : s.size ≤ maxLen) :
    Calls Tryz.prog 43 #[.pointer (some ⟨C.h, 0, none⟩), .int .i64 t, .string s, .slice none 0 0] w fun e w' => e = .returned (.int .i64 (hotE last t false s.size)) ∧ w = w' :=
  refuses_core C.h last t s _ false w hs (HMem.cells h).2.2.2.2.2.2 _ (hid rfl) (hid (contains_core _ false w (hid (by simpa using indexNil _ w))))
theorem HMem.refuses_one (h : HMem w own C last L K Z) (t : Int) (s : ByteArray) (hs : s.size ≤ maxLen) (g o cap : Nat) (n : Int) (hg : g < w.heap.size) (hc : w.cell? ⟨g, o, none⟩ = some (.int .i64 n)) :
    Calls Tryz.prog 43 #[.pointer (some ⟨C.h, 0, none⟩), .int .i64 t, .string s, .slice (some ⟨g, o, none⟩) 1 cap] w fun e w' => e = .returned (.int .i64 (hotE last t (noC n) s.size)) ∧ w = w' :=
  refuses_core C.h last t s _ (noC n) w hs (HMem.cells h).2.2.2.2.2.2 _ (hid rfl) (hid (contains_core _ (noC n) w (hid (indexOne g o cap n w hg hc))))

set_option maxHeartbeats 1000000 in
theorem used_core (h a b p : Nat) (t : Int) (s : ByteArray) (c : Int) (is : Bool) (e0 u : Int) (hu : (is = true ∧ u = c) ∨ (is = false ∧ u = e0)) (w : World)
    (c3 : w.cell? ⟨h, 3, none⟩ = some (.pointer (some ⟨a, 0, none⟩))) (c4 : w.cell? ⟨h, 4, none⟩ = some (.map (some b))) (c5 : w.cell? ⟨h, 5, none⟩ = some (.pointer (some ⟨p, 0, none⟩)))
    (H0 : Hid (Calls Tryz.prog 72 #[.agg #[.pointer (some ⟨a, 0, none⟩), .map (some b)], .int .i64 t, .string s] w fun e w' => e = .returned (.tuple #[.int .i64 c, .bool is]) ∧ Below w.heap.size w w'))
    (H1 : Hid (is = false → ∀ wx, Below w.heap.size w wx → Calls Tryz.prog 73 #[.pointer (some ⟨p, 0, none⟩), .int .i64 t, .string s] wx fun e w' => e = .returned (.tuple #[.int .i64 e0, .int .i64 0]) ∧ Below wx.heap.size wx w')) :
    Calls Tryz.prog 44 #[.pointer (some ⟨h, 0, none⟩), .int .i64 t, .string s] w fun e w' => e = .returned (.int .i64 u) ∧ Below w.heap.size w w' := by
  go_enter Tryz.func44, Tryz.ntmps44
  go_wp2_with fail
  refine H0.out.mono ?_
  rintro e w1 ⟨rfl, hb⟩
  have HB := hid hb
  have d5 : w1.cell? ⟨h, 5, none⟩ = some (.pointer (some ⟨p, 0, none⟩)) := (hb.cell (p := ⟨h, 5, none⟩) (World.block_lt_of_cell? _ _ c5)).trans c5
  clear hb c3 c4 c5
  rcases hu with ⟨rfl, rfl⟩ | ⟨rfl, rfl⟩
  · go_wp2_with fail
    go_ret
    exact ⟨rfl, HB.out⟩
  · have H2 := hid (H1.out rfl w1 HB.out)
    go_wp2_with fail
    refine H2.out.mono ?_
    rintro e w2 ⟨rfl, hb⟩
    have HB2 := hid (bl HB.out hb)
    clear hb
    go_wp2_with fail
    go_ret
    exact ⟨rfl, HB2.out⟩

theorem us_some (h : HMem w own C last L K Z) (t : Nat) (s : ByteArray) : ∃ u : Nat, Us C K Z t s u ∧ u ≤ 4611686018427387904 := by
  by_cases hx : ∃ x ∈ K, x.k = s
  · obtain ⟨x, hx, hk⟩ := hx
    have := pass_in (t := t) (h.wok x hx).2.2.2.1
    exact ⟨(passW C.q x.s t).pass.toNat, .inl ⟨x, hx, hk, by omega⟩, by omega⟩
  · exact ⟨_, .inr ⟨fun x hx' e => hx ⟨x, hx', e⟩, rfl⟩, SkA.least_top _ _⟩
theorem kw_only (h : HMem w own C last L K Z) {x y : KW} (hx : x ∈ K) (hy : y ∈ K) (e : x.k = y.k) : x = y := by
  have := h.kn
  obtain ⟨i, hi, rfl⟩ := List.getElem_of_mem hx
  obtain ⟨j, hj, rfl⟩ := List.getElem_of_mem hy
  by_cases hij : i = j
  · subst hij; rfl
  · unfold List.Nodup at this
    rw [List.pairwise_iff_getElem] at this
    rcases Nat.lt_or_gt_of_ne hij with h4 | h4
    · exact absurd (by rw [List.getElem_map, List.getElem_map]; exact e) (this i j (by simpa using hi) (by simpa using hj) h4)
    · exact absurd (by rw [List.getElem_map, List.getElem_map]; exact e.symm) (this j i (by simpa using hj) (by simpa using hi) h4)
theorem us_only (h : HMem w own C last L K Z) {t : Nat} {s : ByteArray} {u v : Nat} (hu : Us C K Z t s u) (hv : Us C K Z t s v) : u = v := by
  rcases hu with ⟨x, hx, hk, e⟩ | ⟨hn, e⟩ <;> rcases hv with ⟨y, hy, hk2, e2⟩ | ⟨hn2, e2⟩
  · obtain rfl := kw_only h hx hy (hk.trans hk2.symm)
    omega
  · exact absurd hk (hn2 x hx)
  · exact absurd hk2 (hn y hy)
  · omega

theorem HMem.used (h : HMem w own C last L K Z) {t : Nat} (ht : last ≤ t) (ht2 : t ≤ 1152921504606846976) (s : ByteArray) (hs : s.size ≤ maxLen) {u : Nat} (hu : Us C K Z t s u) :
    Calls Tryz.prog 44 #[.pointer (some ⟨C.h, 0, none⟩), .int .i64 t, .string s] w fun e w' => e = .returned (.int .i64 u) ∧ Below w.heap.size w w' := by
  obtain ⟨-, -, -, c3, c4, c5, -⟩ := HMem.cells h
  rcases hu with ⟨x, hx, rfl, e⟩ | ⟨hn, rfl⟩
  · refine used_core C.h C.S.mb C.wb C.sp t x.k (passW C.q x.s t).pass true 0 u (.inl ⟨rfl, e⟩) w c3 c4 c5 (hid (passed_core _ _ x.p t x.k _ w (hid fun wx hb => HMem.has_yes (h.below hb) hx hs) (hid fun wx hb => HMem.lookW_yes (h.below hb) hx hs) (hid fun wx hb => KW.sum ((h.below hb).wok x hx) h.q0 h.q1 ht ht2))) (hid fun e => by cases e)
  · exact used_core C.h C.S.mb C.wb C.sp t s 0 false (SkL.estN C.q (hX C) Z.ns t s : Nat) _ (.inr ⟨rfl, rfl⟩) w c3 c4 c5 (hid (passed_none _ _ t s w (hid fun wx hb => HMem.has_no (h.below hb) s hs hn))) (hid fun _ wx hb => SkM.Estimate_yes (h.below hb).sk (Nat.le_trans h.skt ht) ht2 s hs)

set_option maxHeartbeats 1000000 in
theorem Used_core (h : Nat) (t : Int) (s : ByteArray) (r u : Int) (x : Int) (hx : (r = 0 ∧ x = u) ∨ (r ≠ 0 ∧ x = 0)) (w : World)
    (H0 : Hid (Calls Tryz.prog 43 #[.pointer (some ⟨h, 0, none⟩), .int .i64 t, .string s, .slice none 0 0] w fun e w' => e = .returned (.int .i64 r) ∧ w = w'))
    (H1 : Hid (r = 0 → Calls Tryz.prog 44 #[.pointer (some ⟨h, 0, none⟩), .int .i64 t, .string s] w fun e w' => e = .returned (.int .i64 u) ∧ Below w.heap.size w w')) :
    Calls Tryz.prog 21 #[.pointer (some ⟨h, 0, none⟩), .int .i64 t, .string s] w fun e w' => e = .returned (.tuple #[.int .i64 x, .int .i64 r]) ∧ Below w.heap.size w w' := by
  go_enter Tryz.func21, Tryz.ntmps21
  go_wp2_with fail
  refine H0.out.mono ?_
  rintro e w1 ⟨rfl, rfl⟩
  rcases hx with ⟨rfl, rfl⟩ | ⟨hr, rfl⟩
  · have H2 := hid (H1.out rfl)
    go_wp2_with fail
    refine H2.out.mono ?_
    rintro e w2 ⟨rfl, hb⟩
    have HB := hid hb
    clear hb
    go_wp2_with fail
    go_ret2
    exact ⟨rfl, HB.out⟩
  · have hr1 : (r != 0) = true := by simpa using hr
    clear hr
    go_wp2_with fail
    go_ret2
    exact ⟨rfl, Below.refl _ _⟩

set_option maxHeartbeats 2000000 in
theorem Look_core (h b : Nat) (t : Int) (s : ByteArray) (n cnt wd : Int) (r u l : Int) (x : Bool) (hx : (r = 0 ∧ x = decide (u + n ≤ l) ∧ IntKind.i64.wrap (u + n) = u + n) ∨ (r ≠ 0 ∧ x = false)) (w : World) (hh : h < w.heap.size)
    (c0 : w.cell? ⟨h, 0, none⟩ = some (.int .i64 cnt)) (c1 : w.cell? ⟨h, 1, none⟩ = some (.int .i64 wd)) (c2 : w.cell? ⟨h, 2, none⟩ = some (.map (some b)))
    (H0 : Hid (∀ wx g, Below w.heap.size w wx → g < wx.heap.size → wx.cell? ⟨g, 0, none⟩ = some (.int .i64 n) → Calls Tryz.prog 43 #[.pointer (some ⟨h, 0, none⟩), .int .i64 t, .string s, .slice (some ⟨g, 0, none⟩) 1 1] wx fun e w' => e = .returned (.int .i64 r) ∧ wx = w'))
    (H1 : Hid (r = 0 → ∀ wx, Below w.heap.size w wx → Calls Tryz.prog 44 #[.pointer (some ⟨h, 0, none⟩), .int .i64 t, .string s] wx fun e w' => e = .returned (.int .i64 u) ∧ Below wx.heap.size wx w'))
    (H2 : Hid (r = 0 → ∀ wx, Below w.heap.size w wx → Calls Tryz.prog 41 #[.agg #[.int .i64 cnt, .int .i64 wd, .map (some b)], .string s] wx fun e w' => e = .returned (.int .i64 l) ∧ Below wx.heap.size wx w')) :
    Calls Tryz.prog 22 #[.pointer (some ⟨h, 0, none⟩), .int .i64 t, .string s, .int .i64 n] w fun e w' => e = .returned (.tuple #[.bool x, .int .i64 r]) ∧ Below w.heap.size w w' := by
  obtain ⟨W, hW⟩ : ∃ W, w.alloc (.cells #[.int .i64 n] 3) = W := ⟨_, rfl⟩
  have hb0 : Below w.heap.size w W := by rw [← hW]; exact (Below.refl _ w).alloc (Nat.le_refl _) _
  have HB0 := hid hb0
  have HR := hid (H0.out W w.heap.size hb0 (by rw [← hW]; simp) (by rw [← hW]; simp [World.cell?_alloc_new]))
  have d0 : W.cell? ⟨h, 0, none⟩ = some (.int .i64 cnt) := (hb0.cell (p := ⟨h, 0, none⟩) hh).trans c0
  have d1 : W.cell? ⟨h, 1, none⟩ = some (.int .i64 wd) := (hb0.cell (p := ⟨h, 1, none⟩) hh).trans c1
  have d2 : W.cell? ⟨h, 2, none⟩ = some (.map (some b)) := (hb0.cell (p := ⟨h, 2, none⟩) hh).trans c2
  have hhW : h < W.heap.size := Nat.lt_of_lt_of_le hh hb0.size
  clear hb0 c0 c1 c2
  go_enter Tryz.func22, Tryz.ntmps22
  go_wp2_with fail
  try rw [hW]
  refine HR.out.mono ?_
  rintro e w1 ⟨rfl, rfl⟩
  clear hW HR
  rcases hx with ⟨rfl, rfl, hw⟩ | ⟨hr, rfl⟩
  · have HU := hid (H1.out rfl)
    have HL := hid (H2.out rfl)
    clear H1 H2 H0
    go_upto_region 4 with fail
    go_region_held3 (fun w' => w'.cell? ⟨h, 0, none⟩ = some (.int .i64 cnt) ∧ w'.cell? ⟨h, 1, none⟩ = some (.int .i64 wd) ∧ w'.cell? ⟨h, 2, none⟩ = some (.map (some b))) (go_keep)
      (first
        | (go_at_call 44; (with_reducible refine (HU.out _ (by first | exact HB0.out | exact HB0.out.drew)).mono ?_); rintro e w4 ⟨rfl, hb4⟩
           have d0 : w4.cell? ⟨h, 0, none⟩ = some (.int .i64 cnt) := (hb4.cell (p := ⟨h, 0, none⟩) (World.block_lt_of_cell? _ _ d0)).trans (by first | exact d0 | assumption)
           have d1 : w4.cell? ⟨h, 1, none⟩ = some (.int .i64 wd) := (hb4.cell (p := ⟨h, 1, none⟩) (World.block_lt_of_cell? _ _ d1)).trans (by first | exact d1 | assumption)
           have d2 : w4.cell? ⟨h, 2, none⟩ = some (.map (some b)) := (hb4.cell (p := ⟨h, 2, none⟩) (World.block_lt_of_cell? _ _ d2)).trans (by first | exact d2 | assumption)
           have HB0 := hid (bl (by first | exact HB0.out | exact HB0.out.drew) hb4))
        | (go_at_call 41; (with_reducible refine (HL.out _ (by first | exact HB0.out | exact HB0.out.drew)).mono ?_); rintro e w4 ⟨rfl, hb4⟩
           have d0 : w4.cell? ⟨h, 0, none⟩ = some (.int .i64 cnt) := (hb4.cell (p := ⟨h, 0, none⟩) (World.block_lt_of_cell? _ _ d0)).trans (by first | exact d0 | assumption)
           have d1 : w4.cell? ⟨h, 1, none⟩ = some (.int .i64 wd) := (hb4.cell (p := ⟨h, 1, none⟩) (World.block_lt_of_cell? _ _ d1)).trans (by first | exact d1 | assumption)
           have d2 : w4.cell? ⟨h, 2, none⟩ = some (.map (some b)) := (hb4.cell (p := ⟨h, 2, none⟩) (World.block_lt_of_cell? _ _ d2)).trans (by first | exact d2 | assumption)
           have HB0 := hid (bl (by first | exact HB0.out | exact HB0.out.drew) hb4)))
    all_goals
      go_wp2_with fail
      go_ret2
      refine ⟨?_, HB0.out⟩
      first | rfl | (show Ending.returned (.tuple #[.bool (decide (IntKind.i64.wrap (u + n) ≤ l)), .int .i64 0]) = _; rw [hw])
  · have hr1 : (r != 0) = true := by simpa using hr
    clear hr
    go_wp2_with fail
    go_ret2
    exact ⟨rfl, HB0.out⟩

theorem HMem.Used (h : HMem w own C last L K Z) (t : Int) (s : ByteArray) (hs : s.size ≤ maxLen) (u : Nat) (hu : hotE last t false s.size = 0 → Us C K Z t.toNat s u) :
    Calls Tryz.prog 21 #[.pointer (some ⟨C.h, 0, none⟩), .int .i64 t, .string s] w fun e w' => e = .returned (.tuple #[.int .i64 (if hotE last t false s.size = 0 then u else 0), .int .i64 (hotE last t false s.size)]) ∧ Below w.heap.size w w' := by
  refine Used_core C.h t s (hotE last t false s.size) u _ ?_ w (hid (HMem.refuses_nil h t s hs)) (hid fun e => ?_)
  · by_cases e : hotE last t false s.size = 0
    · rw [if_pos e]; exact .inl ⟨e, rfl⟩
    · rw [if_neg e]; exact .inr ⟨e, rfl⟩
  · obtain ⟨n, rfl, h1, h2, -, -⟩ := hot_ok e
    exact HMem.used h h2 h1 s hs (hu e)

theorem HMem.Look (h : HMem w own C last L K Z) (t : Int) (s : ByteArray) (hs : s.size ≤ maxLen) (n : Int) (u : Nat) (hu : hotE last t (noC n) s.size = 0 → Us C K Z t.toNat s u ∧ u ≤ 4611686018427387904) :
    Calls Tryz.prog 22 #[.pointer (some ⟨C.h, 0, none⟩), .int .i64 t, .string s, .int .i64 n] w fun e w' => e = .returned (.tuple #[.bool (decide (hotE last t (noC n) s.size = 0) && decide ((u : Int) + n ≤ limN C s)), .int .i64 (hotE last t (noC n) s.size)]) ∧ Below w.heap.size w w' := by
  obtain ⟨c0, c1, c2, -⟩ := HMem.cells h
  refine Look_core C.h C.itb t s n C.cnt ((10 * C.q : Nat) : Int) (hotE last t (noC n) s.size) u (limN C s) _ ?_ w h.hlt c0 c1 c2 (hid fun wx g hb hg hc => HMem.refuses_one (h.below hb) t s hs g 0 1 n hg hc) (hid fun e wx hb => ?_) (hid fun e wx hb => HMem.limit (h.below hb) s hs _)
  · by_cases e : hotE last t (noC n) s.size = 0
    · obtain ⟨m, -, -, -, -, hbad⟩ := hot_ok e
      obtain ⟨-, h2⟩ := hu e
      have : 1 ≤ n ∧ n ≤ 1099511627776 := by
        unfold noC at hbad
        simp at hbad
        omega
      refine .inl ⟨e, by rw [e]; simp, ?_⟩
      rw [IntKind.wrap_i64]
      omega
    · exact .inr ⟨e, by simp [e]⟩
  · obtain ⟨m, rfl, h1, h2, -, -⟩ := hot_ok e
    exact HMem.used (h.below hb) h2 h1 s hs (hu e).1

end Go.Proofs.YtbihelpnojjacaaGreat.HotC

/- A hot parameter's rule at work: the window of a value that is not kept yet; steps. -/
namespace Go.Proofs.YtbihelpnojjacaaGreat.HotD
open Go.ChangeShapes Go.WideShapes Go.ChangeAt Go.RowKit Base Wri Map LruA LruB LruC LruD LruE LruF HotA HotB HotC
open Go.Maps (Keyed string_keyed)
set_option linter.unusedVariables false
variable {w w' : World} {own : Nat → Tg} {C : HC} {last : Nat} {L L' : List Ent} {K K' : List KW} {Z Z' : SK}

theorem cell_of {w : World} {b : Nat} {cs : Array Value} {ty : TypeId} (h : w.heap[b]? = some (.cells cs ty)) (i : Nat) (v : Value) (hv : cs[i]? = some v) : w.cell? ⟨b, i, none⟩ = some v := by simp [World.cell?, h, hv]

/-- what a call of it may do: old blocks that are nobody's stay, and whose an old block is, stays -/
structure Step (w : World) (own : Nat → Tg) (w' : World) (own' : Nat → Tg) : Prop where
  wr : Wr (fun k => own k ≠ .non) w w'
  tag : ∀ k, k < w.heap.size → own' k = own k
theorem Step.refl (w : World) (own : Nat → Tg) : Step w own w own := ⟨Wr.refl _ _, fun _ _ => rfl⟩
theorem Step.trans {w w1 w2 : World} {own own1 own2 : Nat → Tg} (h : Step w own w1 own1) (h2 : Step w1 own1 w2 own2) : Step w own w2 own2 :=
  ⟨h.wr.on h2.wr fun k hk => by
    by_cases hl : k < w.heap.size
    · exact .inl (by rw [← h.tag k hl]; exact hk)
    · exact .inr (by omega), fun k hk => (h2.tag k (Nat.lt_of_lt_of_le hk h.wr.size)).trans (h.tag k hk)⟩
theorem Step.ofBelow (hb : Below w.heap.size w w') (own : Nat → Tg) : Step w own w' own := ⟨Wr.ofBelow hb, fun _ _ => rfl⟩
theorem Step.ext {T : Tg} (hT : T ≠ .non) {R : Nat → Prop} (hw : Wr R w w') (hR : ∀ k, R k → own k = T) : Step w own w' (ext own w.heap.size T) :=
  ⟨hw.mono fun k hk => by rw [hR k hk]; exact hT, fun k hk => ext_lt hk⟩

/-- what is new is somebody's -/
theorem HMem.extend (h : HMem w own C last L K Z) (hb : Below w.heap.size w w') (T : Tg) : HMem w' (ext own w.heap.size T) C last L K Z := by
  have h2 := h.below hb
  obtain ⟨o1, o2, o3, o4, o5, o6⟩ := h.owns T
  exact { head := h2.head, items := h2.items, lru := h2.lru, wins := h2.wins, kn := h.kn, wok := h2.wok, sk := h2.sk, skt := h.skt, late := h.late, q0 := h.q0, q1 := h.q1, oh := o1, oi := o2, ol := o3, ow := o4, os := o5, ox := o6 }

theorem KW.Ok.keep {x : KW} (h : x.Ok C last w) {R : Nat → Prop} (hw : Wr R w w') (h1 : ¬ R x.p) (h2 : ∀ g, x.go = some g → ¬ R g) : x.Ok C last w' := ⟨h.1.keep (wr_lets hw) h1 h2, h.2⟩

/-- the window of a value that is not kept yet -/
def begunW (q t u : Nat) : Wn := WinH.addM q ⟨10 * q, 10, 0, []⟩ t ⟨u, 0, 0, 0, 0, 0⟩

theorem right_pass {u : Nat} (hu : u ≤ 4611686018427387904) : (⟨u, 0, 0, 0, 0, 0⟩ : WinM.Cnt).Right := by
  refine ⟨⟨⟨by simp, by show (u : Int) ≤ 4611686018427387904; omega⟩, ?_⟩, ?_, ?_, ?_⟩ <;> simp [WinM.InN]

theorem winNew_any (wd sz q : Nat) (w : World) (hz : 0 < sz) (hs : sz ≤ 60) (hq : 0 < q) (hw : wd ≤ 1099511627776) (hd : wd = sz * q) :
    Calls Tryz.prog 96 #[.int .i64 wd, .int .i64 sz] w fun e w' => e = .returned (.tuple #[.pointer (some ⟨w.heap.size, 0, none⟩), .int .i64 0]) ∧ w.alloc (.cells #[.int .i64 wd, .int .i64 sz, .int .i64 0, .slice none 0 0] 179) = w' := by
  have h1 : 1 ≤ wd := by rw [hd]; exact Nat.mul_pos hz hq
  have h2 : (wd : Int) % (sz : Int) = 0 := by rw [hd]; simp
  have n1 : ((sz : Int) == 0) = false := by simp; omega
  clear hd
  go_enter Tryz.func96, Tryz.ntmps96
  go_wp2
  go_ret2
  exact ⟨rfl, rfl⟩

set_option maxHeartbeats 1000000 in
theorem begun_core (h q t u : Nat) (s : ByteArray) (w : World) (c1 : w.cell? ⟨h, 1, none⟩ = some (.int .i64 ((10 * q : Nat) : Int))) (hq : 0 < q) (hq1 : q ≤ 6000000) (ht : t ≤ 1152921504606846976) (hu : u ≤ 4611686018427387904)
    (HU : Hid (∀ wx, Below w.heap.size w wx → Calls Tryz.prog 44 #[.pointer (some ⟨h, 0, none⟩), .int .i64 t, .string s] wx fun e w' => e = .returned (.int .i64 u) ∧ Below wx.heap.size wx w')) :
    Calls Tryz.prog 67 #[.pointer (some ⟨h, 0, none⟩), .int .i64 t, .string s] w fun e w' => ∃ p go, e = .returned (.pointer (some ⟨p, 0, none⟩)) ∧ w.heap.size ≤ p ∧ (∀ g, go = some g → w.heap.size ≤ g) ∧ WinE.IsWin w' p go (begunW q t u) ∧ Below w.heap.size w w' := by
  go_enter Tryz.func67, Tryz.ntmps67
  go_wp2_with fail
  refine (winNew_any (10 * q) 10 q w (by decide) (by decide) hq (by omega) rfl).mono ?_
  rintro e w1 ⟨rfl, hw1⟩
  have hb1 : Below w.heap.size w w1 := by rw [← hw1]; exact (Below.refl _ _).alloc (Nat.le_refl _) _
  have hp1 : w1.heap[w.heap.size]? = some (.cells #[.int .i64 ((10 * q : Nat) : Int), .int .i64 ((10 : Nat) : Int), .int .i64 0, .slice none 0 0] 179) := by rw [← hw1]; exact heap_alloc_new _ _
  have hs1 : w1.heap.size = w.heap.size + 1 := by rw [← hw1]; simp
  clear hw1
  have HU1 := hid (HU.out w1 hb1)
  have H1 := hid (And.intro hb1 (And.intro hp1 hs1))
  clear hb1 hp1 hs1 HU
  go_wp2_with fail
  refine HU1.out.mono ?_
  rintro e w2 ⟨rfl, hb2⟩
  obtain ⟨hb1, hp1, hs1⟩ := H1.out
  have hsz2 : w.heap.size < w2.heap.size := by have := hb2.size; omega
  have hp2 := (hb2.block _ (by omega)).trans hp1
  have H2 := hid (And.intro (bl hb1 hb2) (And.intro hp2 hsz2))
  clear H1 HU1 hb1 hp1 hs1 hb2 hp2 hsz2
  go_wp2_with fail
  have hbz : Below w2.heap.size w2 (w2.alloc (.cells #[.int .i64 u, .int .i64 0, .int .i64 0, .int .i64 0, .int .i64 0, .int .i64 0] 98)) := (Below.refl _ _).alloc (Nat.le_refl _) _
  have hW : WinE.IsWin (w2.alloc (.cells #[.int .i64 u, .int .i64 0, .int .i64 0, .int .i64 0, .int .i64 0, .int .i64 0] 98)) w.heap.size none ⟨10 * q, 10, 0, []⟩ := ⟨by simp, _, (hbz.block _ H2.out.2.2).trans H2.out.2.1, .inl ⟨rfl, rfl, rfl⟩⟩
  have h6 : WinB.At6 (w2.alloc (.cells #[.int .i64 u, .int .i64 0, .int .i64 0, .int .i64 0, .int .i64 0, .int .i64 0] 98)) w2.heap.size 0 ⟨u, 0, 0, 0, 0, 0⟩ := by
    have := heap_alloc_new w2 (.cells #[.int .i64 u, .int .i64 0, .int .i64 0, .int .i64 0, .int .i64 0, .int .i64 0] 98)
    exact ⟨cell_of this 0 _ rfl, cell_of this 1 _ rfl, cell_of this 2 _ rfl, cell_of this 3 _ rfl, cell_of this 4 _ rfl, cell_of this 5 _ rfl⟩
  have HA := hid (WinI.add_yes w.heap.size none ⟨10 * q, 10, 0, []⟩ q t ⟨u, 0, 0, 0, 0, 0⟩ w2.heap.size 0 1 _ hW (by show 10 * q / 10 = q; omega) hq (Nat.zero_lt_succ 9) (by show 10 * q ≤ _; omega) ht (by show (0 : Int) ≤ t; omega) (fun x hx => by cases hx) (by simp) (right_pass hu) h6 (by simp) (by have := H2.out.2.2; omega) (by simp))
  have HBz := hid (bl H2.out.1 hbz)
  clear hbz hW h6
  refine HA.out.mono ?_
  rintro e w3 ⟨go, rfl, hw3, hgo, hl3⟩
  have HE := hid (show ∃ p go, (Value.pointer (some ⟨w.heap.size, 0, none⟩)) = .pointer (some ⟨p, 0, none⟩) ∧ w.heap.size ≤ p ∧ (∀ g, go = some g → w.heap.size ≤ g) ∧ WinE.IsWin w3 p go (begunW q t u) ∧ Below w.heap.size w w3 from ⟨_, go, rfl, Nat.le_refl _, fun g hg => by
    rcases hgo with e | ⟨g', e, hg'⟩
    · rw [e] at hg; cases hg
    · rw [e] at hg; cases hg; exact Nat.le_trans HBz.out.size hg', hw3, HBz.out.trans (hl3.below _ HBz.out.size fun k hk => by rcases hk with rfl | hk; exact Nat.le_refl _; cases hk)⟩)
  clear hw3 hgo hl3 HA
  go_wp2_with fail
  go_ret
  obtain ⟨p, go, e, h⟩ := HE.out
  injection e with e
  injection e with e
  injection e with e
  exact ⟨w.heap.size, go, rfl, Nat.le_refl _, h.2.1, by rw [e]; exact h.2.2.1, h.2.2.2⟩

theorem HMem.begun (h : HMem w own C last L K Z) {t : Nat} (ht : last ≤ t) (ht2 : t ≤ 1152921504606846976) (s : ByteArray) (hs : s.size ≤ maxLen) {u : Nat} (hu : Us C K Z t s u) (hu2 : u ≤ 4611686018427387904) :
    Calls Tryz.prog 67 #[.pointer (some ⟨C.h, 0, none⟩), .int .i64 t, .string s] w fun e w' => ∃ p go, e = .returned (.pointer (some ⟨p, 0, none⟩)) ∧ w.heap.size ≤ p ∧ (∀ g, go = some g → w.heap.size ≤ g) ∧ WinE.IsWin w' p go (begunW C.q t u) ∧ Below w.heap.size w w' :=
  begun_core C.h C.q t u s w (HMem.cells h).2.1 h.q0 h.q1 ht2 hu2 (hid fun wx hb => HMem.used (h.below hb) ht ht2 s hs hu)

end Go.Proofs.YtbihelpnojjacaaGreat.HotD

/- A hot parameter's rule at work: keep. -/
namespace Go.Proofs.YtbihelpnojjacaaGreat.HotE
open Go.ChangeShapes Go.WideShapes Go.ChangeAt Go.RowKit Base Wri Map LruA LruB LruC LruD LruE LruF HotA HotB HotC HotD
open Go.Maps (Keyed string_keyed)
set_option linter.unusedVariables false
variable {w w' : World} {own : Nat → Tg} {C : HC} {last : Nat} {L L' : List Ent} {K K' : List KW} {Z Z' : SK}

/-- the map and the windows speak of the same values -/
def Same (L : List Ent) (K : List KW) : Prop := ∀ s, (∃ e ∈ L, e.k = s) ↔ ∃ x ∈ K, x.k = s

abbrev exBox (C : HC) : Obj := .cells #[.pointer (some ⟨C.S.mb, 0, none⟩), .map (some C.wb)] 62

set_option maxHeartbeats 1000000 in
theorem keep_core1 (mb wb p : Nat) (s : ByteArray) (w : World) (Q : World → Prop)
    (HP : Hid (Calls Tryz.prog 95 #[.pointer (some ⟨mb, 0, none⟩), .string s, .int .i64 0] (w.alloc (.cells #[.pointer (some ⟨mb, 0, none⟩), .map (some wb)] 62)) fun e w' => ∃ g, e = .returned (.tuple #[.string g, .bool true, .int .i64 0]) ∧ w'.cell? ⟨w.heap.size, 1, none⟩ = some (.map (some wb)) ∧
      ∃ w3, (Builtin.delete_ #[60, 9] 0 #[.map (some wb), .string g]).run Tryz.prog w' = .ok (.tuple #[]) w3 ∧ w3.cell? ⟨w.heap.size, 1, none⟩ = some (.map (some wb)) ∧
      ∃ w4, (Instr.mapUpdate 60 (.map (some wb)) (.string s) (.pointer (some ⟨p, 0, none⟩))).run Tryz.prog w3 = .ok () w4 ∧ Hid (Q w4))) :
    Calls Tryz.prog 66 #[.agg #[.pointer (some ⟨mb, 0, none⟩), .map (some wb)], .string s, .pointer (some ⟨p, 0, none⟩)] w fun e w' => e = .returned (.tuple #[]) ∧ Q w' := by
  go_enter Tryz.func66, Tryz.ntmps66
  go_wp2_with fail
  refine HP.out.mono ?_
  rintro e w2 ⟨g, rfl, c1, w3, h3, c3, w4, h4, hq⟩
  clear HP
  go_wp2_with fail
  go_end0
  exact ⟨rfl, hq.out⟩

set_option maxHeartbeats 1000000 in
theorem keep_core0 (mb wb p : Nat) (s : ByteArray) (w : World) (Q : World → Prop)
    (HP : Hid (Calls Tryz.prog 95 #[.pointer (some ⟨mb, 0, none⟩), .string s, .int .i64 0] (w.alloc (.cells #[.pointer (some ⟨mb, 0, none⟩), .map (some wb)] 62)) fun e w' => ∃ g, e = .returned (.tuple #[.string g, .bool false, .int .i64 0]) ∧ w'.cell? ⟨w.heap.size, 1, none⟩ = some (.map (some wb)) ∧
      ∃ w4, (Instr.mapUpdate 60 (.map (some wb)) (.string s) (.pointer (some ⟨p, 0, none⟩))).run Tryz.prog w' = .ok () w4 ∧ Hid (Q w4))) :
    Calls Tryz.prog 66 #[.agg #[.pointer (some ⟨mb, 0, none⟩), .map (some wb)], .string s, .pointer (some ⟨p, 0, none⟩)] w fun e w' => e = .returned (.tuple #[]) ∧ Q w' := by
  go_enter Tryz.func66, Tryz.ntmps66
  go_wp2_with fail
  refine HP.out.mono ?_
  rintro e w2 ⟨g, rfl, c1, w4, h4, hq⟩
  clear HP
  go_wp2_with fail
  go_end0
  exact ⟨rfl, hq.out⟩

/-- what keep leaves: a value more, and one less if there was no room -/
structure Kept (C : HC) (L : List Ent) (K : List KW) (x : KW) (L' : List Ent) (K' : List KW) : Prop where
  keys : L'.map Ent.k = (if L.length < C.S.most then L.map Ent.k else (L.map Ent.k).drop 1) ++ [x.k]
  mem : ∀ z, z ∈ K' ↔ z = x ∨ (z ∈ K ∧ ∃ e ∈ L', e.k = z.k)
  same : Same L' K'

theorem has_new {S : Spot} {L L' : List Ent} {e : Ent} (hL : ∀ x ∈ L', x ∈ L ∨ x = e) {n : Nat} (hn : n ≤ e.b) : ∀ k, Has S L' k → Has S L k ∨ n ≤ k := by
  rintro k (h | h | h | ⟨x, hx, h⟩)
  · exact .inl (.inl h)
  · exact .inl (.inr (.inl h))
  · exact .inl (.inr (.inr (.inl h)))
  · rcases hL x hx with hx | rfl
    · exact .inl (.inr (.inr (.inr ⟨x, hx, h⟩)))
    · exact .inr (by omega)

theorem HMem.keep (h : HMem w own C last L K Z) (hsame : Same L K) (x : KW) (hs : x.k.size ≤ maxLen) (hno : ∀ y ∈ K, y.k ≠ x.k) (hx : x.Ok C last w) (hx1 : own x.p = .win x.k) (hx2 : ∀ g, x.go = some g → own g = .win x.k) :
    Calls Tryz.prog 66 #[exV C, .string x.k, .pointer (some ⟨x.p, 0, none⟩)] w fun e w' => e = .returned (.tuple #[]) ∧ ∃ own' L' K', HMem w' own' C last L' K' Z ∧ Kept C L K x L' K' ∧ Step w own w' own' := by
  have hb : Below w.heap.size w (w.alloc (exBox C)) := (Below.refl _ _).alloc (Nat.le_refl _) _
  have h1 := h.below hb
  have hx' : x.Ok C last (w.alloc (exBox C)) := KW.Ok.keep hx (R := fun _ => False) (Wr.ofBelow hb) (fun e => e) (fun _ _ e => e)
  have hnL : ∀ e ∈ L, e.k ≠ x.k := fun e he hk => by
    obtain ⟨y, hy, hyk⟩ := (hsame x.k).1 ⟨e, he, hk⟩
    exact hno y hy hyk
  have hbox : (w.alloc (exBox C)).cell? ⟨w.heap.size, 1, none⟩ = some (.map (some C.wb)) := cell_of (heap_alloc_new _ _) 1 _ rfl
  have hboxlt : w.heap.size < (w.alloc (exBox C)).heap.size := by simp
  have hboxno : ¬ Has C.S L w.heap.size := fun hh => by have := h.lru.rest.lt _ hh; omega
  have hxlt : x.p < (w.alloc (exBox C)).heap.size := hx'.1.lt
  have hpl : ¬ Has C.S L x.p := fun hh => by have := h.ol _ hh; rw [hx1] at this; cases this
  have hgl : ∀ g, x.go = some g → ¬ Has C.S L g := fun g hg hh => by have := h.ol _ hh; rw [hx2 g hg] at this; cases this
  by_cases hl : L.length < C.S.most
  · refine keep_core0 C.S.mb C.wb x.p x.k w _ (hid ((put_room h1.lru hs hnL hl 0).mono ?_))
    rintro e w2 ⟨rfl, ⟨nb, hnb, hl2⟩, hw2⟩
    have hn2 : ∀ k, Has C.S (L ++ [⟨nb, x.k, 0⟩]) k → Has C.S L k ∨ (w.alloc (exBox C)).heap.size ≤ k := has_new (e := ⟨nb, x.k, 0⟩) (fun y hy => by simpa using hy) hnb
    have hM := h1.lruTo hl2 hw2 hn2
    obtain ⟨F, n, hm, hF⟩ := hM.wins
    have hx2' := KW.Ok.keep hx' hw2 hpl hgl
    obtain ⟨w4, hrun, hm4, hw4⟩ := hm.store (val := ptr x.p) keyedS Tryz.underlying60 (Go.WideMaps.keyOf_string_mk Tryz.underlying9 hs)
    have hM4 := hM.more x hx2' hno (by rw [ext_lt hxlt]; exact hx1) (fun g hg => by rw [ext_lt (hx'.1.lt2 g hg)]; exact hx2 g hg) hF hm4 hw4
    have hlt2 : w.heap.size < w2.heap.size := Nat.lt_of_lt_of_le hboxlt hw2.size
    refine ⟨_, rfl, (hw2.cell 1 hboxlt hboxno).trans hbox, w4, hrun, hid ⟨_, _, _, hM4, ⟨?_, fun z => ?_, fun s => ?_⟩, ?_⟩⟩
    · rw [if_pos hl]; simp
    · constructor
      · intro hz
        rcases List.mem_append.1 hz with hz | hz
        · obtain ⟨e, he, hk⟩ := (hsame z.k).2 ⟨z, hz, rfl⟩
          exact .inr ⟨hz, e, List.mem_append_left _ he, hk⟩
        · exact .inl (List.mem_singleton.1 hz)
      · rintro (rfl | ⟨hz, _⟩)
        · simp
        · exact List.mem_append_left _ hz
    · constructor
      · rintro ⟨e, he, hk⟩
        rcases List.mem_append.1 he with he | he
        · obtain ⟨y, hy, hyk⟩ := (hsame s).1 ⟨e, he, hk⟩
          exact ⟨y, List.mem_append_left _ hy, hyk⟩
        · obtain rfl := List.mem_singleton.1 he
          exact ⟨x, by simp, hk⟩
      · rintro ⟨y, hy, hk⟩
        rcases List.mem_append.1 hy with hy | hy
        · obtain ⟨e, he, hek⟩ := (hsame s).2 ⟨y, hy, hk⟩
          exact ⟨e, List.mem_append_left _ he, hek⟩
        · obtain rfl := List.mem_singleton.1 hy
          exact ⟨⟨nb, y.k, 0⟩, by simp, hk⟩
    · have s1 : Step w own w2 (ext own (w.alloc (exBox C)).heap.size .lr) := (Step.ofBelow hb own).trans (Step.ext (by simp) hw2 fun k hk => h.ol k hk)
      refine s1.trans ⟨hw4.mono fun k hk => ?_, fun _ _ => rfl⟩
      rw [hk, ext_lt h1.wlt, h.ow]; simp
  · obtain ⟨y, r, rfl⟩ : ∃ y r, L = y :: r := by
      cases L with
      | nil => have := h.lru.rest.m1; simp at hl; omega
      | cons y r => exact ⟨y, r, rfl⟩
    have hll : (y :: r).length = C.S.most := by have := h.lru.len; omega
    refine keep_core1 C.S.mb C.wb x.p x.k w _ (hid ((put_full h1.lru hs hnL hll 0).mono ?_))
    rintro e w2 ⟨rfl, ⟨nb, hnb, hl2⟩, hw2⟩
    have hn2 : ∀ k, Has C.S (r ++ [⟨nb, x.k, 0⟩]) k → Has C.S (y :: r) k ∨ (w.alloc (exBox C)).heap.size ≤ k := has_new (e := ⟨nb, x.k, 0⟩) (fun z hz => by
      rcases List.mem_append.1 hz with hz | hz
      · exact .inl (List.mem_cons_of_mem _ hz)
      · exact .inr (List.mem_singleton.1 hz)) hnb
    have hM := h1.lruTo hl2 hw2 hn2
    have hky : y.k.size ≤ maxLen := (h.lru.rest.ents y (by simp)).2.2.2
    have hkeys := h.lru.rest.keys
    obtain ⟨F, n, hm, hF⟩ := hM.wins
    obtain ⟨w3, hrun3, hm3, hw3⟩ := hm.drop keyedS Tryz.underlying60 0 (Go.WideMaps.keyOf_string_mk Tryz.underlying9 hky)
    have hM3 := hM.gone y.k hF hm3 hw3
    have hx2' := KW.Ok.keep hx' hw2 hpl hgl
    have hwb2 : x.p ≠ C.wb := fun e => by have := h.ow; rw [← e, hx1] at this; cases this
    have hx3 := KW.Ok.keep hx2' hw3 hwb2 (fun g hg e => by have := h.ow; rw [← e, hx2 g hg] at this; cases this)
    have hno3 : ∀ z ∈ K.filter (fun z => decide (z.k ≠ y.k)), z.k ≠ x.k := fun z hz => hno z (List.mem_filter.1 hz).1
    obtain ⟨F3, n3, hm3', hF3⟩ := hM3.wins
    obtain ⟨w4, hrun, hm4, hw4⟩ := hm3'.store (val := ptr x.p) keyedS Tryz.underlying60 (Go.WideMaps.keyOf_string_mk Tryz.underlying9 hs)
    have hM4 := hM3.more x hx3 hno3 (by rw [ext_lt hxlt]; exact hx1) (fun g hg => by rw [ext_lt (hx'.1.lt2 g hg)]; exact hx2 g hg) hF3 hm4 hw4
    have hlt2 : w.heap.size < w2.heap.size := Nat.lt_of_lt_of_le hboxlt hw2.size
    have hc2 := (hw2.cell 1 hboxlt hboxno).trans hbox
    have hwbne : w.heap.size ≠ C.wb := fun e => by have := h.wlt; omega
    have hyx : y.k ≠ x.k := hnL y (by simp)
    have hry : ∀ e ∈ r, e.k ≠ y.k := fun e he hk => by
      have := (List.nodup_cons.1 (show (y.k :: r.map Ent.k).Nodup from hkeys)).1
      exact this (List.mem_map.2 ⟨e, he, hk⟩)
    refine ⟨_, rfl, hc2, w3, hrun3, (hw3.cell 1 hlt2 hwbne).trans hc2, w4, hrun, hid ⟨_, _, _, hM4, ⟨?_, fun z => ?_, fun s => ?_⟩, ?_⟩⟩
    · rw [if_neg hl]; simp
    · constructor
      · intro hz
        rcases List.mem_append.1 hz with hz | hz
        · obtain ⟨hz1, hz2⟩ := List.mem_filter.1 hz
          obtain ⟨e, he, hk⟩ := (hsame z.k).2 ⟨z, hz1, rfl⟩
          refine .inr ⟨hz1, e, ?_, hk⟩
          rcases List.mem_cons.1 he with rfl | he
          · simp [hk] at hz2
          · exact List.mem_append_left _ he
        · exact .inl (List.mem_singleton.1 hz)
      · rintro (rfl | ⟨hz, e, he, hk⟩)
        · simp
        · refine List.mem_append_left _ (List.mem_filter.2 ⟨hz, ?_⟩)
          rcases List.mem_append.1 he with he | he
          · have := hry e he; simpa [hk] using this
          · obtain rfl := List.mem_singleton.1 he
            exact absurd hk.symm (hno z hz)
    · constructor
      · rintro ⟨e, he, hk⟩
        rcases List.mem_append.1 he with he | he
        · obtain ⟨z, hz, hzk⟩ := (hsame s).1 ⟨e, List.mem_cons_of_mem _ he, hk⟩
          refine ⟨z, List.mem_append_left _ (List.mem_filter.2 ⟨hz, ?_⟩), hzk⟩
          have := hry e he
          simpa [hzk, ← hk] using this
        · obtain rfl := List.mem_singleton.1 he
          exact ⟨x, by simp, hk⟩
      · rintro ⟨z, hz, hk⟩
        rcases List.mem_append.1 hz with hz | hz
        · obtain ⟨hz1, hz2⟩ := List.mem_filter.1 hz
          obtain ⟨e, he, hek⟩ := (hsame s).2 ⟨z, hz1, hk⟩
          refine ⟨e, ?_, hek⟩
          rcases List.mem_cons.1 he with rfl | he
          · simp [hk, hek] at hz2
          · exact List.mem_append_left _ he
        · obtain rfl := List.mem_singleton.1 hz
          exact ⟨⟨nb, z.k, 0⟩, by simp, hk⟩
    · have s1 : Step w own w2 (ext own (w.alloc (exBox C)).heap.size .lr) := (Step.ofBelow hb own).trans (Step.ext (by simp) hw2 fun k hk => h.ol k hk)
      have s2 : Step w2 (ext own (w.alloc (exBox C)).heap.size .lr) w3 (ext own (w.alloc (exBox C)).heap.size .lr) := ⟨hw3.mono fun k hk => by rw [hk, ext_lt h1.wlt, h.ow]; simp, fun _ _ => rfl⟩
      refine (s1.trans s2).trans ⟨hw4.mono fun k hk => ?_, fun _ _ => rfl⟩
      rw [hk, ext_lt h1.wlt, h.ow]; simp

end Go.Proofs.YtbihelpnojjacaaGreat.HotE

/- A hot parameter's rule at work: note. -/
namespace Go.Proofs.YtbihelpnojjacaaGreat.HotF
open Go.ChangeShapes Go.WideShapes Go.ChangeAt Go.RowKit Base Wri Map LruA LruB LruC LruD LruE LruF HotA HotB HotC HotD HotE
open Go.Maps (Keyed string_keyed)
set_option linter.unusedVariables false
variable {w w' : World} {own : Nat → Tg} {C : HC} {last : Nat} {L L' : List Ent} {K K' : List KW} {Z Z' : SK}

abbrev passRow (n : Nat) : Obj := .cells #[.int .i64 n, .int .i64 0, .int .i64 0, .int .i64 0, .int .i64 0, .int .i64 0] 98

set_option maxHeartbeats 1000000 in
theorem note_core (mb wb p t n : Nat) (s : ByteArray) (w : World) (Q : World → Prop)
    (HG : Hid (Calls Tryz.prog 98 #[.pointer (some ⟨mb, 0, none⟩), .string s] (w.alloc (.cells #[.pointer (some ⟨mb, 0, none⟩), .map (some wb)] 62)) fun e w' => ∃ v, e = .returned (.tuple #[.int .i64 v, .bool true]) ∧ w'.cell? ⟨w.heap.size, 1, none⟩ = some (.map (some wb)) ∧
      (Instr.lookup 60 (.map (some wb)) (.string s) false).run Tryz.prog w' = .ok (.pointer (some ⟨p, 0, none⟩)) w' ∧
      Hid (Calls Tryz.prog 97 #[.pointer (some ⟨p, 0, none⟩), .int .i64 t, .slice (some ⟨w'.heap.size, 0, none⟩) 1 1] (w'.alloc (.cells #[.int .i64 n, .int .i64 0, .int .i64 0, .int .i64 0, .int .i64 0, .int .i64 0] 98)) fun e w'' => e = .returned (.int .i64 0) ∧ Hid (Q w'')))) :
    Calls Tryz.prog 68 #[.agg #[.pointer (some ⟨mb, 0, none⟩), .map (some wb)], .int .i64 t, .string s, .int .i64 n] w fun e w' => e = .returned (.tuple #[]) ∧ Q w' := by
  go_enter Tryz.func68, Tryz.ntmps68
  go_wp2_with fail
  refine HG.out.mono ?_
  rintro e w2 ⟨v, rfl, c1, hl, HA⟩
  clear HG
  go_wp2_with fail
  refine HA.out.mono ?_
  rintro e w3 ⟨rfl, hq⟩
  clear HA
  go_wp2_with fail
  go_end0
  exact ⟨rfl, hq.out⟩

theorem upd_mem_iff {K : List KW} {y z : KW} (hy : ∃ x ∈ K, x.k = y.k) : z ∈ upd K y ↔ z = y ∨ (z ∈ K ∧ z.k ≠ y.k) := by
  constructor
  · exact upd_mem
  · rintro (rfl | ⟨h1, h2⟩)
    · obtain ⟨x, hx, hk⟩ := hy
      exact upd_self hx hk
    · exact upd_of h1 h2

theorem filter_mid {A B : List Ent} {e : Ent} (h : ((A ++ e :: B).map Ent.k).Nodup) : (A ++ B ++ [e]).map Ent.k = ((A ++ e :: B).map Ent.k).filter (fun k => decide (k ≠ e.k)) ++ [e.k] := by
  have hA : ∀ x ∈ A, x.k ≠ e.k := fun x hx hk => by
    rw [List.map_append, List.map_cons] at h
    exact (List.nodup_append.1 h).2.2 _ (List.mem_map.2 ⟨x, hx, rfl⟩) _ List.mem_cons_self hk
  have hB : ∀ x ∈ B, x.k ≠ e.k := fun x hx hk => by
    rw [List.map_append, List.map_cons] at h
    exact (List.nodup_cons.1 (List.nodup_append.1 h).2.1).1 (hk ▸ List.mem_map.2 ⟨x, hx, rfl⟩)
  have fA : (A.map Ent.k).filter (fun k => decide (k ≠ e.k)) = A.map Ent.k := List.filter_eq_self.2 fun k hk => by
    obtain ⟨x, hx, rfl⟩ := List.mem_map.1 hk
    simpa using hA x hx
  have fB : (B.map Ent.k).filter (fun k => decide (k ≠ e.k)) = B.map Ent.k := List.filter_eq_self.2 fun k hk => by
    obtain ⟨x, hx, rfl⟩ := List.mem_map.1 hk
    simpa using hB x hx
  rw [show (A ++ e :: B).map Ent.k = A.map Ent.k ++ e.k :: B.map Ent.k by simp, List.filter_append, List.filter_cons_of_neg (by simp), fA, fB]
  simp

theorem HMem.note (h : HMem w own C last L K Z) (hsame : Same L K) {x : KW} (hx : x ∈ K) (hs : x.k.size ≤ maxLen) {n : Nat} (hn : n ≤ 4611686018427387904) :
    Calls Tryz.prog 68 #[exV C, .int .i64 last, .string x.k, .int .i64 n] w fun e w' => e = .returned (.tuple #[]) ∧ ∃ own' L' y, HMem w' own' C last L' (upd K y) Z ∧ L'.map Ent.k = (L.map Ent.k).filter (fun k => decide (k ≠ x.k)) ++ [x.k] ∧ y.k = x.k ∧ y.t = last ∧ y.s = WinH.addM C.q x.s last ⟨n, 0, 0, 0, 0, 0⟩ ∧ Same L' (upd K y) ∧ Step w own w' own' := by
  have hb : Below w.heap.size w (w.alloc (exBox C)) := (Below.refl _ _).alloc (Nat.le_refl _) _
  have h1 := h.below hb
  have hbox : (w.alloc (exBox C)).cell? ⟨w.heap.size, 1, none⟩ = some (.map (some C.wb)) := cell_of (heap_alloc_new _ _) 1 _ rfl
  have hboxlt : w.heap.size < (w.alloc (exBox C)).heap.size := by simp
  have hboxno : ¬ Has C.S L w.heap.size := fun hh => by have := h.lru.rest.lt _ hh; omega
  obtain ⟨e, he, hek⟩ := (hsame x.k).2 ⟨x, hx, rfl⟩
  obtain ⟨A, B, rfl⟩ := List.append_of_mem he
  rw [← hek] at hs ⊢
  refine note_core C.S.mb C.wb x.p last n e.k w _ (hid ((get_yes h1.lru).mono ?_))
  rintro _ w2 ⟨rfl, hl2, hw2⟩
  have hn2 : ∀ k, Has C.S (A ++ B ++ [e]) k → Has C.S (A ++ e :: B) k ∨ (w.alloc (exBox C)).heap.size ≤ k := fun k hk => .inl (by
    rcases hk with hk | hk | hk | ⟨z, hz, hk⟩
    · exact .inl hk
    · exact .inr (.inl hk)
    · exact .inr (.inr (.inl hk))
    · refine .inr (.inr (.inr ⟨z, ?_, hk⟩))
      simp only [List.mem_append, List.mem_cons, List.not_mem_nil, or_false] at hz ⊢
      rcases hz with (hz | hz) | hz
      · exact .inl hz
      · exact .inr (.inr hz)
      · exact .inr (.inl hz))
  have hM := h1.lruTo hl2 hw2 hn2
  have hlk := HMem.lookW_yes hM hx (by rw [← hek]; exact hs)
  rw [← hek] at hlk
  have hb3 : Below w2.heap.size w2 (w2.alloc (passRow n)) := (Below.refl _ _).alloc (Nat.le_refl _) _
  have hM3 := hM.below hb3
  obtain ⟨a1, a2, a3, a4, a5, a6⟩ := hM3.wok x hx
  have h6 : WinB.At6 (w2.alloc (passRow n)) w2.heap.size 0 ⟨n, 0, 0, 0, 0, 0⟩ := by
    have := heap_alloc_new w2 (passRow n)
    exact ⟨cell_of this 0 _ rfl, cell_of this 1 _ rfl, cell_of this 2 _ rfl, cell_of this 3 _ rfl, cell_of this 4 _ rfl, cell_of this 5 _ rfl⟩
  have a1' := (hM.wok x hx).1
  have hlen := a4.len (by rw [a2, a3]) h.q0
  have HA := WinI.add_yes x.p x.go x.s C.q last ⟨n, 0, 0, 0, 0, 0⟩ w2.heap.size 0 1 _ a1 (by rw [a2, a3]; exact Nat.mul_div_cancel_left _ (by omega)) h.q0 (by rw [a3]; exact Nat.zero_lt_succ 9) (by rw [a2]; have := h.q1; omega) h.late (by rw [a5]; omega) a4.fine (by omega) (right_pass hn) h6 (by simp) (by have := a1'.lt; omega) (fun e2 => by have := a1'.lt2 _ e2; omega)
  refine ⟨_, rfl, (hw2.cell 1 hboxlt hboxno).trans hbox, hlk, hid (HA.mono ?_)⟩
  rintro _ w4 ⟨go, rfl, hw4, hgo, hl4⟩
  have hok : KW.Ok C last w4 ⟨x.k, x.p, go, WinH.addM C.q x.s last ⟨n, 0, 0, 0, 0, 0⟩, last⟩ :=
    ⟨hw4, a2, a3, a4.add a6 (by rw [a2]; omega) (right_pass hn).1, rfl, Nat.le_refl _⟩
  have hwr : Wr (fun k => k = x.p ∨ x.go = some k) (w2.alloc (passRow n)) w4 := lets_wr hl4
  have hM4 := hM3.winTo (y := ⟨x.k, x.p, go, WinH.addM C.q x.s last ⟨n, 0, 0, 0, 0, 0⟩, last⟩) hx rfl rfl hok hwr hgo
  refine ⟨rfl, hid ⟨_, _, _, hM4, filter_mid h.lru.rest.keys, hek.symm, rfl, rfl, fun s => ?_, ?_⟩⟩
  · rw [show (∃ e' ∈ A ++ B ++ [e], e'.k = s) ↔ ∃ e' ∈ A ++ e :: B, e'.k = s from ⟨fun ⟨z, hz, hk⟩ => ⟨z, by
      simp only [List.mem_append, List.mem_cons, List.not_mem_nil, or_false] at hz ⊢
      rcases hz with (hz | hz) | hz
      · exact .inl hz
      · exact .inr (.inr hz)
      · exact .inr (.inl hz), hk⟩, fun ⟨z, hz, hk⟩ => ⟨z, by
      simp only [List.mem_append, List.mem_cons, List.not_mem_nil, or_false] at hz ⊢
      rcases hz with hz | hz | hz
      · exact .inl (.inl hz)
      · exact .inr hz
      · exact .inl (.inr hz), hk⟩⟩, hsame s]
    constructor
    · rintro ⟨z, hz, hk⟩
      by_cases hzk : z.k = x.k
      · exact ⟨_, upd_self hx rfl, by rw [← hk, hzk]⟩
      · exact ⟨z, upd_of hz hzk, hk⟩
    · rintro ⟨z, hz, hk⟩
      rcases upd_mem hz with rfl | ⟨hz, _⟩
      · exact ⟨x, hx, hk⟩
      · exact ⟨z, hz, hk⟩
  · have s1 : Step w own w2 (ext own (w.alloc (exBox C)).heap.size .lr) := (Step.ofBelow hb own).trans (Step.ext (by simp) hw2 fun k hk => h.ol k hk)
    have s2 := s1.trans (Step.ofBelow hb3 _)
    obtain ⟨o1, o2⟩ := hM3.ox x hx
    exact s2.trans (Step.ext (by simp) hwr fun k hk => hk.elim (fun e => by rw [e]; exact o1) (fun e => o2 k e))

end Go.Proofs.YtbihelpnojjacaaGreat.HotF

/- A hot parameter's rule at work: take. -/
namespace Go.Proofs.YtbihelpnojjacaaGreat.HotG
open Go.ChangeShapes Go.WideShapes Go.ChangeAt Go.RowKit Go.Deep Base Wri Map LruA LruB LruC LruD LruE LruF HotA HotB HotC HotD HotE HotF
open Go.Maps (Keyed string_keyed)
set_option linter.unusedVariables false
variable {w w' : World} {own : Nat → Tg} {C : HC} {last : Nat} {L L' : List Ent} {K K' : List KW} {Z Z' : SK}

/-- the cells of a hot that point to its parts -/
def Pts (w : World) (h a b p : Nat) : Prop := w.cell? ⟨h, 3, none⟩ = some (.pointer (some ⟨a, 0, none⟩)) ∧ w.cell? ⟨h, 4, none⟩ = some (.map (some b)) ∧ w.cell? ⟨h, 5, none⟩ = some (.pointer (some ⟨p, 0, none⟩))
abbrev exA (a b : Nat) : Value := .agg #[.pointer (some ⟨a, 0, none⟩), .map (some b)]
def PostN (h a b p t n : Nat) (s : ByteArray) (Q : World → Prop) (w : World) : Prop :=
  Calls Tryz.prog 68 #[exA a b, .int .i64 t, .string s, .int .i64 n] w fun e w' => e = .returned (.tuple #[]) ∧ Pts w' h a b p ∧
    Hid (Calls Tryz.prog 69 #[.pointer (some ⟨p, 0, none⟩), .int .i64 t, .string s, .slice (some ⟨w'.heap.size, 0, none⟩) 1 1] (w'.alloc (.cells #[.int .i64 n] 3)) fun e w'' => e = .returned (.int .i64 0) ∧ Hid (Q w''))

set_option maxHeartbeats 1000000 in
theorem take_tail (h a b p t n : Nat) (s : ByteArray) (w : World) (Q : World → Prop) (r : Bool) (hp : Pts w h a b p)
    (H0 : Hid (Calls Tryz.prog 65 #[exA a b, .string s] w fun e w' => e = .returned (.bool r) ∧ Below w.heap.size w w'))
    (H1 : Hid (r = true → ∀ wx, Below w.heap.size w wx → PostN h a b p t n s Q wx))
    (H2 : Hid (r = false → ∀ wx, Below w.heap.size w wx → Calls Tryz.prog 67 #[.pointer (some ⟨h, 0, none⟩), .int .i64 t, .string s] wx fun e w' => ∃ pw, e = .returned (.pointer (some ⟨pw, 0, none⟩)) ∧ Pts w' h a b p ∧
      Hid (Calls Tryz.prog 66 #[exA a b, .string s, .pointer (some ⟨pw, 0, none⟩)] w' fun e w'' => e = .returned (.tuple #[]) ∧ Pts w'' h a b p ∧ Hid (PostN h a b p t n s Q w'')))) :
    Calls Tryz.prog 42 #[.pointer (some ⟨h, 0, none⟩), .int .i64 t, .string s, .int .i64 n] w fun e w' => e = .returned (.tuple #[]) ∧ Q w' := by
  obtain ⟨c3, c4, c5⟩ := hp
  have hh := World.block_lt_of_cell? _ _ c3
  unfold PostN at *
  go_enter Tryz.func42, Tryz.ntmps42
  go_wp2_with fail
  refine H0.out.mono ?_
  rintro e w1 ⟨rfl, hb1⟩
  have d3 := (hb1.cell (p := ⟨h, 3, none⟩) hh).trans c3
  have d4 := (hb1.cell (p := ⟨h, 4, none⟩) hh).trans c4
  have d5 := (hb1.cell (p := ⟨h, 5, none⟩) hh).trans c5
  have HB1 := hid hb1
  clear c3 c4 c5 hb1 H0
  cases r with
  | true =>
    have HN := hid (H1.out rfl w1 HB1.out)
    clear H1 H2
    go_wp2_with fail
    refine HN.out.mono ?_
    rintro e w2 ⟨rfl, ⟨c3, c4, c5⟩, HA⟩
    clear d3 d4 d5 HN
    go_wp2_with fail
    refine HA.out.mono ?_
    rintro e w3 ⟨rfl, hq⟩
    clear HA c3 c4 c5
    go_wp2_with fail
    go_end0
    exact ⟨rfl, hq.out⟩
  | false =>
    have HN := hid (H2.out rfl w1.drew HB1.out.drew)
    clear H1 H2
    go_upto_region 1 with fail
    unfold Pts at HN
    go_region_held3 (fun w' => w'.cell? ⟨h, 3, none⟩ = some (.pointer (some ⟨a, 0, none⟩)) ∧ w'.cell? ⟨h, 4, none⟩ = some (.map (some b)) ∧ w'.cell? ⟨h, 5, none⟩ = some (.pointer (some ⟨p, 0, none⟩))) (first | assumption | go_keep) (first | (go_at_call 67; with_reducible refine HN.out.mono ?_; rintro e w2 ⟨pw, rfl, ⟨k3, k4, k5⟩, HKp⟩) | (go_at_call 66; with_reducible refine HKp.out.mono ?_; rintro e w3 ⟨rfl, ⟨m3, m4, m5⟩, HNt⟩))
    clear d3 d4 d5 HN
    go_wp2_with fail
    refine HNt.out.mono ?_
    rintro e w4 ⟨rfl, ⟨c3, c4, c5⟩, HA⟩
    go_wp2_with fail
    refine HA.out.mono ?_
    rintro e w5 ⟨rfl, hq⟩
    clear HA c3 c4 c5
    go_wp2_with fail
    go_end0
    exact ⟨rfl, hq.out⟩

end Go.Proofs.YtbihelpnojjacaaGreat.HotG

/- A hot parameter's rule at work: Take. -/
namespace Go.Proofs.YtbihelpnojjacaaGreat.HotH
open Go.ChangeShapes Go.WideShapes Go.ChangeAt Go.RowKit Go.Deep Base Wri Map LruA LruB LruC LruD LruE LruF HotA HotB HotC HotD HotE HotF HotG
open Go.Maps (Keyed string_keyed)
set_option linter.unusedVariables false
variable {w w' : World} {own : Nat → Tg} {C : HC} {last : Nat} {L L' : List Ent} {K K' : List KW} {Z Z' : SK}

theorem HMem.pts (h : HMem w own C last L K Z) : Pts w C.h C.S.mb C.wb C.sp := by
  obtain ⟨-, -, -, c3, c4, c5, -⟩ := HMem.cells h
  exact ⟨c3, c4, c5⟩

/-- what note and the sketch leave -/
structure Noted (C : HC) (L : List Ent) (K : List KW) (Z : SK) (t : Nat) (x : KW) (n : Nat) (L' : List Ent) (K' : List KW) (Z' : SK) : Prop where
  ns : Z'.ns = Z.ns ++ [⟨t, x.k, n⟩]
  zt : Z'.t = t
  keys : L'.map Ent.k = (L.map Ent.k).filter (fun k => decide (k ≠ x.k)) ++ [x.k]
  mine : ∃ y ∈ K', y.k = x.k ∧ y.t = t ∧ y.s = WinH.addM C.q x.s t ⟨n, 0, 0, 0, 0, 0⟩
  others : ∀ z : KW, z.k ≠ x.k → (z ∈ K' ↔ z ∈ K)
  same : Same L' K'

theorem HMem.tail (h : HMem w own C last L K Z) (hsame : Same L K) {x : KW} (hx : x ∈ K) (hs : x.k.size ≤ maxLen) {n : Nat} (hn1 : 1 ≤ n) (hn : n ≤ 1099511627776) :
    PostN C.h C.S.mb C.wb C.sp last n x.k (fun w' => ∃ own' L' K' Z', HMem w' own' C last L' K' Z' ∧ Noted C L K Z last x n L' K' Z' ∧ Step w own w' own') w := by
  refine (HMem.note h hsame hx hs (by omega)).mono ?_
  rintro _ w1 ⟨rfl, own1, L1, y, hM, hk, hyk, hyt, hys, hsm, hst⟩
  have hb : Below w1.heap.size w1 (w1.alloc (.cells #[.int .i64 n] 3)) := (Below.refl _ _).alloc (Nat.le_refl _) _
  have hM1 := hM.below hb
  have hI : SkB.Ints (w1.alloc (.cells #[.int .i64 n] 3)) (some ⟨w1.heap.size, 0, none⟩) 1 (fun _ => ((n : Nat) : Int)) := fun _ => ⟨w1.heap.size, 0, rfl, by simp, fun i hi => by
    obtain rfl : i = 0 := by omega
    exact cell_of (heap_alloc_new _ _) 0 _ rfl⟩
  have hgood : SkB.goodC (fun _ => ((n : Nat) : Int)) 1 = true := by
    unfold SkB.goodC SkB.badC
    refine decide_eq_true fun i _ => decide_eq_false (show ¬ (((n : Nat) : Int) < 0 ∨ 1099511627776 < ((n : Nat) : Int)) from ?_)
    omega
  have hfar : 0 < 1 → ∀ g o, (some ⟨w1.heap.size, 0, none⟩ : Option Addr) = some ⟨g, o, none⟩ → ¬ SkL.Ft C.sp Z.go Z.qs Z.mpf g := fun _ g o e hf => by
    cases e
    have := hM.sk.lt hf
    omega
  have HA := SkQ.Add_yes hM1.sk hM1.skt hM1.late x.k hs (some ⟨w1.heap.size, 0, none⟩) 1 1 (fun _ => n) (by decide) hI hgood hfar
  refine ⟨rfl, HMem.pts hM, hid (HA.mono ?_)⟩
  rintro _ w2 ⟨rfl, hp⟩
  have hp' := hp
  obtain ⟨go', qs', mpf', hf, hw, hn'⟩ := hp'
  obtain ⟨go, qs, mpf, hM2⟩ := hM1.skTo (Z' := ⟨none, [], fun _ => 0, Z.ns ++ [⟨last, x.k, SkD.sumTo (fun _ => n) 1⟩], last⟩) hp (Nat.le_refl _)
  have e1 : SkD.sumTo (fun _ => n) 1 = n := by show 0 + n = n; omega
  rw [e1] at hM2
  refine ⟨rfl, hid ⟨_, _, _, _, hM2, ⟨rfl, rfl, hk, ⟨y, upd_self hx hyk.symm, hyk, hyt, hys⟩, fun z hz => ?_, hsm⟩, (hst.trans (Step.ofBelow hb _)).trans (Step.ext (by simp) hw fun k hk => hM1.os k hk)⟩⟩
  rw [upd_mem_iff ⟨x, hx, hyk.symm⟩]
  constructor
  · rintro (rfl | ⟨h1, _⟩)
    · exact absurd hyk hz
    · exact h1
  · exact fun h1 => .inr ⟨h1, by rw [hyk]; exact hz⟩

/-- what take leaves -/
structure Took (C : HC) (L : List Ent) (K : List KW) (Z : SK) (t : Nat) (s : ByteArray) (n u : Nat) (L' : List Ent) (K' : List KW) (Z' : SK) : Prop where
  ns : Z'.ns = Z.ns ++ [⟨t, s, n⟩]
  zt : Z'.t = t
  keys : L'.map Ent.k = (if (∃ x ∈ K, x.k = s) ∨ L.length < C.S.most then L.map Ent.k else (L.map Ent.k).drop 1).filter (fun k => decide (k ≠ s)) ++ [s]
  mine : ∃ y ∈ K', y.k = s ∧ y.t = t ∧ ((∃ x ∈ K, x.k = s ∧ y.s = WinH.addM C.q x.s t ⟨n, 0, 0, 0, 0, 0⟩) ∨ ((∀ x ∈ K, x.k ≠ s) ∧ y.s = WinH.addM C.q (begunW C.q t u) t ⟨n, 0, 0, 0, 0, 0⟩))
  others : ∀ z : KW, z.k ≠ s → (z ∈ K' ↔ z ∈ K ∧ ∃ e ∈ L', e.k = z.k)
  same : Same L' K'

theorem HMem.take (h : HMem w own C last L K Z) (hsame : Same L K) (s : ByteArray) (hs : s.size ≤ maxLen) {n u : Nat} (hn1 : 1 ≤ n) (hn : n ≤ 1099511627776) (hu : Us C K Z last s u) (hu2 : u ≤ 4611686018427387904) :
    Calls Tryz.prog 42 #[.pointer (some ⟨C.h, 0, none⟩), .int .i64 last, .string s, .int .i64 n] w fun e w' => e = .returned (.tuple #[]) ∧ ∃ own' L' K' Z', HMem w' own' C last L' K' Z' ∧ Took C L K Z last s n u L' K' Z' ∧ Step w own w' own' := by
  by_cases hin : ∃ x ∈ K, x.k = s
  · obtain ⟨x, hx, rfl⟩ := hin
    refine take_tail C.h C.S.mb C.wb C.sp last n x.k w _ true (HMem.pts h) (hid (HMem.has_yes h hx hs)) (hid fun _ wx hb => ?_) (hid fun e => by cases e)
    have hT := HMem.tail (h.below hb) hsame hx hs hn1 hn
    refine hT.mono fun e w1 h1 => ⟨h1.1, h1.2.1, hid (h1.2.2.out.mono fun e w2 h2 => ⟨h2.1, hid ?_⟩)⟩
    obtain ⟨own', L', K', Z', hM, hN, hSt⟩ := h2.2.out
    refine ⟨own', L', K', Z', hM, ⟨hN.ns, hN.zt, ?_, ?_, fun z hz => ?_, hN.same⟩, (Step.ofBelow hb own).trans hSt⟩
    · rw [if_pos (.inl ⟨x, hx, rfl⟩)]; exact hN.keys
    · obtain ⟨y, hy, h1, h2, h3⟩ := hN.mine
      exact ⟨y, hy, h1, h2, .inl ⟨x, hx, rfl, h3⟩⟩
    · rw [hN.others z hz]
      refine ⟨fun h => ⟨h, ?_⟩, fun h => h.1⟩
      exact (hN.same z.k).2 ⟨z, (hN.others z hz).2 h, rfl⟩
  · have hno : ∀ x ∈ K, x.k ≠ s := fun x hx e => hin ⟨x, hx, e⟩
    refine take_tail C.h C.S.mb C.wb C.sp last n s w _ false (HMem.pts h) (hid (HMem.has_no h s hs hno)) (hid fun e => by cases e) (hid fun _ wx hb => ?_)
    have h1 := h.below hb
    refine (HMem.begun h1 (Nat.le_refl _) h.late s hs hu hu2).mono ?_
    rintro _ w1 ⟨p, go, rfl, hp, hgo, hW, hb1⟩
    have hM1 := HMem.extend h1 hb1 (.win s)
    have hst1 : Step w own w1 (ext own wx.heap.size (.win s)) := (Step.ofBelow hb own).trans (Step.ext (T := .win s) (R := fun _ => False) (by simp) (Wr.ofBelow hb1) (fun _ e => e.elim))
    have hok : KW.Ok C last w1 ⟨s, p, go, begunW C.q last u, last⟩ := by
      refine ⟨hW, rfl, rfl, (WinN.Tidy.fresh C.q (10 * C.q) 10).add (Nat.zero_le _) (by show C.q ≤ 10 * C.q; omega) (right_pass hu2).1, rfl, Nat.le_refl _⟩
    have HK := HMem.keep hM1 hsame ⟨s, p, go, begunW C.q last u, last⟩ hs hno hok (ext_ge hp) (fun g hg => ext_ge (hgo g hg))
    refine ⟨p, rfl, HMem.pts hM1, hid (HK.mono ?_)⟩
    rintro _ w2 ⟨rfl, own2, L2, K2, hM2, hKp, hst2⟩
    have hx2 : (⟨s, p, go, begunW C.q last u, last⟩ : KW) ∈ K2 := (hKp.mem _).2 (.inl rfl)
    have hT := HMem.tail hM2 hKp.same hx2 hs hn1 hn
    refine ⟨rfl, HMem.pts hM2, hid (hT.mono fun e w3 h3 => ⟨h3.1, h3.2.1, hid (h3.2.2.out.mono fun e w4 h4 => ⟨h4.1, hid ?_⟩)⟩)⟩
    obtain ⟨own', L', K', Z', hM, hN, hSt⟩ := h4.2.out
    refine ⟨own', L', K', Z', hM, ⟨hN.ns, hN.zt, ?_, ?_, fun z hz => ?_, hN.same⟩, (hst1.trans hst2).trans hSt⟩
    · rw [hN.keys, hKp.keys]
      by_cases hl : L.length < C.S.most
      · rw [if_pos hl, if_pos (.inr hl), List.filter_append]; simp
      · rw [if_neg hl, if_neg (fun h => h.elim hin hl), List.filter_append]; simp
    · obtain ⟨y, hy, h1, h2, h3⟩ := hN.mine
      exact ⟨y, hy, h1, h2, .inr ⟨hno, h3⟩⟩
    · rw [hN.others z hz, hKp.mem z]
      constructor
      · rintro (rfl | ⟨h1, h2⟩)
        · exact absurd rfl hz
        · exact ⟨h1, (hN.same z.k).2 ⟨z, (hN.others z hz).2 ((hKp.mem z).2 (.inr ⟨h1, h2⟩)), rfl⟩⟩
      · rintro ⟨h1, e, he, hek⟩
        refine .inr ⟨h1, ?_⟩
        obtain ⟨z', hz', hk'⟩ := (hN.same z.k).1 ⟨e, he, hek⟩
        exact (hKp.same z.k).2 ⟨z', (hN.others z' (by rw [hk']; exact hz)).1 hz', hk'⟩

end Go.Proofs.YtbihelpnojjacaaGreat.HotH

namespace Go.Proofs.YtbihelpnojjacaaGreat.HotI
open Go.ChangeShapes Go.WideShapes Go.ChangeAt Go.RowKit Go.Deep Base Wri Map LruA LruB LruC LruD LruE LruF HotA HotB HotC HotD HotE HotF HotG HotH
open Go.Maps (Keyed string_keyed)
set_option linter.unusedVariables false
variable {w w' : World} {own : Nat → Tg} {C : HC} {last : Nat} {L L' : List Ent} {K K' : List KW} {Z Z' : SK}

set_option maxHeartbeats 1000000 in
theorem Take_core (h : Nat) (t n r : Int) (s : ByteArray) (b : Bool) (last : Nat) (w : World) (Q : World → Prop) (hr : r ≠ 0 → b = false)
    (HL : Hid (Calls Tryz.prog 22 #[.pointer (some ⟨h, 0, none⟩), .int .i64 t, .string s, .int .i64 n] w fun e w' => e = .returned (.tuple #[.bool b, .int .i64 r]) ∧ w'.cell? ⟨h, 6, none⟩ = some (.int .i64 last) ∧ w'.frozen? ⟨h, 6, none⟩ = false ∧
      Hid (r ≠ 0 → Q w') ∧ Hid (r = 0 → b = false → Q (w'.setCell ⟨h, 6, none⟩ (.int .i64 t))) ∧
      Hid (r = 0 → b = true → Calls Tryz.prog 42 #[.pointer (some ⟨h, 0, none⟩), .int .i64 t, .string s, .int .i64 n] (w'.setCell ⟨h, 6, none⟩ (.int .i64 t)) fun e w'' => e = .returned (.tuple #[]) ∧ Hid (Q w'')))) :
    Calls Tryz.prog 20 #[.pointer (some ⟨h, 0, none⟩), .int .i64 t, .string s, .int .i64 n] w fun e w' => e = .returned (.tuple #[.bool b, .int .i64 r]) ∧ Q w' := by
  by_cases h0 : r = 0
  · subst h0
    cases b with
    | false =>
      go_enter Tryz.func20, Tryz.ntmps20
      go_wp2_with fail
      refine HL.out.mono ?_
      rintro e w1 ⟨rfl, c6, f6, H1, H2, H3⟩
      have HQ := hid (H2.out (by trivial) (by trivial))
      clear HL H1 H2 H3
      go_wp2_with fail
      go_ret2
      exact ⟨rfl, HQ.out⟩
    | true =>
      go_enter Tryz.func20, Tryz.ntmps20
      go_wp2_with fail
      refine HL.out.mono ?_
      rintro e w1 ⟨rfl, c6, f6, H1, H2, H3⟩
      have HQ := hid (H3.out (by trivial) (by trivial))
      clear HL H1 H2 H3
      go_wp2_with fail
      refine HQ.out.mono ?_
      rintro e w2 ⟨rfl, hq⟩
      clear HQ c6 f6
      go_wp2_with fail
      go_ret2
      exact ⟨rfl, hq.out⟩
  · obtain rfl := hr h0
    have n0 : (r == 0) = false := by simpa using h0
    have HNe := hid h0
    clear h0
    go_enter Tryz.func20, Tryz.ntmps20
    go_wp2_with fail
    refine HL.out.mono ?_
    rintro e w1 ⟨rfl, c6, f6, H1, H2, H3⟩
    have HQ := hid (H1.out HNe.out)
    clear HL H1 H2 H3
    go_wp2_with fail
    go_ret2
    exact ⟨rfl, HQ.out⟩

/-- is it let in, by what was used -/
def letB (C : HC) (last : Nat) (t : Int) (s : ByteArray) (n : Int) (u : Nat) : Bool := decide (hotE last t (noC n) s.size = 0) && decide ((u : Int) + n ≤ limN C s)

/-- what Take leaves -/
def TakePost (w : World) (own : Nat → Tg) (C : HC) (last : Nat) (L : List Ent) (K : List KW) (Z : SK) (t : Int) (s : ByteArray) (n : Int) (u : Nat) (w' : World) : Prop :=
  ∃ own' last' L' K' Z', HMem w' own' C last' L' K' Z' ∧ Same L' K' ∧ Step w own w' own' ∧
    ((hotE last t (noC n) s.size ≠ 0 ∧ last' = last ∧ L' = L ∧ K' = K ∧ Z' = Z) ∨
     (hotE last t (noC n) s.size = 0 ∧ (last' : Int) = t ∧ ((letB C last t s n u = false ∧ L' = L ∧ K' = K ∧ Z' = Z) ∨ (letB C last t s n u = true ∧ Took C L K Z t.toNat s n.toNat u L' K' Z'))))

theorem frozen_hot (h : HMem w own C last L K Z) (o : Nat) : w.frozen? ⟨C.h, o, none⟩ = false := by
  have := h.head
  simp [World.frozen?, this]

theorem HMem.Take (h : HMem w own C last L K Z) (hsame : Same L K) (t : Int) (s : ByteArray) (hs : s.size ≤ maxLen) (n : Int) (u : Nat) (hu : hotE last t (noC n) s.size = 0 → Us C K Z t.toNat s u ∧ u ≤ 4611686018427387904) :
    Calls Tryz.prog 20 #[.pointer (some ⟨C.h, 0, none⟩), .int .i64 t, .string s, .int .i64 n] w fun e w' => e = .returned (.tuple #[.bool (letB C last t s n u), .int .i64 (hotE last t (noC n) s.size)]) ∧ TakePost w own C last L K Z t s n u w' := by
  refine Take_core C.h t n _ s _ last w _ (fun e => by unfold letB; simp [e]) (hid ((HMem.Look h t s hs n u hu).mono ?_))
  rintro e w1 ⟨rfl, hb⟩
  have h1 := h.below hb
  have hst := Step.ofBelow hb own
  refine ⟨rfl, (HMem.cells h1).2.2.2.2.2.2, frozen_hot h1 6, hid fun hr => ⟨own, last, L, K, Z, h1, hsame, hst, .inl ⟨hr, rfl, rfl, rfl, rfl⟩⟩, hid fun hr hb' => ?_, hid fun hr hb' => ?_⟩
  · obtain ⟨m, rfl, h3, h4, h5, h6⟩ := hot_ok hr
    exact ⟨own, m, L, K, Z, h1.noted h4 h3, hsame, hst.trans ⟨(Wr.set (R := fun k => own k ≠ .non) _ _ (by show own C.h ≠ .non; rw [h.oh]; simp)), fun _ _ => rfl⟩, .inr ⟨hr, rfl, .inl ⟨hb', rfl, rfl, rfl⟩⟩⟩
  · obtain ⟨m, rfl, h3, h4, h5, h6⟩ := hot_ok hr
    obtain ⟨hu1, hu2⟩ := hu hr
    have hn : 1 ≤ n ∧ n ≤ 1099511627776 := by
      unfold noC at h6
      simp at h6
      omega
    obtain ⟨k, rfl⟩ : ∃ k : Nat, n = k := ⟨n.toNat, by omega⟩
    have hT := HMem.take (h1.noted h4 h3) hsame s hs (n := k) (u := u) (by omega) (by omega) hu1 hu2
    refine hT.mono fun e w2 h2 => ⟨h2.1, hid ?_⟩
    obtain ⟨own', L', K', Z', hM, hTk, hst2⟩ := h2.2
    exact ⟨own', m, L', K', Z', hM, hTk.same, (hst.trans ⟨(Wr.set (R := fun k => own k ≠ .non) _ _ (by show own C.h ≠ .non; rw [h.oh]; simp)), fun _ _ => rfl⟩).trans hst2, .inr ⟨hr, rfl, .inr ⟨hb', hTk⟩⟩⟩

end Go.Proofs.YtbihelpnojjacaaGreat.HotI
