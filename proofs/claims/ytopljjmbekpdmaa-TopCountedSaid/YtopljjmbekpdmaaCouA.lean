/- A bounded map, a sketch and a map of counts, side by side; how often a key came. -/
import Derived.Test.YtopljjmbekpdmaaLruL
import Derived.Test.YtopljjmbekpdmaaSkX
namespace Go.Proofs.Ytopljjmbekpdmaa.CouA
open Go.ChangeShapes Go.WideShapes Go.ChangeAt Go.RowKit Go.Deep Base Wri Map LruA LruB LruC LruD LruE LruF SkK SkA SkB SkC SkD SkE SkF SkG SkL SkM SkQ SkX
set_option linter.unusedVariables false

/-- how often a key came among the first i -/
def cnt (f : Nat → ByteArray) : Nat → ByteArray → Nat
  | 0, _ => 0
  | i + 1, s => cnt f i s + if f i = s then 1 else 0
/-- the notes of the first i -/
def nts (f : Nat → ByteArray) : Nat → List Note
  | 0 => []
  | i + 1 => nts f i ++ [⟨0, f i, 1⟩]

theorem cnt_le (f : Nat → ByteArray) (i : Nat) (s : ByteArray) : cnt f i s ≤ i := by
  induction i with
  | zero => exact Nat.le_refl _
  | succ i ih => rw [cnt]; split <;> omega
theorem cnt_same (f : Nat → ByteArray) (i : Nat) : cnt f (i + 1) (f i) = cnt f i (f i) + 1 := by rw [cnt, if_pos rfl]
theorem cnt_mono (f : Nat → ByteArray) (i : Nat) (s : ByteArray) : cnt f i s ≤ cnt f (i + 1) s := by rw [cnt]; omega
theorem cnt_other (f : Nat → ByteArray) (i : Nat) (s : ByteArray) (h : f i ≠ s) : cnt f (i + 1) s = cnt f i s := by rw [cnt, if_neg h]; omega

theorem sum_key (f : Nat → ByteArray) (q bk i : Nat) (s : ByteArray) (hb : 0 < bk) : sumN (nts f i) (isOwn q bk 0 s) = cnt f i s := by
  induction i with
  | zero => rfl
  | succ i ih =>
    rw [nts, sumN_snoc, ih, cnt]
    congr 1
    have : inW q bk 0 (0 / q) = true := by unfold inW; rw [decide_eq_true_iff]; omega
    unfold isOwn
    dsimp only
    rw [this, Bool.true_and]
    by_cases h : f i = s
    · rw [if_pos h, if_pos (by simpa using h)]
    · rw [if_neg h, if_neg (by simpa using h)]
theorem sum_all (f : Nat → ByteArray) (i : Nat) (p : Note → Bool) : sumN (nts f i) p ≤ i := by
  induction i with
  | zero => exact Nat.le_refl _
  | succ i ih => rw [nts, sumN_snoc]; split <;> (first | (dsimp only; omega) | omega)

theorem cnt_le_est (f : Nat → ByteArray) (q i : Nat) (X : Shp) (s : ByteArray) (hb : 0 < X.bk) (hi : i ≤ 4611686018427387904) : cnt f i s ≤ estN q X (nts f i) 0 s := by
  refine Nat.le_trans ?_ (own_le_est q 0 X s (nts f i))
  unfold ownN
  rw [sum_key f q X.bk i s hb]
  have := cnt_le f i s
  unfold sat
  omega
theorem est_le_all {q : Nat} {X : Shp} (ho : Ok X q) (f : Nat → ByteArray) (i : Nat) (s : ByteArray) : estN q X (nts f i) 0 s ≤ i := by
  refine Nat.le_trans (est_le_total ho 0 s (nts f i)) ?_
  unfold totalN sat
  have := sum_all f i fun x => inW q X.bk 0 (x.t / q)
  omega

/-- what the map of counts holds -/
def Counts (F : Value → Option Value) (f : Nat → ByteArray) (i : Nat) : Prop := ∀ s, (match F (.string s) with | some v => v | none => .int .i64 0) = .int .i64 (cnt f i s)
theorem Counts.zero (f : Nat → ByteArray) : Counts (fun _ => none) f 0 := fun s => rfl
theorem Counts.more {F : Value → Option Value} {f : Nat → ByteArray} {i : Nat} (h : Counts F f i) : Counts (put F (.string (f i)) (.int .i64 (cnt f i (f i) + 1 : Nat))) f (i + 1) := by
  intro s
  by_cases e : f i = s
  · subst e; rw [put_same, cnt_same]
  · rw [put_other (fun h2 => e (Value.string.inj h2).symm), cnt_other f i s e]; exact h s

/-- all that lies in memory -/
structure J (w0 w : World) (S : Spot) (L : List Ent) (p : Nat) (go : Option Nat) (X : Shp) (q : Nat) (ns : List Note) (qs : List Nat) (mpf : Nat → Nat) (mb : Nat) (F : Value → Option Value) (n : Nat) : Prop where
  lru : IsLru w S L
  sk : Full w p go X q 0 ns qs mpf
  mp : MapOf Try.prog 9 w mb F n
  d1 : ∀ k, Has S L k → ¬ Ft p go qs mpf k
  d2 : ¬ Has S L mb
  d3 : ¬ Ft p go qs mpf mb
  u1 : ∀ k, Has S L k → w0.heap.size ≤ k
  u2 : ∀ k, Ft p go qs mpf k → w0.heap.size ≤ k
  u3 : w0.heap.size ≤ mb
  bel : Below w0.heap.size w0 w

variable {w0 w w' : World} {S : Spot} {L L' : List Ent} {p q n : Nat} {go : Option Nat} {X : Shp} {ns : List Note} {qs : List Nat} {mpf : Nat → Nat} {mb : Nat} {F : Value → Option Value}

theorem J.below (h : J w0 w S L p go X q ns qs mpf mb F n) (hb : Below w.heap.size w w') : J w0 w' S L p go X q ns qs mpf mb F n :=
  ⟨h.lru.below hb, h.sk.below hb, h.mp.of_block (hb.block _ h.mp.lt), h.d1, h.d2, h.d3, h.u1, h.u2, h.u3, h.bel.trans (hb.mono h.bel.size)⟩

theorem J.lruStep (h : J w0 w S L p go X q ns qs mpf mb F n) (h1 : IsLru w' S L') (hw : Wr (Has S L) w w') (hs : ∀ k, Has S L' k → Has S L k ∨ w.heap.size ≤ k) : J w0 w' S L' p go X q ns qs mpf mb F n where
  lru := h1
  sk := h.sk.keep fun k hk => hw.block k (h.sk.lt hk) (fun e => h.d1 k e hk)
  mp := h.mp.of_block (hw.block _ h.mp.lt h.d2)
  d1 := fun k hk hf => (hs k hk).elim (fun e => h.d1 k e hf) (fun e => by have := h.sk.lt hf; omega)
  d2 := fun hk => (hs mb hk).elim h.d2 (fun e => by have := h.mp.lt; omega)
  d3 := h.d3
  u1 := fun k hk => (hs k hk).elim (h.u1 k) (fun e => Nat.le_trans h.bel.size e)
  u2 := h.u2
  u3 := h.u3
  bel := h.bel.trans (hw.below _ h.bel.size h.u1)

theorem J.skStep {ns' : List Note} (h : J w0 w S L p go X q ns qs mpf mb F n) (ha : AddPost w p go X q 0 ns' qs mpf w') : ∃ go' qs' mpf', J w0 w' S L p go' X q ns' qs' mpf' mb F n := by
  obtain ⟨go', qs', mpf', h1, hw, h3⟩ := ha
  exact ⟨go', qs', mpf', {
    lru := h.lru.wr hw (fun k hk e => h.d1 k hk e)
    sk := h1
    mp := h.mp.of_block (hw.block _ h.mp.lt h.d3)
    d1 := fun k hk hf => (h3 k hf).elim (h.d1 k hk) (fun e => by have := h.lru.rest.lt k hk; omega)
    d2 := h.d2
    d3 := fun hf => (h3 mb hf).elim h.d3 (fun e => by have := h.mp.lt; omega)
    u1 := h.u1
    u2 := fun k hk => (h3 k hk).elim (h.u2 k) (fun e => Nat.le_trans h.bel.size e)
    u3 := h.u3
    bel := h.bel.trans (hw.below _ h.bel.size h.u2) }⟩

theorem J.mpStep {F' : Value → Option Value} {n' : Nat} (h : J w0 w S L p go X q ns qs mpf mb F n) (h1 : MapOf Try.prog 9 w' mb F' n') (hw : Wr (fun j => j = mb) w w') : J w0 w' S L p go X q ns qs mpf mb F' n' where
  lru := h.lru.wr hw (fun k hk e => h.d2 (e ▸ hk))
  sk := h.sk.keep fun k hk => hw.block k (h.sk.lt hk) (fun e => h.d3 (e ▸ hk))
  mp := h1
  d1 := h.d1
  d2 := h.d2
  d3 := h.d3
  u1 := h.u1
  u2 := h.u2
  u3 := h.u3
  bel := h.bel.trans (hw.below _ h.bel.size (fun k e => e ▸ h.u3))

theorem has_new {nb : Nat} {s : ByteArray} {v : Int} {M : List Ent} {B : Nat} (hm : ∀ x ∈ M, x ∈ L) (hn : (∃ x ∈ L, x.b = nb) ∨ B ≤ nb) : ∀ k, Has S (M ++ [⟨nb, s, v⟩]) k → Has S L k ∨ B ≤ k := by
  rintro k (e | e | e | ⟨x, hx, e⟩)
  · exact .inl (.inl e)
  · exact .inl (.inr (.inl e))
  · exact .inl (.inr (.inr (.inl e)))
  · rcases List.mem_append.1 hx with hx | hx
    · exact .inl (.inr (.inr (.inr ⟨x, hm x hx, e⟩)))
    · rw [List.mem_singleton.1 hx] at e
      rcases hn with ⟨y, hy, e2⟩ | hn
      · exact .inl (.inr (.inr (.inr ⟨y, hy, e2.trans e⟩)))
      · exact .inr (e ▸ hn)

/-- what a key has in the bounded map; 0 without -/
theorem peek_any (h : J w0 w S L p go X q ns qs mpf mb F n) (s : ByteArray) (hs : s.size ≤ maxLen) :
    ∃ (v : Int) (b : Bool), (∀ W, W = w → Calls Try.prog 35 #[ptr S.mb, .string s] W fun e w' => e = .returned (.tuple #[.int .i64 v, .bool b]) ∧ W = w') ∧ ((∃ x ∈ L, x.k = s ∧ x.v = v) ∨ v = 0) := by
  by_cases hx : ∃ x ∈ L, x.k = s
  · obtain ⟨x, hx, rfl⟩ := hx
    exact ⟨x.v, true, fun W hW => hW ▸ peek_yes h.lru.rest hx, .inl ⟨x, hx, rfl, rfl⟩⟩
  · exact ⟨0, false, fun W hW => hW ▸ peek_no h.lru.rest hs (fun x hx2 e => hx ⟨x, hx2, e⟩), .inr rfl⟩

/-- a Put, whatever is there -/
theorem put_any (h : J w0 w S L p go X q ns qs mpf mb F n) (s : ByteArray) (hs : s.size ≤ maxLen) (v : Int) :
    Calls Try.prog 36 #[ptr S.mb, .string s, .int .i64 v] w fun e w' => ∃ (gs : ByteArray) (gb : Bool) (M : List Ent) (nb : Nat), e = .returned (.tuple #[.string gs, .bool gb, .int .i64 0]) ∧ (∀ x ∈ M, x ∈ L) ∧ J w0 w' S (M ++ [⟨nb, s, v⟩]) p go X q ns qs mpf mb F n := by
  by_cases hx : ∃ x ∈ L, x.k = s
  · obtain ⟨x, hx, rfl⟩ := hx
    obtain ⟨A, B, rfl⟩ := List.append_of_mem hx
    refine (put_there h.lru v).mono ?_
    rintro e w' ⟨rfl, h1, hw⟩
    have hm : ∀ y ∈ A ++ B, y ∈ A ++ x :: B := fun y hy => by
      rcases List.mem_append.1 hy with e | e
      · exact List.mem_append.2 (.inl e)
      · exact List.mem_append.2 (.inr (List.mem_cons_of_mem _ e))
    exact ⟨_, _, A ++ B, x.b, rfl, hm, h.lruStep h1 hw (has_new hm (.inl ⟨x, by simp, rfl⟩))⟩
  · have hn : ∀ x ∈ L, x.k ≠ s := fun x hx2 e => hx ⟨x, hx2, e⟩
    by_cases hl : L.length < S.most
    · refine (put_room h.lru hs hn hl v).mono ?_
      rintro e w' ⟨rfl, ⟨nb, hnb, h1⟩, hw⟩
      exact ⟨_, _, L, nb, rfl, fun y hy => hy, h.lruStep h1 hw (has_new (fun y hy => hy) (.inr hnb))⟩
    · cases L with
      | nil => have := h.lru.rest.m1; simp at hl; omega
      | cons y r =>
        refine (put_full h.lru hs hn (by have := h.lru.len; omega) v).mono ?_
        rintro e w' ⟨rfl, ⟨nb, hnb, h1⟩, hw⟩
        exact ⟨_, _, r, nb, rfl, fun x hx => List.mem_cons_of_mem _ hx, h.lruStep h1 hw (has_new (fun x hx => List.mem_cons_of_mem _ hx) (.inr hnb))⟩

theorem get_any {M : List Ent} {y : Ent} (h : J w0 w S (M ++ [y]) p go X q ns qs mpf mb F n) :
    Calls Try.prog 37 #[ptr S.mb, .string y.k] w fun e w' => e = .returned (.tuple #[.int .i64 y.v, .bool true]) ∧ J w0 w' S (M ++ [y]) p go X q ns qs mpf mb F n := by
  refine (get_yes (A := M) (B := []) h.lru).mono ?_
  rintro e w' ⟨rfl, h1, hw⟩
  rw [List.append_nil] at h1
  exact ⟨rfl, h.lruStep h1 hw (fun k hk => .inl hk)⟩

theorem zeroI (w : World) : (zeroValue 3).run Try.prog w = .ok (.int .i64 0) w := by kernel_rfl

theorem look_any {f : Nat → ByteArray} {i : Nat} (h : J w0 w S L p go X q ns qs mpf mb F n) (hc : Counts F f i) (s : ByteArray) (hs : s.size ≤ maxLen) :
    (Instr.lookup 85 (.map (some mb)) (.string s) false).run Try.prog w = .ok (.int .i64 (cnt f i s)) w := by
  have hl := h.mp.look false keyed Try.underlying85 (zeroI w) (Go.WideMaps.keyOf_string_mk Try.underlying9 hs)
  have h2 := hc s
  cases hF : F (.string s) with
  | none => rw [hF] at hl h2; rw [← h2]; simpa using hl
  | some v => rw [hF] at hl h2; rw [← h2]; simpa using hl

theorem store_any {f : Nat → ByteArray} {i : Nat} (h : J w0 w S L p go X q ns qs mpf mb F n) (hc : Counts F f i) (hs : (f i).size ≤ maxLen) :
    ∃ w', (Instr.mapUpdate 85 (.map (some mb)) (.string (f i)) (.int .i64 (cnt f i (f i) + 1 : Nat))).run Try.prog w = .ok () w' ∧ ∃ F' n', Counts F' f (i + 1) ∧ J w0 w' S L p go X q ns qs mpf mb F' n' := by
  obtain ⟨w', h1, h2, h3⟩ := h.mp.store keyed Try.underlying85 (key := .string (f i)) (val := .int .i64 (cnt f i (f i) + 1 : Nat)) (Go.WideMaps.keyOf_string_mk Try.underlying9 hs)
  exact ⟨w', h1, _, _, hc.more, h.mpStep h2 h3⟩

theorem len_le (h : J w0 w S L p go X q ns qs mpf mb F n) : L.length ≤ S.most := h.lru.len

end Go.Proofs.Ytopljjmbekpdmaa.CouA
