/- A sketch of the program beside the document's: Add and Fork of both. -/
import Derived.Test.YtnpldfacnmhemaaSruG
namespace Go.Proofs.Ytnpldfacnmhemaa.SruH
open Go.ChangeShapes Go.WideShapes Go.ChangeAt Go.RowKit Go.Deep Base Wri Map WldA WldF WldG SkK SkA SkB SkC SkD SkE SkF SkG SkH SkI SkJ SkL SkM SkN SkP SkQ SkR SkS SkT SkU SruA SruB SruC SruD SruE SruF SruG
set_option linter.unusedVariables false

/-- the blocks of both -/
def Foot (p b : Nat) (go : Option Nat) (qs : List Nat) (mpf : Nat → Nat) (rv : Value) (k : Nat) : Prop := Ft p go qs mpf k ∨ k = b ∨ rv.ownBlock = some k

/-- both, in blocks from N on, none of them in S; l1, rs2: what the program's was told -/
structure Pr (N : Nat) (S : List Nat) (w : World) (p b : Nat) (go : Option Nat) (X : Shp) (q l1 l2 : Nat) (ns : List Note) (qs : List Nat) (mpf : Nat → Nat) (B : Nat) (rv : Value) (rs rs2 : List Note) : Prop where
  full : Full w p go X q l1 ns qs mpf
  ref : IsRS w b B X q l2 rv rs
  hB : B ≤ w.heap.size
  up : ∀ k, Foot p b go qs mpf rv k → N ≤ k ∧ ¬ k ∈ S
  sep : ∀ k, Ft p go qs mpf k → k ≠ b ∧ rv.ownBlock ≠ some k
  slt : ∀ k, k ∈ S → k < w.heap.size
  alk : Alk ns rs2

/-- what a call leaves -/
structure Kp (N : Nat) (S : List Nat) (w w' : World) : Prop where
  bel : Below N w w'
  safe : ∀ k, k ∈ S → w'.heap[k]? = w.heap[k]?

variable {N p b B q last l1 l2 m : Nat} {S : List Nat} {w w' w1 w2 : World} {go : Option Nat} {X : Shp} {ns rs rs2 : List Note} {qs : List Nat} {mpf : Nat → Nat} {rv : Value}

theorem Kp.refl (N : Nat) (S : List Nat) (w : World) : Kp N S w w := ⟨Below.refl _ _, fun _ _ => rfl⟩
theorem Kp.trans (h : Kp N S w w1) (k : Kp N S w1 w2) : Kp N S w w2 := ⟨h.bel.trans k.bel, fun j hj => (k.safe j hj).trans (h.safe j hj)⟩
theorem Kp.drewN (h : Kp N S w w1) (n : Nat) : Kp N S w (w1.drewN n) := ⟨below_drewN h.bel n, h.safe⟩
theorem Kp.drew (h : Kp N S w w1) : Kp N S w w1.drew := ⟨h.bel.drew, h.safe⟩

theorem Pr.lt (h : Pr N S w p b go X q l1 l2 ns qs mpf B rv rs rs2) {k : Nat} (hk : Foot p b go qs mpf rv k) : k < w.heap.size := by
  rcases hk with e | rfl | e
  · exact h.full.lt e
  · exact h.ref.lt
  · exact (h.ref.own.lt k e).2

/-- nothing of theirs is written -/
theorem Pr.keep (h : Pr N S w p b go X q l1 l2 ns qs mpf B rv rs rs2) (hs : w.heap.size ≤ w'.heap.size) (hk : ∀ k, Foot p b go qs mpf rv k → w'.heap[k]? = w.heap[k]?) : Pr N S w' p b go X q l1 l2 ns qs mpf B rv rs rs2 :=
  ⟨h.full.keep fun k e => hk k (.inl e), h.ref.keep (hk b (.inr (.inl rfl))) (fun g e => hk g (.inr (.inr e))), Nat.le_trans h.hB hs, h.up, h.sep, fun k e => Nat.lt_of_lt_of_le (h.slt k e) hs, h.alk⟩
theorem Pr.below (h : Pr N S w p b go X q l1 l2 ns qs mpf B rv rs rs2) (hb : Below w.heap.size w w') : Pr N S w' p b go X q l1 l2 ns qs mpf B rv rs rs2 :=
  h.keep hb.size (fun k e => hb.block k (h.lt e))
theorem Pr.more (h : Pr N S w p b go X q l1 l2 ns qs mpf B rv rs rs2) (d : Nat) (hd : w.heap.size ≤ d) (hb : Below w.heap.size w w') (hd2 : d < w'.heap.size) : Pr N (d :: S) w' p b go X q l1 l2 ns qs mpf B rv rs rs2 := by
  have h2 := h.below hb
  refine ⟨h2.full, h2.ref, h2.hB, fun k hk => ⟨(h.up k hk).1, fun e => ?_⟩, h2.sep, fun k e => ?_, h2.alk⟩
  · rcases List.mem_cons.1 e with e | e
    · have := h.lt hk; omega
    · exact (h.up k hk).2 e
  · rcases List.mem_cons.1 e with e | e
    · omega
    · exact h2.slt k e
theorem Pr.less {S' : List Nat} (h : Pr N S w p b go X q l1 l2 ns qs mpf B rv rs rs2) (hs : ∀ k, k ∈ S' → k ∈ S) : Pr N S' w p b go X q l1 l2 ns qs mpf B rv rs rs2 :=
  ⟨h.full, h.ref, h.hB, fun k hk => ⟨(h.up k hk).1, fun e => (h.up k hk).2 (hs k e)⟩, h.sep, fun k e => h.slt k (hs k e), h.alk⟩

noncomputable def rsA (last : Nat) (rs : List Note) (t : Int) (s : ByteArray) (f : Nat → Int) (n : Nat) : List Note := if refT last t (goodC f n) = 0 then rs ++ newR t.toNat s f n else rs

theorem rsA_len (last : Nat) (rs : List Note) (t : Int) (s : ByteArray) (f : Nat → Int) (n : Nat) : (rsA last rs t s f n).length ≤ rs.length + n := by
  unfold rsA
  split
  · rw [List.length_append, newR_len]; omega
  · omega

theorem padd (h : Pr N S w p b go X q last last ns qs mpf B rv rs rs) (t : Int) (s : ByteArray) (hs : s.size ≤ maxLen) (a : Option Addr) (n cap : Nat) (f : Nat → Int) (hn : n ≤ 9223372036854775807) (hI : Ints w a n f) (hfar : 0 < n → ∀ g o, a = some ⟨g, o, none⟩ → g < N ∨ g ∈ S) (hN : N ≤ w.heap.size) :
    Calls Try.prog 11 #[.pointer (some ⟨p, 0, none⟩), .int .i64 t, .string s, .slice a n cap] w fun e w' =>
      e = .returned (.int .i64 (refT last t (goodC f n))) ∧ (∃ go' qs' mpf', Pr N S w' p b go' X q (lastA last t f n) last (notesA last ns t s f n) qs' mpf' B rv rs (rsA last rs t s f n)) ∧ Kp N S w w' := by
  unfold lastA notesA rsA
  by_cases h0 : refT last t (goodC f n) = 0
  · obtain ⟨hg, h1, h2, h3⟩ := refT_zero h0
    rw [h0, if_pos rfl, if_pos rfl, if_pos rfl]
    have hge := good_iff.1 hg
    have hg2 : goodC (fun i => (((fun i => (f i).toNat) i : Nat) : Int)) n = true := good_iff.2 fun i hi => by have := hge i hi; show 0 ≤ (((f i).toNat : Nat) : Int) ∧ (((f i).toNat : Nat) : Int) ≤ 1099511627776; omega
    have hI3 : Ints w a n (fun i => (((fun i => (f i).toNat) i : Nat) : Int)) := fun h0 => by
      obtain ⟨g, o, rfl, hgl, hc⟩ := hI h0
      refine ⟨g, o, rfl, hgl, fun i hi => ?_⟩
      have := hge i hi
      rw [hc i hi]
      show some (Value.int .i64 (f i)) = some (Value.int .i64 (((f i).toNat : Nat) : Int))
      rw [show (((f i).toNat : Nat) : Int) = f i by omega]
    have H := Add_yes h.full (t := t.toNat) (by omega) (by omega) s hs a n cap (fun i => (f i).toNat) hn hI3 hg2 (fun h00 g o e hk => by
      have := h.up g (.inl hk)
      rcases hfar h00 g o e with e | e
      · omega
      · exact this.2 e)
    rw [show ((t.toNat : Nat) : Int) = t by omega] at H
    refine H.mono ?_
    rintro e w1 ⟨rfl, go', qs', mpf', hF, hW, hft⟩
    have hrk : IsRS w1 b B X q last rv rs := h.ref.wr hW (fun e => (h.sep b e).1 rfl) (fun g hg e => (h.sep g e).2 hg)
    refine ⟨rfl, ⟨go', qs', mpf', hF, hrk, Nat.le_trans h.hB hW.size, fun k hk => ?_, fun k hk => ?_, fun k e => Nat.lt_of_lt_of_le (h.slt k e) hW.size, h.alk.add _ _ _ _⟩, hW.below N hN (fun k e => (h.up k (.inl e)).1), fun k e => hW.block k (h.slt k e) (fun e2 => (h.up k (.inl e2)).2 e)⟩
    · rcases hk with hk | hk
      · rcases hft k hk with e | e
        · exact h.up k (.inl e)
        · exact ⟨by omega, fun e2 => by have := h.slt k e2; omega⟩
      · exact h.up k (.inr hk)
    · rcases hft k hk with e | e
      · exact h.sep k e
      · exact ⟨fun e2 => by have := h.ref.lt; omega, fun e2 => by have := (h.ref.own.lt k e2).2; omega⟩
  · rw [if_neg h0, if_neg h0, if_neg h0]
    obtain ⟨_, v, hp, _⟩ := h.full.sk
    obtain ⟨-, -, -, -, -, c5, -, -⟩ := sv_cells hp
    refine (Add_no c5 t s a n cap f hn hI _ rfl h0).mono ?_
    rintro e w1 ⟨rfl, rfl⟩
    exact ⟨rfl, ⟨go, qs, mpf, h⟩, Kp.refl _ _ _⟩

theorem radd {l1 : Nat} (h : Pr N S w p b go X q l1 last ns qs mpf B rv rs rs2) (t : Int) (s : ByteArray) (hs : s.size ≤ maxLen) (a : Option Addr) (n cap : Nat) (f : Nat → Int) (hn : n ≤ 9223372036854775807) (hfew : rs.length + n ≤ 2000000) (hI : Ints w a n f) (hfar : 0 < n → ∀ g o, a = some ⟨g, o, none⟩ → g < N ∨ g ∈ S) (hN : N ≤ w.heap.size) :
    Calls Try.prog 12 #[.pointer (some ⟨b, 0, none⟩), .int .i64 t, .string s, .slice a n cap] w fun e w' =>
      e = .returned (.int .i64 (refT last t (goodC f n))) ∧ (∃ rv', Pr N S w' p b go X q l1 (lastA last t f n) ns qs mpf B rv' (rsA last rs t s f n) rs2) ∧ Kp N S w w' := by
  unfold lastA rsA
  by_cases h0 : refT last t (goodC f n) = 0
  · obtain ⟨hg, h1, h2, h3⟩ := refT_zero h0
    rw [h0, if_pos rfl, if_pos rfl]
    have H := radd_yes h.ref h.hB t.toNat (by omega) (by omega) s hs a n cap f hfew hI hg (fun g o e h00 => by
      rcases hfar h00 g o e with e | e
      · exact ⟨fun e2 => by have := (h.up b (.inr (.inl rfl))).1; omega, fun e2 => by have := (h.up g (.inr (.inr e2))).1; omega⟩
      · exact ⟨fun e2 => (h.up b (.inr (.inl rfl))).2 (e2 ▸ e), fun e2 => (h.up g (.inr (.inr e2))).2 e⟩)
    rw [show ((t.toNat : Nat) : Int) = t by omega] at H
    refine H.mono ?_
    rintro e w1 ⟨rfl, rv', hR, hv, hW⟩
    have hft : ∀ k, (k = b ∨ rv.ownBlock = some k) → Foot p b go qs mpf rv k := fun k e => .inr e
    refine ⟨rfl, ⟨rv', h.full.keep (fun k hk => hW.block k (h.full.lt hk) (fun e => e.elim (h.sep k hk).1 (h.sep k hk).2)), hR, Nat.le_trans h.hB hW.size, fun k hk => ?_, fun k hk => ?_, fun k e => Nat.lt_of_lt_of_le (h.slt k e) hW.size, h.alk⟩, hW.below N hN (fun k e => (h.up k (hft k e)).1), fun k e => hW.block k (h.slt k e) (fun e2 => (h.up k (hft k e2)).2 e)⟩
    · rcases hk with hk | hk | hk
      · exact h.up k (.inl hk)
      · exact h.up k (.inr (.inl hk))
      · rcases hv k hk with e | e
        · exact h.up k (.inr (.inr e))
        · exact ⟨by omega, fun e2 => by have := h.slt k e2; omega⟩
    · refine ⟨(h.sep k hk).1, fun e => ?_⟩
      rcases hv k e with e | e
      · exact (h.sep k hk).2 e
      · have := h.full.lt hk; omega
  · rw [if_neg h0, if_neg h0]
    refine (radd_no h.ref t s a n cap f hn hI _ rfl h0).mono ?_
    rintro e w1 ⟨rfl, rfl⟩
    exact ⟨rfl, ⟨rv, h⟩, Kp.refl _ _ _⟩

/-- both forks, apart from what was there -/
theorem Pr.forked {p' b' : Nat} {go' : Option Nat} {mpf' : Nat → Nat} {rv' : Value} (h : Pr N S w p b go X q last last ns qs mpf B rv rs rs) (F1 : Full w1 p' go' X q last ns qs mpf') (F2 : ∀ k, Ft p' go' qs mpf' k → w.heap.size ≤ k) (F3 : Below w.heap.size w w1)
    (G1 : IsRS w2 b' w1.heap.size X q last rv' rs) (G2 : w1.heap.size ≤ b') (G3 : ∀ g, rv'.ownBlock = some g → w1.heap.size ≤ g) (G4 : Below w1.heap.size w1 w2) :
    Pr w.heap.size S w2 p' b' go' X q last last ns qs mpf' w1.heap.size rv' rs rs := by
  have hs := F3.size
  have hs2 := G4.size
  refine ⟨F1.below G4, G1, hs2, fun k hk => ?_, fun k hk => ?_, fun k e => by have := h.slt k e; omega, h.alk⟩
  · have hN : w.heap.size ≤ k := by
      rcases hk with e | e | e
      · exact F2 k e
      · omega
      · have := G3 k e; omega
    exact ⟨hN, fun e => by have := h.slt k e; omega⟩
  · have := F1.lt hk
    exact ⟨by omega, fun e => by have := G3 k e; omega⟩

end Go.Proofs.Ytnpldfacnmhemaa.SruH
