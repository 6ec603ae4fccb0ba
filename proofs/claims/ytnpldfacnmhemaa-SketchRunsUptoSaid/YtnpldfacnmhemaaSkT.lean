/- What the laws of sketches open; a call of Add, whatever comes; New where the numbers may not be. -/
import Derived.Test.YtnpldfacnmhemaaSkS
import Derived.Test.YtnpldfacnmhemaaOpn
namespace Go.Proofs.Ytnpldfacnmhemaa.SkT
open Go.ChangeShapes Go.WideShapes Go.ChangeAt Go.RowKit Go.Deep Base Wri Map WldG SkK SkA SkB SkC SkD SkE SkF SkG SkH SkI SkJ SkL SkM SkN SkP SkQ SkR Opn

variable {w w' w0 : World} {p q last t : Nat} {go : Option Nat} {X : Shp} {ns : List Note} {qs : List Nat} {mpf : Nat → Nat}

theorem inB_iff {x m : Int} (h : inB x m = true) : 1 ≤ x ∧ x ≤ m := by
  unfold inB at h
  simp at h
  exact h

theorem refZ_ok (wd bk ro co : Int) (sd : Nat) (h : refZ wd bk ro co = 0) : ∃ (X : Shp) (q : Nat), Ok X q ∧ wd = X.wd ∧ bk = X.bk ∧ ro = X.ro ∧ co = X.co ∧ X.seed = sd := by
  unfold refZ at h
  split at h
  · rename_i hb
    simp only [Bool.and_eq_true] at hb
    obtain ⟨⟨⟨h1, h2⟩, h3⟩, h4⟩ := hb
    have h1 := inB_iff h1
    have h2 := inB_iff h2
    have h3 := inB_iff h3
    have h4 := inB_iff h4
    split at h
    · rename_i hd
      obtain ⟨W, rfl⟩ : ∃ W : Nat, wd = W := ⟨wd.toNat, by omega⟩
      obtain ⟨B, rfl⟩ : ∃ B : Nat, bk = B := ⟨bk.toNat, by omega⟩
      obtain ⟨R, rfl⟩ : ∃ R : Nat, ro = R := ⟨ro.toNat, by omega⟩
      obtain ⟨C, rfl⟩ : ∃ C : Nat, co = C := ⟨co.toNat, by omega⟩
      have hd2 : W % B = 0 := by
        have : ((W % B : Nat) : Int) = 0 := by rw [Int.natCast_emod]; exact hd
        omega
      have hW : W = W / B * B := by
        have := Nat.div_add_mod W B
        rw [hd2, Nat.mul_comm] at this
        omega
      have hq : 0 < W / B := by
        rcases Nat.eq_zero_or_pos (W / B) with e | e
        · rw [e] at hW; omega
        · exact e
      exact ⟨⟨W, B, R, C, sd⟩, W / B, ⟨by dsimp only; omega, by dsimp only; omega, by dsimp only; omega, by dsimp only; omega, by dsimp only; omega, by dsimp only; omega, by dsimp only; omega, rfl, hW, hq⟩, rfl, rfl, rfl, rfl, rfl⟩
    · omega
  · omega

set_option maxRecDepth 20000 in
set_option maxHeartbeats 1000000 in
theorem New_no (wd bk ro co sd r : Int) (hr : refZ wd bk ro co = r) (h0 : r ≠ 0) (w : World) :
    Calls Try.prog 5 #[.int .i64 wd, .int .i64 bk, .int .i64 ro, .int .i64 co, .int .u64 sd] w fun e w' => e = .returned (.tuple #[.pointer none, .int .i64 r]) ∧ Below w.heap.size w w' := by
  have HR := hid (refused_any wd bk ro co (w.alloc (.cells #[.int .i64 wd, .int .i64 bk, .int .i64 ro, .int .i64 co] 79)))
  rw [hr] at HR
  have hrb : (r != 0) = true := by simpa using h0
  clear hr h0
  unfold szv at HR
  go_enter Try.func5, Try.ntmps5
  go_wp2_with fail
  refine HR.out.mono ?_
  rintro e w1 ⟨rfl, hb1⟩
  have HB1 : Hid (Below w.heap.size w w1) := hid (((Below.refl _ w).alloc (Nat.le_refl _) _).trans (hb1.mono (by simp)))
  clear hb1 HR
  go_wp2_with fail
  go_ret2
  exact ⟨rfl, HB1.out⟩

/-- whatever New says -/
theorem New_any (wd bk ro co : Int) (sd : Nat) (w : World) :
    Calls Try.prog 5 #[.int .i64 wd, .int .i64 bk, .int .i64 ro, .int .i64 co, .int .u64 sd] w fun e w' =>
      (refZ wd bk ro co = 0 ∧ ∃ (X : Shp) (q p : Nat), wd = X.wd ∧ bk = X.bk ∧ ro = X.ro ∧ co = X.co ∧ X.seed = sd ∧ e = .returned (.tuple #[.pointer (some ⟨p, 0, none⟩), .int .i64 0]) ∧ Own w w' p none X q 0 [] [] (fun _ => 0)) ∨
      (refZ wd bk ro co ≠ 0 ∧ e = .returned (.tuple #[.pointer none, .int .i64 (refZ wd bk ro co)]) ∧ Below w.heap.size w w') := by
  by_cases h : refZ wd bk ro co = 0
  · obtain ⟨X, q, ho, rfl, rfl, rfl, rfl, rfl⟩ := refZ_ok wd bk ro co sd h
    refine (New_yes X q ho w).mono ?_
    rintro e w1 ⟨p, rfl, hp, hf, hb⟩
    refine .inl ⟨h, X, q, p, rfl, rfl, rfl, rfl, rfl, rfl, hf, (fun k hk => by
      rcases hk with e | e | e
      · omega
      · cases e
      · rcases e with ⟨b, hb', _⟩; cases hb'), hb⟩
  · refine (New_no wd bk ro co sd _ rfl h w).mono ?_
    rintro e w1 ⟨rfl, hb⟩
    exact .inr ⟨h, rfl, hb⟩

theorem ints_below {a : Option Addr} {n : Nat} {f : Nat → Int} (h : Ints w a n f) (hb : Below w.heap.size w w') : Ints w' a n f := fun h0 => by
  obtain ⟨g, o, rfl, hg, hc⟩ := h h0
  exact ⟨g, o, rfl, Nat.lt_of_lt_of_le hg hb.size, fun i hi => (hb.cell (p := ⟨g, o + i, none⟩) hg).trans (hc i hi)⟩

theorem good_iff {f : Nat → Int} {n : Nat} : goodC f n = true ↔ ∀ i, i < n → 0 ≤ f i ∧ f i ≤ 1099511627776 := by
  unfold goodC badC
  rw [decide_eq_true_iff]
  refine ⟨fun h i hi => ?_, fun h i hi => ?_⟩
  · have := h i hi
    rw [decide_eq_false_iff_not] at this
    omega
  · have := h i hi
    rw [decide_eq_false_iff_not]
    omega

/-- what is kept behind an Add -/
noncomputable def lastA (last : Nat) (t : Int) (f : Nat → Int) (n : Nat) : Nat := if refT last t (goodC f n) = 0 then t.toNat else last
noncomputable def notesA (last : Nat) (ns : List Note) (t : Int) (s : ByteArray) (f : Nat → Int) (n : Nat) : List Note := if refT last t (goodC f n) = 0 then ns ++ [⟨t.toNat, s, SkD.sumTo (fun i => (f i).toNat) n⟩] else ns

theorem refT_zero {last : Nat} {t : Int} {b : Bool} (h : refT last t b = 0) : b = true ∧ 0 ≤ t ∧ t ≤ 1152921504606846976 ∧ (last : Int) ≤ t := by
  unfold refT at h
  split at h
  · omega
  · rename_i h1
    split at h
    · omega
    · cases b
      · simp at h1
      · exact ⟨rfl, by omega, by omega, by omega⟩

theorem Add_any (hO : Own w0 w p go X q last ns qs mpf) (t : Int) (s : ByteArray) (hs : s.size ≤ maxLen) (a : Option Addr) (n cap : Nat) (f : Nat → Int) (hn : n ≤ 9223372036854775807) (hI : Ints w0 a n f) :
    Calls Try.prog 11 #[.pointer (some ⟨p, 0, none⟩), .int .i64 t, .string s, .slice a n cap] w fun e w' =>
      e = .returned (.int .i64 (refT last t (goodC f n))) ∧ ∃ go' qs' mpf', Own w0 w' p go' X q (lastA last t f n) (notesA last ns t s f n) qs' mpf' := by
  have hI2 : Ints w a n f := ints_below hI hO.bel
  unfold lastA notesA
  by_cases h : refT last t (goodC f n) = 0
  · obtain ⟨hg, h1, h2, h3⟩ := refT_zero h
    rw [h, if_pos rfl, if_pos rfl]
    have hge := good_iff.1 hg
    have hg2 : goodC (fun i => (((fun i => (f i).toNat) i : Nat) : Int)) n = true := good_iff.2 fun i hi => by have := hge i hi; show 0 ≤ (((f i).toNat : Nat) : Int) ∧ (((f i).toNat : Nat) : Int) ≤ 1099511627776; omega
    have hI3 : Ints w a n (fun i => (((fun i => (f i).toNat) i : Nat) : Int)) := fun h0 => by
      obtain ⟨g, o, rfl, hgl, hc⟩ := hI2 h0
      refine ⟨g, o, rfl, hgl, fun i hi => ?_⟩
      have := hge i hi
      rw [hc i hi]
      show some (Value.int .i64 (f i)) = some (Value.int .i64 (((f i).toNat : Nat) : Int))
      rw [show (((f i).toNat : Nat) : Int) = f i by omega]
    have H := Add_yes hO.full (t := t.toNat) (by omega) (by omega) s hs a n cap (fun i => (f i).toNat) hn hI3 hg2 (fun h0 g o e hk => by
      obtain ⟨g2, o2, e2, hgl, _⟩ := hI h0
      rw [e] at e2; cases e2
      have := hO.up g hk; omega)
    rw [show ((t.toNat : Nat) : Int) = t by omega] at H
    refine H.mono ?_
    rintro e w1 ⟨rfl, ha⟩
    exact ⟨rfl, hO.added ha⟩
  · rw [if_neg h, if_neg h]
    obtain ⟨_, v, hp, _⟩ := hO.full.sk
    obtain ⟨-, -, -, -, -, c5, -, -⟩ := sv_cells hp
    refine (Add_no c5 t s a n cap f hn hI2 _ rfl h).mono ?_
    rintro e w1 ⟨rfl, rfl⟩
    exact ⟨rfl, go, qs, mpf, hO⟩

/-- a deed -/
structure Deed where
  kind : Int
  t : Int
  key : ByteArray
  a : Option Addr
  n : Nat
  cap : Nat
  f : Nat → Int

def dw (d : Deed) : Array Value := #[.int .i64 d.kind, .int .i64 d.t, .string d.key, .slice d.a d.n d.cap]

def Deeds (w : World) (a : Option Addr) (len : Nat) (D : Nat → Deed) : Prop :=
  len ≤ 9223372036854775807 ∧ (0 < len → ∃ p q, a = some ⟨p, q, none⟩ ∧ p < w.heap.size ∧ ∀ i, i < len → ∀ (j : Nat) v, (dw (D i))[j]? = some v → w.cell? ⟨p, q + i * 4 + j, none⟩ = some v) ∧
  ∀ i, i < len → (D i).key.size ≤ maxLen ∧ (D i).n ≤ 9223372036854775807 ∧ Ints w (D i).a (D i).n (D i).f

theorem deeds_below {a : Option Addr} {len : Nat} {D : Nat → Deed} (h : Deeds w a len D) (hb : Below w.heap.size w w') : Deeds w' a len D := by
  obtain ⟨h1, h2, h3⟩ := h
  refine ⟨h1, fun h0 => ?_, fun i hi => ⟨(h3 i hi).1, (h3 i hi).2.1, ints_below (h3 i hi).2.2 hb⟩⟩
  obtain ⟨p, q, rfl, hp, hc⟩ := h2 h0
  exact ⟨p, q, rfl, Nat.lt_of_lt_of_le hp hb.size, fun i hi j v hv => (hb.cell (p := ⟨p, q + i * 4 + j, none⟩) hp).trans (hc i hi j v hv)⟩

theorem ints_of {H : Type} {enc : TypeId × Value → H} {w : World} {base : Nat} {spare : Nat → Bool} {held : Bool} {k : Nat} {v : Value} {z : DataW H × List MemPlace}
    (h : DataW.trod enc Try.prog w base spare held k 37 [v] = some z) :
    ∃ (a : Option Addr) (n cap : Nat) (f : Nat → Int), v = .slice a n cap ∧ n ≤ 9223372036854775807 ∧ Ints w a n f := by
  rcases open_ints Try.underlying37 Try.underlying3 (by kernel_rfl) h with ⟨hn, _⟩ | ⟨a, l, c, zs, hcs, _, hl, hm, hz, _, hc, _⟩
  · simp at hn
    exact ⟨none, 0, 0, fun _ => 0, hn, by omega, fun h => by omega⟩
  · simp at hcs
    have hlz : l ≤ zs.length := by rw [hz]; split <;> omega
    unfold maxLen at hm
    refine ⟨some a, l, c, fun i => zs.getD i 0, hcs, by omega, fun h0 => ?_⟩
    obtain ⟨b, off, spot⟩ := a
    have h00 := hc 0 (by omega)
    have hspot : spot = none := by simpa [Addr.add] using World.cell?_spot h00
    subst hspot
    refine ⟨b, off, rfl, by have := World.block_lt_of_cell? _ _ h00; simpa [Addr.add] using this, fun i h => ?_⟩
    have := hc i (by omega)
    rwa [Go.WideShapes.add_plain] at this

theorem underD : ∃ fs, Try.prog.underlying 39 = some (.struct fs) ∧ oneCellFields Try.prog fs = true ∧ Try.prog.cellsOf 39 = fs.size ∧ fs.size = 4 ∧
    (fs.toList.map (·.type)) = [3, 3, 9, 37] := ⟨_, Try.underlying39, by kernel_rfl, by kernel_rfl, by kernel_rfl, by kernel_rfl⟩

theorem deeds_of {H : Type} {enc : TypeId × Value → H} {W : World} {base : Nat} {spare : Nat → Bool} {held : Bool} {a0 : Option Addr} {len0 cap0 : Nat} {d : DataW H} {p : List MemPlace}
    (h : DataW.Trod enc Try.prog W base spare held 25 (.slice a0 len0 cap0) d p) : ∃ D, Deeds W a0 len0 D := by
  obtain ⟨fuel, hf⟩ := h
  obtain ⟨fs, hu, h1, h2, h5, ht⟩ := underD
  rcases row_at Try.underlying25 hu h1 h2 (by simpa [Value.cells] using hf) with ⟨rfl, rfl⟩ | ⟨a, rfl, hl, hm, hi⟩
  · exact ⟨fun _ => ⟨0, 0, ⟨#[]⟩, none, 0, 0, fun _ => 0⟩, by omega, fun h => by omega, fun i h => by omega⟩
  · have each : ∀ i, i < len0 → ∃ D : Deed, (∀ (j : Nat) v, (dw D)[j]? = some v → W.cell? (a.add (i * 4 + j)) = some v) ∧ D.key.size ≤ maxLen ∧ D.n ≤ 9223372036854775807 ∧ Ints W D.a D.n D.f := by
      intro i hil
      have hi := hi i hil
      rw [h5] at hi
      have hfl : fs.toList.length = 4 := by simpa using h5
      have hty : ∀ j (hj : j < 4), ∃ f, fs[j]? = some f ∧ some f.type = ([3, 3, 9, 37] : List TypeId)[j]? := fun j hj => by
        refine ⟨fs[j]'(by omega), Array.getElem?_eq_getElem (by omega), ?_⟩
        rw [← ht]
        simp [h5, hj]
      obtain ⟨f0, g0, t0⟩ := hty 0 (by omega)
      obtain ⟨f1, g1, t1⟩ := hty 1 (by omega)
      obtain ⟨f2, g2, t2⟩ := hty 2 (by omega)
      obtain ⟨f3, g3, t3⟩ := hty 3 (by omega)
      obtain ⟨v0, z0, k0, c0, r0⟩ := hi 0 f0 g0
      obtain ⟨v1, z1, k1, c1, r1⟩ := hi 1 f1 g1
      obtain ⟨v2, z2, k2, c2, r2⟩ := hi 2 f2 g2
      obtain ⟨v3, z3, k3, c3, r3⟩ := hi 3 f3 g3
      simp only [List.getElem?_cons_zero, List.getElem?_cons_succ, Option.some.injEq] at t0 t1 t2 t3
      rw [t0] at r0; rw [t1] at r1; rw [t2] at r2; rw [t3] at r3
      obtain ⟨n0, e0, _, _⟩ := DataW.trod_int Try.underlying3 r0
      obtain ⟨n1, e1, _, _⟩ := DataW.trod_int Try.underlying3 r1
      obtain ⟨n2, e2, _, hs2⟩ := DataW.trod_string Try.underlying9 r2
      obtain ⟨ca, cn, cc, cf, e3, hn, hc⟩ := ints_of r3
      simp only [List.cons.injEq, and_true] at e0 e1 e2
      subst e0 e1 e2 e3
      refine ⟨⟨n0, n1, n2, ca, cn, cc, cf⟩, fun j v hv => ?_, hs2, hn, hc⟩
      match j, hv with
      | 0, hv => simp [dw] at hv; rw [← hv]; exact c0
      | 1, hv => simp [dw] at hv; rw [← hv]; exact c1
      | 2, hv => simp [dw] at hv; rw [← hv]; exact c2
      | 3, hv => simp [dw] at hv; rw [← hv]; exact c3
      | j + 4, hv => simp [dw] at hv
    obtain ⟨D, hD⟩ := choose2 ⟨0, 0, ⟨#[]⟩, none, 0, 0, fun _ => 0⟩ each
    refine ⟨D, by unfold maxLen at hm; omega, fun h0 => ?_, fun i hil => (hD i hil).2⟩
    obtain ⟨b, off, spot⟩ := a
    have h00 := (hD 0 h0).1 0 _ rfl
    have hspot : spot = none := by simpa [Addr.add] using World.cell?_spot h00
    subst hspot
    refine ⟨b, off, rfl, World.block_lt_of_cell? _ _ h00, fun i hil j v hv => ?_⟩
    have h1 := (hD i hil).1 j v hv
    rw [Go.WideShapes.add_plain] at h1
    rw [show off + i * 4 + j = off + (i * 4 + j) by omega]
    exact h1

theorem underS : ∃ fs, Try.prog.underlying 24 = some (.struct fs) ∧ oneCellFields Try.prog fs = true ∧ Try.prog.cellsOf 24 = fs.size ∧ fs.size = 5 ∧
    (fs.toList.map (·.type)) = [3, 3, 3, 3, 22] := ⟨_, Try.underlying24, by kernel_rfl, by kernel_rfl, by kernel_rfl, by kernel_rfl⟩

theorem arg_at {H : Type} {enc : TypeId × Value → H} {P : Program} {w : World} {base : Nat} {spare : Nat → Bool} {held : Bool} {e : TypeId} {fs : Array Field} {n : Nat} {cs : List Value} {y : DataW H × List MemPlace} (he : P.underlying e = some (.struct fs)) (hone : oneCellFields P fs = true) (hC : P.cellsOf e = fs.size)
    (ht : DataW.trod enc P w base spare held n e cs = some y) (j : Nat) (f : Field) (hj : fs[j]? = some f) :
    ∃ v z k, cs[j]? = some v ∧ DataW.trod enc P w base spare held k f.type [v] = some z := by
  obtain ⟨xs, k, _, _, hlen, hxl, hg⟩ := DataW.trod_struct he ht
  obtain ⟨o1, o2⟩ := hone_of hone j f hj
  have hjs : j < fs.size := (Array.getElem?_eq_some_iff.1 hj).1
  have hjc : j < cs.length := by omega
  have hg := hg j f hj
  rw [o1, o2, List.drop_eq_getElem_cons hjc] at hg
  simp only [List.take_succ_cons, List.take_zero] at hg
  obtain ⟨z, hz⟩ : ∃ z, xs[j]? = some z := ⟨xs[j]'(by omega), List.getElem?_eq_getElem (by omega)⟩
  exact ⟨cs[j], z, k, List.getElem?_eq_getElem hjc, by rw [hg, hz]⟩

set_option maxRecDepth 100000 in
theorem shape_of {H : Type} {enc : TypeId × Value → H} {W : World} {base b0 : Nat} {r : Reach} {spare : Nat → Bool} {held : Bool} {v : Value} {d : DataW H} {p : List MemPlace}
    (hv : Value.okWide Try.prog W r b0 24 v) (h : DataW.Trod enc Try.prog W base spare held 24 v d p) :
    ∃ (wd bk ro co : Int) (sd : Nat), v = .agg #[.int .i64 wd, .int .i64 bk, .int .i64 ro, .int .i64 co, .int .u64 sd] ∧ (Lit.int .i64 ro).wf = true := by
  obtain ⟨fuel, hf⟩ := h
  obtain ⟨fs, hu, h1, h2, h5, ht⟩ := underS
  obtain ⟨cs, rfl, hcs⟩ := okWide_struct hu hv
  have hf : DataW.trod enc Try.prog W base spare held fuel 24 cs.toList = some (d, p) := by
    rw [show (Value.agg cs).cells = cs from by unfold Value.cells; rfl] at hf
    exact hf
  have hcl : cs.toList.length = 5 := by rw [Array.length_toList, hcs, h2, h5]
  have hfl : fs.toList.length = 5 := by simpa using h5
  have hty : ∀ j (hj : j < 5), ∃ f, fs[j]? = some f ∧ some f.type = ([3, 3, 3, 3, 22] : List TypeId)[j]? := fun j hj => by
    refine ⟨fs[j]'(by omega), Array.getElem?_eq_getElem (by omega), ?_⟩
    rw [← ht]
    simp [h5, hj]
  obtain ⟨f0, g0, t0⟩ := hty 0 (by omega)
  obtain ⟨f1, g1, t1⟩ := hty 1 (by omega)
  obtain ⟨f2, g2, t2⟩ := hty 2 (by omega)
  obtain ⟨f3, g3, t3⟩ := hty 3 (by omega)
  obtain ⟨f4, g4, t4⟩ := hty 4 (by omega)
  obtain ⟨v0, z0, k0, c0, r0⟩ := arg_at hu h1 h2 hf 0 f0 g0
  obtain ⟨v1, z1, k1, c1, r1⟩ := arg_at hu h1 h2 hf 1 f1 g1
  obtain ⟨v2, z2, k2, c2, r2⟩ := arg_at hu h1 h2 hf 2 f2 g2
  obtain ⟨v3, z3, k3, c3, r3⟩ := arg_at hu h1 h2 hf 3 f3 g3
  obtain ⟨v4, z4, k4, c4, r4⟩ := arg_at hu h1 h2 hf 4 f4 g4
  simp only [List.getElem?_cons_zero, List.getElem?_cons_succ, Option.some.injEq] at t0 t1 t2 t3 t4
  rw [t0] at r0; rw [t1] at r1; rw [t2] at r2; rw [t3] at r3; rw [t4] at r4
  obtain ⟨n0, e0, _, _⟩ := DataW.trod_int Try.underlying3 r0
  obtain ⟨n1, e1, _, _⟩ := DataW.trod_int Try.underlying3 r1
  obtain ⟨n2, e2, _, w2⟩ := DataW.trod_int Try.underlying3 r2
  obtain ⟨n3, e3, _, _⟩ := DataW.trod_int Try.underlying3 r3
  obtain ⟨n4, e4, _, w4⟩ := DataW.trod_int Try.underlying22 r4
  simp only [List.cons.injEq, and_true] at e0 e1 e2 e3 e4
  subst e0 e1 e2 e3 e4
  have h4 : 0 ≤ n4 := by
    simp only [Lit.wf, Bool.and_eq_true, decide_eq_true_eq] at w4
    have := w4.1
    have e : IntKind.u64.min = 0 := by decide
    omega
  refine ⟨n0, n1, n2, n3, n4.toNat, ?_, w2⟩
  rw [show ((n4.toNat : Nat) : Int) = n4 by omega]
  congr 1
  apply Array.ext'
  match hl : cs.toList, hcl with
  | [a, b, c, d, e], _ =>
    rw [hl] at c0 c1 c2 c3 c4
    simp at c0 c1 c2 c3 c4
    simp [c0, c1, c2, c3, c4]

end Go.Proofs.Ytnpldfacnmhemaa.SkT
