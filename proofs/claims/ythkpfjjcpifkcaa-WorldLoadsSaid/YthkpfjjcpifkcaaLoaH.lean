/- The walk of WorldLoads. -/
import Derived.Test.YthkpfjjcpifkcaaLoaG
import Derived.Test.YthkpfjjcpifkcaaWldD
import Derived.Test.YthkpfjjcpifkcaaMem
namespace Go.Proofs.Ythkpfjjcpifkcaa.LoaH
open Go.ChangeShapes Go.WideShapes Go.ChangeAt Go.RowKit Base ClkM Clk WldB WldD WldF Wri Mem LoaA LoaB LoaC LoaD LoaE LoaF LoaG
set_option linter.unusedVariables false

/-- what lies in memory: the load with list v of N samples F; the document's with list rv of M samples G; the fork; what was handed in -/
structure St (W : World) (lb rb c : Nat) (v : Value) (N : Nat) (F : Nat → Nat → Int) (rv : Value) (M : Nat) (G : Nat → Nat → Int) (v9 : Value) (na : Nat) (Fa : Nat → Nat → Int) (v7 : Value) (nb : Nat) (Fb : Nat → Nat → Int) (w : World) : Prop where
  load : ∃ B, IsLoad w lb B v N F
  ref : ∃ B, IsRef w rb B rv M G
  old : ∃ B, IsLoad w c B v9 na Fa
  inn : ∃ B, Has w B v7 nb Fb
  bel : Below W.heap.size W w

variable {W w w' : World} {lb rb c N M na nb : Nat} {v rv v9 v7 : Value} {F G Fa Fb : Nat → Nat → Int}

theorem St.below (h : St W lb rb c v N F rv M G v9 na Fa v7 nb Fb w) (hb : Below w.heap.size w w') : St W lb rb c v N F rv M G v9 na Fa v7 nb Fb w' := by
  obtain ⟨⟨B1, h1⟩, ⟨B2, h2⟩, ⟨B3, h3⟩, ⟨B4, h4⟩, h5⟩ := h
  exact ⟨⟨B1, h1.below hb⟩, ⟨B2, h2.below hb⟩, ⟨B3, h3.below hb⟩, ⟨B4, Has.below h4 hb⟩, Below.trans h5 (hb.mono h5.size)⟩

theorem Sm.of_own {w : World} {B n : Nat} {e : TypeId} {va : Option Addr} {cap : Nat} {F : Nat → Nat → Int} (h : w.ownsRow B e 3 (.slice va n cap) n (flat F n)) : Sm w va n F := by
  obtain ⟨a, c, e1, h1, _⟩ := Sm.owned h
  cases e1
  exact h1

/-- the calls, over that -/
theorem st_same1 {ca cb : Nat} {a7 ab : Option Addr} (hS : Sm W ab nb Fb) (hn : nb ≤ 9223372036854775807) (h : St W lb rb c v N F rv M G v9 na Fa (.slice a7 nb ca) nb Fb w) :
    Calls Try.prog 20 #[.slice a7 nb ca, .slice ab nb cb] w fun e w' => e = .returned (.bool true) ∧ St W lb rb c v N F rv M G v9 na Fa (.slice a7 nb ca) nb Fb w' := by
  obtain ⟨B, h7⟩ := h.inn
  refine (same_yes a7 ab nb ca cb Fb w hn (Sm.of_own h7.own) (hS.below h.bel)).mono ?_
  rintro e w' ⟨rfl, m, rfl⟩
  exact ⟨rfl, h.below (drewN_below w m)⟩

theorem st_samples (hN : N ≤ 4096) (h : St W lb rb c v N F rv M G v9 na Fa v7 nb Fb w) :
    Calls Try.prog 21 #[.pointer (some ⟨lb, 0, none⟩)] w fun e w' => ∃ a k, e = .returned (.slice a N k) ∧ Has w' w.heap.size (.slice a N k) N F ∧ Below w.heap.size w w' ∧ St W lb rb c v N F rv M G v9 na Fa v7 nb Fb w' := by
  obtain ⟨B, h1⟩ := h.load
  refine (samples_of lb B N v F w hN h1).mono ?_
  rintro e w' ⟨s, rfl, hs, hb⟩
  obtain ⟨a, k, rfl⟩ := owns_shape hs.own
  exact ⟨a, k, rfl, hs, hb, h.below hb⟩

theorem st_samples9 (hN : na ≤ 4096) (h : St W lb rb c v N F rv M G v9 na Fa v7 nb Fb w) :
    Calls Try.prog 21 #[.pointer (some ⟨c, 0, none⟩)] w fun e w' => ∃ a k, e = .returned (.slice a na k) ∧ Has w' w.heap.size (.slice a na k) na Fa ∧ Below w.heap.size w w' ∧ St W lb rb c v N F rv M G v9 na Fa v7 nb Fb w' := by
  obtain ⟨B, h1⟩ := h.old
  refine (samples_of c B na v9 Fa w hN h1).mono ?_
  rintro e w' ⟨s, rfl, hs, hb⟩
  obtain ⟨a, k, rfl⟩ := owns_shape hs.own
  exact ⟨a, k, rfl, hs, hb, h.below hb⟩

theorem st_same2 {k kr B : Nat} {a ra : Option Addr} (hN : N ≤ 4096) (h : St W lb rb c v N F (.slice ra N kr) N F v9 na Fa v7 nb Fb w) (hs : Has w B (.slice a N k) N F) :
    Calls Try.prog 20 #[.slice a N k, .slice ra N kr] w fun e w' => e = .returned (.bool true) ∧ St W lb rb c v N F (.slice ra N kr) N F v9 na Fa v7 nb Fb w' := by
  obtain ⟨B2, h2⟩ := h.ref
  refine (same_yes a ra N k kr F w (by omega) (Sm.of_own hs.own) (Sm.of_own h2.own)).mono ?_
  rintro e w' ⟨rfl, m, rfl⟩
  exact ⟨rfl, h.below (drewN_below w m)⟩

theorem st_same3 {k ca B : Nat} {a aa : Option Addr} (hN : na ≤ 4096) (hA : Sm W aa na Fa) (h : St W lb rb c v N F rv M G v9 na Fa v7 nb Fb w) (hs : Has w B (.slice a na k) na Fa) :
    Calls Try.prog 20 #[.slice a na k, .slice aa na ca] w fun e w' => e = .returned (.bool true) ∧ St W lb rb c v N F rv M G v9 na Fa v7 nb Fb w' := by
  refine (same_yes a aa na k ca Fa w (by omega) (Sm.of_own hs.own) (hA.below h.bel)).mono ?_
  rintro e w' ⟨rfl, m, rfl⟩
  exact ⟨rfl, h.below (drewN_below w m)⟩

/-- what becomes of n samples F when m samples G are added -/
def Grows (n m : Nat) (F G : Nat → Nat → Int) (r : Int) (N : Nat) (H : Nat → Nat → Int) : Prop :=
  first (bad (lastT F n) n G) m = r ∧ ((r = 0 ∧ N = n + m ∧ H = cat F n G) ∨ (r ≠ 0 ∧ N = n ∧ H = F))

theorem grows_some (n m : Nat) (F G : Nat → Nat → Int) : ∃ r N H, Grows n m F G r N H := by
  by_cases h : first (bad (lastT F n) n G) m = 0
  · exact ⟨0, n + m, cat F n G, h, .inl ⟨rfl, rfl, rfl⟩⟩
  · exact ⟨_, n, F, rfl, .inr ⟨h, rfl, rfl⟩⟩

theorem Grows.few {n m : Nat} {F G : Nat → Nat → Int} {r : Int} {N : Nat} {H : Nat → Nat → Int} (h : Grows n m F G r N H) (hn : n ≤ 4096) : N ≤ 4096 := by
  obtain ⟨h1, ⟨rfl, rfl, rfl⟩ | ⟨_, rfl, rfl⟩⟩ := h
  · by_cases e : m = 0
    · omega
    · have := (bad_ok (first_zero h1 (m - 1) (by omega))).2.2
      omega
  · exact hn

theorem Grows.rising {n m : Nat} {F G : Nat → Nat → Int} {r : Int} {N : Nat} {H : Nat → Nat → Int} (h : Grows n m F G r N H) (hn : Rising F n) : Rising H N := by
  obtain ⟨h1, ⟨rfl, rfl, rfl⟩ | ⟨_, rfl, rfl⟩⟩ := h
  · exact rising_cat hn h1
  · exact hn

theorem st_add {r : Int} {B : Nat} {H : Nat → Nat → Int} (hg : Grows na nb Fa Fb r N H) (hn : na ≤ 4096) (hm : nb ≤ 5864062014805) (hl : IsLoad w lb B v na Fa) (hB : B ≤ lb) (hW : W.heap.size ≤ B) (h : St W lb rb c v na Fa rv na Fa v9 na Fa v7 nb Fb w)
    (d1 : lb ≠ rb) (d2 : lb ≠ c) (e1 : ∀ g, rv.ownBlock = some g → g ≠ lb ∧ v.ownBlock ≠ some g) (e2 : ∀ g, v9.ownBlock = some g → g ≠ lb ∧ v.ownBlock ≠ some g) (e3 : ∀ g, v7.ownBlock = some g → g ≠ lb ∧ v.ownBlock ≠ some g) (e4 : v.ownBlock ≠ some rb ∧ v.ownBlock ≠ some c) (hW2 : W.heap.size ≤ lb) (hrb : rb < w.heap.size) :
    Calls Try.prog 18 #[.pointer (some ⟨lb, 0, none⟩), v7] w fun e w' => e = .returned (.int .i64 r) ∧ ∃ v2, St W lb rb c v2 N H rv na Fa v9 na Fa v7 nb Fb w' ∧ v2.ownBlock ≠ some rb := by
  obtain ⟨B7, h7⟩ := h.inn
  refine (add_any lb B na nb v v7 B7 Fa Fb w hn hm hl h7 hB).mono ?_
  rintro e w' ⟨rfl, hbad, hok⟩
  obtain ⟨h1, h2⟩ := hg
  rw [h1] at hbad hok ⊢
  refine ⟨rfl, ?_⟩
  rcases h2 with ⟨rfl, rfl, rfl⟩ | ⟨h0, rfl, rfl⟩
  · obtain ⟨v2, g1, g2, g3⟩ := hok rfl
    obtain ⟨_, ⟨B2, k2⟩, ⟨B3, k3⟩, ⟨B4, k4⟩, k5⟩ := h
    refine ⟨v2, ⟨⟨B, g1⟩, ⟨B2, k2.wr g3 ?_ ?_⟩, ⟨B3, k3.wr g3 ?_ ?_⟩, ⟨B4, Has.wr k4 g3 ?_⟩, Below.trans k5 (g3.below _ k5.size ?_)⟩, fun e => (g2 _ e).elim e4.1 (fun h => by omega)⟩
    · rintro (e | e)
      · exact d1 e.symm
      · exact e4.1 e
    · rintro g hg (e | e)
      · exact (e1 g hg).1 e
      · exact (e1 g hg).2 e
    · rintro (e | e)
      · exact d2 e.symm
      · exact e4.2 e
    · rintro g hg (e | e)
      · exact (e2 g hg).1 e
      · exact (e2 g hg).2 e
    · rintro g hg (e | e)
      · exact (e3 g hg).1 e
      · exact (e3 g hg).2 e
    · rintro k (e | e)
      · omega
      · have := (hl.has.own.lt k e).1
        omega
  · exact ⟨v, h.below (hbad h0), e4.1⟩

theorem st_radd {r : Int} {cb : Nat} {ab : Option Addr} {H : Nat → Nat → Int} (hg : Grows na nb Fa Fb r N H) (hn : na ≤ 4096) (hm : nb ≤ 5864062014805) (hS : Sm W ab nb Fb) (h : St W lb rb c v N H rv na Fa v9 na Fa v7 nb Fb w)
    (d1 : lb ≠ rb) (d2 : c ≠ rb) (e1 : v.ownBlock ≠ some rb) (e2 : v9.ownBlock ≠ some rb) (e3 : v7.ownBlock ≠ some rb) (hW2 : W.heap.size ≤ rb) :
    Calls Try.prog 19 #[.pointer (some ⟨rb, 0, none⟩), .slice ab nb cb] w fun e w' => e = .returned (.int .i64 r) ∧ ∃ a k, St W lb rb c v N H (.slice a N k) N H v9 na Fa v7 nb Fb w' := by
  obtain ⟨B2, k2⟩ := h.ref
  obtain ⟨va, cap, rfl⟩ := owns_shape k2.own
  refine (radd_core rb B2 na nb cap cb va ab Fa Fb w hn hm (hid k2) (hid (hS.below h.bel))).mono ?_
  rintro e w' ⟨rfl, hbad, hok⟩
  obtain ⟨h1, h2⟩ := hg
  rw [h1] at hbad hok ⊢
  refine ⟨rfl, ?_⟩
  rcases h2 with ⟨rfl, rfl, rfl⟩ | ⟨h0, rfl, rfl⟩
  · obtain ⟨rv2, g1, g3⟩ := hok rfl
    obtain ⟨⟨B1, k1⟩, _, ⟨B3, k3⟩, ⟨B4, k4⟩, k5⟩ := h
    obtain ⟨a, k, rfl⟩ := owns_shape g1.own
    refine ⟨a, k, ⟨B1, k1.wr g3 d1 ?_⟩, ⟨_, g1⟩, ⟨B3, k3.wr g3 d2 ?_⟩, ⟨B4, Has.wr k4 g3 ?_⟩, Below.trans k5 (g3.below _ k5.size ?_)⟩
    · rintro g hg rfl; exact e1 hg
    · rintro g hg rfl; exact e2 hg
    · rintro g hg rfl; exact e3 hg
    · rintro k rfl; exact hW2
  · exact ⟨va, cap, h.below (hbad h0)⟩

theorem St.cell (h : St W lb rb c v N F rv M G v9 na Fa v7 nb Fb w) : w.cell? ⟨rb, 0, none⟩ = some rv := by
  obtain ⟨B, h1⟩ := h.ref
  exact h1.cell

set_option maxRecDepth 100000 in
set_option maxHeartbeats 4000000 in
theorem loads_core (na ca nb cb nt ct : Nat) (aa ab at_ : Option Addr) (Fa Fb : Nat → Nat → Int) (ft : Nat → Int) (W : World) (hna : na ≤ 5864062014805) (hnb : nb ≤ 5864062014805) (hnt : nt ≤ 9223372036854775807) (HA : Hid (Sm W aa na Fa)) (HS : Hid (Sm W ab nb Fb)) (HT : Hid (IntsAt W at_ nt ft)) :
    Calls Try.prog 4 #[.slice aa na ca, .slice ab nb cb, .slice at_ nt ct] W fun e w' => e = .returned (.bool true) ∧ Below W.heap.size W w' := by
  go_enter Try.func4, Try.ntmps4
  go_wp2_with fail
  refine (samples_any ab nb cb Fb W hnb HS.out).mono ?_
  rintro e w1 ⟨v7, rfl, ho, hn, hb⟩
  obtain ⟨a7, c7, rfl⟩ := owns_shape ho
  have H7 : Hid (Has w1 W.heap.size (.slice a7 nb c7) nb Fb) := hid ⟨ho, hn⟩
  have HB1 := hid hb
  have hs1 := hb.size
  clear ho hn hb
  go_wp2_with fail
  refine (samples_any aa na ca Fa w1 hna (HA.out.below HB1.out)).mono ?_
  rintro e w2 ⟨v8, rfl, ho, hn, hb⟩
  obtain ⟨a8, c8, rfl⟩ := owns_shape ho
  have H8 : Hid (Has w2 w1.heap.size (.slice a8 na c8) na Fa) := hid ⟨ho, hn⟩
  have H72 := hid (Has.below H7.out hb)
  have HB2 : Hid (Below W.heap.size W w2) := hid (Below.trans HB1.out (hb.mono hs1))
  have hs2 := hb.size
  have F7 : Hid (∀ g, (Value.slice a7 nb c7).ownBlock = some g → g < w2.heap.size) := hid (fun g hg => (H72.out.own.lt g hg).2)
  clear ho hn hb H7 HB1
  go_wp2_with fail
  refine (newLoad_any na _ _ Fa w2 hna H8.out).mono ?_
  rintro e w3 hpost
  obtain ⟨r, hr⟩ : ∃ r, first (bad 0 0 Fa) na = r := ⟨_, rfl⟩
  have HR := hid hr
  rcases hpost with ⟨h0, rfl, hb⟩ | ⟨h0, rfl, ⟨v, hl⟩, hb⟩
  · rw [hr] at h0 ⊢
    have hs3 := hb.size
    have HB3 : Hid (Below W.heap.size W w3) := hid (Below.trans HB2.out (hb.mono (by omega)))
    have HRN := hid (rnew_any na ca aa Fa w3 hna (HA.out.below HB3.out))
    have H0 := hid h0
    have hd1 : (r != 0) = true := by simpa using h0
    have hd2 : (r == 0) = false := by simpa using h0
    clear hr hb h0 H8 H72 F7 HB2
    go_wp2_with fail
    refine HRN.out.mono ?_
    rintro e w4 hpost
    rw [RNewPost, HR.out] at hpost
    rcases hpost with ⟨h0, rfl, hb⟩ | ⟨h0, _⟩
    · have HB4 : Hid (Below W.heap.size W w4) := hid (Below.trans HB3.out (hb.mono (by omega)))
      have hs4 : W.heap.size ≤ w4.heap.size := HB4.out.size
      clear hb HRN HB3
      go_wp2_with fail
      refine (live_look w4).mono ?_
      rintro e w5 ⟨rfl, hb⟩
      have HB5 : Hid (Below W.heap.size W w5) := hid (Below.trans HB4.out (hb.mono hs4))
      clear hb HB4
      go_wp2_with fail
      go_ret
      exact ⟨rfl, HB5.out⟩
    · exact absurd h0 H0.out
  · rw [hr] at h0
    subst h0
    have hs3 := hb.size
    have HL3 := hid hl
    have H73 := hid (Has.below H72.out hb)
    have HB3 : Hid (Below W.heap.size W w3) := hid (Below.trans HB2.out (hb.mono (by omega)))
    have HRN := hid (rnew_any na ca aa Fa w3 hna (HA.out.below HB3.out))
    have hl3 : w2.heap.size < w3.heap.size := hl.lt
    have hna4 : na ≤ 4096 := by
      by_cases h : na = 0
      · omega
      · have := (bad_ok (first_zero hr (na - 1) (by omega))).2.2
        omega
    have V3 : Hid (∀ g, v.ownBlock = some g → w2.heap.size ≤ g ∧ g < w3.heap.size) := hid (fun g hg => hl.has.own.lt g hg)
    clear hr hb hl H72 HB2
    go_wp2_with fail
    refine HRN.out.mono ?_
    rintro e w4 hpost
    rw [RNewPost, HR.out] at hpost
    rcases hpost with ⟨h0, _⟩ | ⟨_, rfl, ⟨rv, hl⟩, hb⟩
    · exact absurd rfl h0
    · have hs4 := hb.size
      have HR4 := hid hl
      have hr4 : w3.heap.size < w4.heap.size := hl.lt
      have HL4 := hid (HL3.out.below hb)
      have H74 := hid (Has.below H73.out hb)
      have R4 : Hid (∀ g, rv.ownBlock = some g → w3.heap.size ≤ g ∧ g < w4.heap.size) := hid (fun g hg => hl.own.lt g hg)
      have HB4 : Hid (Below W.heap.size W w4) := hid (Below.trans HB3.out (hb.mono (by omega)))
      clear hb hl HL3 H73 HB3 HRN
      go_wp2_with fail
      refine (live_look w4).mono ?_
      rintro e w5 ⟨rfl, hb⟩
      have hs5 := hb.size
      have HR5 := hid (HR4.out.below hb)
      have HL5 := hid (HL4.out.below hb)
      have H75 := hid (Has.below H74.out hb)
      have HB5 : Hid (Below W.heap.size W w5) := hid (Below.trans HB4.out (hb.mono (by omega)))
      clear hb HR4 HL4 H74 HB4
      have hlW : W.heap.size ≤ w2.heap.size := by omega
      generalize w2.heap.size = lb at *
      generalize w3.heap.size = rb at *
      go_wp2_with fail
      refine (fork_any lb lb na v Fa w5 hna4 HL5.out).mono ?_
      rintro e w6 ⟨c, v9, rfl, hc, ho, hb⟩
      have hs6 := hb.size
      have HL6 := hid (HL5.out.below hb)
      have HST : Hid (St W lb rb c v na Fa rv na Fa v9 na Fa (.slice a7 nb c7) nb Fb w6) := hid ⟨⟨_, HL5.out.below hb⟩, ⟨_, HR5.out.below hb⟩, ⟨_, ho⟩, ⟨_, Has.below H75.out hb⟩, Below.trans HB5.out (hb.mono (by have := HB5.out.size; omega))⟩
      have V9 : Hid (∀ g, v9.ownBlock = some g → w5.heap.size ≤ g) := hid (fun g hg => (ho.has.own.lt g hg).1)
      clear hb ho HR5 HL5 H75 HB5
      obtain ⟨r2, N, F, hG⟩ := grows_some na nb Fa Fb
      have HG := hid hG
      have hN := hG.few hna4
      have HRI := hid (hG.rising (first_rising HR.out))
      clear hG
      have Q0 := hid (st_add (W := W) (lb := lb) (rb := rb) (c := c) (w := w6.drew) HG.out hna4 hnb (HL6.out.below (Below.drew (Below.refl _ _))) (Nat.le_refl _) hlW (HST.out.below (Below.drew (Below.refl _ _))) (by omega) (by omega) (fun g hg => ⟨by have := R4.out g hg; omega, fun e => by have := R4.out g hg; have := V3.out g e; omega⟩) (fun g hg => ⟨by have := V9.out g hg; omega, fun e => by have := V9.out g hg; have := V3.out g e; omega⟩)
        (fun g hg => ⟨by have := F7.out g hg; omega, fun e => by have := F7.out g hg; have := V3.out g e; omega⟩) ⟨fun e => by have := V3.out _ e; omega, fun e => by have := V3.out _ e; omega⟩ hlW (by show rb < w6.heap.size; omega))
      go_wp2_with fail
      go_cut [78] (fun s78 wx => s78 = .bool false ∧ ∃ v2 a k, St W lb rb c v2 N F (.slice a N k) N F v9 na Fa (.slice a7 nb c7) nb Fb wx)
      case first =>
        have Q1 : Hid (∀ w v2, St W lb rb c v2 N F rv na Fa v9 na Fa (.slice a7 nb c7) nb Fb w → v2.ownBlock ≠ some rb → Calls Try.prog 19 #[.pointer (some ⟨rb, 0, none⟩), .slice ab nb cb] w fun e w' => e = .returned (.int .i64 r2) ∧ ∃ a k, St W lb rb c v2 N F (.slice a N k) N F v9 na Fa (.slice a7 nb c7) nb Fb w') := hid (fun w v2 h h2 => st_radd HG.out hna4 hnb HS.out h (by omega) (by omega) h2 (fun e => by have := V9.out _ e; omega) (fun e => by have := F7.out _ e; omega) (by omega))
        go_region_with (first
          | (go_at_call 18; refine Q0.out.mono ?_; rintro e w7 ⟨rfl, v2, hs7, hv2⟩; have HS7 := hid hs7; have HV2 := hid hv2; clear hs7 hv2)
          | (go_at_call 19; refine (Q1.out w7 v2 HS7.out HV2.out).mono ?_; rintro e w8 ⟨rfl, ra, rk, hs8⟩; have HS8 := hid hs8; have hc8 := hs8.cell; clear hs8)
          | (go_at_call 20; first
              | (with_reducible refine (st_same1 HS.out (by omega) HS8.out).mono ?_; rintro e w9 ⟨rfl, hs9⟩; have HS9 := hid hs9; have hc9 := hs9.cell; clear hs9)
              | (with_reducible refine (st_same2 hN HS10.out H10.out).mono ?_; rintro e w11 ⟨rfl, hs11⟩; have HS11 := hid hs11; clear hs11)
              | (with_reducible refine (st_same3 hna4 HA.out HS12.out H12.out).mono ?_; rintro e w13 ⟨rfl, hs13⟩; have HS13 := hid hs13; clear hs13))
          | (go_at_call 21; first
              | (with_reducible refine (st_samples hN HS9.out).mono ?_; rintro e w10 ⟨sa, sk, rfl, hh, _, hs10⟩; have H10 := hid hh; have HS10 := hid hs10; have hc10 := hs10.cell; clear hs10 hh)
              | (with_reducible refine (st_samples9 hna4 HS11.out).mono ?_; rintro e w12 ⟨sa9, sk9, rfl, hh, _, hs12⟩; have H12 := hid hh; have HS12 := hid hs12; clear hs12 hh)))
        all_goals
          go_wp2_with fail
          go_meet
          exact ⟨rfl, _, _, _, HS13.out⟩
      case rest =>
        obtain ⟨rfl, v2, ra, rk, hs⟩ := hcut
        have HS := hid hs
        clear hs Q0 HST HL6
        go_wp2_with fail
        refine (st_samples hN HS.out).mono ?_
        rintro e w10 ⟨sa, sk, rfl, hh, hb10, _⟩
        have HB10 := hid hb10
        have HO : Hid (∃ xs, w10.ownsRow wc.heap.size 64 3 (.slice sa N sk) N xs) := hid ⟨_, hh.own⟩
        clear hh hb10
        go_wp2_with fail
        go_loopw [14] (fun i wr => ∃ k : Nat, k ≤ N ∧ i = .int .i64 k ∧ (∃ xs, wr.ownsRow wc.heap.size 64 3 (.slice sa N sk) N xs) ∧ Below wc.heap.size wc wr) (fun i _ => N - (intOf i).toNat)
        case atStart => exact ⟨0, Nat.zero_le _, rfl, HO.out, HB10.out⟩
        case round =>
          obtain ⟨k, hk, rfl, ⟨xs, ho⟩, hb⟩ := hrel
          have HB := hid hb
          clear hb
          by_cases hlt : k < N
          · obtain ⟨g, c2, e, hg, hg2⟩ := World.ownsRow.form ho (by omega)
            cases e
            have hl := ho.1
            have k1 : wr.cell? ⟨g, k * 3 + 1, none⟩ = some (xs[k * 3 + 1]'(by omega)) := (World.ownsRow.cellAt ho _ (by omega)).trans (List.getElem?_eq_getElem (by omega))
            have k2 : wr.frozen? ⟨g, k * 3 + 1, none⟩ = false := World.ownsRow.frozenAt ho _
            have HO2 := hid (World.ownsRow.stored ho (k * 3 + 1) (.int .i64 (-77))).1
            have hk1 : (k : Int) < (N : Int) := by omega
            generalize xs[k * 3 + 1]'(by omega) = u at k1
            clear ho hl
            go_wp2_with fail
            exact ⟨⟨k + 1, by omega, by go_num, ⟨_, HO2.out⟩, HB.out.setCell (by show _ ≤ g; omega) _⟩, by simp [intOf]; omega⟩
          · obtain rfl : k = N := by omega
            have HSW := hid (HS.out.below HB.out)
            clear HB ho
            go_wp2_with fail
            generalize wr = wz at *
            go_loopw [15] (fun i wr => ∃ j : Nat, j ≤ nt ∧ i = .int .i64 j ∧ St W lb rb c v2 k F (.slice ra k rk) k F v9 na Fa (.slice a7 nb c7) nb Fb wr) (fun i _ => nt - (intOf i).toNat)
            case atStart => exact ⟨0, Nat.zero_le _, rfl, HSW.out⟩
            case round =>
              obtain ⟨j, hj, rfl, hs⟩ := hrel
              have HSJ := hid hs
              clear hs
              by_cases hlt : j < nt
              · obtain ⟨g, o, rfl, hg, hc⟩ := HT.out (by omega)
                have c0 : wr.cell? ⟨g, o + j, none⟩ = some (.int .i64 (ft j)) := (HSJ.out.bel.cell (p := ⟨g, o + j, none⟩) hg).trans (hc j hlt)
                have hgr : g < wr.heap.size := Nat.lt_of_lt_of_le hg HSJ.out.bel.size
                generalize ft j = t at *
                clear hc
                obtain ⟨B1, hl1⟩ := HSJ.out.load
                have HA1 := hid (at_any lb B1 k v2 F t wr hN HRI.out hl1)
                obtain ⟨x, hx⟩ : ∃ x, atF F k t 0 = x := ⟨_, rfl⟩
                obtain ⟨y, hy⟩ : ∃ y, atF F k t 1 = y := ⟨_, rfl⟩
                obtain ⟨z, hz⟩ : ∃ z, atF F k t 2 = z := ⟨_, rfl⟩
                have HXYZ := hid (And.intro hx (And.intro hy hz))
                rw [hx, hy, hz] at HA1
                clear hx hy hz hl1
                have hj1 : (j : Int) < (nt : Int) := by omega
                go_wp2_with fail
                refine HA1.out.mono ?_
                rintro e w11 ⟨rfl, hb11⟩
                have hs11 := hb11.size
                have HS11 := hid (HSJ.out.below hb11)
                have c11 : w11.cell? ⟨g, o + j, none⟩ = some (.int .i64 t) := (hb11.cell (p := ⟨g, o + j, none⟩) hgr).trans c0
                have HSA : Hid (St W lb rb c v2 k F (.slice ra k rk) k F v9 na Fa (.slice a7 nb c7) nb Fb (w11.alloc (.cells #[.int .i64 x, .int .i64 y, .int .i64 z] 64))) := hid (HS11.out.below ((Below.refl _ _).alloc (Nat.le_refl _) _))
                have HR1 : Hid (Calls Try.prog 23 #[.pointer (some ⟨rb, 0, none⟩), .int .i64 t] (w11.alloc (.cells #[.int .i64 x, .int .i64 y, .int .i64 z] 64)) fun e w' => e = .returned (.agg #[.int .i64 x, .int .i64 y, .int .i64 z]) ∧ Below (w11.alloc (.cells #[.int .i64 x, .int .i64 y, .int .i64 z] 64)).heap.size (w11.alloc (.cells #[.int .i64 x, .int .i64 y, .int .i64 z] 64)) w') := hid (by
                  obtain ⟨B2, h2⟩ := HSA.out.ref
                  have h3 := rat_core rb k rk ra F t (w11.alloc (.cells #[.int .i64 x, .int .i64 y, .int .i64 z] 64)) (by omega) h2.lt (hid h2.cell) (hid (Sm.of_own h2.own))
                  rw [HXYZ.out.1, HXYZ.out.2.1, HXYZ.out.2.2] at h3
                  exact h3)
                clear HA1 HSJ c0 hb11 HS11
                have hg11 : g < w11.heap.size := by omega
                go_wp2_with fail
                refine HR1.out.mono ?_
                rintro e w12 ⟨rfl, hb12⟩
                have HS12 := hid (HSA.out.below hb12)
                have x0 : w12.cell? ⟨w11.heap.size, 0, none⟩ = some (.int .i64 x) := (hb12.cell (p := ⟨w11.heap.size, 0, none⟩) (by simp)).trans (by go_cell)
                have x1 : w12.cell? ⟨w11.heap.size, 1, none⟩ = some (.int .i64 y) := (hb12.cell (p := ⟨w11.heap.size, 1, none⟩) (by simp)).trans (by go_cell)
                have x2 : w12.cell? ⟨w11.heap.size, 2, none⟩ = some (.int .i64 z) := (hb12.cell (p := ⟨w11.heap.size, 2, none⟩) (by simp)).trans (by go_cell)
                have hs12 : w11.heap.size < w12.heap.size := by have := hb12.size; simp at this; omega
                clear hb12 HR1 HSA c11
                have HSE : Hid (St W lb rb c v2 k F (.slice ra k rk) k F v9 na Fa (.slice a7 nb c7) nb Fb (w12.alloc (.cells #[.int .i64 x, .int .i64 y, .int .i64 z] 66))) := hid (HS12.out.below ((Below.refl _ _).alloc (Nat.le_refl _) _))
                go_wp2_with fail
                exact ⟨⟨j + 1, by omega, by go_num, HSE.out⟩, by simp [intOf]; omega⟩
              · obtain rfl : j = nt := by omega
                have hcw := HSJ.out.cell
                have HSD : Hid (St W lb rb c v2 k F (.slice ra k rk) k F v9 na Fa (.slice a7 nb c7) nb Fb wr.drew) := hid (HSJ.out.below (Below.drew (Below.refl _ _)))
                go_wp2_with fail
                go_region_with (first
                  | (go_at_call 21; refine (st_samples hN HSD.out).mono ?_; rintro e w10 ⟨sb, sj, rfl, hh, _, hs10⟩; have H10 := hid hh; have HS10 := hid hs10; have hc10 := hs10.cell; clear hs10 hh)
                  | (go_at_call 20; refine (st_same2 hN HS10.out H10.out).mono ?_; rintro e w11 ⟨rfl, hs11⟩; have HS11 := hid hs11; clear hs11))
                all_goals
                  go_wp2_with fail
                  go_ret
                  exact ⟨rfl, HS11.out.bel⟩

end Go.Proofs.Ythkpfjjcpifkcaa.LoaH
