/- The walk of WorldChances: it returns true for every seed and row of asking. -/
import Derived.Test.YtekfmpnfpoapfaaWldK
namespace Go.Proofs.Ytekfmpnfpoapfaa.WldL
open Go.ChangeShapes Go.WideShapes Go.ChangeAt Go.RowKit Base ClkM Clk WldA WldD WldF WldG WldH WldI WldJ WldK

def RelC (W : World) (len : Nat) (i : Value) (wr : World) : Prop :=
  ∃ (k s : Nat), k ≤ len ∧ i = .int .i64 k ∧ wr.cell? ⟨W.heap.size, 0, none⟩ = some (.int .u64 s) ∧ wr.frozen? ⟨W.heap.size, 0, none⟩ = false ∧
    wr.cell? ⟨W.heap.size + 1, 0, none⟩ = some (.int .u64 s) ∧ wr.frozen? ⟨W.heap.size + 1, 0, none⟩ = false ∧ Below W.heap.size W wr ∧ W.heap.size + 2 ≤ wr.heap.size

theorem below_two (s : Nat) (n : Int) (h1 : 1 ≤ n) (h2 : n ≤ 9223372036854775807) : ∃ r s2 : Nat,
    (∀ b w, w.cell? ⟨b, 0, none⟩ = some (.int .u64 s) → w.frozen? ⟨b, 0, none⟩ = false → Calls Try.prog 30 #[.pointer (some ⟨b, 0, none⟩), .int .i64 n] w fun e w' => e = .returned (.tuple #[.int .i64 r, .int .i64 0]) ∧ w.setCell ⟨b, 0, none⟩ (.int .u64 s2) = w') ∧
    (∀ b w, w.cell? ⟨b, 0, none⟩ = some (.int .u64 s) → w.frozen? ⟨b, 0, none⟩ = false → Calls Try.prog 31 #[.pointer (some ⟨b, 0, none⟩), .int .i64 n] w fun e w' => e = .returned (.tuple #[.int .i64 r, .int .i64 0]) ∧ w.setCell ⟨b, 0, none⟩ (.int .u64 s2) = w') :=
  ⟨mixN (stepN s) % n.toNat, stepN s, fun b w hc hf => below_yes b s n w h1 h2 hc hf, fun b w hc hf => belowRef_yes b s n w h1 h2 hc hf⟩

theorem next_two' (s : Nat) : ∃ m s2 : Nat,
    (∀ b w, w.cell? ⟨b, 0, none⟩ = some (.int .u64 s) → w.frozen? ⟨b, 0, none⟩ = false → Calls Try.prog 34 #[.pointer (some ⟨b, 0, none⟩)] w fun e w' => e = .returned (.int .u64 m) ∧ w.setCell ⟨b, 0, none⟩ (.int .u64 s2) = w') ∧
    (∀ b w, w.cell? ⟨b, 0, none⟩ = some (.int .u64 s) → w.frozen? ⟨b, 0, none⟩ = false → Calls Try.prog 33 #[.pointer (some ⟨b, 0, none⟩)] w fun e w' => e = .returned (.int .u64 m) ∧ w.setCell ⟨b, 0, none⟩ (.int .u64 s2) = w') :=
  ⟨mixN (stepN s), stepN s, fun b w hc hf => next_any b s w hc hf, fun b w hc hf => nextRef_any b s w hc hf⟩

theorem mix_two (x : Nat) (hx : x < 18446744073709551616) : ∃ m : Nat,
    (∀ w, Calls Try.prog 25 #[.int .u64 x] w fun e w' => e = .returned (.int .u64 m) ∧ w = w') ∧
    (∀ w, Calls Try.prog 26 #[.int .u64 x] w fun e w' => e = .returned (.int .u64 m) ∧ w = w') :=
  ⟨mixN x, mix_look x hx, mixRef_look x hx⟩

set_option maxRecDepth 100000 in
set_option maxHeartbeats 2000000 in
theorem chances_core (x len cap : Nat) (a : Option Addr) (f : Nat → Int) (w : World) (hlen : len ≤ 9223372036854775807) (hx : x < 18446744073709551616)
    (HC : Hid (0 < len → ∃ p q, a = some ⟨p, q, none⟩ ∧ p < w.heap.size ∧ ∀ i, i < len → w.cell? ⟨p, q + i, none⟩ = some (.int .i64 (f i)))) (HX : Hid (∀ i, f i ≤ 9223372036854775807)) :
    Calls Try.prog 4 #[.int .u64 x, .slice a len cap] w fun e w' => e = .returned (.bool true) ∧ Below w.heap.size w w' := by
  obtain ⟨mx, hm1, hm2⟩ := mix_two x hx
  have HM1 := hid hm1
  have HM2 := hid hm2
  clear hx hm1 hm2
  go_enter Try.func4, Try.ntmps4
  go_wp2_with fail
  refine (newChance_any x _).mono ?_
  rintro e w1 ⟨rfl, rfl⟩
  go_wp2_with fail
  refine (newChanceRef_any x _).mono ?_
  rintro e w1 ⟨rfl, rfl⟩
  go_wp2_with fail
  refine (live_look _).mono ?_
  rintro e w1 ⟨rfl, hb1⟩
  have hs1 := hb1.size
  simp only [World.size_alloc] at hs1
  obtain ⟨hc1, hf1⟩ := bcell hb1
  have HC1 : Hid (w1.cell? ⟨w.heap.size, 0, none⟩ = some (.int .u64 x)) := hid (by rw [hc1 _ _ (by simp; omega)]; go_cell)
  have HF1 : Hid (w1.frozen? ⟨w.heap.size, 0, none⟩ = false) := hid (by rw [hf1 _ _ (by simp; omega)]; go_cell)
  have HC2 : Hid (w1.cell? ⟨w.heap.size + 1, 0, none⟩ = some (.int .u64 x)) := hid (by rw [hc1 _ _ (by simp)]; go_cell)
  have HF2 : Hid (w1.frozen? ⟨w.heap.size + 1, 0, none⟩ = false) := hid (by rw [hf1 _ _ (by simp)]; go_cell)
  have HB1 : Hid (Below w.heap.size w w1) := hid (Below.trans (by repeat (first | (with_reducible exact Below.refl _ _) | (with_reducible refine Below.setCell ?_ (by first | (simp; done) | (simp; omega) | omega) _) | (with_reducible refine Below.alloc ?_ (by first | (simp; done) | (simp; omega) | omega) _) | (with_reducible refine Below.drew ?_) | (with_reducible refine below_drewN ?_ _))) (hb1.mono (by simp; omega)))
  clear hb1 hc1 hf1
  go_wp2_with fail
  refine (HM1.out _).mono ?_
  rintro e w2 ⟨rfl, rfl⟩
  go_wp2_with fail
  refine (HM2.out _).mono ?_
  rintro e w2 ⟨rfl, rfl⟩
  clear HM1 HM2
  go_wp2_with fail
  go_loopw [7] (fun i wr => RelC w len i wr) (fun i _ => len - (intOf i).toNat)
  case atStart => exact ⟨0, x, Nat.zero_le _, rfl, HC1.out, HF1.out, HC2.out, HF2.out, HB1.out, by omega⟩
  case round =>
    obtain ⟨k, s, hk, rfl, c1, f1, c2, f2, hbel, hsz⟩ := hrel
    have HB := hid hbel
    clear hbel HC1 HF1 HC2 HF2 HB1
    by_cases hlt : k < len
    · obtain ⟨p, q, rfl, hp, hcp⟩ := HC.out (by omega)
      have hxk : _ = some (Value.int .i64 (f k)) := (HB.out.cell (p := ⟨p, q + k, none⟩) hp).trans (hcp k hlt)
      have hxm := HX.out k
      clear hcp
      generalize f k = n at *
      by_cases h4 : (k : Int) % 4 = 3
      · go_wp2_with fail
        refine (shuffle_any w.heap.size s n _ c1 f1).mono ?_
        rintro e w2 (⟨hno, rfl, rfl⟩ | ⟨N, hN, hN2, a1, cap1, rfl, hr1, d1, g1, hk1⟩)
        · have HNo := hid hno
          clear hno
          go_wp2_with fail
          refine (shuffleRef_any (w.heap.size + 1) s n _ c2 f2).mono ?_
          rintro e w2 (⟨_, rfl, rfl⟩ | ⟨N, rfl, hN2, _⟩)
          · go_wp2_with fail
            refine (sameInts_none none none 0 0 _).mono ?_
            rintro e w2 ⟨rfl, m, rfl⟩
            go_wp2
            exact ⟨⟨k + 1, s, by omega, by go_num, c1, f1, c2, f2, below_drewN HB.out m, hsz⟩, by simp [intOf]; omega⟩
          · exact absurd HNo.out (by omega)
        · subst hN
          have d2 : w2.cell? ⟨w.heap.size + 1, 0, none⟩ = some (.int .u64 s) := by rw [hk1.cell 0 (by omega) (by omega)]; exact c2
          have g2 : w2.frozen? ⟨w.heap.size + 1, 0, none⟩ = false := by rw [hk1.frozen 0 (by omega) (by omega)]; exact f2
          have d3 : w2.cell? ⟨p, q + k, none⟩ = some (.int .i64 N) := by rw [hk1.cell _ (by omega) (by omega)]; exact hxk
          have HB2 : Hid (Below w.heap.size w w2) := hid (HB.out.trans (hk1.toBelow _ (Nat.le_refl _) (by omega)))
          have HR1 := hid hr1
          have hz2 := hk1.size
          clear c1 c2 f1 f2 hxk hr1 hk1 HB
          obtain ⟨R, hR⟩ : ∃ R, shufF (N - 1) s idF = R := ⟨_, rfl⟩
          rw [hR] at HR1 d1
          go_wp2_with fail
          refine (shuffleRef_any (w.heap.size + 1) s N _ d2 g2).mono ?_
          rintro e w3 (⟨hno, rfl, rfl⟩ | ⟨N2, hN, _, a2, cap2, rfl, hr2, e2, j2, hk2⟩)
          · omega
          · obtain rfl : N = N2 := by omega
            rw [hR] at hr2 e2
            have e1 : w3.cell? ⟨w.heap.size, 0, none⟩ = some (.int .u64 R.2) := by rw [hk2.cell 0 (by omega) (by omega)]; exact d1
            have j1 : w3.frozen? ⟨w.heap.size, 0, none⟩ = false := by rw [hk2.frozen 0 (by omega) (by omega)]; exact g1
            have HB3 : Hid (Below w.heap.size w w3) := hid (HB2.out.trans (hk2.toBelow _ (by omega) (by omega)))
            have hz3 := hk2.size
            have HS := hid (sameInts_rows a1 a2 N cap1 cap2 R.1 w3 (by omega)
              (fun h => by obtain ⟨g, hg, hg1, hg2, hr⟩ := HR1.out h; exact ⟨g, hg, hr.keeps hk2 hg2 (by omega)⟩)
              (fun h => by obtain ⟨g, hg, _, _, hr⟩ := hr2 h; exact ⟨g, hg, hr⟩))
            clear hr2 hk2 d1 d2 d3 g1 g2 HB2 HR1 hR
            go_wp2_with fail
            refine HS.out.mono ?_
            rintro e w4 ⟨rfl, m, rfl⟩
            go_wp2
            exact ⟨⟨k + 1, R.2, by omega, by go_num, e1, j1, e2, j2, below_drewN HB3.out m, by have : w3.heap.size = (w3.drewN m).heap.size := rfl; omega⟩, by simp [intOf]; omega⟩
      · have h4' : decide ((k : Int) % 4 = 3) = false := by simpa using h4
        by_cases hyes : 1 ≤ n
        · obtain ⟨r, s2, hb1, hb2⟩ := below_two s n hyes hxm
          have HB1 := hid hb1
          have HB2 := hid hb2
          clear hb1 hb2
          go_wp2_with fail
          refine (HB1.out w.heap.size _ c1 f1).mono ?_
          rintro e w2 ⟨rfl, rfl⟩
          go_wp2_with fail
          refine (HB2.out (w.heap.size + 1) _ (by clear HB1 HB2; go_cell) (by clear HB1 HB2; go_cell)).mono ?_
          rintro e w2 ⟨rfl, rfl⟩
          go_wp2
          clear HB1 HB2
          exact ⟨⟨k + 1, s2, by omega, by go_num, by go_cell, by go_cell, by go_cell, by go_cell, by have hb := HB.out; exact (by repeat (first | (with_reducible exact Below.refl _ _) | (with_reducible refine Below.setCell ?_ (by first | (simp; done) | (simp; omega) | omega) _) | (with_reducible refine Below.alloc ?_ (by first | (simp; done) | (simp; omega) | omega) _) | (with_reducible refine Below.drew ?_) | (with_reducible refine below_drewN ?_ _) | (with_reducible exact hb) | (with_reducible refine Below.trans ?_ (Below.mono hb (by first | (simp; done) | (simp; omega) | omega))))), by simp; omega⟩, by simp [intOf]; omega⟩
        · have HNo := hid hyes
          clear hyes
          go_wp2_with fail
          refine (below_no w.heap.size n _ (by have := HNo.out; omega)).mono ?_
          rintro e w2 ⟨rfl, rfl⟩
          go_wp2_with fail
          refine (belowRef_no (w.heap.size + 1) n _ (by have := HNo.out; omega)).mono ?_
          rintro e w2 ⟨rfl, rfl⟩
          go_wp2
          exact ⟨⟨k + 1, s, by omega, by go_num, c1, f1, c2, f2, HB.out, hsz⟩, by simp [intOf]; omega⟩
    · obtain ⟨m1, s1, n1, r1⟩ := next_two' s
      obtain ⟨m2, s2, n2, r2⟩ := next_two' s1
      have N1 := hid n1
      have R1 := hid r1
      have N2 := hid n2
      have R2 := hid r2
      clear n1 n2 r1 r2
      have z1 : w.heap.size < wr.heap.size := by omega
      have z2 : w.heap.size + 1 < wr.heap.size := by omega
      go_wp2_with fail
      refine (forkChance w.heap.size s _ c1).mono ?_
      rintro e w2 ⟨rfl, rfl⟩
      go_wp2_with fail
      refine (R1.out (w.heap.size + 1) _ (by clear N1 N2 R1 R2; go_cell) (by clear N1 N2 R1 R2; go_cell)).mono ?_
      rintro e w2 ⟨rfl, rfl⟩
      go_wp2_with fail
      refine (N1.out wr.heap.size _ (by clear N1 N2 R1 R2; go_cell) (by clear N1 N2 R1 R2; go_cell)).mono ?_
      rintro e w2 ⟨rfl, rfl⟩
      go_wp2_with fail
      refine (N1.out w.heap.size _ (by clear N1 N2 R1 R2; go_cell) (by clear N1 N2 R1 R2; go_cell)).mono ?_
      rintro e w2 ⟨rfl, rfl⟩
      go_wp2_with fail
      refine (N2.out wr.heap.size _ (by clear N1 N2 R1 R2; go_cell) (by clear N1 N2 R1 R2; go_cell)).mono ?_
      rintro e w2 ⟨rfl, rfl⟩
      go_wp2_with fail
      refine (R2.out (w.heap.size + 1) _ (by clear N1 N2 R1 R2; go_cell) (by clear N1 N2 R1 R2; go_cell)).mono ?_
      rintro e w2 ⟨rfl, rfl⟩
      go_wp2_with fail
      go_ret
      exact ⟨rfl, by have hb := HB.out; exact (by repeat (first | (with_reducible exact Below.refl _ _) | (with_reducible refine Below.setCell ?_ (by first | (simp; done) | (simp; omega) | omega) _) | (with_reducible refine Below.alloc ?_ (by first | (simp; done) | (simp; omega) | omega) _) | (with_reducible refine Below.drew ?_) | (with_reducible refine below_drewN ?_ _) | (with_reducible exact hb) | (with_reducible refine Below.trans ?_ (Below.mono hb (by first | (simp; done) | (simp; omega) | omega)))))⟩

theorem reads_i64 {w : World} {a : Option Addr} {len cap : Nat} {z : List Int} (h : IsRow .i64 w a len cap z) :
    (0 < len → ∃ p q, a = some ⟨p, q, none⟩ ∧ p < w.heap.size ∧ ∀ i, i < len → w.cell? ⟨p, q + i, none⟩ = some (.int .i64 (z.getD i 0))) ∧ (∀ i, -9223372036854775808 ≤ z.getD i 0 ∧ z.getD i 0 ≤ 9223372036854775807) ∧ len ≤ 9223372036854775807 := by
  refine ⟨fun hl => ?_, fun i => ?_, ?_⟩
  · obtain ⟨p, q, rfl, hp, _, _, hc, _⟩ := h.at hl
    exact ⟨p, q, rfl, hp, fun i hi => by rw [hc i hi]; simp [List.getD, hi]⟩
  · have hz : ∀ n ∈ z, (Lit.int .i64 n).wf = true := by
      rcases h with ⟨_, _, _, rfl⟩ | ⟨x, _, _, _, _, _, hw⟩
      · intro n hn; cases hn
      · exact hw
    exact range_i64 hz i
  · rcases h with ⟨_, h0, _, _⟩ | ⟨x, _, h1, h2, _⟩
    · omega
    · unfold maxLen at h2; omega

theorem chancesAll (a0 : Int) (a1 : Option Addr) (len1 cap1 : Nat) (z1 : List Int) (w : World) (w0 : (Lit.int .u64 a0).wf = true) (w1 : IsRow .i64 w a1 len1 cap1 z1) :
    Calls Try.prog 4 #[.int .u64 a0, .slice a1 len1 cap1] w fun e w' => e = .returned (.bool true) ∧ Below w.heap.size w w' := by
  have h0 := Go.bounds_u64 w0
  obtain ⟨x, rfl⟩ : ∃ x : Nat, a0 = x := ⟨a0.toNat, by omega⟩
  obtain ⟨h1, h2, h3⟩ := reads_i64 w1
  exact chances_core x len1 cap1 a1 (fun i => z1.getD i 0) w h3 (by omega) (hid h1) (hid fun i => (h2 i).2)

end Go.Proofs.Ytekfmpnfpoapfaa.WldL
