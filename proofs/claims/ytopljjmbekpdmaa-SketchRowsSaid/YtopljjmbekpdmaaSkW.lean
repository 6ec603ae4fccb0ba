/- SketchRows. -/
import Derived.Test.YtopljjmbekpdmaaSkV
namespace Go.Proofs.Ytopljjmbekpdmaa.SkW
open Go.ChangeShapes Go.WideShapes Go.ChangeAt Go.RowKit Go.Deep Base Wri Map WldG SkK SkA SkB SkC SkD SkE SkF SkG SkH SkI SkJ SkL SkM SkN SkP SkQ SkR SkS SkT SkU SkV
set_option linter.unusedVariables false

variable {w w' w0 w1 : World} {p q last t : Nat} {go : Option Nat} {X Y : Shp} {ns : List Note} {qs : List Nat} {mpf : Nat → Nat}

theorem est_more (h1 : Y.bk = X.bk) (h2 : Y.seed = X.seed) (h3 : Y.co = X.co) (h4 : Y.ro = X.ro + 1) (s : ByteArray) : estN q Y ns t s ≤ estN q X ns t s := by
  unfold estN rowN
  rw [h1, h2, h3, h4, least_succ]
  exact Nat.min_le_left _ _

theorem same_q {q' : Nat} (hX : Ok X q) (hY : Ok Y q') (h1 : Y.bk = X.bk) (h2 : Y.wd = X.wd) : q' = q := by rw [← hX.qe, ← hY.qe, h1, h2]

theorem est_at (h : Own w0 w p go X q last ns qs mpf) (K : ByteArray) (hs : K.size ≤ maxLen) :
    Calls Try.prog 31 #[.pointer (some ⟨p, 0, none⟩), .int .i64 last, .string K] w fun e w' => e = .returned (.tuple #[.int .i64 (estN q X ns last K), .int .i64 0]) ∧ Below w.heap.size w w' :=
  Estimate_yes h.full (t := last) (Nat.le_refl _) h.full.late K hs

set_option maxRecDepth 100000 in
set_option maxHeartbeats 4000000 in
theorem rows_core (wd bk ro co : Int) (sd : Nat) (hro : (Lit.int .i64 ro).wf = true) (a : Option Addr) (len cap : Nat) (D : Nat → Deed) (sv : Value) (hsv : sv = .slice a len cap) (K : ByteArray) (hK : K.size ≤ maxLen) (w : World) (HC : Hid (Deeds w a len D)) :
    Calls Try.prog 6 #[.agg #[.int .i64 wd, .int .i64 bk, .int .i64 ro, .int .i64 co, .int .u64 sd], sv, .string K] w fun e w' => e = .returned (.bool true) ∧ Below w.heap.size w w' := by
  have HSV := hid hsv
  clear hsv
  go_enter Try.func6, Try.ntmps6
  go_wp2_with fail
  refine (live_look _).mono ?_
  rintro e w1 ⟨rfl, hb1⟩
  have h0 : w1.heap[w.heap.size]? = some (.cells #[.int .i64 wd, .int .i64 bk, .int .i64 ro, .int .i64 co, .int .u64 sd] 24) := (hb1.block _ (by simp)).trans (heap_alloc_new w _)
  have HB1 : Hid (Below w.heap.size w w1) := hid (((Below.refl _ w).alloc (Nat.le_refl _) _).trans (hb1.mono (by simp)))
  have hxl : w.heap.size < w1.heap.size := by have := hb1.size; simp at this; omega
  have HX := hid h0
  have k0 : w1.cell? ⟨w.heap.size, 0, none⟩ = some (.int .i64 wd) := by unfold World.cell?; rw [h0]; rfl
  have k1 : w1.cell? ⟨w.heap.size, 1, none⟩ = some (.int .i64 bk) := by unfold World.cell?; rw [h0]; rfl
  have k2 : w1.cell? ⟨w.heap.size, 2, none⟩ = some (.int .i64 ro) := by unfold World.cell?; rw [h0]; rfl
  have k3 : w1.cell? ⟨w.heap.size, 3, none⟩ = some (.int .i64 co) := by unfold World.cell?; rw [h0]; rfl
  have k4 : w1.cell? ⟨w.heap.size, 4, none⟩ = some (.int .u64 sd) := by unfold World.cell?; rw [h0]; rfl
  have HR := hid (run_any wd bk ro co sd a len cap D sv HSV.out w1 (hid (deeds_below HC.out HB1.out)))
  clear hb1 h0
  go_wp2_with fail
  refine HR.out.mono ?_
  rintro e w2 (⟨hr, X, q, p, go, qs, mpf, rfl, rfl, rfl, rfl, rfl, rfl, hO⟩ | ⟨hr, rfl, hb2⟩)
  · have hr8 := hO.full.ok.r2
    have HO := hid hO
    have hb := hO.bel
    have j0 := (hb.cell (p := ⟨w.heap.size, 0, none⟩) hxl).trans k0
    have j1 := (hb.cell (p := ⟨w.heap.size, 1, none⟩) hxl).trans k1
    have j2 := (hb.cell (p := ⟨w.heap.size, 2, none⟩) hxl).trans k2
    have j3 := (hb.cell (p := ⟨w.heap.size, 3, none⟩) hxl).trans k3
    have j4 := (hb.cell (p := ⟨w.heap.size, 4, none⟩) hxl).trans k4
    have jf : w2.frozen? ⟨w.heap.size, 2, none⟩ = false := by
      have e := (hb.block w.heap.size hxl).trans HX.out
      unfold World.frozen?; rw [e]; rfl
    have hup : ∀ k, Ft p go qs mpf k → w1.heap.size ≤ k := hO.up
    have hO2 : Own w w2 p go X q (kept D len).1 (kept D len).2 qs mpf := SkV.Own.older hO HB1.out
    have hO3 : Own w (w2.setCell ⟨w.heap.size, 2, none⟩ (.int .i64 ((X.ro : Int) + 1))) p go X q (kept D len).1 (kept D len).2 qs mpf :=
      ⟨hO.full.keep fun k hk => (Wr.set (R := fun b => b = w.heap.size) (w := w2) ⟨w.heap.size, 2, none⟩ _ rfl).block k (hO.full.lt hk) (by intro e; have := hup k hk; omega), hO2.up, hO2.bel.setCell (Nat.le_refl _) _⟩
    have HO3 := hid hO3
    have HR2 := hid (run_any X.wd X.bk ((X.ro : Int) + 1) X.co X.seed a len cap D sv HSV.out (w2.setCell ⟨w.heap.size, 2, none⟩ (.int .i64 ((X.ro : Int) + 1))) (hid (deeds_below HC.out hO3.bel)))
    clear hO hb k0 k1 k2 k3 k4 HR hr hO2 hO3 hup
    go_wp2_with fail
    refine HR2.out.mono ?_
    rintro e w3 (⟨hr2, Y, q', p', go', qs', mpf', h1, h2, h3, h4, h5, rfl, hO'⟩ | ⟨hr2, rfl, hb3⟩)
    · have HO4 := hid (HO3.out.below hO'.bel)
      have HP4 := hid hO'
      have HYX := hid (show Y.bk = X.bk ∧ Y.wd = X.wd ∧ Y.ro = X.ro + 1 ∧ Y.co = X.co ∧ Y.seed = X.seed from ⟨by omega, by omega, by omega, by omega, h5⟩)
      clear HR2 HO3 hO' h1 h2 h3 h4 h5 hr2 j0 j1 j2 j3 j4 jf
      go_wp2_with fail
      refine (last_own HO4.out).mono ?_
      rintro e w4 ⟨rfl, rfl⟩
      have HE := hid (est_at HO4.out K hK)
      have HLE : Hid (estN q' Y (kept D len).2 (kept D len).1 K ≤ estN q X (kept D len).2 (kept D len).1 K) := hid (by
        obtain ⟨y1, y2, y3, y4, y5⟩ := HYX.out
        have hq : q' = q := same_q HO.out.full.ok HP4.out.full.ok y1 y2
        rw [hq]
        exact est_more y1 y5 y4 y3 K)
      obtain ⟨n1, hn1⟩ : ∃ n1, estN q X (kept D len).2 (kept D len).1 K = n1 := ⟨_, rfl⟩
      obtain ⟨n2, hn2⟩ : ∃ n2, estN q' Y (kept D len).2 (kept D len).1 K = n2 := ⟨_, rfl⟩
      rw [hn1, hn2] at HLE
      have hle := HLE.out
      rw [hn1] at HE
      have HN2 := hid hn2
      clear hn1 hn2
      go_wp2_with fail
      refine HE.out.mono ?_
      rintro e w5 ⟨rfl, hb5⟩
      have HO5 := hid (HO4.out.below hb5)
      have HP5 := hid (HP4.out.below hb5)
      clear HE HO4 HP4 hb5
      go_wp2_with fail
      refine (last_own HP5.out).mono ?_
      rintro e w6 ⟨rfl, rfl⟩
      have HE := hid (est_at HP5.out K hK)
      rw [HN2.out] at HE
      go_wp2_with fail
      refine HE.out.mono ?_
      rintro e w7 ⟨rfl, hb7⟩
      have HO7 := hid (HO5.out.below hb7)
      have HP7 := hid (HP5.out.below hb7)
      clear HE HO5 HP5 hb7
      obtain ⟨lt, hlt⟩ : ∃ lt, (kept D len).1 = lt := ⟨_, rfl⟩
      have HL1 := hid (last_own HO7.out)
      have HL2 := hid (last_own HP7.out)
      have HB7 := hid HO7.out.bel
      rw [hlt] at HL1 HL2
      clear hlt
      go_wp2_with fail
      refine HL1.out.mono ?_
      rintro e w8 ⟨rfl, rfl⟩
      clear HL1
      go_wp2_with fail
      refine HL2.out.mono ?_
      rintro e w8 ⟨rfl, rfl⟩
      clear HL2
      go_wp2_with fail
      go_ret
      exact ⟨rfl, HB7.out⟩
    · have HB3 := hid (HO3.out.bel.trans (hb3.mono HO3.out.bel.size))
      have hrf : (refZ X.wd X.bk ((X.ro : Int) + 1) X.co != 0) = true := by simpa using hr2
      generalize refZ X.wd X.bk ((X.ro : Int) + 1) X.co = r at *
      clear HR2 HO3 j0 j1 j2 j3 j4 jf hb3 hr2
      go_wp2_with fail
      go_ret
      exact ⟨rfl, HB3.out⟩
  · have HB2 := hid (HB1.out.trans (hb2.mono HB1.out.size))
    have hrf : (refZ wd bk ro co != 0) = true := by simpa using hr
    generalize refZ wd bk ro co = r at *
    have j0 := (hb2.cell (p := ⟨w.heap.size, 0, none⟩) hxl).trans k0
    have j1 := (hb2.cell (p := ⟨w.heap.size, 1, none⟩) hxl).trans k1
    have j2 := (hb2.cell (p := ⟨w.heap.size, 2, none⟩) hxl).trans k2
    have j3 := (hb2.cell (p := ⟨w.heap.size, 3, none⟩) hxl).trans k3
    have j4 := (hb2.cell (p := ⟨w.heap.size, 4, none⟩) hxl).trans k4
    have jf : w2.frozen? ⟨w.heap.size, 2, none⟩ = false := by
      have e := (hb2.block w.heap.size hxl).trans HX.out
      unfold World.frozen?; rw [e]; rfl
    obtain ⟨rn, hrn⟩ : ∃ rn, IntKind.i64.wrap (ro + 1) = rn := ⟨_, rfl⟩
    have HB3 : Hid (Below w.heap.size w (w2.setCell ⟨w.heap.size, 2, none⟩ (.int .i64 rn))) := hid (HB2.out.setCell (Nat.le_refl _) _)
    have HR2 := hid (run_any wd bk rn co sd a len cap D sv HSV.out (w2.setCell ⟨w.heap.size, 2, none⟩ (.int .i64 rn)) (hid (deeds_below HC.out HB3.out)))
    clear k0 k1 k2 k3 k4 HR hr hb2 HX
    go_wp2_with fail
    refine HR2.out.mono ?_
    rintro e w3 (⟨hr2, Y, q', p', go', qs', mpf', h1, h2, h3, h4, h5, rfl, hO'⟩ | ⟨hr2, rfl, hb3⟩)
    · have HB4 := hid (HB3.out.trans (hO'.bel.mono HB3.out.size))
      clear h1 h2 h3 h4 h5 hO' HR2 j0 j1 j2 j3 j4 jf
      go_wp2_with fail
      go_ret
      exact ⟨rfl, HB4.out⟩
    · have HB4 := hid (HB3.out.trans (hb3.mono HB3.out.size))
      clear hb3 HR2 j0 j1 j2 j3 j4 jf
      generalize refZ wd bk rn co = r2 at *
      go_wp2_with fail
      go_ret
      exact ⟨rfl, HB4.out⟩

theorem main {H : Type} {enc : TypeId × Value → H} {W : World} {base : Nat} {spare : Nat → Bool} {held : Bool} {d1 : DataW H} {p1 : List MemPlace} (wd bk ro co : Int) (sd : Nat) (w0 : (Lit.int .i64 ro).wf = true) (a1 : Option Addr) (len1 cap1 : Nat)
    (h1 : DataW.Trod enc Try.prog W base spare held 25 (.slice a1 len1 cap1) d1 p1) (K : ByteArray) (hK : K.size ≤ maxLen) :
    Calls Try.prog 6 #[.agg #[.int .i64 wd, .int .i64 bk, .int .i64 ro, .int .i64 co, .int .u64 sd], .slice a1 len1 cap1, .string K] W fun e w' => e = .returned (.bool true) ∧ Below W.heap.size W w' := by
  obtain ⟨D, hD⟩ := deeds_of h1
  exact rows_core wd bk ro co sd w0 a1 len1 cap1 D _ rfl K hK W (hid hD)

end Go.Proofs.Ytopljjmbekpdmaa.SkW
