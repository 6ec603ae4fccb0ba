/- SketchAlone. -/
import Derived.Test.YtkdldcigooiljaaSkT
namespace Go.Proofs.Ytkdldcigooiljaa.SkU
set_option linter.unusedVariables false
open Go.ChangeShapes Go.WideShapes Go.ChangeAt Go.RowKit Go.Deep Base Wri Map WldG SkK SkA SkB SkC SkD SkE SkF SkG SkH SkI SkJ SkL SkM SkN SkP SkQ SkR SkS SkT

variable {w w' w0 : World} {p q last t : Nat} {go : Option Nat} {X : Shp} {ns : List Note} {qs : List Nat} {mpf : Nat → Nat}

theorem Estimate_no (hO : Full w p go X q last ns qs mpf) (t : Int) (s : ByteArray) (r : Int) (hr : refT last t true = r) (h0 : r ≠ 0) :
    Calls Try.prog 31 #[.pointer (some ⟨p, 0, none⟩), .int .i64 t, .string s] w fun e w' => e = .returned (.tuple #[.int .i64 0, .int .i64 r]) ∧ w = w' := by
  obtain ⟨_, v, hp, _⟩ := hO.sk
  obtain ⟨-, -, -, -, -, c5, -, -⟩ := sv_cells hp
  have HR := hid (refuses_any p last t true w c5)
  rw [hr] at HR
  have hrb : (r != 0) = true := by simpa using h0
  clear hO hp c5 hr h0
  go_enter Try.func31, Try.ntmps31
  go_wp2_with fail
  refine HR.out.mono ?_
  rintro e w1 ⟨rfl, rfl⟩
  go_wp2_with fail
  go_ret2
  exact ⟨rfl, rfl⟩

/-- one key alone: its estimate is exact -/
theorem least_const {rows v : Nat} {f : Nat → Nat} (h0 : 0 < rows) (hv : v ≤ 4611686018427387904) (hf : ∀ r, r < rows → f r = v) : least rows f = v :=
  Nat.le_antisymm (Nat.le_trans (least_le h0) (Nat.le_of_eq (hf 0 h0))) (le_least (fun r hr => Nat.le_of_eq (hf r hr).symm) hv)

theorem est_alone (hO : Ok X q) (K : ByteArray) (hK : ∀ x ∈ ns, x.k = K) (t : Nat) : estN q X ns t K = totalN q X.bk ns t := by
  unfold estN
  refine least_const hO.r1 (by unfold totalN; exact sat_le _) fun r _ => ?_
  unfold rowN totalN
  congr 1
  refine sumN_same fun x hx => .inl ?_
  rw [hK x hx]
  simp

/-- all is gone -/
theorem est_gone (h : Full w p go X q last ns qs mpf) (K : ByteArray) : estN q X ns (last + X.wd) K = 0 := by
  unfold estN
  refine least_const h.ok.r1 (by omega) fun r _ => ?_
  unfold rowN
  rw [sumN_zero, sat_zero]
  intro x hx hw
  exfalso
  simp only [Bool.and_eq_true] at hw
  have hw := hw.1
  unfold inW at hw
  rw [decide_eq_true_iff] at hw
  have e : (last + X.wd) / q = last / q + X.bk := by
    rw [h.ok.we, Nat.add_mul_div_left _ _ h.ok.q0]
  have : x.t / q ≤ last / q := Nat.div_le_div_right (h.inv.late x hx)
  omega

theorem Own.drew (h : Own w0 w p go X q last ns qs mpf) : Own w0 w.drew p go X q last ns qs mpf := SkR.Own.below h (Below.drew (Below.refl _ _))
theorem last_own (h : Own w0 w p go X q last ns qs mpf) :
    Calls Try.prog 54 #[.pointer (some ⟨p, 0, none⟩)] w fun e w' => e = .returned (.int .i64 last) ∧ w = w' := by
  obtain ⟨_, v, hp, _⟩ := h.full.sk
  obtain ⟨-, -, -, -, -, c5, -, -⟩ := sv_cells hp
  exact last_any p last w c5
theorem est_own (h : Own w0 w p go X q last ns qs mpf) (K : ByteArray) (hs : K.size ≤ maxLen) (hK : ∀ x ∈ ns, x.k = K) :
    Calls Try.prog 31 #[.pointer (some ⟨p, 0, none⟩), .int .i64 last, .string K] w fun e w' => e = .returned (.tuple #[.int .i64 (totalN q X.bk ns last), .int .i64 0]) ∧ Own w0 w' p go X q last ns qs mpf := by
  have H := Estimate_yes h.full (t := last) (Nat.le_refl _) h.full.late K hs
  rw [est_alone h.full.ok K hK] at H
  exact H.mono fun _ _ hh => ⟨hh.1, SkR.Own.below h hh.2⟩
theorem tot_own (h : Own w0 w p go X q last ns qs mpf) :
    Calls Try.prog 53 #[.pointer (some ⟨p, 0, none⟩), .int .i64 last] w fun e w' => e = .returned (.tuple #[.int .i64 (totalN q X.bk ns last), .int .i64 0]) ∧ Own w0 w' p go X q last ns qs mpf :=
  (Total_yes h.full (t := last) (Nat.le_refl _) h.full.late).mono fun _ _ hh => ⟨hh.1, SkR.Own.below h hh.2⟩

/-- at a time when all has left the window, if there is such a time -/
theorem later_own (h : Own w0 w p go X q last ns qs mpf) (K : ByteArray) (hs : K.size ≤ maxLen) :
    Calls Try.prog 31 #[.pointer (some ⟨p, 0, none⟩), .int .i64 ((last : Int) + X.wd), .string K] w fun e w' => ((1152921504606846976 < (last : Int) + X.wd ∧ e = .returned (.tuple #[.int .i64 0, .int .i64 2])) ∨ ((last : Int) + X.wd ≤ 1152921504606846976 ∧ e = .returned (.tuple #[.int .i64 0, .int .i64 0]))) ∧ Own w0 w' p go X q last ns qs mpf := by
  by_cases hl : last + X.wd ≤ 1152921504606846976
  · have H := Estimate_yes h.full (t := last + X.wd) (by omega) hl K hs
    rw [est_gone h.full K] at H
    exact H.mono fun _ _ hh => ⟨.inr ⟨by omega, hh.1⟩, SkR.Own.below h hh.2⟩
  · exact (Estimate_no h.full ((last : Int) + X.wd) K 2 (by unfold refT; rw [if_pos (by omega)]) (by omega)).mono fun _ _ hh => ⟨.inl ⟨by omega, hh.1⟩, hh.2 ▸ h⟩

theorem notes_key {t : Int} {s : ByteArray} {f : Nat → Int} {n : Nat} (h : ∀ x ∈ ns, x.k = s) : ∀ x ∈ notesA last ns t s f n, x.k = s := by
  intro x hx
  unfold notesA at hx
  split at hx
  · rcases List.mem_append.1 hx with e | e
    · exact h x e
    · simp at e; rw [e]
  · exact h x hx

set_option maxRecDepth 100000 in
set_option maxHeartbeats 4000000 in
theorem alone_core (wd bk ro co : Int) (sd : Nat) (a : Option Addr) (len cap : Nat) (D : Nat → Deed) (sv : Value) (hsv : sv = .slice a len cap) (w : World) (HC : Hid (Deeds w a len D)) :
    Calls Try.prog 9 #[.agg #[.int .i64 wd, .int .i64 bk, .int .i64 ro, .int .i64 co, .int .u64 sd], sv] w fun e w' => e = .returned (.bool true) ∧ Below w.heap.size w w' := by
  have HSV := hid hsv
  clear hsv
  go_enter Try.func9, Try.ntmps9
  go_wp2_with fail
  refine (live_look _).mono ?_
  rintro e w1 ⟨rfl, hb1⟩
  have k0 : w1.cell? ⟨w.heap.size, 0, none⟩ = some (.int .i64 wd) := (hb1.cell (p := ⟨w.heap.size, 0, none⟩) (by simp)).trans (by go_cell)
  have k1 : w1.cell? ⟨w.heap.size, 1, none⟩ = some (.int .i64 bk) := (hb1.cell (p := ⟨w.heap.size, 1, none⟩) (by simp)).trans (by go_cell)
  have k2 : w1.cell? ⟨w.heap.size, 2, none⟩ = some (.int .i64 ro) := (hb1.cell (p := ⟨w.heap.size, 2, none⟩) (by simp)).trans (by go_cell)
  have k3 : w1.cell? ⟨w.heap.size, 3, none⟩ = some (.int .i64 co) := (hb1.cell (p := ⟨w.heap.size, 3, none⟩) (by simp)).trans (by go_cell)
  have k4 : w1.cell? ⟨w.heap.size, 4, none⟩ = some (.int .u64 sd) := (hb1.cell (p := ⟨w.heap.size, 4, none⟩) (by simp)).trans (by go_cell)
  have HB1 : Hid (Below w.heap.size w w1) := hid (((Below.refl _ w).alloc (Nat.le_refl _) _).trans (hb1.mono (by simp)))
  have HX0 := hid k0
  have hxl : w.heap.size < w1.heap.size := by have := hb1.size; simp at this; omega
  clear hb1
  go_wp2_with fail
  refine (New_any wd bk ro co sd w1).mono ?_
  rintro e w2 (⟨hr, X, q, p, rfl, rfl, rfl, rfl, rfl, rfl, hO⟩ | ⟨hr, rfl, hb2⟩)
  · have HO := hid hO
    have HCD := hid (deeds_below HC.out HB1.out)
    clear hr hO k0 k1 k2 k3 k4 HC
    by_cases hl : len = 0
    · have hsv := HSV.out
      subst hl
      subst hsv
      have HB2 := hid (HB1.out.trans (HO.out.bel.mono HB1.out.size))
      clear HO HCD
      go_wp2_with fail
      go_ret
      exact ⟨rfl, HB2.out⟩
    · have hsv := HSV.out
      subst hsv
      have hlen := HCD.out.1
      obtain ⟨K, hK⟩ : ∃ K, (D 0).key = K := ⟨_, rfl⟩
      have HK := hid hK
      have hst : ∃ (go : Option Nat) (last : Nat) (ns : List Note) (qs : List Nat) (mpf : Nat → Nat), Own w1 w2 p go X q last ns qs mpf ∧ ∀ x ∈ ns, x.k = K := ⟨_, _, _, _, _, HO.out, fun x hx => by cases hx⟩
      have HST := hid hst
      clear hst HO hK
      have h0f : ((len : Int) == 0) = false := by simpa using hl
      go_wp2_with fail
      clear h0f
      go_loopw [7] (fun i wr => ∃ k : Nat, k ≤ len ∧ i = .int .i64 k ∧ ∃ (go : Option Nat) (last : Nat) (ns : List Note) (qs : List Nat) (mpf : Nat → Nat), Own w1 wr p go X q last ns qs mpf ∧ ∀ x ∈ ns, x.k = K) (fun i _ => len - (intOf i).toNat)
      case atStart => exact ⟨0, Nat.zero_le _, rfl, HST.out⟩
      case round =>
        obtain ⟨k, hk, rfl, go, last, ns, qs, mpf, hO, hN⟩ := hrel
        have HN := hid hN
        have HO := hid hO
        have hb := hO.bel
        clear hN hO HST
        by_cases hlt : k < len
        · obtain ⟨g, o, rfl, hg, hc⟩ := HCD.out.2.1 (by omega)
          have hck := hc k hlt
          have hc0 := hc 0 (by omega)
          obtain ⟨hks, hDn, hDf⟩ := HCD.out.2.2 k hlt
          obtain ⟨hks0, _, _⟩ := HCD.out.2.2 0 (by omega)
          have c1 : wr.cell? ⟨g, o + k * 4 + 1, none⟩ = some (.int .i64 (D k).t) := (hb.cell (p := ⟨g, o + k * 4 + 1, none⟩) hg).trans (hck 1 _ rfl)
          have c3 : wr.cell? ⟨g, o + k * 4 + 3, none⟩ = some (.slice (D k).a (D k).n (D k).cap) := (hb.cell (p := ⟨g, o + k * 4 + 3, none⟩) hg).trans (hck 3 _ rfl)
          have c2 : wr.cell? ⟨g, o + 2, none⟩ = some (.string K) := (hb.cell (p := ⟨g, o + 2, none⟩) hg).trans (by have := hc0 2 (.string (D 0).key) rfl; rw [HK.out, show o + 0 * 4 + 2 = o + 2 by omega] at this; exact this)
          have HOd := hid (HO.out.below (w' := wr.drew) (Below.drew (Below.refl _ _)))
          have HA := hid (Add_any HOd.out (D k).t K (by rw [← HK.out]; exact hks0) (D k).a (D k).n (D k).cap (D k).f hDn hDf)
          have hl0 : 0 < len := by omega
          clear hc hck hc0 hks hDn hDf hks0 hb HOd
          go_wp2_with fail
          go_region_with (go_at_call 30; refine HA.out.mono ?_; rintro e w3 ⟨rfl, go', qs', mpf', hO'⟩; have HO3 := hid hO'; clear HA hO')
          all_goals
            clear c1 c2 c3
            go_wp2_with fail
            go_roundw
            case rel => exact ⟨k + 1, by omega, by go_num, _, _, _, _, _, HO3.out, notes_key HN.out⟩
            case measure => simp [intOf]; omega
        · obtain ⟨g, o, rfl, hg, hc⟩ := HCD.out.2.1 (by omega)
          have c2 : wr.cell? ⟨g, o + 2, none⟩ = some (.string K) := (hb.cell (p := ⟨g, o + 2, none⟩) hg).trans (by have := hc 0 (by omega) 2 (.string (D 0).key) rfl; rw [HK.out, show o + 0 * 4 + 2 = o + 2 by omega] at this; exact this)
          have HC2 : Hid (w1.cell? ⟨g, o + 2, none⟩ = some (.string K)) := hid (by have := hc 0 (by omega) 2 (.string (D 0).key) rfl; rw [HK.out, show o + 0 * 4 + 2 = o + 2 by omega] at this; exact this)
          have hks0 := (HCD.out.2.2 0 (by omega)).1
          rw [HK.out] at hks0
          have hl0 : 0 < len := by omega
          have HL := hid (last_own (Own.drew HO.out))
          have HE := hid (est_own (Own.drew HO.out) K hks0 HN.out)
          have HGG := hid hg
          clear hc hb
          obtain ⟨n0, hn0⟩ : ∃ n0, totalN q X.bk ns last = n0 := ⟨_, rfl⟩
          rw [hn0] at HE
          have HN0 := hid hn0
          have hlate := HO.out.full.late
          have hwd := HO.out.full.ok.w1
          clear hn0
          go_wp2_with fail
          go_region_with (first | (go_at_call 54; refine HL.out.mono ?_; rintro e w3 ⟨rfl, rfl⟩) | (go_at_call 31; refine HE.out.mono ?_; rintro e w4 ⟨rfl, hO4⟩; have HO4 := hid hO4; clear HE HL hO4 c2))
          all_goals
            go_wp2_with fail
            refine (last_own HO4.out).mono ?_
            rintro e w5 ⟨rfl, rfl⟩
            have HT := hid (tot_own HO4.out)
            rw [HN0.out] at HT
            go_wp2_with fail
            refine HT.out.mono ?_
            rintro e w6 ⟨rfl, hO6⟩
            have HL6 := hid (last_own hO6)
            have cw : w6.cell? ⟨w.heap.size, 0, none⟩ = some (.int .i64 X.wd) := (hO6.bel.cell (p := ⟨w.heap.size, 0, none⟩) hxl).trans HX0.out
            have HL6d := hid (last_own (Own.drew hO6))
            have HE6d := hid (later_own (Own.drew hO6) K hks0)
            have HE6dd := hid (later_own (Own.drew (Own.drew hO6)) K hks0)
            have HC6 : Hid (w6.cell? ⟨g, o + 2, none⟩ = some (.string K)) := hid ((hO6.bel.cell (p := ⟨g, o + 2, none⟩) HGG.out).trans HC2.out)
            clear HT HO4 hO6 HL6
            go_wp2_with fail
            go_region_with (go_at_call 54; refine HL6d.out.mono ?_; rintro e w7 ⟨rfl, rfl⟩)
            all_goals
              have c6 := HC6.out
              clear cw
              go_wp2_with fail
              refine HE6d.out.mono ?_
              rintro e w8 ⟨⟨hm, rfl⟩ | ⟨hm, rfl⟩, hO8⟩
              all_goals
                have HB8 := hid (HB1.out.trans (hO8.bel.mono HB1.out.size))
                clear hO8 HE6d HE6dd HL6d c6
                go_wp2_with fail
                go_ret
                exact ⟨by simp, HB8.out⟩
  · have hrb : (refZ wd bk ro co != 0) = true := by simpa using hr
    generalize refZ wd bk ro co = r at *
    have hsv := HSV.out
    subst hsv
    have HB2 := hid (HB1.out.trans (hb2.mono HB1.out.size))
    have hrf : (r == 0) = false := by simpa using hr
    clear hb2 k0 k1 k2 k3 k4
    go_wp2_with fail
    go_ret
    exact ⟨rfl, HB2.out⟩

theorem main {H : Type} {enc : TypeId × Value → H} {W : World} {base : Nat} {spare : Nat → Bool} {held : Bool} {d1 : DataW H} {p1 : List MemPlace} (wd bk ro co : Int) (sd : Nat) (w0 : (Lit.int .i64 ro).wf = true) (a1 : Option Addr) (len1 cap1 : Nat)
    (h1 : DataW.Trod enc Try.prog W base spare held 58 (.slice a1 len1 cap1) d1 p1) :
    Calls Try.prog 9 #[.agg #[.int .i64 wd, .int .i64 bk, .int .i64 ro, .int .i64 co, .int .u64 sd], .slice a1 len1 cap1] W fun e w' => e = .returned (.bool true) ∧ Below W.heap.size W w' := by
  obtain ⟨D, hD⟩ := deeds_of h1
  exact alone_core wd bk ro co sd a1 len1 cap1 D _ rfl W (hid hD)

end Go.Proofs.Ytkdldcigooiljaa.SkU
