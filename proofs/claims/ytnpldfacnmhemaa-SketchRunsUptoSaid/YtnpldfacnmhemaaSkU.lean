/- SketchAlone. -/
import Derived.Test.YtnpldfacnmhemaaSkT
namespace Go.Proofs.Ytnpldfacnmhemaa.SkU
set_option linter.unusedVariables false
open Go.ChangeShapes Go.WideShapes Go.ChangeAt Go.RowKit Go.Deep Base Wri Map WldG SkK SkA SkB SkC SkD SkE SkF SkG SkH SkI SkJ SkL SkM SkN SkP SkQ SkR SkS SkT

variable {w w' w0 : World} {p q last t : Nat} {go : Option Nat} {X : Shp} {ns : List Note} {qs : List Nat} {mpf : Nat → Nat}

theorem Estimate_no (hO : Full w p go X q last ns qs mpf) (t : Int) (s : ByteArray) (r : Int) (hr : refT last t true = r) (h0 : r ≠ 0) :
    Calls Try.prog 28 #[.pointer (some ⟨p, 0, none⟩), .int .i64 t, .string s] w fun e w' => e = .returned (.tuple #[.int .i64 0, .int .i64 r]) ∧ w = w' := by
  obtain ⟨_, v, hp, _⟩ := hO.sk
  obtain ⟨-, -, -, -, -, c5, -, -⟩ := sv_cells hp
  have HR := hid (refuses_any p last t true w c5)
  rw [hr] at HR
  have hrb : (r != 0) = true := by simpa using h0
  clear hO hp c5 hr h0
  go_enter Try.func28, Try.ntmps28
  go_wp2_with fail
  refine HR.out.mono ?_
  rintro e w1 ⟨rfl, rfl⟩
  go_wp2_with fail
  go_ret2
  exact ⟨rfl, rfl⟩

/-- one key alone: its estimate is exact -/
theorem least_const {rows v : Nat} {f : Nat → Nat} (h0 : 0 < rows) (hv : v ≤ 4611686018427387904) (hf : ∀ r, r < rows → f r = v) : least rows f = v :=
  Nat.le_antisymm (Nat.le_trans (least_le h0) (Nat.le_of_eq (hf 0 h0))) (le_least (fun r hr => Nat.le_of_eq (hf r hr).symm) hv)

theorem est_alone (hO : Ok X q) (K : ByteArray) (hK : ∀ x ∈ ns, x.k = K) (t : Nat) : estN q X ns t K = totalN q X.bk ns t := by
  unfold estN
  refine least_const hO.r1 (by unfold totalN; exact sat_le _) fun r _ => ?_
  unfold rowN totalN
  congr 1
  refine sumN_same fun x hx => .inl ?_
  rw [hK x hx]
  simp

/-- all is gone -/
theorem est_gone (h : Full w p go X q last ns qs mpf) (K : ByteArray) : estN q X ns (last + X.wd) K = 0 := by
  unfold estN
  refine least_const h.ok.r1 (by omega) fun r _ => ?_
  unfold rowN
  rw [sumN_zero, sat_zero]
  intro x hx hw
  exfalso
  simp only [Bool.and_eq_true] at hw
  have hw := hw.1
  unfold inW at hw
  rw [decide_eq_true_iff] at hw
  have e : (last + X.wd) / q = last / q + X.bk := by
    rw [h.ok.we, Nat.add_mul_div_left _ _ h.ok.q0]
  have : x.t / q ≤ last / q := Nat.div_le_div_right (h.inv.late x hx)
  omega

theorem Own.drew (h : Own w0 w p go X q last ns qs mpf) : Own w0 w.drew p go X q last ns qs mpf := SkR.Own.below h (Below.drew (Below.refl _ _))
theorem last_own (h : Own w0 w p go X q last ns qs mpf) :
    Calls Try.prog 45 #[.pointer (some ⟨p, 0, none⟩)] w fun e w' => e = .returned (.int .i64 last) ∧ w = w' := by
  obtain ⟨_, v, hp, _⟩ := h.full.sk
  obtain ⟨-, -, -, -, -, c5, -, -⟩ := sv_cells hp
  exact last_any p last w c5
theorem est_own (h : Own w0 w p go X q last ns qs mpf) (K : ByteArray) (hs : K.size ≤ maxLen) (hK : ∀ x ∈ ns, x.k = K) :
    Calls Try.prog 28 #[.pointer (some ⟨p, 0, none⟩), .int .i64 last, .string K] w fun e w' => e = .returned (.tuple #[.int .i64 (totalN q X.bk ns last), .int .i64 0]) ∧ Own w0 w' p go X q last ns qs mpf := by
  have H := Estimate_yes h.full (t := last) (Nat.le_refl _) h.full.late K hs
  rw [est_alone h.full.ok K hK] at H
  exact H.mono fun _ _ hh => ⟨hh.1, SkR.Own.below h hh.2⟩
theorem tot_own (h : Own w0 w p go X q last ns qs mpf) :
    Calls Try.prog 29 #[.pointer (some ⟨p, 0, none⟩), .int .i64 last] w fun e w' => e = .returned (.tuple #[.int .i64 (totalN q X.bk ns last), .int .i64 0]) ∧ Own w0 w' p go X q last ns qs mpf :=
  (Total_yes h.full (t := last) (Nat.le_refl _) h.full.late).mono fun _ _ hh => ⟨hh.1, SkR.Own.below h hh.2⟩

/-- at a time when all has left the window, if there is such a time -/
theorem later_own (h : Own w0 w p go X q last ns qs mpf) (K : ByteArray) (hs : K.size ≤ maxLen) :
    Calls Try.prog 28 #[.pointer (some ⟨p, 0, none⟩), .int .i64 ((last : Int) + X.wd), .string K] w fun e w' => ((1152921504606846976 < (last : Int) + X.wd ∧ e = .returned (.tuple #[.int .i64 0, .int .i64 2])) ∨ ((last : Int) + X.wd ≤ 1152921504606846976 ∧ e = .returned (.tuple #[.int .i64 0, .int .i64 0]))) ∧ Own w0 w' p go X q last ns qs mpf := by
  by_cases hl : last + X.wd ≤ 1152921504606846976
  · have H := Estimate_yes h.full (t := last + X.wd) (by omega) hl K hs
    rw [est_gone h.full K] at H
    exact H.mono fun _ _ hh => ⟨.inr ⟨by omega, hh.1⟩, SkR.Own.below h hh.2⟩
  · exact (Estimate_no h.full ((last : Int) + X.wd) K 2 (by unfold refT; rw [if_pos (by omega)]) (by omega)).mono fun _ _ hh => ⟨.inl ⟨by omega, hh.1⟩, hh.2 ▸ h⟩

theorem notes_key {t : Int} {s : ByteArray} {f : Nat → Int} {n : Nat} (h : ∀ x ∈ ns, x.k = s) : ∀ x ∈ notesA last ns t s f n, x.k = s := by
  intro x hx
  unfold notesA at hx
  split at hx
  · rcases List.mem_append.1 hx with e | e
    · exact h x e
    · simp at e; rw [e]
  · exact h x hx

end Go.Proofs.Ytnpldfacnmhemaa.SkU
