/- Contracts of num's Mean over a list. -/
import Derived.Test.YtloedjegmklblaaLawB
namespace Go.Proofs.Ytloedjegmklblaa.LawE
open Go.ChangeShapes Go.WideShapes Go.ChangeAt Go.RowKit Base NumM NumA NumB NumC NumD NumE RefA RefB RefC RefD RefE LawA LawB DivB

/-- the sum, exact -/
def sumL (l : List Int) : Int := l.foldl (· + ·) 0
theorem sumL_snoc (l : List Int) (x : Int) : sumL (l ++ [x]) = sumL l + x := by simp [sumL]

theorem sumL_abs : ∀ (l : List Int) (s : Int), (∀ x ∈ l, Fits x) → (l.foldl (· + ·) s).natAbs ≤ s.natAbs + l.length * 9223372036854775808
  | [], s, _ => by simp
  | x :: l, s, h => by
    have ih := sumL_abs l (s + x) (fun y hy => h y (List.mem_cons_of_mem _ hy))
    have hx := h x (List.mem_cons_self ..)
    unfold Fits at hx
    simp only [List.foldl_cons, List.length_cons]
    omega

theorem sumL_bd {l : List Int} (h : ∀ x ∈ l, Fits x) (hl : l.length ≤ 9223372036854775807) : (sumL l).natAbs < 170141183460469231731687303715884105728 := by
  have := sumL_abs l 0 h
  unfold sumL
  have h2 : l.length * 9223372036854775808 ≤ 9223372036854775807 * 9223372036854775808 := Nat.mul_le_mul_right _ hl
  simp at this
  omega

def MRel (w : World) (len : Nat) (xs : List Int) (i : Value) (wr : World) : Prop :=
  ∃ k : Nat, k ≤ len ∧ i = .int .i64 k ∧ wr.cell? ⟨w.heap.size, 0, none⟩ = some (.int .u64 (hiN (sumL (xs.take k)))) ∧ wr.cell? ⟨w.heap.size, 1, none⟩ = some (.int .u64 (loN (sumL (xs.take k)))) ∧
    wr.frozen? ⟨w.heap.size, 0, none⟩ = false ∧ wr.frozen? ⟨w.heap.size, 1, none⟩ = false ∧ Below w.heap.size w wr ∧ w.heap.size < wr.heap.size

theorem hi0 : hiN 0 = 0 := by decide
theorem lo0 : loN 0 = 0 := by decide

set_option maxRecDepth 20000 in
set_option maxHeartbeats 2000000 in
theorem mean_list (p q len cap : Nat) (xs : List Int) (w : World) (hlen : len ≤ 9223372036854775807) (h0 : 0 < len) (hp : p < w.heap.size) (HL : Hid (xs.length = len))
    (HC : Hid (∀ i, i < len → w.cell? ⟨p, q + i, none⟩ = some (.int .i64 (xs.getD i 0)))) (HX : Hid (∀ x ∈ xs, Fits x)) :
    Calls Try.prog 29 #[.slice (some ⟨p, q, none⟩) len cap] w fun e w' => e = .returned (.tuple #[.int .i64 (divN (sumL xs) len false), .int .i64 (divE (sumL xs) len false)]) ∧ Below w.heap.size w w' := by
  have HS : Hid (Fits (len : Int)) := hid (by unfold Fits; omega)
  have HLEN := hid hlen
  have hl0 : ((len : Int) == 0) = false := by rw [beq_eq_false_iff_ne]; omega
  go_enter Try.func29, Try.ntmps29
  go_wp2
  go_loopw [12] (MRel w len xs) (fun i _ => len - (intOf i).toNat)
  case atStart =>
    refine ⟨0, Nat.zero_le _, rfl, ?_, ?_, by go_simp, by go_simp, (Below.refl _ _).alloc (Nat.le_refl _) _, by simp⟩
    · show _ = some (Value.int .u64 ((hiN 0 : Nat) : Int)); rw [hi0]; go_simp
    · show _ = some (Value.int .u64 ((loN 0 : Nat) : Int)); rw [lo0]; go_simp
  case round =>
    obtain ⟨k, hk, rfl, c0, c1, f0, f1, hbel, hsz⟩ := hrel
    have HB := hid hbel
    clear hbel
    by_cases hlt : k < len
    · have hx : _ = some (Value.int .i64 (xs.getD k 0)) := (HB.out.cell (p := ⟨p, q + k, none⟩) hp).trans (HC.out k hlt)
      have HSn : Hid (sumL (xs.take (k + 1)) = sumL (xs.take k) + xs.getD k 0) := hid (by rw [take_snoc _ _ (by rw [HL.out]; exact hlt), sumL_snoc])
      have HF : Hid (Fits (xs.getD k 0)) := hid (HX.out _ (by have hkl : k < xs.length := (by rw [HL.out]; exact hlt); simp [List.getD, hkl]))
      generalize xs.getD k 0 = x at *
      generalize sumL (xs.take k) = n at *
      go_wp2_with fail
      go_region_with (first | (go_at_call 72; refine (widen_any x HF.out.1 HF.out.2 _).mono ?_; rintro e w1 ⟨rfl, hb1⟩; obtain ⟨hc1, hf1⟩ := bat hb1 w.heap.size hsz; have z1 := hb1.size; have g1 : w.heap.size < w1.heap.size := (Nat.lt_of_lt_of_le hsz z1)) | (go_at_call 73; refine (plus_eq n x rfl rfl _).mono ?_; rintro e w2 ⟨rfl, hb2⟩; obtain ⟨hc2, hf2⟩ := bat hb2 w.heap.size g1; have z2 := hb2.size; have g2 : w.heap.size < w2.heap.size := (Nat.lt_of_lt_of_le g1 z2)))
      all_goals
        have z0 := HB.out.size
        go_wp2
        go_roundw
        case rel =>
          have hb := HB.out
          exact ⟨k + 1, by omega, by go_num, by rw [HSn.out]; go_simp, by rw [HSn.out]; go_simp, by go_simp, by go_simp, (by repeat (first | (with_reducible exact Below.refl _ _) | (with_reducible refine Below.setCell ?_ (by first | (simp; done) | (simp; omega) | omega) _) | (with_reducible refine Below.alloc ?_ (by first | (simp; done) | (simp; omega) | omega) _) | (with_reducible refine Below.drew ?_) | (with_reducible exact hb2) | (with_reducible exact hb1) | (with_reducible exact hb) | (with_reducible refine Below.trans ?_ (Below.mono hb2 (by first | (simp; done) | (simp; omega) | omega))) | (with_reducible refine Below.trans ?_ (Below.mono hb1 (by first | (simp; done) | (simp; omega) | omega))) | (with_reducible refine Below.trans ?_ (Below.mono hb (by first | (simp; done) | (simp; omega) | omega))))), by simp; omega⟩
        case measure => simp [intOf]; omega
    · have HE : Hid (sumL (xs.take k) = sumL xs) := hid (by rw [List.take_of_length_le (by rw [HL.out]; omega)])
      rw [HE.out] at c0 c1
      have HBD : Hid ((sumL xs).natAbs < 170141183460469231731687303715884105728) := hid (sumL_bd HX.out (by rw [HL.out]; exact HLEN.out))
      obtain ⟨n, HN⟩ : ∃ n, Hid (sumL xs = n) := ⟨_, hid rfl⟩
      rw [HN.out] at c0 c1 HBD
      go_wp2_with fail
      refine (rounded_all n len false (by have := HBD.out; unfold Bd; omega) HBD.out HS.out rfl _).mono ?_
      rintro e w1 ⟨rfl, hb1⟩
      go_wp2
      go_ret2
      have hb := HB.out
      have z0 := hb.size
      rw [HN.out]
      exact ⟨rfl, (by repeat (first | (with_reducible exact Below.refl _ _) | (with_reducible refine Below.setCell ?_ (by first | (simp; done) | (simp; omega) | omega) _) | (with_reducible refine Below.alloc ?_ (by first | (simp; done) | (simp; omega) | omega) _) | (with_reducible refine Below.drew ?_) | (with_reducible exact hb1) | (with_reducible exact hb) | (with_reducible refine Below.trans ?_ (Below.mono hb1 (by first | (simp; done) | (simp; omega) | omega))) | (with_reducible refine Below.trans ?_ (Below.mono hb (by first | (simp; done) | (simp; omega) | omega)))))⟩

set_option maxHeartbeats 400000 in
theorem mean_empty (a : Option Addr) (cap : Nat) (w : World) :
    Calls Try.prog 29 #[.slice a 0 cap] w fun e w' => e = .returned (.tuple #[.int .i64 0, .int .i64 4]) ∧ Below w.heap.size w w' := by
  go_enter Try.func29, Try.ntmps29
  go_wp2
  go_ret2
  exact ⟨rfl, (by repeat (first | (with_reducible exact Below.refl _ _) | (with_reducible refine Below.setCell ?_ (by first | (simp; done) | (simp; omega) | omega) _) | (with_reducible refine Below.alloc ?_ (by first | (simp; done) | (simp; omega) | omega) _) | (with_reducible refine Below.drew ?_)))⟩

end Go.Proofs.Ytloedjegmklblaa.LawE
