/- Contracts of the wide numbers: negative, negated, size, for every number within 128 bits. -/
import Derived.Test.YtoilakjlnflpbaaNumA
namespace Go.Proofs.Ytoilakjlnflpbaa.NumB
open Go.ChangeShapes Go.WideShapes Go.ChangeAt Go.RowKit Base NumM NumA

theorem xor_max (n : Nat) (h : n < 18446744073709551616) : bits .xor .u64 IntKind.u64.max (n : Int) = 18446744073709551615 - n := by
  have e : IntKind.u64.max = ((18446744073709551615 : Nat) : Int) := by decide
  rw [e, bits_xor_u64_nat _ _ (by omega) h]
  have : (18446744073709551615 : Nat) ^^^ n = 18446744073709551615 - n := by
    have e := @BitVec.toNat_not 64 (BitVec.ofNat 64 n)
    rw [← BitVec.xor_allOnes, BitVec.toNat_xor, BitVec.toNat_allOnes, BitVec.toNat_ofNat, Nat.mod_eq_of_lt (show n < 2 ^ 64 by omega), Nat.xor_comm] at e
    exact e
  rw [this]
  omega

set_option maxHeartbeats 400000 in
theorem negative_any (n : Int) (h : Bd n) (w : World) :
    Calls Try.prog 88 #[W n] w fun e w' => e = .returned (.bool (neg n)) ∧ Below w.heap.size w w' := by
  have e1 : decide (wrap64 (hiN n : Int) < 0) = neg n := by unfold wrap64; exact hi_neg h
  clear h
  unfold W
  go_enter Try.func88, Try.ntmps88
  go_wp2
  go_ret
  exact ⟨rfl, (Below.refl _ _).alloc (Nat.le_refl _) _⟩

set_option maxHeartbeats 400000 in
theorem negated_any (n : Int) (w : World) :
    Calls Try.prog 91 #[W n] w fun e w' => e = .returned (W (-n)) ∧ Below w.heap.size w w' := by
  have e1 : bits .xor .u64 IntKind.u64.max (hiN n : Int) = (hiN (-n - 1) : Int) := by rw [xor_max _ (hi_lt n), hi_not]
  have e2 : bits .xor .u64 IntKind.u64.max (loN n : Int) = (loN (-n - 1) : Int) := by rw [xor_max _ (lo_lt n), lo_not]
  have hs : IntKind.u64.signed = false := rfl
  go_enter Try.func91, Try.ntmps91
  go_wp2_with (go_at_call 90; refine (plus_eq (-n - 1) 1 rfl rfl _).mono ?_; rintro e w1 ⟨rfl, hb⟩; obtain ⟨hc, hf⟩ := bcell hb; have hz := hb.size; simp at hz; have hz0 : w.heap.size < w1.heap.size := (by omega); have hz1 : w.heap.size + 1 < w1.heap.size := (by omega))
  exact bodyPost_ret (v := W (-n)) (by simp [results, Try.results91, go_sem, hc]) rfl ⟨rfl, (((((Below.refl _ _).alloc (Nat.le_refl _) _).alloc (by simp) _).trans (hb.mono (by simp; omega))).setCell (by simp) _).setCell (by simp) _⟩

set_option maxHeartbeats 400000 in
theorem size_any (n : Int) (hn : Bd n) (w : World) :
    Calls Try.prog 100 #[W n] w fun e w' => e = .returned (W n.natAbs) ∧ Below w.heap.size w w' := by
  have HN : Hid (Bd n) := hid hn
  clear hn
  by_cases h : n < 0
  · have e1 : neg n = true := by unfold neg; simpa using h
    have e2 : ((n.natAbs : Nat) : Int) = -n := by omega
    rw [e2]
    clear e2 h
    go_enter Try.func100, Try.ntmps100
    go_wp2_with (first | (go_at_call 88; refine (negative_any n HN.out _).mono ?_; rintro e w1 ⟨rfl, hb⟩; obtain ⟨hc, hf⟩ := bcell hb; have hz := hb.size; simp at hz; have hz0 : w.heap.size < w1.heap.size := (by omega); have hz1 : w.heap.size + 1 < w1.heap.size := (by omega)) | (go_at_call 91; refine (negated_any n _).mono ?_; rintro e w2 ⟨rfl, hb2⟩; obtain ⟨hc2, hf2⟩ := bcell hb2; have hz2 := hb2.size))
    exact bodyPost_ret (v := W (-n)) (by simp [results, Try.results100, go_sem, hc2, hc, hz1]) rfl ⟨rfl, (by repeat (first | (with_reducible exact Below.refl _ _) | (with_reducible refine Below.setCell ?_ (by first | (simp; done) | (simp; omega) | omega) _) | (with_reducible refine Below.alloc ?_ (by first | (simp; done) | (simp; omega) | omega) _) | (with_reducible refine Below.drew ?_) | (with_reducible refine Below.trans ?_ (Below.mono hb2 (by first | (simp; done) | (simp; omega) | omega))) | (with_reducible refine Below.trans ?_ (Below.mono hb (by first | (simp; done) | (simp; omega) | omega)))))⟩
  · have e1 : neg n = false := by unfold neg; simpa using h
    have e2 : ((n.natAbs : Nat) : Int) = n := by omega
    rw [e2]
    clear e2 h
    go_enter Try.func100, Try.ntmps100
    go_wp2_with (first | (go_at_call 88; refine (negative_any n HN.out _).mono ?_; rintro e w1 ⟨rfl, hb⟩; obtain ⟨hc, hf⟩ := bcell hb; have hz := hb.size; simp at hz; have hz0 : w.heap.size < w1.heap.size := (by omega); have hz1 : w.heap.size + 1 < w1.heap.size := (by omega)) | (go_at_call 91; refine (negated_any n _).mono ?_; rintro e w2 ⟨rfl, hb2⟩; obtain ⟨hc2, hf2⟩ := bcell hb2))
    exact bodyPost_ret (v := W n) (by simp [results, Try.results100, go_sem, hc]) rfl ⟨rfl, (by repeat (first | (with_reducible exact Below.refl _ _) | (with_reducible refine Below.setCell ?_ (by first | (simp; done) | (simp; omega) | omega) _) | (with_reducible refine Below.alloc ?_ (by first | (simp; done) | (simp; omega) | omega) _) | (with_reducible refine Below.drew ?_) | (with_reducible refine Below.trans ?_ (Below.mono hb (by first | (simp; done) | (simp; omega) | omega)))))⟩

end Go.Proofs.Ytoilakjlnflpbaa.NumB
