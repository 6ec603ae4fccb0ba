/- Contracts of num's Plus over a list. -/
import Derived.Test.YtnloedhcginopaaNumC
namespace Go.Proofs.Ytnloedhcginopaa.Plu
open Go.ChangeShapes Go.WideShapes Go.ChangeAt Go.RowKit Base NumM NumA NumB NumC

/-- the sum from the left, at each step kept within int64 -/
def plusL (l : List Int) : Int := l.foldl (fun s x => keep (s + x)) 0
theorem plusL_snoc (l : List Int) (x : Int) : plusL (l ++ [x]) = keep (plusL l + x) := by simp [plusL]
theorem keep_fits (n : Int) : Fits (keep n) := by
  unfold keep
  by_cases h : Fits n
  · rw [if_pos h]; exact h
  · rw [if_neg h]
    by_cases h2 : n < 0
    · rw [if_pos h2]; decide
    · rw [if_neg h2]; decide
theorem fold_fits (l : List Int) : ∀ s, Fits s → Fits (l.foldl (fun s x => keep (s + x)) s) := by
  induction l with
  | nil => intro s h; exact h
  | cons x l ih => intro s _; exact ih _ (keep_fits _)
theorem plusL_fits (l : List Int) : Fits (plusL l) := fold_fits l 0 (by decide)

theorem take_snoc (l : List Int) (k : Nat) (h : k < l.length) : l.take (k + 1) = l.take k ++ [l.getD k 0] := by
  rw [List.take_succ_eq_append_getElem h]; simp [List.getD, h]

def PRel (w : World) (len : Nat) (xs : List Int) (t i : Value) (wr : World) : Prop :=
  ∃ k : Nat, k ≤ len ∧ i = .int .i64 k ∧ t = .int .i64 (plusL (xs.take k)) ∧ Below w.heap.size w wr

set_option maxHeartbeats 1000000 in
theorem plus_list (p q len cap : Nat) (xs : List Int) (w : World) (hlen : len ≤ 9223372036854775807) (hp : p < w.heap.size) (HL : Hid (xs.length = len))
    (HC : Hid (∀ i, i < len → w.cell? ⟨p, q + i, none⟩ = some (.int .i64 (xs.getD i 0)))) (HX : Hid (∀ i, Fits (xs.getD i 0))) :
    Calls Try.prog 69 #[.slice (some ⟨p, q, none⟩) len cap] w fun e w' => e = .returned (.int .i64 (plusL xs)) ∧ Below w.heap.size w w' := by
  go_enter Try.func69, Try.ntmps69
  go_wp2
  go_loopw [3, 8] (PRel w len xs) (fun _ i _ => len - (intOf i).toNat)
  case atStart => exact ⟨0, Nat.zero_le _, rfl, rfl, Below.refl _ _⟩
  case round =>
    obtain ⟨k, hk, rfl, rfl, hbel⟩ := hrel
    have HB := hid hbel
    clear hbel
    by_cases hlt : k < len
    · have hx : _ = some (Value.int .i64 (xs.getD k 0)) := (HB.out.cell (p := ⟨p, q + k, none⟩) hp).trans (HC.out k hlt)
      have HS : Hid (plusL (xs.take (k + 1)) = keep (plusL (xs.take k) + xs.getD k 0)) := hid (by rw [take_snoc _ _ (by rw [HL.out]; exact hlt), plusL_snoc])
      have HF : Hid (Fits (xs.getD k 0)) := hid (HX.out k)
      have HN : Hid (Fits (plusL (xs.take k))) := hid (plusL_fits _)
      generalize xs.getD k 0 = x at *
      generalize plusL (xs.take k) = n at *
      go_wp2_with fail
      refine (widen_any n HN.out.1 HN.out.2 _).mono ?_
      rintro e w1 ⟨rfl, hb1⟩
      go_wp2_with fail
      refine (widen_any x HF.out.1 HF.out.2 _).mono ?_
      rintro e w2 ⟨rfl, hb2⟩
      go_wp2_with fail
      refine (plus_eq n x rfl rfl _).mono ?_
      rintro e w3 ⟨rfl, hb3⟩
      go_wp2_with fail
      refine (kept_any (n + x) (bd_add HN.out HF.out) rfl _).mono ?_
      rintro e w4 ⟨rfl, hb4⟩
      have z0 := HB.out.size
      have z1 := hb1.size; have z2 := hb2.size; have z3 := hb3.size
      go_wp2
      go_roundw
      case rel =>
        have hb := HB.out
        exact ⟨k + 1, by omega, by go_num, by rw [HS.out], (by repeat (first | (with_reducible exact Below.refl _ _) | (with_reducible refine Below.setCell ?_ (by first | (simp; done) | (simp; omega) | omega) _) | (with_reducible refine Below.alloc ?_ (by first | (simp; done) | (simp; omega) | omega) _) | (with_reducible refine Below.drew ?_) | (with_reducible refine below_drewN ?_ _) | (with_reducible exact hb4) | (with_reducible exact hb3) | (with_reducible exact hb2) | (with_reducible exact hb1) | (with_reducible exact hb) | (with_reducible refine Below.trans ?_ (Below.mono hb4 (by first | (simp; done) | (simp; omega) | omega))) | (with_reducible refine Below.trans ?_ (Below.mono hb3 (by first | (simp; done) | (simp; omega) | omega))) | (with_reducible refine Below.trans ?_ (Below.mono hb2 (by first | (simp; done) | (simp; omega) | omega))) | (with_reducible refine Below.trans ?_ (Below.mono hb1 (by first | (simp; done) | (simp; omega) | omega))) | (with_reducible refine Below.trans ?_ (Below.mono hb (by first | (simp; done) | (simp; omega) | omega)))))⟩
      case measure => simp [intOf]; omega
    · have HE : Hid (plusL (xs.take k) = plusL xs) := hid (by rw [List.take_of_length_le (by rw [HL.out]; omega)])
      go_wp2
      go_ret
      rw [HE.out]
      exact ⟨rfl, HB.out⟩

set_option maxHeartbeats 400000 in
theorem plus_empty (a : Option Addr) (cap : Nat) (w : World) :
    Calls Try.prog 69 #[.slice a 0 cap] w fun e w' => e = .returned (.int .i64 0) ∧ Below w.heap.size w w' := by
  go_enter Try.func69, Try.ntmps69
  go_wp2
  go_loopw [3, 8] (fun t i wr => i = .int .i64 0 ∧ t = .int .i64 0 ∧ wr = w) (fun _ _ _ => 0)
  case atStart => exact ⟨rfl, rfl, rfl⟩
  case round =>
    obtain ⟨rfl, rfl, rfl⟩ := hrel
    go_wp2
    go_ret
    exact ⟨rfl, Below.refl _ _⟩

end Go.Proofs.Ytnloedhcginopaa.Plu
