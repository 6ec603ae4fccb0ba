/- Contracts of the document's own Div, MulDiv, Share, of num's Share and Within; the laws NumSums, NumWide, NumRounds, NumWithin but for what must hold whatever is asked. -/
import Derived.Test.YtoilakjlnflpbaaRefE
namespace Go.Proofs.Ytoilakjlnflpbaa.LawA
open Go.ChangeShapes Go.WideShapes Go.ChangeAt Go.RowKit Base NumM NumA NumB NumC NumD NumE RefA RefB RefC RefD RefE DivB

set_option maxHeartbeats 400000 in
theorem muldiv_ref (a b c : Int) (up : Bool) (ha : Fits a) (hb : Fits b) (hc : Fits c) (w : World) :
    Calls Try.prog 39 #[.int .i64 a, .int .i64 b, .int .i64 c, .bool up] w fun e w' => e = .returned (.tuple #[.int .i64 (divN (a * b) c up), .int .i64 (divE (a * b) c up)]) ∧ Below w.heap.size w w' := by
  have HA := hid ha
  have HB := hid hb
  have HC := hid hc
  clear ha hb hc
  by_cases h0 : c = 0
  · subst h0
    have HN : Hid (divN (a * b) 0 up = 0 ∧ divE (a * b) 0 up = 9) := hid (by unfold divN divE; rw [if_pos rfl, if_pos rfl]; exact ⟨rfl, rfl⟩)
    go_enter Try.func39, Try.ntmps39
    go_wp2
    go_ret2
    rw [HN.out.1, HN.out.2]
    exact ⟨rfl, (by repeat (first | (with_reducible exact Below.refl _ _) | (with_reducible refine Below.setCell ?_ (by first | (simp; done) | (simp; omega) | omega) _) | (with_reducible refine Below.alloc ?_ (by first | (simp; done) | (simp; omega) | omega) _) | (with_reducible refine Below.drew ?_) | (with_reducible refine below_drewN ?_ _)))⟩
  · have HN : Hid (divN (a * b) c up = tellN (rdiv (a * b) c up) ∧ divE (a * b) c up = tellE (rdiv (a * b) c up)) := hid (by unfold divN divE; rw [if_neg h0, if_neg h0]; exact ⟨rfl, rfl⟩)
    have H0 := hid h0
    have h1 : (c == 0) = false := by rw [beq_eq_false_iff_ne]; exact h0
    clear h0
    go_enter Try.func39, Try.ntmps39
    go_wp2_with fail
    refine (product_ref a b HA.out HB.out _).mono ?_
    rintro e w1 ⟨rfl, hb1⟩
    go_wp2_with fail
    refine (by_any _ _ c up (abs_mul HA.out HB.out) HC.out H0.out rfl _).mono ?_
    rintro e w2 ⟨rfl, hb2⟩
    go_wp2_with fail
    refine (told_fit _ _).mono ?_
    rintro e w3 ⟨rfl, rfl⟩
    go_wp2
    go_ret2
    have hz := hb1.size
    rw [HN.out.1, HN.out.2]
    exact ⟨rfl, (by repeat (first | (with_reducible exact Below.refl _ _) | (with_reducible refine Below.setCell ?_ (by first | (simp; done) | (simp; omega) | omega) _) | (with_reducible refine Below.alloc ?_ (by first | (simp; done) | (simp; omega) | omega) _) | (with_reducible refine Below.drew ?_) | (with_reducible refine below_drewN ?_ _) | (with_reducible exact hb2) | (with_reducible exact hb1) | (with_reducible refine Below.trans ?_ (Below.mono hb2 (by first | (simp; done) | (simp; omega) | omega))) | (with_reducible refine Below.trans ?_ (Below.mono hb1 (by first | (simp; done) | (simp; omega) | omega)))))⟩

/-- the answer of Share -/
def shareN (a b : Int) : Int := if a < 0 ∨ b < a then 0 else if b = 0 then 0 else divN (1000 * a) b false
def shareE (a b : Int) : Int := if a < 0 ∨ b < a then 2 else if b = 0 then 0 else divE (1000 * a) b false

set_option maxHeartbeats 400000 in
theorem within_any (n lo hi : Int) (w : World) :
    Calls Try.prog 37 #[.int .i64 n, .int .i64 lo, .int .i64 hi] w fun e w' => e = .returned (.int .i64 (if n < lo then lo else if hi < n then hi else n)) ∧ w = w' := by
  by_cases h1 : n < lo
  · go_enter Try.func37, Try.ntmps37
    go_wp2
    go_ret
    exact ⟨rfl, rfl⟩
  · by_cases h2 : hi < n
    · go_enter Try.func37, Try.ntmps37
      go_wp2
      go_ret
      exact ⟨rfl, rfl⟩
    · go_enter Try.func37, Try.ntmps37
      go_wp2
      go_ret
      exact ⟨rfl, rfl⟩

end Go.Proofs.Ytoilakjlnflpbaa.LawA
