/- The document's own sum. -/
import Derived.Test.YtakmfcnmcjbbgaaRefB
namespace Go.Proofs.Ytakmfcnmcjbbgaa.RAdd
open Go.ChangeShapes Go.WideShapes Go.ChangeAt Go.RowKit Base NumM NumA RefA RefB

theorem told_fit (s : Int) (w : World) :
    Calls Try.prog 30 #[.int .i64 (tellN s), .bool (fitsB s)] w fun e w' => e = .returned (.tuple #[.int .i64 (tellN s), .int .i64 (tellE s)]) ∧ w = w' := by
  have h := told_any (tellN s) (fitsB s) w
  have e1 : (if fitsB s = true then tellN s else 0) = tellN s := by unfold tellN fitsB; by_cases h : Fits s <;> simp [h]
  have e2 : (if fitsB s = true then (0 : Int) else 8) = tellE s := by unfold tellE fitsB; by_cases h : Fits s <;> simp [h]
  rw [e1, e2] at h
  exact h

set_option maxHeartbeats 400000 in
theorem add_ref (a b : Int) (ha : Fits a) (hb : Fits b) (w : World) :
    Calls Try.prog 19 #[.int .i64 a, .int .i64 b] w fun e w' => e = .returned (.tuple #[.int .i64 (tellN (a + b)), .int .i64 (tellE (a + b))]) ∧ Below w.heap.size w w' := by
  have HA := hid ha
  have HB := hid hb
  have hm : Hid (a.natAbs + b.natAbs < 340282366920938463463374607431768211456) := hid (by unfold Fits at *; omega)
  have hs : Hid (sgn (plusB (neg a) a.natAbs (neg b) b.natAbs) (plusN (neg a) a.natAbs (neg b) b.natAbs) = a + b) := hid (by rw [plus_sgn]; unfold sgn neg; by_cases h1 : a < 0 <;> by_cases h2 : b < 0 <;> simp [h1, h2] <;> omega)
  clear ha hb
  go_enter Try.func19, Try.ntmps19
  go_wp2_with fail
  refine (of_any a HA.out _).mono ?_
  rintro e w1 ⟨rfl, hb1⟩
  go_wp2_with fail
  refine (of_any b HB.out _).mono ?_
  rintro e w2 ⟨rfl, hb2⟩
  go_wp2_with fail
  refine (plus_ref _ _ _ _ hm.out rfl rfl _).mono ?_
  rintro e w3 ⟨rfl, hb3⟩
  go_wp2_with fail
  refine (small_any _ _ rfl _).mono ?_
  rw [hs.out]
  rintro e w4 ⟨rfl, hb4⟩
  go_wp2_with fail
  refine (told_fit _ _).mono ?_
  rintro e w5 ⟨rfl, rfl⟩
  go_wp2
  go_ret2
  have z1 := hb1.size; have z2 := hb2.size; have z3 := hb3.size
  exact ⟨rfl, (by repeat (first | (with_reducible exact Below.refl _ _) | (with_reducible refine Below.setCell ?_ (by first | (simp; done) | (simp; omega) | omega) _) | (with_reducible refine Below.alloc ?_ (by first | (simp; done) | (simp; omega) | omega) _) | (with_reducible refine Below.drew ?_) | (with_reducible refine below_drewN ?_ _) | (with_reducible exact hb4) | (with_reducible exact hb3) | (with_reducible exact hb2) | (with_reducible exact hb1) | (with_reducible refine Below.trans ?_ (Below.mono hb4 (by first | (simp; done) | (simp; omega) | omega))) | (with_reducible refine Below.trans ?_ (Below.mono hb3 (by first | (simp; done) | (simp; omega) | omega))) | (with_reducible refine Below.trans ?_ (Below.mono hb2 (by first | (simp; done) | (simp; omega) | omega))) | (with_reducible refine Below.trans ?_ (Below.mono hb1 (by first | (simp; done) | (simp; omega) | omega)))))⟩

end Go.Proofs.Ytakmfcnmcjbbgaa.RAdd
