/- The walk of math/bits.Div64: the quotient and the rest of 128 bits by 64, where the quotient fits. -/
import Derived.Test.YtoilakjlnflpbaaBase
import Derived.Test.YtoilakjlnflpbaaDivM
import Derived.Laws.Bits64
import Derived.Laws.Bits64b
namespace Go.Proofs.Ytoilakjlnflpbaa.DivA
open Go.ChangeShapes Go.WideShapes Go.ChangeAt Go.RowKit Base DivM

theorem w_nat (a : Nat) (h : a < 18446744073709551616) : IntKind.u64.wrap (a : Int) = a := by rw [IntKind.wrap_u64]; omega
theorem w_mul (a b : Nat) (h : a * b < 18446744073709551616) : IntKind.u64.wrap ((a : Int) * b) = ((a * b : Nat) : Int) := by rw [← Int.natCast_mul]; exact w_nat _ h

/-- one turn of the loop over a guess and its rest: what its words are, and where it comes to -/
def Down (u y1 y0 d q r : Nat) (p r' : Nat) : Prop := IntKind.u64.wrap ((q : Int) - 1) = p ∧ IntKind.u64.wrap ((r : Int) + y1) = r' ∧ p < q ∧ ((decide ((4294967296 : Int) ≤ r') = false ∧ Inv u y1 y0 d p r') ∨ (decide ((4294967296 : Int) ≤ r') = true ∧ p = dig u y1 y0 d))

theorem down_of {u y1 y0 d q r : Nat} (n : Nrm u y1 y0 d) (i : Inv u y1 y0 d q r) (ht : 4294967296 ≤ q ∨ 4294967296 * r + d < q * y0) : Down u y1 y0 d q r (q - 1) (r + y1) := by
  have h1 := Inv.pos ht
  have h2 := i.i2; have h3 := i.i3; have h4 := n.h2
  refine ⟨by rw [IntKind.wrap_u64]; omega, by rw [IntKind.wrap_u64]; omega, by omega, ?_⟩
  by_cases hr : r + y1 < 4294967296
  · exact .inl ⟨by rw [decide_eq_false_iff_not]; omega, i.down n ht hr⟩
  · exact .inr ⟨by rw [decide_eq_true_iff]; omega, i.stop n ht (by omega)⟩

theorem turn {u y1 y0 d q r : Nat} (n : Nrm u y1 y0 d) (i : Inv u y1 y0 d q r) :
    (decide ((4294967296 : Int) ≤ q) = true ∧ ∃ p r', Down u y1 y0 d q r p r') ∨
    (decide ((4294967296 : Int) ≤ q) = false ∧ ∃ P Z0 Z : Nat, IntKind.u64.wrap ((q : Int) * y0) = P ∧ IntKind.u64.wrap (4294967296 * (r : Int)) = Z0 ∧ IntKind.u64.wrap ((Z0 : Int) + d) = Z ∧ ((Z < P ∧ ∃ p r', Down u y1 y0 d q r p r') ∨ (decide (Z < P) = false ∧ q = dig u y1 y0 d))) := by
  have h2 := i.i2; have h4 := n.h4; have h3 := n.h3
  by_cases hq : 4294967296 ≤ q
  · exact .inl ⟨by rw [decide_eq_true_iff]; omega, _, _, down_of n i (.inl hq)⟩
  · refine .inr ⟨by rw [decide_eq_false_iff_not]; omega, q * y0, 4294967296 * r, 4294967296 * r + d, w_mul _ _ (mul_small (by omega) h3), by rw [IntKind.wrap_u64]; omega, by rw [IntKind.wrap_u64]; omega, ?_⟩
    by_cases ht : 4294967296 * r + d < q * y0
    · exact .inl ⟨ht, _, _, down_of n i (.inr ht)⟩
    · exact .inr ⟨by simpa using ht, i.right n ht⟩

set_option maxRecDepth 100000 in
set_option maxHeartbeats 1000000 in
theorem div64_core (hi lo y s t Y y1 y0 A B u L d1 d0 q1 u2 q2 rem quo g1 r1 g2 r2 : Nat) (w : World)
   (h0 : ((y : Int) == 0) = false) (h1 : decide (y ≤ hi) = false) (h2 : ((hi : Int) == 0) = false)
   (HL : Hid (∀ w, Calls Try.prog 93 #[.int .u64 y] w fun e w' => e = .returned (.int .i64 s) ∧ w' = w))
   (es : IntKind.u64.wrap (s : Int) = s) (em : min s 64 = s) (eY : IntKind.u64.wrap ((y : Int) * 2 ^ s) = Y) (e1 : (Y : Int) / 4294967296 = y1) (e0 : bits .and .u64 (Y : Int) 4294967295 = y0) (hy1 : 0 < y1)
   (eA : IntKind.u64.wrap ((hi : Int) * 2 ^ s) = A) (et : IntKind.u64.wrap (64 - (s : Int)) = t) (emt : min t 64 = t) (eB : (lo : Int) / 2 ^ t = B) (eu : bits .or .u64 (A : Int) B = u)
   (eL : IntKind.u64.wrap ((lo : Int) * 2 ^ s) = L) (ed1 : (L : Int) / 4294967296 = d1) (ed0 : bits .and .u64 (L : Int) 4294967295 = d0)
   (eg1 : IntKind.u64.wrap ((u : Int) / y1) = g1) (er1 : IntKind.u64.wrap ((u : Int) - IntKind.u64.wrap ((g1 : Int) * y1)) = r1)
   (eg2 : IntKind.u64.wrap ((u2 : Int) / y1) = g2) (er2 : IntKind.u64.wrap ((u2 : Int) - IntKind.u64.wrap ((g2 : Int) * y1)) = r2)
   (N1 : Hid (Nrm u y1 y0 d1)) (N2 : Hid (Nrm u2 y1 y0 d0)) (I1 : Hid (Inv u y1 y0 d1 g1 r1)) (I2 : Hid (Inv u2 y1 y0 d0 g2 r2)) (Q1 : Hid (q1 = dig u y1 y0 d1)) (Q2 : Hid (q2 = dig u2 y1 y0 d0))
   (eu2 : IntKind.u64.wrap (IntKind.u64.wrap (IntKind.u64.wrap ((u : Int) * 4294967296) + d1) - IntKind.u64.wrap ((q1 : Int) * Y)) = u2)
   (equo : IntKind.u64.wrap (IntKind.u64.wrap ((q1 : Int) * 4294967296) + q2) = quo)
   (erem : (IntKind.u64.wrap (IntKind.u64.wrap (IntKind.u64.wrap ((u2 : Int) * 4294967296) + d0) - IntKind.u64.wrap ((q2 : Int) * Y))) / 2 ^ s = rem) :
    Calls Try.prog 80 #[.int .u64 hi, .int .u64 lo, .int .u64 y] w fun e w' => e = .returned (.tuple #[.int .u64 quo, .int .u64 rem]) ∧ w = w' := by
  go_enter Try.func80, Try.ntmps80
  go_wp2_with fail
  refine (HL.out _).mono ?_
  rintro e w1 ⟨rfl, rfl⟩
  go_wp2_with fail
  go_loop [15, 16] (fun a b => ∃ q r : Nat, a = .int .u64 q ∧ b = .int .u64 r ∧ Inv u y1 y0 d1 q r) (fun a _ => (intOf a).toNat)
  case atStart => exact ⟨g1, r1, rfl, rfl, I1.out⟩
  case round =>
    obtain ⟨q, r, rfl, rfl, hinv⟩ := hrel
    rcases turn N1.out hinv with ⟨hq, p, r', k1, k2, k3, k4⟩ | ⟨hq, P, Z0, Z, z1, z2, z3, zz⟩
    · have k1 : IntKind.u64.wrap ((q : Int) - 1) = p := k1
      clear hinv
      rcases k4 with ⟨k5, k6⟩ | ⟨k5, k6⟩
      · have K6 := hid k6
        clear k6
        go_wp2
        go_round
        case rel => exact ⟨p, r', rfl, rfl, K6.out⟩
        case measure => simp [intOf]; omega
      · have kk := k6.trans Q1.out.symm; clear k6; subst kk
        clear k3
        go_wp2_with fail
        go_loop [16, 18] (fun b a => ∃ q r : Nat, a = .int .u64 q ∧ b = .int .u64 r ∧ Inv u2 y1 y0 d0 q r) (fun _ a => (intOf a).toNat)
        case atStart => exact ⟨g2, r2, rfl, rfl, I2.out⟩
        case round =>
          obtain ⟨q, r, rfl, rfl, hinv⟩ := hrel
          rcases turn N2.out hinv with ⟨hq, p, r', k1, k2, k3, k4⟩ | ⟨hq, P, Z0, Z, z1, z2, z3, zz⟩
          · have k1 : IntKind.u64.wrap ((q : Int) - 1) = p := k1
            clear hinv
            rcases k4 with ⟨k5, k6⟩ | ⟨k5, k6⟩
            · have K6 := hid k6
              clear k6
              go_wp2
              go_round
              case rel => exact ⟨p, r', rfl, rfl, K6.out⟩
              case measure => simp [intOf]; omega
            · have kk := k6.trans Q2.out.symm; clear k6; subst kk
              clear k3
              go_wp2
              go_ret2
              exact ⟨rfl, rfl⟩
          · rcases zz with ⟨z4, p, r', k1, k2, k3, k4⟩ | ⟨z4, z5⟩
            · have k1 : IntKind.u64.wrap ((q : Int) - 1) = p := k1
              clear hinv
              rcases k4 with ⟨k5, k6⟩ | ⟨k5, k6⟩
              · have K6 := hid k6
                clear k6
                go_wp2
                go_round
                case rel => exact ⟨p, r', rfl, rfl, K6.out⟩
                case measure => simp [intOf]; omega
              · have kk := k6.trans Q2.out.symm; clear k6; subst kk
                clear k3
                go_wp2
                go_ret2
                exact ⟨rfl, rfl⟩
            · clear hinv
              have kk := z5.trans Q2.out.symm; clear z5; subst kk
              go_wp2
              go_ret2
              exact ⟨rfl, rfl⟩
    · rcases zz with ⟨z4, p, r', k1, k2, k3, k4⟩ | ⟨z4, z5⟩
      · have k1 : IntKind.u64.wrap ((q : Int) - 1) = p := k1
        clear hinv
        rcases k4 with ⟨k5, k6⟩ | ⟨k5, k6⟩
        · have K6 := hid k6
          clear k6
          go_wp2
          go_round
          case rel => exact ⟨p, r', rfl, rfl, K6.out⟩
          case measure => simp [intOf]; omega
        · have kk := k6.trans Q1.out.symm; clear k6; subst kk
          clear k3
          go_wp2_with fail
          go_loop [16, 18] (fun b a => ∃ q r : Nat, a = .int .u64 q ∧ b = .int .u64 r ∧ Inv u2 y1 y0 d0 q r) (fun _ a => (intOf a).toNat)
          case atStart => exact ⟨g2, r2, rfl, rfl, I2.out⟩
          case round =>
            obtain ⟨q, r, rfl, rfl, hinv⟩ := hrel
            rcases turn N2.out hinv with ⟨hq, p, r', k1, k2, k3, k4⟩ | ⟨hq, P, Z0, Z, z1, z2, z3, zz⟩
            · have k1 : IntKind.u64.wrap ((q : Int) - 1) = p := k1
              clear hinv
              rcases k4 with ⟨k5, k6⟩ | ⟨k5, k6⟩
              · have K6 := hid k6
                clear k6
                go_wp2
                go_round
                case rel => exact ⟨p, r', rfl, rfl, K6.out⟩
                case measure => simp [intOf]; omega
              · have kk := k6.trans Q2.out.symm; clear k6; subst kk
                clear k3
                go_wp2
                go_ret2
                exact ⟨rfl, rfl⟩
            · rcases zz with ⟨z4, p, r', k1, k2, k3, k4⟩ | ⟨z4, z5⟩
              · have k1 : IntKind.u64.wrap ((q : Int) - 1) = p := k1
                clear hinv
                rcases k4 with ⟨k5, k6⟩ | ⟨k5, k6⟩
                · have K6 := hid k6
                  clear k6
                  go_wp2
                  go_round
                  case rel => exact ⟨p, r', rfl, rfl, K6.out⟩
                  case measure => simp [intOf]; omega
                · have kk := k6.trans Q2.out.symm; clear k6; subst kk
                  clear k3
                  go_wp2
                  go_ret2
                  exact ⟨rfl, rfl⟩
              · clear hinv
                have kk := z5.trans Q2.out.symm; clear z5; subst kk
                go_wp2
                go_ret2
                exact ⟨rfl, rfl⟩
      · clear hinv
        have kk := z5.trans Q1.out.symm; clear z5; subst kk
        go_wp2_with fail
        go_loop [16, 18] (fun b a => ∃ q r : Nat, a = .int .u64 q ∧ b = .int .u64 r ∧ Inv u2 y1 y0 d0 q r) (fun _ a => (intOf a).toNat)
        case atStart => exact ⟨g2, r2, rfl, rfl, I2.out⟩
        case round =>
          obtain ⟨q, r, rfl, rfl, hinv⟩ := hrel
          rcases turn N2.out hinv with ⟨hq, p, r', k1, k2, k3, k4⟩ | ⟨hq, P, Z0, Z, z1, z2, z3, zz⟩
          · have k1 : IntKind.u64.wrap ((q : Int) - 1) = p := k1
            clear hinv
            rcases k4 with ⟨k5, k6⟩ | ⟨k5, k6⟩
            · have K6 := hid k6
              clear k6
              go_wp2
              go_round
              case rel => exact ⟨p, r', rfl, rfl, K6.out⟩
              case measure => simp [intOf]; omega
            · have kk := k6.trans Q2.out.symm; clear k6; subst kk
              clear k3
              go_wp2
              go_ret2
              exact ⟨rfl, rfl⟩
          · rcases zz with ⟨z4, p, r', k1, k2, k3, k4⟩ | ⟨z4, z5⟩
            · have k1 : IntKind.u64.wrap ((q : Int) - 1) = p := k1
              clear hinv
              rcases k4 with ⟨k5, k6⟩ | ⟨k5, k6⟩
              · have K6 := hid k6
                clear k6
                go_wp2
                go_round
                case rel => exact ⟨p, r', rfl, rfl, K6.out⟩
                case measure => simp [intOf]; omega
              · have kk := k6.trans Q2.out.symm; clear k6; subst kk
                clear k3
                go_wp2
                go_ret2
                exact ⟨rfl, rfl⟩
            · clear hinv
              have kk := z5.trans Q2.out.symm; clear z5; subst kk
              go_wp2
              go_ret2
              exact ⟨rfl, rfl⟩

end Go.Proofs.Ytoilakjlnflpbaa.DivA
