/- Contract of math/bits.Div64: the quotient and the rest of 128 bits by 64, wherever the quotient fits. -/
import Derived.Test.YtoilakjlnflpbaaDivA
import Derived.Test.YtoilakjlnflpbaaShelf
import Derived.Lib.ItoaNum
import Derived.BigQuiet
import Derived.Deep.QuietTactic
namespace Go.Proofs.Ytoilakjlnflpbaa.DivB
open Go.ChangeShapes Go.WideShapes Go.ChangeAt Go.RowKit Base DivM DivA

theorem nlz (y : Nat) (h0 : 0 < y) (h1 : y < 18446744073709551616) :
    ∃ s : Nat, s ≤ 63 ∧ (64 - (Lib.bitLen y : Int)) = s ∧ 9223372036854775808 ≤ y * 2 ^ s ∧ y * 2 ^ s < 18446744073709551616 := by
  have hb := Lib.bitLenAux_bounds 64 y (by omega) (by omega)
  have hl : Lib.bitLen y = Lib.bitLenAux 64 y := rfl
  rw [hl]
  obtain ⟨b1, b2, b3⟩ := hb
  have hle : Lib.bitLenAux 64 y ≤ 64 := Lib.bitLenAux_le 64 y 64 (by omega)
  generalize Lib.bitLenAux 64 y = l at *
  refine ⟨64 - l, by omega, by omega, ?_, ?_⟩
  · have e : 2 ^ (l - 1) * 2 ^ (64 - l) = 9223372036854775808 := by
      rw [← Nat.pow_add, show l - 1 + (64 - l) = 63 from by omega]
    rw [← e]
    exact Nat.mul_le_mul_right _ b2
  · have e : 2 ^ l * 2 ^ (64 - l) = 18446744073709551616 := by
      rw [← Nat.pow_add, show l + (64 - l) = 64 from by omega]
    rw [← e]
    exact Nat.mul_lt_mul_of_pos_right b3 (Nat.two_pow_pos _)

theorem or_add (a b s : Nat) (hb : b < 2 ^ s) (hx : a * 2 ^ s + b < 18446744073709551616) : bits .or .u64 ((a * 2 ^ s : Nat) : Int) (b : Int) = ((a * 2 ^ s + b : Nat) : Int) := by
  rw [bits_or_u64_nat _ _ (by omega) (by omega)]
  have e := Nat.shiftLeft_add_eq_or_of_lt hb a
  rw [Nat.shiftLeft_eq] at e
  rw [e]

theorem and_low (a : Nat) (h : a < 18446744073709551616) : bits .and .u64 (a : Int) 4294967295 = ((a % 4294967296 : Nat) : Int) := by
  have e := bits_and_u64_nat a 4294967295 h (by omega)
  have e2 : a &&& 4294967295 = a % 4294967296 := Nat.and_two_pow_sub_one_eq_mod a 32
  rw [e2] at e
  exact e

theorem w_pow (a s : Nat) : IntKind.u64.wrap ((a : Int) * 2 ^ s) = ((a * 2 ^ s % 18446744073709551616 : Nat) : Int) := by
  rw [IntKind.wrap_u64]
  have : ((2 : Int) ^ s) = ((2 ^ s : Nat) : Int) := by simp
  rw [this, ← Int.natCast_mul]
  omega

theorem div_n (a b : Nat) : (a : Int) / b = ((a / b : Nat) : Int) := (Int.natCast_ediv a b).symm
theorem wsub (u g y1 : Nat) (hu : u < 18446744073709551616) (h : g * y1 ≤ u) : IntKind.u64.wrap ((u : Int) - IntKind.u64.wrap ((g : Int) * y1)) = ((u - g * y1 : Nat) : Int) := by
  rw [w_mul _ _ (by omega), IntKind.wrap_u64]
  generalize g * y1 = P at *
  omega

theorem guess_at {u y1 y0 d : Nat} (n : Nrm u y1 y0 d) : u < 18446744073709551616 ∧ u / y1 < 18446744073709551616 ∧ u / y1 * y1 ≤ u ∧ u - u / y1 * y1 = u % y1 := by
  have h1 := n.h1; have h2 := n.h2; have h3 := n.h3; have h5 := n.h5
  have hm : u / y1 * y1 ≤ u := Nat.div_mul_le_self u y1
  have hd : u / y1 ≤ u := Nat.div_le_self _ _
  have hu : u < 18446744073709551616 := by omega
  have e : u / y1 * y1 + u % y1 = u := Nat.div_add_mod' u y1
  exact ⟨hu, by omega, hm, by omega⟩

theorem word1 {u y1 y0 d : Nat} (n : Nrm u y1 y0 d) (Y : Nat) (hY : y1 * 4294967296 + y0 = Y) :
    IntKind.u64.wrap (IntKind.u64.wrap (IntKind.u64.wrap ((u : Int) * 4294967296) + d) - IntKind.u64.wrap ((dig u y1 y0 d : Int) * Y)) = (mo u y1 y0 d : Int) := by
  subst hY
  simp only [IntKind.wrap_u64]
  exact mo_word n

theorem div64_far (hi lo y s : Nat) (h : Mov hi lo y s) (h0 : 0 < hi) (w : World)
   (HL : Hid (∀ w, Calls Try.prog 93 #[.int .u64 y] w fun e w' => e = .returned (.int .i64 s) ∧ w' = w)) :
    Calls Try.prog 80 #[.int .u64 hi, .int .u64 lo, .int .u64 y] w fun e w' => e = .returned (.tuple #[.int .u64 ((hi * 18446744073709551616 + lo) / y : Nat), .int .u64 ((hi * 18446744073709551616 + lo) % y : Nat)]) ∧ w = w' := by
  have n1 := nrm1 h
  have n2 := nrm2 h
  have hm1 := h.m1; have hm2 := h.m2; have hm3 := h.m3; have hm5 := h.m5; have hm4 := h.m4
  have hul := mu_lt h
  have hl := long h
  have hA : hi * 2 ^ s < 18446744073709551616 := by
    have : hi * 2 ^ s ≤ y * 2 ^ s := Nat.mul_le_mul_right _ (by omega)
    omega
  have hB : lo / 2 ^ (64 - s) < 2 ^ s := by
    rw [Nat.div_lt_iff_lt_mul (Nat.two_pow_pos _), Nat.mul_comm, pow_split hm3]; exact hm2
  have hY : y * 2 ^ s / 4294967296 * 4294967296 + y * 2 ^ s % 4294967296 = y * 2 ^ s := Nat.div_add_mod' _ _
  have g1 := guess_at n1
  have g2 := guess_at n2
  have hd1 := dig_lt n1
  have hd2 := dig_lt n2
  refine div64_core hi lo y s (64 - s) (y * 2 ^ s) (y * 2 ^ s / 4294967296) (y * 2 ^ s % 4294967296) (hi * 2 ^ s) (lo / 2 ^ (64 - s)) (mu hi lo s) (ml lo s) (ml lo s / 4294967296) (ml lo s % 4294967296)
    (dig (mu hi lo s) (y * 2 ^ s / 4294967296) (y * 2 ^ s % 4294967296) (ml lo s / 4294967296)) (mo (mu hi lo s) (y * 2 ^ s / 4294967296) (y * 2 ^ s % 4294967296) (ml lo s / 4294967296))
    (dig (mo (mu hi lo s) (y * 2 ^ s / 4294967296) (y * 2 ^ s % 4294967296) (ml lo s / 4294967296)) (y * 2 ^ s / 4294967296) (y * 2 ^ s % 4294967296) (ml lo s % 4294967296))
    ((hi * 18446744073709551616 + lo) % y) ((hi * 18446744073709551616 + lo) / y) (mu hi lo s / (y * 2 ^ s / 4294967296)) (mu hi lo s % (y * 2 ^ s / 4294967296))
    (mo (mu hi lo s) (y * 2 ^ s / 4294967296) (y * 2 ^ s % 4294967296) (ml lo s / 4294967296) / (y * 2 ^ s / 4294967296)) (mo (mu hi lo s) (y * 2 ^ s / 4294967296) (y * 2 ^ s % 4294967296) (ml lo s / 4294967296) % (y * 2 ^ s / 4294967296)) w
    ?_ ?_ ?_ HL (w_nat _ (by omega)) (by omega) ?_ ?_ (and_low _ hm5) (by omega) ?_ ?_ (by omega) ?_ (or_add _ _ _ hB ?_) (w_pow _ _) ?_ (and_low _ (ml_lt _ _)) ?_ ?_ ?_ ?_ (hid n1) (hid n2) (hid (Inv.start n1)) (hid (Inv.start n2)) (hid rfl) (hid rfl) (word1 n1 _ hY) ?_ ?_
  · rw [beq_eq_false_iff_ne]; omega
  · rw [decide_eq_false_iff_not]; omega
  · rw [beq_eq_false_iff_ne]; omega
  · rw [w_pow, Nat.mod_eq_of_lt hm5]
  · exact div_n _ 4294967296
  · rw [w_pow, Nat.mod_eq_of_lt hA]
  · rw [IntKind.wrap_u64]; omega
  · have e : ((2 : Int) ^ (64 - s)) = ((2 ^ (64 - s) : Nat) : Int) := by simp
    rw [e]; exact div_n _ _
  · have := g1.1; unfold mu at this; exact this
  · exact div_n _ 4294967296
  · rw [div_n]; exact w_nat _ g1.2.1
  · rw [wsub _ _ _ g1.1 g1.2.2.1, g1.2.2.2]
  · rw [div_n]; exact w_nat _ g2.2.1
  · rw [wsub _ _ _ g2.1 g2.2.2.1, g2.2.2.2]
  · rw [← hl.1]
    generalize dig (mu hi lo s) _ _ _ = a at *
    generalize dig (mo (mu hi lo s) _ _ _) _ _ _ = b at *
    simp only [IntKind.wrap_u64]; omega
  · rw [word1 n2 _ hY, ← hl.2]
    have e : ((2 : Int) ^ s) = ((2 ^ s : Nat) : Int) := by simp
    rw [e]; exact div_n _ _

set_option maxRecDepth 100000 in
set_option maxHeartbeats 1000000 in
theorem div64_near (lo y q : Nat) (h0 : ((y : Int) == 0) = false) (_h1 : decide (y ≤ 0) = false) (_hy : 0 < y) (e1 : IntKind.u64.wrap ((lo : Int) / y) = q) (w : World) :
    Calls Try.prog 80 #[.int .u64 0, .int .u64 lo, .int .u64 y] w fun e w' => e = .returned (.tuple #[.int .u64 q, .int .u64 ((lo : Int) % y)]) ∧ ∃ n, w' = w.drewN n := by
  go_enter Try.func80, Try.ntmps80
  go_wp2_with fail
  go_quiet (fail)
  go_wp2
  go_ret2
  exact ⟨rfl, _, rfl⟩

theorem lz_any (y s : Nat) (h1 : y < 18446744073709551616) (hs : (64 - (Lib.bitLen y : Int)) = s) (w : World) :
    Calls Try.prog 93 #[.int .u64 y] w fun e w' => e = .returned (.int .i64 s) ∧ w' = w := by
  have h := Try.bits_LeadingZeros64 (y : Int) w (by omega) (by omega)
  rw [Int.toNat_natCast, hs] at h
  exact h

/-- the quotient and the rest of 128 bits by 64 -/
theorem div64_any (hi lo y : Nat) (h1 : hi < y) (h2 : lo < 18446744073709551616) (h3 : y < 18446744073709551616) (w : World) :
    Calls Try.prog 80 #[.int .u64 hi, .int .u64 lo, .int .u64 y] w fun e w' => e = .returned (.tuple #[.int .u64 ((hi * 18446744073709551616 + lo) / y : Nat), .int .u64 ((hi * 18446744073709551616 + lo) % y : Nat)]) ∧ ∃ n, w' = w.drewN n := by
  by_cases h0 : hi = 0
  · subst h0
    have hd : lo / y ≤ lo := Nat.div_le_self _ _
    have := div64_near lo y (lo / y) (by rw [beq_eq_false_iff_ne]; omega) (by rw [decide_eq_false_iff_not]; omega) h1 (by rw [div_n]; exact w_nat _ (by omega)) w
    rw [← Int.natCast_emod] at this
    rw [Nat.zero_mul, Nat.zero_add]
    exact this
  · obtain ⟨s, s1, s2, s3, s4⟩ := nlz y (by omega) h3
    refine (div64_far hi lo y s ⟨h1, h2, s1, s3, s4⟩ (by omega) w (hid fun w => lz_any y s h3 s2 w)).mono ?_
    rintro e w' ⟨he, rfl⟩
    exact ⟨he, 0, rfl⟩

end Go.Proofs.Ytoilakjlnflpbaa.DivB
