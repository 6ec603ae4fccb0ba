/- Plain mathematics of the long division of 128 bits by 64 (two digits of 32 bits): no Go in sight. -/
namespace Go.Proofs.Ytnloedhcginopaa.DivM

theorem key (u y1 y0 d q r : Nat) (e : q * y1 + r = u) : q * (y1 * 4294967296 + y0) ≤ u * 4294967296 + d ↔ q * y0 ≤ 4294967296 * r + d := by
  have h : q * (y1 * 4294967296 + y0) = (q * y1) * 4294967296 + q * y0 := by rw [Nat.mul_add, Nat.mul_assoc]
  rw [h, ← e]
  generalize q * y1 = A
  generalize q * y0 = B
  omega

/-- a digit of the quotient -/
def dig (u y1 y0 d : Nat) : Nat := (u * 4294967296 + d) / (y1 * 4294967296 + y0)
def mo (u y1 y0 d : Nat) : Nat := (u * 4294967296 + d) % (y1 * 4294967296 + y0)

structure Nrm (u y1 y0 d : Nat) : Prop where
  h1 : 2147483648 ≤ y1
  h2 : y1 < 4294967296
  h3 : y0 < 4294967296
  h4 : d < 4294967296
  h5 : u < y1 * 4294967296 + y0

structure Inv (u y1 y0 d q r : Nat) : Prop where
  i1 : q * y1 + r = u
  i2 : r < 4294967296
  i3 : q ≤ 4294967297
  i4 : dig u y1 y0 d ≤ q

theorem le_dig {u y1 y0 d : Nat} (h : Nrm u y1 y0 d) (q : Nat) : q ≤ dig u y1 y0 d ↔ q * (y1 * 4294967296 + y0) ≤ u * 4294967296 + d := by
  unfold dig
  have := h.h1
  exact Nat.le_div_iff_mul_le (by omega)

theorem dig_lt {u y1 y0 d : Nat} (h : Nrm u y1 y0 d) : dig u y1 y0 d < 4294967296 := by
  have h1 := h.h1; have h4 := h.h4; have h5 := h.h5
  unfold dig
  rw [Nat.div_lt_iff_lt_mul (by omega)]
  omega

theorem Inv.start {u y1 y0 d : Nat} (h : Nrm u y1 y0 d) : Inv u y1 y0 d (u / y1) (u % y1) := by
  have h1 := h.h1; have h2 := h.h2; have h3 := h.h3; have h4 := h.h4; have h5 := h.h5
  refine ⟨by rw [Nat.mul_comm]; exact Nat.div_add_mod u y1, ?_, ?_, ?_⟩
  · exact Nat.lt_of_lt_of_le (Nat.mod_lt _ (by omega)) (by omega)
  · rw [Nat.div_le_iff_le_mul_add_pred (by omega)]
    omega
  · have hq := (le_dig h (dig u y1 y0 d)).1 (Nat.le_refl _)
    rw [Nat.le_div_iff_mul_le (by omega)]
    generalize dig u y1 y0 d = q at *
    have e : q * (y1 * 4294967296 + y0) = (q * y1) * 4294967296 + q * y0 := by rw [Nat.mul_add, Nat.mul_assoc]
    rw [e] at hq
    generalize q * y1 = A at *
    generalize q * y0 = B at *
    omega

/-- the guess is too great: it may go down by 1 -/
theorem Inv.down {u y1 y0 d q r : Nat} (h : Nrm u y1 y0 d) (i : Inv u y1 y0 d q r) (ht : 4294967296 ≤ q ∨ 4294967296 * r + d < q * y0) (hr : r + y1 < 4294967296) : Inv u y1 y0 d (q - 1) (r + y1) := by
  have hd := dig_lt h
  have hq : dig u y1 y0 d < q := by
    rcases ht with ht | ht
    · omega
    · rw [← Nat.not_le, le_dig h, key u y1 y0 d q r i.i1]; omega
  have e := i.i1
  have iq := i.i3
  refine ⟨?_, hr, by omega, by omega⟩
  obtain ⟨p, rfl⟩ : ∃ p, q = p + 1 := ⟨q - 1, by omega⟩
  rw [Nat.add_mul] at e
  simp only [Nat.add_sub_cancel]
  omega

theorem Inv.pos {y0 d q r : Nat} (ht : 4294967296 ≤ q ∨ 4294967296 * r + d < q * y0) : 1 ≤ q := by
  rcases ht with ht | ht
  · omega
  · by_cases h : q = 0
    · subst h; simp at ht
    · omega

/-- .. and is right then, where the rest would pass a digit -/
theorem Inv.stop {u y1 y0 d q r : Nat} (h : Nrm u y1 y0 d) (i : Inv u y1 y0 d q r) (ht : 4294967296 ≤ q ∨ 4294967296 * r + d < q * y0) (hr : 4294967296 ≤ r + y1) : q - 1 = dig u y1 y0 d := by
  have hd := dig_lt h
  have hq : dig u y1 y0 d < q := by
    rcases ht with ht | ht
    · omega
    · rw [← Nat.not_le, le_dig h, key u y1 y0 d q r i.i1]; omega
  have e := i.i1
  have iq := i.i3
  have h3 := h.h3
  obtain ⟨p, rfl⟩ : ∃ p, q = p + 1 := ⟨q - 1, by omega⟩
  rw [Nat.add_mul] at e
  simp only [Nat.add_sub_cancel]
  have : p ≤ dig u y1 y0 d := by
    rw [le_dig h, key u y1 y0 d p (r + y1) (by omega)]
    have : p * y0 ≤ 4294967296 * 4294967295 := Nat.mul_le_mul (by omega) (by omega)
    omega
  omega

theorem Inv.right {u y1 y0 d q r : Nat} (h : Nrm u y1 y0 d) (i : Inv u y1 y0 d q r) (h2 : ¬ 4294967296 * r + d < q * y0) : q = dig u y1 y0 d := by
  have : q ≤ dig u y1 y0 d := by
    rw [le_dig h, key u y1 y0 d q r i.i1]; omega
  have := i.i4
  omega

theorem mul_small {q y0 : Nat} (h1 : q < 4294967296) (h2 : y0 < 4294967296) : q * y0 < 18446744073709551616 := by
  have : q * y0 ≤ 4294967295 * 4294967295 := Nat.mul_le_mul (by omega) (by omega)
  omega

theorem mo_lt {u y1 y0 d : Nat} (h : Nrm u y1 y0 d) : mo u y1 y0 d < y1 * 4294967296 + y0 := by
  have := h.h1
  exact Nat.mod_lt _ (by omega)

/-- what is left behind a digit, as the words have it -/
theorem mo_word {u y1 y0 d : Nat} (h : Nrm u y1 y0 d) :
    (((((u : Int) * 4294967296) % 18446744073709551616 + d) % 18446744073709551616 - ((dig u y1 y0 d : Int) * ((y1 * 4294967296 + y0 : Nat) : Int)) % 18446744073709551616) % 18446744073709551616) = (mo u y1 y0 d : Int) := by
  have e : (y1 * 4294967296 + y0) * dig u y1 y0 d + mo u y1 y0 d = u * 4294967296 + d := Nat.div_add_mod _ _
  have hm := mo_lt h
  have h1 := h.h1; have h2 := h.h2; have h3 := h.h3; have h4 := h.h4; have h5 := h.h5
  have e2 : (dig u y1 y0 d : Int) * ((y1 * 4294967296 + y0 : Nat) : Int) = ((dig u y1 y0 d * (y1 * 4294967296 + y0) : Nat) : Int) := (Int.natCast_mul _ _).symm
  rw [e2, Nat.mul_comm (dig u y1 y0 d)]
  generalize (y1 * 4294967296 + y0) * dig u y1 y0 d = P at *
  generalize mo u y1 y0 d = m at *
  omega

/-- the numbers of a division, moved left till the divisor's highest bit is set -/
structure Mov (hi lo y s : Nat) : Prop where
  m1 : hi < y
  m2 : lo < 18446744073709551616
  m3 : s ≤ 63
  m4 : 9223372036854775808 ≤ y * 2 ^ s
  m5 : y * 2 ^ s < 18446744073709551616

def mu (hi lo s : Nat) : Nat := hi * 2 ^ s + lo / 2 ^ (64 - s)
def ml (lo s : Nat) : Nat := lo * 2 ^ s % 18446744073709551616

theorem pow_split {s : Nat} (h : s ≤ 63) : 2 ^ (64 - s) * 2 ^ s = 18446744073709551616 := by
  rw [← Nat.pow_add, show 64 - s + s = 64 from by omega]

theorem mov_eq {hi lo y s : Nat} (h : Mov hi lo y s) : mu hi lo s * 18446744073709551616 + ml lo s = (hi * 18446744073709551616 + lo) * 2 ^ s := by
  unfold mu ml
  have e := pow_split h.m3
  have e1 : lo / 2 ^ (64 - s) = lo * 2 ^ s / 18446744073709551616 := by
    rw [← e, Nat.mul_div_mul_right _ _ (Nat.two_pow_pos s)]
  have e2 : hi * 18446744073709551616 * 2 ^ s = hi * 2 ^ s * 18446744073709551616 := Nat.mul_right_comm hi _ _
  rw [e1, Nat.add_mul, Nat.add_mul, e2, Nat.add_assoc, Nat.div_add_mod']

theorem ml_lt (lo s : Nat) : ml lo s < 18446744073709551616 := Nat.mod_lt _ (by decide)

theorem mu_lt {hi lo y s : Nat} (h : Mov hi lo y s) : mu hi lo s < y * 2 ^ s := by
  have e := mov_eq h
  have hh := h.m1; have hl := h.m2
  have h1 : (hi * 18446744073709551616 + lo) * 2 ^ s < y * 18446744073709551616 * 2 ^ s := Nat.mul_lt_mul_of_pos_right (by omega) (Nat.two_pow_pos s)
  have e2 : y * 18446744073709551616 * 2 ^ s = y * 2 ^ s * 18446744073709551616 := Nat.mul_right_comm y _ _
  rw [e2, ← e] at h1
  exact Nat.lt_of_mul_lt_mul_right (Nat.lt_of_le_of_lt (Nat.le_add_right _ _) h1)

theorem nrm1 {hi lo y s : Nat} (h : Mov hi lo y s) : Nrm (mu hi lo s) (y * 2 ^ s / 4294967296) (y * 2 ^ s % 4294967296) (ml lo s / 4294967296) := by
  have h1 := h.m4; have h2 := h.m5; have h3 := mu_lt h; have h4 := ml_lt lo s
  generalize y * 2 ^ s = Y at *
  generalize mu hi lo s = u at *
  generalize ml lo s = l at *
  exact ⟨by omega, by omega, by omega, by omega, by omega⟩

theorem nrm2 {hi lo y s : Nat} (h : Mov hi lo y s) : Nrm (mo (mu hi lo s) (y * 2 ^ s / 4294967296) (y * 2 ^ s % 4294967296) (ml lo s / 4294967296)) (y * 2 ^ s / 4294967296) (y * 2 ^ s % 4294967296) (ml lo s % 4294967296) := by
  have h1 := nrm1 h
  exact ⟨h1.h1, h1.h2, h1.h3, by omega, mo_lt h1⟩

theorem long_aux {Y u l q1 R N : Nat} (d1 : u * N + l / N = Y * q1 + R) : u * (N * N) + l = Y * (q1 * N) + (R * N + l % N) := by
  have e : (u * N + l / N) * N = (Y * q1 + R) * N := by rw [d1]
  rw [Nat.add_mul, Nat.add_mul, Nat.mul_assoc, Nat.mul_assoc] at e
  have e2 : l / N * N + l % N = l := Nat.div_add_mod' l N
  omega

theorem long_div {Y u l N : Nat} (hY : 0 < Y) :
    (u * N + l / N) / Y * N + ((u * N + l / N) % Y * N + l % N) / Y = (u * (N * N) + l) / Y ∧ ((u * N + l / N) % Y * N + l % N) % Y = (u * (N * N) + l) % Y := by
  have d1 : (u * N + l / N) = Y * ((u * N + l / N) / Y) + (u * N + l / N) % Y := (Nat.div_add_mod _ _).symm
  have ex := long_aux d1
  rw [ex, Nat.mul_add_div hY, Nat.mul_add_mod]
  exact ⟨rfl, rfl⟩

theorem back {X y p : Nat} (hp : 0 < p) : X / y = X * p / (y * p) ∧ X % y = X * p % (y * p) / p :=
  ⟨(Nat.mul_div_mul_right _ _ hp).symm, by rw [Nat.mul_mod_mul_right, Nat.mul_div_cancel _ hp]⟩

/-- both digits are the quotient, and what is left, moved back, is the rest -/
theorem long {hi lo y s : Nat} (h : Mov hi lo y s) :
    dig (mu hi lo s) (y * 2 ^ s / 4294967296) (y * 2 ^ s % 4294967296) (ml lo s / 4294967296) * 4294967296 + dig (mo (mu hi lo s) (y * 2 ^ s / 4294967296) (y * 2 ^ s % 4294967296) (ml lo s / 4294967296)) (y * 2 ^ s / 4294967296) (y * 2 ^ s % 4294967296) (ml lo s % 4294967296) = (hi * 18446744073709551616 + lo) / y ∧
    mo (mo (mu hi lo s) (y * 2 ^ s / 4294967296) (y * 2 ^ s % 4294967296) (ml lo s / 4294967296)) (y * 2 ^ s / 4294967296) (y * 2 ^ s % 4294967296) (ml lo s % 4294967296) / 2 ^ s = (hi * 18446744073709551616 + lo) % y := by
  have e := mov_eq h
  have hb := @back (hi * 18446744073709551616 + lo) y (2 ^ s) (Nat.two_pow_pos s)
  have hY : 0 < y * 2 ^ s := by have := h.m4; omega
  have hl := @long_div (y * 2 ^ s) (mu hi lo s) (ml lo s) 4294967296 hY
  have eY : y * 2 ^ s / 4294967296 * 4294967296 + y * 2 ^ s % 4294967296 = y * 2 ^ s := Nat.div_add_mod' _ _
  have eT : (4294967296 : Nat) * 4294967296 = 18446744073709551616 := by decide
  unfold dig mo
  rw [eT, e] at hl
  rw [eY, hb.1, hb.2, ← hl.1, ← hl.2]
  exact ⟨rfl, rfl⟩

end Go.Proofs.Ytnloedhcginopaa.DivM
