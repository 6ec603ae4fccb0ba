/- Plain mathematics of 128 bit numbers as two words: no Go in sight. -/
namespace Go.Proofs.Ytnloedhcginopaa.NumM

def hiN (n : Int) : Nat := ((n / 18446744073709551616) % 18446744073709551616).toNat
def loN (n : Int) : Nat := (n % 18446744073709551616).toNat

theorem hi_lt (n : Int) : hiN n < 18446744073709551616 := by unfold hiN; omega
theorem lo_lt (n : Int) : loN n < 18446744073709551616 := by unfold loN; omega

def cs (x y c : Int) : Int := (x + y + c) % 18446744073709551616
def cc (x y c : Int) : Int := (x + y + c) / 18446744073709551616

theorem cc_bd (x y c : Int) (hx : 0 ≤ x) (hy : 0 ≤ y) (h0 : 0 ≤ c) (hc : c ≤ 1) (hx2 : x < 18446744073709551616) (hy2 : y < 18446744073709551616) : 0 ≤ cc x y c ∧ cc x y c ≤ 1 := by unfold cc; omega

theorem lo_add (a b : Int) : (loN (a + b) : Int) = cs (loN a) (loN b) 0 := by
  unfold loN cs; omega
theorem hi_add (a b : Int) : (hiN (a + b) : Int) = cs (hiN a) (hiN b) (cc (loN a) (loN b) 0) := by
  unfold hiN loN cs cc; omega
theorem lo_not (a : Int) : (loN (-a - 1) : Int) = 18446744073709551615 - loN a := by unfold loN; omega
theorem hi_not (a : Int) : (hiN (-a - 1) : Int) = 18446744073709551615 - hiN a := by unfold hiN; omega

def neg (n : Int) : Bool := decide (n < 0)
/-- a number that 128 bits hold -/
def Bd (n : Int) : Prop := -170141183460469231731687303715884105728 ≤ n ∧ n < 170141183460469231731687303715884105728
def Fits (n : Int) : Prop := -9223372036854775808 ≤ n ∧ n ≤ 9223372036854775807
instance (n : Int) : Decidable (Fits n) := by unfold Fits; exact inferInstance
def fitsB (n : Int) : Bool := decide (Fits n)

theorem W_inj {a b : Int} (ha : Bd a) (hb : Bd b) (h1 : hiN a = hiN b) (h2 : loN a = loN b) : a = b := by
  unfold Bd at *; unfold hiN loN at *; omega

theorem bd_add {a b : Int} (ha : Fits a) (hb : Fits b) : Bd (a + b) := by unfold Fits at *; unfold Bd; omega
theorem bd_sub {a b : Int} (ha : Fits a) (hb : Fits b) : Bd (a + -b) := by unfold Fits at *; unfold Bd; omega
theorem bd_mul {a b : Int} (ha : Fits a) (hb : Fits b) : Bd (a * b) := by
  unfold Fits at *; unfold Bd
  have h1 : (a * b).natAbs = a.natAbs * b.natAbs := Int.natAbs_mul a b
  have h2 : a.natAbs * b.natAbs ≤ 9223372036854775808 * 9223372036854775808 := Nat.mul_le_mul (by omega) (by omega)
  omega
theorem not_W (n : Int) : -n = (-n - 1) + 1 := by omega
theorem hi_neg {n : Int} (h : Bd n) : decide (((hiN n : Int) + 9223372036854775808) % 18446744073709551616 - 9223372036854775808 < 0) = neg n := by
  unfold neg hiN; unfold Bd at h
  rw [decide_eq_decide]
  omega
/-- the low word as an int64 -/
def low (n : Int) : Int := ((loN n : Int) + 9223372036854775808) % 18446744073709551616 - 9223372036854775808
theorem low_eq (n : Int) : ((loN n : Int) + 9223372036854775808) % 18446744073709551616 - 9223372036854775808 = low n := rfl
theorem low_fits (n : Int) : Fits (low n) := by unfold Fits low; omega
theorem low_of {n : Int} (h : Fits n) : low n = n := by unfold Fits at h; unfold low loN; omega
theorem narrow_yes {n : Int} (h : Fits n) : hiN (low n) = hiN n ∧ loN (low n) = loN n := by rw [low_of h]; exact ⟨rfl, rfl⟩
theorem narrow_no {n : Int} (hb : Bd n) (h : ¬ Fits n) : hiN (low n) ≠ hiN n := by
  intro e
  apply h
  unfold Bd at hb; unfold Fits; unfold hiN low loN at e; omega
theorem lo_low (n : Int) : loN (low n) = loN n := by unfold low loN; omega

end Go.Proofs.Ytnloedhcginopaa.NumM
