/- Contracts of the wide numbers: quotient, rounded; of Div, MulDiv, Share. -/
import Derived.Test.YtnloedhcginopaaNumD
namespace Go.Proofs.Ytnloedhcginopaa.NumE
open Go.ChangeShapes Go.WideShapes Go.ChangeAt Go.RowKit Base NumM NumA NumB NumC NumD DivM DivA DivB

theorem hi_nat (q : Nat) (h : q / 18446744073709551616 < 18446744073709551616) : hiN (q : Int) = q / 18446744073709551616 := by unfold hiN; omega
theorem lo_nat (q : Nat) : loN (q : Int) = q % 18446744073709551616 := by unfold loN; omega

theorem quot_words {m d : Nat} (hd : 0 < d) (_hd2 : d < 18446744073709551616) (hm : m < 340282366920938463463374607431768211456) :
    m / 18446744073709551616 / d = m / d / 18446744073709551616 ∧ ((m / 18446744073709551616 % d) * 18446744073709551616 + m % 18446744073709551616) / d = m / d % 18446744073709551616 ∧
    ((m / 18446744073709551616 % d) * 18446744073709551616 + m % 18446744073709551616) % d = m % d ∧ m / d / 18446744073709551616 < 18446744073709551616 := by
  have h1 : m / 18446744073709551616 / d = m / d / 18446744073709551616 := by rw [Nat.div_div_eq_div_mul, Nat.div_div_eq_div_mul, Nat.mul_comm]
  have e : m = d * (m / 18446744073709551616 / d * 18446744073709551616) + ((m / 18446744073709551616 % d) * 18446744073709551616 + m % 18446744073709551616) := by
    have a : m / 18446744073709551616 = d * (m / 18446744073709551616 / d) + m / 18446744073709551616 % d := (Nat.div_add_mod _ _).symm
    have b : m = m / 18446744073709551616 * 18446744073709551616 + m % 18446744073709551616 := (Nat.div_add_mod' _ _).symm
    generalize m / 18446744073709551616 = h at *
    generalize m % 18446744073709551616 = l at *
    rw [b, ← Nat.mul_assoc]
    generalize h / d = x at *
    generalize h % d = y at *
    rw [a, Nat.add_mul]
    omega
  have hr : m / 18446744073709551616 % d < d := Nat.mod_lt _ hd
  have hlt : ((m / 18446744073709551616 % d) * 18446744073709551616 + m % 18446744073709551616) / d < 18446744073709551616 := by
    rw [Nat.div_lt_iff_lt_mul hd]
    have hl : m % 18446744073709551616 < 18446744073709551616 := Nat.mod_lt _ (by decide)
    generalize m / 18446744073709551616 % d = y at *
    generalize m % 18446744073709551616 = l at *
    omega
  have hdiv : m / d = m / 18446744073709551616 / d * 18446744073709551616 + ((m / 18446744073709551616 % d) * 18446744073709551616 + m % 18446744073709551616) / d := by
    rw [← Nat.mul_add_div hd, ← e]
  have hmod : ((m / 18446744073709551616 % d) * 18446744073709551616 + m % 18446744073709551616) % d = m % d := by
    rw [← Nat.mul_add_mod d (m / 18446744073709551616 / d * 18446744073709551616), ← e]
  refine ⟨h1, ?_, hmod, ?_⟩
  · generalize ((m / 18446744073709551616 % d) * 18446744073709551616 + m % 18446744073709551616) / d = z at *
    rw [hdiv]
    omega
  · have : m / d ≤ m := Nat.div_le_self _ _
    omega

/-- .. of one block alone -/
theorem bat {B : Nat} {W w1 : World} (hb : Below B W w1) (n : Nat) (hn : n < B) : (∀ o, w1.cell? ⟨n, o, none⟩ = W.cell? ⟨n, o, none⟩) ∧ (∀ o, w1.frozen? ⟨n, o, none⟩ = W.frozen? ⟨n, o, none⟩) :=
  ⟨fun o => hb.cell (p := ⟨n, o, none⟩) hn, fun o => hb.frozen (p := ⟨n, o, none⟩) hn⟩

/-- the box of a fraction stays -/
structure Frac (w : World) (h l c : Int) (x : World) : Prop where
  k1 : x.cell? ⟨w.heap.size, 0, none⟩ = some (.int .u64 h)
  k2 : x.cell? ⟨w.heap.size, 1, none⟩ = some (.int .u64 l)
  k3 : x.cell? ⟨w.heap.size, 2, none⟩ = some (.int .i64 c)
  k0 : w.heap.size < x.heap.size
  k9 : Below w.heap.size w x

theorem Frac.step {w x y : World} {h l c : Int} (H : Frac w h l c x) (hb : Below x.heap.size x y) : Frac w h l c y where
  k1 := (hb.cell (p := ⟨w.heap.size, 0, none⟩) H.k0).trans H.k1
  k2 := (hb.cell (p := ⟨w.heap.size, 1, none⟩) H.k0).trans H.k2
  k3 := (hb.cell (p := ⟨w.heap.size, 2, none⟩) H.k0).trans H.k3
  k0 := Nat.lt_of_lt_of_le H.k0 hb.size
  k9 := H.k9.trans (hb.mono (by have := H.k0; omega))

theorem Frac.drew {w x : World} {h l c : Int} (H : Frac w h l c x) : Frac w h l c x.drew := ⟨H.k1, H.k2, H.k3, H.k0, H.k9.drew⟩

/-- what the code makes of a quotient without its sign -/
def mend (q : Int) (ex up b0 : Bool) : Int := if b0 then -(if !ex && (up != b0) then q + 1 else q) else (if !ex && (up != b0) then q + 1 else q)

/-- a number by another, rounded down or up -/
def rdiv (n c : Int) (up : Bool) : Int := mend ((n.natAbs / c.natAbs : Nat) : Int) (decide (n.natAbs % c.natAbs = 0)) up (neg n != neg c)

theorem bd_rdiv {n c : Int} (_hn : Bd n) (up : Bool) (h : n.natAbs < 170141183460469231731687303715884105728) : Bd (rdiv n c up) := by
  unfold rdiv mend
  have h1 : n.natAbs / c.natAbs ≤ n.natAbs := Nat.div_le_self _ _
  by_cases h2 : n.natAbs / c.natAbs = n.natAbs
  · by_cases h3 : c.natAbs = 1
    · have : n.natAbs % c.natAbs = 0 := by rw [h3]; omega
      rw [h2, this]
      unfold Bd
      simp <;> (try split) <;> omega
    · have h4 : n.natAbs = 0 := by
        rcases Nat.eq_zero_or_pos c.natAbs with hc | hc
        · rw [hc] at h2; simp at h2; omega
        · rcases Nat.eq_zero_or_pos n.natAbs with hp | hp
          · exact hp
          · have := Nat.div_lt_self hp (show 1 < c.natAbs by omega); omega
      rw [h2, h4]
      unfold Bd
      simp <;> (try split) <;> (try split) <;> omega
  · generalize n.natAbs / c.natAbs = q at *
    unfold Bd
    split <;> split <;> omega

/-- the answer of MulDiv and of Div -/
def divN (n c : Int) (up : Bool) : Int := if c = 0 then 0 else tellN (rdiv n c up)
def divE (n c : Int) (up : Bool) : Int := if c = 0 then 9 else tellE (rdiv n c up)

theorem abs_mul {a b : Int} (ha : Fits a) (hb : Fits b) : (a * b).natAbs < 170141183460469231731687303715884105728 := by
  rw [Int.natAbs_mul]
  have : a.natAbs * b.natAbs ≤ 9223372036854775808 * 9223372036854775808 := Nat.mul_le_mul (by unfold Fits at ha; omega) (by unfold Fits at hb; omega)
  omega


end Go.Proofs.Ytnloedhcginopaa.NumE
