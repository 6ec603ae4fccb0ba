/- Pacing: what a pace tells and how it goes on (pure). -/
import Derived.Test.YtcmklahbophclaaNumE
import Derived.Test.YtcmklahbophclaaWrmA
namespace Go.Proofs.Ytcmklahbophclaa.PacP
set_option linter.unusedVariables false
open NumM NumA NumE WrmA

theorem inW_iff {n a b : Int} : inW n a b = true ↔ a ≤ n ∧ n ≤ b := by unfold inW; simp

structure Pc where
  count : Nat
  queue : Nat
  noted : Nat
  next : Nat
  some : Bool

structure Pc.Ok (m : Pc) : Prop where
  c1 : 1 ≤ m.count
  c2 : m.count ≤ 1099511627776
  q : m.queue ≤ 3600000000
  noted : m.noted ≤ 1152921504606846976
  next : m.next ≤ 1152921508206846976
  none : m.some = false → m.next = 0

/-- n tokens at a rate r: how far apart -/
def costN (n r : Nat) : Nat := n * 1000000 / r + (if n * 1000000 % r = 0 then 0 else 1)
theorem costN_le (n r : Nat) (hn : n ≤ 1099511627776) (hr : 1 ≤ r) : costN n r ≤ 1099511627776000001 := by
  have h : n * 1000000 / r ≤ n * 1000000 := Nat.div_le_self _ _
  unfold costN
  split <;> omega

def tokB (n : Int) : Bool := inW n 1 1099511627776
def refC (n r : Int) : Int := if tokB n && tokB r then 0 else 2
def costA (n r : Int) : Int := if tokB n && tokB r then (costN n.toNat r.toNat : Nat) else 0

def refW (m : Pc) (t n r : Int) : Int := if inW t 0 1152921504606846976 && tokB n && tokB r then (if t < m.noted then 7 else 0) else 2
def goesB (m : Pc) (t n r : Nat) : Bool := !m.some || decide (m.next + costN n r ≤ t + m.queue)
def waitN (m : Pc) (t n r : Nat) : Nat := if goesB m t n r = true ∧ m.some = true then m.next + costN n r - t else 0
def wA (m : Pc) (t n r : Int) : Int := if refW m t n r = 0 then (waitN m t.toNat n.toNat r.toNat : Nat) else 0
def gA (m : Pc) (t n r : Int) : Bool := decide (refW m t n r = 0) && goesB m t.toNat n.toNat r.toNat
def stepA (m : Pc) (t n r : Int) : Pc :=
  if refW m t n r = 0 then { m with noted := t.toNat, next := if goesB m t.toNat n.toNat r.toNat then t.toNat + waitN m t.toNat n.toNat r.toNat else m.next, some := m.some || goesB m t.toNat n.toNat r.toNat } else m

theorem tokB_iff {n : Int} : tokB n = true ↔ 1 ≤ n ∧ n ≤ 1099511627776 := by unfold tokB; exact inW_iff
theorem refW_zero {m : Pc} {t n r : Int} (h : refW m t n r = 0) : ∃ tn nn rn : Nat, t = tn ∧ n = nn ∧ r = rn ∧ tn ≤ 1152921504606846976 ∧ m.noted ≤ tn ∧ 1 ≤ nn ∧ nn ≤ 1099511627776 ∧ 1 ≤ rn ∧ rn ≤ 1099511627776 := by
  unfold refW at h
  cases h1 : inW t 0 1152921504606846976 <;> cases h2 : tokB n <;> cases h3 : tokB r <;> simp [h1, h2, h3] at h
  have a := inW_iff.1 h1
  have b := tokB_iff.1 h2
  have c := tokB_iff.1 h3
  exact ⟨t.toNat, n.toNat, r.toNat, by omega, by omega, by omega, by omega, by omega, by omega, by omega, by omega, by omega⟩

theorem waitN_le (m : Pc) (t n r : Nat) : waitN m t n r ≤ m.queue := by
  unfold waitN
  split
  · rename_i h
    have h1 := h.1
    unfold goesB at h1
    rw [h.2] at h1
    simp at h1
    omega
  · omega

theorem stepA_ok {m : Pc} (h : m.Ok) (t n r : Int) : (stepA m t n r).Ok := by
  unfold stepA
  split
  · rename_i hz
    obtain ⟨tn, nn, rn, rfl, rfl, rfl, h1, h2, h3, h4, h5, h6⟩ := refW_zero hz
    have hw := waitN_le m tn nn rn
    have hq := h.q
    refine ⟨h.c1, h.c2, h.q, by simpa using h1, ?_, ?_⟩
    · show (if goesB m _ _ _ then _ else _) ≤ _
      simp only [Int.toNat_natCast]
      split
      · omega
      · exact h.next
    · intro hs
      simp only [Int.toNat_natCast, Bool.or_eq_false_iff] at hs ⊢
      rw [hs.2]
      simpa using h.none hs.1
  · exact h

def fresh (c q : Nat) : Pc := ⟨c, q, 0, 0, false⟩
theorem fresh_ok (c q : Nat) (c1 : 1 ≤ c) (c2 : c ≤ 1099511627776) (hq : q ≤ 3600000000) : (fresh c q).Ok := ⟨c1, c2, hq, Nat.zero_le _, Nat.zero_le _, fun _ => rfl⟩

theorem divN_up (n D : Nat) (hD : 0 < D) (h : n / D + 1 ≤ 9223372036854775807) : divN (n : Int) (D : Int) true = ((n / D + (if n % D = 0 then 0 else 1) : Nat) : Int) ∧ divE (n : Int) (D : Int) true = 0 := by
  have h0 : ¬ (D : Int) = 0 := by omega
  have hm : rdiv (n : Int) (D : Int) true = ((n / D + (if n % D = 0 then 0 else 1) : Nat) : Int) := by
    unfold rdiv mend neg
    have a1 : ¬ (n : Int) < 0 := by omega
    have a2 : ¬ (D : Int) < 0 := by omega
    by_cases h3 : n % D = 0 <;> simp [a1, a2, h3]
  have hf : Fits ((n / D + (if n % D = 0 then 0 else 1) : Nat) : Int) := by
    clear hm
    split <;> (generalize n / D = q at *; unfold Fits; omega)
  unfold divN divE tellN tellE
  rw [if_neg h0, if_neg h0, hm, if_pos hf, if_pos hf]
  exact ⟨rfl, rfl⟩

end Go.Proofs.Ytcmklahbophclaa.PacP
