/- Bytes in memory; the calls of a frame's head. -/
import Derived.Test.YtgkfiolgipgbkaaFrmP
import Derived.Test.YtgkfiolgipgbkaaWri
import Derived.OwnWalk
import Derived.BigQuiet
import Derived.Laws.BitsLemmas
import Derived.Deep.RegionHeld3
namespace Go.Proofs.Ytgkfiolgipgbkaa.FrmA
open Go.ChangeShapes Go.WideShapes Go.ChangeAt Go.RowKit Base Wri FrmP
set_option linter.unusedVariables false
set_option linter.unusedSimpArgs false

/-- a byte as it lies in memory -/
def bv (x : UInt8) : Value := .int .u8 (x.toNat : Int)
/-- bytes that lie in a row, below a block -/
def BAt (w : World) (n0 : Nat) (a : Option Addr) (ss : Bs) : Prop :=
  0 < ss.length → ∃ g o, a = some ⟨g, o, none⟩ ∧ g < n0 ∧ ∀ i x, ss[i]? = some x → w.cell? ⟨g, o + i, none⟩ = some (bv x)

theorem BAt.below {w w' : World} {n0 : Nat} {a : Option Addr} {ss : Bs} (h : BAt w n0 a ss) (hb : Below n0 w w') : BAt w' n0 a ss := fun h0 => by
  obtain ⟨g, o, ha, hg, hc⟩ := h h0
  exact ⟨g, o, ha, hg, fun i x hx => (hb.cell (p := ⟨g, o + i, none⟩) hg).trans (hc i x hx)⟩
theorem BAt.mono {w : World} {n0 n1 : Nat} {a : Option Addr} {ss : Bs} (h : BAt w n0 a ss) (hb : n0 ≤ n1) : BAt w n1 a ss := fun h0 => by
  obtain ⟨g, o, ha, hg, hc⟩ := h h0
  exact ⟨g, o, ha, Nat.lt_of_lt_of_le hg hb, hc⟩
theorem BAt.drewN {w : World} {n0 : Nat} {a : Option Addr} {ss : Bs} (h : BAt w n0 a ss) (m : Nat) : BAt (w.drewN m) n0 a ss := h

/-- the number that the first k bytes say, with z for each that is not there -/
def sofar (z : UInt8) (b : Bs) : Nat → Nat
  | 0 => 0
  | k + 1 => sofar z b k * 256 + (b.getD k z).toNat
theorem sofar_num4 (b : Bs) : sofar 0 b 4 = num4 b := by simp [sofar, num4, hd]

theorem sofar_lt (z : UInt8) (b : Bs) (k : Nat) : sofar z b k < 256 ^ k := by
  induction k with
  | zero => simp [sofar]
  | succ k ih =>
    have := UInt8.toNat_lt (b.getD k z)
    simp only [sofar, Nat.pow_succ] at *
    omega
theorem sofar_small (z : UInt8) (b : Bs) {k : Nat} (h : k < 4) : sofar z b k < 16777216 := Nat.lt_of_lt_of_le (sofar_lt z b k) (by
  have := Nat.pow_le_pow_right (n := 256) (by decide) (show k ≤ 3 by omega)
  simpa using this)
theorem join8 (u x : Nat) (hu : u < 16777216) (hx : x < 256) : bits BinOp.or IntKind.i64 (wrap64 ((u : Int) * 256)) (wrap64 (x : Int)) = ((u * 256 + x : Nat) : Int) := by
  rw [show wrap64 ((u : Int) * 256) = (u : Int) * 256 by unfold wrap64; omega, show wrap64 (x : Int) = (x : Int) by unfold wrap64; omega]
  rw [bits_join .i64 40 (by decide) (fun n h0 h1 => by rw [IntKind.wrap_i64]; omega) 8 ((u : Int) * 256) (x : Int) (by omega) (by omega) (by omega) (by omega) (by omega) (by omega)]
  omega

theorem join8' (u x : Nat) (hu : u < 16777216) (hx : x < 256) : bits BinOp.or IntKind.i64 (wrap64 ((u : Int) * 256)) (x : Int) = ((u * 256 + x : Nat) : Int) := by
  have := join8 u x hu hx
  rwa [show wrap64 (x : Int) = (x : Int) by unfold wrap64; omega] at this

theorem most_may (b : Bs) : (decide (num4 b ≤ 4096) && decide (1 ≤ sofar 255 b 4)) = may b := by
  by_cases h : b.length < 4
  · rw [may_short h]
    have h3 : b[3]? = none := List.getElem?_eq_none (by omega)
    have : 1 ≤ sofar 255 b 4 := by simp only [sofar, List.getD, h3, Option.getD_none]; have : (255 : UInt8).toNat = 255 := by decide
                                   omega
    simp [this]
  · rw [may_long (by omega)]
    have e : sofar 255 b 4 = num4 b := by
      unfold num4 hd
      simp [sofar, List.getD, List.getElem?_eq_getElem (show 0 < b.length by omega), List.getElem?_eq_getElem (show 1 < b.length by omega), List.getElem?_eq_getElem (show 2 < b.length by omega), List.getElem?_eq_getElem (show 3 < b.length by omega)]
    rw [e]; unfold ok4; exact Bool.and_comm _ _

/-- does a whole length stand ahead? -/
def isz (b : Bs) : Bool := decide (4 ≤ b.length) && ok4 b

end Go.Proofs.Ytgkfiolgipgbkaa.FrmA
