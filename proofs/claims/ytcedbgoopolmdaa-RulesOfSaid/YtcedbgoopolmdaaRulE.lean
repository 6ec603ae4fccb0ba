/- The rules of all kinds. -/
import Derived.Test.YtcedbgoopolmdaaRulD
import Derived.Deep.RegionHeld3
namespace Go.Proofs.Ytcedbgoopolmdaa.RulE
open Go.ChangeShapes Go.WideShapes Go.ChangeAt Go.RowKit Base RulA RulB RulD

def lkF : Nat → Nat
  | 0 => 65
  | 1 => 87
  | 2 => 90
  | 3 => 93
  | _ => 96
def isF : Nat → Nat
  | 0 => 85
  | 1 => 88
  | 2 => 91
  | 3 => 94
  | _ => 97
def wrF : Nat → Nat
  | 0 => 109
  | 1 => 111
  | 2 => 114
  | 3 => 117
  | _ => 120
def ofF : Nat → Nat
  | 0 => 110
  | 1 => 112
  | 2 => 115
  | 3 => 118
  | _ => 121

def KindsPost (a : Nat → Option Addr) (n cap : Nat → Nat) (w : World) (e : Ending) (w' : World) : Prop :=
  ∃ (g : Nat) (b : Nat → Nat), e = .returned (.slice (some ⟨g, 0, none⟩) 5 5) ∧ g < w'.heap.size ∧
    (∀ j, j < 5 → (∀ (o : Nat) v, (kv (j + 1) (n j) (wrF j) (ofF j) (b j))[o]? = some v → w'.cell? ⟨g, j * 4 + o, none⟩ = some v) ∧ Held w' (b j) (a j) (n j) (cap j) (lkF j) (isF j)) ∧ Below w.heap.size w w'

theorem cells20 (w : World) (b : Nat → Nat) (n : Nat → Nat) (ty : TypeId) (j o : Nat) (hj : j < 5) (v : Value) (h : (kv (j + 1) (n j) (wrF j) (ofF j) (b j))[o]? = some v) :
    (w.alloc (.cells #[Value.int .u8 1, .int .i64 (n 0), .func (Fn.func (wrF 0)) #[] #[.pointer (some ⟨b 0 + 1, 0, none⟩), .pointer (some ⟨b 0, 0, none⟩)], .func (Fn.func (ofF 0)) #[] #[.pointer (some ⟨b 0 + 2, 0, none⟩), .pointer (some ⟨b 0, 0, none⟩)], Value.int .u8 2, .int .i64 (n 1), .func (Fn.func (wrF 1)) #[] #[.pointer (some ⟨b 1 + 1, 0, none⟩), .pointer (some ⟨b 1, 0, none⟩)], .func (Fn.func (ofF 1)) #[] #[.pointer (some ⟨b 1 + 2, 0, none⟩), .pointer (some ⟨b 1, 0, none⟩)], Value.int .u8 3, .int .i64 (n 2), .func (Fn.func (wrF 2)) #[] #[.pointer (some ⟨b 2 + 1, 0, none⟩), .pointer (some ⟨b 2, 0, none⟩)], .func (Fn.func (ofF 2)) #[] #[.pointer (some ⟨b 2 + 2, 0, none⟩), .pointer (some ⟨b 2, 0, none⟩)], Value.int .u8 4, .int .i64 (n 3), .func (Fn.func (wrF 3)) #[] #[.pointer (some ⟨b 3 + 1, 0, none⟩), .pointer (some ⟨b 3, 0, none⟩)], .func (Fn.func (ofF 3)) #[] #[.pointer (some ⟨b 3 + 2, 0, none⟩), .pointer (some ⟨b 3, 0, none⟩)], Value.int .u8 5, .int .i64 (n 4), .func (Fn.func (wrF 4)) #[] #[.pointer (some ⟨b 4 + 1, 0, none⟩), .pointer (some ⟨b 4, 0, none⟩)], .func (Fn.func (ofF 4)) #[] #[.pointer (some ⟨b 4 + 2, 0, none⟩), .pointer (some ⟨b 4, 0, none⟩)]] ty)).cell? ⟨w.heap.size, j * 4 + o, none⟩ = some v := by
  have ho : o < 4 := by
    rcases Nat.lt_or_ge o 4 with e | e
    · exact e
    · rw [Array.getElem?_eq_none (by show 4 ≤ o; exact e)] at h; cases h
  unfold World.cell?
  rw [heap_alloc_new]
  rcases (show j = 0 ∨ j = 1 ∨ j = 2 ∨ j = 3 ∨ j = 4 by omega) with rfl | rfl | rfl | rfl | rfl <;> rcases (show o = 0 ∨ o = 1 ∨ o = 2 ∨ o = 3 by omega) with rfl | rfl | rfl | rfl <;> exact h

set_option maxRecDepth 100000 in
set_option maxHeartbeats 1000000 in
theorem kinds_any (a : Nat → Option Addr) (n cap : Nat → Nat) (w : World) :
    Calls Try.prog 62 #[.agg #[.slice (a 0) (n 0) (cap 0), .slice (a 1) (n 1) (cap 1), .slice (a 2) (n 2) (cap 2), .slice (a 3) (n 3) (cap 3), .slice (a 4) (n 4) (cap 4)]] w (KindsPost a n cap w) := by
  go_enter Try.func62, Try.ntmps62
  have z0 : w.heap.size < (w.alloc (.cells #[.slice (a 0) (n 0) (cap 0), .slice (a 1) (n 1) (cap 1), .slice (a 2) (n 2) (cap 2), .slice (a 3) (n 3) (cap 3), .slice (a 4) (n 4) (cap 4)] 75)).drew.heap.size := by show w.heap.size < (w.alloc _).heap.size; simp
  have k00 : (w.alloc (.cells #[.slice (a 0) (n 0) (cap 0), .slice (a 1) (n 1) (cap 1), .slice (a 2) (n 2) (cap 2), .slice (a 3) (n 3) (cap 3), .slice (a 4) (n 4) (cap 4)] 75)).drew.cell? ⟨w.heap.size, 0, none⟩ = some (.slice (a 0) (n 0) (cap 0)) := by show (w.alloc _).cell? _ = _; unfold World.cell?; rw [heap_alloc_new]; rfl
  have k01 : (w.alloc (.cells #[.slice (a 0) (n 0) (cap 0), .slice (a 1) (n 1) (cap 1), .slice (a 2) (n 2) (cap 2), .slice (a 3) (n 3) (cap 3), .slice (a 4) (n 4) (cap 4)] 75)).drew.cell? ⟨w.heap.size, 1, none⟩ = some (.slice (a 1) (n 1) (cap 1)) := by show (w.alloc _).cell? _ = _; unfold World.cell?; rw [heap_alloc_new]; rfl
  have k02 : (w.alloc (.cells #[.slice (a 0) (n 0) (cap 0), .slice (a 1) (n 1) (cap 1), .slice (a 2) (n 2) (cap 2), .slice (a 3) (n 3) (cap 3), .slice (a 4) (n 4) (cap 4)] 75)).drew.cell? ⟨w.heap.size, 2, none⟩ = some (.slice (a 2) (n 2) (cap 2)) := by show (w.alloc _).cell? _ = _; unfold World.cell?; rw [heap_alloc_new]; rfl
  have k03 : (w.alloc (.cells #[.slice (a 0) (n 0) (cap 0), .slice (a 1) (n 1) (cap 1), .slice (a 2) (n 2) (cap 2), .slice (a 3) (n 3) (cap 3), .slice (a 4) (n 4) (cap 4)] 75)).drew.cell? ⟨w.heap.size, 3, none⟩ = some (.slice (a 3) (n 3) (cap 3)) := by show (w.alloc _).cell? _ = _; unfold World.cell?; rw [heap_alloc_new]; rfl
  have k04 : (w.alloc (.cells #[.slice (a 0) (n 0) (cap 0), .slice (a 1) (n 1) (cap 1), .slice (a 2) (n 2) (cap 2), .slice (a 3) (n 3) (cap 3), .slice (a 4) (n 4) (cap 4)] 75)).drew.cell? ⟨w.heap.size, 4, none⟩ = some (.slice (a 4) (n 4) (cap 4)) := by show (w.alloc _).cell? _ = _; unfold World.cell?; rw [heap_alloc_new]; rfl
  go_wp2_with fail
  go_region_held3 (fun w' => w'.cell? ⟨w.heap.size, 0, none⟩ = some (.slice (a 0) (n 0) (cap 0)) ∧ w'.cell? ⟨w.heap.size, 1, none⟩ = some (.slice (a 1) (n 1) (cap 1)) ∧ w'.cell? ⟨w.heap.size, 2, none⟩ = some (.slice (a 2) (n 2) (cap 2)) ∧ w'.cell? ⟨w.heap.size, 3, none⟩ = some (.slice (a 3) (n 3) (cap 3)) ∧ w'.cell? ⟨w.heap.size, 4, none⟩ = some (.slice (a 4) (n 4) (cap 4))) (first | assumption | go_keep)
    (first | (go_at_call 84; refine (kindOfFlow _ _ _ _ _ _ _).mono ?_; rintro e w1 ⟨b0, rfl, hb0, hH0, hB0⟩
              have z1 : w.heap.size < w1.heap.size := Nat.lt_of_lt_of_le z0 hB0.size
              have k10 := (hB0.cell (p := ⟨w.heap.size, 0, none⟩) z0).trans k00
              have k11 := (hB0.cell (p := ⟨w.heap.size, 1, none⟩) z0).trans k01
              have k12 := (hB0.cell (p := ⟨w.heap.size, 2, none⟩) z0).trans k02
              have k13 := (hB0.cell (p := ⟨w.heap.size, 3, none⟩) z0).trans k03
              have k14 := (hB0.cell (p := ⟨w.heap.size, 4, none⟩) z0).trans k04
              have HB0 := hid hB0; have HH0 := hid hH0; clear hB0 hH0 k00 k01 k02 k03 k04)
           | (go_at_call 86; refine (kindOfBreak _ _ _ _ _ _ _).mono ?_; rintro e w2 ⟨b1, rfl, hb1, hH1, hB1⟩
              have z2 : w.heap.size < w2.heap.size := Nat.lt_of_lt_of_le z1 hB1.size
              have k20 := (hB1.cell (p := ⟨w.heap.size, 0, none⟩) z1).trans k10
              have k21 := (hB1.cell (p := ⟨w.heap.size, 1, none⟩) z1).trans k11
              have k22 := (hB1.cell (p := ⟨w.heap.size, 2, none⟩) z1).trans k12
              have k23 := (hB1.cell (p := ⟨w.heap.size, 3, none⟩) z1).trans k13
              have k24 := (hB1.cell (p := ⟨w.heap.size, 4, none⟩) z1).trans k14
              have HB1 := hid hB1; have HH1 := hid hH1; clear hB1 hH1 k10 k11 k12 k13 k14)
           | (go_at_call 89; refine (kindOfHot _ _ _ _ _ _ _).mono ?_; rintro e w3 ⟨b2, rfl, hb2, hH2, hB2⟩
              have z3 : w.heap.size < w3.heap.size := Nat.lt_of_lt_of_le z2 hB2.size
              have k30 := (hB2.cell (p := ⟨w.heap.size, 0, none⟩) z2).trans k20
              have k31 := (hB2.cell (p := ⟨w.heap.size, 1, none⟩) z2).trans k21
              have k32 := (hB2.cell (p := ⟨w.heap.size, 2, none⟩) z2).trans k22
              have k33 := (hB2.cell (p := ⟨w.heap.size, 3, none⟩) z2).trans k23
              have k34 := (hB2.cell (p := ⟨w.heap.size, 4, none⟩) z2).trans k24
              have HB2 := hid hB2; have HH2 := hid hH2; clear hB2 hH2 k20 k21 k22 k23 k24)
           | (go_at_call 92; refine (kindOfSystem _ _ _ _ _ _ _).mono ?_; rintro e w4 ⟨b3, rfl, hb3, hH3, hB3⟩
              have z4 : w.heap.size < w4.heap.size := Nat.lt_of_lt_of_le z3 hB3.size
              have k40 := (hB3.cell (p := ⟨w.heap.size, 0, none⟩) z3).trans k30
              have k41 := (hB3.cell (p := ⟨w.heap.size, 1, none⟩) z3).trans k31
              have k42 := (hB3.cell (p := ⟨w.heap.size, 2, none⟩) z3).trans k32
              have k43 := (hB3.cell (p := ⟨w.heap.size, 3, none⟩) z3).trans k33
              have k44 := (hB3.cell (p := ⟨w.heap.size, 4, none⟩) z3).trans k34
              have HB3 := hid hB3; have HH3 := hid hH3; clear hB3 hH3 k30 k31 k32 k33 k34)
           | (go_at_call 95; refine (kindOfAuthority _ _ _ _ _ _ _).mono ?_; rintro e w5 ⟨b4, rfl, hb4, hH4, hB4⟩
              have z5 : w.heap.size < w5.heap.size := Nat.lt_of_lt_of_le z4 hB4.size
              have k50 := (hB4.cell (p := ⟨w.heap.size, 0, none⟩) z4).trans k40
              have k51 := (hB4.cell (p := ⟨w.heap.size, 1, none⟩) z4).trans k41
              have k52 := (hB4.cell (p := ⟨w.heap.size, 2, none⟩) z4).trans k42
              have k53 := (hB4.cell (p := ⟨w.heap.size, 3, none⟩) z4).trans k43
              have k54 := (hB4.cell (p := ⟨w.heap.size, 4, none⟩) z4).trans k44
              have HB4 := hid hB4; have HH4 := hid hH4; clear hB4 hH4 k40 k41 k42 k43 k44))
  go_wp2_with fail
  go_ret
  have hbf : ∃ bf : Nat → Nat, bf 0 = b0 ∧ bf 1 = b1 ∧ bf 2 = b2 ∧ bf 3 = b3 ∧ bf 4 = b4 := ⟨fun j => match j with | 0 => b0 | 1 => b1 | 2 => b2 | 3 => b3 | _ => b4, rfl, rfl, rfl, rfl, rfl⟩
  obtain ⟨bf, rfl, rfl, rfl, rfl, rfl⟩ := hbf
  refine ⟨w5.heap.size, bf, rfl, by simp, fun j hj => ⟨fun o v h => ?_, ?_⟩, ?_⟩
  · exact cells20 w5 bf n _ j o hj v h
  · rcases (show j = 0 ∨ j = 1 ∨ j = 2 ∨ j = 3 ∨ j = 4 by omega) with rfl | rfl | rfl | rfl | rfl
    · exact ((((HH0.out.below HB1.out).below HB2.out).below HB3.out).below HB4.out).below ((Below.refl _ _).alloc (Nat.le_refl _) _)
    · exact (((HH1.out.below HB2.out).below HB3.out).below HB4.out).below ((Below.refl _ _).alloc (Nat.le_refl _) _)
    · exact ((HH2.out.below HB3.out).below HB4.out).below ((Below.refl _ _).alloc (Nat.le_refl _) _)
    · exact (HH3.out.below HB4.out).below ((Below.refl _ _).alloc (Nat.le_refl _) _)
    · exact HH4.out.below ((Below.refl _ _).alloc (Nat.le_refl _) _)
  · have h1 : Below w.heap.size w w1 := (((Below.refl w.heap.size w).alloc (Nat.le_refl _) _).drew).trans (HB0.out.mono (Nat.le_of_lt z0))
    exact ((((h1.trans (HB1.out.mono h1.size)).trans (HB2.out.mono (Nat.le_of_lt z2))).trans (HB3.out.mono (Nat.le_of_lt z3))).trans (HB4.out.mono (Nat.le_of_lt z4))).alloc (Nat.le_of_lt z5) _

end Go.Proofs.Ytcedbgoopolmdaa.RulE
