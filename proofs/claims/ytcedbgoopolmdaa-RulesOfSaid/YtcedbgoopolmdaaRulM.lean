/- The rules of each kind in memory: whose they are. -/
import Derived.Test.YtcedbgoopolmdaaRulH
namespace Go.Proofs.Ytcedbgoopolmdaa.RulM
open Go.ChangeShapes Go.WideShapes Go.ChangeAt Go.RowKit Base RulA RulB RulC RulD RulE RulF RulG RulH Txt
set_option linter.unusedVariables false

/-- rows of sz cells; a row's first cell -/
def RowsOf (w : World) (a : Option Addr) (n sz : Nat) (C : Nat → Nat → Value) : Prop :=
  0 < n → ∃ g o, a = some ⟨g, o, none⟩ ∧ g < w.heap.size ∧ ∀ i, i < n → ∀ j, j < sz → w.cell? ⟨g, o + i * sz + j, none⟩ = some (C i j)

theorem RowsOf.below {w w' : World} {a : Option Addr} {n sz : Nat} {C : Nat → Nat → Value} (h : RowsOf w a n sz C) (hb : Below w.heap.size w w') : RowsOf w' a n sz C := fun h0 => by
  obtain ⟨g, o, rfl, hg, hc⟩ := h h0
  exact ⟨g, o, rfl, Nat.lt_of_lt_of_le hg hb.size, fun i hi j hj => (hb.cell (p := ⟨g, o + i * sz + j, none⟩) hg).trans (hc i hi j hj)⟩

set_option maxHeartbeats 1000000 in
theorem isFlow (r s : ByteArray) (x1 x2 x3 x4 x5 x6 x7 x8 x9 x10 x11 : Value) (w : World) :
    Calls Try.prog 85 #[.agg #[.string r, x1, x2, x3, x4, x5, x6, x7, x8, x9, x10, x11], .string s] w fun e w' => e = .returned (.bool (decide (r = s))) ∧ Below w.heap.size w w' := by
  obtain ⟨b, hb⟩ : ∃ b, decide (r = s) = b := ⟨_, rfl⟩
  have e1 : (r.toList == s.toList) = b := by rw [text_eq]; exact hb
  rw [hb]
  clear hb
  go_enter Try.func85, Try.ntmps85
  go_wp2_with fail
  go_ret
  exact ⟨rfl, (by repeat (first | (with_reducible exact Below.refl _ _) | (with_reducible refine Below.setCell ?_ (by first | (simp; done) | (simp; omega) | omega) _) | (with_reducible refine Below.alloc ?_ (by first | (simp; done) | (simp; omega) | omega) _) | (with_reducible refine Below.drew ?_) | (with_reducible refine below_drewN ?_ _)))⟩

set_option maxRecDepth 20000 in
set_option maxHeartbeats 1000000 in
theorem ofFlow (r s : ByteArray) (x1 x2 x3 x4 x5 x6 x7 x8 x9 x10 x11 : Value) (g o i n cap b : Nat) (W : World) (hi : i < n) (hg : g < W.heap.size) (hb : b + 2 < W.heap.size) (k0 : W.cell? ⟨b, 0, none⟩ = some (.slice (some ⟨g, o, none⟩) n cap)) (k1 : W.cell? ⟨b + 2, 0, none⟩ = some (.func (Fn.func 85) #[] #[]))
    (c0 : W.cell? ⟨g, o + i * 12, none⟩ = some (.string r)) (c1 : W.cell? ⟨g, o + i * 12 + 1, none⟩ = some (x1)) (c2 : W.cell? ⟨g, o + i * 12 + 2, none⟩ = some (x2)) (c3 : W.cell? ⟨g, o + i * 12 + 3, none⟩ = some (x3)) (c4 : W.cell? ⟨g, o + i * 12 + 4, none⟩ = some (x4)) (c5 : W.cell? ⟨g, o + i * 12 + 5, none⟩ = some (x5)) (c6 : W.cell? ⟨g, o + i * 12 + 6, none⟩ = some (x6)) (c7 : W.cell? ⟨g, o + i * 12 + 7, none⟩ = some (x7)) (c8 : W.cell? ⟨g, o + i * 12 + 8, none⟩ = some (x8)) (c9 : W.cell? ⟨g, o + i * 12 + 9, none⟩ = some (x9)) (c10 : W.cell? ⟨g, o + i * 12 + 10, none⟩ = some (x10)) (c11 : W.cell? ⟨g, o + i * 12 + 11, none⟩ = some (x11)) :
    Calls Try.prog 110 #[.int .i64 i, .string s, .pointer (some ⟨b + 2, 0, none⟩), .pointer (some ⟨b, 0, none⟩)] W fun e W' => e = .returned (.bool (decide (r = s))) ∧ Below W.heap.size W W' := by
  have HF := hid (fun w => isFlow r s x1 x2 x3 x4 x5 x6 x7 x8 x9 x10 x11 w)
  go_enter Try.func110, Try.ntmps110
  go_wp2_with fail
  go_region_with (go_at_call 85; refine (HF.out _).mono ?_; rintro e w1 ⟨rfl, hb1⟩)
  all_goals
    have HB1 := hid ((Below.refl W.heap.size W).drew.trans hb1)
    clear hb1 HF
    go_wp2_with fail
    go_ret
    exact ⟨rfl, HB1.out⟩

set_option maxHeartbeats 1000000 in
theorem isBreak (r s : ByteArray) (x1 x2 x3 x4 x5 x6 : Value) (w : World) :
    Calls Try.prog 88 #[.agg #[.string r, x1, x2, x3, x4, x5, x6], .string s] w fun e w' => e = .returned (.bool (decide (r = s))) ∧ Below w.heap.size w w' := by
  obtain ⟨b, hb⟩ : ∃ b, decide (r = s) = b := ⟨_, rfl⟩
  have e1 : (r.toList == s.toList) = b := by rw [text_eq]; exact hb
  rw [hb]
  clear hb
  go_enter Try.func88, Try.ntmps88
  go_wp2_with fail
  go_ret
  exact ⟨rfl, (by repeat (first | (with_reducible exact Below.refl _ _) | (with_reducible refine Below.setCell ?_ (by first | (simp; done) | (simp; omega) | omega) _) | (with_reducible refine Below.alloc ?_ (by first | (simp; done) | (simp; omega) | omega) _) | (with_reducible refine Below.drew ?_) | (with_reducible refine below_drewN ?_ _)))⟩

set_option maxRecDepth 20000 in
set_option maxHeartbeats 1000000 in
theorem ofBreak (r s : ByteArray) (x1 x2 x3 x4 x5 x6 : Value) (g o i n cap b : Nat) (W : World) (hi : i < n) (hg : g < W.heap.size) (hb : b + 2 < W.heap.size) (k0 : W.cell? ⟨b, 0, none⟩ = some (.slice (some ⟨g, o, none⟩) n cap)) (k1 : W.cell? ⟨b + 2, 0, none⟩ = some (.func (Fn.func 88) #[] #[]))
    (c0 : W.cell? ⟨g, o + i * 7, none⟩ = some (.string r)) (c1 : W.cell? ⟨g, o + i * 7 + 1, none⟩ = some (x1)) (c2 : W.cell? ⟨g, o + i * 7 + 2, none⟩ = some (x2)) (c3 : W.cell? ⟨g, o + i * 7 + 3, none⟩ = some (x3)) (c4 : W.cell? ⟨g, o + i * 7 + 4, none⟩ = some (x4)) (c5 : W.cell? ⟨g, o + i * 7 + 5, none⟩ = some (x5)) (c6 : W.cell? ⟨g, o + i * 7 + 6, none⟩ = some (x6)) :
    Calls Try.prog 112 #[.int .i64 i, .string s, .pointer (some ⟨b + 2, 0, none⟩), .pointer (some ⟨b, 0, none⟩)] W fun e W' => e = .returned (.bool (decide (r = s))) ∧ Below W.heap.size W W' := by
  have HF := hid (fun w => isBreak r s x1 x2 x3 x4 x5 x6 w)
  go_enter Try.func112, Try.ntmps112
  go_wp2_with fail
  go_region_with (go_at_call 88; refine (HF.out _).mono ?_; rintro e w1 ⟨rfl, hb1⟩)
  all_goals
    have HB1 := hid ((Below.refl W.heap.size W).drew.trans hb1)
    clear hb1 HF
    go_wp2_with fail
    go_ret
    exact ⟨rfl, HB1.out⟩

set_option maxHeartbeats 1000000 in
theorem isHot (r s : ByteArray) (x1 x2 x3 x4 : Value) (w : World) :
    Calls Try.prog 91 #[.agg #[.string r, x1, x2, x3, x4], .string s] w fun e w' => e = .returned (.bool (decide (r = s))) ∧ Below w.heap.size w w' := by
  obtain ⟨b, hb⟩ : ∃ b, decide (r = s) = b := ⟨_, rfl⟩
  have e1 : (r.toList == s.toList) = b := by rw [text_eq]; exact hb
  rw [hb]
  clear hb
  go_enter Try.func91, Try.ntmps91
  go_wp2_with fail
  go_ret
  exact ⟨rfl, (by repeat (first | (with_reducible exact Below.refl _ _) | (with_reducible refine Below.setCell ?_ (by first | (simp; done) | (simp; omega) | omega) _) | (with_reducible refine Below.alloc ?_ (by first | (simp; done) | (simp; omega) | omega) _) | (with_reducible refine Below.drew ?_) | (with_reducible refine below_drewN ?_ _)))⟩

set_option maxRecDepth 20000 in
set_option maxHeartbeats 1000000 in
theorem ofHot (r s : ByteArray) (x1 x2 x3 x4 : Value) (g o i n cap b : Nat) (W : World) (hi : i < n) (hg : g < W.heap.size) (hb : b + 2 < W.heap.size) (k0 : W.cell? ⟨b, 0, none⟩ = some (.slice (some ⟨g, o, none⟩) n cap)) (k1 : W.cell? ⟨b + 2, 0, none⟩ = some (.func (Fn.func 91) #[] #[]))
    (c0 : W.cell? ⟨g, o + i * 5, none⟩ = some (.string r)) (c1 : W.cell? ⟨g, o + i * 5 + 1, none⟩ = some (x1)) (c2 : W.cell? ⟨g, o + i * 5 + 2, none⟩ = some (x2)) (c3 : W.cell? ⟨g, o + i * 5 + 3, none⟩ = some (x3)) (c4 : W.cell? ⟨g, o + i * 5 + 4, none⟩ = some (x4)) :
    Calls Try.prog 115 #[.int .i64 i, .string s, .pointer (some ⟨b + 2, 0, none⟩), .pointer (some ⟨b, 0, none⟩)] W fun e W' => e = .returned (.bool (decide (r = s))) ∧ Below W.heap.size W W' := by
  have HF := hid (fun w => isHot r s x1 x2 x3 x4 w)
  go_enter Try.func115, Try.ntmps115
  go_wp2_with fail
  go_region_with (go_at_call 91; refine (HF.out _).mono ?_; rintro e w1 ⟨rfl, hb1⟩)
  all_goals
    have HB1 := hid ((Below.refl W.heap.size W).drew.trans hb1)
    clear hb1 HF
    go_wp2_with fail
    go_ret
    exact ⟨rfl, HB1.out⟩

set_option maxHeartbeats 1000000 in
theorem isSystem (s : ByteArray) (x0 x1 x2 x3 x4 : Value) (w : World) :
    Calls Try.prog 94 #[.agg #[x0, x1, x2, x3, x4], .string s] w fun e w' => e = .returned (.bool true) ∧ Below w.heap.size w w' := by
  go_enter Try.func94, Try.ntmps94
  go_wp2_with fail
  go_ret
  exact ⟨rfl, (by repeat (first | (with_reducible exact Below.refl _ _) | (with_reducible refine Below.setCell ?_ (by first | (simp; done) | (simp; omega) | omega) _) | (with_reducible refine Below.alloc ?_ (by first | (simp; done) | (simp; omega) | omega) _) | (with_reducible refine Below.drew ?_) | (with_reducible refine below_drewN ?_ _)))⟩

set_option maxRecDepth 20000 in
set_option maxHeartbeats 1000000 in
theorem ofSystem (s : ByteArray) (x0 x1 x2 x3 x4 : Value) (g o i n cap b : Nat) (W : World) (hi : i < n) (hg : g < W.heap.size) (hb : b + 2 < W.heap.size) (k0 : W.cell? ⟨b, 0, none⟩ = some (.slice (some ⟨g, o, none⟩) n cap)) (k1 : W.cell? ⟨b + 2, 0, none⟩ = some (.func (Fn.func 94) #[] #[]))
    (c0 : W.cell? ⟨g, o + i * 5, none⟩ = some (x0)) (c1 : W.cell? ⟨g, o + i * 5 + 1, none⟩ = some (x1)) (c2 : W.cell? ⟨g, o + i * 5 + 2, none⟩ = some (x2)) (c3 : W.cell? ⟨g, o + i * 5 + 3, none⟩ = some (x3)) (c4 : W.cell? ⟨g, o + i * 5 + 4, none⟩ = some (x4)) :
    Calls Try.prog 118 #[.int .i64 i, .string s, .pointer (some ⟨b + 2, 0, none⟩), .pointer (some ⟨b, 0, none⟩)] W fun e W' => e = .returned (.bool true) ∧ Below W.heap.size W W' := by
  have HF := hid (fun w => isSystem s x0 x1 x2 x3 x4 w)
  go_enter Try.func118, Try.ntmps118
  go_wp2_with fail
  go_region_with (go_at_call 94; refine (HF.out _).mono ?_; rintro e w1 ⟨rfl, hb1⟩)
  all_goals
    have HB1 := hid ((Below.refl W.heap.size W).drew.trans hb1)
    clear hb1 HF
    go_wp2_with fail
    go_ret
    exact ⟨rfl, HB1.out⟩

set_option maxHeartbeats 1000000 in
theorem isAuthority (r s : ByteArray) (x1 x2 : Value) (w : World) :
    Calls Try.prog 97 #[.agg #[.string r, x1, x2], .string s] w fun e w' => e = .returned (.bool (decide (r = s))) ∧ Below w.heap.size w w' := by
  obtain ⟨b, hb⟩ : ∃ b, decide (r = s) = b := ⟨_, rfl⟩
  have e1 : (r.toList == s.toList) = b := by rw [text_eq]; exact hb
  rw [hb]
  clear hb
  go_enter Try.func97, Try.ntmps97
  go_wp2_with fail
  go_ret
  exact ⟨rfl, (by repeat (first | (with_reducible exact Below.refl _ _) | (with_reducible refine Below.setCell ?_ (by first | (simp; done) | (simp; omega) | omega) _) | (with_reducible refine Below.alloc ?_ (by first | (simp; done) | (simp; omega) | omega) _) | (with_reducible refine Below.drew ?_) | (with_reducible refine below_drewN ?_ _)))⟩

set_option maxRecDepth 20000 in
set_option maxHeartbeats 1000000 in
theorem ofAuthority (r s : ByteArray) (x1 x2 : Value) (g o i n cap b : Nat) (W : World) (hi : i < n) (hg : g < W.heap.size) (hb : b + 2 < W.heap.size) (k0 : W.cell? ⟨b, 0, none⟩ = some (.slice (some ⟨g, o, none⟩) n cap)) (k1 : W.cell? ⟨b + 2, 0, none⟩ = some (.func (Fn.func 97) #[] #[]))
    (c0 : W.cell? ⟨g, o + i * 3, none⟩ = some (.string r)) (c1 : W.cell? ⟨g, o + i * 3 + 1, none⟩ = some (x1)) (c2 : W.cell? ⟨g, o + i * 3 + 2, none⟩ = some (x2)) :
    Calls Try.prog 121 #[.int .i64 i, .string s, .pointer (some ⟨b + 2, 0, none⟩), .pointer (some ⟨b, 0, none⟩)] W fun e W' => e = .returned (.bool (decide (r = s))) ∧ Below W.heap.size W W' := by
  have HF := hid (fun w => isAuthority r s x1 x2 w)
  go_enter Try.func121, Try.ntmps121
  go_wp2_with fail
  go_region_with (go_at_call 97; refine (HF.out _).mono ?_; rintro e w1 ⟨rfl, hb1⟩)
  all_goals
    have HB1 := hid ((Below.refl W.heap.size W).drew.trans hb1)
    clear hb1 HF
    go_wp2_with fail
    go_ret
    exact ⟨rfl, HB1.out⟩

end Go.Proofs.Ytcedbgoopolmdaa.RulM
