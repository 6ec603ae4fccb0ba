/- Contracts of a load of one sample. -/
import Derived.Test.YthkpfjjcpifkcaaClk
import Derived.OwnWalk
import Derived.BigQuiet
import Derived.Deep.QuietTactic
import Derived.WalkSmall
namespace Go.Proofs.Ythkpfjjcpifkcaa.WldB
open Go.ChangeShapes Go.WideShapes Go.ChangeAt Go.RowKit Base ClkM Clk

set_option maxHeartbeats 400000 in
theorem isShare_yes (n : Int) (h : 0 ≤ n) (h2 : n ≤ 1099511627776) (w : World) :
    Calls Try.prog 73 #[.int .i64 n] w fun e w' => e = .returned (.bool true) ∧ w = w' := by
  go_enter Try.func73, Try.ntmps73
  go_wp2
  go_ret
  exact ⟨rfl, rfl⟩

set_option maxHeartbeats 400000 in
theorem mayBe_yes (a l c : Int) (ha : IsT a) (hl : 0 ≤ l ∧ l ≤ 1099511627776) (hc : 0 ≤ c ∧ c ≤ 1099511627776) (w : World) :
    Calls Try.prog 50 #[.agg #[.int .i64 a, .int .i64 l, .int .i64 c]] w fun e w' => e = .returned (.bool true) ∧ Below w.heap.size w w' := by
  have HA := hid ha
  have HL := hid hl
  have HC := hid hc
  clear ha hl hc
  go_enter Try.func50, Try.ntmps50
  go_wp2_with fail
  refine (isTime_yes a HA.out.1 HA.out.2 _).mono ?_
  rintro e w1 ⟨rfl, rfl⟩
  go_wp2_with fail
  refine (isShare_yes l HL.out.1 HL.out.2 _).mono ?_
  rintro e w1 ⟨rfl, rfl⟩
  go_wp2_with fail
  refine (isShare_yes c HC.out.1 HC.out.2 _).mono ?_
  rintro e w1 ⟨rfl, rfl⟩
  go_wp2
  go_ret
  exact ⟨rfl, (by repeat (first | (with_reducible exact Below.refl _ _) | (with_reducible refine Below.setCell ?_ (by first | (simp; done) | (simp; omega) | omega) _) | (with_reducible refine Below.alloc ?_ (by first | (simp; done) | (simp; omega) | omega) _) | (with_reducible refine Below.drew ?_) | (with_reducible refine below_drewN ?_ _)))⟩

set_option maxHeartbeats 400000 in
theorem last_none (b : Nat) (w : World) (h : w.cell? ⟨b, 0, none⟩ = some (.slice none 0 0)) :
    Calls Try.prog 49 #[.pointer (some ⟨b, 0, none⟩)] w fun e w' => e = .returned (.int .i64 0) ∧ w = w' := by
  go_enter Try.func49, Try.ntmps49
  go_wp2
  go_ret
  exact ⟨rfl, rfl⟩

/-- a load of one sample lies in block b -/
def One (b : Nat) (x y z : Int) (w : World) : Prop :=
  ∃ g cap, w.cell? ⟨b, 0, none⟩ = some (.slice (some ⟨g, 0, none⟩) 1 cap) ∧ w.cell? ⟨g, 0, none⟩ = some (.int .i64 x) ∧ w.cell? ⟨g, 1, none⟩ = some (.int .i64 y) ∧ w.cell? ⟨g, 2, none⟩ = some (.int .i64 z)

theorem One.step {b : Nat} {x y z : Int} {w w' : World} (h : One b x y z w) (hb : Below w.heap.size w w') : One b x y z w' := by
  obtain ⟨g, cap, h1, h2, h3, h4⟩ := h
  have l1 := World.block_lt_of_cell? _ _ h1
  have l2 := World.block_lt_of_cell? _ _ h2
  exact ⟨g, cap, (hb.cell l1).trans h1, (hb.cell l2).trans h2, (hb.cell (p := ⟨g, 1, none⟩) l2).trans h3, (hb.cell (p := ⟨g, 2, none⟩) l2).trans h4⟩

set_option maxHeartbeats 400000 in
theorem later_look (f1 f2 : Nat) (b g cap : Nat) (x at_ : Int) (w : World) (h0 : w.cell? ⟨f1, 0, none⟩ = some (.pointer (some ⟨b, 0, none⟩))) (ha : w.cell? ⟨f2, 0, none⟩ = some (.int .i64 at_)) (h1 : w.cell? ⟨b, 0, none⟩ = some (.slice (some ⟨g, 0, none⟩) 1 cap)) (h2 : w.cell? ⟨g, 0, none⟩ = some (.int .i64 x)) :
    Calls Try.prog 53 #[.int .i64 0, .pointer (some ⟨f1, 0, none⟩), .pointer (some ⟨f2, 0, none⟩)] w fun e w' => e = .returned (.bool (decide (at_ < x))) ∧ ∃ n, w.drewN n = w' := by
  go_enter Try.func53, Try.ntmps53
  go_wp2_with fail
  go_quiet (fail)
  go_wp2_with fail
  go_ret
  exact ⟨rfl, _, rfl⟩

set_option maxRecDepth 20000 in
set_option maxHeartbeats 1000000 in
theorem search_one (f1 f2 : Nat) (b g cap : Nat) (x at_ : Int) (w : World) (h0 : w.cell? ⟨f1, 0, none⟩ = some (.pointer (some ⟨b, 0, none⟩))) (ha : w.cell? ⟨f2, 0, none⟩ = some (.int .i64 at_)) (h1 : w.cell? ⟨b, 0, none⟩ = some (.slice (some ⟨g, 0, none⟩) 1 cap)) (h2 : w.cell? ⟨g, 0, none⟩ = some (.int .i64 x)) (r : Int) (hr : r = if at_ < x then 0 else 1) :
    Calls Try.prog 52 #[.int .i64 1, .func (Fn.func 53) #[] #[.pointer (some ⟨f1, 0, none⟩), .pointer (some ⟨f2, 0, none⟩)]] w fun e w' => e = .returned (.int .i64 r) ∧ ∃ n, w.drewN n = w' := by
  have HR := hid hr
  clear hr
  go_enter Try.func52, Try.ntmps52
  go_wp2_with fail
  go_loopw [5, 6] (fun i j wr => (∃ n, w.drewN n = wr) ∧ ((i = .int .i64 0 ∧ j = .int .i64 1) ∨ (i = .int .i64 r ∧ j = .int .i64 r))) (fun i j _ => (intOf j - intOf i).toNat)
  case atStart => exact ⟨⟨0, rfl⟩, Or.inl ⟨rfl, rfl⟩⟩
  case round =>
    obtain ⟨⟨m, rfl⟩, hrel⟩ := hrel
    rcases hrel with ⟨rfl, rfl⟩ | ⟨rfl, rfl⟩
    · by_cases hlt : at_ < x
      · have hd : decide (at_ < x) = true := by simpa using hlt
        go_wp2_with fail
        refine (later_look f1 f2 b g cap x at_ _ (by go_cell) (by go_cell) (by go_cell) (by go_cell)).mono ?_
        rintro e w1 ⟨rfl, m2, rfl⟩
        go_wp2
        go_roundw
        case rel => exact ⟨⟨_, rfl⟩, Or.inr ⟨by rw [HR.out, if_pos (by omega)], by rw [HR.out, if_pos (by omega)]⟩⟩
        case measure => simp [intOf]
      · have hd : decide (at_ < x) = false := by simpa using hlt
        go_wp2_with fail
        refine (later_look f1 f2 b g cap x at_ _ (by go_cell) (by go_cell) (by go_cell) (by go_cell)).mono ?_
        rintro e w1 ⟨rfl, m2, rfl⟩
        go_wp2
        go_roundw
        case rel => exact ⟨⟨_, rfl⟩, Or.inr ⟨by rw [HR.out, if_neg (by omega)], by rw [HR.out, if_neg (by omega)]⟩⟩
        case measure => simp [intOf]
    · go_wp2
      go_ret
      exact ⟨rfl, _, rfl⟩

set_option maxRecDepth 20000 in
set_option maxHeartbeats 1000000 in
theorem at_behind (b : Nat) (at_ x y z : Int) (g cap : Nat) (w : World) (h1 : w.cell? ⟨b, 0, none⟩ = some (.slice (some ⟨g, 0, none⟩) 1 cap)) (h2 : w.cell? ⟨g, 0, none⟩ = some (.int .i64 x)) (h3 : w.cell? ⟨g, 1, none⟩ = some (.int .i64 y)) (h4 : w.cell? ⟨g, 2, none⟩ = some (.int .i64 z)) (hb : b < w.heap.size) (hg : g < w.heap.size) (hx : x ≤ at_) :
    Calls Try.prog 22 #[.pointer (some ⟨b, 0, none⟩), .int .i64 at_] w fun e w' => e = .returned (.agg #[.int .i64 x, .int .i64 y, .int .i64 z]) ∧ Below w.heap.size w w' := by
  have HX := hid hx
  clear hx
  have hb1 : b < w.heap.size + 1 := by omega
  have hb2 : b < w.heap.size + 1 + 1 := by omega
  have hg1 : g < w.heap.size + 1 := by omega
  have hg2 : g < w.heap.size + 1 + 1 := by omega
  go_enter Try.func22, Try.ntmps22
  go_wp2_with fail
  refine (search_one w.heap.size (w.heap.size + 1) b g cap x at_ _ (by go_cell) (by go_cell) (by go_cell) (by go_cell) 1 (by rw [if_neg]; have := HX.out; omega)).mono ?_
  rintro e w1 ⟨rfl, m, rfl⟩
  go_wp2_with fail
  refine bodyPost_ret (v := .agg #[.int .i64 x, .int .i64 y, .int .i64 z]) (by simp [results, Try.results22, go_sem]) rfl ⟨rfl, ?_⟩
  exact (by repeat (first | (with_reducible exact Below.refl _ _) | (with_reducible refine Below.setCell ?_ (by first | (simp; done) | (simp; omega) | omega) _) | (with_reducible refine Below.alloc ?_ (by first | (simp; done) | (simp; omega) | omega) _) | (with_reducible refine Below.drew ?_) | (with_reducible refine below_drewN ?_ _)))

set_option maxRecDepth 20000 in
set_option maxHeartbeats 1000000 in
theorem at_ahead (b : Nat) (at_ x : Int) (g cap : Nat) (w : World) (h1 : w.cell? ⟨b, 0, none⟩ = some (.slice (some ⟨g, 0, none⟩) 1 cap)) (h2 : w.cell? ⟨g, 0, none⟩ = some (.int .i64 x)) (hb : b < w.heap.size) (hg : g < w.heap.size) (hx : at_ < x) :
    Calls Try.prog 22 #[.pointer (some ⟨b, 0, none⟩), .int .i64 at_] w fun e w' => e = .returned (.agg #[.int .i64 0, .int .i64 0, .int .i64 0]) ∧ Below w.heap.size w w' := by
  have HX := hid hx
  clear hx
  have hb1 : b < w.heap.size + 1 := by omega
  have hb2 : b < w.heap.size + 1 + 1 := by omega
  have hg1 : g < w.heap.size + 1 := by omega
  have hg2 : g < w.heap.size + 1 + 1 := by omega
  go_enter Try.func22, Try.ntmps22
  go_wp2_with fail
  refine (search_one w.heap.size (w.heap.size + 1) b g cap x at_ _ (by go_cell) (by go_cell) (by go_cell) (by go_cell) 0 (by rw [if_pos]; have := HX.out; omega)).mono ?_
  rintro e w1 ⟨rfl, m, rfl⟩
  go_wp2_with fail
  refine bodyPost_ret (v := .agg #[.int .i64 0, .int .i64 0, .int .i64 0]) (by simp [results, Try.results22, go_sem]) rfl ⟨rfl, ?_⟩
  exact (by repeat (first | (with_reducible exact Below.refl _ _) | (with_reducible refine Below.setCell ?_ (by first | (simp; done) | (simp; omega) | omega) _) | (with_reducible refine Below.alloc ?_ (by first | (simp; done) | (simp; omega) | omega) _) | (with_reducible refine Below.drew ?_) | (with_reducible refine below_drewN ?_ _)))

end Go.Proofs.Ythkpfjjcpifkcaa.WldB
