/- The walk of live. -/
import Derived.Test.YthkpfjjcpifkcaaWldA
import Derived.Test.YthkpfjjcpifkcaaWldC
namespace Go.Proofs.Ythkpfjjcpifkcaa.WldD
open Go.ChangeShapes Go.WideShapes Go.ChangeAt Go.RowKit Base ClkM Clk WldA WldB WldC

theorem mix1 : mixN (stepN 0) = 16294208416658607535 := by decide +kernel
theorem mix2 : mixN (stepN (stepN 0)) = 7960286522194355700 := by decide +kernel

theorem next_one (b : Nat) (w : World) (h : w.cell? ⟨b, 0, none⟩ = some (.int .u64 0)) (hf : w.frozen? ⟨b, 0, none⟩ = false) :
    Calls Try.prog 39 #[.pointer (some ⟨b, 0, none⟩)] w fun e w' => e = .returned (.int .u64 16294208416658607535) ∧ w.setCell ⟨b, 0, none⟩ (.int .u64 (stepN 0)) = w' := by
  have := next_any b 0 w h hf
  rw [mix1] at this
  exact this

theorem next_two (b : Nat) (w : World) (h : w.cell? ⟨b, 0, none⟩ = some (.int .u64 (stepN 0))) (hf : w.frozen? ⟨b, 0, none⟩ = false) :
    Calls Try.prog 39 #[.pointer (some ⟨b, 0, none⟩)] w fun e w' => e = .returned (.int .u64 7960286522194355700) ∧ w.setCell ⟨b, 0, none⟩ (.int .u64 (stepN (stepN 0))) = w' := by
  have := next_any b (stepN 0) w h hf
  rw [mix2] at this
  exact this

theorem field1 (a b c : Int) (w : World) : Sem.run Try.prog (Instr.field 64 (.agg #[.int .i64 a, .int .i64 b, .int .i64 c]) 1) w = .ok (.int .i64 b) w := by
  simp [Instr.field, asAgg, go_sem]

theorem tick_12 (b p : Nat) (w : World) (h : w.cell? ⟨b, 0, none⟩ = some (.int .i64 5)) (hf : w.frozen? ⟨b, 0, none⟩ = false) (h1 : w.cell? ⟨p, 0, none⟩ = some (.int .i64 1)) (h2 : w.cell? ⟨p, 1, none⟩ = some (.int .i64 2)) :
    Calls Try.prog 37 #[.pointer (some ⟨b, 0, none⟩), .slice (some ⟨p, 0, none⟩) 2 2] w fun e w' => e = .returned (.tuple #[.int .i64 8, .int .i64 0]) ∧ w.setCell ⟨b, 0, none⟩ (.int .i64 8) = w' := by
  have hc : ∀ i, i < 2 → w.cell? ⟨p, 0 + i, none⟩ = some (.int .i64 (([1, 2] : List Int).getD i 0)) := by
    intro i hi
    match i, hi with
    | 0, _ => exact h1
    | 1, _ => exact h2
  have := tick_core b 5 p 0 2 2 [1, 2] w h hf (by omega) (hid rfl) (hid hc) (hid (by decide))
  rw [show tickF 5 [1, 2] = some 8 from by decide] at this
  exact this

set_option maxRecDepth 20000 in
set_option maxHeartbeats 1000000 in
theorem live_look (w : World) :
    Calls Try.prog 7 #[] w fun e w' => e = .returned (.bool true) ∧ Below w.heap.size w w' := by
  go_enter Try.func7, Try.ntmps7
  go_wp2_with fail
  refine (newClock_yes 5 (by decide) _).mono ?_
  rintro e w1 ⟨rfl, rfl⟩
  go_wp2_with fail
  refine (tick_12 w.heap.size (w.heap.size + 1) _ (by go_cell) (by go_cell) (by go_cell) (by go_cell)).mono ?_
  rintro e w1 ⟨rfl, rfl⟩
  go_wp2_with fail
  refine (newChance_any 0 _).mono ?_
  rintro e w1 ⟨rfl, rfl⟩
  go_wp2_with fail
  refine (newLoad_one (w.heap.size + 1 + 1 + 1) 1 10 1500 300 _ (by go_cell) (by go_cell) (by go_cell) (by simp) (by decide) (by decide) (by decide)).mono ?_
  rintro e w1 ⟨rfl, hb, ho⟩
  obtain ⟨hc1, hf1⟩ := bcell hb
  have k1 : w1.cell? ⟨w.heap.size, 0, none⟩ = some (.int .i64 8) := by rw [hc1 _ _ (by simp; omega)]; go_cell
  have k2 : w1.cell? ⟨w.heap.size + 1 + 1, 0, none⟩ = some (.int .u64 0) := by rw [hc1 _ _ (by simp)]; go_cell
  have k3 : w1.frozen? ⟨w.heap.size + 1 + 1, 0, none⟩ = false := by rw [hf1 _ _ (by simp)]; go_cell
  have hs := hb.size
  simp only [World.size_alloc] at hs
  have HB : Hid (Below w.heap.size w w1) := hid (Below.trans (by repeat (first | (with_reducible exact Below.refl _ _) | (with_reducible refine Below.setCell ?_ (by first | (simp; done) | (simp; omega) | omega) _) | (with_reducible refine Below.alloc ?_ (by first | (simp; done) | (simp; omega) | omega) _) | (with_reducible refine Below.drew ?_) | (with_reducible refine below_drewN ?_ _))) (hb.mono (by simp; omega)))
  clear hb hc1 hf1
  simp only [World.size_alloc] at ho
  obtain ⟨g, cap, o1, o2, o3, o4⟩ := ho
  have z1 := World.block_lt_of_cell? _ _ o1
  have z2 := World.block_lt_of_cell? _ _ o2
  have z3 := World.block_lt_of_cell? _ _ k2
  have hne : g ≠ w.heap.size + 1 + 1 := by intro hg; rw [hg, k2] at o2; cases o2
  have hne2 : w.heap.size + 1 + 1 ≠ g := fun hg => hne hg.symm
  go_wp2_with fail
  refine (set_back w.heap.size 8 7 _ (by go_cell) (by decide) (by decide)).mono ?_
  rintro e w2 ⟨rfl, rfl⟩
  go_wp2_with fail
  refine (next_one (w.heap.size + 1 + 1) _ (by go_cell) (by go_cell)).mono ?_
  rintro e w2 ⟨rfl, rfl⟩
  go_wp2_with fail
  refine (next_two (w.heap.size + 1 + 1) _ (by go_cell) (by go_cell)).mono ?_
  rintro e w2 ⟨rfl, rfl⟩
  go_wp2_with fail
  refine (at_behind (w.heap.size + 1 + 1 + 1 + 1) 15 10 1500 300 g cap _ (by go_cell) (by go_cell) (by go_cell) (by go_cell) (by simp; omega) (by simp; omega) (by decide)).mono ?_
  rintro e w2 ⟨rfl, hb⟩
  have hs2 := hb.size
  simp only [World.size_setCell] at hs2
  obtain ⟨hc1, hf1⟩ := bcell hb
  have q1 : w2.cell? ⟨w.heap.size + 1 + 1 + 1 + 1, 0, none⟩ = some (.slice (some ⟨g, 0, none⟩) 1 cap) := by rw [hc1 _ _ (by simp; omega)]; go_cell
  have q2 : w2.cell? ⟨g, 0, none⟩ = some (.int .i64 10) := by rw [hc1 _ _ (by simp; omega)]; go_cell
  have HB2 : Hid (Below w.heap.size w w2) := hid (Below.trans (by repeat (first | (with_reducible exact Below.refl _ _) | (with_reducible refine Below.setCell ?_ (by first | (simp; done) | (simp; omega) | omega) _) | (with_reducible refine Below.alloc ?_ (by first | (simp; done) | (simp; omega) | omega) _) | (with_reducible refine Below.drew ?_) | (with_reducible refine below_drewN ?_ _) | (with_reducible exact HB.out) | (with_reducible refine Below.trans ?_ (Below.mono HB.out (by first | (simp; done) | (simp; omega) | omega))))) (hb.mono (by simp; omega)))
  clear hb hc1 hf1 HB
  go_wp2_with fail
  rw [field1]
  go_wp2_with fail
  refine (at_ahead (w.heap.size + 1 + 1 + 1 + 1) 9 10 g cap _ (by go_cell) (by go_cell) (by omega) (by omega) (by decide)).mono ?_
  rintro e w3 ⟨rfl, hb⟩
  have hs3 := hb.size
  have HB3 : Hid (Below w.heap.size w w3) := hid (Below.trans HB2.out (hb.mono (by omega)))
  clear hb HB2
  go_wp2_with fail
  rw [field1]
  go_wp2_with fail
  go_ret
  exact ⟨rfl, HB3.out⟩

end Go.Proofs.Ythkpfjjcpifkcaa.WldD
