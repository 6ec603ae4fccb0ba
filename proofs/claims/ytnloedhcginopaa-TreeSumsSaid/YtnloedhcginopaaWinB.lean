/- Contract of together, of one more. -/
import Derived.Test.YtnloedhcginopaaWinA
import Derived.StillTailTactics
namespace Go.Proofs.Ytnloedhcginopaa.WinB
open Go.ChangeShapes Go.WideShapes Go.ChangeAt Go.RowKit Base WinM WinA

/-- counts lie in block g from place o on -/
def At6 (w : World) (g o : Nat) (c : Cnt) : Prop :=
  w.cell? ⟨g, o, none⟩ = some (.int .i64 c.pass) ∧ w.cell? ⟨g, o + 1, none⟩ = some (.int .i64 c.block) ∧ w.cell? ⟨g, o + 2, none⟩ = some (.int .i64 c.done) ∧
  w.cell? ⟨g, o + 3, none⟩ = some (.int .i64 c.errs) ∧ w.cell? ⟨g, o + 4, none⟩ = some (.int .i64 c.rt) ∧ w.cell? ⟨g, o + 5, none⟩ = some (.int .i64 c.low)
/-- .. and may be written -/
def Free6 (w : World) (g o : Nat) : Prop :=
  w.frozen? ⟨g, o, none⟩ = false ∧ w.frozen? ⟨g, o + 1, none⟩ = false ∧ w.frozen? ⟨g, o + 2, none⟩ = false ∧
  w.frozen? ⟨g, o + 3, none⟩ = false ∧ w.frozen? ⟨g, o + 4, none⟩ = false ∧ w.frozen? ⟨g, o + 5, none⟩ = false

theorem plus_still (a b : Int) (ha : InN a) (hb : InN b) (w : World) :
    Calls Try.prog 89 #[.int .i64 a, .int .i64 b] w fun e w' => e = .returned (.int .i64 (plusM a b)) ∧ w' = w :=
  (plus_any a b ha hb w).mono fun _ _ h => ⟨h.1, h.2.symm⟩

set_option maxRecDepth 100000 in
set_option maxHeartbeats 2000000 in
theorem together_one (a1 a2 a3 a4 a5 a6 b1 b2 b3 b4 b5 b6 : Int) (g o cap : Nat) (w : World) (ha : (Cnt.mk a1 a2 a3 a4 a5 a6).Fine) (hb : (Cnt.mk b1 b2 b3 b4 b5 b6).Fine)
    (H : Hid (At6 w g o ⟨b1, b2, b3, b4, b5, b6⟩)) (hg : g < w.heap.size) :
    Calls Try.prog 73 #[.agg #[.int .i64 a1, .int .i64 a2, .int .i64 a3, .int .i64 a4, .int .i64 a5, .int .i64 a6], .slice (some ⟨g, o, none⟩) 1 cap] w
      fun e w' => e = .returned (cv (joinM ⟨a1, a2, a3, a4, a5, a6⟩ ⟨b1, b2, b3, b4, b5, b6⟩)) ∧ Below w.heap.size w w' := by
  have HL := hid (least_any a1 a2 a3 a4 a5 a6 b1 b2 b3 b4 b5 b6)
  have HA := hid ha
  have HB := hid hb
  clear ha hb
  go_enter Try.func73, Try.ntmps73
  go_wp2
  go_loopw [9] (fun i wr => ∃ (k : Nat) (c : Cnt), i = .int .i64 k ∧ ((k = 0 ∧ c = ⟨a1, a2, a3, a4, a5, a6⟩) ∨ (k = 1 ∧ c = joinM ⟨a1, a2, a3, a4, a5, a6⟩ ⟨b1, b2, b3, b4, b5, b6⟩)) ∧
    At6 wr w.heap.size 0 c ∧ Free6 wr w.heap.size 0 ∧ Below w.heap.size w wr ∧ w.heap.size + 2 ≤ wr.heap.size ∧ At6 wr (w.heap.size + 1) 0 ⟨0, 0, 0, 0, 0, 0⟩ ∧ Free6 wr (w.heap.size + 1) 0) (fun i _ => 1 - (intOf i).toNat)
  case atStart => exact ⟨0, ⟨a1, a2, a3, a4, a5, a6⟩, rfl, .inl ⟨rfl, rfl⟩, ⟨by go_cell, by go_cell, by go_cell, by go_cell, by go_cell, by go_cell⟩, ⟨by go_cell, by go_cell, by go_cell, by go_cell, by go_cell, by go_cell⟩, (by repeat (first | (with_reducible exact Below.refl _ _) | (with_reducible refine Below.setCell ?_ (by first | (simp; done) | (simp; omega) | omega) _) | (with_reducible refine Below.alloc ?_ (by first | (simp; done) | (simp; omega) | omega) _) | (with_reducible refine Below.drew ?_) | (with_reducible refine below_drewN ?_ _))), by simp, ⟨by go_cell, by go_cell, by go_cell, by go_cell, by go_cell, by go_cell⟩, ⟨by go_cell, by go_cell, by go_cell, by go_cell, by go_cell, by go_cell⟩⟩
  case round =>
    obtain ⟨k, c, rfl, hkc, h6, hfr, hbel, hsz, hz, hzf⟩ := hrel
    have HBel := hid hbel
    have HZ := hid hz
    have HZF := hid hzf
    rcases hkc with ⟨rfl, rfl⟩ | ⟨rfl, rfl⟩
    · obtain ⟨k1, k2, k3, k4, k5, k6⟩ := H.out
      rw [← hbel.cell (p := ⟨g, o, none⟩) hg] at k1
      rw [← hbel.cell (p := ⟨g, o + 1, none⟩) hg] at k2
      rw [← hbel.cell (p := ⟨g, o + 2, none⟩) hg] at k3
      rw [← hbel.cell (p := ⟨g, o + 3, none⟩) hg] at k4
      rw [← hbel.cell (p := ⟨g, o + 4, none⟩) hg] at k5
      rw [← hbel.cell (p := ⟨g, o + 5, none⟩) hg] at k6
      dsimp only at k1 k2 k3 k4 k5 k6
      have H6 := hid h6
      have HFr := hid hfr
      clear hbel hz hzf h6 hfr
      go_wp2_with fail
      refine wp_region_still_tail 27 (by kernel_rfl) (by kernel_rfl) ?_
      obtain ⟨W, hW⟩ : ∃ W, (wr.alloc (.cells #[.int .i64 b1, .int .i64 b2, .int .i64 b3, .int .i64 b4, .int .i64 b5, .int .i64 b6] 32)).drew = W := ⟨_, rfl⟩
      have zz : w.heap.size < wr.heap.size := by omega
      obtain ⟨j1, j2, j3, j4, j5, j6⟩ := H6.out
      dsimp only at j1 j2 j3 j4 j5 j6
      obtain ⟨f1, f2, f3, f4, f5, f6⟩ := HFr.out
      have m1 : W.cell? ⟨w.heap.size, 0, none⟩ = some (.int .i64 a1) := by subst hW; go_cell
      have m2 : W.cell? ⟨w.heap.size, 1, none⟩ = some (.int .i64 a2) := by subst hW; go_cell
      have m3 : W.cell? ⟨w.heap.size, 2, none⟩ = some (.int .i64 a3) := by subst hW; go_cell
      have m4 : W.cell? ⟨w.heap.size, 3, none⟩ = some (.int .i64 a4) := by subst hW; go_cell
      have m5 : W.cell? ⟨w.heap.size, 4, none⟩ = some (.int .i64 a5) := by subst hW; go_cell
      have m6 : W.cell? ⟨w.heap.size, 5, none⟩ = some (.int .i64 a6) := by subst hW; go_cell
      have q1 : W.frozen? ⟨w.heap.size, 0, none⟩ = false := by subst hW; go_cell
      have q2 : W.frozen? ⟨w.heap.size, 1, none⟩ = false := by subst hW; go_cell
      have q3 : W.frozen? ⟨w.heap.size, 2, none⟩ = false := by subst hW; go_cell
      have q4 : W.frozen? ⟨w.heap.size, 3, none⟩ = false := by subst hW; go_cell
      have q5 : W.frozen? ⟨w.heap.size, 4, none⟩ = false := by subst hW; go_cell
      have q6 : W.frozen? ⟨w.heap.size, 5, none⟩ = false := by subst hW; go_cell
      have n1 : W.cell? ⟨wr.heap.size, 0, none⟩ = some (.int .i64 b1) := by subst hW; go_cell
      have n2 : W.cell? ⟨wr.heap.size, 1, none⟩ = some (.int .i64 b2) := by subst hW; go_cell
      have n3 : W.cell? ⟨wr.heap.size, 2, none⟩ = some (.int .i64 b3) := by subst hW; go_cell
      have n4 : W.cell? ⟨wr.heap.size, 3, none⟩ = some (.int .i64 b4) := by subst hW; go_cell
      have n5 : W.cell? ⟨wr.heap.size, 4, none⟩ = some (.int .i64 b5) := by subst hW; go_cell
      have n6 : W.cell? ⟨wr.heap.size, 5, none⟩ = some (.int .i64 b6) := by subst hW; go_cell
      have hsW : wr.heap.size < W.heap.size := by subst hW; simp
      have HBW : Hid (Below w.heap.size w W) := hid (by have hb := HBel.out; rw [← hW]; exact (by repeat (first | (with_reducible exact Below.refl _ _) | (with_reducible refine Below.setCell ?_ (by first | (simp; done) | (simp; omega) | omega) _) | (with_reducible refine Below.alloc ?_ (by first | (simp; done) | (simp; omega) | omega) _) | (with_reducible refine Below.drew ?_) | (with_reducible refine below_drewN ?_ _) | (with_reducible exact hb) | (with_reducible refine Below.trans ?_ (Below.mono hb (by first | (simp; done) | (simp; omega) | omega))))))
      have hzW : ∀ b, b < wr.heap.size → W.heap[b]? = wr.heap[b]? := fun b hb => by rw [← hW]; exact Below.heap_alloc _ _ _ hb
      have HZW := hid hzW
      clear j1 j2 j3 j4 j5 j6 f1 f2 f3 f4 f5 f6 hzW k1 k2 k3 k4 k5 k6
      show wpStill _ _ (World.drew _) (fun a' => wpList _ _ _ _ a' (World.drew _)) _ _
      rw [hW]
      clear hW
      simp only [List.take_succ_cons, List.take_zero, List.drop_succ_cons, List.drop_zero]
      repeat still_step
      still_call (plus_still a1 b1 HA.out.1 HB.out.1 W)
      repeat still_step
      still_call (plus_still a2 b2 HA.out.2.1 HB.out.2.1 W)
      repeat still_step
      still_call (plus_still a3 b3 HA.out.2.2.1 HB.out.2.2.1 W)
      repeat still_step
      still_call (plus_still a4 b4 HA.out.2.2.2.1 HB.out.2.2.2.1 W)
      repeat still_step
      still_call (plus_still a5 b5 HA.out.2.2.2.2.1 HB.out.2.2.2.2.1 W)
      repeat still_step
      refine wpStill_nil ?_
      have zW : w.heap.size < W.heap.size := by omega
      go_wp2_with fail
      refine (HL.out _).mono ?_
      rintro e w2 ⟨rfl, rfl⟩
      go_wp2_with fail
      clear HL n1 n2 n3 n4 n5 n6
      have zV : w.heap.size + 1 < W.heap.size := by omega
      have hq : W.heap[w.heap.size + 1]? = wr.heap[w.heap.size + 1]? := HZW.out _ (by omega)
      obtain ⟨y1, y2, y3, y4, y5, y6⟩ := HZ.out
      obtain ⟨x1, x2, x3, x4, x5, x6⟩ := HZF.out
      rw [← World.cell?_of_block (a := ⟨w.heap.size + 1, 0, none⟩) hq] at y1
      rw [← World.cell?_of_block (a := ⟨w.heap.size + 1, 0 + 1, none⟩) hq] at y2
      rw [← World.cell?_of_block (a := ⟨w.heap.size + 1, 0 + 2, none⟩) hq] at y3
      rw [← World.cell?_of_block (a := ⟨w.heap.size + 1, 0 + 3, none⟩) hq] at y4
      rw [← World.cell?_of_block (a := ⟨w.heap.size + 1, 0 + 4, none⟩) hq] at y5
      rw [← World.cell?_of_block (a := ⟨w.heap.size + 1, 0 + 5, none⟩) hq] at y6
      rw [← World.frozen?_of_block (a := ⟨w.heap.size + 1, 0, none⟩) hq] at x1
      rw [← World.frozen?_of_block (a := ⟨w.heap.size + 1, 0 + 1, none⟩) hq] at x2
      rw [← World.frozen?_of_block (a := ⟨w.heap.size + 1, 0 + 2, none⟩) hq] at x3
      rw [← World.frozen?_of_block (a := ⟨w.heap.size + 1, 0 + 3, none⟩) hq] at x4
      rw [← World.frozen?_of_block (a := ⟨w.heap.size + 1, 0 + 4, none⟩) hq] at x5
      rw [← World.frozen?_of_block (a := ⟨w.heap.size + 1, 0 + 5, none⟩) hq] at x6
      dsimp only [Nat.zero_add] at y1 y2 y3 y4 y5 y6 x1 x2 x3 x4 x5 x6
      simp only [Nat.zero_add] at y1 y2 y3 y4 y5 y6 x1 x2 x3 x4 x5 x6
      clear hq
      refine ⟨⟨1, _, rfl, .inr ⟨rfl, rfl⟩, ⟨?_, ?_, ?_, ?_, ?_, ?_⟩, ⟨by go_cell, by go_cell, by go_cell, by go_cell, by go_cell, by go_cell⟩, by have hb := HBW.out; exact (by repeat (first | (with_reducible exact Below.refl _ _) | (with_reducible refine Below.setCell ?_ (by first | (simp; done) | (simp; omega) | omega) _) | (with_reducible refine Below.alloc ?_ (by first | (simp; done) | (simp; omega) | omega) _) | (with_reducible refine Below.drew ?_) | (with_reducible refine below_drewN ?_ _) | (with_reducible exact hb) | (with_reducible refine Below.trans ?_ (Below.mono hb (by first | (simp; done) | (simp; omega) | omega))))), by simp; omega, ⟨by go_cell, by go_cell, by go_cell, by go_cell, by go_cell, by go_cell⟩, ⟨by go_cell, by go_cell, by go_cell, by go_cell, by go_cell, by go_cell⟩⟩, by simp [intOf]⟩
      · show _ = some (Value.int .i64 (plusM a1 b1)); go_cell
      · show _ = some (Value.int .i64 (plusM a2 b2)); go_cell
      · show _ = some (Value.int .i64 (plusM a3 b3)); go_cell
      · show _ = some (Value.int .i64 (plusM a4 b4)); go_cell
      · show _ = some (Value.int .i64 (plusM a5 b5)); go_cell
      · show _ = some (Value.int .i64 (leastM ⟨a1, a2, a3, a4, a5, a6⟩ ⟨b1, b2, b3, b4, b5, b6⟩)); go_cell
    · obtain ⟨j1, j2, j3, j4, j5, j6⟩ := h6
      obtain ⟨y1, y2, y3, y4, y5, y6⟩ := hz
      obtain ⟨x1, x2, x3, x4, x5, x6⟩ := hzf
      simp only [Nat.zero_add] at j1 j2 j3 j4 j5 j6 y1 y2 y3 y4 y5 y6 x1 x2 x3 x4 x5 x6
      obtain ⟨c, hc⟩ : ∃ c, joinM ⟨a1, a2, a3, a4, a5, a6⟩ ⟨b1, b2, b3, b4, b5, b6⟩ = c := ⟨_, rfl⟩
      rw [hc] at j1 j2 j3 j4 j5 j6
      have HCq := hid hc
      clear hc
      clear hbel hfr HZ HZF HL
      go_wp2
      refine bodyPost_ret (v := cv c) (by simp [results, Try.results73, go_sem, World.cell?_setCell_same', y1, y2, y3, y4, y5, y6, cv]) rfl ⟨by rw [HCq.out], ?_⟩
      have hb := HBel.out
      exact (by repeat (first | (with_reducible exact Below.refl _ _) | (with_reducible refine Below.setCell ?_ (by first | (simp; done) | (simp; omega) | omega) _) | (with_reducible refine Below.alloc ?_ (by first | (simp; done) | (simp; omega) | omega) _) | (with_reducible refine Below.drew ?_) | (with_reducible refine below_drewN ?_ _) | (with_reducible exact hb) | (with_reducible refine Below.trans ?_ (Below.mono hb (by first | (simp; done) | (simp; omega) | omega)))))

end Go.Proofs.Ytnloedhcginopaa.WinB
