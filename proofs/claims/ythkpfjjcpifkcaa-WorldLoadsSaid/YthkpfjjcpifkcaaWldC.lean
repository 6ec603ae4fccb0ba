/- Contracts of Add and NewLoad of one sample. -/
import Derived.Test.YthkpfjjcpifkcaaWldB
namespace Go.Proofs.Ythkpfjjcpifkcaa.WldC
open Go.ChangeShapes Go.WideShapes Go.ChangeAt Go.RowKit Base ClkM Clk WldB

theorem new_at (W : World) (cs : Array Value) (t : TypeId) (n i : Nat) (v : Value) (hn : n = W.heap.size) (hv : cs[i]? = some v) : (W.alloc (.cells cs t)).drew.cell? ⟨n, i, none⟩ = some v := by
  subst hn
  exact (World.cell?_alloc_new _ cs t i).trans hv

set_option maxRecDepth 20000 in
set_option maxHeartbeats 1000000 in
theorem add_one (b p q : Nat) (x y z : Int) (w : World) (h : w.cell? ⟨b, 0, none⟩ = some (.slice none 0 0)) (hf : w.frozen? ⟨b, 0, none⟩ = false) (h1 : w.cell? ⟨p, 0, none⟩ = some (.int .i64 x)) (h2 : w.cell? ⟨p, 1, none⟩ = some (.int .i64 y)) (h3 : w.cell? ⟨p, 2, none⟩ = some (.int .i64 z)) (hb : b < w.heap.size) (hp : p < w.heap.size) (hx : IsT x) (hy : 0 ≤ y ∧ y ≤ 1099511627776) (hz : 0 ≤ z ∧ z ≤ 1099511627776) (B : Nat) (hB : B ≤ b) :
    Calls Try.prog 18 #[.pointer (some ⟨b, 0, none⟩), .slice (some ⟨p, 0, none⟩) 1 q] w fun e w' => e = .returned (.int .i64 0) ∧ Below B w w' ∧ One b x y z w' := by
  have HX := hid hx
  have hx0 := hx.1
  have HY := hid hy
  have HZ := hid hz
  clear hx hy hz
  go_enter Try.func18, Try.ntmps18
  go_wp2_with fail
  refine (last_none b _ (by go_cell)).mono ?_
  rintro e w1 ⟨rfl, rfl⟩
  go_wp2_with fail
  go_loopw [5, 14] (fun l k wr => (k = .int .i64 0 ∧ l = .int .i64 0 ∧ w = wr) ∨ (k = .int .i64 1 ∧ Below w.heap.size w wr ∧ b < wr.heap.size ∧ p < wr.heap.size)) (fun _ k _ => 1 - (intOf k).toNat)
  case atStart => exact Or.inl ⟨rfl, rfl, rfl⟩
  case round =>
    rcases hrel with ⟨rfl, rfl, rfl⟩ | ⟨rfl, hbel, hb1, hp1⟩
    · go_wp2_with fail
      refine (mayBe_yes x y z HX.out HY.out HZ.out _).mono ?_
      rintro e w1 ⟨rfl, hq⟩
      have HQ := hid hq
      obtain ⟨hc1, hf1⟩ := bcell hq
      clear hq
      go_wp2_with fail
      have hs := HQ.out.size
      simp only [World.size_alloc] at hs
      refine ⟨Or.inr ⟨rfl, (((Below.refl w.heap.size w).alloc (Nat.le_refl _) _).trans (HQ.out.mono (by simp))), by omega, by omega⟩, by simp [intOf]⟩
    · obtain ⟨hc1, hf1⟩ := bcell hbel
      have HQ := hid hbel
      clear hbel
      go_wp2_with fail
      go_ret
      generalize (Question.appendCap 1 0 64).cut (wr.tape wr.drawn (Question.appendCap 1 0 64)) = CAP
      refine ⟨rfl, ?_, ⟨wr.heap.size, CAP, ?_, ?_, ?_, ?_⟩⟩
      · have hs := HQ.out.size
        exact Below.drew (Below.alloc (Below.setCell (HQ.out.mono (by omega)) (by simp; omega) _) (by simp; omega) _)
      · go_cell
      · exact new_at _ _ _ _ _ _ (by first | rfl | (simp; done) | (trace_state; fail)) (by first | (rw [Array.getElem?_append_left (by simp)]; rfl) | (trace_state; fail))
      · exact new_at _ _ _ _ _ _ (by first | rfl | (simp; done) | (trace_state; fail)) (by first | (rw [Array.getElem?_append_left (by simp)]; rfl) | (trace_state; fail))
      · exact new_at _ _ _ _ _ _ (by first | rfl | (simp; done) | (trace_state; fail)) (by first | (rw [Array.getElem?_append_left (by simp)]; rfl) | (trace_state; fail))

set_option maxRecDepth 20000 in
set_option maxHeartbeats 1000000 in
theorem newLoad_one (p q : Nat) (x y z : Int) (w : World) (h1 : w.cell? ⟨p, 0, none⟩ = some (.int .i64 x)) (h2 : w.cell? ⟨p, 1, none⟩ = some (.int .i64 y)) (h3 : w.cell? ⟨p, 2, none⟩ = some (.int .i64 z)) (hp : p < w.heap.size) (hx : IsT x) (hy : 0 ≤ y ∧ y ≤ 1099511627776) (hz : 0 ≤ z ∧ z ≤ 1099511627776) :
    Calls Try.prog 15 #[.slice (some ⟨p, 0, none⟩) 1 q] w fun e w' => e = .returned (.tuple #[.pointer (some ⟨w.heap.size, 0, none⟩), .int .i64 0]) ∧ Below w.heap.size w w' ∧ One w.heap.size x y z w' := by
  have HX := hid hx
  have HY := hid hy
  have HZ := hid hz
  clear hx hy hz
  go_enter Try.func15, Try.ntmps15
  go_wp2_with fail
  refine (add_one w.heap.size p q x y z _ (by go_cell) (by go_cell) (by go_cell) (by go_cell) (by go_cell) (by simp) (by simp; omega) HX.out HY.out HZ.out w.heap.size (Nat.le_refl _)).mono ?_
  rintro e w1 ⟨rfl, hb, ho⟩
  have HB := hid hb
  have HO := hid ho
  clear hb ho
  go_wp2_with fail
  go_ret2
  exact ⟨rfl, (by repeat (first | (with_reducible exact Below.refl _ _) | (with_reducible refine Below.setCell ?_ (by first | (simp; done) | (simp; omega) | omega) _) | (with_reducible refine Below.alloc ?_ (by first | (simp; done) | (simp; omega) | omega) _) | (with_reducible refine Below.drew ?_) | (with_reducible refine below_drewN ?_ _) | (with_reducible exact HB.out) | (with_reducible refine Below.trans ?_ (Below.mono HB.out (by first | (simp; done) | (simp; omega) | omega))))), HO.out⟩

end Go.Proofs.Ythkpfjjcpifkcaa.WldC
