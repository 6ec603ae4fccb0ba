/- Contracts of the wide numbers: quotient, rounded; of Div, MulDiv, Share. -/
import Derived.Test.YtnloedhcginopaaNumC
import Derived.Deep.DeepCutAuto
import Derived.WalkSmall
import Derived.BigQuiet
import Derived.Deep.QuietTactic
namespace Go.Proofs.Ytnloedhcginopaa.NumD
open Go.ChangeShapes Go.WideShapes Go.ChangeAt Go.RowKit Base NumM NumA NumB NumC DivM DivA DivB

/-- what stands behind the first statement of 'quotient' -/
def Mid (w : World) (th tl byv : Int) (s4 s5 : Value) (wx : World) : Prop :=
  ∃ tb : Nat, s4 = .pointer (some ⟨tb, 0, none⟩) ∧ s5 = .int .u64 byv ∧ wx.cell? ⟨tb, 0, none⟩ = some (.int .u64 th) ∧ wx.cell? ⟨tb, 1, none⟩ = some (.int .u64 tl) ∧
    Below w.heap.size w wx ∧ w.heap.size + 1 < tb ∧ tb < wx.heap.size ∧ wx.cell? ⟨w.heap.size + 1, 0, none⟩ = some (.int .u64 0) ∧ wx.cell? ⟨w.heap.size + 1, 1, none⟩ = some (.int .u64 0) ∧
    wx.frozen? ⟨w.heap.size + 1, 0, none⟩ = false ∧ wx.frozen? ⟨w.heap.size + 1, 1, none⟩ = false

/-- what every step of the first statement keeps -/
structure Held (w : World) (h l c : Int) (x : World) : Prop where
  k1 : x.cell? ⟨w.heap.size, 0, none⟩ = some (.int .u64 h)
  k2 : x.cell? ⟨w.heap.size, 1, none⟩ = some (.int .u64 l)
  k3 : x.cell? ⟨w.heap.size, 2, none⟩ = some (.int .i64 c)
  k4 : x.cell? ⟨w.heap.size + 1, 0, none⟩ = some (.int .u64 0)
  k5 : x.cell? ⟨w.heap.size + 1, 1, none⟩ = some (.int .u64 0)
  k6 : x.frozen? ⟨w.heap.size + 1, 0, none⟩ = false
  k7 : x.frozen? ⟨w.heap.size + 1, 1, none⟩ = false
  k0 : w.heap.size < x.heap.size
  k8 : w.heap.size + 1 < x.heap.size
  k9 : Below w.heap.size w x

theorem Held.step {w x y : World} {h l c : Int} (H : Held w h l c x) (hb : Below x.heap.size x y) : Held w h l c y where
  k1 := (hb.cell (p := ⟨w.heap.size, 0, none⟩) (by have := H.k8; simp; omega)).trans H.k1
  k2 := (hb.cell (p := ⟨w.heap.size, 1, none⟩) (by have := H.k8; simp; omega)).trans H.k2
  k3 := (hb.cell (p := ⟨w.heap.size, 2, none⟩) (by have := H.k8; simp; omega)).trans H.k3
  k4 := (hb.cell (p := ⟨w.heap.size + 1, 0, none⟩) H.k8).trans H.k4
  k5 := (hb.cell (p := ⟨w.heap.size + 1, 1, none⟩) H.k8).trans H.k5
  k6 := (hb.frozen (p := ⟨w.heap.size + 1, 0, none⟩) H.k8).trans H.k6
  k7 := (hb.frozen (p := ⟨w.heap.size + 1, 1, none⟩) H.k8).trans H.k7
  k0 := Nat.lt_of_lt_of_le H.k0 hb.size
  k8 := Nat.lt_of_lt_of_le H.k8 hb.size
  k9 := H.k9.trans (hb.mono (by have := H.k8; omega))

theorem Held.drew {w x : World} {h l c : Int} (H : Held w h l c x) : Held w h l c x.drew := ⟨H.k1, H.k2, H.k3, H.k4, H.k5, H.k6, H.k7, H.k0, H.k8, H.k9.drew⟩

theorem Held.alloc {w x : World} {h l c : Int} (H : Held w h l c x) (cs : Array Value) (t : TypeId) : Held w h l c (x.alloc (.cells cs t)) :=
  H.step ⟨rfl, rfl, rfl, by simp, fun k hk => Below.heap_alloc _ _ _ hk⟩

/-- the block of 'top', when it is there -/
structure Top (w x : World) (tb : Nat) : Prop where
  t1 : x.cell? ⟨tb, 0, none⟩ = some (.int .u64 0)
  t2 : x.cell? ⟨tb, 1, none⟩ = some (.int .u64 0)
  t3 : x.frozen? ⟨tb, 0, none⟩ = false
  t4 : x.frozen? ⟨tb, 1, none⟩ = false
  t5 : tb < x.heap.size
  t6 : w.heap.size + 1 < tb

theorem Top.step {w x y : World} {tb : Nat} (H : Top w x tb) (hb : Below x.heap.size x y) : Top w y tb where
  t1 := (hb.cell (p := ⟨tb, 0, none⟩) H.t5).trans H.t1
  t2 := (hb.cell (p := ⟨tb, 1, none⟩) H.t5).trans H.t2
  t3 := (hb.frozen (p := ⟨tb, 0, none⟩) H.t5).trans H.t3
  t4 := (hb.frozen (p := ⟨tb, 1, none⟩) H.t5).trans H.t4
  t5 := Nat.lt_of_lt_of_le H.t5 hb.size
  t6 := H.t6

theorem Top.drew {w x : World} {tb : Nat} (H : Top w x tb) : Top w x.drew tb := ⟨H.t1, H.t2, H.t3, H.t4, H.t5, H.t6⟩

theorem Top.new {w x : World} {h l c : Int} (H : Held w h l c x) : Top w (x.alloc (.cells #[.int .u64 0, .int .u64 0] 123)) x.heap.size :=
  ⟨by go_simp, by go_simp, by go_simp, by go_simp, by simp, H.k8⟩

theorem mid_set {w x : World} {h l c : Int} {tb : Nat} (H : Held w h l c x) (T : Top w x tb) (th tl byv : Int) :
    Mid w th tl byv (.pointer (some ⟨tb, 0, none⟩)) (.int .u64 byv) ((x.setCell ⟨tb, 0, none⟩ (.int .u64 th)).setCell ⟨tb, 1, none⟩ (.int .u64 tl)) := by
  obtain ⟨t1, t2, t3, t4, t5, t6⟩ := T
  obtain ⟨k1, k2, k3, k4, k5, k6, k7, k0, k8, k9⟩ := H
  have hne : ¬ (w.heap.size + 1 = tb) := by omega
  refine ⟨tb, rfl, rfl, by go_simp, by go_simp, ?_, t6, by simpa [World.setCell] using t5, by go_simp, by go_simp, by go_simp, by go_simp⟩
  exact (k9.setCell (by simp; omega) _).setCell (by simp; omega) _

theorem mid_new {w x : World} {h l c : Int} (H : Held w h l c x) (th tl byv : Int) (t : TypeId) :
    Mid w th tl byv (.pointer (some ⟨x.heap.size, 0, none⟩)) (.int .u64 byv) (x.alloc (.cells #[.int .u64 th, .int .u64 tl] t)) := by
  obtain ⟨k1, k2, k3, k4, k5, k6, k7, k0, k8, k9⟩ := H
  refine ⟨x.heap.size, rfl, rfl, by go_simp, by go_simp, ?_, k8, by simp, by go_simp, by go_simp, by go_simp, by go_simp⟩
  exact k9.alloc (by omega) _

theorem fld (a b : Int) (w : World) : (Instr.field 123 (.agg #[.int .u64 a, .int .u64 b]) 1).run Try.prog w = .ok (.int .u64 b) w := by kernel_rfl

end Go.Proofs.Ytnloedhcginopaa.NumD
