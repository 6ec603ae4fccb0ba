/- The rules of a kind: what stands for them. -/
import Derived.Test.YtcedbgoopolmdaaRulC
import Derived.Laws.EntriesVeiled
namespace Go.Proofs.Ytcedbgoopolmdaa.RulD
open Go.ChangeShapes Go.WideShapes Go.ChangeAt Go.RowKit Base RulA RulB

/-- what a kind's functions hold -/
structure Held (w : World) (b : Nat) (a : Option Addr) (n cap l i : Nat) : Prop where
  c0 : w.cell? ⟨b, 0, none⟩ = some (.slice a n cap)
  c1 : w.cell? ⟨b + 1, 0, none⟩ = some (.func (Fn.func l) #[] #[])
  c2 : w.cell? ⟨b + 2, 0, none⟩ = some (.func (Fn.func i) #[] #[])
  lt : b + 2 < w.heap.size

theorem Held.below {w w' : World} {b : Nat} {a : Option Addr} {n cap l i : Nat} (h : Held w b a n cap l i) (hb : Below w.heap.size w w') : Held w' b a n cap l i := by
  have := h.lt
  exact ⟨(hb.cell (p := ⟨b, 0, none⟩) (by show b < _; omega)).trans h.c0, (hb.cell (p := ⟨b + 1, 0, none⟩) (by show b + 1 < _; omega)).trans h.c1, (hb.cell (p := ⟨b + 2, 0, none⟩) h.lt).trans h.c2, Nat.lt_of_lt_of_le h.lt hb.size⟩

/-- a kind as a value -/
def kv (k : Nat) (n f1 f2 b : Nat) : Array Value := #[.int .u8 k, .int .i64 n, .func (Fn.func f1) #[] #[.pointer (some ⟨b + 1, 0, none⟩), .pointer (some ⟨b, 0, none⟩)], .func (Fn.func f2) #[] #[.pointer (some ⟨b + 2, 0, none⟩), .pointer (some ⟨b, 0, none⟩)]]

def KindPost (w : World) (k : Nat) (a : Option Addr) (n cap l i f1 f2 : Nat) (e : Ending) (w' : World) : Prop :=
  ∃ b, e = .returned (.agg #[.int .u8 k, .int .i64 n, .func (Fn.func f1) #[] #[.pointer (some ⟨b + 1, 0, none⟩), .pointer (some ⟨b, 0, none⟩)], .func (Fn.func f2) #[] #[.pointer (some ⟨b + 2, 0, none⟩), .pointer (some ⟨b, 0, none⟩)]]) ∧ w.heap.size ≤ b ∧ Held w' b a n cap l i ∧ Below w.heap.size w w'

set_option maxHeartbeats 1000000 in
theorem kindOfFlow (k : Nat) (a : Option Addr) (n cap l i : Nat) (w : World) :
    Calls Try.prog 84 #[.int .u8 k, .slice a n cap, .func (Fn.func l) #[] #[], .func (Fn.func i) #[] #[]] w (KindPost w k a n cap l i 109 110) := by
  go_enter Try.func84, Try.ntmps84
  go_wp2_with fail
  refine bodyPost_ret (v := .agg (kv k n 109 110 w.heap.size)) (by simp [results, Try.results84, go_sem, kv]) rfl ⟨w.heap.size, rfl, Nat.le_refl _, ⟨?_, ?_, ?_, ?_⟩, ?_⟩
  · go_cell
  · go_cell
  · go_cell
  · simp
  · exact (by repeat (first | (with_reducible exact Below.refl _ _) | (with_reducible refine Below.setCell ?_ (by first | (simp; done) | (simp; omega) | omega) _) | (with_reducible refine Below.alloc ?_ (by first | (simp; done) | (simp; omega) | omega) _) | (with_reducible refine Below.drew ?_) | (with_reducible refine below_drewN ?_ _)))

set_option maxHeartbeats 1000000 in
theorem kindOfBreak (k : Nat) (a : Option Addr) (n cap l i : Nat) (w : World) :
    Calls Try.prog 86 #[.int .u8 k, .slice a n cap, .func (Fn.func l) #[] #[], .func (Fn.func i) #[] #[]] w (KindPost w k a n cap l i 111 112) := by
  go_enter Try.func86, Try.ntmps86
  go_wp2_with fail
  refine bodyPost_ret (v := .agg (kv k n 111 112 w.heap.size)) (by simp [results, Try.results86, go_sem, kv]) rfl ⟨w.heap.size, rfl, Nat.le_refl _, ⟨?_, ?_, ?_, ?_⟩, ?_⟩
  · go_cell
  · go_cell
  · go_cell
  · simp
  · exact (by repeat (first | (with_reducible exact Below.refl _ _) | (with_reducible refine Below.setCell ?_ (by first | (simp; done) | (simp; omega) | omega) _) | (with_reducible refine Below.alloc ?_ (by first | (simp; done) | (simp; omega) | omega) _) | (with_reducible refine Below.drew ?_) | (with_reducible refine below_drewN ?_ _)))

set_option maxHeartbeats 1000000 in
theorem kindOfHot (k : Nat) (a : Option Addr) (n cap l i : Nat) (w : World) :
    Calls Try.prog 89 #[.int .u8 k, .slice a n cap, .func (Fn.func l) #[] #[], .func (Fn.func i) #[] #[]] w (KindPost w k a n cap l i 114 115) := by
  go_enter Try.func89, Try.ntmps89
  go_wp2_with fail
  refine bodyPost_ret (v := .agg (kv k n 114 115 w.heap.size)) (by simp [results, Try.results89, go_sem, kv]) rfl ⟨w.heap.size, rfl, Nat.le_refl _, ⟨?_, ?_, ?_, ?_⟩, ?_⟩
  · go_cell
  · go_cell
  · go_cell
  · simp
  · exact (by repeat (first | (with_reducible exact Below.refl _ _) | (with_reducible refine Below.setCell ?_ (by first | (simp; done) | (simp; omega) | omega) _) | (with_reducible refine Below.alloc ?_ (by first | (simp; done) | (simp; omega) | omega) _) | (with_reducible refine Below.drew ?_) | (with_reducible refine below_drewN ?_ _)))

set_option maxHeartbeats 1000000 in
theorem kindOfSystem (k : Nat) (a : Option Addr) (n cap l i : Nat) (w : World) :
    Calls Try.prog 92 #[.int .u8 k, .slice a n cap, .func (Fn.func l) #[] #[], .func (Fn.func i) #[] #[]] w (KindPost w k a n cap l i 117 118) := by
  go_enter Try.func92, Try.ntmps92
  go_wp2_with fail
  refine bodyPost_ret (v := .agg (kv k n 117 118 w.heap.size)) (by simp [results, Try.results92, go_sem, kv]) rfl ⟨w.heap.size, rfl, Nat.le_refl _, ⟨?_, ?_, ?_, ?_⟩, ?_⟩
  · go_cell
  · go_cell
  · go_cell
  · simp
  · exact (by repeat (first | (with_reducible exact Below.refl _ _) | (with_reducible refine Below.setCell ?_ (by first | (simp; done) | (simp; omega) | omega) _) | (with_reducible refine Below.alloc ?_ (by first | (simp; done) | (simp; omega) | omega) _) | (with_reducible refine Below.drew ?_) | (with_reducible refine below_drewN ?_ _)))

set_option maxHeartbeats 1000000 in
theorem kindOfAuthority (k : Nat) (a : Option Addr) (n cap l i : Nat) (w : World) :
    Calls Try.prog 95 #[.int .u8 k, .slice a n cap, .func (Fn.func l) #[] #[], .func (Fn.func i) #[] #[]] w (KindPost w k a n cap l i 120 121) := by
  go_enter Try.func95, Try.ntmps95
  go_wp2_with fail
  refine bodyPost_ret (v := .agg (kv k n 120 121 w.heap.size)) (by simp [results, Try.results95, go_sem, kv]) rfl ⟨w.heap.size, rfl, Nat.le_refl _, ⟨?_, ?_, ?_, ?_⟩, ?_⟩
  · go_cell
  · go_cell
  · go_cell
  · simp
  · exact (by repeat (first | (with_reducible exact Below.refl _ _) | (with_reducible refine Below.setCell ?_ (by first | (simp; done) | (simp; omega) | omega) _) | (with_reducible refine Below.alloc ?_ (by first | (simp; done) | (simp; omega) | omega) _) | (with_reducible refine Below.drew ?_) | (with_reducible refine below_drewN ?_ _)))

end Go.Proofs.Ytcedbgoopolmdaa.RulD
