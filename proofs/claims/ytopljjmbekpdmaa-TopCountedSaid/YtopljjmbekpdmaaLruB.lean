/- Contracts of a ring's parts: leave, push, first, a new chain. -/
import Derived.Test.YtopljjmbekpdmaaLruA
import Derived.Deep.RegionHeld3
import Derived.Deep.QuietTactic
import Derived.BigQuiet
import Derived.BigRegion
namespace Go.Proofs.Ytopljjmbekpdmaa.LruB
open Go.ChangeShapes Go.WideShapes Go.ChangeAt Go.RowKit Base Wri Map LruA

/-- an element's links may be written -/
structure Blk (w : World) (b : Nat) : Prop where
  c2 : ∃ u, w.cell? ⟨b, 2, none⟩ = some u
  c3 : ∃ u, w.cell? ⟨b, 3, none⟩ = some u
  fr : ∀ o, w.frozen? ⟨b, o, none⟩ = false

theorem Blk.of_block {w w' : World} {b : Nat} (h : Blk w b) (hb : w'.heap[b]? = w.heap[b]?) : Blk w' b :=
  ⟨h.c2.imp fun _ hu => (World.cell?_of_block (a := ⟨b, 2, none⟩) hb).trans hu, h.c3.imp fun _ hu => (World.cell?_of_block (a := ⟨b, 3, none⟩) hb).trans hu, fun o => (World.frozen?_of_block (a := ⟨b, o, none⟩) hb).trans (h.fr o)⟩

theorem cell_set {w : World} {a : Addr} {v : Value} {b i : Nat} (h : ∃ u, w.cell? ⟨b, i, none⟩ = some u) : ∃ u, (w.setCell a v).cell? ⟨b, i, none⟩ = some u := by
  obtain ⟨u, hu⟩ := h
  by_cases e : a = ⟨b, i, none⟩
  · subst e; exact ⟨v, World.cell?_setCell_same _ _ _ hu⟩
  · exact ⟨u, by rw [World.cell?_setCell_other _ _ _ _ (by first | exact e | exact fun h => e h.symm)]; exact hu⟩

theorem Blk.set {w : World} {b : Nat} (h : Blk w b) (a : Addr) (v : Value) : Blk (w.setCell a v) b :=
  ⟨cell_set h.c2, cell_set h.c3, fun o => by rw [World.frozen?_setCell]; exact h.fr o⟩
theorem Blk.lt {w : World} {b : Nat} (h : Blk w b) : b < w.heap.size := by
  obtain ⟨u, hu⟩ := h.c2
  exact World.block_lt_of_cell? _ _ hu

set_option maxRecDepth 20000 in
set_option maxHeartbeats 1000000 in
theorem leave_any (e pa pb : Nat) (w : World) (h1 : w.cell? ⟨e, 2, none⟩ = some (ptr pa)) (h2 : w.cell? ⟨e, 3, none⟩ = some (ptr pb)) (ha : Blk w pa) (hb : Blk w pb) :
    Calls Try.prog 96 #[ptr e] w fun r w' => r = .returned (.tuple #[]) ∧ ∃ m, ((w.setCell ⟨pa, 3, none⟩ (ptr pb)).setCell ⟨pb, 2, none⟩ (ptr pa)).drewN m = w' := by
  obtain ⟨u, hu⟩ := ha.c3
  obtain ⟨v, hv⟩ := hb.c2
  have f1 := ha.fr 3
  have f2 := hb.fr 2
  clear ha hb
  unfold ptr at *
  go_enter Try.func96, Try.ntmps96
  go_wp2_with fail
  go_region
  go_end0
  exact ⟨rfl, 1, rfl⟩

set_option maxRecDepth 20000 in
set_option maxHeartbeats 1000000 in
theorem push_any (kn la e : Nat) (w : World) (h1 : w.cell? ⟨kn, 2, none⟩ = some (ptr la)) (hk : Blk w kn) (hl : Blk w la) (he : Blk w e) (hek : e ≠ kn) (hel : e ≠ la) :
    Calls Try.prog 97 #[.agg #[ptr kn], ptr e] w fun r w' => r = .returned (.tuple #[]) ∧
      ∃ m, (((((w.setCell ⟨e, 2, none⟩ (ptr la)).setCell ⟨e, 3, none⟩ (ptr kn)).setCell ⟨la, 3, none⟩ (ptr e)).setCell ⟨kn, 2, none⟩ (ptr e)).alloc (.cells #[ptr kn] 135)).drewN m = w' := by
  have l1 := hk.lt
  have l2 := hl.lt
  have l3 := he.lt
  obtain ⟨u, hu⟩ := he.c2
  obtain ⟨v, hv⟩ := he.c3
  obtain ⟨u2, hu2⟩ := hl.c3
  have f1 := he.fr 2
  have f2 := he.fr 3
  have f3 := hl.fr 3
  have f4 := hk.fr 2
  clear hk hl he
  unfold ptr at *
  go_enter Try.func97, Try.ntmps97
  go_wp2_with fail
  go_region
  go_wp2_with fail
  go_region
  go_end0
  exact ⟨rfl, 2, rfl⟩

set_option maxHeartbeats 400000 in
theorem first_any (kn x : Nat) (w : World) (h1 : w.cell? ⟨kn, 3, none⟩ = some (ptr x)) :
    Calls Try.prog 79 #[.agg #[ptr kn]] w fun r w' => r = .returned (ptr x) ∧ w.alloc (.cells #[ptr kn] 135) = w' := by
  have l1 := World.block_lt_of_cell? _ _ h1
  unfold ptr at *
  go_enter Try.func79, Try.ntmps79
  go_wp2
  go_ret
  exact ⟨rfl, rfl⟩

set_option maxHeartbeats 400000 in
theorem newChain_any (w : World) :
    Calls Try.prog 95 #[] w fun r w' => r = .returned (.agg #[ptr (w.heap.size + 1)]) ∧ w'.heap[w.heap.size + 1]? = some (.cells #[.string ⟨#[]⟩, .int .i64 0, ptr (w.heap.size + 1), ptr (w.heap.size + 1)] 133) ∧ Below w.heap.size w w' ∧ w.heap.size + 1 < w'.heap.size := by
  unfold ptr at *
  go_enter Try.func95, Try.ntmps95
  go_wp2
  exact bodyPost_ret (v := .agg #[.pointer (some ⟨w.heap.size + 1, 0, none⟩)]) (by simp [results, Try.results95, go_sem]) rfl ⟨rfl, by have := heap_alloc_new (w.alloc (.cells #[.pointer (some ⟨w.heap.size + 1, 0, none⟩)] 135)) (.cells #[.string ⟨#[]⟩, .int .i64 0, .pointer (some ⟨w.heap.size + 1, 0, none⟩), .pointer (some ⟨w.heap.size + 1, 0, none⟩)] 133); simpa using this, ((Below.refl _ _).alloc (Nat.le_refl _) _).alloc (by simp) _, by simp⟩

end Go.Proofs.Ytopljjmbekpdmaa.LruB
