/- The document's Fork. -/
import Derived.Test.YtnpldfacnmhemaaSruF
namespace Go.Proofs.Ytnpldfacnmhemaa.SruG
open Go.ChangeShapes Go.WideShapes Go.ChangeAt Go.RowKit Go.Deep Base Wri Map WldA WldF WldG SkK SkA SkB SkC SkD SkE SkF SkG SkH SkI SkJ SkL SkM SkN SkP SkQ SkR SkS SkT SkU SruA SruB SruC SruD SruE SruF
set_option linter.unusedVariables false

variable {w w' : World} {p b B q last t : Nat} {go : Option Nat} {X : Shp} {ns rs : List Note} {qs : List Nat} {mpf : Nat → Nat} {rv : Value}

def RForkPost (w : World) (X : Shp) (q last : Nat) (rs : List Note) (e : Ending) (w' : World) : Prop :=
  ∃ b' rv', e = .returned (.pointer (some ⟨b', 0, none⟩)) ∧ IsRS w' b' w.heap.size X q last rv' rs ∧ w.heap.size ≤ b' ∧ (∀ g, rv'.ownBlock = some g → w.heap.size ≤ g) ∧ Below w.heap.size w w'

theorem rfork_fin {W : World} {v : Value} (h : IsRS w b B X q last rv rs) (e : W.heap[w.heap.size]? = some (.cells #[.int .i64 X.wd, .int .i64 X.bk, .int .i64 X.ro, .int .i64 X.co, .int .u64 X.seed, v, .int .i64 last] 49)) (hown : W.ownsRow w.heap.size 104 3 v rs.length (cellsR rs)) (hat : ∀ g, v.ownBlock = some g → w.heap.size < g) :
    IsRS W w.heap.size w.heap.size X q last v rs := by
  have c : ∀ (j : Nat) u, (#[Value.int .i64 X.wd, .int .i64 X.bk, .int .i64 X.ro, .int .i64 X.co, .int .u64 X.seed, v, .int .i64 last])[j]? = some u → W.cell? ⟨w.heap.size, j, none⟩ = some u := fun j u hu => by
    unfold World.cell?
    rw [e]
    exact hu
  have f : ∀ j, W.frozen? ⟨w.heap.size, j, none⟩ = false := fun j => by
    unfold World.frozen?
    rw [e]
    rfl
  exact ⟨h.ok, h.seed, c 0 _ rfl, c 1 _ rfl, c 2 _ rfl, c 3 _ rfl, c 4 _ rfl, c 5 _ rfl, c 6 _ rfl, f 5, f 6, hown, fun g hg => by have := hat g hg; omega, h.late, h.all, h.few⟩

theorem rfork_done {W : World} {v v0 : Value} (h : IsRS w b B X q last rv rs) (hs : W.heap[w.heap.size]? = some (.cells #[.int .i64 X.wd, .int .i64 X.bk, .int .i64 X.ro, .int .i64 X.co, .int .u64 X.seed, v0, .int .i64 last] 49)) (hown : W.ownsRow w.heap.size 104 3 v rs.length (cellsR rs)) (hat : ∀ g, v.ownBlock = some g → w.heap.size < g) :
    IsRS (W.setCell ⟨w.heap.size, 5, none⟩ v) w.heap.size w.heap.size X q last v rs := by
  have e := heap_setCell_same W w.heap.size 5 _ _ v hs
  refine rfork_fin h e ?_ hat
  exact owns_keep hown (fun g hg => (grown_set W ⟨w.heap.size, 5, none⟩ _).block g (hown.lt g hg).2 (fun e => by have := hat g hg; have := Option.some.inj e; dsimp only at this; omega))

theorem new_row (w : World) (o : Obj) : ((w.alloc o).alloc (.cells #[] 104)).ownsRow w.heap.size 104 3 (.slice (some ⟨w.heap.size + 1, 0, none⟩) 0 0) 0 [] := by
  refine ⟨rfl, .inr ⟨w.heap.size + 1, 0, #[], rfl, by omega, ?_, Nat.le_refl _, by decide, rfl, rfl⟩⟩
  have := heap_alloc_new (w.alloc o) (.cells #[] 104)
  rw [World.size_alloc] at this
  exact this

set_option maxRecDepth 20000 in
set_option maxHeartbeats 1000000 in
theorem rfork_any (h : IsRS w b B X q last rv rs) :
    Calls Try.prog 9 #[.pointer (some ⟨b, 0, none⟩)] w (RForkPost w X q last rs) := by
  obtain ⟨i0, hi, hz0, hz1, hz2⟩ := info_parts infoNote
  have HH := hid h
  have hb := h.lt
  have c0 := h.c0
  have c1 := h.c1
  have c2 := h.c2
  have c3 := h.c3
  have c4 := h.c4
  have c5 := h.c5
  have c6 := h.c6
  have hfew := h.few
  have hown0 := new_row w (.cells #[.int .i64 X.wd, .int .i64 X.bk, .int .i64 X.ro, .int .i64 X.co, .int .u64 X.seed, rv, .int .i64 last] 49)
  have hblo : Below w.heap.size w ((w.alloc (.cells #[.int .i64 X.wd, .int .i64 X.bk, .int .i64 X.ro, .int .i64 X.co, .int .u64 X.seed, rv, .int .i64 last] 49)).alloc (.cells #[] 104)) := ((Below.refl _ w).alloc (Nat.le_refl _) _).alloc (by simp) _
  have hsk : ((w.alloc (.cells #[.int .i64 X.wd, .int .i64 X.bk, .int .i64 X.ro, .int .i64 X.co, .int .u64 X.seed, rv, .int .i64 last] 49)).alloc (.cells #[] 104)).heap[w.heap.size]? = some (.cells #[.int .i64 X.wd, .int .i64 X.bk, .int .i64 X.ro, .int .i64 X.co, .int .u64 X.seed, rv, .int .i64 last] 49) := (Below.heap_alloc _ _ _ (by simp)).trans (heap_alloc_new w _)
  rcases h.own.2 with ⟨hrv, h0⟩ | ⟨g, cap, cur, hrv, hBg, hcu, hn, hcm, hcs, hct⟩
  · subst hrv
    have hrs : rs = [] := List.length_eq_zero_iff.1 h0
    have HO := hid hown0
    have HB := hid hblo
    have HSK := hid hsk
    clear h hown0 hblo hsk
    go_enter Try.func9, Try.ntmps9
    go_wp2_with (at_builtin; refine wpList_append_own_none rfl _ _ 47 rfl w.heap.size 104 i0 3 Try.underlying47 hi _ _ _ rfl HO.out rfl ?_)
    go_ret
    refine ⟨w.heap.size, .slice (some ⟨w.heap.size + 1, 0, none⟩) 0 0, rfl, rfork_fin HH.out ((Below.heap_alloc _ _ _ (by simp)).trans (heap_alloc_new w _)) (by rw [hrs]; exact new_row w _) (fun g hg => by have := Option.some.inj hg; dsimp only at this; omega), Nat.le_refl _, fun g hg => by have := Option.some.inj hg; dsimp only at this; omega, (by repeat (first | (with_reducible exact Below.refl _ _) | (with_reducible refine Below.setCell ?_ (by first | (simp; done) | (simp; omega) | omega) _) | (with_reducible refine Below.alloc ?_ (by first | (simp; done) | (simp; omega) | omega) _) | (with_reducible refine Below.drew ?_) | (with_reducible refine below_drewN ?_ _)))⟩
  · subst hrv
    have hnews : ∀ j u, (cellsR rs)[j]? = some u → ((w.alloc (.cells #[.int .i64 X.wd, .int .i64 X.bk, .int .i64 X.ro, .int .i64 X.co, .int .u64 X.seed, .slice (some ⟨g, 0, none⟩) rs.length cap, .int .i64 last] 49)).alloc (.cells #[] 104)).cell? ((⟨g, 0, none⟩ : Addr).add j) = some u := fun j u hu => by
      have hgl := (h.own.lt g rfl).2
      have hj : j < (cellsR rs).length := (List.getElem?_eq_some_iff.1 hu).1
      rw [cellsR_len] at hj
      rw [Go.WideShapes.add_plain, Nat.zero_add]
      exact (hblo.cell (p := ⟨g, j, none⟩) hgl).trans ((World.ownsRow.cellAt h.own j hj).trans hu)
    have HO := hid hown0
    have HB := hid hblo
    have HSK := hid hsk
    have HNW := hid hnews
    clear h hown0 hblo hsk hnews hcu hcs hct
    go_enter Try.func9, Try.ntmps9
    go_wp2_with (
      at_builtin
      refine wpList_append_own_at _ rfl _ _ 47 rfl w.heap.size 104 i0 (.agg #[.int .i64 0, .int .i64 0, .string ⟨#[]⟩]) 3 32 Try.underlying47 hi hz0 hz1 hz2 rfl (by decide) (.slice (some ⟨w.heap.size + 1, 0, none⟩) 0 0) 0 [] rfl HO.out ⟨g, 0, none⟩ rs.length cap (cellsR rs) rfl (cellsR_len rs) HNW.out (cellsR_one rs) (by unfold maxLen; omega) (by omega) (by simp; omega) ?_
      intro v6 w6 hown6 hgr6 hnil6 hat6
      obtain ⟨vb, vd, rfl⟩ := owns_shape hown6
      have hsk6 := (hgr6.block w.heap.size (by simp only [World.size_alloc]; omega) (fun e => by have := Option.some.inj e; dsimp only at this; omega)).trans HSK.out
      have q5 : w6.cell? ⟨w.heap.size, 5, none⟩ = some (.slice (some ⟨g, 0, none⟩) rs.length cap) := by unfold World.cell?; rw [hsk6]; rfl
      have qf : w6.frozen? ⟨w.heap.size, 5, none⟩ = false := by unfold World.frozen?; rw [hsk6]; rfl
      have HAT : Hid (∀ g', (Value.slice vb (0 + rs.length) vd).ownBlock = some g' → w.heap.size < g') := hid (fun g' hg' => by
        rcases hat6 with e | e
        · have := Option.some.inj (hg'.symm.trans e); dsimp only at this; omega
        · have := Option.some.inj (hg'.symm.trans e); simp at this; omega)
      have HB6 : Hid (Below w.heap.size w w6) := hid (HB.out.trans ((Wr.ofGrown hgr6 (R := fun k => k = w.heap.size + 1) (fun k e => (Option.some.inj e).symm)).below _ (by simp; omega) (fun k e => by rw [e]; omega)))
      have HO6 : Hid (w6.ownsRow w.heap.size 104 3 (.slice vb rs.length vd) rs.length (cellsR rs)) := hid (by have := hown6; rw [List.nil_append, Nat.zero_add] at this; exact this)
      rw [Nat.zero_add] at HAT
      have HS6 := hid hsk6
      clear hsk6 hat6 hnil6 hgr6 hown6 HSK HNW HO HB)
    go_ret
    exact ⟨w.heap.size, _, rfl, rfork_done HH.out HS6.out HO6.out HAT.out, Nat.le_refl _, fun g' hg' => Nat.le_of_lt (HAT.out g' hg'), HB6.out.setCell (Nat.le_refl _) _⟩

end Go.Proofs.Ytnpldfacnmhemaa.SruG
