/- The document's bounded map: Get of a key that is there. -/
import Derived.Test.YtkdldcigooiljaaRefN
import Derived.Deep.RegionHeldLaw
import Derived.Deep.RegionLaw
import Derived.Deep.AppendLies
namespace Go.Proofs.Ytkdldcigooiljaa.RefO
open Go.ChangeShapes Go.WideShapes Go.ChangeAt Go.RowKit Base Wri Str LruA RefL RefM RefN

variable {w0 w w' : World} {rb most : Nat} {v : Value} {ps : List (ByteArray × Int)}

set_option maxRecDepth 20000 in
set_option maxHeartbeats 2000000 in
theorem rget_yes {i : Nat} {s : ByteArray} {p : ByteArray × Int} (h : RM w0 w rb most v ps) (hp : placeI s ps = i) (hi : ps[i]? = some p) (hl : ps.length ≤ 4096) (hb : w0.heap.size ≤ w.heap.size) :
    Calls Try.prog 62 #[ptr rb, .string s] w fun e w' => e = .returned (.tuple #[.int .i64 p.2, .bool true]) ∧ RPost w0 w rb most v (ps.eraseIdx i ++ [p]) w' := by
  obtain ⟨i0, hi0, hz0, hz1, hz2⟩ := info_parts infoP
  have HP := hid (place_any s h (by omega))
  rw [hp] at HP
  have hil : i < ps.length := (List.getElem?_eq_some_iff.1 hi).1
  obtain ⟨g, c, rfl, hc1, _, hg, hcc⟩ := h.at_ (by omega)
  have g0 : w.cell? ⟨g, i * 2, none⟩ = some (.string p.1) := hcc _ _ (cellsP_get hi).1
  have g1 : w.cell? ⟨g, i * 2 + 1, none⟩ = some (.int .i64 p.2) := hcc _ _ (cellsP_get hi).2
  have k1 := h.cells.2.1
  have hlt := h.lt
  have hb1 : Below w.heap.size w (w.alloc (.cells #[.string p.1, .int .i64 p.2] 127)) := (Below.refl _ _).alloc (Nat.le_refl _) _
  have HO := hid (out_any i (h.below hb1) hil hl (Nat.le_trans hb hb1.size))
  have H := hid h
  have hlen : (ps.eraseIdx i).length ≤ 4095 := by rw [List.length_eraseIdx, if_pos hil]; omega
  obtain ⟨n, hn⟩ : ∃ n, (ps.eraseIdx i).length = n := ⟨_, rfl⟩
  rw [hn] at hlen
  have HN := hid hn
  clear h hp hcc hi hb1 hn
  unfold ptr at *
  go_enter Try.func62, Try.ntmps62
  go_wp2_with fail
  refine HP.out.mono ?_
  rintro e w1 ⟨rfl, rfl⟩
  go_wp2_with fail
  refine HO.out.mono ?_
  rintro e w2 ⟨rfl, ⟨v2, h2, hn2⟩, hw2⟩
  obtain ⟨va2, vc2, rfl⟩ := owns_shape h2.row
  have H2 := hid h2
  have HN2 := hid hn2
  have HW2 := hid hw2
  have hb2 : w0.heap.size ≤ w2.heap.size := by have := hw2.size; simp at this; omega
  have k12 := h2.cells.2.1
  have hlt2 := h2.lt
  have hpb := (hw2.block w.heap.size (by simp) (show ¬ (w.heap.size = rb) by omega)).trans (heap_alloc_new w (.cells #[.string p.1, .int .i64 p.2] 127))
  have p0 : w2.cell? ⟨w.heap.size, 0, none⟩ = some (.string p.1) := by simp [World.cell?, hpb]
  have p1 : w2.cell? ⟨w.heap.size, 1, none⟩ = some (.int .i64 p.2) := by simp [World.cell?, hpb]
  have hps : w.heap.size < w2.heap.size := (Array.getElem?_eq_some_iff.1 hpb).1
  have hownP : (w2.alloc (.cells #[.string p.1, .int .i64 p.2] 127)).drew.ownsRow w0.heap.size 127 2 (.slice va2 n vc2) n (cellsP (ps.eraseIdx i)) := by have := h2.row; rw [HN.out] at this; exact World.ownsRow.alloc this _
  rw [HN.out] at k12 H2 HN2
  have HPB := hid hpb
  clear h2 hn2 hw2 HP HO k1 g0 g1 hpb
  go_wp2_with fail
  go_region_law
    ((refine step_append_lies _ (by rfl) _ _ 119 (by rfl) w0.heap.size 127 i0 (.agg #[.string ⟨#[]⟩, .int .i64 0]) 2 24 Try.underlying119 hi0 hz0 hz1 hz2 rfl (by decide) (.slice va2 n vc2) n (cellsP (ps.eraseIdx i)) (by rfl) hownP ⟨w2.heap.size, 0, none⟩ 1 1 [.string p.1, .int .i64 p.2] (by rfl) rfl (fun j u hu => by
       rw [Go.WideShapes.add_plain, Nat.zero_add]
       have hnn := heap_alloc_new w2 (.cells #[.string p.1, .int .i64 p.2] 127)
       show World.cell? (w2.alloc _) _ = _
       unfold World.cell?
       rw [hnn]
       simpa using hu) (by intro u hu; simp at hu; rcases hu with rfl | rfl <;> rfl) (by decide) (by unfold maxLen; omega) (by omega) (by show w0.heap.size ≤ (w2.alloc _).heap.size; simp; omega) (w2.heap.size + 1) (by show (w2.alloc _).heap.size = _; simp) ?_; intro g6 c6 w6 hown6 hgr6 hat6 hlt6
      have hk6 : ∀ b, b < w2.heap.size → (Value.slice va2 n vc2).ownBlock ≠ some b → w6.heap[b]? = w2.heap[b]? := fun b h1 h2 => (hgr6.block b (by show b < (w2.alloc _).heap.size; simp; omega) (fun e => h2 e.symm)).trans (Below.heap_alloc w2 _ b h1)
      have hb6 := hk6 rb hlt2 (fun e => H2.out.far rb e rfl)
      have hp6 := hk6 w.heap.size hps (fun e => by have := HN2.out _ e; simp at this; omega)
      have q0 : w6.cell? ⟨rb, 1, none⟩ = some (.slice va2 n vc2) := (World.cell?_of_block (a := ⟨rb, 1, none⟩) hb6).trans k12
      have qf : w6.frozen? ⟨rb, 1, none⟩ = false := (World.frozen?_of_block (a := ⟨rb, 1, none⟩) hb6).trans H2.out.cells.2.2
      have q1 : w6.cell? ⟨w.heap.size, 0, none⟩ = some (.string p.1) := (World.cell?_of_block (a := ⟨w.heap.size, 0, none⟩) hp6).trans p0
      have q2 : w6.cell? ⟨w.heap.size, 1, none⟩ = some (.int .i64 p.2) := (World.cell?_of_block (a := ⟨w.heap.size, 1, none⟩) hp6).trans p1
      have HR6 := hid hown6
      have HB6 := hid (hb6.trans H2.out.blk)
      have HG6 := hid hgr6
      have HA6 := hid hat6
      have hl6 : rb < w6.heap.size := by have := hgr6.size; have e : (w2.alloc (.cells #[.string p.1, .int .i64 p.2] 127)).heap.size ≤ w6.heap.size := this; simp at e; omega
      clear hown6 hgr6 hat6 hlt6 hk6 hb6 hp6 hownP))
  all_goals
    go_wp2_with fail
    go_ret2
    have far6 : ∀ b, (Value.slice (some ⟨g6, 0, none⟩) (n + 1) c6).ownBlock = some b → b ≠ rb := fun b e => by
      have e2 : g6 = b := Option.some.inj e
      subst e2
      rcases HA6.out with e3 | e3
      · exact H2.out.far _ e3
      · omega
    have HRM := rm_push (ps := ps.eraseIdx i) HR6.out HB6.out far6 H2.out.lb HN.out
    have hsz : w.heap.size + 1 ≤ w2.heap.size := by omega
    have hwa : Wr (fun k => k = rb ∨ (Value.slice (some ⟨g, 0, none⟩) ps.length c).ownBlock = some k) w w2 := (Wr.ofBelow (((Below.refl w.heap.size w).alloc (Nat.le_refl _) (.cells #[.string p.1, .int .i64 p.2] 127)))).trans (HW2.out.mono (fun k e => .inl e))
    have hwb : Wr (fun k => (Value.slice va2 n vc2).ownBlock = some k) w2 w6 := (Wr.ofBelow ((((Below.refl w2.heap.size w2).alloc (Nat.le_refl _) (.cells #[.string p.1, .int .i64 p.2] 127))).drew)).trans (Wr.ofGrown HG6.out (fun k e => e))
    have hfr : ∀ b, (Value.slice va2 n vc2).ownBlock = some b → w.heap.size ≤ b := fun b e => by have := HN2.out b e; simp at this; omega
    refine ⟨rfl, ⟨_, HRM, fun b e => ?_⟩, (hwa.on hwb (fun k e => .inr (hfr k e))).trans (Wr.set ⟨rb, 1, none⟩ _ (.inl rfl))⟩
    have e2 : g6 = b := Option.some.inj e
    subst e2
    rcases HA6.out with e3 | e3
    · exact .inr (hfr _ e3)
    · exact .inr (by omega)

end Go.Proofs.Ytkdldcigooiljaa.RefO
