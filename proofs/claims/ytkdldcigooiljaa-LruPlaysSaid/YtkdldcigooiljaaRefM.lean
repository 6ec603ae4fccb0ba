/- The document's bounded map: contracts of its calls. -/
import Derived.Test.YtkdldcigooiljaaRefL
namespace Go.Proofs.Ytkdldcigooiljaa.RefM
open Go.ChangeShapes Go.WideShapes Go.ChangeAt Go.RowKit Base Wri Str LruA RefL

variable {w0 w w' : World} {rb most : Nat} {v : Value} {ps : List (ByteArray × Int)}

/-- behind a call: the pairs in a row of the call's, or in the old one -/
def RPost (w0 w : World) (rb most : Nat) (v : Value) (ps' : List (ByteArray × Int)) (w' : World) : Prop :=
  (∃ v', RM w0 w' rb most v' ps' ∧ ∀ g, v'.ownBlock = some g → v.ownBlock = some g ∨ w.heap.size ≤ g) ∧ Wr (fun k => k = rb ∨ v.ownBlock = some k) w w'

theorem rm_push {va : Option Addr} {vc n : Nat} {v0 : Value} {w6 : World} {s : ByteArray} {x : Int} (ho : w6.ownsRow w0.heap.size 127 2 (.slice va (n + 1) vc) (n + 1) (cellsP ps ++ [.string s, .int .i64 x])) (hb : w6.heap[rb]? = some (.cells #[.int .i64 most, v0] 121))
    (ha : ∀ g, (Value.slice va (n + 1) vc).ownBlock = some g → g ≠ rb) (lb : w0.heap.size ≤ rb) (hn : ps.length = n) : RM w0 (w6.setCell ⟨rb, 1, none⟩ (.slice va (n + 1) vc)) rb most (.slice va (n + 1) vc) (ps ++ [(s, x)]) := by
  refine ⟨by have := heap_setCell_same _ rb 1 _ _ (.slice va (n + 1) vc) hb; simpa using this, ?_, ha, lb⟩
  have hl : (ps ++ [(s, x)]).length = n + 1 := by simp [hn]
  have hc : cellsP (ps ++ [(s, x)]) = cellsP ps ++ [.string s, .int .i64 x] := by rw [cellsP_app]; rfl
  rw [hl, hc]
  exact owns_keep ho (fun g e => heap_setCell_other _ _ _ _ (ha g e))


set_option maxRecDepth 20000 in
set_option maxHeartbeats 1000000 in
theorem rput_there {i : Nat} {s : ByteArray} (x : Int) (h : RM w0 w rb most v ps) (hp : placeI s ps = i) (hi : i < ps.length) (hl : ps.length ≤ 4096) (hb : w0.heap.size ≤ w.heap.size) :
    Calls Try.prog 61 #[ptr rb, .string s, .int .i64 x] w fun e w' => e = .returned (.tuple #[.string ⟨#[]⟩, .bool false, .int .i64 0]) ∧ RPost w0 w rb most v (ps.eraseIdx i ++ [(s, x)]) w' := by
  obtain ⟨i0, hi0, hz0, hz1, hz2⟩ := info_parts infoP
  have HP := hid (place_any s h (by omega))
  rw [hp] at HP
  have HO := hid (out_any i h hi hl hb)
  have H := hid h
  have hlen : (ps.eraseIdx i).length ≤ 4095 := by rw [List.length_eraseIdx, if_pos hi]; omega
  clear h hp
  unfold ptr at *
  go_enter Try.func61, Try.ntmps61
  go_wp2_with fail
  refine HP.out.mono ?_
  rintro e w1 ⟨rfl, rfl⟩
  go_wp2_with fail
  refine HO.out.mono ?_
  rintro e w2 ⟨rfl, ⟨v2, h2, hn2⟩, hw2⟩
  obtain ⟨va2, vc2, rfl⟩ := owns_shape h2.row
  obtain ⟨n, hn⟩ : ∃ n, (ps.eraseIdx i).length = n := ⟨_, rfl⟩
  have H2 := hid h2
  have HN2 := hid hn2
  have HW2 := hid hw2
  have hb2 : w0.heap.size ≤ w2.heap.size := Nat.le_trans hb hw2.size
  have k1 := h2.cells.2.1
  have hlt2 := h2.lt
  have hownP : (w2.alloc (.cells #[.string s, .int .i64 x] 127)).ownsRow w0.heap.size 127 2 (.slice va2 n vc2) n (cellsP (ps.eraseIdx i)) := by have := h2.row; rw [hn] at this; exact World.ownsRow.alloc this _
  rw [hn] at k1 H2 hlen HN2
  clear h2 hn2 hw2 HP HO
  go_wp2_with (at_builtin; (first
  | (refine wpList_append_own_at _ rfl _ _ 119 rfl w0.heap.size 127 i0 (.agg #[.string ⟨#[]⟩, .int .i64 0]) 2 24 Try.underlying119 hi0 hz0 hz1 hz2 rfl (by decide) (Value.slice va2 n vc2) _ _ rfl hownP ⟨w2.heap.size, 0, none⟩ 1 1 [.string s, .int .i64 x] rfl rfl (fun j u hu => by
       rw [Go.WideShapes.add_plain, Nat.zero_add]
       have hnn := heap_alloc_new w2 (.cells #[.string s, .int .i64 x] 127)
       unfold World.cell?
       rw [hnn]
       simpa using hu) (by intro u hu; simp at hu; rcases hu with rfl | rfl <;> rfl) (by unfold maxLen; omega) (by omega) (by simp; omega) ?_; intro v6 w6 hown6 hgr6 hnil6 hat6
     obtain ⟨va6, vc6, hv6⟩ := owns_shape hown6
     have hrbw : w6.heap[rb]? = w2.heap[rb]? := (hgr6.block rb (by have := H2.out.lt; simp; omega) (fun e => H2.out.far rb e.symm rfl)).trans (Below.heap_alloc w2 _ rb H2.out.lt)
     have h6b := hrbw.trans H2.out.blk
     have k16 : w6.cell? ⟨rb, 1, none⟩ = some (Value.slice va2 n vc2) := by simp [World.cell?, h6b]
     have kf6 : w6.frozen? ⟨rb, 1, none⟩ = false := by simp [World.frozen?, h6b]
     have hlt6 : rb < w6.heap.size := by have := hgr6.size; have := H2.out.lt; simp at *; omega
     have HO6 := hid hown6
     have HB6 := hid h6b
     have HA6 : Hid (∀ g, v6.ownBlock = some g → (Value.slice va2 n vc2).ownBlock = some g ∨ w2.heap.size ≤ g) := hid (fun g e => by
       rcases hat6 with e2 | e2
       · exact .inl (e2 ▸ e)
       · rw [e2] at e
         have := Option.some.inj e
         exact .inr (by simp at this; omega))
     have HW6 : Hid (Wr (fun k => k = rb ∨ (Value.slice va2 n vc2).ownBlock = some k) w2 w6) := hid ((Wr.ofBelow (R := fun k => k = rb ∨ (Value.slice va2 n vc2).ownBlock = some k) ((Below.refl w2.heap.size w2).alloc (Nat.le_refl _) (.cells #[.string s, .int .i64 x] 127))).trans (Wr.ofGrown hgr6 (fun k e => .inr e)))
     clear hgr6 hnil6 hat6 hown6 h6b hrbw hownP
     subst hv6)))
  go_ret3
  have HRM := rm_push (ps := ps.eraseIdx i) HO6.out HB6.out (fun g e => (HA6.out g e).elim (H2.out.far g) (fun e2 => by omega)) H2.out.lb hn
  exact ⟨rfl, ⟨_, HRM, fun g e => (HA6.out g e).elim (fun e2 => .inr (HN2.out g e2)) (fun e2 => .inr (Nat.le_trans HW2.out.size e2))⟩, ((HW2.out.mono (fun k e => .inl e)).on HW6.out (fun k e => e.elim (fun e => .inl (.inl e)) (fun e => .inr (HN2.out k e)))).trans (Wr.set ⟨rb, 1, none⟩ _ (.inl rfl))⟩

set_option maxRecDepth 20000 in
set_option maxHeartbeats 1000000 in
theorem rput_room {s : ByteArray} (x : Int) (h : RM w0 w rb most v ps) (hp : placeI s ps = -1) (hl : ps.length < most) (hm : most ≤ 4096) (hb : w0.heap.size ≤ w.heap.size) :
    Calls Try.prog 61 #[ptr rb, .string s, .int .i64 x] w fun e w' => e = .returned (.tuple #[.string ⟨#[]⟩, .bool false, .int .i64 0]) ∧ RPost w0 w rb most v (ps ++ [(s, x)]) w' := by
  obtain ⟨i0, hi0, hz0, hz1, hz2⟩ := info_parts infoP
  have HP := hid (place_any s h (by omega))
  rw [hp] at HP
  obtain ⟨va2, vc2, rfl⟩ := owns_shape h.row
  obtain ⟨n, hn⟩ : ∃ n, ps.length = n := ⟨_, rfl⟩
  obtain ⟨w2, hw2⟩ : ∃ w2, w.drew = w2 := ⟨_, rfl⟩
  have h2 : RM w0 w2 rb most (.slice va2 ps.length vc2) ps := by rw [← hw2]; exact h.keep fun _ _ => rfl
  have H2 := hid h2
  have hb2 : w0.heap.size ≤ w2.heap.size := by rw [← hw2]; exact hb
  have k1 := h2.cells.2.1
  have k01 := h.cells.2.1
  have k00 := h.cells.1
  have hlt1 := h.lt
  have hlt2 := h2.lt
  have hownP : (w2.alloc (.cells #[.string s, .int .i64 x] 127)).ownsRow w0.heap.size 127 2 (.slice va2 n vc2) n (cellsP ps) := by have := h2.row; rw [hn] at this; exact World.ownsRow.alloc this _
  rw [hn] at k1 k01 H2 hl
  have hlen : n ≤ 4095 := by omega
  have HW2 := hid hw2
  clear h h2 hp hw2
  unfold ptr at *
  go_enter Try.func61, Try.ntmps61
  go_wp2_with fail
  refine HP.out.mono ?_
  rintro e w1 ⟨rfl, rfl⟩
  clear HP
  go_wp2_with fail
  go_region
  rw [HW2.out]
  clear k01 k00 hlt1
  go_wp2_with (at_builtin; (first
  | (refine wpList_append_own_at _ rfl _ _ 119 rfl w0.heap.size 127 i0 (.agg #[.string ⟨#[]⟩, .int .i64 0]) 2 24 Try.underlying119 hi0 hz0 hz1 hz2 rfl (by decide) (Value.slice va2 n vc2) _ _ rfl hownP ⟨w2.heap.size, 0, none⟩ 1 1 [.string s, .int .i64 x] rfl rfl (fun j u hu => by
       rw [Go.WideShapes.add_plain, Nat.zero_add]
       have hnn := heap_alloc_new w2 (.cells #[.string s, .int .i64 x] 127)
       unfold World.cell?
       rw [hnn]
       simpa using hu) (by intro u hu; simp at hu; rcases hu with rfl | rfl <;> rfl) (by unfold maxLen; omega) (by omega) (by simp; omega) ?_; intro v6 w6 hown6 hgr6 hnil6 hat6
     obtain ⟨va6, vc6, hv6⟩ := owns_shape hown6
     have hrbw : w6.heap[rb]? = w2.heap[rb]? := (hgr6.block rb (by have := H2.out.lt; simp; omega) (fun e => H2.out.far rb e.symm rfl)).trans (Below.heap_alloc w2 _ rb H2.out.lt)
     have h6b := hrbw.trans H2.out.blk
     have k16 : w6.cell? ⟨rb, 1, none⟩ = some (Value.slice va2 n vc2) := by simp [World.cell?, h6b]
     have kf6 : w6.frozen? ⟨rb, 1, none⟩ = false := by simp [World.frozen?, h6b]
     have hlt6 : rb < w6.heap.size := by have := hgr6.size; have := H2.out.lt; simp at *; omega
     have HO6 := hid hown6
     have HB6 := hid h6b
     have HA6 : Hid (∀ g, v6.ownBlock = some g → (Value.slice va2 n vc2).ownBlock = some g ∨ w2.heap.size ≤ g) := hid (fun g e => by
       rcases hat6 with e2 | e2
       · exact .inl (e2 ▸ e)
       · rw [e2] at e
         have := Option.some.inj e
         exact .inr (by simp at this; omega))
     have HW6 : Hid (Wr (fun k => k = rb ∨ (Value.slice va2 n vc2).ownBlock = some k) w2 w6) := hid ((Wr.ofBelow (R := fun k => k = rb ∨ (Value.slice va2 n vc2).ownBlock = some k) ((Below.refl w2.heap.size w2).alloc (Nat.le_refl _) (.cells #[.string s, .int .i64 x] 127))).trans (Wr.ofGrown hgr6 (fun k e => .inr e)))
     clear hgr6 hnil6 hat6 hown6 h6b hrbw hownP
     subst hv6)))
  go_ret3
  have HRM := rm_push (ps := ps) HO6.out HB6.out (fun g e => (HA6.out g e).elim (H2.out.far g) (fun e2 => by omega)) H2.out.lb hn
  rw [hn]
  have hws : w2.heap.size = w.heap.size := by rw [← HW2.out]; rfl
  have HW1 : Wr (fun k => k = rb ∨ (Value.slice va2 n vc2).ownBlock = some k) w w2 := by rw [← HW2.out]; exact (Wr.refl _ _).drewN 1
  exact ⟨rfl, ⟨_, HRM, fun g e => (HA6.out g e).elim .inl (fun e2 => .inr (by omega))⟩, (HW1.trans HW6.out).trans (Wr.set ⟨rb, 1, none⟩ _ (.inl rfl))⟩

set_option maxRecDepth 20000 in
set_option maxHeartbeats 1000000 in
theorem rput_full {s : ByteArray} {p : ByteArray × Int} {r : List (ByteArray × Int)} (x : Int) (h : RM w0 w rb most v (p :: r)) (hp : placeI s (p :: r) = -1) (hl : (p :: r).length = most) (hm : most ≤ 4096) (hb : w0.heap.size ≤ w.heap.size) :
    Calls Try.prog 61 #[ptr rb, .string s, .int .i64 x] w fun e w' => e = .returned (.tuple #[.string p.1, .bool true, .int .i64 0]) ∧ RPost w0 w rb most v (r ++ [(s, x)]) w' := by
  obtain ⟨i0, hi0, hz0, hz1, hz2⟩ := info_parts infoP
  have HP := hid (place_any s h (by omega))
  rw [hp] at HP
  obtain ⟨g, c, rfl, hc1, _, hg, hcc⟩ := h.at_ (by simp)
  have g0 : w.cell? ⟨g, 0, none⟩ = some (.string p.1) := hcc 0 _ rfl
  have hd : RM w0 w.drew rb most (.slice (some ⟨g, 0, none⟩) (p :: r).length c) (p :: r) := h.keep fun _ _ => rfl
  have HO := hid (out_any 0 hd (by simp) (by omega) hb)
  obtain ⟨n, hn⟩ : ∃ n, r.length = n := ⟨_, rfl⟩
  have hmn : most = n + 1 := by rw [← hl, ← hn]; rfl
  subst hmn
  have k01 := h.cells.2.1
  have k00 := h.cells.1
  rw [hl] at k01 hc1
  rw [show ((0 : Nat) : Int) = 0 from rfl] at HO
  have hlt1 := h.lt
  have H := hid h
  have hgd : g < w.drew.heap.size := hg
  clear h hd hp hcc
  unfold ptr at *
  go_enter Try.func61, Try.ntmps61
  go_wp2_with fail
  refine HP.out.mono ?_
  rintro e w1 ⟨rfl, rfl⟩
  clear HP
  go_wp2_with fail
  go_region
  go_wp2_with fail
  refine HO.out.mono ?_
  rintro e w2 ⟨rfl, ⟨v2, h2, hn2⟩, hw2⟩
  have he0 : (p :: r).eraseIdx 0 = r := rfl
  rw [he0] at h2
  obtain ⟨va2, vc2, rfl⟩ := owns_shape h2.row
  have H2 := hid h2
  have HN2 := hid hn2
  have HW2 := hid hw2
  have hb2 : w0.heap.size ≤ w2.heap.size := Nat.le_trans hb hw2.size
  have k1 := h2.cells.2.1
  have hlt2 := h2.lt
  have hownP : (w2.alloc (.cells #[.string s, .int .i64 x] 127)).ownsRow w0.heap.size 127 2 (.slice va2 n vc2) n (cellsP r) := by have := h2.row; rw [hn] at this; exact World.ownsRow.alloc this _
  rw [hn] at k1 H2 HN2
  clear h2 hn2 hw2 HO k00 k01 g0
  go_wp2_with (at_builtin; (first
  | (refine wpList_append_own_at _ rfl _ _ 119 rfl w0.heap.size 127 i0 (.agg #[.string ⟨#[]⟩, .int .i64 0]) 2 24 Try.underlying119 hi0 hz0 hz1 hz2 rfl (by decide) (Value.slice va2 n vc2) _ _ rfl hownP ⟨w2.heap.size, 0, none⟩ 1 1 [.string s, .int .i64 x] rfl rfl (fun j u hu => by
       rw [Go.WideShapes.add_plain, Nat.zero_add]
       have hnn := heap_alloc_new w2 (.cells #[.string s, .int .i64 x] 127)
       unfold World.cell?
       rw [hnn]
       simpa using hu) (by intro u hu; simp at hu; rcases hu with rfl | rfl <;> rfl) (by unfold maxLen; omega) (by omega) (by simp; omega) ?_; intro v6 w6 hown6 hgr6 hnil6 hat6
     obtain ⟨va6, vc6, hv6⟩ := owns_shape hown6
     have hrbw : w6.heap[rb]? = w2.heap[rb]? := (hgr6.block rb (by have := H2.out.lt; simp; omega) (fun e => H2.out.far rb e.symm rfl)).trans (Below.heap_alloc w2 _ rb H2.out.lt)
     have h6b := hrbw.trans H2.out.blk
     have k16 : w6.cell? ⟨rb, 1, none⟩ = some (Value.slice va2 n vc2) := by simp [World.cell?, h6b]
     have kf6 : w6.frozen? ⟨rb, 1, none⟩ = false := by simp [World.frozen?, h6b]
     have hlt6 : rb < w6.heap.size := by have := hgr6.size; have := H2.out.lt; simp at *; omega
     have HO6 := hid hown6
     have HB6 := hid h6b
     have HA6 : Hid (∀ g, v6.ownBlock = some g → (Value.slice va2 n vc2).ownBlock = some g ∨ w2.heap.size ≤ g) := hid (fun g e => by
       rcases hat6 with e2 | e2
       · exact .inl (e2 ▸ e)
       · rw [e2] at e
         have := Option.some.inj e
         exact .inr (by simp at this; omega))
     have HW6 : Hid (Wr (fun k => k = rb ∨ (Value.slice va2 n vc2).ownBlock = some k) w2 w6) := hid ((Wr.ofBelow (R := fun k => k = rb ∨ (Value.slice va2 n vc2).ownBlock = some k) ((Below.refl w2.heap.size w2).alloc (Nat.le_refl _) (.cells #[.string s, .int .i64 x] 127))).trans (Wr.ofGrown hgr6 (fun k e => .inr e)))
     clear hgr6 hnil6 hat6 hown6 h6b hrbw hownP
     subst hv6)))
  go_ret3
  have HRM := rm_push (ps := r) HO6.out HB6.out (fun g e => (HA6.out g e).elim (H2.out.far g) (fun e2 => by omega)) H2.out.lb hn
  have hsz : w.heap.size ≤ w2.heap.size := HW2.out.size
  have HW1 : Wr (fun k => k = rb ∨ (Value.slice (some ⟨g, 0, none⟩) (p :: r).length c).ownBlock = some k) w w2 := ((Wr.refl _ w).drewN 1).trans (HW2.out.mono (fun k e => .inl e))
  exact ⟨rfl, ⟨_, HRM, fun b e => (HA6.out b e).elim (fun e2 => .inr (HN2.out b e2)) (fun e2 => .inr (by omega))⟩, (HW1.on HW6.out (fun k e => e.elim (fun e => .inl (.inl e)) (fun e => .inr (HN2.out k e)))).trans (Wr.set ⟨rb, 1, none⟩ _ (.inl rfl))⟩

end Go.Proofs.Ytkdldcigooiljaa.RefM
