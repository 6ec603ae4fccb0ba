/- The document's bounded map: Fork; and where there is none. -/
import Derived.Test.YtkdldcigooiljaaLruT
namespace Go.Proofs.Ytkdldcigooiljaa.RefQ
open Go.ChangeShapes Go.WideShapes Go.ChangeAt Go.RowKit Base Wri Str LruA RefL RefM RefN RefO RefP
open LruQ (app builtin_app)

variable {w0 w w' : World} {rb most : Nat} {v : Value} {ps : List (ByteArray × Int)}

set_option maxRecDepth 20000 in
set_option maxHeartbeats 1000000 in
theorem rfork_none (c0 : w.cell? ⟨rb, 0, none⟩ = some (.int .i64 most)) (c1 : w.cell? ⟨rb, 1, none⟩ = some (.slice none 0 0)) (hlt : rb < w.heap.size) :
    Calls Try.prog 26 #[ptr rb] w fun e w' => e = .returned (ptr w.heap.size) ∧ (w.alloc (.cells #[.int .i64 most, .slice none 0 0] 121)).drew = w' := by
  unfold ptr
  go_enter Try.func26, Try.ntmps26
  go_wp2
  go_region
  all_goals
    go_wp2
    go_ret
    exact ⟨rfl, rfl⟩

theorem owns_base {w : World} {B B' n size : Nat} {e : TypeId} {v : Value} {xs : List Value} (h : w.ownsRow B e size v n xs) (hb : B' ≤ B) : w.ownsRow B' e size v n xs := by
  refine ⟨h.1, ?_⟩
  rcases h.2 with hn | ⟨g, cap, cur, rfl, hg, rest⟩
  · exact .inl hn
  · exact .inr ⟨g, cap, cur, rfl, Nat.le_trans hb hg, rest⟩

attribute [local go_sem ↓ high] builtin_app

set_option maxRecDepth 20000 in
set_option maxHeartbeats 1000000 in
theorem rfork_some (va va6 : Option Addr) (n vc vc6 : Nat) (w6 : World) (c0 : w.cell? ⟨rb, 0, none⟩ = some (.int .i64 most)) (c1 : w.cell? ⟨rb, 1, none⟩ = some (.slice va n vc)) (hlt : rb < w.heap.size)
    (hrun : (app #[119, 119] 119 #[.slice none 0 0, .slice va n vc]).run Try.prog (w.alloc (.cells #[.int .i64 most, .slice none 0 0] 121)).drew = .ok (.slice va6 n vc6) w6)
    (c6 : w6.cell? ⟨w.heap.size, 1, none⟩ = some (.slice none 0 0)) (f6 : w6.frozen? ⟨w.heap.size, 1, none⟩ = false) :
    Calls Try.prog 26 #[ptr rb] w fun e w' => e = .returned (ptr w.heap.size) ∧ w6.setCell ⟨w.heap.size, 1, none⟩ (.slice va6 n vc6) = w' := by
  unfold ptr
  go_enter Try.func26, Try.ntmps26
  go_wp2
  go_region
  all_goals
    go_wp2
    go_ret
    exact ⟨rfl, rfl⟩

theorem rfork_any (h : RM w0 w rb most v ps) (hl : ps.length ≤ 4096) (hb : w0.heap.size ≤ w.heap.size) :
    Calls Try.prog 26 #[ptr rb] w fun e w' => e = .returned (ptr w.heap.size) ∧ (∃ v', RM w0 w' w.heap.size most v' ps ∧ ∀ g, v'.ownBlock = some g → w.heap.size ≤ g) ∧ Below w.heap.size w w' := by
  obtain ⟨k0, k1, -⟩ := h.cells
  have hlt := h.lt
  have hn0 : w.heap.size < (w.alloc (.cells #[.int .i64 most, .slice none 0 0] 121)).heap.size := by simp
  have hbw : Below w.heap.size w (w.alloc (.cells #[.int .i64 most, .slice none 0 0] 121)).drew := ((Below.refl _ w).alloc (Nat.le_refl _) _).drew
  have hnew : (w.alloc (.cells #[.int .i64 most, .slice none 0 0] 121)).drew.heap[w.heap.size]? = some (.cells #[.int .i64 most, .slice none 0 0] 121) := heap_alloc_new w _
  rcases h.row.2 with ⟨rfl, hz⟩ | ⟨g, c, cur, rfl, hg, hh, hc1, hc2, hc3, hcur⟩
  · obtain rfl : ps = [] := List.length_eq_zero_iff.1 hz
    refine (rfork_none k0 k1 hlt).mono ?_
    rintro e w' ⟨he, rfl⟩
    exact ⟨he, ⟨_, ⟨hnew, ⟨rfl, .inl ⟨rfl, rfl⟩⟩, (fun g e => by cases e), hb⟩, (fun g e => by cases e)⟩, hbw⟩
  · obtain ⟨i0, hi0, hz0, hz1, hz2⟩ := info_parts infoP
    have hgl : g < w.heap.size := (Array.getElem?_eq_some_iff.1 hh).1
    have hrow := h.row
    have hll := cellsP_len ps
    obtain ⟨v6, w6, hrun, hown, hgr, hnil, hat⟩ := run_append_own_at (P := Try.prog) (w.alloc (.cells #[.int .i64 most, .slice none 0 0] 121)).drew w.heap.size 119 119 127 i0 (.agg #[.string ⟨#[]⟩, .int .i64 0]) 2 24 Try.underlying119 hi0 hz0 hz1 hz2 rfl (by decide) (.slice none 0 0) 0 [] (World.ownsRow_nil _ _ _ _) ⟨g, 0, none⟩ ps.length c (cellsP ps) hll
      (fun j u hj => by
        have hjl : j < ps.length * 2 := by rw [← hll]; exact (List.getElem?_eq_some_iff.1 hj).1
        have e1 : (⟨g, 0, none⟩ : Addr).add j = ⟨g, j, none⟩ := by rw [Go.WideShapes.add_plain, Nat.zero_add]
        rw [e1]
        have e2 := (hbw.cell (p := ⟨g, j, none⟩) hgl)
        rw [e2]
        unfold World.cell?
        rw [hh]
        have : cur.toList.take (ps.length * 2) = cellsP ps := hcur
        rw [← this, List.getElem?_take] at hj
        rw [if_pos hjl] at hj
        simpa using hj) (cellsP_one ps) (by unfold maxLen; omega) (by omega) (by show w.heap.size ≤ (w.alloc _).heap.size; simp)
    rw [Nat.zero_add, List.nil_append] at hown
    have hgr2 : Below w.heap.size w w6 := hbw.grown hgr (by show w.heap.size ≤ (w.alloc _).heap.size; simp) (fun j e => by cases e)
    have hb6 : w6.heap[w.heap.size]? = some (.cells #[.int .i64 most, .slice none 0 0] 121) := (hgr.block w.heap.size hn0 (fun e => by cases e)).trans hnew
    have hne : ∀ g2, v6.ownBlock = some g2 → w.heap.size < g2 := fun g2 e => by
      rcases hat with e2 | e2
      · rw [e2] at e; cases e
      · rw [e2] at e
        have := Option.some.inj e
        rw [← this]
        exact hn0
    obtain ⟨va6, vc6, rfl⟩ := owns_shape hown
    have hs6 := hgr2.size
    refine (rfork_some (some ⟨g, 0, none⟩) va6 ps.length c vc6 w6 k0 k1 hlt hrun (by simp [World.cell?, hb6]) (by simp [World.frozen?, hb6])).mono ?_
    rintro e w' ⟨he, rfl⟩
    exact ⟨he, ⟨_, ⟨by have := heap_setCell_same _ w.heap.size 1 _ _ (.slice va6 ps.length vc6) hb6; simpa using this, owns_keep (owns_base hown hb) (fun g2 e => heap_setCell_other _ _ _ _ (by have := hne g2 e; show g2 ≠ w.heap.size; omega)), fun g2 e => by have := hne g2 e; omega, hb⟩, fun g2 e => Nat.le_of_lt (hne g2 e)⟩, hgr2.setCell (Nat.le_refl _) _⟩

end Go.Proofs.Ytkdldcigooiljaa.RefQ
