/- Reads of a connection, once a network's call has it. -/
import Derived.Test.YtgkfiolgipgbkaaStmE
namespace Go.Proofs.Ytgkfiolgipgbkaa.StmF
open Go.ChangeShapes Go.WideShapes Go.ChangeAt Go.RowKit Base Wri FrmP FrmA StmA StmB StmC StmD StmE
set_option linter.unusedVariables false
set_option linter.unusedSimpArgs false

set_option maxRecDepth 20000 in
set_option maxHeartbeats 1000000 in
theorem read1_0 (k B t m p1 p2 p3 p4 : Nat) (own : Nat → Nat) (C : Con) (w : World) (h : Hid (IsCon w B own t k C)) (hB : B ≤ w.heap.size) (hs : (Con.at C 1).c.length ≤ 1099511627776) (c1 : w.cell? ⟨p1, 0, none⟩ = some (.int .i64 0)) (c2 : w.cell? ⟨p2, 0, none⟩ = some (.int .i64 m)) (c3 : w.cell? ⟨p3, 0, none⟩ = some (.slice none 0 0)) (f3 : w.frozen? ⟨p3, 0, none⟩ = false) (c4 : w.cell? ⟨p4, 0, none⟩ = some (.bool false)) (f4 : w.frozen? ⟨p4, 0, none⟩ = false) (o3 : own p3 = 4) (o4 : own p4 = 4) (h34 : p3 ≠ p4) (ht : 5 ≤ t) :
    Calls Try.prog 56 #[.pointer (some ⟨k, 0, none⟩), .pointer (some ⟨p1, 0, none⟩), .pointer (some ⟨p2, 0, none⟩), .pointer (some ⟨p3, 0, none⟩), .pointer (some ⟨p4, 0, none⟩)] w fun e w' => e = .returned (.int .i64 0) ∧
      ∃ own' v, IsCon w' B own' t k (Con.put C 1 (Wy.rd (Con.at C 1) m)) ∧ Stp w w' own own' (fun s => In5 t s ∨ s = 4) ∧ w'.cell? ⟨p3, 0, none⟩ = some v ∧ w'.cell? ⟨p4, 0, none⟩ = some (.bool (overB (Wy.rd (Con.at C 1) m))) ∧ Que w' w.heap.size v ((Con.at C 1).c.take m) ∧ ∀ g, v.ownBlock = some g → own' g = 4 := by
  obtain ⟨cs, a0, b0, a1, b1, h1, h2, h3, h4, h5⟩ := h.out
  have hkl := (Array.getElem?_eq_some_iff.1 h1).1
  have hp3 := World.block_lt_of_cell? _ _ c3
  have hp4 := World.block_lt_of_cell? _ _ c4
  have HT : Hid (Calls Try.prog 58 #[.pointer (some ⟨k, 4, none⟩), .int .i64 m] w.drew fun e w' => ∃ v va vc, v = .slice va (C.w1.c.take m).length vc ∧ e = .returned v ∧ Que w' w.heap.size v (C.w1.c.take m) ∧ ∃ cs' own' xu xc, w'.heap[k]? = some (.cells cs' 80 (0, 0)) ∧ WyAt w' B own' (t + 3) cs' 3 (Wy.rd C.w1 m) xu xc ∧ IsCon w' B own' t k (Con.put C 1 (Wy.rd C.w1 m)) ∧ Stp w w' own own' (In5 t) ∧ ∀ g, v.ownBlock = some g → own' g = 4) := hid (by
    have h4x : WyAt w.drew B own (t + 1) cs 0 C.w0 a0 b0 := h4.keep rfl rfl rfl (fun g _ _ => ⟨rfl, rfl⟩)
    have h5x : WyAt w.drew B own (t + 3) cs 3 C.w1 a1 b1 := h5.keep rfl rfl rfl (fun g _ _ => ⟨rfl, rfl⟩)
    refine (wy_take k 3 B (t + 3) m own cs _ a1 b1 w.drew h1 h5x (by omega) (by omega) hs).mono ?_
    rintro e w' ⟨v, rfl, hv, cs', own', xu, xc, hl, hx, hn⟩
    obtain ⟨va, vc, hve, -⟩ := hv.shape
    obtain ⟨g1, g2⟩ := con_step1 (w := w.drew) h2 h3 hkl h4x hl hx
    exact ⟨v, va, vc, hve, rfl, hv, cs', own', xu, xc, hl.blk, hx, g1, ⟨⟨g2.wr.os, g2.wr.tape, g2.wr.output, g2.wr.size, g2.wr.block⟩, g2.tag⟩, hn⟩)
  rw [show Con.at C 1 = C.w1 from rfl] at hs ⊢
  have HPP : Hid (p3 < w.heap.size ∧ own p3 = 4 ∧ p4 < w.heap.size ∧ own p4 = 4 ∧ 5 ≤ t ∧ p3 ≠ p4 ∧ own k = t ∧ k < w.heap.size) := hid ⟨hp3, o3, hp4, o4, ht, h34, h2, hkl⟩
  have HN3 : Hid (¬ In5 t (own p3)) := hid (fun e => by unfold In5 at e; omega)
  have HN4 : Hid (¬ In5 t (own p4)) := hid (fun e => by unfold In5 at e; omega)
  have C3 := hid c3
  have F3 := hid f3
  have C4 := hid c4
  have F4 := hid f4
  obtain ⟨L, hL⟩ : ∃ L, (C.w1.c.take m).length = L := ⟨_, rfl⟩
  rw [hL] at HT
  clear h1 h2 h3 h4 h5 hkl hp3 hp4 hs hB o3 o4 h34 ht c3 c4 f3 f4 hL
  go_enter Try.func56, Try.ntmps56
  go_wp2_with (go_at_call 57; refine (to_0 k _).mono ?_; rintro e w1 ⟨rfl, rfl⟩)
  go_region_with (go_at_call 58
                  refine HT.out.mono ?_
                  rintro e w2 ⟨v, va, vc, rfl, rfl, hv, cs', own', xu, xc, hbk, hx, hC, hS, hn⟩
                  have d3 : w2.cell? ⟨p3, 0, none⟩ = some (.slice none 0 0) := hS.cell C3.out HN3.out
                  have g3 : w2.frozen? ⟨p3, 0, none⟩ = false := hS.froz HPP.out.1 F3.out HN3.out
                  have HX := hid (And.intro hv (And.intro hbk (And.intro hx (And.intro hC (And.intro hS hn)))))
                  clear hv hbk hx hC hS hn)
  all_goals
    obtain ⟨hv, hbk, hx, hC, hS, hn⟩ := HX.out
    obtain ⟨q1, q2, q3, q4, q5, q6, q7, q8⟩ := HPP.out
    have hk3 : k ≠ p3 := fun e => by subst e; omega
    have hO3 : own' p3 = 4 := by rw [hS.tag p3 q1]; exact q2
    have hO4 : own' p4 = 4 := by rw [hS.tag p4 q3]; exact q4
    have e4 : w2.cell? ⟨p4, 0, none⟩ = some (.bool false) := hS.cell C4.out HN4.out
    have k4 : w2.frozen? ⟨p4, 0, none⟩ = false := hS.froz q3 F4.out HN4.out
    obtain ⟨W3, hW3⟩ : ∃ W3, w2.setCell ⟨p3, 0, none⟩ (.slice va L vc) = W3 := ⟨_, rfl⟩
    have hset : ∀ g, g ≠ p3 → W3.heap[g]? = w2.heap[g]? := fun g hg => by rw [← hW3]; exact Below.heap_setCell _ _ _ _ hg
    have e4' : W3.cell? ⟨p4, 0, none⟩ = some (.bool false) := (World.cell?_of_block (a := ⟨p4, 0, none⟩) (hset p4 (fun e => q6 e.symm))).trans e4
    have k4' : W3.frozen? ⟨p4, 0, none⟩ = false := (World.frozen?_of_block (a := ⟨p4, 0, none⟩) (hset p4 (fun e => q6 e.symm))).trans k4
    have e3' : W3.cell? ⟨p3, 0, none⟩ = some (.slice va L vc) := by rw [← hW3]; exact World.cell?_setCell_same _ _ _ d3
    have hxW : WyAt W3 B own' (t + 3) cs' 3 (Wy.rd C.w1 m) xu xc := hx.keep rfl rfl rfl (fun g hg e => ⟨hset g (fun e2 => by subst e2; omega), rfl⟩)
    have HO := hid (over_any k 3 B (t + 3) own' cs' 80 (Wy.rd C.w1 m) xu xc W3 ((hset k hk3).trans hbk) hxW)
    have HXW := hid (And.intro hset (And.intro e3' (And.intro hO3 hO4)))
    have HWE := hid hW3
    rw [hW3]
    clear hv hbk hx hC hS hn q1 q2 q3 q4 q5 q6 q7 q8 hk3 hO3 hO4 e4 k4 hset e3' hxW hW3 d3 g3 HT
    go_wp2_with fail
    refine HO.out.mono ?_
    rintro e w4 ⟨rfl, rfl⟩
    go_wp2_with fail
    go_ret
    obtain ⟨hv, hbk, hx, hC, hS, hn⟩ := HX.out
    obtain ⟨hset, e3', hO3, hO4⟩ := HXW.out
    have hS3 : Stp w1 w4 own own' (fun s => In5 t s ∨ s = 4) := by rw [← HWE.out]; exact (hS.mono (fun s e => .inl e)).trans (Stp.set (.inr hO3))
    have h43 : w4.cell? ⟨p3, 0, none⟩ = some (.slice va L vc) := e3'
    have hne : p3 ≠ p4 := fun e => by
      rw [← e] at e4'
      rw [h43] at e4'
      cases e4'
    refine ⟨rfl, own', .slice va L vc, hC.keep (fun g hg h1 h2 => ⟨(Below.heap_setCell _ _ _ _ (fun e => by have e : g = p4 := e; subst e; have := HPP.out; omega)).trans (hset g (fun e => by subst e; have := HPP.out; omega)), rfl⟩), hS3.trans (Stp.set (.inr hO4)), (World.cell?_setCell_other _ _ _ _ (fun e => by cases e; exact hne rfl)).trans h43, World.cell?_setCell_same _ _ _ e4', hv.keep (fun g e => (Below.heap_setCell _ _ _ _ (fun e2 => by have e2 : g = p4 := e2; have := (hv.lt g e).1; have := HPP.out; omega)).trans (hset g (fun e2 => by have := (hv.lt g e).1; have := HPP.out; omega))), hn⟩

set_option maxRecDepth 20000 in
set_option maxHeartbeats 1000000 in
theorem read1_1 (k B t m p1 p2 p3 p4 : Nat) (own : Nat → Nat) (C : Con) (w : World) (h : Hid (IsCon w B own t k C)) (hB : B ≤ w.heap.size) (hs : (Con.at C 0).c.length ≤ 1099511627776) (c1 : w.cell? ⟨p1, 0, none⟩ = some (.int .i64 1)) (c2 : w.cell? ⟨p2, 0, none⟩ = some (.int .i64 m)) (c3 : w.cell? ⟨p3, 0, none⟩ = some (.slice none 0 0)) (f3 : w.frozen? ⟨p3, 0, none⟩ = false) (c4 : w.cell? ⟨p4, 0, none⟩ = some (.bool false)) (f4 : w.frozen? ⟨p4, 0, none⟩ = false) (o3 : own p3 = 4) (o4 : own p4 = 4) (h34 : p3 ≠ p4) (ht : 5 ≤ t) :
    Calls Try.prog 56 #[.pointer (some ⟨k, 0, none⟩), .pointer (some ⟨p1, 0, none⟩), .pointer (some ⟨p2, 0, none⟩), .pointer (some ⟨p3, 0, none⟩), .pointer (some ⟨p4, 0, none⟩)] w fun e w' => e = .returned (.int .i64 0) ∧
      ∃ own' v, IsCon w' B own' t k (Con.put C 0 (Wy.rd (Con.at C 0) m)) ∧ Stp w w' own own' (fun s => In5 t s ∨ s = 4) ∧ w'.cell? ⟨p3, 0, none⟩ = some v ∧ w'.cell? ⟨p4, 0, none⟩ = some (.bool (overB (Wy.rd (Con.at C 0) m))) ∧ Que w' w.heap.size v ((Con.at C 0).c.take m) ∧ ∀ g, v.ownBlock = some g → own' g = 4 := by
  obtain ⟨cs, a0, b0, a1, b1, h1, h2, h3, h4, h5⟩ := h.out
  have hkl := (Array.getElem?_eq_some_iff.1 h1).1
  have hp3 := World.block_lt_of_cell? _ _ c3
  have hp4 := World.block_lt_of_cell? _ _ c4
  have HT : Hid (Calls Try.prog 58 #[.pointer (some ⟨k, 1, none⟩), .int .i64 m] w.drew fun e w' => ∃ v va vc, v = .slice va (C.w0.c.take m).length vc ∧ e = .returned v ∧ Que w' w.heap.size v (C.w0.c.take m) ∧ ∃ cs' own' xu xc, w'.heap[k]? = some (.cells cs' 80 (0, 0)) ∧ WyAt w' B own' (t + 1) cs' 0 (Wy.rd C.w0 m) xu xc ∧ IsCon w' B own' t k (Con.put C 0 (Wy.rd C.w0 m)) ∧ Stp w w' own own' (In5 t) ∧ ∀ g, v.ownBlock = some g → own' g = 4) := hid (by
    have h4x : WyAt w.drew B own (t + 1) cs 0 C.w0 a0 b0 := h4.keep rfl rfl rfl (fun g _ _ => ⟨rfl, rfl⟩)
    have h5x : WyAt w.drew B own (t + 3) cs 3 C.w1 a1 b1 := h5.keep rfl rfl rfl (fun g _ _ => ⟨rfl, rfl⟩)
    refine (wy_take k 0 B (t + 1) m own cs _ a0 b0 w.drew h1 h4x (by omega) (by omega) hs).mono ?_
    rintro e w' ⟨v, rfl, hv, cs', own', xu, xc, hl, hx, hn⟩
    obtain ⟨va, vc, hve, -⟩ := hv.shape
    obtain ⟨g1, g2⟩ := con_step0 (w := w.drew) h2 h3 hkl h5x hl hx
    exact ⟨v, va, vc, hve, rfl, hv, cs', own', xu, xc, hl.blk, hx, g1, ⟨⟨g2.wr.os, g2.wr.tape, g2.wr.output, g2.wr.size, g2.wr.block⟩, g2.tag⟩, hn⟩)
  rw [show Con.at C 0 = C.w0 from rfl] at hs ⊢
  have HPP : Hid (p3 < w.heap.size ∧ own p3 = 4 ∧ p4 < w.heap.size ∧ own p4 = 4 ∧ 5 ≤ t ∧ p3 ≠ p4 ∧ own k = t ∧ k < w.heap.size) := hid ⟨hp3, o3, hp4, o4, ht, h34, h2, hkl⟩
  have HN3 : Hid (¬ In5 t (own p3)) := hid (fun e => by unfold In5 at e; omega)
  have HN4 : Hid (¬ In5 t (own p4)) := hid (fun e => by unfold In5 at e; omega)
  have C3 := hid c3
  have F3 := hid f3
  have C4 := hid c4
  have F4 := hid f4
  obtain ⟨L, hL⟩ : ∃ L, (C.w0.c.take m).length = L := ⟨_, rfl⟩
  rw [hL] at HT
  clear h1 h2 h3 h4 h5 hkl hp3 hp4 hs hB o3 o4 h34 ht c3 c4 f3 f4 hL
  go_enter Try.func56, Try.ntmps56
  go_wp2_with (go_at_call 57; refine (to_1 k _).mono ?_; rintro e w1 ⟨rfl, rfl⟩)
  go_region_with (go_at_call 58
                  refine HT.out.mono ?_
                  rintro e w2 ⟨v, va, vc, rfl, rfl, hv, cs', own', xu, xc, hbk, hx, hC, hS, hn⟩
                  have d3 : w2.cell? ⟨p3, 0, none⟩ = some (.slice none 0 0) := hS.cell C3.out HN3.out
                  have g3 : w2.frozen? ⟨p3, 0, none⟩ = false := hS.froz HPP.out.1 F3.out HN3.out
                  have HX := hid (And.intro hv (And.intro hbk (And.intro hx (And.intro hC (And.intro hS hn)))))
                  clear hv hbk hx hC hS hn)
  all_goals
    obtain ⟨hv, hbk, hx, hC, hS, hn⟩ := HX.out
    obtain ⟨q1, q2, q3, q4, q5, q6, q7, q8⟩ := HPP.out
    have hk3 : k ≠ p3 := fun e => by subst e; omega
    have hO3 : own' p3 = 4 := by rw [hS.tag p3 q1]; exact q2
    have hO4 : own' p4 = 4 := by rw [hS.tag p4 q3]; exact q4
    have e4 : w2.cell? ⟨p4, 0, none⟩ = some (.bool false) := hS.cell C4.out HN4.out
    have k4 : w2.frozen? ⟨p4, 0, none⟩ = false := hS.froz q3 F4.out HN4.out
    obtain ⟨W3, hW3⟩ : ∃ W3, w2.setCell ⟨p3, 0, none⟩ (.slice va L vc) = W3 := ⟨_, rfl⟩
    have hset : ∀ g, g ≠ p3 → W3.heap[g]? = w2.heap[g]? := fun g hg => by rw [← hW3]; exact Below.heap_setCell _ _ _ _ hg
    have e4' : W3.cell? ⟨p4, 0, none⟩ = some (.bool false) := (World.cell?_of_block (a := ⟨p4, 0, none⟩) (hset p4 (fun e => q6 e.symm))).trans e4
    have k4' : W3.frozen? ⟨p4, 0, none⟩ = false := (World.frozen?_of_block (a := ⟨p4, 0, none⟩) (hset p4 (fun e => q6 e.symm))).trans k4
    have e3' : W3.cell? ⟨p3, 0, none⟩ = some (.slice va L vc) := by rw [← hW3]; exact World.cell?_setCell_same _ _ _ d3
    have hxW : WyAt W3 B own' (t + 1) cs' 0 (Wy.rd C.w0 m) xu xc := hx.keep rfl rfl rfl (fun g hg e => ⟨hset g (fun e2 => by subst e2; omega), rfl⟩)
    have HO := hid (over_any k 0 B (t + 1) own' cs' 80 (Wy.rd C.w0 m) xu xc W3 ((hset k hk3).trans hbk) hxW)
    have HXW := hid (And.intro hset (And.intro e3' (And.intro hO3 hO4)))
    have HWE := hid hW3
    rw [hW3]
    clear hv hbk hx hC hS hn q1 q2 q3 q4 q5 q6 q7 q8 hk3 hO3 hO4 e4 k4 hset e3' hxW hW3 d3 g3 HT
    go_wp2_with fail
    refine HO.out.mono ?_
    rintro e w4 ⟨rfl, rfl⟩
    go_wp2_with fail
    go_ret
    obtain ⟨hv, hbk, hx, hC, hS, hn⟩ := HX.out
    obtain ⟨hset, e3', hO3, hO4⟩ := HXW.out
    have hS3 : Stp w1 w4 own own' (fun s => In5 t s ∨ s = 4) := by rw [← HWE.out]; exact (hS.mono (fun s e => .inl e)).trans (Stp.set (.inr hO3))
    have h43 : w4.cell? ⟨p3, 0, none⟩ = some (.slice va L vc) := e3'
    have hne : p3 ≠ p4 := fun e => by
      rw [← e] at e4'
      rw [h43] at e4'
      cases e4'
    refine ⟨rfl, own', .slice va L vc, hC.keep (fun g hg h1 h2 => ⟨(Below.heap_setCell _ _ _ _ (fun e => by have e : g = p4 := e; subst e; have := HPP.out; omega)).trans (hset g (fun e => by subst e; have := HPP.out; omega)), rfl⟩), hS3.trans (Stp.set (.inr hO4)), (World.cell?_setCell_other _ _ _ _ (fun e => by cases e; exact hne rfl)).trans h43, World.cell?_setCell_same _ _ _ e4', hv.keep (fun g e => (Below.heap_setCell _ _ _ _ (fun e2 => by have e2 : g = p4 := e2; have := (hv.lt g e).1; have := HPP.out; omega)).trans (hset g (fun e2 => by have := (hv.lt g e).1; have := HPP.out; omega))), hn⟩

end Go.Proofs.Ytgkfiolgipgbkaa.StmF
