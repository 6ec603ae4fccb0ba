/- Writes, moves, reads and shuts of a network. -/
import Derived.Test.YtgkfiolgipgbkaaStmH
namespace Go.Proofs.Ytgkfiolgipgbkaa.StmI
open Go.ChangeShapes Go.WideShapes Go.ChangeAt Go.RowKit Base Wri Map FrmP FrmA StmA StmB StmC StmD StmE StmF VaiA StmG StmH
set_option linter.unusedVariables false
set_option linter.unusedSimpArgs false

/-- what is not the law's own -/
def NetR (s : Nat) : Prop := s < 10000000000000

theorem net_put {W W' : World} {B p nc mo mc j : Nat} {own own' : Nat → Nat} {S : Nst} {vd : Value} {K : Nat → Nat} {C C' : Con} (h : NetAt W B own p S nc mo mc vd K) (hj : S.co j = some C) (hc : IsCon W' B own' (5 + 5 * j) (K j) C') (hs : Stp W W' own own' (fun s => In5 (5 + 5 * j) s ∨ s = 4)) : NetAt W' B own' p (Nst.set S j C') nc mo mc vd K := by
  have hn : ∀ {g}, g < W.heap.size → own g < 4 → W'.heap[g]? = W.heap[g]? ∧ own' g = own g := fun {g} hg ho => hs.keep hg (fun e => by
    rcases e with e | e
    · unfold In5 at e; omega
    · omega)
  obtain ⟨p1, p2⟩ := hn h.pos (by rw [h.tp]; decide)
  obtain ⟨o1, o2⟩ := hn h.pm.lt (by rw [h.to_]; decide)
  obtain ⟨m1, m2⟩ := hn h.cm.lt (by rw [h.tm]; decide)
  have hd : ∀ g, vd.ownBlock = some g → W'.heap[g]? = W.heap[g]? ∧ own' g = own g := fun g e => hn (h.row.lt g e).2 (by rw [h.td g e]; decide)
  refine ⟨p1.trans h.blk, h.pm.of_block o1, owns_keep h.row (fun g e => (hd g e).1), ?_, fun i C2 hi => ?_, by rw [p2, h.tp], by rw [o2, h.to_], fun g e => by rw [(hd g e).2, h.td g e], by rw [m2, h.tm], h.len, h.low⟩
  · obtain ⟨F, hF, hF2⟩ := h.cm.of_block m1
    refine ⟨F, hF, fun i => ?_⟩
    rw [hF2 i]
    by_cases h0 : 0 ≤ i
    · rw [if_pos h0, if_pos h0]
      show _ = Option.map _ (if i.toNat = j then some C' else S.co i.toNat)
      by_cases e : i.toNat = j
      · rw [if_pos e, e, hj]; rfl
      · rw [if_neg e]
    · rw [if_neg h0, if_neg h0]
  · have hi : (if i = j then some C' else S.co i) = some C2 := hi
    by_cases e : i = j
    · subst e
      rw [if_pos rfl] at hi
      cases hi
      obtain ⟨j1, j2, -⟩ := h.con i C hj
      exact ⟨j1, j2, hc⟩
    · rw [if_neg e] at hi
      obtain ⟨j1, j2, j3⟩ := h.con i C2 hi
      refine ⟨j1, j2, j3.keep (fun g hg h1 h2 => hs.keep hg (fun e2 => ?_))⟩
      rcases e2 with e2 | e2
      · unfold In5 at e2; omega
      · omega

/-- boxes that a call lays -/
theorem net_alloc {w W : World} {B p nc mo mc : Nat} {own : Nat → Nat} {S : Nst} {vd : Value} {K : Nat → Nat} (h : NetAt w B own p S nc mo mc vd K) (hb : Below w.heap.size w W) : NetAt W B (later own w.heap.size 4) p S nc mo mc vd K ∧ Stp w W own (later own w.heap.size 4) NetR :=
  ⟨h.keep (fun g hg _ _ => ⟨hb.block g hg, later_old hg⟩), Wr.ofBelow hb, fun g hg => later_old hg⟩

theorem stp_all {w W w' : World} {own own1 own' : Nat → Nat} {t : Nat} (h : Stp w W own own1 NetR) (h2 : Stp W w' own1 own' (fun s => In5 t s ∨ s = 4)) (ht : t ≤ 6000000000000) : Stp w w' own own' NetR :=
  h.trans (h2.mono (fun s e => by
                                     unfold NetR
                                     rcases e with e | e
                                     · unfold In5 at e; omega
                                     · omega))

theorem alloc_cell (w : World) (v : Value) (T : TypeId) : (w.alloc (.cells #[v] T)).cell? ⟨w.heap.size, 0, none⟩ = some v := (Boxed.new w T v).cell
theorem alloc_froz (w : World) (v : Value) (T : TypeId) : (w.alloc (.cells #[v] T)).frozen? ⟨w.heap.size, 0, none⟩ = false := (Boxed.new w T v).frozen
theorem bel_alloc (w : World) (o : Obj) : Below w.heap.size w (w.alloc o) := (Below.refl _ _).alloc (Nat.le_refl _) o
theorem bel_next {w W : World} (h : Below w.heap.size w W) (o : Obj) : Below w.heap.size w (W.alloc o) := h.alloc h.size o
theorem cell_on {w W : World} {g : Nat} {v : Value} (h : Below w.heap.size w W) (hc : w.cell? ⟨g, 0, none⟩ = some v) : W.cell? ⟨g, 0, none⟩ = some v := (h.cell (p := ⟨g, 0, none⟩) (World.block_lt_of_cell? _ _ hc)).trans hc
theorem froz_on {w W : World} {g : Nat} (h : Below w.heap.size w W) (hg : g < w.heap.size) (hc : w.frozen? ⟨g, 0, none⟩ = false) : W.frozen? ⟨g, 0, none⟩ = false := (World.frozen?_of_block (a := ⟨g, 0, none⟩) (h.block g hg)).trans hc
theorem j_small {W : World} {B p nc mo mc j : Nat} {own : Nat → Nat} {S : Nst} {vd : Value} {K : Nat → Nat} {C : Con} (h : NetAt W B own p S nc mo mc vd K) (hj : S.co j = some C) : 5 + 5 * j ≤ 6000000000000 := by
  have h1 := (h.con j C hj).2.1
  have h2 := h.len
  omega

set_option maxRecDepth 20000 in
set_option maxHeartbeats 1000000 in
theorem move_ok0 (p B nc j m : Nat) (own : Nat → Nat) (S : Nst) (C : Con) (w : World) (h : Hid (IsNet w B own p S nc)) (hj : S.co j = some C) (hB : B ≤ w.heap.size) (hs : (Con.at C 0).u.length + (Con.at C 0).c.length ≤ 1099511627776) :
    Calls Try.prog 16 #[.pointer (some ⟨p, 0, none⟩), .int .i64 j, .int .i64 0, .int .i64 m] w fun x w' => x = .returned (.tuple #[.int .i64 ((Con.at C 0).u.take m).length, .int .i64 0]) ∧ ∃ own', IsNet w' B own' p (Nst.set S j (Con.put C 0 (Wy.mv (Con.at C 0) m))) nc ∧ Stp w w' own own' NetR := by
  obtain ⟨mo, mc, vd, K, hN⟩ := h.out
  have b1 := bel_alloc w (.cells #[.int .i64 0] 3)
  have b2 := bel_alloc (w.alloc (.cells #[.int .i64 0] 3)) (.cells #[.int .i64 m] 3)
  have b3 := bel_alloc ((w.alloc (.cells #[.int .i64 0] 3)).alloc (.cells #[.int .i64 m] 3)) (.cells #[.int .i64 0] 3)
  have a1 := alloc_cell w (.int .i64 0) 3
  have a2 := alloc_cell (w.alloc (.cells #[.int .i64 0] 3)) (.int .i64 m) 3
  have a3 := alloc_cell ((w.alloc (.cells #[.int .i64 0] 3)).alloc (.cells #[.int .i64 m] 3)) (.int .i64 0) 3
  have f3 := alloc_froz ((w.alloc (.cells #[.int .i64 0] 3)).alloc (.cells #[.int .i64 m] 3)) (.int .i64 0) 3
  have s1 : (w.alloc (.cells #[.int .i64 0] 3)).heap.size = w.heap.size + 1 := by simp
  have s2 : ((w.alloc (.cells #[.int .i64 0] 3)).alloc (.cells #[.int .i64 m] 3)).heap.size = w.heap.size + 2 := by simp
  rw [s1] at a2 
  rw [s2] at a3 f3
  obtain ⟨W, hW⟩ : ∃ W, ((w.alloc (.cells #[.int .i64 0] 3)).alloc (.cells #[.int .i64 m] 3)).alloc (.cells #[.int .i64 0] 3) = W := ⟨_, rfl⟩
  rw [hW] at a3 f3 b3
  have c2 := cell_on b3 a2
  have c1 := cell_on (b2.trans (b3.mono (by rw [s1, s2]; omega))) a1
  have hbl : Below w.heap.size w W := b1.trans ((b2.trans (b3.mono (by rw [s1, s2]; omega))).mono (by rw [s1]; omega))
  obtain ⟨hNW, hSW⟩ := net_alloc hN hbl
  have ht := j_small hN hj
  have hcon := (hNW.con j C hj).2.2
  obtain ⟨L, hL⟩ : ∃ L, ((Con.at C 0).u.take m).length = L := ⟨_, rfl⟩
  have HC := hid (at_Move p B nc mo mc j w.heap.size (w.heap.size + 1) (w.heap.size + 2) (later own w.heap.size 4) S vd K 0 m C W hNW hj (by omega) (by omega)
    (fun r w' => r = 0 ∧ ∃ own', IsCon w' B own' (5 + 5 * j) (K j) (Con.put C 0 (Wy.mv (Con.at C 0) m)) ∧ Stp W w' (later own w.heap.size 4) own' (fun s => In5 (5 + 5 * j) s ∨ s = 4) ∧ w'.cell? ⟨w.heap.size + 2, 0, none⟩ = some (.int .i64 L))
    ((move1_0 (K j) B (5 + 5 * j) m w.heap.size (w.heap.size + 1) (w.heap.size + 2) (later own w.heap.size 4) C W (hid hcon) (by have := hbl.size; omega) hs c1 c2 a3 f3 (later_new (Nat.le_refl _)) (later_new (by omega)) (later_new (by omega)) (by omega)).mono (by
      rintro x w' ⟨rfl, own', q1, q2, q3⟩
      exact ⟨0, rfl, rfl, own', q1, q2, by rw [← hL]; exact q3⟩)))
  have HK := hid (And.intro hNW (And.intro hSW (And.intro hj ht)))
  have HW := hid hW
  rw [hL]
  clear hN b1 b2 b3 a1 a2 a3 f3 s1 s2 c1 c2 hbl hNW hSW ht hcon hs hB hj hW hL
  go_enter Try.func16, Try.ntmps16
  go_wp2_with fail
  rw [HW.out]
  refine HC.out.mono ?_
  rintro x w2 ⟨r, rfl, rfl, own', q1, q2, q3⟩
  have HQ := hid (And.intro q1 q2)
  clear q1 q2 HC
  go_wp2_with fail
  go_ret2
  obtain ⟨hNW, hSW, hj, ht⟩ := HK.out
  exact ⟨rfl, own', ⟨mo, mc, vd, K, net_put hNW hj HQ.out.1 HQ.out.2⟩, stp_all hSW HQ.out.2 ht⟩

set_option maxRecDepth 20000 in
set_option maxHeartbeats 1000000 in
theorem move_ok1 (p B nc j m : Nat) (own : Nat → Nat) (S : Nst) (C : Con) (w : World) (h : Hid (IsNet w B own p S nc)) (hj : S.co j = some C) (hB : B ≤ w.heap.size) (hs : (Con.at C 1).u.length + (Con.at C 1).c.length ≤ 1099511627776) :
    Calls Try.prog 16 #[.pointer (some ⟨p, 0, none⟩), .int .i64 j, .int .i64 1, .int .i64 m] w fun x w' => x = .returned (.tuple #[.int .i64 ((Con.at C 1).u.take m).length, .int .i64 0]) ∧ ∃ own', IsNet w' B own' p (Nst.set S j (Con.put C 1 (Wy.mv (Con.at C 1) m))) nc ∧ Stp w w' own own' NetR := by
  obtain ⟨mo, mc, vd, K, hN⟩ := h.out
  have b1 := bel_alloc w (.cells #[.int .i64 1] 3)
  have b2 := bel_alloc (w.alloc (.cells #[.int .i64 1] 3)) (.cells #[.int .i64 m] 3)
  have b3 := bel_alloc ((w.alloc (.cells #[.int .i64 1] 3)).alloc (.cells #[.int .i64 m] 3)) (.cells #[.int .i64 0] 3)
  have a1 := alloc_cell w (.int .i64 1) 3
  have a2 := alloc_cell (w.alloc (.cells #[.int .i64 1] 3)) (.int .i64 m) 3
  have a3 := alloc_cell ((w.alloc (.cells #[.int .i64 1] 3)).alloc (.cells #[.int .i64 m] 3)) (.int .i64 0) 3
  have f3 := alloc_froz ((w.alloc (.cells #[.int .i64 1] 3)).alloc (.cells #[.int .i64 m] 3)) (.int .i64 0) 3
  have s1 : (w.alloc (.cells #[.int .i64 1] 3)).heap.size = w.heap.size + 1 := by simp
  have s2 : ((w.alloc (.cells #[.int .i64 1] 3)).alloc (.cells #[.int .i64 m] 3)).heap.size = w.heap.size + 2 := by simp
  rw [s1] at a2 
  rw [s2] at a3 f3
  obtain ⟨W, hW⟩ : ∃ W, ((w.alloc (.cells #[.int .i64 1] 3)).alloc (.cells #[.int .i64 m] 3)).alloc (.cells #[.int .i64 0] 3) = W := ⟨_, rfl⟩
  rw [hW] at a3 f3 b3
  have c2 := cell_on b3 a2
  have c1 := cell_on (b2.trans (b3.mono (by rw [s1, s2]; omega))) a1
  have hbl : Below w.heap.size w W := b1.trans ((b2.trans (b3.mono (by rw [s1, s2]; omega))).mono (by rw [s1]; omega))
  obtain ⟨hNW, hSW⟩ := net_alloc hN hbl
  have ht := j_small hN hj
  have hcon := (hNW.con j C hj).2.2
  obtain ⟨L, hL⟩ : ∃ L, ((Con.at C 1).u.take m).length = L := ⟨_, rfl⟩
  have HC := hid (at_Move p B nc mo mc j w.heap.size (w.heap.size + 1) (w.heap.size + 2) (later own w.heap.size 4) S vd K 1 m C W hNW hj (by omega) (by omega)
    (fun r w' => r = 0 ∧ ∃ own', IsCon w' B own' (5 + 5 * j) (K j) (Con.put C 1 (Wy.mv (Con.at C 1) m)) ∧ Stp W w' (later own w.heap.size 4) own' (fun s => In5 (5 + 5 * j) s ∨ s = 4) ∧ w'.cell? ⟨w.heap.size + 2, 0, none⟩ = some (.int .i64 L))
    ((move1_1 (K j) B (5 + 5 * j) m w.heap.size (w.heap.size + 1) (w.heap.size + 2) (later own w.heap.size 4) C W (hid hcon) (by have := hbl.size; omega) hs c1 c2 a3 f3 (later_new (Nat.le_refl _)) (later_new (by omega)) (later_new (by omega)) (by omega)).mono (by
      rintro x w' ⟨rfl, own', q1, q2, q3⟩
      exact ⟨0, rfl, rfl, own', q1, q2, by rw [← hL]; exact q3⟩)))
  have HK := hid (And.intro hNW (And.intro hSW (And.intro hj ht)))
  have HW := hid hW
  rw [hL]
  clear hN b1 b2 b3 a1 a2 a3 f3 s1 s2 c1 c2 hbl hNW hSW ht hcon hs hB hj hW hL
  go_enter Try.func16, Try.ntmps16
  go_wp2_with fail
  rw [HW.out]
  refine HC.out.mono ?_
  rintro x w2 ⟨r, rfl, rfl, own', q1, q2, q3⟩
  have HQ := hid (And.intro q1 q2)
  clear q1 q2 HC
  go_wp2_with fail
  go_ret2
  obtain ⟨hNW, hSW, hj, ht⟩ := HK.out
  exact ⟨rfl, own', ⟨mo, mc, vd, K, net_put hNW hj HQ.out.1 HQ.out.2⟩, stp_all hSW HQ.out.2 ht⟩

end Go.Proofs.Ytgkfiolgipgbkaa.StmI
