/- Writes, reads and shuts of a network; and all errors of its calls of an end. -/
import Derived.Test.YtgkfiolgipgbkaaStmI
namespace Go.Proofs.Ytgkfiolgipgbkaa.StmJ
open Go.ChangeShapes Go.WideShapes Go.ChangeAt Go.RowKit Base Wri Map FrmP FrmA StmA StmB StmC StmD StmE StmF VaiA StmG StmH StmI
set_option linter.unusedVariables false
set_option linter.unusedSimpArgs false

set_option maxRecDepth 20000 in
set_option maxHeartbeats 1000000 in
theorem write_ok0 (p B nc j : Nat) (own : Nat → Nat) (S : Nst) (C : Con) (s : Bs) (ax : Option Addr) (cx : Nat) (w : World) (h : Hid (IsNet w B own p S nc)) (hj : S.co j = some C) (hB : B ≤ w.heap.size) (hs : (Con.at C 0).u.length + s.length ≤ 1099511627776) (hbt : Hid (BAt w w.heap.size ax s)) :
    Calls Try.prog 15 #[.pointer (some ⟨p, 0, none⟩), .int .i64 j, .int .i64 0, .slice ax s.length cx] w fun x w' => x = .returned (.int .i64 (wtE (Con.at C 0) s.length)) ∧ ∃ own', IsNet w' B own' p (Nst.set S j (Con.put C 0 (Wy.wtIf (Con.at C 0) s))) nc ∧ Stp w w' own own' NetR := by
  obtain ⟨mo, mc, vd, K, hN⟩ := h.out
  have b0 := bel_alloc w (.cells #[.int .i64 0] 3)
  have a0 := alloc_cell w (.int .i64 0) 3
  have f0 := alloc_froz w (.int .i64 0) 3
  have b1 := bel_alloc (w.alloc (.cells #[.int .i64 0] 3)) (.cells #[.slice ax s.length cx] 32)
  have a1 := alloc_cell (w.alloc (.cells #[.int .i64 0] 3)) (.slice ax s.length cx) 32
  have f1 := alloc_froz (w.alloc (.cells #[.int .i64 0] 3)) (.slice ax s.length cx) 32
  have s1 : (w.alloc (.cells #[.int .i64 0] 3)).heap.size = w.heap.size + 1 := by simp
  rw [s1] at a1 f1
  obtain ⟨W, hW⟩ : ∃ W, ((w.alloc (.cells #[.int .i64 0] 3)).alloc (.cells #[.slice ax s.length cx] 32)) = W := ⟨_, rfl⟩
  rw [hW] at b1 a1 f1
  have l1 := b1
  have l0 := b0.trans (l1.mono (by rw [s1]; omega))
  have c0 := cell_on l1 a0
  have g0 := froz_on l1 (by rw [s1]; omega) f0
  have c1 := a1
  have g1 := f1
  have hbl := l0
  obtain ⟨hNW, hSW⟩ := net_alloc hN hbl
  have ht := j_small hN hj
  have hcon := (hNW.con j C hj).2.2
  have HC := hid (at_Write p B nc mo mc j w.heap.size (w.heap.size + 1) (later own w.heap.size 4) S vd K 0 0 C W hNW hj (by omega) (by omega)
    (fun r w' => r = wtE (Con.at C 0) s.length ∧ ∃ own', IsCon w' B own' (5 + 5 * j) (K j) (Con.put C 0 (Wy.wtIf (Con.at C 0) s)) ∧ Stp W w' (later own w.heap.size 4) own' (fun s => In5 (5 + 5 * j) s ∨ s = 4))
    ((write1_0 (K j) B (5 + 5 * j) w.heap.size (w.heap.size + 1) (later own w.heap.size 4) C s ax cx W (hid hcon) (by have := hbl.size; omega) hs c0 c1 (hid ((hbt.out.below hbl).mono hbl.size))).mono (by
      rintro x w' ⟨rfl, own', q1, q2⟩
      exact ⟨_, rfl, rfl, own', q1, q2.mono (fun s e => .inl e)⟩)))
  generalize wtE (Con.at C 0) s.length = r0 at *
  have HK := hid (And.intro hNW (And.intro hSW (And.intro hj (And.intro ht hbl.size))))
  have HW := hid hW
  clear hN hbl hNW hSW ht hcon hB hj hW b0 a0 f0 l0 c0 g0 b1 a1 f1 l1 c1 g1 s1
  go_enter Try.func15, Try.ntmps15
  go_wp2_with fail
  rw [HW.out]
  refine HC.out.mono ?_
  rintro x w2 ⟨r, rfl, rfl, own', q1, q2⟩
  have HQ := hid (And.intro q1 q2)
  clear q1 q2 HC
  go_wp2_with fail
  go_ret
  obtain ⟨hNW, hSW, hj, ht, hsz⟩ := HK.out
  exact ⟨rfl, own', ⟨mo, mc, vd, K, net_put hNW hj HQ.out.1 HQ.out.2⟩, stp_all hSW HQ.out.2 ht⟩

set_option maxRecDepth 20000 in
set_option maxHeartbeats 1000000 in
theorem read_ok0 (p B nc j m : Nat) (own : Nat → Nat) (S : Nst) (C : Con) (w : World) (h : Hid (IsNet w B own p S nc)) (hj : S.co j = some C) (hB : B ≤ w.heap.size) (hs : (Con.at C 1).c.length ≤ 1099511627776) :
    Calls Try.prog 17 #[.pointer (some ⟨p, 0, none⟩), .int .i64 j, .int .i64 0, .int .i64 m] w fun x w' => ∃ v, x = .returned (.tuple #[v, .bool (overB (Wy.rd (Con.at C 1) m)), .int .i64 0]) ∧ Que w' w.heap.size v ((Con.at C 1).c.take m) ∧ ∃ own', IsNet w' B own' p (Nst.set S j (Con.put C 1 (Wy.rd (Con.at C 1) m))) nc ∧ Stp w w' own own' NetR ∧ ∀ g, v.ownBlock = some g → own' g = 4 := by
  obtain ⟨mo, mc, vd, K, hN⟩ := h.out
  have b0 := bel_alloc w (.cells #[.int .i64 0] 3)
  have a0 := alloc_cell w (.int .i64 0) 3
  have f0 := alloc_froz w (.int .i64 0) 3
  have b1 := bel_alloc (w.alloc (.cells #[.int .i64 0] 3)) (.cells #[.int .i64 m] 3)
  have a1 := alloc_cell (w.alloc (.cells #[.int .i64 0] 3)) (.int .i64 m) 3
  have f1 := alloc_froz (w.alloc (.cells #[.int .i64 0] 3)) (.int .i64 m) 3
  have b2 := bel_alloc ((w.alloc (.cells #[.int .i64 0] 3)).alloc (.cells #[.int .i64 m] 3)) (.cells #[.slice none 0 0] 32)
  have a2 := alloc_cell ((w.alloc (.cells #[.int .i64 0] 3)).alloc (.cells #[.int .i64 m] 3)) (.slice none 0 0) 32
  have f2 := alloc_froz ((w.alloc (.cells #[.int .i64 0] 3)).alloc (.cells #[.int .i64 m] 3)) (.slice none 0 0) 32
  have b3 := bel_alloc (((w.alloc (.cells #[.int .i64 0] 3)).alloc (.cells #[.int .i64 m] 3)).alloc (.cells #[.slice none 0 0] 32)) (.cells #[.bool false] 4)
  have a3 := alloc_cell (((w.alloc (.cells #[.int .i64 0] 3)).alloc (.cells #[.int .i64 m] 3)).alloc (.cells #[.slice none 0 0] 32)) (.bool false) 4
  have f3 := alloc_froz (((w.alloc (.cells #[.int .i64 0] 3)).alloc (.cells #[.int .i64 m] 3)).alloc (.cells #[.slice none 0 0] 32)) (.bool false) 4
  have s1 : (w.alloc (.cells #[.int .i64 0] 3)).heap.size = w.heap.size + 1 := by simp
  rw [s1] at a1 f1
  have s2 : ((w.alloc (.cells #[.int .i64 0] 3)).alloc (.cells #[.int .i64 m] 3)).heap.size = w.heap.size + 2 := by simp
  rw [s2] at a2 f2
  have s3 : (((w.alloc (.cells #[.int .i64 0] 3)).alloc (.cells #[.int .i64 m] 3)).alloc (.cells #[.slice none 0 0] 32)).heap.size = w.heap.size + 3 := by simp
  rw [s3] at a3 f3
  obtain ⟨W, hW⟩ : ∃ W, ((((w.alloc (.cells #[.int .i64 0] 3)).alloc (.cells #[.int .i64 m] 3)).alloc (.cells #[.slice none 0 0] 32)).alloc (.cells #[.bool false] 4)) = W := ⟨_, rfl⟩
  rw [hW] at b3 a3 f3
  have l3 := b3
  have l2 := b2.trans (l3.mono (by rw [s2, s3]; omega))
  have l1 := b1.trans (l2.mono (by rw [s1, s2]; omega))
  have l0 := b0.trans (l1.mono (by rw [s1]; omega))
  have c0 := cell_on l1 a0
  have g0 := froz_on l1 (by rw [s1]; omega) f0
  have c1 := cell_on l2 a1
  have g1 := froz_on l2 (by rw [s2]; omega) f1
  have c2 := cell_on l3 a2
  have g2 := froz_on l3 (by rw [s3]; omega) f2
  have c3 := a3
  have g3 := f3
  have hbl := l0
  obtain ⟨hNW, hSW⟩ := net_alloc hN hbl
  have ht := j_small hN hj
  have hcon := (hNW.con j C hj).2.2
  obtain ⟨ov, hov⟩ : ∃ ov, overB (Wy.rd (Con.at C 1) m) = ov := ⟨_, rfl⟩
  have HC := hid (at_Read p B nc mo mc j w.heap.size (w.heap.size + 1) (w.heap.size + 2) (w.heap.size + 3) (later own w.heap.size 4) S vd K 0 m C W hNW hj (by omega) (by omega)
    (fun r w' => r = 0 ∧ ∃ own' va vn vc, IsCon w' B own' (5 + 5 * j) (K j) (Con.put C 1 (Wy.rd (Con.at C 1) m)) ∧ Stp W w' (later own w.heap.size 4) own' (fun s => In5 (5 + 5 * j) s ∨ s = 4) ∧ w'.cell? ⟨w.heap.size + 2, 0, none⟩ = some (.slice va vn vc) ∧ w'.cell? ⟨w.heap.size + 3, 0, none⟩ = some (.bool ov) ∧ Que w' W.heap.size (.slice va vn vc) ((Con.at C 1).c.take m) ∧ ∀ g, (Value.slice va vn vc).ownBlock = some g → own' g = 4)
    ((read1_0 (K j) B (5 + 5 * j) m w.heap.size (w.heap.size + 1) (w.heap.size + 2) (w.heap.size + 3) (later own w.heap.size 4) C W (hid hcon) (by have := hbl.size; omega) hs c0 c1 c2 g2 c3 g3 (later_new (by omega)) (later_new (by omega)) (by omega) (by omega)).mono (by
      rintro x w' ⟨rfl, own', v, q1, q2, q3, q4, q5, q6⟩
      obtain ⟨va, vc, rfl, -⟩ := q5.shape
      exact ⟨0, rfl, rfl, own', va, _, vc, q1, q2, q3, by rw [← hov]; exact q4, q5, q6⟩)))
  rw [hov]
  clear hov
  have HK := hid (And.intro hNW (And.intro hSW (And.intro hj (And.intro ht hbl.size))))
  have HW := hid hW
  clear hN hbl hNW hSW ht hcon hB hj hW b0 a0 f0 l0 c0 g0 b1 a1 f1 l1 c1 g1 b2 a2 f2 l2 c2 g2 b3 a3 f3 l3 c3 g3 s1 s2 s3
  go_enter Try.func17, Try.ntmps17
  go_wp2_with fail
  rw [HW.out]
  refine HC.out.mono ?_
  rintro x w2 ⟨r, rfl, rfl, own', va, vn, vc, q1, q2, q3, q4, q5, q6⟩
  have HQ := hid (And.intro q1 (And.intro q2 (And.intro q5 q6)))
  clear q1 q2 q5 q6 HC
  go_wp2_with fail
  go_quiet (fail)
  go_wp2_with fail
  go_ret3
  obtain ⟨hNW, hSW, hj, ht, hsz⟩ := HK.out
  obtain ⟨q1, q2, q5, q6⟩ := HQ.out
  have hst := stp_all hSW q2 ht
  exact ⟨.slice va vn vc, rfl, (q5.keep (fun _ _ => rfl)).low hsz, own', ⟨mo, mc, vd, K, (net_put hNW hj q1 q2).keep (fun _ _ _ _ => ⟨rfl, rfl⟩)⟩, ⟨hst.wr.drewN _, hst.tag⟩, q6⟩

set_option maxRecDepth 20000 in
set_option maxHeartbeats 1000000 in
theorem shut_ok0 (p B nc j : Nat) (own : Nat → Nat) (S : Nst) (C : Con) (w : World) (h : Hid (IsNet w B own p S nc)) (hj : S.co j = some C) (hB : B ≤ w.heap.size) :
    Calls Try.prog 19 #[.pointer (some ⟨p, 0, none⟩), .int .i64 j, .int .i64 0] w fun x w' => x = .returned (.int .i64 (shE (Con.at C 0))) ∧ ∃ own', IsNet w' B own' p (Nst.set S j (Con.put C 0 (Wy.sh (Con.at C 0)))) nc ∧ Stp w w' own own' NetR := by
  obtain ⟨mo, mc, vd, K, hN⟩ := h.out
  have b0 := bel_alloc w (.cells #[.int .i64 0] 3)
  have a0 := alloc_cell w (.int .i64 0) 3
  have f0 := alloc_froz w (.int .i64 0) 3
  obtain ⟨W, hW⟩ : ∃ W, (w.alloc (.cells #[.int .i64 0] 3)) = W := ⟨_, rfl⟩
  rw [hW] at b0 a0 f0
  have l0 := b0
  have c0 := a0
  have g0 := f0
  have hbl := l0
  obtain ⟨hNW, hSW⟩ := net_alloc hN hbl
  have ht := j_small hN hj
  have hcon := (hNW.con j C hj).2.2
  have HC := hid (at_Shut p B nc mo mc j w.heap.size (later own w.heap.size 4) S vd K 0 0 C W hNW hj (by omega) (by omega)
    (fun r w' => r = shE (Con.at C 0) ∧ ∃ own', IsCon w' B own' (5 + 5 * j) (K j) (Con.put C 0 (Wy.sh (Con.at C 0))) ∧ Stp W w' (later own w.heap.size 4) own' (fun s => In5 (5 + 5 * j) s ∨ s = 4))
    ((shut1_0 (K j) B (5 + 5 * j) w.heap.size (later own w.heap.size 4) C W (hid hcon) c0).mono (by
      rintro x w' ⟨rfl, own', q1, q2⟩
      exact ⟨_, rfl, rfl, own', q1, q2.mono (fun s e => .inl e)⟩)))
  generalize shE (Con.at C 0) = r0 at *
  have HK := hid (And.intro hNW (And.intro hSW (And.intro hj (And.intro ht hbl.size))))
  have HW := hid hW
  clear hN hbl hNW hSW ht hcon hB hj hW b0 a0 f0 l0 c0 g0 
  go_enter Try.func19, Try.ntmps19
  go_wp2_with fail
  rw [HW.out]
  refine HC.out.mono ?_
  rintro x w2 ⟨r, rfl, rfl, own', q1, q2⟩
  have HQ := hid (And.intro q1 q2)
  clear q1 q2 HC
  go_wp2_with fail
  go_ret
  obtain ⟨hNW, hSW, hj, ht, hsz⟩ := HK.out
  exact ⟨rfl, own', ⟨mo, mc, vd, K, net_put hNW hj HQ.out.1 HQ.out.2⟩, stp_all hSW HQ.out.2 ht⟩

set_option maxRecDepth 20000 in
set_option maxHeartbeats 1000000 in
theorem write_ok1 (p B nc j : Nat) (own : Nat → Nat) (S : Nst) (C : Con) (s : Bs) (ax : Option Addr) (cx : Nat) (w : World) (h : Hid (IsNet w B own p S nc)) (hj : S.co j = some C) (hB : B ≤ w.heap.size) (hs : (Con.at C 1).u.length + s.length ≤ 1099511627776) (hbt : Hid (BAt w w.heap.size ax s)) :
    Calls Try.prog 15 #[.pointer (some ⟨p, 0, none⟩), .int .i64 j, .int .i64 1, .slice ax s.length cx] w fun x w' => x = .returned (.int .i64 (wtE (Con.at C 1) s.length)) ∧ ∃ own', IsNet w' B own' p (Nst.set S j (Con.put C 1 (Wy.wtIf (Con.at C 1) s))) nc ∧ Stp w w' own own' NetR := by
  obtain ⟨mo, mc, vd, K, hN⟩ := h.out
  have b0 := bel_alloc w (.cells #[.int .i64 1] 3)
  have a0 := alloc_cell w (.int .i64 1) 3
  have f0 := alloc_froz w (.int .i64 1) 3
  have b1 := bel_alloc (w.alloc (.cells #[.int .i64 1] 3)) (.cells #[.slice ax s.length cx] 32)
  have a1 := alloc_cell (w.alloc (.cells #[.int .i64 1] 3)) (.slice ax s.length cx) 32
  have f1 := alloc_froz (w.alloc (.cells #[.int .i64 1] 3)) (.slice ax s.length cx) 32
  have s1 : (w.alloc (.cells #[.int .i64 1] 3)).heap.size = w.heap.size + 1 := by simp
  rw [s1] at a1 f1
  obtain ⟨W, hW⟩ : ∃ W, ((w.alloc (.cells #[.int .i64 1] 3)).alloc (.cells #[.slice ax s.length cx] 32)) = W := ⟨_, rfl⟩
  rw [hW] at b1 a1 f1
  have l1 := b1
  have l0 := b0.trans (l1.mono (by rw [s1]; omega))
  have c0 := cell_on l1 a0
  have g0 := froz_on l1 (by rw [s1]; omega) f0
  have c1 := a1
  have g1 := f1
  have hbl := l0
  obtain ⟨hNW, hSW⟩ := net_alloc hN hbl
  have ht := j_small hN hj
  have hcon := (hNW.con j C hj).2.2
  have HC := hid (at_Write p B nc mo mc j w.heap.size (w.heap.size + 1) (later own w.heap.size 4) S vd K 1 0 C W hNW hj (by omega) (by omega)
    (fun r w' => r = wtE (Con.at C 1) s.length ∧ ∃ own', IsCon w' B own' (5 + 5 * j) (K j) (Con.put C 1 (Wy.wtIf (Con.at C 1) s)) ∧ Stp W w' (later own w.heap.size 4) own' (fun s => In5 (5 + 5 * j) s ∨ s = 4))
    ((write1_1 (K j) B (5 + 5 * j) w.heap.size (w.heap.size + 1) (later own w.heap.size 4) C s ax cx W (hid hcon) (by have := hbl.size; omega) hs c0 c1 (hid ((hbt.out.below hbl).mono hbl.size))).mono (by
      rintro x w' ⟨rfl, own', q1, q2⟩
      exact ⟨_, rfl, rfl, own', q1, q2.mono (fun s e => .inl e)⟩)))
  generalize wtE (Con.at C 1) s.length = r0 at *
  have HK := hid (And.intro hNW (And.intro hSW (And.intro hj (And.intro ht hbl.size))))
  have HW := hid hW
  clear hN hbl hNW hSW ht hcon hB hj hW b0 a0 f0 l0 c0 g0 b1 a1 f1 l1 c1 g1 s1
  go_enter Try.func15, Try.ntmps15
  go_wp2_with fail
  rw [HW.out]
  refine HC.out.mono ?_
  rintro x w2 ⟨r, rfl, rfl, own', q1, q2⟩
  have HQ := hid (And.intro q1 q2)
  clear q1 q2 HC
  go_wp2_with fail
  go_ret
  obtain ⟨hNW, hSW, hj, ht, hsz⟩ := HK.out
  exact ⟨rfl, own', ⟨mo, mc, vd, K, net_put hNW hj HQ.out.1 HQ.out.2⟩, stp_all hSW HQ.out.2 ht⟩

set_option maxRecDepth 20000 in
set_option maxHeartbeats 1000000 in
theorem read_ok1 (p B nc j m : Nat) (own : Nat → Nat) (S : Nst) (C : Con) (w : World) (h : Hid (IsNet w B own p S nc)) (hj : S.co j = some C) (hB : B ≤ w.heap.size) (hs : (Con.at C 0).c.length ≤ 1099511627776) :
    Calls Try.prog 17 #[.pointer (some ⟨p, 0, none⟩), .int .i64 j, .int .i64 1, .int .i64 m] w fun x w' => ∃ v, x = .returned (.tuple #[v, .bool (overB (Wy.rd (Con.at C 0) m)), .int .i64 0]) ∧ Que w' w.heap.size v ((Con.at C 0).c.take m) ∧ ∃ own', IsNet w' B own' p (Nst.set S j (Con.put C 0 (Wy.rd (Con.at C 0) m))) nc ∧ Stp w w' own own' NetR ∧ ∀ g, v.ownBlock = some g → own' g = 4 := by
  obtain ⟨mo, mc, vd, K, hN⟩ := h.out
  have b0 := bel_alloc w (.cells #[.int .i64 1] 3)
  have a0 := alloc_cell w (.int .i64 1) 3
  have f0 := alloc_froz w (.int .i64 1) 3
  have b1 := bel_alloc (w.alloc (.cells #[.int .i64 1] 3)) (.cells #[.int .i64 m] 3)
  have a1 := alloc_cell (w.alloc (.cells #[.int .i64 1] 3)) (.int .i64 m) 3
  have f1 := alloc_froz (w.alloc (.cells #[.int .i64 1] 3)) (.int .i64 m) 3
  have b2 := bel_alloc ((w.alloc (.cells #[.int .i64 1] 3)).alloc (.cells #[.int .i64 m] 3)) (.cells #[.slice none 0 0] 32)
  have a2 := alloc_cell ((w.alloc (.cells #[.int .i64 1] 3)).alloc (.cells #[.int .i64 m] 3)) (.slice none 0 0) 32
  have f2 := alloc_froz ((w.alloc (.cells #[.int .i64 1] 3)).alloc (.cells #[.int .i64 m] 3)) (.slice none 0 0) 32
  have b3 := bel_alloc (((w.alloc (.cells #[.int .i64 1] 3)).alloc (.cells #[.int .i64 m] 3)).alloc (.cells #[.slice none 0 0] 32)) (.cells #[.bool false] 4)
  have a3 := alloc_cell (((w.alloc (.cells #[.int .i64 1] 3)).alloc (.cells #[.int .i64 m] 3)).alloc (.cells #[.slice none 0 0] 32)) (.bool false) 4
  have f3 := alloc_froz (((w.alloc (.cells #[.int .i64 1] 3)).alloc (.cells #[.int .i64 m] 3)).alloc (.cells #[.slice none 0 0] 32)) (.bool false) 4
  have s1 : (w.alloc (.cells #[.int .i64 1] 3)).heap.size = w.heap.size + 1 := by simp
  rw [s1] at a1 f1
  have s2 : ((w.alloc (.cells #[.int .i64 1] 3)).alloc (.cells #[.int .i64 m] 3)).heap.size = w.heap.size + 2 := by simp
  rw [s2] at a2 f2
  have s3 : (((w.alloc (.cells #[.int .i64 1] 3)).alloc (.cells #[.int .i64 m] 3)).alloc (.cells #[.slice none 0 0] 32)).heap.size = w.heap.size + 3 := by simp
  rw [s3] at a3 f3
  obtain ⟨W, hW⟩ : ∃ W, ((((w.alloc (.cells #[.int .i64 1] 3)).alloc (.cells #[.int .i64 m] 3)).alloc (.cells #[.slice none 0 0] 32)).alloc (.cells #[.bool false] 4)) = W := ⟨_, rfl⟩
  rw [hW] at b3 a3 f3
  have l3 := b3
  have l2 := b2.trans (l3.mono (by rw [s2, s3]; omega))
  have l1 := b1.trans (l2.mono (by rw [s1, s2]; omega))
  have l0 := b0.trans (l1.mono (by rw [s1]; omega))
  have c0 := cell_on l1 a0
  have g0 := froz_on l1 (by rw [s1]; omega) f0
  have c1 := cell_on l2 a1
  have g1 := froz_on l2 (by rw [s2]; omega) f1
  have c2 := cell_on l3 a2
  have g2 := froz_on l3 (by rw [s3]; omega) f2
  have c3 := a3
  have g3 := f3
  have hbl := l0
  obtain ⟨hNW, hSW⟩ := net_alloc hN hbl
  have ht := j_small hN hj
  have hcon := (hNW.con j C hj).2.2
  obtain ⟨ov, hov⟩ : ∃ ov, overB (Wy.rd (Con.at C 0) m) = ov := ⟨_, rfl⟩
  have HC := hid (at_Read p B nc mo mc j w.heap.size (w.heap.size + 1) (w.heap.size + 2) (w.heap.size + 3) (later own w.heap.size 4) S vd K 1 m C W hNW hj (by omega) (by omega)
    (fun r w' => r = 0 ∧ ∃ own' va vn vc, IsCon w' B own' (5 + 5 * j) (K j) (Con.put C 0 (Wy.rd (Con.at C 0) m)) ∧ Stp W w' (later own w.heap.size 4) own' (fun s => In5 (5 + 5 * j) s ∨ s = 4) ∧ w'.cell? ⟨w.heap.size + 2, 0, none⟩ = some (.slice va vn vc) ∧ w'.cell? ⟨w.heap.size + 3, 0, none⟩ = some (.bool ov) ∧ Que w' W.heap.size (.slice va vn vc) ((Con.at C 0).c.take m) ∧ ∀ g, (Value.slice va vn vc).ownBlock = some g → own' g = 4)
    ((read1_1 (K j) B (5 + 5 * j) m w.heap.size (w.heap.size + 1) (w.heap.size + 2) (w.heap.size + 3) (later own w.heap.size 4) C W (hid hcon) (by have := hbl.size; omega) hs c0 c1 c2 g2 c3 g3 (later_new (by omega)) (later_new (by omega)) (by omega) (by omega)).mono (by
      rintro x w' ⟨rfl, own', v, q1, q2, q3, q4, q5, q6⟩
      obtain ⟨va, vc, rfl, -⟩ := q5.shape
      exact ⟨0, rfl, rfl, own', va, _, vc, q1, q2, q3, by rw [← hov]; exact q4, q5, q6⟩)))
  rw [hov]
  clear hov
  have HK := hid (And.intro hNW (And.intro hSW (And.intro hj (And.intro ht hbl.size))))
  have HW := hid hW
  clear hN hbl hNW hSW ht hcon hB hj hW b0 a0 f0 l0 c0 g0 b1 a1 f1 l1 c1 g1 b2 a2 f2 l2 c2 g2 b3 a3 f3 l3 c3 g3 s1 s2 s3
  go_enter Try.func17, Try.ntmps17
  go_wp2_with fail
  rw [HW.out]
  refine HC.out.mono ?_
  rintro x w2 ⟨r, rfl, rfl, own', va, vn, vc, q1, q2, q3, q4, q5, q6⟩
  have HQ := hid (And.intro q1 (And.intro q2 (And.intro q5 q6)))
  clear q1 q2 q5 q6 HC
  go_wp2_with fail
  go_quiet (fail)
  go_wp2_with fail
  go_ret3
  obtain ⟨hNW, hSW, hj, ht, hsz⟩ := HK.out
  obtain ⟨q1, q2, q5, q6⟩ := HQ.out
  have hst := stp_all hSW q2 ht
  exact ⟨.slice va vn vc, rfl, (q5.keep (fun _ _ => rfl)).low hsz, own', ⟨mo, mc, vd, K, (net_put hNW hj q1 q2).keep (fun _ _ _ _ => ⟨rfl, rfl⟩)⟩, ⟨hst.wr.drewN _, hst.tag⟩, q6⟩

set_option maxRecDepth 20000 in
set_option maxHeartbeats 1000000 in
theorem shut_ok1 (p B nc j : Nat) (own : Nat → Nat) (S : Nst) (C : Con) (w : World) (h : Hid (IsNet w B own p S nc)) (hj : S.co j = some C) (hB : B ≤ w.heap.size) :
    Calls Try.prog 19 #[.pointer (some ⟨p, 0, none⟩), .int .i64 j, .int .i64 1] w fun x w' => x = .returned (.int .i64 (shE (Con.at C 1))) ∧ ∃ own', IsNet w' B own' p (Nst.set S j (Con.put C 1 (Wy.sh (Con.at C 1)))) nc ∧ Stp w w' own own' NetR := by
  obtain ⟨mo, mc, vd, K, hN⟩ := h.out
  have b0 := bel_alloc w (.cells #[.int .i64 1] 3)
  have a0 := alloc_cell w (.int .i64 1) 3
  have f0 := alloc_froz w (.int .i64 1) 3
  obtain ⟨W, hW⟩ : ∃ W, (w.alloc (.cells #[.int .i64 1] 3)) = W := ⟨_, rfl⟩
  rw [hW] at b0 a0 f0
  have l0 := b0
  have c0 := a0
  have g0 := f0
  have hbl := l0
  obtain ⟨hNW, hSW⟩ := net_alloc hN hbl
  have ht := j_small hN hj
  have hcon := (hNW.con j C hj).2.2
  have HC := hid (at_Shut p B nc mo mc j w.heap.size (later own w.heap.size 4) S vd K 1 0 C W hNW hj (by omega) (by omega)
    (fun r w' => r = shE (Con.at C 1) ∧ ∃ own', IsCon w' B own' (5 + 5 * j) (K j) (Con.put C 1 (Wy.sh (Con.at C 1))) ∧ Stp W w' (later own w.heap.size 4) own' (fun s => In5 (5 + 5 * j) s ∨ s = 4))
    ((shut1_1 (K j) B (5 + 5 * j) w.heap.size (later own w.heap.size 4) C W (hid hcon) c0).mono (by
      rintro x w' ⟨rfl, own', q1, q2⟩
      exact ⟨_, rfl, rfl, own', q1, q2.mono (fun s e => .inl e)⟩)))
  generalize shE (Con.at C 1) = r0 at *
  have HK := hid (And.intro hNW (And.intro hSW (And.intro hj (And.intro ht hbl.size))))
  have HW := hid hW
  clear hN hbl hNW hSW ht hcon hB hj hW b0 a0 f0 l0 c0 g0 
  go_enter Try.func19, Try.ntmps19
  go_wp2_with fail
  rw [HW.out]
  refine HC.out.mono ?_
  rintro x w2 ⟨r, rfl, rfl, own', q1, q2⟩
  have HQ := hid (And.intro q1 q2)
  clear q1 q2 HC
  go_wp2_with fail
  go_ret
  obtain ⟨hNW, hSW, hj, ht, hsz⟩ := HK.out
  exact ⟨rfl, own', ⟨mo, mc, vd, K, net_put hNW hj HQ.out.1 HQ.out.2⟩, stp_all hSW HQ.out.2 ht⟩

set_option maxRecDepth 20000 in
set_option maxHeartbeats 1000000 in
theorem write_err (p B nc : Nat) (own : Nat → Nat) (S : Nst) (c e : Int) (n : Nat) (ax : Option Addr) (cx : Nat) (w : World) (h : Hid (IsNet w B own p S nc)) (hc : -9223372036854775808 ≤ c) (hc2 : c ≤ 9223372036854775807) (he : atE S c e 0 ≠ 0) :
    Calls Try.prog 15 #[.pointer (some ⟨p, 0, none⟩), .int .i64 c, .int .i64 e, .slice ax n cx] w fun x w' => x = .returned (.int .i64 (atE S c e 0)) ∧ ∃ own', IsNet w' B own' p S nc ∧ Stp w w' own own' NetR := by
  obtain ⟨mo, mc, vd, K, hN⟩ := h.out
  have b0 := bel_alloc w (.cells #[.int .i64 e] 3)
  have a0 := alloc_cell w (.int .i64 e) 3
  have f0 := alloc_froz w (.int .i64 e) 3
  have b1 := bel_alloc (w.alloc (.cells #[.int .i64 e] 3)) (.cells #[.slice ax n cx] 32)
  have a1 := alloc_cell (w.alloc (.cells #[.int .i64 e] 3)) (.slice ax n cx) 32
  have f1 := alloc_froz (w.alloc (.cells #[.int .i64 e] 3)) (.slice ax n cx) 32
  have s1 : (w.alloc (.cells #[.int .i64 e] 3)).heap.size = w.heap.size + 1 := by simp
  rw [s1] at a1 f1
  obtain ⟨W, hW⟩ : ∃ W, ((w.alloc (.cells #[.int .i64 e] 3)).alloc (.cells #[.slice ax n cx] 32)) = W := ⟨_, rfl⟩
  rw [hW] at b1 a1 f1
  have l1 := b1
  have l0 := b0.trans (l1.mono (by rw [s1]; omega))
  have c0 := cell_on l1 a0
  have g0 := froz_on l1 (by rw [s1]; omega) f0
  have c1 := a1
  have g1 := f1
  have hbl := l0
  obtain ⟨hNW, hSW⟩ := net_alloc hN hbl
  have HC := hid (at_err p B nc mo mc (later own w.heap.size 4) S vd K c e 0 (.func (Fn.func 51) #[] #[.pointer (some ⟨w.heap.size, 0, none⟩), .pointer (some ⟨w.heap.size + 1, 0, none⟩)]) W hNW hc hc2 he)
  have HK := hid (And.intro hNW hSW)
  have HW := hid hW
  generalize atE S c e 0 = E at *
  clear hN hbl hNW hSW hc hc2 he hW b0 a0 f0 l0 g0 b1 a1 f1 l1 g1 s1
  go_enter Try.func15, Try.ntmps15
  go_wp2_with fail
  rw [HW.out]
  refine HC.out.mono ?_
  rintro x w2 ⟨rfl, rfl⟩
  clear HC
  go_wp2_with fail
  go_ret
  exact ⟨rfl, _, ⟨mo, mc, vd, K, HK.out.1⟩, HK.out.2⟩

set_option maxRecDepth 20000 in
set_option maxHeartbeats 1000000 in
theorem move_err (p B nc : Nat) (own : Nat → Nat) (S : Nst) (c e m : Int) (w : World) (h : Hid (IsNet w B own p S nc)) (hc : -9223372036854775808 ≤ c) (hc2 : c ≤ 9223372036854775807) (he : atE S c e m ≠ 0) :
    Calls Try.prog 16 #[.pointer (some ⟨p, 0, none⟩), .int .i64 c, .int .i64 e, .int .i64 m] w fun x w' => x = .returned (.tuple #[.int .i64 0, .int .i64 (atE S c e m)]) ∧ ∃ own', IsNet w' B own' p S nc ∧ Stp w w' own own' NetR := by
  obtain ⟨mo, mc, vd, K, hN⟩ := h.out
  have b0 := bel_alloc w (.cells #[.int .i64 e] 3)
  have a0 := alloc_cell w (.int .i64 e) 3
  have f0 := alloc_froz w (.int .i64 e) 3
  have b1 := bel_alloc (w.alloc (.cells #[.int .i64 e] 3)) (.cells #[.int .i64 m] 3)
  have a1 := alloc_cell (w.alloc (.cells #[.int .i64 e] 3)) (.int .i64 m) 3
  have f1 := alloc_froz (w.alloc (.cells #[.int .i64 e] 3)) (.int .i64 m) 3
  have b2 := bel_alloc ((w.alloc (.cells #[.int .i64 e] 3)).alloc (.cells #[.int .i64 m] 3)) (.cells #[.int .i64 0] 3)
  have a2 := alloc_cell ((w.alloc (.cells #[.int .i64 e] 3)).alloc (.cells #[.int .i64 m] 3)) (.int .i64 0) 3
  have f2 := alloc_froz ((w.alloc (.cells #[.int .i64 e] 3)).alloc (.cells #[.int .i64 m] 3)) (.int .i64 0) 3
  have s1 : (w.alloc (.cells #[.int .i64 e] 3)).heap.size = w.heap.size + 1 := by simp
  rw [s1] at a1 f1
  have s2 : ((w.alloc (.cells #[.int .i64 e] 3)).alloc (.cells #[.int .i64 m] 3)).heap.size = w.heap.size + 2 := by simp
  rw [s2] at a2 f2
  obtain ⟨W, hW⟩ : ∃ W, (((w.alloc (.cells #[.int .i64 e] 3)).alloc (.cells #[.int .i64 m] 3)).alloc (.cells #[.int .i64 0] 3)) = W := ⟨_, rfl⟩
  rw [hW] at b2 a2 f2
  have l2 := b2
  have l1 := b1.trans (l2.mono (by rw [s1, s2]; omega))
  have l0 := b0.trans (l1.mono (by rw [s1]; omega))
  have c0 := cell_on l1 a0
  have g0 := froz_on l1 (by rw [s1]; omega) f0
  have c1 := cell_on l2 a1
  have g1 := froz_on l2 (by rw [s2]; omega) f1
  have c2 := a2
  have g2 := f2
  have hbl := l0
  obtain ⟨hNW, hSW⟩ := net_alloc hN hbl
  have HC := hid (at_err p B nc mo mc (later own w.heap.size 4) S vd K c e m (.func (Fn.func 54) #[] #[.pointer (some ⟨w.heap.size, 0, none⟩), .pointer (some ⟨w.heap.size + 1, 0, none⟩), .pointer (some ⟨w.heap.size + 2, 0, none⟩)]) W hNW hc hc2 he)
  have HK := hid (And.intro hNW hSW)
  have HW := hid hW
  generalize atE S c e m = E at *
  clear hN hbl hNW hSW hc hc2 he hW b0 a0 f0 l0 g0 b1 a1 f1 l1 g1 b2 a2 f2 l2 g2 s1 s2
  go_enter Try.func16, Try.ntmps16
  go_wp2_with fail
  rw [HW.out]
  refine HC.out.mono ?_
  rintro x w2 ⟨rfl, rfl⟩
  clear HC
  go_wp2_with fail
  go_ret2
  exact ⟨rfl, _, ⟨mo, mc, vd, K, HK.out.1⟩, HK.out.2⟩

set_option maxRecDepth 20000 in
set_option maxHeartbeats 1000000 in
theorem read_err (p B nc : Nat) (own : Nat → Nat) (S : Nst) (c e m : Int) (w : World) (h : Hid (IsNet w B own p S nc)) (hc : -9223372036854775808 ≤ c) (hc2 : c ≤ 9223372036854775807) (he : atE S c e m ≠ 0) :
    Calls Try.prog 17 #[.pointer (some ⟨p, 0, none⟩), .int .i64 c, .int .i64 e, .int .i64 m] w fun x w' => x = .returned (.tuple #[.slice none 0 0, .bool false, .int .i64 (atE S c e m)]) ∧ ∃ own', IsNet w' B own' p S nc ∧ Stp w w' own own' NetR := by
  obtain ⟨mo, mc, vd, K, hN⟩ := h.out
  have b0 := bel_alloc w (.cells #[.int .i64 e] 3)
  have a0 := alloc_cell w (.int .i64 e) 3
  have f0 := alloc_froz w (.int .i64 e) 3
  have b1 := bel_alloc (w.alloc (.cells #[.int .i64 e] 3)) (.cells #[.int .i64 m] 3)
  have a1 := alloc_cell (w.alloc (.cells #[.int .i64 e] 3)) (.int .i64 m) 3
  have f1 := alloc_froz (w.alloc (.cells #[.int .i64 e] 3)) (.int .i64 m) 3
  have b2 := bel_alloc ((w.alloc (.cells #[.int .i64 e] 3)).alloc (.cells #[.int .i64 m] 3)) (.cells #[.slice none 0 0] 32)
  have a2 := alloc_cell ((w.alloc (.cells #[.int .i64 e] 3)).alloc (.cells #[.int .i64 m] 3)) (.slice none 0 0) 32
  have f2 := alloc_froz ((w.alloc (.cells #[.int .i64 e] 3)).alloc (.cells #[.int .i64 m] 3)) (.slice none 0 0) 32
  have b3 := bel_alloc (((w.alloc (.cells #[.int .i64 e] 3)).alloc (.cells #[.int .i64 m] 3)).alloc (.cells #[.slice none 0 0] 32)) (.cells #[.bool false] 4)
  have a3 := alloc_cell (((w.alloc (.cells #[.int .i64 e] 3)).alloc (.cells #[.int .i64 m] 3)).alloc (.cells #[.slice none 0 0] 32)) (.bool false) 4
  have f3 := alloc_froz (((w.alloc (.cells #[.int .i64 e] 3)).alloc (.cells #[.int .i64 m] 3)).alloc (.cells #[.slice none 0 0] 32)) (.bool false) 4
  have s1 : (w.alloc (.cells #[.int .i64 e] 3)).heap.size = w.heap.size + 1 := by simp
  rw [s1] at a1 f1
  have s2 : ((w.alloc (.cells #[.int .i64 e] 3)).alloc (.cells #[.int .i64 m] 3)).heap.size = w.heap.size + 2 := by simp
  rw [s2] at a2 f2
  have s3 : (((w.alloc (.cells #[.int .i64 e] 3)).alloc (.cells #[.int .i64 m] 3)).alloc (.cells #[.slice none 0 0] 32)).heap.size = w.heap.size + 3 := by simp
  rw [s3] at a3 f3
  obtain ⟨W, hW⟩ : ∃ W, ((((w.alloc (.cells #[.int .i64 e] 3)).alloc (.cells #[.int .i64 m] 3)).alloc (.cells #[.slice none 0 0] 32)).alloc (.cells #[.bool false] 4)) = W := ⟨_, rfl⟩
  rw [hW] at b3 a3 f3
  have l3 := b3
  have l2 := b2.trans (l3.mono (by rw [s2, s3]; omega))
  have l1 := b1.trans (l2.mono (by rw [s1, s2]; omega))
  have l0 := b0.trans (l1.mono (by rw [s1]; omega))
  have c0 := cell_on l1 a0
  have g0 := froz_on l1 (by rw [s1]; omega) f0
  have c1 := cell_on l2 a1
  have g1 := froz_on l2 (by rw [s2]; omega) f1
  have c2 := cell_on l3 a2
  have g2 := froz_on l3 (by rw [s3]; omega) f2
  have c3 := a3
  have g3 := f3
  have hbl := l0
  obtain ⟨hNW, hSW⟩ := net_alloc hN hbl
  have HC := hid (at_err p B nc mo mc (later own w.heap.size 4) S vd K c e m (.func (Fn.func 56) #[] #[.pointer (some ⟨w.heap.size, 0, none⟩), .pointer (some ⟨w.heap.size + 1, 0, none⟩), .pointer (some ⟨w.heap.size + 2, 0, none⟩), .pointer (some ⟨w.heap.size + 3, 0, none⟩)]) W hNW hc hc2 he)
  have HK := hid (And.intro hNW hSW)
  have HW := hid hW
  generalize atE S c e m = E at *
  clear hN hbl hNW hSW hc hc2 he hW b0 a0 f0 l0 g0 b1 a1 f1 l1 g1 b2 a2 f2 l2 g2 b3 a3 f3 l3 g3 s1 s2 s3
  go_enter Try.func17, Try.ntmps17
  go_wp2_with fail
  rw [HW.out]
  refine HC.out.mono ?_
  rintro x w2 ⟨rfl, rfl⟩
  clear HC
  go_wp2_with fail
  go_quiet (fail)
  go_wp2_with fail
  go_ret3
  exact ⟨rfl, _, ⟨mo, mc, vd, K, HK.out.1.keep (fun _ _ _ _ => ⟨rfl, rfl⟩)⟩, ⟨HK.out.2.wr.drewN _, HK.out.2.tag⟩⟩

set_option maxRecDepth 20000 in
set_option maxHeartbeats 1000000 in
theorem shut_err (p B nc : Nat) (own : Nat → Nat) (S : Nst) (c e : Int) (w : World) (h : Hid (IsNet w B own p S nc)) (hc : -9223372036854775808 ≤ c) (hc2 : c ≤ 9223372036854775807) (he : atE S c e 0 ≠ 0) :
    Calls Try.prog 19 #[.pointer (some ⟨p, 0, none⟩), .int .i64 c, .int .i64 e] w fun x w' => x = .returned (.int .i64 (atE S c e 0)) ∧ ∃ own', IsNet w' B own' p S nc ∧ Stp w w' own own' NetR := by
  obtain ⟨mo, mc, vd, K, hN⟩ := h.out
  have b0 := bel_alloc w (.cells #[.int .i64 e] 3)
  have a0 := alloc_cell w (.int .i64 e) 3
  have f0 := alloc_froz w (.int .i64 e) 3
  obtain ⟨W, hW⟩ : ∃ W, (w.alloc (.cells #[.int .i64 e] 3)) = W := ⟨_, rfl⟩
  rw [hW] at b0 a0 f0
  have l0 := b0
  have c0 := a0
  have g0 := f0
  have hbl := l0
  obtain ⟨hNW, hSW⟩ := net_alloc hN hbl
  have HC := hid (at_err p B nc mo mc (later own w.heap.size 4) S vd K c e 0 (.func (Fn.func 60) #[] #[.pointer (some ⟨w.heap.size, 0, none⟩)]) W hNW hc hc2 he)
  have HK := hid (And.intro hNW hSW)
  have HW := hid hW
  generalize atE S c e 0 = E at *
  clear hN hbl hNW hSW hc hc2 he hW b0 a0 f0 l0 g0
  go_enter Try.func19, Try.ntmps19
  go_wp2_with fail
  rw [HW.out]
  refine HC.out.mono ?_
  rintro x w2 ⟨rfl, rfl⟩
  clear HC
  go_wp2_with fail
  go_ret
  exact ⟨rfl, _, ⟨mo, mc, vd, K, HK.out.1⟩, HK.out.2⟩

end Go.Proofs.Ytgkfiolgipgbkaa.StmJ
