/- StreamOrder: the walk. -/
import Derived.Test.YtgkfiolgipgbkaaStmT
import Derived.Test.YtgkfiolgipgbkaaStmU
import Derived.Deep.DeepCutAuto
import Derived.Deep.CutBlock
import Derived.BigQuiet
namespace Go.Proofs.Ytgkfiolgipgbkaa.StmR
open Go.ChangeShapes Go.WideShapes Go.ChangeAt Go.RowKit Go.Deep Base Wri Map FrmP FrmA StmA StmB StmC StmD StmE StmF VaiA StmG StmH StmI StmJ StmK StmL StmM StmN StmP StmQ StmT StmU
set_option linter.unusedVariables false
set_option linter.unusedSimpArgs false
attribute [local go_sem ↓ high] builtin_app

theorem at_put_same {C : Con} {e : Nat} {x : Wy} : Con.at (Con.put C e x) e = x := by
  unfold Con.at Con.put
  by_cases h : e = 0 <;> simp [h]
theorem at_put_other {C : Con} {e i : Nat} {x : Wy} (he : e < 2) (hi : i < 2) (h : i ≠ e) : Con.at (Con.put C e x) i = Con.at C i := by
  unfold Con.at Con.put
  rcases (show e = 0 ∨ e = 1 by omega) with rfl | rfl <;> rcases (show i = 0 ∨ i = 1 by omega) with rfl | rfl <;> simp_all

theorem ln_write {W R : Nat → Bs} {M : Nat → Nat} {C : Con} {e : Nat} {s : Bs} (he : e < 2) (h : Ln W R M C) (h0 : wtE (Con.at C e) s.length = 0) : Ln (upd W e (W e ++ s)) R M (Con.put C e (Wy.wtIf (Con.at C e) s)) := fun i hi => by
  have hw : Wy.wtIf (Con.at C e) s = Wy.wt (Con.at C e) s := if_pos h0
  rw [hw]
  by_cases hie : i = e
  · subst hie
    rw [upd_same, at_put_same]
    obtain ⟨h1, h2, h3⟩ := h i hi
    exact ⟨by rw [h1]; show _ = R i ++ (Con.at C i).c ++ ((Con.at C i).u ++ s); simp only [List.append_assoc], h2, h3⟩
  · rw [upd_other hie, at_put_other he hi hie]
    exact h i hi
theorem ln_no {C : Con} {e : Nat} {s : Bs} (h0 : ¬ wtE (Con.at C e) s.length = 0) : Con.put C e (Wy.wtIf (Con.at C e) s) = C := by
  rw [show Wy.wtIf (Con.at C e) s = Con.at C e from if_neg h0]
  exact Con.put_same C e
theorem ln_move {W R : Nat → Bs} {M : Nat → Nat} {C : Con} {e m : Nat} (he : e < 2) (h : Ln W R M C) : Ln W R (upd M e (M e + ((Con.at C e).u.take m).length)) (Con.put C e (Wy.mv (Con.at C e) m)) := fun i hi => by
  by_cases hie : i = e
  · subst hie
    rw [upd_same, at_put_same]
    obtain ⟨h1, h2, h3⟩ := h i hi
    refine ⟨?_, ?_, h3⟩
    · rw [h1]
      show _ = R i ++ ((Con.at C i).c ++ (Con.at C i).u.take m) ++ (Con.at C i).u.drop m
      simp only [List.append_assoc, List.take_append_drop]
    · show _ = (R i).length + ((Con.at C i).c ++ (Con.at C i).u.take m).length
      rw [List.length_append, h2]
      omega
  · rw [upd_other hie, at_put_other he hi hie]
    exact h i hi
theorem ln_read {W R : Nat → Bs} {M : Nat → Nat} {C : Con} {e m : Nat} (he : e < 2) (h : Ln W R M C) : Ln W (upd R e (R e ++ (Con.at C e).c.take m)) M (Con.put C e (Wy.rd (Con.at C e) m)) := fun i hi => by
  by_cases hie : i = e
  · subst hie
    rw [upd_same, at_put_same]
    obtain ⟨h1, h2, h3⟩ := h i hi
    refine ⟨?_, ?_, h3⟩
    · rw [h1]
      show _ = R i ++ (Con.at C i).c.take m ++ (Con.at C i).c.drop m ++ (Con.at C i).u
      simp only [List.append_assoc]
      rw [← List.append_assoc ((Con.at C i).c.take m), List.take_append_drop]
    · show _ = (R i ++ (Con.at C i).c.take m).length + ((Con.at C i).c.drop m).length
      rw [List.length_append, List.length_take, List.length_drop, h2]
      omega
  · rw [upd_other hie, at_put_other he hi hie]
    exact h i hi

theorem upd_self {α : Type} (f : Nat → α) (e : Nat) : upd f e (f e) = f := by
  funext i
  unfold upd
  split
  · rename_i h; rw [h]
  · rfl

/-- the other connection stays small -/
def Sml (E : Con) (k : Nat) : Prop := ∀ e, e < 2 → (Con.at E e).u.length ≤ 65536 ∧ (Con.at E e).c.length ≤ 3 * k
theorem sml_next {E : Con} {k e : Nat} {s : Bs} (he : e < 2) (h : Sml E k) : Sml (Con.put (Con.put E e (Wy.wtIf (Con.at E e) s)) e (Wy.mv (Con.at (Con.put E e (Wy.wtIf (Con.at E e) s)) e) 3)) (k + 1) := fun i hi => by
  by_cases hie : i = e
  · subst hie
    rw [at_put_same, at_put_same]
    obtain ⟨h1, h2⟩ := h i hi
    have hu : (Wy.wtIf (Con.at E i) s).u.length ≤ 65536 ∧ (Wy.wtIf (Con.at E i) s).c = (Con.at E i).c := by
      unfold Wy.wtIf
      split
      · rename_i h0
        unfold wtE at h0
        refine ⟨?_, rfl⟩
        show ((Con.at E i).u ++ s).length ≤ _
        rw [List.length_append]
        split at h0
        · cases h0
        · split at h0
          · cases h0
          · omega
      · exact ⟨h1, rfl⟩
    refine ⟨?_, ?_⟩
    · show ((Wy.wtIf (Con.at E i) s).u.drop 3).length ≤ _
      rw [List.length_drop]
      omega
    · show ((Wy.wtIf (Con.at E i) s).c ++ (Wy.wtIf (Con.at E i) s).u.take 3).length ≤ _
      rw [List.length_append, hu.2, List.length_take]
      omega
  · rw [at_put_other he hi hie, at_put_other he hi hie]
    have := h i hi
    omega
theorem sml_mid {E : Con} {k e : Nat} {s : Bs} (he : e < 2) (h : Sml E k) : (Con.at (Con.put E e (Wy.wtIf (Con.at E e) s)) e).u.length + (Con.at (Con.put E e (Wy.wtIf (Con.at E e) s)) e).c.length ≤ 65536 + 3 * k := by
  rw [at_put_same]
  have h1 := h e he
  unfold Wy.wtIf
  split
  · rename_i h0
    unfold wtE at h0
    show ((Con.at E e).u ++ s).length + (Con.at E e).c.length ≤ _
    rw [List.length_append]
    split at h0
    · cases h0
    · split at h0
      · cases h0
      · omega
  · omega

theorem ln_len {W R : Nat → Bs} {M : Nat → Nat} {C : Con} {e : Nat} (he : e < 2) (h : Ln W R M C) : (W e).length = (R e).length + (Con.at C e).c.length + (Con.at C e).u.length ∧ M e = (R e).length + (Con.at C e).c.length := by
  obtain ⟨h1, h2, h3⟩ := h e he
  exact ⟨by rw [h1, List.length_append, List.length_append], h2⟩

theorem inv_of {w wr : World} {B p bw br bm bd k : Nat} {D : Nat → Dd} {own : Nat → Nat} {W R : Nat → Bs} {M : Nat → Nat} {xw xr : Nat → Value} {C E : Con} {d : Dd} (h : Rnd w wr B p bw br bm bd own W R M xw xr C E d) (hl : Ln W R M C) (hs : Sml E k) (hw : ∀ e, e < 2 → (W e).length ≤ sumS D k) : Inv w B p bw br bm D k wr :=
  ⟨own, W, R, M, xw, xr, C, E, h.law, h.net, hl, fun e he => ⟨hw e he, hs e he⟩⟩

/-- an array's cell of a list -/
theorem cell_w {w wr : World} {B p bw br bm bd e : Nat} {own : Nat → Nat} {W R : Nat → Bs} {M : Nat → Nat} {xw xr : Nat → Value} {C E : Con} {d : Dd} (h : Rnd w wr B p bw br bm bd own W R M xw xr C E d) (he : e < 2) : ∃ a c, xw e = .slice a (W e).length c ∧ wr.cell? ⟨bw, e, none⟩ = some (.slice a (W e).length c) ∧ (W e).length ≤ c ∧ BAt wr wr.heap.size a (W e) := by
  obtain ⟨a, c, h1, h2, h3, h4⟩ := (h.law.qw e he).bat
  refine ⟨a, c, h1, ?_, h2, h4⟩
  rw [← h1]
  rcases (show e = 0 ∨ e = 1 by omega) with rfl | rfl <;> exact blk_cell h.law.hw rfl
theorem cell_r {w wr : World} {B p bw br bm bd e : Nat} {own : Nat → Nat} {W R : Nat → Bs} {M : Nat → Nat} {xw xr : Nat → Value} {C E : Con} {d : Dd} (h : Rnd w wr B p bw br bm bd own W R M xw xr C E d) (he : e < 2) : ∃ a c, xr e = .slice a (R e).length c ∧ wr.cell? ⟨br, e, none⟩ = some (.slice a (R e).length c) ∧ (R e).length ≤ c ∧ BAt wr wr.heap.size a (R e) := by
  obtain ⟨a, c, h1, h2, h3, h4⟩ := (h.law.qr e he).bat
  refine ⟨a, c, h1, ?_, h2, h4⟩
  rw [← h1]
  rcases (show e = 0 ∨ e = 1 by omega) with rfl | rfl <;> exact blk_cell h.law.hr rfl
theorem cell_m {w wr : World} {B p bw br bm bd e : Nat} {own : Nat → Nat} {W R : Nat → Bs} {M : Nat → Nat} {xw xr : Nat → Value} {C E : Con} {d : Dd} (h : Rnd w wr B p bw br bm bd own W R M xw xr C E d) (he : e < 2) : wr.cell? ⟨bm, e, none⟩ = some (.int .i64 (M e : Nat)) := by
  rcases (show e = 0 ∨ e = 1 by omega) with rfl | rfl <;> exact blk_cell h.law.hm rfl

theorem app_w {w wr : World} {B p bw br bm bd e : Nat} {own : Nat → Nat} {W R : Nat → Bs} {M : Nat → Nat} {xw xr : Nat → Value} {C E : Con} {d : Dd} (h : Rnd w wr B p bw br bm bd own W R M xw xr C E d) (he : e < 2) {ax : Option Addr} {cx : Nat} {t : Bs} (ht : BAt wr wr.heap.size ax t) (hs : (W e).length + t.length ≤ 1099511627776) :
    ∃ ao co a6 n6 c6 w6, wr.cell? ⟨bw, e, none⟩ = some (.slice ao (W e).length co) ∧ (app #[32, 32] 32 #[.slice ao (W e).length co, .slice ax t.length cx]).run Try.prog wr = .ok (.slice a6 n6 c6) w6 ∧ w6.cell? ⟨bw, e, none⟩ = some (.slice ao (W e).length co) ∧ w6.frozen? ⟨bw, e, none⟩ = false ∧ ∃ own', Rnd w (w6.setCell ⟨bw, e, none⟩ (.slice a6 n6 c6)) B p bw br bm bd own' (upd W e (W e ++ t)) R M (upd xw e (.slice a6 n6 c6)) xr C E d := by
  obtain ⟨ao, co, h1, h2, h3, h4⟩ := cell_w h he
  obtain ⟨v', w6, hr, hq, hg, hat⟩ := run_append_que (ty := 32) (cx := cx) wr Try.underlying32 Try.underlying32 (h.law.qw e he) ht h.law.lo hs
  obtain ⟨a6, c6, h5, -⟩ := hq.shape
  subst h5
  have hb6 : w6.heap[bw]? = some (.cells #[xw 0, xw 1] 41 (0, 0)) := (hg.block bw (Array.getElem?_eq_some_iff.1 h.law.hw).1 (fun e2 => by have h6 := h.law.tqw e he bw e2.symm; rw [h.law.tw] at h6; omega)).trans h.law.hw
  refine ⟨ao, co, a6, _, c6, w6, h2, by rw [← h1]; exact hr, ?_, by simp [World.frozen?, hb6], h.appW he hq hg hat⟩
  rw [← h1]
  rcases (show e = 0 ∨ e = 1 by omega) with rfl | rfl <;> exact blk_cell hb6 rfl
theorem app_r {w wr : World} {B p bw br bm bd e : Nat} {own : Nat → Nat} {W R : Nat → Bs} {M : Nat → Nat} {xw xr : Nat → Value} {C E : Con} {d : Dd} (h : Rnd w wr B p bw br bm bd own W R M xw xr C E d) (he : e < 2) {ax : Option Addr} {cx : Nat} {t : Bs} (ht : BAt wr wr.heap.size ax t) (hs : (R e).length + t.length ≤ 1099511627776) :
    ∃ ao co a6 n6 c6 w6, wr.cell? ⟨br, e, none⟩ = some (.slice ao (R e).length co) ∧ (app #[32, 32] 32 #[.slice ao (R e).length co, .slice ax t.length cx]).run Try.prog wr = .ok (.slice a6 n6 c6) w6 ∧ w6.cell? ⟨br, e, none⟩ = some (.slice ao (R e).length co) ∧ w6.frozen? ⟨br, e, none⟩ = false ∧ ∃ own', Rnd w (w6.setCell ⟨br, e, none⟩ (.slice a6 n6 c6)) B p bw br bm bd own' W (upd R e (R e ++ t)) M xw (upd xr e (.slice a6 n6 c6)) C E d := by
  obtain ⟨ao, co, h1, h2, h3, h4⟩ := cell_r h he
  obtain ⟨v', w6, hr, hq, hg, hat⟩ := run_append_que (ty := 32) (cx := cx) wr Try.underlying32 Try.underlying32 (h.law.qr e he) ht h.law.lo hs
  obtain ⟨a6, c6, h5, -⟩ := hq.shape
  subst h5
  have hb6 : w6.heap[br]? = some (.cells #[xr 0, xr 1] 41 (0, 0)) := (hg.block br (Array.getElem?_eq_some_iff.1 h.law.hr).1 (fun e2 => by have h6 := h.law.tqr e he br e2.symm; rw [h.law.tr] at h6; omega)).trans h.law.hr
  refine ⟨ao, co, a6, _, c6, w6, h2, by rw [← h1]; exact hr, ?_, by simp [World.frozen?, hb6], h.appR he hq hg hat⟩
  rw [← h1]
  rcases (show e = 0 ∨ e = 1 by omega) with rfl | rfl <;> exact blk_cell hb6 rfl
theorem cell_m2 {w wr : World} {B p bw br bm bd e : Nat} {own : Nat → Nat} {W R : Nat → Bs} {M : Nat → Nat} {xw xr : Nat → Value} {C E : Con} {d : Dd} (h : Rnd w wr B p bw br bm bd own W R M xw xr C E d) (he : e < 2) : wr.frozen? ⟨bm, e, none⟩ = false := by
  have hb6 := h.law.hm
  simp [World.frozen?, hb6]
theorem bat_pre {w : World} {n0 : Nat} {a : Option Addr} {s t : Bs} (h : BAt w n0 a (s ++ t)) : BAt w n0 a s := fun h0 => by
  obtain ⟨g, o, e, hg, hc⟩ := h (by rw [List.length_append]; omega)
  exact ⟨g, o, e, hg, fun i x hx => hc i x (by rw [List.getElem?_append_left (List.getElem?_eq_some_iff.1 hx).1]; exact hx)⟩
theorem inv_drewN {w wr : World} {B p bw br bm k : Nat} {D : Nat → Dd} (h : Inv w B p bw br bm D k wr) (m : Nat) : Inv w B p bw br bm D k (wr.drewN m) := by
  obtain ⟨own, W, R, M, xw, xr, C, E, h1, ⟨S, h2, h3⟩, h4⟩ := h
  exact ⟨own, W, R, M, xw, xr, C, E, h1.drewN m, ⟨S, isn_same h2 rfl, h3⟩, h4⟩
theorem Inv.bel {w wr : World} {B p bw br bm k : Nat} {D : Nat → Dd} (h : Inv w B p bw br bm D k wr) : Below B w wr := by
  obtain ⟨own, W, R, M, xw, xr, C, E, h1, -⟩ := h
  exact h1.bel

/-- what a comparison of the two lists meets -/
theorem inv_look {w wr : World} {B p bw br bm k j : Nat} {D : Nat → Dd} (h : Inv w B p bw br bm D k wr) (hj : j < 2) (hk : sumS D k ≤ 1048576) : ∃ (aw ar : Option Addr) (cw cr nw nr nm : Nat) (s : Bs), s.length = nr ∧ nr ≤ cw ∧ nr ≤ nm ∧ nr ≤ 1048576 ∧ nm ≤ 1048576 ∧ wr.cell? ⟨bw, j, none⟩ = some (.slice aw nw cw) ∧ wr.cell? ⟨br, j, none⟩ = some (.slice ar nr cr) ∧ wr.cell? ⟨bm, j, none⟩ = some (.int .i64 nm) ∧ BAt wr wr.heap.size aw s ∧ BAt wr wr.heap.size ar s := by
  obtain ⟨own, W, R, M, xw, xr, C, E, h1, h2, h3, h4⟩ := h
  obtain ⟨aw, cw, e1, e2, e3, e4⟩ := (h1.qw j hj).bat
  obtain ⟨ar, cr, f1, f2, f3, f4⟩ := (h1.qr j hj).bat
  obtain ⟨g1, g2, g3⟩ := h3 j hj
  have hl := ln_len hj h3
  have hb := (h4 j hj).1
  refine ⟨aw, ar, cw, cr, (W j).length, (R j).length, M j, R j, rfl, by omega, by omega, by omega, by omega, ?_, ?_, ?_, ?_, f4⟩
  · rw [← e1]
    rcases (show j = 0 ∨ j = 1 by omega) with rfl | rfl <;> exact blk_cell h1.hw rfl
  · rw [← f1]
    rcases (show j = 0 ∨ j = 1 by omega) with rfl | rfl <;> exact blk_cell h1.hr rfl
  · rcases (show j = 0 ∨ j = 1 by omega) with rfl | rfl <;> exact blk_cell h1.hm rfl
  · rw [g1, List.append_assoc] at e4
    exact bat_pre e4



set_option maxRecDepth 100000 in
set_option maxHeartbeats 8000000 in
theorem order_core (a0 a1 : Option Addr) (n cap0 cap1 : Nat) (D : Nat → Dd) (s : Bs) (w : World) (HD : Hid (Dds w a0 n D)) (HS : Hid (BAt w w.heap.size a1 s)) (hs : s.length ≤ 1048576) :
    Calls Try.prog 4 #[.slice a0 n cap0, .slice a1 s.length cap1] w fun x w' => x = .returned (.bool true) ∧ Below w.heap.size w w' := by
  obtain ⟨L1, hL1⟩ : ∃ L1, s.length = L1 := ⟨_, rfl⟩
  have HL1 := hid hL1
  rw [hL1] at hs ⊢
  clear hL1
  go_enter Try.func4, Try.ntmps4
  go_wp2_with fail
  refine (live_any w).mono ?_
  rintro x w0 ⟨rfl, hb0⟩
  have HB0 := hid hb0
  have HN := hid (new_any (fun _ => FT) w0)
  clear hb0
  go_wp2_with fail
  refine HN.out.mono ?_
  rintro x w1 ⟨p, own1, rfl, hn, hs1⟩
  obtain ⟨hn2, hs2⟩ := isn_alloc hn (bel_alloc w1 (.cells #[.int .i64 1] 3)) FT
  have HL := hid (Listen_any p w0.heap.size 0 _ net0 (some ⟨w1.heap.size, 0, none⟩) 1 [1] _ (hid hn2) (by decide) (hid (single_at w1 1)) (fun g o e => by cases e; rw [later_new (Nat.le_refl _)]; decide))
  rw [show portE [1] = 0 from by decide, if_pos rfl, show (⟨fun j => net0.op j || [(1 : Int)].contains j, net0.di, net0.co⟩ : Nst) = U1 from rfl, show [(1 : Int)].length = 1 from rfl] at HL
  have HS0 := hid (hs1.trans hs2)
  clear hn hs1 hn2 hs2 HN
  go_wp2_with fail
  refine HL.out.mono ?_
  rintro x w2 ⟨rfl, own2, hn, hs1⟩
  have HS2 := hid (HS0.out.trans hs1)
  have HD1 := hid (dial_ok p w0.heap.size 0 own2 U1 1 w2 (hid hn) (by decide) (by decide) (by decide) HS2.out.wr.size (by decide))
  rw [show Nst.dial U1 1 = U2 from rfl, show ((U1.di.length + 1 : Nat) : Int) = 1 from rfl] at HD1
  clear hn hs1 HL HS0
  go_wp2_with fail
  refine HD1.out.mono ?_
  rintro x w3 ⟨rfl, own3, hn, hs1⟩
  have HS3 := hid (HS2.out.trans hs1)
  have HD2 := hid (dial_ok p w0.heap.size 1 own3 U2 1 w3 (hid hn) (by decide) (by decide) (by decide) HS3.out.wr.size (by decide))
  rw [show Nst.dial U2 1 = U3 from rfl, show ((U2.di.length + 1 : Nat) : Int) = 2 from rfl] at HD2
  clear hn hs1 HD1 HS2
  go_wp2_with fail
  refine HD2.out.mono ?_
  rintro x w4 ⟨rfl, own4, hn, hs1⟩
  have HS4 := hid (HS3.out.trans hs1)
  have HN4 := hid hn
  clear hn hs1 HD2 HS3
  go_wp2_with fail
  have HI0 := hid (start_inv (n := n) (D := D) HN4.out HS4.out)
  obtain ⟨bw, hbw⟩ : ∃ bw, w4.heap.size = bw := ⟨_, rfl⟩
  rw [hbw] at HI0 ⊢
  clear hbw HS4 HN4
  go_loopw [13] (fun i wr => ∃ k : Nat, k ≤ n ∧ i = .int .i64 k ∧ Inv w0 w0.heap.size p bw (bw + 1) (bw + 2) D k wr) (fun i _ => n - (intOf i).toNat)
  case atStart => exact ⟨0, Nat.zero_le _, rfl, HI0.out⟩
  case round =>
    obtain ⟨k, hk, rfl, hinv⟩ := hrel
    have HI := hid hinv
    clear hinv HI0
    by_cases hlt : k < n
    · obtain ⟨g, o, rfl, hg, hc⟩ := HD.out.at_ (by omega)
      have hbw : Below w.heap.size w wr := by
        obtain ⟨own, W, R, M, xw, xr, C, E, hL, -⟩ := HI.out
        exact HB0.out.trans (hL.bel.mono HB0.out.size)
      have mv : ∀ (j : Nat) v, (dw (D k))[j]? = some v → wr.cell? ⟨g, o + k * 6 + j, none⟩ = some v := fun j v hv => (hbw.cell (p := ⟨g, o + k * 6 + j, none⟩) hg).trans (hc k hlt j v hv)
      have c0 : wr.cell? ⟨g, o + k * 6, none⟩ = some (.int .i64 (D k).kind) := mv 0 _ rfl
      have c1 : wr.cell? ⟨g, o + k * 6 + 1, none⟩ = some (.int .i64 (D k).conn) := mv 1 _ rfl
      have c2 : wr.cell? ⟨g, o + k * 6 + 2, none⟩ = some (.int .i64 (D k).en) := mv 2 _ rfl
      have c3 : wr.cell? ⟨g, o + k * 6 + 3, none⟩ = some (.int .i64 (D k).num) := mv 3 _ rfl
      have c4 : wr.cell? ⟨g, o + k * 6 + 4, none⟩ = some (.slice (D k).pa (D k).ps.length (D k).pc) := mv 4 _ rfl
      have c5 : wr.cell? ⟨g, o + k * 6 + 5, none⟩ = some (.slice (D k).ba (D k).s.length (D k).bc) := mv 5 _ rfl
      have HBW := hid hbw
      have hbx := bel_alloc wr (.cells #[.int .i64 (D k).kind, .int .i64 (D k).conn, .int .i64 (D k).en, .int .i64 (D k).num, .slice (D k).pa (D k).ps.length (D k).pc, .slice (D k).ba (D k).s.length (D k).bc] 34)
      obtain ⟨own, W, R, M, xw, xr, C, E, hL, hNet, hLn, hbd⟩ := HI.out
      have hR0 : Rnd w0 (wr.alloc (.cells #[.int .i64 (D k).kind, .int .i64 (D k).conn, .int .i64 (D k).en, .int .i64 (D k).num, .slice (D k).pa (D k).ps.length (D k).pc, .slice (D k).ba (D k).s.length (D k).bc] 34)) w0.heap.size p bw (bw + 1) (bw + 2) wr.heap.size (later own wr.heap.size FT) W R M xw xr C E (D k) := by
        obtain ⟨S, hN, hS⟩ := hNet
        exact ⟨hL.alloc hbx FT, ⟨S, (isn_alloc hN hbx FT).1, hS⟩, heap_alloc_new _ _, later_new (Nat.le_refl _)⟩
      have HR0 := hid hR0
      have HBW1 := hid (hbw.trans (hbx.mono hbw.size))
      have HLN := hid hLn
      have HSM : Hid (Sml E k) := hid fun e he => (hbd e he).2
      have HWB : Hid (∀ e, e < 2 → (W e).length ≤ sumS D k) := hid fun e he => (hbd e he).1
      have HSB : Hid (∀ wx, Below w.heap.size w wx → BAt wx wx.heap.size a1 s) := hid fun wx hb => (HS.out.below hb).mono hb.size
      have HDB : Hid (∀ wx, Below w.heap.size w wx → BAt wx wx.heap.size (D k).ba (D k).s) := hid fun wx hb => ((HD.out.ok k hlt).bytes.below hb).mono hb.size
      clear hbw mv hc hbx hL hNet hLn hbd hR0 HI
      go_wp2_with fail
      obtain ⟨W1, hW1⟩ : ∃ W1, wr.alloc (.cells #[.int .i64 (D k).kind, .int .i64 (D k).conn, .int .i64 (D k).en, .int .i64 (D k).num, .slice (D k).pa (D k).ps.length (D k).pc, .slice (D k).ba (D k).s.length (D k).bc] 34) = W1 := ⟨_, rfl⟩
      rw [hW1] at HR0 HBW1 ⊢
      obtain ⟨bd, hbd⟩ : ∃ bd, wr.heap.size = bd := ⟨_, rfl⟩
      rw [hbd] at HR0 ⊢
      generalize later own bd FT = own1 at *
      clear hW1 hbd c0 c1 c2 c3 c4 c5 HBW
      obtain ⟨ev, hev⟩ : ∃ ev, wrap64 ((IntKind.u64.wrap (D k).en).tmod 2) = ev := ⟨_, rfl⟩
      have h01 := end_01 (D k).en
      rw [hev] at h01 ⊢
      have hnn := HD.out.len
      clear hev
      rcases h01 with rfl | rfl
      · skip
        have HW2 := write2_0 HR0 s a1 cap1 (by have := (HSM.out 0 (by omega)).1; rw [HL1.out]; omega) (HSB.out _ HBW1.out)
        rw [HL1.out] at HW2
        refine HW2.mono ?_
        rintro x w5 ⟨rfl, own5, h5⟩
        have HR5 := hid h5
        generalize wtE (Con.at E 0) L1 = r5
        clear h5 HW2
        go_wp2_with fail
        refine (move2_0 HR5 3 (by have := sml_mid (s := s) (e := 0) (by omega) HSM.out; have := HD.out.len; omega)).mono ?_
        rintro x w6 ⟨rfl, own6, h6⟩
        have HSM6 := hid (sml_next (s := s) (e := 0) (by omega) HSM.out)
        generalize Con.put (Con.put E 0 (Wy.wtIf (Con.at E 0) s)) 0 (Wy.mv (Con.at (Con.put E 0 (Wy.wtIf (Con.at E 0) s)) 0) 3) = E6 at *
        have HR6 := hid h6
        generalize ((Con.at (Con.put E 0 (Wy.wtIf (Con.at E 0) s)) 0).u.take 3).length = q6
        have x0 : w6.cell? ⟨bd, 0, none⟩ = some (.int .i64 (D k).kind) := blk_cell h6.box.1 rfl
        have x3 : w6.cell? ⟨bd, 3, none⟩ = some (.int .i64 (D k).num) := blk_cell h6.box.1 rfl
        have x5 : w6.cell? ⟨bd, 5, none⟩ = some (.slice (D k).ba (D k).s.length (D k).bc) := blk_cell h6.box.1 rfl
        clear h6 HR0 HR5 HSM
        go_upto_block 2 with fail
        go_cut [13] (fun i wx => i = .int .i64 k ∧ Inv w0 w0.heap.size p bw (bw + 1) (bw + 2) D (k + 1) wx)
        case first =>
          have HSU := hid (HD.out.sum (k + 1) (by omega))
          have HBG : Hid (∀ wx, Below w0.heap.size w0 wx → Below w.heap.size w wx) := hid fun wx hb => HB0.out.trans (hb.mono HB0.out.size)
          have HWB1 : Hid (∀ e, e < 2 → (W e).length ≤ sumS D (k + 1)) := hid fun e he => Nat.le_trans (HWB.out e he) (by show sumS D k ≤ sumS D k + (D k).s.length; omega)
          by_cases k3 : (D k).kind = 3
          · have d3 : ((D k).kind == 3) = true := by simpa using k3
            clear k3
            as_aux_lemma =>
            go_wp2_with fail
            refine (write1_0 HR6 (D k).s (D k).ba (D k).bc (by have h1 := (ln_len (e := 0) (by omega) HLN.out).1; have h2 := HWB.out 0 (by omega); have h3 : sumS D k + (D k).s.length ≤ 1048576 := HSU.out; omega) (HDB.out _ (HBG.out _ HR6.out.law.bel))).mono ?_
            rintro x w7 ⟨rfl, own7, h7⟩
            by_cases hz : wtE (Con.at C 0) (D k).s.length = 0
            · have HLN7 := hid (ln_write (s := (D k).s) (e := 0) (by omega) HLN.out hz)
              have x5' : w7.cell? ⟨bd, 5, none⟩ = some (.slice (D k).ba (D k).s.length (D k).bc) := blk_cell h7.box.1 rfl
              have h7' : Rnd w0 w7.drew w0.heap.size p bw (bw + 1) (bw + 2) bd own7 W R M xw xr (Con.put C 0 (Wy.wtIf (Con.at C 0) (D k).s)) E6 (D k) := h7.drewN 1
              obtain ⟨ao, co, a6, n6, c6, w8, y1, hrun, y2, y3, own8, h8⟩ := app_w (e := 0) (ax := (D k).ba) (cx := (D k).bc) (t := (D k).s) h7' (by omega) (HDB.out _ (HBG.out _ h7'.law.bel)) (by have h2 := HWB.out 0 (by omega); have h3 : sumS D k + (D k).s.length ≤ 1048576 := HSU.out; omega)
              have y0 : w7.cell? ⟨bw, 0, none⟩ = some (.slice ao (W 0).length co) := y1
              have HR8 := hid h8
              rw [hz]
              clear h7 h7' h8 HR6 x0 x3 x5 y1
              have HWB8 : Hid (∀ i, i < 2 → (upd W 0 (W 0 ++ (D k).s) i).length ≤ sumS D (k + 1)) := hid (fun i hi => by
                have h3 := HWB.out i hi
                show _ ≤ sumS D k + (D k).s.length
                by_cases hie : i = 0
                · subst hie
                  rw [upd_same, List.length_append]
                  omega
                · rw [upd_other hie]
                  omega)
              generalize (W 0).length = nW at *
              go_wp2_with fail
              go_region
              all_goals
                go_wp2_with fail
                go_meet
                exact ⟨rfl, inv_of HR8.out HLN7.out HSM6.out HWB8.out⟩
            · rw [ln_no hz] at h7
              have HR7 := hid h7
              clear h7 HR6 x0 x3 x5
              generalize wtE (Con.at C 0) (D k).s.length = r7 at *
              go_wp2_with fail
              go_meet
              exact ⟨rfl, inv_of HR7.out HLN.out HSM6.out HWB1.out⟩
          · by_cases k4 : (D k).kind = 4
            · have d3 : ((D k).kind == 3) = false := by simpa using k3
              have d4 : ((D k).kind == 4) = true := by simpa using k4
              clear k3 k4
              as_aux_lemma =>
              go_wp2_with fail
              by_cases hneg : (D k).num < 0
              · refine (moveE_0 HR6 (D k).num hneg).mono ?_
                rintro x w7 ⟨rfl, own7, h7⟩
                have HR7 := hid h7
                clear h7 HR6 x0 x3 x5
                go_wp2_with fail
                go_quiet (fail)
                go_wp2_with fail
                go_meet
                exact ⟨rfl, inv_of (HR7.out.drewN _) HLN.out HSM6.out HWB1.out⟩
              · obtain ⟨m, hm⟩ : ∃ m : Nat, (D k).num = m := ⟨(D k).num.toNat, by omega⟩
                rw [hm]
                refine (move1_0 HR6 m (by have h1 := (ln_len (e := 0) (by omega) HLN.out).1; have h2 := HWB.out 0 (by omega); have h3 : sumS D k + (D k).s.length ≤ 1048576 := HSU.out; omega)).mono ?_
                rintro x w7 ⟨rfl, own7, h7⟩
                have HLN7 := hid (ln_move (m := m) (e := 0) (by omega) HLN.out)
                have hq : ((Con.at C 0).u.take m).length ≤ m := by rw [List.length_take]; omega
                have hmw : M 0 + ((Con.at C 0).u.take m).length ≤ (W 0).length := by
                  have h1 := ln_len (e := 0) (by omega) HLN.out
                  rw [List.length_take]
                  omega
                have hw2 : (W 0).length ≤ 1048576 := by have h2 := HWB.out 0 (by omega); have h3 : sumS D k + (D k).s.length ≤ 1048576 := HSU.out; omega
                have h8 := h7.setM (m := M 0 + ((Con.at C 0).u.take m).length) (e := 0) (by omega)
                have y0 : w7.cell? ⟨bw + 2, 0, none⟩ = some (.int .i64 (M 0 : Nat)) := cell_m (e := 0) h7 (by omega)
                obtain ⟨ao, co, -, z1, -, -⟩ := cell_w (e := 0) h8 (by omega)
                have z2 := cell_m (e := 0) h8 (by omega)
                rw [upd_same] at z2
                have z3 : (w7.setCell ⟨bw + 2, 0, none⟩ (.int .i64 ((M 0 + ((Con.at C 0).u.take m).length : Nat) : Int))).cell? ⟨bd, 3, none⟩ = some (.int .i64 (D k).num) := blk_cell h8.box.1 rfl
                rw [hm] at z3
                have y3 := cell_m2 (e := 0) h7 (by omega)
                have HR8 := hid h8
                clear h7 h8 HR6 x0 x3 x5
                generalize ((Con.at C 0).u.take m).length = q at *
                rw [Int.natCast_add] at z1 z2 z3 HR8
                have HR8 : Hid (Rnd w0 (w7.setCell ⟨bw + 2, 0, none⟩ (.int .i64 ((M 0 : Int) + (q : Int)))) w0.heap.size p bw (bw + 1) (bw + 2) bd own7 W R (upd M 0 (M 0 + q)) xw xr (Con.put C 0 (Wy.mv (Con.at C 0) m)) E6 (D k)) := HR8
                generalize (W 0).length = nW at *
                generalize M 0 = nM at *
                go_wp2_with fail
                obtain ⟨w8, hw8⟩ : ∃ w8, w7.setCell ⟨bw + 2, 0, none⟩ (.int .i64 ((nM : Int) + (q : Int))) = w8 := ⟨_, rfl⟩
                rw [hw8] at z1 z2 z3 HR8 ⊢
                clear hw8 y0 y3
                go_quiet (fail)
                go_wp2_with fail
                go_meet
                exact ⟨rfl, inv_of (HR8.out.drewN _) HLN7.out HSM6.out HWB1.out⟩
            · by_cases k5 : (D k).kind = 5
              · have d3 : ((D k).kind == 3) = false := by simpa using k3
                have d4 : ((D k).kind == 4) = false := by simpa using k4
                have d5 : ((D k).kind == 5) = true := by simpa using k5
                clear k3 k4 k5
                as_aux_lemma =>
                go_wp2_with fail
                by_cases hneg : (D k).num < 0
                · refine (readE_0 HR6 (D k).num hneg).mono ?_
                  rintro x w7 ⟨rfl, own7, h7⟩
                  obtain ⟨ao, co, a6, n6, c6, w8, y1, hrun, y2, y3, own8, h8⟩ := app_r (e := 1) (ax := none) (cx := 0) (t := []) h7 (by omega) (fun h0 => by cases h0) (by have h1 := (ln_len (e := 1) (by omega) HLN.out).1; have h2 := HWB.out 1 (by omega); have h3 : sumS D k + (D k).s.length ≤ 1048576 := HSU.out; simp; omega)
                  rw [List.append_nil, upd_self] at h8
                  have hrun : (app #[32, 32] 32 #[.slice ao (R 1).length co, .slice none 0 0]).run Try.prog w7 = .ok (.slice a6 n6 c6) w8 := hrun
                  have HR8 := hid h8
                  clear h7 h8 HR6 x0 x3 x5
                  generalize (R 1).length = nR at *
                  go_wp2_with fail
                  go_meet
                  exact ⟨rfl, inv_of HR8.out HLN.out HSM6.out HWB1.out⟩
                · obtain ⟨m, hm⟩ : ∃ m : Nat, (D k).num = m := ⟨(D k).num.toNat, by omega⟩
                  rw [hm]
                  refine (read1_0 HR6 m (by have h1 := (ln_len (e := 1) (by omega) HLN.out).1; have h2 := HWB.out 1 (by omega); have h3 : sumS D k + (D k).s.length ≤ 1048576 := HSU.out; omega)).mono ?_
                  rintro x w7 ⟨va, vc, rfl, hvb, own7, h7⟩
                  have HLN7 := hid (ln_read (m := m) (e := 1) (by omega) HLN.out)
                  obtain ⟨ao, co, a6, n6, c6, w8, y1, hrun, y2, y3, own8, h8⟩ := app_r (e := 1) (cx := vc) h7 (by omega) hvb (by have h1 := (ln_len (e := 1) (by omega) HLN.out).1; have h2 := HWB.out 1 (by omega); have h3 : sumS D k + (D k).s.length ≤ 1048576 := HSU.out; rw [List.length_take]; omega)
                  have HR8 := hid h8
                  clear h7 h8 HR6 x0 x3 x5 hvb
                  generalize ((Con.at C 1).c.take m).length = q at *
                  generalize overB (Wy.rd (Con.at C 1) m) = ov at *
                  generalize (R 1).length = nR at *
                  go_wp2_with fail
                  go_meet
                  exact ⟨rfl, inv_of HR8.out HLN7.out HSM6.out HWB1.out⟩
              · have d3 : ((D k).kind == 3) = false := by simpa using k3
                have d4 : ((D k).kind == 4) = false := by simpa using k4
                have d5 : ((D k).kind == 5) = false := by simpa using k5
                generalize (D k).kind = kd at *
                go_wp2_with fail
                go_meet
                exact ⟨rfl, inv_of HR6.out HLN.out HSM6.out HWB1.out⟩
        case rest =>
          obtain ⟨rfl, hinv⟩ := hcut
          have HI := hid hinv
          have HSU := hid (HD.out.sum (k + 1) (by omega))
          clear hinv
          as_aux_lemma =>
          go_wp2_with fail
          go_loopw [21] (fun i wr => ∃ j : Nat, j ≤ 2 ∧ i = .int .i64 j ∧ Inv w0 w0.heap.size p bw (bw + 1) (bw + 2) D (k + 1) wr) (fun i _ => 2 - (intOf i).toNat)
          case atStart => exact ⟨0, by omega, rfl, HI.out⟩
          case round =>
            obtain ⟨j, hj, rfl, hinv⟩ := hrel
            by_cases hj2 : j < 2
            · obtain ⟨aw, ar, cw, cr, nw, nr, nm, sx, hl, l1, l2, l3, l4, y1, y2, y3, y4, y5⟩ := inv_look hinv hj2 HSU.out
              have HI2 := hid hinv
              have hsl := fun wx => run_upto aw cw nw nr l1 32 Try.underlying32 rfl wx
              have HS := hid (fun i => (same_bytes ar aw cr cw sx (wr.drewN i) (by omega) (hid y5) (hid y4)).mono fun e w' ⟨h5, m5, h6⟩ => (⟨h5, i + m5, by rw [← h6, World.drewN_drewN]⟩ : e = Ending.returned (.bool true) ∧ ∃ m, w' = wr.drewN m))
              rw [hl] at HS
              clear hinv y4 y5 hl HI
              rcases (show j = 0 ∨ j = 1 by omega) with rfl | rfl
              all_goals
                go_wp2_with fail
                go_quiet ((go_at_call 18; exact HS.out _))
                go_wp2_with fail
                go_roundw
                case rel => (first | exact ⟨1, by decide, rfl, inv_drewN HI2.out _⟩ | exact ⟨2, by decide, rfl, inv_drewN HI2.out _⟩)
                case measure => simp [intOf]
            · have HI2 := hid hinv
              clear hinv HI
              go_wp2_with fail
              go_roundw
              case rel => exact ⟨k + 1, by omega, by go_num, HI2.out⟩
              case measure => simp [intOf]; omega
      · skip
        have HW2 := write2_1 HR0 s a1 cap1 (by have := (HSM.out 1 (by omega)).1; rw [HL1.out]; omega) (HSB.out _ HBW1.out)
        rw [HL1.out] at HW2
        refine HW2.mono ?_
        rintro x w5 ⟨rfl, own5, h5⟩
        have HR5 := hid h5
        generalize wtE (Con.at E 1) L1 = r5
        clear h5 HW2
        go_wp2_with fail
        refine (move2_1 HR5 3 (by have := sml_mid (s := s) (e := 1) (by omega) HSM.out; have := HD.out.len; omega)).mono ?_
        rintro x w6 ⟨rfl, own6, h6⟩
        have HSM6 := hid (sml_next (s := s) (e := 1) (by omega) HSM.out)
        generalize Con.put (Con.put E 1 (Wy.wtIf (Con.at E 1) s)) 1 (Wy.mv (Con.at (Con.put E 1 (Wy.wtIf (Con.at E 1) s)) 1) 3) = E6 at *
        have HR6 := hid h6
        generalize ((Con.at (Con.put E 1 (Wy.wtIf (Con.at E 1) s)) 1).u.take 3).length = q6
        have x0 : w6.cell? ⟨bd, 0, none⟩ = some (.int .i64 (D k).kind) := blk_cell h6.box.1 rfl
        have x3 : w6.cell? ⟨bd, 3, none⟩ = some (.int .i64 (D k).num) := blk_cell h6.box.1 rfl
        have x5 : w6.cell? ⟨bd, 5, none⟩ = some (.slice (D k).ba (D k).s.length (D k).bc) := blk_cell h6.box.1 rfl
        clear h6 HR0 HR5 HSM
        go_upto_block 2 with fail
        go_cut [13] (fun i wx => i = .int .i64 k ∧ Inv w0 w0.heap.size p bw (bw + 1) (bw + 2) D (k + 1) wx)
        case first =>
          have HSU := hid (HD.out.sum (k + 1) (by omega))
          have HBG : Hid (∀ wx, Below w0.heap.size w0 wx → Below w.heap.size w wx) := hid fun wx hb => HB0.out.trans (hb.mono HB0.out.size)
          have HWB1 : Hid (∀ e, e < 2 → (W e).length ≤ sumS D (k + 1)) := hid fun e he => Nat.le_trans (HWB.out e he) (by show sumS D k ≤ sumS D k + (D k).s.length; omega)
          by_cases k3 : (D k).kind = 3
          · have d3 : ((D k).kind == 3) = true := by simpa using k3
            clear k3
            as_aux_lemma =>
            go_wp2_with fail
            refine (write1_1 HR6 (D k).s (D k).ba (D k).bc (by have h1 := (ln_len (e := 1) (by omega) HLN.out).1; have h2 := HWB.out 1 (by omega); have h3 : sumS D k + (D k).s.length ≤ 1048576 := HSU.out; omega) (HDB.out _ (HBG.out _ HR6.out.law.bel))).mono ?_
            rintro x w7 ⟨rfl, own7, h7⟩
            by_cases hz : wtE (Con.at C 1) (D k).s.length = 0
            · have HLN7 := hid (ln_write (s := (D k).s) (e := 1) (by omega) HLN.out hz)
              have x5' : w7.cell? ⟨bd, 5, none⟩ = some (.slice (D k).ba (D k).s.length (D k).bc) := blk_cell h7.box.1 rfl
              have h7' : Rnd w0 w7.drew w0.heap.size p bw (bw + 1) (bw + 2) bd own7 W R M xw xr (Con.put C 1 (Wy.wtIf (Con.at C 1) (D k).s)) E6 (D k) := h7.drewN 1
              obtain ⟨ao, co, a6, n6, c6, w8, y1, hrun, y2, y3, own8, h8⟩ := app_w (e := 1) (ax := (D k).ba) (cx := (D k).bc) (t := (D k).s) h7' (by omega) (HDB.out _ (HBG.out _ h7'.law.bel)) (by have h2 := HWB.out 1 (by omega); have h3 : sumS D k + (D k).s.length ≤ 1048576 := HSU.out; omega)
              have y0 : w7.cell? ⟨bw, 1, none⟩ = some (.slice ao (W 1).length co) := y1
              have HR8 := hid h8
              rw [hz]
              clear h7 h7' h8 HR6 x0 x3 x5 y1
              have HWB8 : Hid (∀ i, i < 2 → (upd W 1 (W 1 ++ (D k).s) i).length ≤ sumS D (k + 1)) := hid (fun i hi => by
                have h3 := HWB.out i hi
                show _ ≤ sumS D k + (D k).s.length
                by_cases hie : i = 1
                · subst hie
                  rw [upd_same, List.length_append]
                  omega
                · rw [upd_other hie]
                  omega)
              generalize (W 1).length = nW at *
              go_wp2_with fail
              go_region
              all_goals
                go_wp2_with fail
                go_meet
                exact ⟨rfl, inv_of HR8.out HLN7.out HSM6.out HWB8.out⟩
            · rw [ln_no hz] at h7
              have HR7 := hid h7
              clear h7 HR6 x0 x3 x5
              generalize wtE (Con.at C 1) (D k).s.length = r7 at *
              go_wp2_with fail
              go_meet
              exact ⟨rfl, inv_of HR7.out HLN.out HSM6.out HWB1.out⟩
          · by_cases k4 : (D k).kind = 4
            · have d3 : ((D k).kind == 3) = false := by simpa using k3
              have d4 : ((D k).kind == 4) = true := by simpa using k4
              clear k3 k4
              as_aux_lemma =>
              go_wp2_with fail
              by_cases hneg : (D k).num < 0
              · refine (moveE_1 HR6 (D k).num hneg).mono ?_
                rintro x w7 ⟨rfl, own7, h7⟩
                have HR7 := hid h7
                clear h7 HR6 x0 x3 x5
                go_wp2_with fail
                go_quiet (fail)
                go_wp2_with fail
                go_meet
                exact ⟨rfl, inv_of (HR7.out.drewN _) HLN.out HSM6.out HWB1.out⟩
              · obtain ⟨m, hm⟩ : ∃ m : Nat, (D k).num = m := ⟨(D k).num.toNat, by omega⟩
                rw [hm]
                refine (move1_1 HR6 m (by have h1 := (ln_len (e := 1) (by omega) HLN.out).1; have h2 := HWB.out 1 (by omega); have h3 : sumS D k + (D k).s.length ≤ 1048576 := HSU.out; omega)).mono ?_
                rintro x w7 ⟨rfl, own7, h7⟩
                have HLN7 := hid (ln_move (m := m) (e := 1) (by omega) HLN.out)
                have hq : ((Con.at C 1).u.take m).length ≤ m := by rw [List.length_take]; omega
                have hmw : M 1 + ((Con.at C 1).u.take m).length ≤ (W 1).length := by
                  have h1 := ln_len (e := 1) (by omega) HLN.out
                  rw [List.length_take]
                  omega
                have hw2 : (W 1).length ≤ 1048576 := by have h2 := HWB.out 1 (by omega); have h3 : sumS D k + (D k).s.length ≤ 1048576 := HSU.out; omega
                have h8 := h7.setM (m := M 1 + ((Con.at C 1).u.take m).length) (e := 1) (by omega)
                have y0 : w7.cell? ⟨bw + 2, 1, none⟩ = some (.int .i64 (M 1 : Nat)) := cell_m (e := 1) h7 (by omega)
                obtain ⟨ao, co, -, z1, -, -⟩ := cell_w (e := 1) h8 (by omega)
                have z2 := cell_m (e := 1) h8 (by omega)
                rw [upd_same] at z2
                have z3 : (w7.setCell ⟨bw + 2, 1, none⟩ (.int .i64 ((M 1 + ((Con.at C 1).u.take m).length : Nat) : Int))).cell? ⟨bd, 3, none⟩ = some (.int .i64 (D k).num) := blk_cell h8.box.1 rfl
                rw [hm] at z3
                have y3 := cell_m2 (e := 1) h7 (by omega)
                have HR8 := hid h8
                clear h7 h8 HR6 x0 x3 x5
                generalize ((Con.at C 1).u.take m).length = q at *
                rw [Int.natCast_add] at z1 z2 z3 HR8
                have HR8 : Hid (Rnd w0 (w7.setCell ⟨bw + 2, 1, none⟩ (.int .i64 ((M 1 : Int) + (q : Int)))) w0.heap.size p bw (bw + 1) (bw + 2) bd own7 W R (upd M 1 (M 1 + q)) xw xr (Con.put C 1 (Wy.mv (Con.at C 1) m)) E6 (D k)) := HR8
                generalize (W 1).length = nW at *
                generalize M 1 = nM at *
                go_wp2_with fail
                obtain ⟨w8, hw8⟩ : ∃ w8, w7.setCell ⟨bw + 2, 1, none⟩ (.int .i64 ((nM : Int) + (q : Int))) = w8 := ⟨_, rfl⟩
                rw [hw8] at z1 z2 z3 HR8 ⊢
                clear hw8 y0 y3
                go_quiet (fail)
                go_wp2_with fail
                go_meet
                exact ⟨rfl, inv_of (HR8.out.drewN _) HLN7.out HSM6.out HWB1.out⟩
            · by_cases k5 : (D k).kind = 5
              · have d3 : ((D k).kind == 3) = false := by simpa using k3
                have d4 : ((D k).kind == 4) = false := by simpa using k4
                have d5 : ((D k).kind == 5) = true := by simpa using k5
                clear k3 k4 k5
                as_aux_lemma =>
                go_wp2_with fail
                by_cases hneg : (D k).num < 0
                · refine (readE_1 HR6 (D k).num hneg).mono ?_
                  rintro x w7 ⟨rfl, own7, h7⟩
                  obtain ⟨ao, co, a6, n6, c6, w8, y1, hrun, y2, y3, own8, h8⟩ := app_r (e := 0) (ax := none) (cx := 0) (t := []) h7 (by omega) (fun h0 => by cases h0) (by have h1 := (ln_len (e := 0) (by omega) HLN.out).1; have h2 := HWB.out 0 (by omega); have h3 : sumS D k + (D k).s.length ≤ 1048576 := HSU.out; simp; omega)
                  rw [List.append_nil, upd_self] at h8
                  have hrun : (app #[32, 32] 32 #[.slice ao (R 0).length co, .slice none 0 0]).run Try.prog w7 = .ok (.slice a6 n6 c6) w8 := hrun
                  have HR8 := hid h8
                  clear h7 h8 HR6 x0 x3 x5
                  generalize (R 0).length = nR at *
                  go_wp2_with fail
                  go_meet
                  exact ⟨rfl, inv_of HR8.out HLN.out HSM6.out HWB1.out⟩
                · obtain ⟨m, hm⟩ : ∃ m : Nat, (D k).num = m := ⟨(D k).num.toNat, by omega⟩
                  rw [hm]
                  refine (read1_1 HR6 m (by have h1 := (ln_len (e := 0) (by omega) HLN.out).1; have h2 := HWB.out 0 (by omega); have h3 : sumS D k + (D k).s.length ≤ 1048576 := HSU.out; omega)).mono ?_
                  rintro x w7 ⟨va, vc, rfl, hvb, own7, h7⟩
                  have HLN7 := hid (ln_read (m := m) (e := 0) (by omega) HLN.out)
                  obtain ⟨ao, co, a6, n6, c6, w8, y1, hrun, y2, y3, own8, h8⟩ := app_r (e := 0) (cx := vc) h7 (by omega) hvb (by have h1 := (ln_len (e := 0) (by omega) HLN.out).1; have h2 := HWB.out 0 (by omega); have h3 : sumS D k + (D k).s.length ≤ 1048576 := HSU.out; rw [List.length_take]; omega)
                  have HR8 := hid h8
                  clear h7 h8 HR6 x0 x3 x5 hvb
                  generalize ((Con.at C 0).c.take m).length = q at *
                  generalize overB (Wy.rd (Con.at C 0) m) = ov at *
                  generalize (R 0).length = nR at *
                  go_wp2_with fail
                  go_meet
                  exact ⟨rfl, inv_of HR8.out HLN7.out HSM6.out HWB1.out⟩
              · have d3 : ((D k).kind == 3) = false := by simpa using k3
                have d4 : ((D k).kind == 4) = false := by simpa using k4
                have d5 : ((D k).kind == 5) = false := by simpa using k5
                generalize (D k).kind = kd at *
                go_wp2_with fail
                go_meet
                exact ⟨rfl, inv_of HR6.out HLN.out HSM6.out HWB1.out⟩
        case rest =>
          obtain ⟨rfl, hinv⟩ := hcut
          have HI := hid hinv
          have HSU := hid (HD.out.sum (k + 1) (by omega))
          clear hinv
          as_aux_lemma =>
          go_wp2_with fail
          go_loopw [21] (fun i wr => ∃ j : Nat, j ≤ 2 ∧ i = .int .i64 j ∧ Inv w0 w0.heap.size p bw (bw + 1) (bw + 2) D (k + 1) wr) (fun i _ => 2 - (intOf i).toNat)
          case atStart => exact ⟨0, by omega, rfl, HI.out⟩
          case round =>
            obtain ⟨j, hj, rfl, hinv⟩ := hrel
            by_cases hj2 : j < 2
            · obtain ⟨aw, ar, cw, cr, nw, nr, nm, sx, hl, l1, l2, l3, l4, y1, y2, y3, y4, y5⟩ := inv_look hinv hj2 HSU.out
              have HI2 := hid hinv
              have hsl := fun wx => run_upto aw cw nw nr l1 32 Try.underlying32 rfl wx
              have HS := hid (fun i => (same_bytes ar aw cr cw sx (wr.drewN i) (by omega) (hid y5) (hid y4)).mono fun e w' ⟨h5, m5, h6⟩ => (⟨h5, i + m5, by rw [← h6, World.drewN_drewN]⟩ : e = Ending.returned (.bool true) ∧ ∃ m, w' = wr.drewN m))
              rw [hl] at HS
              clear hinv y4 y5 hl HI
              rcases (show j = 0 ∨ j = 1 by omega) with rfl | rfl
              all_goals
                go_wp2_with fail
                go_quiet ((go_at_call 18; exact HS.out _))
                go_wp2_with fail
                go_roundw
                case rel => (first | exact ⟨1, by decide, rfl, inv_drewN HI2.out _⟩ | exact ⟨2, by decide, rfl, inv_drewN HI2.out _⟩)
                case measure => simp [intOf]
            · have HI2 := hid hinv
              clear hinv HI
              go_wp2_with fail
              go_roundw
              case rel => exact ⟨k + 1, by omega, by go_num, HI2.out⟩
              case measure => simp [intOf]; omega
    · obtain rfl : k = n := by omega
      have HF := hid (fin_of HI.out (HD.out.sum k (by omega)))
      clear HI
      go_wp2_with fail
      go_loopw [22] (fun i wr => ∃ j : Nat, j ≤ 2 ∧ i = .int .i64 j ∧ Fin w0 w0.heap.size p bw (bw + 1) (bw + 2) j wr) (fun i _ => 2 - (intOf i).toNat)
      case atStart => exact ⟨0, by omega, rfl, HF.out⟩
      case round =>
        obtain ⟨j, hj, rfl, own, W, R, M, xw, xr, C, E, hN, hx, hw⟩ := hrel
        clear HF
        by_cases hj2 : j < 2
        · rcases (show j = 0 ∨ j = 1 by omega) with rfl | rfl
          · as_aux_lemma =>
            have HX := hid (hx 0 (by omega) (Nat.le_refl _))
            have HO : Hid (∀ i, i < 2 → 0 < i → Lx W R C i) := hid fun i hi h => hx i hi (by omega)
            have HW := hid hw
            obtain ⟨aw, cw, y1, -⟩ := ncell_w (e := 0) hN (by omega)
            obtain ⟨ar, cr, y2, -⟩ := ncell_r (e := 0) hN (by omega)
            have HN := hid hN
            have hlen := lx_len HX.out
            have hwe := hw 0 (by omega)
            clear hN hx hw
            obtain ⟨r, hr⟩ : ∃ r, (Con.at C 0).c.length + (Con.at C 0).u.length = r := ⟨_, rfl⟩
            have Hr := hid hr
            rw [hr] at hlen
            clear hr
            obtain ⟨nW, hnW⟩ : ∃ nW, (W 0).length = nW := ⟨_, rfl⟩
            obtain ⟨nR, hnR⟩ : ∃ nR, (R 0).length = nR := ⟨_, rfl⟩
            rw [hnW, hnR] at hlen
            rw [hnW] at hwe y1
            rw [hnR] at y2
            have HnW := hid hnW
            have HnR := hid hnR
            clear hnW hnR
            have hsub : (nW : Int) - (nR : Int) = (r : Int) := by omega
            have Hlen := hid hlen
            have hrb : r ≤ 1048576 := by omega
            have hrn : nR ≤ 1048576 := by omega
            clear hlen
            go_wp2_with fail
            go_quiet (fail)
            go_wp2_with fail
            clear y1 y2
            refine (nshut1_0 (hid (HN.out.drewN nq))).mono ?_
            rintro x w1' ⟨rfl, own1', h1⟩
            rw [she HX.out]
            clear hsub
            by_cases h0 : 0 < r
            · have HN1 := hid h1
              clear h1 HN
              have hcl : (Con.at C 0).c.length + (Con.at C 0).u.length = r := Hr.out
              have hc1 : (Con.at (Con.put C 0 (Wy.sh (Con.at C 0))) 0).u.length + (Con.at (Con.put C 0 (Wy.sh (Con.at C 0))) 0).c.length = r := by rw [atp_same]; show (Con.at C 0).u.length + (Con.at C 0).c.length = r; omega
              have HHc := hid hcl
              have HHc1 := hid hc1
              clear hcl hc1
              go_wp2_with fail
              refine (nmove1_0 HN1 r (by have := HHc1.out; omega)).mono ?_
              rintro x w2' ⟨rfl, own2', h2⟩
              have hc2 : (Con.at (Con.put (Con.put C 0 (Wy.sh (Con.at C 0))) 0 (Wy.mv (Con.at (Con.put C 0 (Wy.sh (Con.at C 0))) 0) r)) 0).c.length ≤ r + r := by
                have := HHc1.out
                rw [atp_same]
                show ((Con.at (Con.put C 0 (Wy.sh (Con.at C 0))) 0).c ++ (Con.at (Con.put C 0 (Wy.sh (Con.at C 0))) 0).u.take r).length ≤ _
                rw [List.length_append, List.length_take]
                omega
              have HR2 := nread1_1 (hid h2) (r - 1) (by omega)
              have HHc2 := hid hc2
              rw [show ((r - 1 : Nat) : Int) = (r : Int) - 1 by omega] at HR2
              generalize ((Con.at (Con.put C 0 (Wy.sh (Con.at C 0))) 0).u.take r).length = q2 at *
              clear h2 HN1 hc2
              go_wp2_with fail
              refine HR2.mono ?_
              rintro x w3' ⟨va, vc, rfl, hvb, own3', h3⟩
              have hov : overB (Wy.rd (Con.at (Con.put (Con.put C 0 (Wy.sh (Con.at C 0))) 0 (Wy.mv (Con.at (Con.put C 0 (Wy.sh (Con.at C 0))) 0) r)) 0) (r - 1)) = false := by rw [atp_same]; exact over_no (by have := HHc1.out; omega) h0
              rw [hov]
              obtain ⟨ao, co, a6, n6, c6, w8, y3, hrun, y4, y5, own8, h8⟩ := napp_r (e := 0) (cx := vc) h3 (by omega) hvb (by rw [List.length_take]; have := HHc2.out; have := HnR.out; omega)
              have HZ := hid (lz_some HX.out Hr.out h0)
              have HO8 : Hid (∀ i, i < 2 → 0 < i → Lx W (upd R 0 (R 0 ++ (Con.at (Con.put (Con.put C 0 (Wy.sh (Con.at C 0))) 0 (Wy.mv (Con.at (Con.put C 0 (Wy.sh (Con.at C 0))) 0) r)) 0).c.take (r - 1))) (Con.put (Con.put (Con.put C 0 (Wy.sh (Con.at C 0))) 0 (Wy.mv (Con.at (Con.put C 0 (Wy.sh (Con.at C 0))) 0) r)) 0 (Wy.rd (Con.at (Con.put (Con.put C 0 (Wy.sh (Con.at C 0))) 0 (Wy.mv (Con.at (Con.put C 0 (Wy.sh (Con.at C 0))) 0) r)) 0) (r - 1))) i) := hid fun i hi h => lx_other (HO.out i hi h) (upd_other (by omega)) (by rw [atp_other, atp_other, atp_other] <;> omega)
              have hRR : nR ≤ (upd R 0 (R 0 ++ (Con.at (Con.put (Con.put C 0 (Wy.sh (Con.at C 0))) 0 (Wy.mv (Con.at (Con.put C 0 (Wy.sh (Con.at C 0))) 0) r)) 0).c.take (r - 1)) 0).length := by rw [upd_same, List.length_append, HnR.out]; omega
              have HN8 := hid h8
              rw [HnR.out] at y3 hrun y4
              generalize (Con.put (Con.put (Con.put C 0 (Wy.sh (Con.at C 0))) 0 (Wy.mv (Con.at (Con.put C 0 (Wy.sh (Con.at C 0))) 0) r)) 0 (Wy.rd (Con.at (Con.put (Con.put C 0 (Wy.sh (Con.at C 0))) 0 (Wy.mv (Con.at (Con.put C 0 (Wy.sh (Con.at C 0))) 0) r)) 0) (r - 1))) = C9 at *
              generalize upd R 0 (R 0 ++ (Con.at (Con.put (Con.put C 0 (Wy.sh (Con.at C 0))) 0 (Wy.mv (Con.at (Con.put C 0 (Wy.sh (Con.at C 0))) 0) r)) 0).c.take (r - 1)) = R9 at *
              generalize ((Con.at (Con.put (Con.put C 0 (Wy.sh (Con.at C 0))) 0 (Wy.mv (Con.at (Con.put C 0 (Wy.sh (Con.at C 0))) 0) r)) 0).c.take (r - 1)).length = q3 at *
              clear h3 h8 hov hvb HR2 HHc HHc1 HHc2 Hr HX HO
              go_wp2_with fail
              have HL9 := lz_len HZ.out
              have hnW := HnW.out
              have hlen := Hlen.out
              have hm : (Con.at C9 0).c.length ≤ r + 1 := by omega
              have HR9 := nread1_1 HN8 (r + 1) (by omega)
              rw [show ((r + 1 : Nat) : Int) = (r : Int) + 1 by omega] at HR9
              refine HR9.mono ?_
              rintro x w9 ⟨vb, vd, rfl, hvb9, own9, h9⟩
              obtain ⟨hov9, hall⟩ := over_yes (m := r + 1) HZ.out hm
              rw [hov9]
              obtain ⟨ao9, co9, a9, n9, c9, w10, z1, hrun9, z2, z3, own10, h10⟩ := napp_r (e := 0) (cx := vd) h9 (by omega) hvb9 (by rw [List.length_take]; omega)
              rw [hall] at h10
              obtain ⟨b1, d1, k1, kb1⟩ := ncell_w (e := 0) h10 (by omega)
              obtain ⟨b2, d2, k2, kb2⟩ := ncell_r (e := 0) h10 (by omega)
              rw [upd_same] at k2 kb2
              have HN10 := hid h10
              have HK1 := hid kb1
              have HK2 := hid kb2
              clear h9 h10 hall hov9 HN8 HR9 hvb9 hm kb1 kb2 HL9 hlen hRR
              generalize ((Con.at C9 0).c.take (r + 1)).length = q9 at *
              generalize (R9 0).length = nR9 at *
              have HnW := hid hnW
              rw [hnW] at k1 k2
              clear hnW
              go_wp2_with fail
              obtain ⟨W10, hW10⟩ : ∃ W10, w10.setCell ⟨bw + 1, 0, none⟩ (.slice a9 n9 c9) = W10 := ⟨_, rfl⟩
              rw [hW10] at k1 k2 HK1 HK2 HN10 ⊢
              have HS := hid (fun i => (same_bytes b2 b1 d2 d1 (W 0) (W10.drewN i) (by rw [HnW.out]; omega) (hid HK2.out) (hid HK1.out)).mono fun e' w' ⟨h5, m5, h6⟩ => (⟨h5, i + m5, by rw [← h6, World.drewN_drewN]⟩ : e' = Ending.returned (.bool true) ∧ ∃ m, w' = W10.drewN m))
              rw [HnW.out] at HS
              clear hW10 z1 hrun9 z2 z3 HK1 HK2
              go_quiet ((go_at_call 18; exact HS.out _))
              go_wp2_with fail
              go_roundw
              case rel => exact ⟨1, by decide, rfl, _, W, _, M, xw, _, _, E, HN10.out.drewN _, fun i hi h => lx_other (HO8.out i hi (by omega)) (upd_other (by omega)) (by rw [atp_other] <;> omega), HW.out⟩
              case measure => simp [intOf]

            · have HZ := hid (lz_none HX.out (by have := Hr.out; omega))
              have HO8 : Hid (∀ i, i < 2 → 0 < i → Lx W R (Con.put C 0 (Wy.sh (Con.at C 0))) i) := hid fun i hi h => lx_other (HO.out i hi h) rfl (by rw [atp_other] <;> omega)
              have hRR : nR ≤ (R 0).length := by have := HnR.out; omega
              have HN8 := hid h1
              generalize (Con.put C 0 (Wy.sh (Con.at C 0))) = C9 at *
              clear h1 HX HO Hr HN
              go_wp2_with fail
              have HL9 := lz_len HZ.out
              have hnW := HnW.out
              have hlen := Hlen.out
              have hm : (Con.at C9 0).c.length ≤ r + 1 := by omega
              have HR9 := nread1_1 HN8 (r + 1) (by omega)
              rw [show ((r + 1 : Nat) : Int) = (r : Int) + 1 by omega] at HR9
              refine HR9.mono ?_
              rintro x w9 ⟨vb, vd, rfl, hvb9, own9, h9⟩
              obtain ⟨hov9, hall⟩ := over_yes (m := r + 1) HZ.out hm
              rw [hov9]
              obtain ⟨ao9, co9, a9, n9, c9, w10, z1, hrun9, z2, z3, own10, h10⟩ := napp_r (e := 0) (cx := vd) h9 (by omega) hvb9 (by rw [List.length_take]; omega)
              rw [hall] at h10
              obtain ⟨b1, d1, k1, kb1⟩ := ncell_w (e := 0) h10 (by omega)
              obtain ⟨b2, d2, k2, kb2⟩ := ncell_r (e := 0) h10 (by omega)
              rw [upd_same] at k2 kb2
              have HN10 := hid h10
              have HK1 := hid kb1
              have HK2 := hid kb2
              clear h9 h10 hall hov9 HN8 HR9 hvb9 hm kb1 kb2 HL9 hlen hRR
              generalize ((Con.at C9 0).c.take (r + 1)).length = q9 at *
              generalize (R 0).length = nR9 at *
              have HnW := hid hnW
              rw [hnW] at k1 k2
              clear hnW
              go_wp2_with fail
              obtain ⟨W10, hW10⟩ : ∃ W10, w10.setCell ⟨bw + 1, 0, none⟩ (.slice a9 n9 c9) = W10 := ⟨_, rfl⟩
              rw [hW10] at k1 k2 HK1 HK2 HN10 ⊢
              have HS := hid (fun i => (same_bytes b2 b1 d2 d1 (W 0) (W10.drewN i) (by rw [HnW.out]; omega) (hid HK2.out) (hid HK1.out)).mono fun e' w' ⟨h5, m5, h6⟩ => (⟨h5, i + m5, by rw [← h6, World.drewN_drewN]⟩ : e' = Ending.returned (.bool true) ∧ ∃ m, w' = W10.drewN m))
              rw [HnW.out] at HS
              clear hW10 z1 hrun9 z2 z3 HK1 HK2
              go_quiet ((go_at_call 18; exact HS.out _))
              go_wp2_with fail
              go_roundw
              case rel => exact ⟨1, by decide, rfl, _, W, _, M, xw, _, _, E, HN10.out.drewN _, fun i hi h => lx_other (HO8.out i hi (by omega)) (upd_other (by omega)) (by rw [atp_other] <;> omega), HW.out⟩
              case measure => simp [intOf]
          · as_aux_lemma =>
            have HX := hid (hx 1 (by omega) (Nat.le_refl _))
            have HO : Hid (∀ i, i < 2 → 1 < i → Lx W R C i) := hid fun i hi h => hx i hi (by omega)
            have HW := hid hw
            obtain ⟨aw, cw, y1, -⟩ := ncell_w (e := 1) hN (by omega)
            obtain ⟨ar, cr, y2, -⟩ := ncell_r (e := 1) hN (by omega)
            have HN := hid hN
            have hlen := lx_len HX.out
            have hwe := hw 1 (by omega)
            clear hN hx hw
            obtain ⟨r, hr⟩ : ∃ r, (Con.at C 1).c.length + (Con.at C 1).u.length = r := ⟨_, rfl⟩
            have Hr := hid hr
            rw [hr] at hlen
            clear hr
            obtain ⟨nW, hnW⟩ : ∃ nW, (W 1).length = nW := ⟨_, rfl⟩
            obtain ⟨nR, hnR⟩ : ∃ nR, (R 1).length = nR := ⟨_, rfl⟩
            rw [hnW, hnR] at hlen
            rw [hnW] at hwe y1
            rw [hnR] at y2
            have HnW := hid hnW
            have HnR := hid hnR
            clear hnW hnR
            have hsub : (nW : Int) - (nR : Int) = (r : Int) := by omega
            have Hlen := hid hlen
            have hrb : r ≤ 1048576 := by omega
            have hrn : nR ≤ 1048576 := by omega
            clear hlen
            go_wp2_with fail
            go_quiet (fail)
            go_wp2_with fail
            clear y1 y2
            refine (nshut1_1 (hid (HN.out.drewN nq))).mono ?_
            rintro x w1' ⟨rfl, own1', h1⟩
            rw [she HX.out]
            clear hsub
            by_cases h0 : 0 < r
            · have HN1 := hid h1
              clear h1 HN
              have hcl : (Con.at C 1).c.length + (Con.at C 1).u.length = r := Hr.out
              have hc1 : (Con.at (Con.put C 1 (Wy.sh (Con.at C 1))) 1).u.length + (Con.at (Con.put C 1 (Wy.sh (Con.at C 1))) 1).c.length = r := by rw [atp_same]; show (Con.at C 1).u.length + (Con.at C 1).c.length = r; omega
              have HHc := hid hcl
              have HHc1 := hid hc1
              clear hcl hc1
              go_wp2_with fail
              refine (nmove1_1 HN1 r (by have := HHc1.out; omega)).mono ?_
              rintro x w2' ⟨rfl, own2', h2⟩
              have hc2 : (Con.at (Con.put (Con.put C 1 (Wy.sh (Con.at C 1))) 1 (Wy.mv (Con.at (Con.put C 1 (Wy.sh (Con.at C 1))) 1) r)) 1).c.length ≤ r + r := by
                have := HHc1.out
                rw [atp_same]
                show ((Con.at (Con.put C 1 (Wy.sh (Con.at C 1))) 1).c ++ (Con.at (Con.put C 1 (Wy.sh (Con.at C 1))) 1).u.take r).length ≤ _
                rw [List.length_append, List.length_take]
                omega
              have HR2 := nread1_0 (hid h2) (r - 1) (by omega)
              have HHc2 := hid hc2
              rw [show ((r - 1 : Nat) : Int) = (r : Int) - 1 by omega] at HR2
              generalize ((Con.at (Con.put C 1 (Wy.sh (Con.at C 1))) 1).u.take r).length = q2 at *
              clear h2 HN1 hc2
              go_wp2_with fail
              refine HR2.mono ?_
              rintro x w3' ⟨va, vc, rfl, hvb, own3', h3⟩
              have hov : overB (Wy.rd (Con.at (Con.put (Con.put C 1 (Wy.sh (Con.at C 1))) 1 (Wy.mv (Con.at (Con.put C 1 (Wy.sh (Con.at C 1))) 1) r)) 1) (r - 1)) = false := by rw [atp_same]; exact over_no (by have := HHc1.out; omega) h0
              rw [hov]
              obtain ⟨ao, co, a6, n6, c6, w8, y3, hrun, y4, y5, own8, h8⟩ := napp_r (e := 1) (cx := vc) h3 (by omega) hvb (by rw [List.length_take]; have := HHc2.out; have := HnR.out; omega)
              have HZ := hid (lz_some HX.out Hr.out h0)
              have HO8 : Hid (∀ i, i < 2 → 1 < i → Lx W (upd R 1 (R 1 ++ (Con.at (Con.put (Con.put C 1 (Wy.sh (Con.at C 1))) 1 (Wy.mv (Con.at (Con.put C 1 (Wy.sh (Con.at C 1))) 1) r)) 1).c.take (r - 1))) (Con.put (Con.put (Con.put C 1 (Wy.sh (Con.at C 1))) 1 (Wy.mv (Con.at (Con.put C 1 (Wy.sh (Con.at C 1))) 1) r)) 1 (Wy.rd (Con.at (Con.put (Con.put C 1 (Wy.sh (Con.at C 1))) 1 (Wy.mv (Con.at (Con.put C 1 (Wy.sh (Con.at C 1))) 1) r)) 1) (r - 1))) i) := hid fun i hi h => lx_other (HO.out i hi h) (upd_other (by omega)) (by rw [atp_other, atp_other, atp_other] <;> omega)
              have hRR : nR ≤ (upd R 1 (R 1 ++ (Con.at (Con.put (Con.put C 1 (Wy.sh (Con.at C 1))) 1 (Wy.mv (Con.at (Con.put C 1 (Wy.sh (Con.at C 1))) 1) r)) 1).c.take (r - 1)) 1).length := by rw [upd_same, List.length_append, HnR.out]; omega
              have HN8 := hid h8
              rw [HnR.out] at y3 hrun y4
              generalize (Con.put (Con.put (Con.put C 1 (Wy.sh (Con.at C 1))) 1 (Wy.mv (Con.at (Con.put C 1 (Wy.sh (Con.at C 1))) 1) r)) 1 (Wy.rd (Con.at (Con.put (Con.put C 1 (Wy.sh (Con.at C 1))) 1 (Wy.mv (Con.at (Con.put C 1 (Wy.sh (Con.at C 1))) 1) r)) 1) (r - 1))) = C9 at *
              generalize upd R 1 (R 1 ++ (Con.at (Con.put (Con.put C 1 (Wy.sh (Con.at C 1))) 1 (Wy.mv (Con.at (Con.put C 1 (Wy.sh (Con.at C 1))) 1) r)) 1).c.take (r - 1)) = R9 at *
              generalize ((Con.at (Con.put (Con.put C 1 (Wy.sh (Con.at C 1))) 1 (Wy.mv (Con.at (Con.put C 1 (Wy.sh (Con.at C 1))) 1) r)) 1).c.take (r - 1)).length = q3 at *
              clear h3 h8 hov hvb HR2 HHc HHc1 HHc2 Hr HX HO
              go_wp2_with fail
              have HL9 := lz_len HZ.out
              have hnW := HnW.out
              have hlen := Hlen.out
              have hm : (Con.at C9 1).c.length ≤ r + 1 := by omega
              have HR9 := nread1_0 HN8 (r + 1) (by omega)
              rw [show ((r + 1 : Nat) : Int) = (r : Int) + 1 by omega] at HR9
              refine HR9.mono ?_
              rintro x w9 ⟨vb, vd, rfl, hvb9, own9, h9⟩
              obtain ⟨hov9, hall⟩ := over_yes (m := r + 1) HZ.out hm
              rw [hov9]
              obtain ⟨ao9, co9, a9, n9, c9, w10, z1, hrun9, z2, z3, own10, h10⟩ := napp_r (e := 1) (cx := vd) h9 (by omega) hvb9 (by rw [List.length_take]; omega)
              rw [hall] at h10
              obtain ⟨b1, d1, k1, kb1⟩ := ncell_w (e := 1) h10 (by omega)
              obtain ⟨b2, d2, k2, kb2⟩ := ncell_r (e := 1) h10 (by omega)
              rw [upd_same] at k2 kb2
              have HN10 := hid h10
              have HK1 := hid kb1
              have HK2 := hid kb2
              clear h9 h10 hall hov9 HN8 HR9 hvb9 hm kb1 kb2 HL9 hlen hRR
              generalize ((Con.at C9 1).c.take (r + 1)).length = q9 at *
              generalize (R9 1).length = nR9 at *
              have HnW := hid hnW
              rw [hnW] at k1 k2
              clear hnW
              go_wp2_with fail
              obtain ⟨W10, hW10⟩ : ∃ W10, w10.setCell ⟨bw + 1, 1, none⟩ (.slice a9 n9 c9) = W10 := ⟨_, rfl⟩
              rw [hW10] at k1 k2 HK1 HK2 HN10 ⊢
              have HS := hid (fun i => (same_bytes b2 b1 d2 d1 (W 1) (W10.drewN i) (by rw [HnW.out]; omega) (hid HK2.out) (hid HK1.out)).mono fun e' w' ⟨h5, m5, h6⟩ => (⟨h5, i + m5, by rw [← h6, World.drewN_drewN]⟩ : e' = Ending.returned (.bool true) ∧ ∃ m, w' = W10.drewN m))
              rw [HnW.out] at HS
              clear hW10 z1 hrun9 z2 z3 HK1 HK2
              go_quiet ((go_at_call 18; exact HS.out _))
              go_wp2_with fail
              go_roundw
              case rel => exact ⟨2, by decide, rfl, _, W, _, M, xw, _, _, E, HN10.out.drewN _, fun i hi h => lx_other (HO8.out i hi (by omega)) (upd_other (by omega)) (by rw [atp_other] <;> omega), HW.out⟩
              case measure => simp [intOf]

            · have HZ := hid (lz_none HX.out (by have := Hr.out; omega))
              have HO8 : Hid (∀ i, i < 2 → 1 < i → Lx W R (Con.put C 1 (Wy.sh (Con.at C 1))) i) := hid fun i hi h => lx_other (HO.out i hi h) rfl (by rw [atp_other] <;> omega)
              have hRR : nR ≤ (R 1).length := by have := HnR.out; omega
              have HN8 := hid h1
              generalize (Con.put C 1 (Wy.sh (Con.at C 1))) = C9 at *
              clear h1 HX HO Hr HN
              go_wp2_with fail
              have HL9 := lz_len HZ.out
              have hnW := HnW.out
              have hlen := Hlen.out
              have hm : (Con.at C9 1).c.length ≤ r + 1 := by omega
              have HR9 := nread1_0 HN8 (r + 1) (by omega)
              rw [show ((r + 1 : Nat) : Int) = (r : Int) + 1 by omega] at HR9
              refine HR9.mono ?_
              rintro x w9 ⟨vb, vd, rfl, hvb9, own9, h9⟩
              obtain ⟨hov9, hall⟩ := over_yes (m := r + 1) HZ.out hm
              rw [hov9]
              obtain ⟨ao9, co9, a9, n9, c9, w10, z1, hrun9, z2, z3, own10, h10⟩ := napp_r (e := 1) (cx := vd) h9 (by omega) hvb9 (by rw [List.length_take]; omega)
              rw [hall] at h10
              obtain ⟨b1, d1, k1, kb1⟩ := ncell_w (e := 1) h10 (by omega)
              obtain ⟨b2, d2, k2, kb2⟩ := ncell_r (e := 1) h10 (by omega)
              rw [upd_same] at k2 kb2
              have HN10 := hid h10
              have HK1 := hid kb1
              have HK2 := hid kb2
              clear h9 h10 hall hov9 HN8 HR9 hvb9 hm kb1 kb2 HL9 hlen hRR
              generalize ((Con.at C9 1).c.take (r + 1)).length = q9 at *
              generalize (R 1).length = nR9 at *
              have HnW := hid hnW
              rw [hnW] at k1 k2
              clear hnW
              go_wp2_with fail
              obtain ⟨W10, hW10⟩ : ∃ W10, w10.setCell ⟨bw + 1, 1, none⟩ (.slice a9 n9 c9) = W10 := ⟨_, rfl⟩
              rw [hW10] at k1 k2 HK1 HK2 HN10 ⊢
              have HS := hid (fun i => (same_bytes b2 b1 d2 d1 (W 1) (W10.drewN i) (by rw [HnW.out]; omega) (hid HK2.out) (hid HK1.out)).mono fun e' w' ⟨h5, m5, h6⟩ => (⟨h5, i + m5, by rw [← h6, World.drewN_drewN]⟩ : e' = Ending.returned (.bool true) ∧ ∃ m, w' = W10.drewN m))
              rw [HnW.out] at HS
              clear hW10 z1 hrun9 z2 z3 HK1 HK2
              go_quiet ((go_at_call 18; exact HS.out _))
              go_wp2_with fail
              go_roundw
              case rel => exact ⟨2, by decide, rfl, _, W, _, M, xw, _, _, E, HN10.out.drewN _, fun i hi h => lx_other (HO8.out i hi (by omega)) (upd_other (by omega)) (by rw [atp_other] <;> omega), HW.out⟩
              case measure => simp [intOf]
        · have HBZ := hid (HB0.out.trans (hN.law.bel.mono HB0.out.size))
          clear hN hx hw
          go_wp2_with fail
          go_ret
          exact ⟨rfl, HBZ.out⟩

end Go.Proofs.Ytgkfiolgipgbkaa.StmR
