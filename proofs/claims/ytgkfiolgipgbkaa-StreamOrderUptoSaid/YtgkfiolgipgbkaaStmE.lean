/- Writes, reads and shuts of a connection, once a network's call has it. -/
import Derived.Test.YtgkfiolgipgbkaaStmD
import Derived.BigQuiet
namespace Go.Proofs.Ytgkfiolgipgbkaa.StmE
open Go.ChangeShapes Go.WideShapes Go.ChangeAt Go.RowKit Base Wri FrmP FrmA StmA StmB StmC StmD
set_option linter.unusedVariables false
set_option linter.unusedSimpArgs false

/-- the error of a write -/
def wtE (x : Wy) (n : Nat) : Int := if x.b then 51 else if x.u.length + n > 65536 then 3 else 0
def Wy.wtIf (x : Wy) (s : Bs) : Wy := if wtE x s.length = 0 then Wy.wt x s else x
def shE (x : Wy) : Int := if x.b then 51 else 0

theorem Con.put_same (C : Con) (e : Nat) : Con.put C e (Con.at C e) = C := by
  unfold Con.put Con.at
  split <;> simp_all

set_option maxRecDepth 20000 in
set_option maxHeartbeats 1000000 in
theorem wy_put (k o B t : Nat) (own : Nat → Nat) (cs : Array Value) (x : Wy) (xu xc : Value) (s : Bs) (ax : Option Addr) (cx : Nat) (w : World) (hb : w.heap[k]? = some (.cells cs 80 (0, 0))) (hw : WyAt w B own t cs o x xu xc) (hB : B ≤ w.heap.size) (hk : own k ≠ t) (hk1 : own k ≠ t + 1) (hs : x.u.length + s.length ≤ 1099511627776) (ht : BAt w w.heap.size ax s) :
    Calls Try.prog 53 #[.pointer (some ⟨k, o, none⟩), .slice ax s.length cx] w fun e w' => e = .returned (.tuple #[]) ∧ ∃ cs' own' xu' xc', Left3 w w' k t o own own' cs cs' ∧ WyAt w' B own' t cs' o (Wy.wt x s) xu' xc' := by
  have hkl := (Array.getElem?_eq_some_iff.1 hb).1
  have hne : ∀ g, xu.ownBlock = some g → g ≠ k := fun g e e2 => hk (by rw [← e2]; exact hw.tu g e)
  have hnc : ∀ g, xc.ownBlock = some g → g ≠ k := fun g e e2 => hk1 (by rw [← e2]; exact hw.tc g e)
  refine (put_any k o B xu x.u s ax cx w (blk_cell hb hw.cu) (blk_frozen hb) (hid hw.qu) (hid ht) (fun e => hne k e rfl) hB hs).mono ?_
  rintro e w' ⟨rfl, v, w1, rfl, hq, hg, hat⟩
  have hk3 : w1.heap[k]? = w.heap[k]? := hg.block k hkl (fun e => hne k e.symm rfl)
  refine ⟨rfl, cs.setIfInBounds o v, later own w.heap.size t, v, xc, ⟨blk_set (hk3.trans hb) v, fun j h0 h1 h2 => set_other (by omega), ?_, fun g hg => later_old hg⟩, ⟨set_same hw.cu, (set_other (by omega)).trans hw.cc, (set_other (by omega)).trans hw.cb, ?_, ?_, fun g e => ?_, fun g e => ?_⟩⟩
  · exact (Wr.ofGrown (R := fun g => g = k ∨ own g = t ∨ own g = t + 1) hg (fun g e => .inr (.inl (hw.tu g e)))).trans (Wr.set _ _ (.inl rfl))
  · refine hq.keep (fun g e => Below.heap_setCell _ _ _ _ (fun e2 => ?_))
    have e2 : g = k := e2
    rcases hat with h | h
    · rw [h] at e; exact hne g e e2
    · rw [h] at e; cases e; omega
  · refine hw.qc.keep (fun g e => (Below.heap_setCell _ _ _ _ (fun e2 => hnc g e e2)).trans (hg.block g (hw.qc.lt g e).2 (fun e2 => ?_)))
    have h1 := hw.tu g e2.symm
    have h2 := hw.tc g e
    omega
  · rcases hat with h | h
    · rw [h] at e
      rw [later_old (hw.qu.lt g e).2]
      exact hw.tu g e
    · rw [h] at e; cases e
      exact later_new (Nat.le_refl _)
  · rw [later_old (hw.qc.lt g e).2]
    exact hw.tc g e

set_option maxRecDepth 20000 in
set_option maxHeartbeats 1000000 in
theorem wy_take (k o B t m : Nat) (own : Nat → Nat) (cs : Array Value) (x : Wy) (xu xc : Value) (w : World) (hb : w.heap[k]? = some (.cells cs 80 (0, 0))) (hw : WyAt w B own t cs o x xu xc) (hk : own k ≠ t) (hk1 : own k ≠ t + 1) (hs : x.c.length ≤ 1099511627776) :
    Calls Try.prog 58 #[.pointer (some ⟨k, o + 1, none⟩), .int .i64 m] w fun e w' => ∃ v, e = .returned v ∧ Que w' w.heap.size v (x.c.take m) ∧ ∃ cs' own' xu' xc', Left3 w w' k t o own own' cs cs' ∧ WyAt w' B own' t cs' o (Wy.rd x m) xu' xc' ∧ ∀ g, v.ownBlock = some g → own' g = 4 := by
  have hkl := (Array.getElem?_eq_some_iff.1 hb).1
  have hne : ∀ g, xu.ownBlock = some g → g ≠ k := fun g e e2 => hk (by rw [← e2]; exact hw.tu g e)
  have hnc : ∀ g, xc.ownBlock = some g → g ≠ k := fun g e e2 => hk1 (by rw [← e2]; exact hw.tc g e)
  refine (take_any k (o + 1) B m xc x.c w (blk_cell hb hw.cc) (blk_frozen hb) (hid hw.qc) hs).mono ?_
  rintro e w' ⟨v, v1, w1, rfl, hv, rfl, hbel, hq1, ho1⟩
  have hL : Left3 w (w1.setCell ⟨k, o + 1, none⟩ v1) k t o own own cs (cs.setIfInBounds (o + 1) v1) := take_left hb hbel (.inr rfl)
  refine ⟨v, rfl, hv.keep (fun g e => Below.heap_setCell _ _ _ _ (fun e2 => by have e2 : g = k := e2; have := (hv.lt g e).1; omega)), cs.setIfInBounds (o + 1) v1, later own w.heap.size 4, xu, v1, ⟨hL.blk, hL.rest, hL.wr, fun g hg => later_old hg⟩, ⟨(set_other (by omega)).trans hw.cu, set_same hw.cc, (set_other (by omega)).trans hw.cb, ?_, ?_, fun g e => ?_, fun g e => ?_⟩, fun g e => later_new (hv.lt g e).1⟩
  · exact hw.qu.keep (fun g e => (Below.heap_setCell _ _ _ _ (fun e2 => hne g e e2)).trans (hbel.block g (hw.qu.lt g e).2))
  · exact hq1.keep (fun g e => Below.heap_setCell _ _ _ _ (fun e2 => hnc g (ho1 g e) e2))
  · rw [later_old (hw.qu.lt g e).2]
    exact hw.tu g e
  · rw [later_old (hw.qc.lt g (ho1 g e)).2]
    exact hw.tc g (ho1 g e)

set_option maxRecDepth 20000 in
set_option maxHeartbeats 1000000 in
theorem write1_0 (k B t p1 p2 : Nat) (own : Nat → Nat) (C : Con) (s : Bs) (ax : Option Addr) (cx : Nat) (w : World) (h : Hid (IsCon w B own t k C)) (hB : B ≤ w.heap.size) (hs : (Con.at C 0).u.length + s.length ≤ 1099511627776) (c1 : w.cell? ⟨p1, 0, none⟩ = some (.int .i64 0)) (c2 : w.cell? ⟨p2, 0, none⟩ = some (.slice ax s.length cx)) (hbt : Hid (BAt w w.heap.size ax s)) :
    Calls Try.prog 51 #[.pointer (some ⟨k, 0, none⟩), .pointer (some ⟨p1, 0, none⟩), .pointer (some ⟨p2, 0, none⟩)] w fun e w' => e = .returned (.int .i64 (wtE (Con.at C 0) s.length)) ∧
      ∃ own', IsCon w' B own' t k (Con.put C 0 (Wy.wtIf (Con.at C 0) s)) ∧ Stp w w' own own' (In5 t) := by
  obtain ⟨cs, a0, b0, a1, b1, h1, h2, h3, h4, h5⟩ := h.out
  obtain ⟨xu1, xu2, eu, -⟩ := h4.qu.shape
  have cu : w.cell? ⟨k, 0, none⟩ = some (.slice xu1 C.w0.u.length xu2) := (blk_cell h1 h4.cu).trans (by rw [eu])
  have cb : w.cell? ⟨k, 2, none⟩ = some (.bool C.w0.b) := blk_cell h1 h4.cb
  have HP : Hid (∀ j, Calls Try.prog 53 #[.pointer (some ⟨k, 0, none⟩), .slice ax s.length cx] (w.drewN j) fun e w' => e = .returned (.tuple #[]) ∧ ∃ own', IsCon w' B own' t k (Con.put C 0 (Wy.wt (Con.at C 0) s)) ∧ Stp w w' own own' (In5 t)) := hid fun j => by
    have h4x : WyAt (w.drewN j) B own (t + 1) cs 0 C.w0 a0 b0 := h4.keep rfl rfl rfl (fun g _ _ => ⟨rfl, rfl⟩)
    have h5x : WyAt (w.drewN j) B own (t + 3) cs 3 C.w1 a1 b1 := h5.keep rfl rfl rfl (fun g _ _ => ⟨rfl, rfl⟩)
    refine (wy_put k 0 B (t + 1) own cs _ a0 b0 s ax cx (w.drewN j) h1 h4x hB (by omega) (by omega) hs (by
      intro h0
      obtain ⟨g, oo, e, hg, hc⟩ := hbt.out h0
      exact ⟨g, oo, e, hg, hc⟩)).mono ?_
    rintro e w' ⟨rfl, cs', own', xu, xc, hl, hx⟩
    obtain ⟨g1, g2⟩ := con_step0 (w := w.drewN j) h2 h3 (Array.getElem?_eq_some_iff.1 h1).1 h5x hl hx
    exact ⟨rfl, own', g1, ⟨g2.wr.os, g2.wr.tape, g2.wr.output, g2.wr.size, g2.wr.block⟩, g2.tag⟩
  obtain ⟨n, hn⟩ : ∃ n, s.length = n := ⟨_, rfl⟩
  have hsame : Con.put C 0 (Con.at C 0) = C := Con.put_same C 0
  rw [show Con.at C 0 = C.w0 from rfl] at hs HP hsame ⊢
  cases hbb : C.w0.b with
  | true =>
    have HE : Hid (wtE C.w0 s.length = 51 ∧ Con.put C 0 (Wy.wtIf C.w0 s) = C) := hid (by
      have h1 : wtE C.w0 s.length = 51 := by unfold wtE; rw [hbb]; rfl
      exact ⟨h1, by unfold Wy.wtIf; rw [h1, if_neg (by decide)]; exact hsame⟩)
    rw [HE.out.1, HE.out.2]
    rw [hbb] at cb
    clear hbb hsame h1 h2 h3 h4 h5 eu HP hs
    go_enter Try.func51, Try.ntmps51
    go_wp2_with (go_at_call 52; refine (from_0 k _).mono ?_; rintro e w1 ⟨rfl, rfl⟩)
    go_ret
    exact ⟨rfl, own, h.out, Stp.same _ _ _⟩
  | false =>
    by_cases hfull : C.w0.u.length + s.length > 65536
    · have HE : Hid (wtE C.w0 s.length = 3 ∧ Con.put C 0 (Wy.wtIf C.w0 s) = C) := hid (by
        have h1 : wtE C.w0 s.length = 3 := by unfold wtE; rw [hbb, if_pos hfull]; rfl
        exact ⟨h1, by unfold Wy.wtIf; rw [h1, if_neg (by decide)]; exact hsame⟩)
      rw [HE.out.1, HE.out.2]
      rw [hbb] at cb
      rw [hn] at c2 hfull hs
      generalize C.w0.u.length = L at *
      have hd : decide ((65536 : Int) - (L : Int) < (n : Int)) = true := decide_eq_true (by omega)
      clear hbb hsame h1 h2 h3 h4 h5 eu HP
      go_enter Try.func51, Try.ntmps51
      go_wp2_with (go_at_call 52; refine (from_0 k _).mono ?_; rintro e w1 ⟨rfl, rfl⟩)
      go_quiet (fail)
      go_wp2_with fail
      go_ret
      exact ⟨rfl, own, h.out.keep (fun g _ _ _ => ⟨rfl, rfl⟩), ⟨(Wr.refl _ w1).drewN nq, fun _ _ => rfl⟩⟩
    · have HE : Hid (wtE C.w0 s.length = 0 ∧ Con.put C 0 (Wy.wtIf C.w0 s) = Con.put C 0 (Wy.wt C.w0 s)) := hid (by
        have h1 : wtE C.w0 s.length = 0 := by unfold wtE; rw [hbb, if_neg hfull]; rfl
        exact ⟨h1, by unfold Wy.wtIf; rw [h1, if_pos rfl]⟩)
      rw [HE.out.1, HE.out.2]
      rw [hbb] at cb
      rw [hn] at c2 hfull hs HP
      generalize C.w0.u.length = L at *
      have hd : decide ((65536 : Int) - (L : Int) < (n : Int)) = false := decide_eq_false (by omega)
      clear hbb hsame h1 h2 h3 h4 h5 eu
      go_enter Try.func51, Try.ntmps51
      go_wp2_with (go_at_call 52; refine (from_0 k _).mono ?_; rintro e w1 ⟨rfl, rfl⟩)
      go_quiet (fail)
      go_wp2_with fail
      have c2' : (w1.drewN nq).cell? ⟨p2, 0, none⟩ = some (.slice ax n cx) := c2
      clear cu cb c1
      go_region_with (go_at_call 53
                      refine (HP.out (nq + 1)).mono ?_
                      rintro e w2 ⟨rfl, own', hC, hS⟩
                      have HX := hid (And.intro hC hS)
                      clear hC hS)
      all_goals
        go_wp2_with fail
        go_ret
        exact ⟨rfl, own', HX.out.1, HX.out.2⟩

set_option maxRecDepth 20000 in
set_option maxHeartbeats 1000000 in
theorem shut1_0 (k B t p1 : Nat) (own : Nat → Nat) (C : Con) (w : World) (h : Hid (IsCon w B own t k C)) (c1 : w.cell? ⟨p1, 0, none⟩ = some (.int .i64 0)) :
    Calls Try.prog 60 #[.pointer (some ⟨k, 0, none⟩), .pointer (some ⟨p1, 0, none⟩)] w fun e w' => e = .returned (.int .i64 (shE (Con.at C 0))) ∧
      ∃ own', IsCon w' B own' t k (Con.put C 0 (Wy.sh (Con.at C 0))) ∧ Stp w w' own own' (In5 t) := by
  obtain ⟨cs, a0, b0, a1, b1, h1, h2, h3, h4, h5⟩ := h.out
  have cb : w.cell? ⟨k, 2, none⟩ = some (.bool C.w0.b) := blk_cell h1 h4.cb
  have fb : w.frozen? ⟨k, 2, none⟩ = false := blk_frozen h1
  have hsame : Con.put C 0 (Con.at C 0) = C := Con.put_same C 0
  rw [show Con.at C 0 = C.w0 from rfl] at hsame ⊢
  cases hbb : C.w0.b with
  | true =>
    have HE : Hid (shE C.w0 = 51 ∧ Con.put C 0 (Wy.sh C.w0) = C) := hid (by
      have e1 : Wy.sh C.w0 = C.w0 := by unfold Wy.sh; rw [← hbb]
      exact ⟨by unfold shE; rw [hbb]; rfl, by rw [e1]; exact hsame⟩)
    rw [HE.out.1, HE.out.2]
    rw [hbb] at cb
    clear hbb hsame h1 h2 h3 h4 h5
    go_enter Try.func60, Try.ntmps60
    go_wp2_with (go_at_call 52; refine (from_0 k _).mono ?_; rintro e w1 ⟨rfl, rfl⟩)
    go_ret
    exact ⟨rfl, own, h.out, Stp.same _ _ _⟩
  | false =>
    have HE : Hid (shE C.w0 = 0) := hid (by unfold shE; rw [hbb]; rfl)
    rw [HE.out]
    rw [hbb] at cb
    have hkl := (Array.getElem?_eq_some_iff.1 h1).1
    have hL : Left3 w (w.setCell ⟨k, 2, none⟩ (.bool true)) k (t + 1) 0 own own cs (cs.setIfInBounds 2 (.bool true)) :=
      ⟨blk_set h1 _, fun j j0 j1 j2 => set_other (by omega), (Wr.refl _ w).trans (Wr.set _ _ (.inl rfl)), fun _ _ => rfl⟩
    have hX : WyAt (w.setCell ⟨k, 2, none⟩ (.bool true)) B own (t + 1) (cs.setIfInBounds 2 (.bool true)) 0 (Wy.sh C.w0) a0 b0 :=
      ⟨(set_other (by omega)).trans h4.cu, (set_other (by omega)).trans h4.cc, set_same h4.cb, h4.qu.keep (fun g e => Below.heap_setCell _ _ _ _ (fun e2 => by have e2 : g = k := e2; have := h4.tu g e; subst e2; omega)), h4.qc.keep (fun g e => Below.heap_setCell _ _ _ _ (fun e2 => by have e2 : g = k := e2; have := h4.tc g e; subst e2; omega)), h4.tu, h4.tc⟩
    have HF := hid (con_step0 h2 h3 hkl h5 hL hX)
    clear hbb hsame h1 h2 h3 h4 h5 hL hX hkl
    go_enter Try.func60, Try.ntmps60
    go_wp2_with (go_at_call 52; refine (from_0 k _).mono ?_; rintro e w1 ⟨rfl, rfl⟩)
    go_ret
    exact ⟨rfl, own, HF.out.1, HF.out.2⟩

set_option maxRecDepth 20000 in
set_option maxHeartbeats 1000000 in
theorem write1_1 (k B t p1 p2 : Nat) (own : Nat → Nat) (C : Con) (s : Bs) (ax : Option Addr) (cx : Nat) (w : World) (h : Hid (IsCon w B own t k C)) (hB : B ≤ w.heap.size) (hs : (Con.at C 1).u.length + s.length ≤ 1099511627776) (c1 : w.cell? ⟨p1, 0, none⟩ = some (.int .i64 1)) (c2 : w.cell? ⟨p2, 0, none⟩ = some (.slice ax s.length cx)) (hbt : Hid (BAt w w.heap.size ax s)) :
    Calls Try.prog 51 #[.pointer (some ⟨k, 0, none⟩), .pointer (some ⟨p1, 0, none⟩), .pointer (some ⟨p2, 0, none⟩)] w fun e w' => e = .returned (.int .i64 (wtE (Con.at C 1) s.length)) ∧
      ∃ own', IsCon w' B own' t k (Con.put C 1 (Wy.wtIf (Con.at C 1) s)) ∧ Stp w w' own own' (In5 t) := by
  obtain ⟨cs, a0, b0, a1, b1, h1, h2, h3, h4, h5⟩ := h.out
  obtain ⟨xu1, xu2, eu, -⟩ := h5.qu.shape
  have cu : w.cell? ⟨k, 3, none⟩ = some (.slice xu1 C.w1.u.length xu2) := (blk_cell h1 h5.cu).trans (by rw [eu])
  have cb : w.cell? ⟨k, 5, none⟩ = some (.bool C.w1.b) := blk_cell h1 h5.cb
  have HP : Hid (∀ j, Calls Try.prog 53 #[.pointer (some ⟨k, 3, none⟩), .slice ax s.length cx] (w.drewN j) fun e w' => e = .returned (.tuple #[]) ∧ ∃ own', IsCon w' B own' t k (Con.put C 1 (Wy.wt (Con.at C 1) s)) ∧ Stp w w' own own' (In5 t)) := hid fun j => by
    have h4x : WyAt (w.drewN j) B own (t + 1) cs 0 C.w0 a0 b0 := h4.keep rfl rfl rfl (fun g _ _ => ⟨rfl, rfl⟩)
    have h5x : WyAt (w.drewN j) B own (t + 3) cs 3 C.w1 a1 b1 := h5.keep rfl rfl rfl (fun g _ _ => ⟨rfl, rfl⟩)
    refine (wy_put k 3 B (t + 3) own cs _ a1 b1 s ax cx (w.drewN j) h1 h5x hB (by omega) (by omega) hs (by
      intro h0
      obtain ⟨g, oo, e, hg, hc⟩ := hbt.out h0
      exact ⟨g, oo, e, hg, hc⟩)).mono ?_
    rintro e w' ⟨rfl, cs', own', xu, xc, hl, hx⟩
    obtain ⟨g1, g2⟩ := con_step1 (w := w.drewN j) h2 h3 (Array.getElem?_eq_some_iff.1 h1).1 h4x hl hx
    exact ⟨rfl, own', g1, ⟨g2.wr.os, g2.wr.tape, g2.wr.output, g2.wr.size, g2.wr.block⟩, g2.tag⟩
  obtain ⟨n, hn⟩ : ∃ n, s.length = n := ⟨_, rfl⟩
  have hsame : Con.put C 1 (Con.at C 1) = C := Con.put_same C 1
  rw [show Con.at C 1 = C.w1 from rfl] at hs HP hsame ⊢
  cases hbb : C.w1.b with
  | true =>
    have HE : Hid (wtE C.w1 s.length = 51 ∧ Con.put C 1 (Wy.wtIf C.w1 s) = C) := hid (by
      have h1 : wtE C.w1 s.length = 51 := by unfold wtE; rw [hbb]; rfl
      exact ⟨h1, by unfold Wy.wtIf; rw [h1, if_neg (by decide)]; exact hsame⟩)
    rw [HE.out.1, HE.out.2]
    rw [hbb] at cb
    clear hbb hsame h1 h2 h3 h4 h5 eu HP hs
    go_enter Try.func51, Try.ntmps51
    go_wp2_with (go_at_call 52; refine (from_1 k _).mono ?_; rintro e w1 ⟨rfl, rfl⟩)
    go_ret
    exact ⟨rfl, own, h.out, Stp.same _ _ _⟩
  | false =>
    by_cases hfull : C.w1.u.length + s.length > 65536
    · have HE : Hid (wtE C.w1 s.length = 3 ∧ Con.put C 1 (Wy.wtIf C.w1 s) = C) := hid (by
        have h1 : wtE C.w1 s.length = 3 := by unfold wtE; rw [hbb, if_pos hfull]; rfl
        exact ⟨h1, by unfold Wy.wtIf; rw [h1, if_neg (by decide)]; exact hsame⟩)
      rw [HE.out.1, HE.out.2]
      rw [hbb] at cb
      rw [hn] at c2 hfull hs
      generalize C.w1.u.length = L at *
      have hd : decide ((65536 : Int) - (L : Int) < (n : Int)) = true := decide_eq_true (by omega)
      clear hbb hsame h1 h2 h3 h4 h5 eu HP
      go_enter Try.func51, Try.ntmps51
      go_wp2_with (go_at_call 52; refine (from_1 k _).mono ?_; rintro e w1 ⟨rfl, rfl⟩)
      go_quiet (fail)
      go_wp2_with fail
      go_ret
      exact ⟨rfl, own, h.out.keep (fun g _ _ _ => ⟨rfl, rfl⟩), ⟨(Wr.refl _ w1).drewN nq, fun _ _ => rfl⟩⟩
    · have HE : Hid (wtE C.w1 s.length = 0 ∧ Con.put C 1 (Wy.wtIf C.w1 s) = Con.put C 1 (Wy.wt C.w1 s)) := hid (by
        have h1 : wtE C.w1 s.length = 0 := by unfold wtE; rw [hbb, if_neg hfull]; rfl
        exact ⟨h1, by unfold Wy.wtIf; rw [h1, if_pos rfl]⟩)
      rw [HE.out.1, HE.out.2]
      rw [hbb] at cb
      rw [hn] at c2 hfull hs HP
      generalize C.w1.u.length = L at *
      have hd : decide ((65536 : Int) - (L : Int) < (n : Int)) = false := decide_eq_false (by omega)
      clear hbb hsame h1 h2 h3 h4 h5 eu
      go_enter Try.func51, Try.ntmps51
      go_wp2_with (go_at_call 52; refine (from_1 k _).mono ?_; rintro e w1 ⟨rfl, rfl⟩)
      go_quiet (fail)
      go_wp2_with fail
      have c2' : (w1.drewN nq).cell? ⟨p2, 0, none⟩ = some (.slice ax n cx) := c2
      clear cu cb c1
      go_region_with (go_at_call 53
                      refine (HP.out (nq + 1)).mono ?_
                      rintro e w2 ⟨rfl, own', hC, hS⟩
                      have HX := hid (And.intro hC hS)
                      clear hC hS)
      all_goals
        go_wp2_with fail
        go_ret
        exact ⟨rfl, own', HX.out.1, HX.out.2⟩

set_option maxRecDepth 20000 in
set_option maxHeartbeats 1000000 in
theorem shut1_1 (k B t p1 : Nat) (own : Nat → Nat) (C : Con) (w : World) (h : Hid (IsCon w B own t k C)) (c1 : w.cell? ⟨p1, 0, none⟩ = some (.int .i64 1)) :
    Calls Try.prog 60 #[.pointer (some ⟨k, 0, none⟩), .pointer (some ⟨p1, 0, none⟩)] w fun e w' => e = .returned (.int .i64 (shE (Con.at C 1))) ∧
      ∃ own', IsCon w' B own' t k (Con.put C 1 (Wy.sh (Con.at C 1))) ∧ Stp w w' own own' (In5 t) := by
  obtain ⟨cs, a0, b0, a1, b1, h1, h2, h3, h4, h5⟩ := h.out
  have cb : w.cell? ⟨k, 5, none⟩ = some (.bool C.w1.b) := blk_cell h1 h5.cb
  have fb : w.frozen? ⟨k, 5, none⟩ = false := blk_frozen h1
  have hsame : Con.put C 1 (Con.at C 1) = C := Con.put_same C 1
  rw [show Con.at C 1 = C.w1 from rfl] at hsame ⊢
  cases hbb : C.w1.b with
  | true =>
    have HE : Hid (shE C.w1 = 51 ∧ Con.put C 1 (Wy.sh C.w1) = C) := hid (by
      have e1 : Wy.sh C.w1 = C.w1 := by unfold Wy.sh; rw [← hbb]
      exact ⟨by unfold shE; rw [hbb]; rfl, by rw [e1]; exact hsame⟩)
    rw [HE.out.1, HE.out.2]
    rw [hbb] at cb
    clear hbb hsame h1 h2 h3 h4 h5
    go_enter Try.func60, Try.ntmps60
    go_wp2_with (go_at_call 52; refine (from_1 k _).mono ?_; rintro e w1 ⟨rfl, rfl⟩)
    go_ret
    exact ⟨rfl, own, h.out, Stp.same _ _ _⟩
  | false =>
    have HE : Hid (shE C.w1 = 0) := hid (by unfold shE; rw [hbb]; rfl)
    rw [HE.out]
    rw [hbb] at cb
    have hkl := (Array.getElem?_eq_some_iff.1 h1).1
    have hL : Left3 w (w.setCell ⟨k, 5, none⟩ (.bool true)) k (t + 3) 3 own own cs (cs.setIfInBounds 5 (.bool true)) :=
      ⟨blk_set h1 _, fun j j0 j1 j2 => set_other (by omega), (Wr.refl _ w).trans (Wr.set _ _ (.inl rfl)), fun _ _ => rfl⟩
    have hX : WyAt (w.setCell ⟨k, 5, none⟩ (.bool true)) B own (t + 3) (cs.setIfInBounds 5 (.bool true)) 3 (Wy.sh C.w1) a1 b1 :=
      ⟨(set_other (by omega)).trans h5.cu, (set_other (by omega)).trans h5.cc, set_same h5.cb, h5.qu.keep (fun g e => Below.heap_setCell _ _ _ _ (fun e2 => by have e2 : g = k := e2; have := h5.tu g e; subst e2; omega)), h5.qc.keep (fun g e => Below.heap_setCell _ _ _ _ (fun e2 => by have e2 : g = k := e2; have := h5.tc g e; subst e2; omega)), h5.tu, h5.tc⟩
    have HF := hid (con_step1 h2 h3 hkl h4 hL hX)
    clear hbb hsame h1 h2 h3 h4 h5 hL hX hkl
    go_enter Try.func60, Try.ntmps60
    go_wp2_with (go_at_call 52; refine (from_1 k _).mono ?_; rintro e w1 ⟨rfl, rfl⟩)
    go_ret
    exact ⟨rfl, own, HF.out.1, HF.out.2⟩

end Go.Proofs.Ytgkfiolgipgbkaa.StmE
