/- The walk of Split. -/
import Derived.Test.YthmcfnbnafdkeaaFrmF
import Derived.Deep.AppendLies
namespace Go.Proofs.Ythmcfnbnafdkeaa.FrmG
open Go.ChangeShapes Go.WideShapes Go.ChangeAt Go.RowKit Base Wri FrmP FrmA FrmB FrmC FrmD FrmE FrmF
open Go.Shelf
set_option linter.unusedVariables false
set_option linter.unusedSimpArgs false
attribute [local go_sem] Oper.semAt_some
attribute [local go_sem ↓ high] builtin_app

theorem three (w : World) (x0 x1 x2 : Value) (t0 t1 t2 : TypeId) (W : World) (h : ((w.alloc (.cells #[x0] t0)).alloc (.cells #[x1] t1)).alloc (.cells #[x2] t2) = W) :
    Boxed W w.heap.size t0 x0 ∧ Boxed W (w.heap.size + 1) t1 x1 ∧ Boxed W (w.heap.size + 2) t2 x2 ∧ Below w.heap.size w W ∧ W.heap.size = w.heap.size + 3 := by
  subst h
  have b0 := Boxed.new w t0 x0
  have b1 := Boxed.new (w.alloc (.cells #[x0] t0)) t1 x1
  have b2 := Boxed.new ((w.alloc (.cells #[x0] t0)).alloc (.cells #[x1] t1)) t2 x2
  rw [World.size_alloc] at b1
  rw [World.size_alloc, World.size_alloc] at b2
  exact ⟨(b0.alloc _).alloc _, b1.alloc _, b2, (((Below.refl _ w).alloc (Nat.le_refl _) _).alloc (by simp) _).alloc (by simp; omega) _, by simp⟩

theorem keeps_bel {B : Nat} {W W' : World} (h : Below W.heap.size W W') : KeepsFrom B W W' := ⟨h.size, fun k o _ hk _ => (h.block k (Array.getElem?_eq_some_iff.1 hk).1).trans hk⟩

/-- a payload appended to those that were told -/
theorem push_run (W3 : World) (base : Nat) (hbase : base ≤ W3.heap.size) (row : Value) (vs : List Value) (m : Nat) (hown : W3.ownsRow base 28 1 row m vs) (hm : m ≤ 1099511627776) (g o n c : Nat) :
    ∃ g5 c5 w5, Sem.run Try.prog (app #[22, 22] 22 #[row, .slice (some ⟨W3.heap.size, 0, none⟩) 1 1]) (W3.alloc (.cells #[.slice (some ⟨g, o, none⟩) n c] 28)) = .ok (.slice (some ⟨g5, 0, none⟩) (m + 1) c5) w5 ∧
      w5.ownsRow base 28 1 (.slice (some ⟨g5, 0, none⟩) (m + 1) c5) (m + 1) (vs ++ [.slice (some ⟨g, o, none⟩) n c]) ∧ (W3.alloc (.cells #[.slice (some ⟨g, o, none⟩) n c] 28)).grownBy w5 row.ownBlock ∧
      ((Value.slice (some ⟨g5, 0, none⟩) (m + 1) c5).ownBlock = row.ownBlock ∨ (Value.slice (some ⟨g5, 0, none⟩) (m + 1) c5).ownBlock = some (W3.heap.size + 1)) := by
  obtain ⟨i0, hi, hz0, hz1, hz2⟩ := info_parts infoBs
  obtain ⟨v', w1, hrun, hown', hgrow, _, hat⟩ := run_append_own_at (P := Try.prog) (W3.alloc (.cells #[.slice (some ⟨g, o, none⟩) n c] 28)) base 22 22 28 i0 (.slice none 0 0) 1 24 Try.underlying22 hi hz0 hz1 hz2 rfl (by decide) row m vs (World.ownsRow.alloc (w := W3) hown _)
    ⟨W3.heap.size, 0, none⟩ 1 1 [.slice (some ⟨g, o, none⟩) n c] rfl (cell_one_new W3 _ _) (by intro u hu; obtain rfl := List.mem_singleton.1 hu; rfl) (by unfold maxLen; omega) (by omega) (by simp; omega)
  obtain ⟨g5, c5, rfl⟩ := ownsRow_succ hown'
  exact ⟨g5, c5, w1, hrun, hown', hgrow, by simpa using hat⟩

/-- what one round leaves -/
theorem SpI.push {w W W3 w5 : World} {s p : Bs} {ps : List Bs} {row row' v : Value} {vs : List Value} {o : Obj} (h : SpI w s ps W) (hrow : Boxed W w.heap.size 22 row) (hpl : Pls W (w.heap.size + 3) row vs ps)
    (hb3 : Below W.heap.size W W3) (hv : PayB W3 W.heap.size v p)
    (hown : w5.ownsRow (w.heap.size + 3) 28 1 row' (ps.length + 1) (vs ++ [v])) (hgrow : (W3.alloc o).grownBy w5 row.ownBlock) (hat : row'.ownBlock = row.ownBlock ∨ row'.ownBlock = some (W3.heap.size + 1)) (B : Nat) :
    (∀ k, k < w.heap.size + 3 → w5.heap[k]? = W.heap[k]?) ∧
    SpI w s (ps ++ [p]) ((w5.setCell ⟨w.heap.size, 0, none⟩ row').setCell ⟨w.heap.size + 1, 0, none⟩ (.int .i64 (place (ps ++ [p]) : Nat))) ∧ KeepsFrom B W ((w5.setCell ⟨w.heap.size, 0, none⟩ row').setCell ⟨w.heap.size + 1, 0, none⟩ (.int .i64 (place (ps ++ [p]) : Nat))) := by
  have hP3 : Pls W3 (w.heap.size + 3) row vs ps := hpl.below hb3
  have hs := h.size
  have hs3 := hb3.size
  obtain ⟨gv, cv, ev, hgv, hhv, hlv⟩ := hv.block
  have hrl : ∀ g, row.ownBlock = some g → w.heap.size + 3 ≤ g ∧ g < W.heap.size := fun g e => hpl.own.lt g e
  have hlow : ∀ k, k < w.heap.size + 3 → w5.heap[k]? = W.heap[k]? := fun k hk => by
    rw [hgrow.block k (by simp; omega) (fun e => by have := (hrl k e.symm).1; omega), Below.heap_alloc _ _ _ (by omega), hb3.block k (by omega)]
  have h6k : ∀ k, k ≠ w.heap.size → (w5.setCell ⟨w.heap.size, 0, none⟩ row').heap[k]? = w5.heap[k]? := fun k hk => Below.heap_setCell _ _ _ k hk
  have h7k : ∀ k, k ≠ w.heap.size + 1 → ((w5.setCell ⟨w.heap.size, 0, none⟩ row').setCell ⟨w.heap.size + 1, 0, none⟩ (.int .i64 (place (ps ++ [p]) : Nat))).heap[k]? = (w5.setCell ⟨w.heap.size, 0, none⟩ row').heap[k]? := fun k hk => Below.heap_setCell _ _ _ k hk
  have hr' : ∀ g, row'.ownBlock = some g → w.heap.size + 3 ≤ g := fun g e => (hown.lt g e).1
  have hown6 : (w5.setCell ⟨w.heap.size, 0, none⟩ row').ownsRow (w.heap.size + 3) 28 1 row' (ps.length + 1) (vs ++ [v]) := owns_keep hown (fun g e => h6k g (by have := hr' g e; omega))
  have hblk : ∀ v' ∈ vs ++ [v], ∃ g, v'.ownBlock = some g ∧ w.heap.size + 3 ≤ g := by
    intro v' hv'
    rcases List.mem_append.1 hv' with hv' | hv'
    · obtain ⟨g, _, e, hb, _⟩ := hP3.pay hv'
      exact ⟨g, e, hb⟩
    · obtain rfl := List.mem_singleton.1 hv'
      exact ⟨gv, ev, by omega⟩
  have hPP := Pls.push (Bp := w.heap.size) (w6 := w5.setCell ⟨w.heap.size, 0, none⟩ row') (p := p) hP3 (hv.low (by omega)) (fun v' hv' => by
      obtain ⟨g, _, e, _, _, hlt⟩ := hpl.pay hv'
      rw [e, ev]; intro e2; cases e2; omega) (by
      rw [ev]; intro e2; have := hrl gv e2.symm; omega) hown hgrow hat hown6 rfl (fun v' hv' => by
      obtain ⟨g, e, hb⟩ := hblk v' hv'
      rw [e]; intro e2; cases e2; omega)
  have hsz : W.heap.size ≤ w5.heap.size := Nat.le_trans hs3 (by have := hgrow.size; simp at this; omega)
  have hbx0 : Boxed w5 w.heap.size 22 row := (hlow _ (by omega)).trans hrow
  have hbx1 : Boxed w5 (w.heap.size + 1) 3 (.int .i64 (place ps : Nat)) := (hlow _ (by omega)).trans h.plc
  refine ⟨hlow, ⟨⟨row', vs ++ [v], (h7k _ (by omega)).trans (hbx0.set row'), hPP.keep (fun g e => h7k g (by have := hr' g e; omega)) (fun v' hv' g e => h7k g (by
      obtain ⟨g', e', hb⟩ := hblk v' hv'
      rw [e'] at e; cases e; omega))⟩, ?_, ?_, ?_, by simp; omega⟩, ?_⟩
  · exact Boxed.set _ ((h6k _ (by omega)).trans hbx1)
  · refine boxs_block h.left (by simp; omega) (fun k hk => ?_) ?_
    · rw [h7k k (by omega), h6k k (by omega), hlow k (by omega)]
    · rw [h7k _ (by omega), h6k _ (by omega), hlow _ (by omega)]
  · have hb5 : Below w.heap.size w w5 := by
      refine Below.grown ((h.bel.trans (hb3.mono (by omega))).alloc (by omega) o) hgrow (by simp; omega) (fun k e => by have := (hrl k e).1; omega)
    exact (hb5.setCell (p := ⟨w.heap.size, 0, none⟩) (Nat.le_refl _) _).setCell (p := ⟨w.heap.size + 1, 0, none⟩) (by show _ ≤ w.heap.size + 1; omega) _
  · refine ((keeps_bel hb3).trans ((KeepsOthers.alloc W3 o).from B)).trans ((KeepsFrom.trans ((KeepsOthers.of_grownBy hgrow fun j o2 ej hj => ?_).from B) (keeps_set B _ _ _)).trans (keeps_set B _ _ _))
    have h1 := hP3.own.2
    rcases h1 with ⟨rfl, _⟩ | ⟨g, cap, cur, rfl, _, hgb, _⟩
    · simp [Value.ownBlock] at ej
    · obtain rfl : g = j := by simpa [Value.ownBlock] using ej
      rw [Below.heap_alloc _ _ _ (Array.getElem?_eq_some_iff.1 hgb).1, hgb] at hj
      cases hj; rfl

set_option maxRecDepth 100000 in
set_option maxHeartbeats 2000000 in
theorem split_any (a : Option Addr) (cap : Nat) (b : Bs) (w : World) (hb : b.length ≤ 4398046511104) (hc : b.length ≤ cap) (hc2 : cap ≤ 9223372036854775807) (HB : Hid (BAt w w.heap.size a b)) :
    Calls Try.prog 43 #[.slice a b.length cap] w fun e w' => ∃ row vs, e = .returned (.tuple #[row, .int .i64 (place (sp b).1 : Nat), .int .i64 (errOf (sp b).2)]) ∧ Pls w' (w.heap.size + 3) row vs (sp b).1 ∧ Below w.heap.size w w' := by
  obtain ⟨i0, hi, hz0, hz1, hz2⟩ := info_parts infoBs
  obtain ⟨j0, hu8, hy0, hu8s, hy2⟩ := info_parts infoU8
  refine callsIn_wide.1 (callsIn_of_wp_marks (n := 10) Try.func43 rfl trivial ?_ rfl)
  simp only [Try.ntmps43, List.size_toArray, List.length_cons, List.length_nil, Nat.reduceAdd, Nat.reduceSub, Array.replicate_succ, Array.replicate_zero, List.push_toArray, List.append_toArray, List.nil_append, List.cons_append]
  gi_wp2
  refine ⟨trivial, ?_⟩
  refine (callsIn_wide.2 (whole_any _ _ _ _)).mono ?_
  rintro e w2 ⟨rfl, rfl⟩
  gi_wp2
  obtain ⟨W4, hW4⟩ : ∃ W4, ((w.alloc (.cells #[.slice none 0 0] 22)).alloc (.cells #[.int .i64 0] 3)).alloc (.cells #[.slice a b.length cap] 28) = W4 := ⟨_, rfl⟩
  obtain ⟨bA, bB, bL, hB0, hsz⟩ := three w _ _ _ _ _ _ W4 hW4
  rw [hW4]
  clear hW4
  have HJ0 : Hid (SpI w b [] W4) := hid ⟨⟨.slice none 0 0, [], bA, Pls.nil _ _⟩, bB, ⟨by omega, a, cap, bL, HB.out.below hB0, hc, hc2⟩, hB0, by omega⟩
  refine rf_joint (X := Nat × Nat × Nat × Nat) rfl (by omega) (gf := 87) (lb := #[.pointer (some ⟨w.heap.size + 2, 0, none⟩)]) rfl trivial (enters_of Try.func87 (by kernel_rfl) rfl)
    (fun x => #[.slice (some ⟨x.2.1, x.2.2.1 + 4, none⟩) x.2.2.2 x.2.2.2]) (fun _ => rfl)
    (fun x W => (∃ ps, Gone b x.1 ps ∧ SpI w (b.drop x.1) ps W) ∧ whole (b.drop x.1) = true ∧ x.2.2.2 = num4 (b.drop x.1) ∧ x.2.1 < w.heap.size ∧ ∀ i y, (b.drop x.1)[i]? = some y → W.cell? ⟨x.2.1, x.2.2.1 + i, none⟩ = some (bv y))
    (fun x W => ∃ ps, Gone b (x.1 + (4 + num4 (b.drop x.1))) ps ∧ SpI w (b.drop x.1) ps W)
    (fun W => ∃ p ps, whole (b.drop p) = false ∧ Gone b p ps ∧ SpI w (b.drop p) ps W)
    (by
      rintro x U V ⟨⟨ps, h1, h2⟩, h3, h4, h5, h6⟩ ht
      have ht2 := ht
      obtain ⟨l, o, o', hl, hlo, ho, rfl⟩ := ht
      exact ⟨⟨ps, h1, SpI.stands (by omega) _ _ h2 ht2⟩, h3, h4, h5, fun i y hy => (World.cell?_of_block (a := ⟨x.2.1, x.2.2.1 + i, none⟩) (World.putObj_heap_other (by show x.2.1 ≠ l; omega))).trans (h6 i y hy)⟩)
    (by
      rintro x U V ⟨ps, h1, h2⟩ ht
      exact ⟨ps, h1, SpI.stands (by omega) _ _ h2 ht⟩)
    (by
      rintro U V ⟨p, ps, h0, h1, h2⟩ ht
      exact ⟨p, ps, h0, h1, SpI.stands (by omega) _ _ h2 ht⟩)
    (fun x => { tmps := #[.slice a b.length cap, undef, .slice none 0 0, .int .i64 0, .int .i64 0, .pointer (some ⟨w.heap.size, 0, none⟩), .pointer (some ⟨w.heap.size + 1, 0, none⟩), .slice (some ⟨x.2.1, x.2.2.1 + 4, none⟩) x.2.2.2 x.2.2.2, .slice a b.length cap,
        .func (Fn.func 87) #[] #[.pointer (some ⟨w.heap.size + 2, 0, none⟩)], .slice (some ⟨x.2.1, x.2.2.1 + 4, none⟩) x.2.2.2 x.2.2.2, undef, undef, undef, undef, undef, undef, undef, undef, undef, undef, undef, undef, undef, undef, undef, undef], defers := [] }) ?assign ?body ?iter ?done
  case assign =>
    intro l x W K hK
    gi_wp2
    exact hK
  case iter =>
    rintro l Bk W1 hBk hY hk ⟨o, o', hW1⟩
    subst hW1
    have hsp : SpI w b [] ((W4.alloc o).alloc o') := by
      obtain ⟨⟨row, vs, b1, b2⟩, h2, h3, h4, h5⟩ := HJ0.out
      have hbl : Below W4.heap.size W4 ((W4.alloc o).alloc o') := ((Below.refl _ _).alloc (Nat.le_refl _) _).alloc (by simp) _
      exact ⟨⟨row, vs, (hbl.block _ b1.lt).trans b1, b2.below hbl⟩, (hbl.block _ h2.lt).trans h2, boxs_block h3 hbl.size (fun k hk => hbl.block k (by omega)) (hbl.block _ (by omega)), h4.trans (hbl.mono h4.size), by simp; omega⟩
    refine (whole1_in 9 (by omega) l (w.heap.size + 2) w.heap.size W4.heap.size b _ _ Bk (hid (feed_sp w b)) (hid hBk) (fun p g o W hj hw hg hcl hk => ?_) _ ⟨[], Gone.zero b, by simpa using hsp⟩ hk).mono ?_
    · exact hY (p, g, o, num4 (b.drop p)) W ⟨hj, hw, rfl, hg, hcl⟩ hk
    · rintro e W' ⟨he, ⟨p, ⟨ps, h1, h2⟩, h3⟩, h4⟩
      exact ⟨he, ⟨p, ps, h3, h1, h2⟩, h4⟩
  case body =>
    rintro l ⟨p, g, o, u⟩ W ⟨⟨ps, hgood, hsp⟩, hw, hu, hg, hcl⟩
    dsimp only at hgood hsp hw hu hg hcl ⊢
    obtain ⟨row, vs, hb1, hpl⟩ := hsp.told
    obtain ⟨va, vc, rfl⟩ := owns_shape hpl.own
    have hwi := whole_iff.1 hw
    have hplen := pay_len hw
    have HPL := hid hpl
    have HSP := hid hsp
    have HB1 := hid hb1
    have HGN := hid (hgood.next hw)
    have hsz5 := hsp.size
    have hcnt := hgood.count
    have hple := hgood.le
    have hplc := hgood.place_
    have HC := hid (clone_some g (o + 4) u (pay (b.drop p)) W.drew (by omega) (fun i x hx => by
      unfold pay at hx
      rw [List.getElem?_take] at hx
      split at hx
      · rw [List.getElem?_drop] at hx
        rw [Nat.add_assoc]
        exact hcl _ _ hx
      · cases hx) (Nat.lt_of_lt_of_le hg (Nat.le_trans (by omega) hsz5)))
    have HPAY : Hid ((pay (b.drop p)).length = u) := hid (by omega)
    have hu1 : 1 ≤ u := by omega
    have hu2 : u ≤ 4096 := by omega
    rw [HPAY.out] at HC
    have x0 := hb1.cell
    have x1 := hsp.plc.cell
    have HF1 := hid hsp.plc.frozen
    have HPLC : Hid (place (ps ++ [pay (b.drop p)]) = place ps + (4 + u)) := hid (by simp only [place, List.map_append, List.sum_append, List.map_cons, List.map_nil, List.sum_cons, List.sum_nil, hplen]; omega)
    have hpl2 : place ps ≤ 4398046511104 := by omega
    generalize place ps = q at *
    obtain ⟨m, hm⟩ : ∃ m, ps.length = m := ⟨_, rfl⟩
    rw [hm] at HB1 x0 hcnt
    have HM := hid hm
    clear hb1 hpl hsp hgood hwi hplen hcl hm hu hw
    gi_wp2
    first
    | gi_region_with (
        refine ⟨trivial, ?_⟩
        gi_at_call 45
        refine (CallsIn.inRound l (callsIn_wide.2 HC.out)).mono ?_
        rintro e w3 ⟨v, rfl, hown3, hb3⟩
        have hb4 : Below W.heap.size W w3 := (Below.drew (Below.refl _ W)).trans hb3
        obtain ⟨g3, c3, hv, _, _⟩ := hown3.form (by omega)
        subst hv
        have hs3 := hb4.size
        have hpay : PayB w3 W.heap.size (.slice (some ⟨g3, 0, none⟩) (pay (b.drop p)).length c3) (pay (b.drop p)) := PayB.own (by rw [HPAY.out]; exact hown3) (by rw [HPAY.out]; omega)
        rw [HPAY.out] at hpay
        obtain ⟨g5, c5, w5, hrun, hown5, hgrow5, hat5⟩ := push_run w3 (w.heap.size + 3) (by omega) (.slice va m vc) vs m (by have := (HPL.out.below hb4).own; rw [HM.out] at this; exact this) (by omega) g3 0 u c3
        obtain ⟨hlow5, hsp6, hkf6⟩ := SpI.push (p := pay (b.drop p)) HSP.out HB1.out (by have := HPL.out; rw [HM.out] at this; exact this) hb4 hpay (by rw [HM.out]; exact hown5) hgrow5 hat5 W4.heap.size
        have HF := hid (And.intro hsp6 hkf6)
        have y0 : w3.cell? ⟨w.heap.size, 0, none⟩ = some (.slice va m vc) := (hb4.cell (p := ⟨w.heap.size, 0, none⟩) (by show w.heap.size < W.heap.size; omega)).trans x0
        have y1 : (w3.alloc (.cells #[.slice (some ⟨g3, 0, none⟩) u c3] 28)).cell? ⟨w.heap.size, 0, none⟩ = some (.slice va m vc) := (World.cell?_of_block (a := ⟨w.heap.size, 0, none⟩) (Below.heap_alloc _ _ _ (by show w.heap.size < w3.heap.size; omega))).trans y0
        have z0 : w5.cell? ⟨w.heap.size, 0, none⟩ = some (.slice va m vc) := (World.cell?_of_block (a := ⟨w.heap.size, 0, none⟩) (hlow5 w.heap.size (by omega))).trans x0
        have z1 : w5.frozen? ⟨w.heap.size, 0, none⟩ = false := (World.frozen?_of_block (a := ⟨w.heap.size, 0, none⟩) (hlow5 w.heap.size (by omega))).trans HB1.out.frozen
        have z2 : w5.cell? ⟨w.heap.size + 1, 0, none⟩ = some (.int .i64 (q : Nat)) := (World.cell?_of_block (a := ⟨w.heap.size + 1, 0, none⟩) (hlow5 (w.heap.size + 1) (by omega))).trans x1
        have z3 : w5.frozen? ⟨w.heap.size + 1, 0, none⟩ = false := (World.frozen?_of_block (a := ⟨w.heap.size + 1, 0, none⟩) (hlow5 (w.heap.size + 1) (by omega))).trans HF1.out
        clear hown3 hb3 hpay hown5 hgrow5 hat5 hlow5 hsp6 hkf6)
    | fail
    all_goals
      gi_wp2
      rw [show ((place (ps ++ [pay (b.drop p)]) : Nat) : Int) = (p : Int) + (4 + (u : Int)) by rw [HPLC.out]; omega] at HF
      exact ⟨HF.out.2, _, HGN.out, HF.out.1⟩
  case done =>
    rintro D W hD ⟨p, ps, hw, hgood, hsp⟩ hK
    obtain ⟨row, vs, hb1, hpl⟩ := hsp.told
    obtain ⟨hps, hrest⟩ := hgood.ends hw
    have hplc := hgood.place_
    have HP := hid hplc
    have hple := hgood.le
    have x0 := hb1.cell
    have x1 := hsp.plc.cell
    rw [hplc] at x1
    obtain ⟨va, vc, rfl⟩ := owns_shape hpl.own
    have HRES := hid hpl
    have HSP := hid hsp.bel
    have hsz6 := hsp.size
    have HE := hid (And.intro hps hrest)
    have HBW := hid (HB.out.below hsp.bel)
    obtain ⟨ad, cd, hsl, HBD⟩ : ∃ ad cd, (∀ wx, Sem.run Try.prog (Instr.sliceAt 28 (.slice a b.length cap) (some (.int .i64 (p : Nat))) none none) wx = .ok (.slice ad (b.length - p) cd) wx) ∧ Hid (BAt W W.heap.size ad (b.drop p)) := by
      have hrun : ∀ wx, Sem.run Try.prog (Instr.sliceAt 28 (.slice a b.length cap) (some (.int .i64 (p : Nat))) none none) wx = .ok (.slice (if cap = p then a else a.map (·.add (p * 1))) (b.length - p) (cap - p)) wx := by
        intro wx
        have he : Try.prog.elem 28 = 5 := by kernel_rfl
        rw [run_sliceAt_slice _ _ _ _ _ _ (by rw [he]; exact Try.underlying28), run_slice_l _ _ _ _ _ (by rw [he]; exact Try.underlying28) _ _ (by omega) (by omega), he]
        simp [sizeOf, typeInfo, hu8, Result.andThen, sliced, hu8s]
      by_cases hcp : cap = p
      · refine ⟨a, cap - p, fun wx => ?_, hid (fun h0 => by rw [List.length_drop] at h0; omega)⟩
        rw [hrun wx, if_pos hcp]
      · cases a with
        | none => exact ⟨none, cap - p, fun wx => (by rw [hrun wx, if_neg hcp]; rfl), hid (fun h0 => by
            have h1 : 0 < b.length := by rw [List.length_drop] at h0; omega
            obtain ⟨g, o, e, _⟩ := HBW.out h1
            cases e)⟩
        | some ad =>
          refine ⟨some (ad.add (p * 1)), cap - p, fun wx => (by rw [hrun wx, if_neg hcp]; rfl), hid (fun h0 => ?_)⟩
          have h1 : 0 < b.length := by rw [List.length_drop] at h0; omega
          obtain ⟨g, o, e, hg, hc3⟩ := HBW.out h1
          cases e
          refine ⟨g, o + p, by rw [Nat.mul_one, Go.WideShapes.add_plain], Nat.lt_of_lt_of_le hg hsp.left.1, fun i x hx => ?_⟩
          rw [List.getElem?_drop] at hx
          rw [Nat.add_assoc]
          exact hc3 _ _ hx
    have HG := hid (begun_any ad cd (b.drop p) W.drew (by simp; omega) HBD)
    have hbl : (b.drop p).length = b.length - p := by simp
    rw [hbl] at HG
    clear hbl hgood hsp hb1 hpl hps hrest hw bA bB bL
    gi_wp2
    refine wpIn_mono (Q := fun e a' w' => e = Exit.normal ∧ a' = { tmps := #[.slice a b.length cap, undef, .slice va ps.length vc, .int .i64 (p : Nat), .int .i64 (errOf (b.drop p)), .pointer (some ⟨w.heap.size, 0, none⟩), .pointer (some ⟨w.heap.size + 1, 0, none⟩), undef, .slice a b.length cap,
        .func (Fn.func 87) #[] #[.pointer (some ⟨w.heap.size + 1 + 1, 0, none⟩)], undef, undef, undef, undef, undef, undef, undef, undef, undef, undef, undef, .slice va ps.length vc, .int .i64 (p : Nat), .slice a b.length cap, .int .i64 (p : Nat), .slice ad (b.length - p) cd, .int .i64 (errOf (b.drop p))], defers := [({ target := Target.collected D, args := #[] } : Deferred)] } ∧ ∃ m, w' = W.drewN m) ?reg ?tail
    case reg =>
      first
      | gi_region_with (
          refine ⟨trivial, ?_⟩
          gi_at_call 71
          refine (callsIn_wide.2 HG.out).mono ?_
          rintro e w3 ⟨rfl, m3, rfl⟩
          have y0 : (W.drew.drewN m3).cell? ⟨w.heap.size, 0, none⟩ = some (.slice va ps.length vc) := x0
          have y1 : (W.drew.drewN m3).cell? ⟨w.heap.size + 1, 0, none⟩ = some (.int .i64 (p : Nat)) := x1)
      | fail
      all_goals exact ⟨rfl, rfl, _, rfl⟩
    case tail =>
      rintro e a' w' ⟨rfl, rfl, m3, rfl⟩
      have hK2 : (W.drewN m3).heap[D]? = some (.deferred (some [])) := hK
      gi_wp2
      refine ⟨by simp, .inl ⟨_, _, rfl, run_takeDeferred hK2, ?_⟩⟩
      refine ⟨.tuple #[.slice va ps.length vc, .int .i64 (p : Nat), .int .i64 (errOf (b.drop p))], by simp [results, Try.results43, go_sem], ?_⟩
      refine ⟨.slice va ps.length vc, vs, ?_, ?_, ?_⟩
      · rw [← HE.out.1, ← HE.out.2, HP.out]
      · have h1 : Pls (W.drewN m3) (w.heap.size + 3) (.slice va ps.length vc) vs ps := ⟨HRES.out.own, HRES.out.each, HRES.out.apart, HRES.out.out⟩
        rw [← HE.out.1]
        exact pls_put h1 hK2 rfl
      · have h1 : Below w.heap.size w (W.drewN m3) := ⟨HSP.out.os, HSP.out.tape, HSP.out.output, HSP.out.size, HSP.out.block⟩
        exact h1.trans (below_put hK2 (by omega))

end Go.Proofs.Ythmcfnbnafdkeaa.FrmG
