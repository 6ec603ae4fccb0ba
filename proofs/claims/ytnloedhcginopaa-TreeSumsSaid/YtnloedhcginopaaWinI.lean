/- Contract of Add, of one more. -/
import Derived.Test.YtnloedhcginopaaWinH
namespace Go.Proofs.Ytnloedhcginopaa.WinI
open Go.ChangeShapes Go.WideShapes Go.ChangeAt Go.RowKit Base WinM WinA WinB WinC WinD WinE WinF WinG WinH WldF WldG

theorem At6.lets {R : Nat → Prop} {w w' : World} {g o : Nat} {c : Cnt} (h : At6 w g o c) (hl : Lets R w w') (hg : g < w.heap.size) (hr : ¬ R g) : At6 w' g o c := by
  have e := hl.block g hg hr
  obtain ⟨h1, h2, h3, h4, h5, h6⟩ := h
  exact ⟨(World.cell?_of_block (a := ⟨g, o, none⟩) e).trans h1, (World.cell?_of_block (a := ⟨g, o + 1, none⟩) e).trans h2, (World.cell?_of_block (a := ⟨g, o + 2, none⟩) e).trans h3, (World.cell?_of_block (a := ⟨g, o + 3, none⟩) e).trans h4, (World.cell?_of_block (a := ⟨g, o + 4, none⟩) e).trans h5, (World.cell?_of_block (a := ⟨g, o + 5, none⟩) e).trans h6⟩

theorem stays_fine {lim : Int} {l : List Bkt} (h : ∀ x ∈ l, x.c.Fine) : ∀ x ∈ stays lim l, x.c.Fine := fun x hx => h x (List.mem_filter.1 hx).1

def AddPost (p : Nat) (go : Option Nat) (s' : Win) (w : World) (e : Ending) (w' : World) : Prop :=
  ∃ go', e = .returned (.int .i64 0) ∧ IsWin w' p go' s' ∧ (go' = go ∨ ∃ g, go' = some g ∧ w.heap.size ≤ g) ∧ Lets (fun k => k = p ∨ go = some k) w w'

set_option maxRecDepth 100000 in
set_option maxHeartbeats 2000000 in
theorem add_yes (p : Nat) (go : Option Nat) (s : Win) (q at_ : Nat) (c : Cnt) (gl ol capl : Nat) (w : World) (h : IsWin w p go s) (hq : s.width / s.size = q) (hq0 : 0 < q) (hz : 0 < s.size) (hwd : s.width ≤ 1099511627776)
    (hat : at_ ≤ 1152921504606846976) (hback : s.last ≤ at_) (hfine : ∀ x ∈ s.bs, x.c.Fine) (hlen : s.bs.length ≤ 1000) (hc : c.Right) (hl : At6 w gl ol c) (hgl : gl < w.heap.size) (hgp : gl ≠ p) (hgg : go ≠ some gl) :
    Calls Try.prog 68 #[.pointer (some ⟨p, 0, none⟩), .int .i64 at_, .slice (some ⟨gl, ol, none⟩) 1 capl] w (AddPost p go (addM q s at_ c) w) := by
  have hr0 : refM s.last at_ = 0 := by unfold refM; rw [if_neg (by omega), if_neg (by omega)]
  have hp := h.lt
  have HG2 := hid h.lt2
  have HW := hid h
  have HQ := hid (And.intro hq (And.intro hq0 (And.intro hz (And.intro hwd hat))))
  have HFine := hid hfine
  have HLen := hid hlen
  have HRight := hid hc
  have HL := hid hl
  have HGG := hid hgg
  have HRf := hid (refuses_any p s.last at_ w h.cells.2.2.1)
  rw [hr0] at HRf
  have HCt := hid (containsRight gl ol capl c w hgl hc (hid hl))
  clear hr0 h hq hq0 hz hwd hfine hlen hc hl hback hgg
  go_enter Try.func68, Try.ntmps68
  go_wp2_with fail
  refine HRf.out.mono ?_
  rintro e w1 ⟨rfl, rfl⟩
  go_wp2_with fail
  refine HCt.out.mono ?_
  rintro e w1 ⟨rfl, hb1⟩
  have hl1 : Lets (fun k => k = p ∨ go = some k) w w1 := Lets.ofBelow hb1
  have hw1 : IsWin w1 p go s := HW.out.keep (R := fun _ => False) (Lets.ofBelow hb1) (fun h => h) (fun _ _ h => h)
  obtain ⟨_, _, c2, _⟩ := hw1.cells
  have f2 := hw1.frozen 2
  have HW1 := hid hw1
  have HL1 := hid hl1
  clear HRf HCt hb1 hl1 hw1
  have hw2 := IsWin.setLast HW1.out at_
  have hl2 := HL1.out.set ⟨p, 2, none⟩ (.int .i64 at_) (.inl (.inl rfl))
  obtain ⟨d0, d1, _, _⟩ := hw2.cells
  have HF := hid (first_any p s.width s.size q at_ (w1.setCell ⟨p, 2, none⟩ (.int .i64 at_)) d0 d1 HQ.out.2.2.1 HQ.out.1 HQ.out.2.1 HQ.out.2.2.2.1 HQ.out.2.2.2.2)
  have HW2 := hid hw2
  have HL2 := hid hl2
  clear hw2 hl2 d0 d1
  go_wp2_with fail
  refine HF.out.mono ?_
  rintro e w2 ⟨rfl, n1, rfl⟩
  have HFo := hid (forget_any p go { s with last := at_ } ((begN q at_ : Int) - s.width + q) ((w1.setCell ⟨p, 2, none⟩ (.int .i64 at_)).drewN n1) (IsWin.drewN HW2.out n1) (by have := HLen.out; dsimp only; omega))
  clear HF c2 f2
  go_wp2_with fail
  refine HFo.out.mono ?_
  rintro e w3 ⟨rfl, hw3, hl3⟩
  have HL3 := hid ((HL2.out.drewN n1).trans hl3)
  have HW3 := hid hw3
  obtain ⟨d0, d1, _, _⟩ := hw3.cells
  have HB := hid (begin_any p s.width s.size q at_ w3 d0 d1 HQ.out.2.2.1 HQ.out.1 HQ.out.2.1 HQ.out.2.2.2.1 HQ.out.2.2.2.2)
  clear HFo HW2 HL2 hw3 hl3 d0 d1
  go_wp2_with fail
  refine HB.out.mono ?_
  rintro e w4 ⟨rfl, n2, rfl⟩
  have HBu := hid (bucket_all p go { s with last := at_, bs := stays ((begN q at_ : Int) - s.width + q) s.bs } (begN q at_ : Nat) (w3.drewN n2) (IsWin.drewN HW3.out n2) (by have := HLen.out; exact Nat.le_trans (List.length_filter_le _ _) this) (stays_fine HFine.out))
  clear HB
  go_wp2_with fail
  refine HBu.out.mono ?_
  rintro e w5 ⟨g, cap, k, f, rfl, hbk, hfk, hat5, hwp, hgp5, hg5, hl5, hnote⟩
  have HL5 := hid ((HL3.out.drewN n2).trans hl5)
  obtain ⟨_, k1, k2, k3, k4, k5, k6⟩ := hbk.at6 k (by omega)
  have z1 := hbk.frozen (k * 7 + 1)
  have z2 := hbk.frozen (k * 7 + 2)
  have z3 := hbk.frozen (k * 7 + 3)
  have z4 := hbk.frozen (k * 7 + 4)
  have z5 := hbk.frozen (k * 7 + 5)
  have z6 := hbk.frozen (k * 7 + 6)
  have hglw5 : gl < w5.heap.size := Nat.lt_of_lt_of_le hgl HL5.out.size
  have hnr : ¬ (gl = p ∨ go = some gl) := fun h => h.elim hgp HGG.out
  have hT := together_one (f k).c.pass (f k).c.block (f k).c.done (f k).c.errs (f k).c.rt (f k).c.low c.pass c.block c.done c.errs c.rt c.low gl ol capl w5 hfk HRight.out.1 (hid (At6.lets HL.out HL5.out hgl hnr)) hglw5
  have HT := hid hT
  have hbksz := hbk.lt
  have HBK := hid hbk
  have HNote := hid hnote
  have HWP := hid hwp
  have HG5 : Hid (go = some g ∨ w.heap.size ≤ g) := hid (hg5.imp_right fun h => Nat.le_trans HL3.out.size h)
  have hsz5 := HL5.out.size
  have hpw5 : p < w5.heap.size := by omega
  have hat5' := hid hat5
  clear HBu hbk hfk hat5 hwp hg5 hl5 hnote hT hnr HL3
  go_wp2_with fail
  refine HT.out.mono ?_
  rintro e w6 ⟨rfl, hb6⟩
  have q1 : w6.cell? ⟨g, k * 7 + 1, none⟩ = some (.int .i64 (f k).c.pass) := (hb6.cell (p := ⟨g, k * 7 + 1, none⟩) hbksz).trans k1
  have q2 : w6.cell? ⟨g, k * 7 + 2, none⟩ = some (.int .i64 (f k).c.block) := (hb6.cell (p := ⟨g, k * 7 + 2, none⟩) hbksz).trans k2
  have q3 : w6.cell? ⟨g, k * 7 + 3, none⟩ = some (.int .i64 (f k).c.done) := (hb6.cell (p := ⟨g, k * 7 + 3, none⟩) hbksz).trans k3
  have q4 : w6.cell? ⟨g, k * 7 + 4, none⟩ = some (.int .i64 (f k).c.errs) := (hb6.cell (p := ⟨g, k * 7 + 4, none⟩) hbksz).trans k4
  have q5 : w6.cell? ⟨g, k * 7 + 5, none⟩ = some (.int .i64 (f k).c.rt) := (hb6.cell (p := ⟨g, k * 7 + 5, none⟩) hbksz).trans k5
  have q6 : w6.cell? ⟨g, k * 7 + 6, none⟩ = some (.int .i64 (f k).c.low) := (hb6.cell (p := ⟨g, k * 7 + 6, none⟩) hbksz).trans k6
  have r1 : w6.frozen? ⟨g, k * 7 + 1, none⟩ = false := (hb6.frozen (p := ⟨g, k * 7 + 1, none⟩) hbksz).trans z1
  have r2 : w6.frozen? ⟨g, k * 7 + 2, none⟩ = false := (hb6.frozen (p := ⟨g, k * 7 + 2, none⟩) hbksz).trans z2
  have r3 : w6.frozen? ⟨g, k * 7 + 3, none⟩ = false := (hb6.frozen (p := ⟨g, k * 7 + 3, none⟩) hbksz).trans z3
  have r4 : w6.frozen? ⟨g, k * 7 + 4, none⟩ = false := (hb6.frozen (p := ⟨g, k * 7 + 4, none⟩) hbksz).trans z4
  have r5 : w6.frozen? ⟨g, k * 7 + 5, none⟩ = false := (hb6.frozen (p := ⟨g, k * 7 + 5, none⟩) hbksz).trans z5
  have r6 : w6.frozen? ⟨g, k * 7 + 6, none⟩ = false := (hb6.frozen (p := ⟨g, k * 7 + 6, none⟩) hbksz).trans z6
  have HB6 := hid hb6
  clear hb6 k1 k2 k3 k4 k5 k6 z1 z2 z3 z4 z5 z6 HT
  have hb6 := HBK.out.below HB6.out hbksz
  have hp6 : w6.heap[p]? = w5.heap[p]? := HB6.out.block p hpw5
  have hput := hb6.put6 k (by omega) (joinM (f k).c c)
  have HPut := hid hput
  have HP6 := hid hp6
  have hrg : (g = p ∨ go = some g) ∨ w.heap.size ≤ g := HG5.out.elim (fun h => .inl (.inr h)) .inr
  have l0 := HL5.out.trans (Lets.ofBelow HB6.out)
  have l1 := l0.set ⟨g, k * 7 + 1, none⟩ (.int .i64 (joinM (f k).c c).pass) hrg
  have l2 := l1.set ⟨g, k * 7 + 1 + 1, none⟩ (.int .i64 (joinM (f k).c c).block) hrg
  have l3 := l2.set ⟨g, k * 7 + 1 + 2, none⟩ (.int .i64 (joinM (f k).c c).done) hrg
  have l4 := l3.set ⟨g, k * 7 + 1 + 3, none⟩ (.int .i64 (joinM (f k).c c).errs) hrg
  have l5 := l4.set ⟨g, k * 7 + 1 + 4, none⟩ (.int .i64 (joinM (f k).c c).rt) hrg
  have l6 := l5.set ⟨g, k * 7 + 1 + 5, none⟩ (.int .i64 (joinM (f k).c c).low) hrg
  have HL7 := hid l6
  clear l0 l1 l2 l3 l4 l5 l6
  clear hb6 hp6 hput hrg
  unfold cv
  go_wp2
  go_ret
  have hJ : (⟨(f k).c.pass, (f k).c.block, (f k).c.done, (f k).c.errs, (f k).c.rt, (f k).c.low⟩ : Cnt) = (f k).c := rfl
  have hbs : (addM q s at_ c).bs = toL (fun j => if j = k then ⟨(f k).at_, joinM (f k).c c⟩ else f j) (k + 1) := by
    show noteM _ _ _ = _
    rw [HNote.out c, toL_succ, if_pos rfl, hat5'.out]
    congr 1
    exact toL_congr fun i hi => by rw [if_neg (by omega)]
  have hbl : (addM q s at_ c).bs.length = k + 1 := by rw [hbs, toL_len]
  refine ⟨some g, rfl, ⟨fun e => hgp5 (Option.some.inj e), .slice (some ⟨g, 0, none⟩) (k + 1) cap, ?_, .inr ⟨g, cap, (fun j => if j = k then ⟨(f k).at_, joinM (f k).c c⟩ else f j), rfl, by rw [hbl], by rw [hbl]; exact HPut.out, by rw [hbl, hbs]⟩⟩, ?_, HL7.out⟩
  · have e := HWP.out
    rw [← HP6.out] at e
    have hne : p ≠ g := fun h => hgp5 h.symm
    rw [heap_setCell_other _ _ _ _ (by exact hne), heap_setCell_other _ _ _ _ (by exact hne), heap_setCell_other _ _ _ _ (by exact hne), heap_setCell_other _ _ _ _ (by exact hne), heap_setCell_other _ _ _ _ (by exact hne), heap_setCell_other _ _ _ _ (by exact hne)]
    exact e
  · exact HG5.out.elim (fun h => .inl h.symm) (fun h => .inr ⟨g, rfl, h⟩)

end Go.Proofs.Ytnloedhcginopaa.WinI
