/- Requests and answers read: the program's. -/
import Derived.Test.YthmcfnbnafdkeaaPrtG
namespace Go.Proofs.Ythmcfnbnafdkeaa.PrtH
open Go.ChangeShapes Go.WideShapes Go.ChangeAt Go.RowKit Base Wri Vrw FrmP FrmA FrmD FrmE FrmF FrmR FrmX FrmL FrmC2 FrmK FrmK2 RulA PrtA PrtB PrtC PrtR PrtN PrtD PrtE PrtF PrtG
set_option linter.unusedVariables false
set_option linter.unusedSimpArgs false

variable {W W' w : World} {p c : Nat} {a : Option Addr} {b : Bs} {st : Rs}

def zero : Rs := ⟨0, false⟩
def wantO (b : Bs) : Nat := ((nx b zero 1).getD 0 0).toNat
def st1 (b : Bs) : Rs := st' b zero 1
def nO (b : Bs) (k : Nat) : Int := numO b (stN b (st1 b) k)
def txR (b : Bs) : ByteArray := ⟨(txO b (stN b (st1 b) 4)).toArray⟩
def endR (b : Bs) : Rs := txS b (stN b (st1 b) 4)
def endA (b : Bs) : Rs := stN b (st1 b) 4
def rqO (b : Bs) : Rq := ⟨nO b 0, wantO b, nO b 1, nO b 2, txR b, nO b 3⟩
def awO (b : Bs) : Aw := ⟨nO b 0, wantO b, nO b 1, nO b 2, nO b 3⟩

theorem fin_wr {Q R : Nat} {w4 : World} (h : IsRr w4 p a c b st) (hw : Wr (fun k => k = p) w w4) (hW : Wr (fun k => k = Q ∨ k = R) w4 W') (h1 : p ≠ Q) (h2 : p ≠ R) (h3 : ∀ ad, a = some ad → ad.block ≠ Q ∧ ad.block ≠ R) (h4 : w.heap.size ≤ Q) (h5 : w.heap.size ≤ R) : IsRr W' p a c b st ∧ Wr (fun k => k = p) w W' :=
  ⟨h.wr hW (fun e => e.elim h1 h2) (fun ad e e2 => e2.elim (h3 ad e).1 (h3 ad e).2), hw.on hW (fun k e => .inr (by rcases e with e | e <;> omega))⟩
theorem set6 {w5 : World} {R : Nat} {x0 x1 x2 x3 x4 x5 y0 y1 y2 y3 y4 y5 : Value} (h0 : w5.cell? ⟨R, 0, none⟩ = some x0) (h1 : w5.cell? ⟨R, 1, none⟩ = some x1) (h2 : w5.cell? ⟨R, 2, none⟩ = some x2) (h3 : w5.cell? ⟨R, 3, none⟩ = some x3) (h4 : w5.cell? ⟨R, 4, none⟩ = some x4) (h5 : w5.cell? ⟨R, 5, none⟩ = some x5) : ((((((w5.setCell ⟨R, 0, none⟩ y0).setCell ⟨R, 1, none⟩ y1).setCell ⟨R, 2, none⟩ y2).setCell ⟨R, 3, none⟩ y3).setCell ⟨R, 4, none⟩ y4).setCell ⟨R, 5, none⟩ y5).cell? ⟨R, 0, none⟩ = some y0 ∧ ((((((w5.setCell ⟨R, 0, none⟩ y0).setCell ⟨R, 1, none⟩ y1).setCell ⟨R, 2, none⟩ y2).setCell ⟨R, 3, none⟩ y3).setCell ⟨R, 4, none⟩ y4).setCell ⟨R, 5, none⟩ y5).cell? ⟨R, 1, none⟩ = some y1 ∧ ((((((w5.setCell ⟨R, 0, none⟩ y0).setCell ⟨R, 1, none⟩ y1).setCell ⟨R, 2, none⟩ y2).setCell ⟨R, 3, none⟩ y3).setCell ⟨R, 4, none⟩ y4).setCell ⟨R, 5, none⟩ y5).cell? ⟨R, 2, none⟩ = some y2 ∧ ((((((w5.setCell ⟨R, 0, none⟩ y0).setCell ⟨R, 1, none⟩ y1).setCell ⟨R, 2, none⟩ y2).setCell ⟨R, 3, none⟩ y3).setCell ⟨R, 4, none⟩ y4).setCell ⟨R, 5, none⟩ y5).cell? ⟨R, 3, none⟩ = some y3 ∧ ((((((w5.setCell ⟨R, 0, none⟩ y0).setCell ⟨R, 1, none⟩ y1).setCell ⟨R, 2, none⟩ y2).setCell ⟨R, 3, none⟩ y3).setCell ⟨R, 4, none⟩ y4).setCell ⟨R, 5, none⟩ y5).cell? ⟨R, 4, none⟩ = some y4 ∧ ((((((w5.setCell ⟨R, 0, none⟩ y0).setCell ⟨R, 1, none⟩ y1).setCell ⟨R, 2, none⟩ y2).setCell ⟨R, 3, none⟩ y3).setCell ⟨R, 4, none⟩ y4).setCell ⟨R, 5, none⟩ y5).cell? ⟨R, 5, none⟩ = some y5 := by
  have n : ∀ i j : Nat, i ≠ j → (⟨R, i, none⟩ : Addr) ≠ ⟨R, j, none⟩ := fun i j h e => h (by cases e; rfl)
  refine ⟨?_, ?_, ?_, ?_, ?_, ?_⟩
  · rw [World.cell?_setCell_other _ _ _ _ (n 5 0 (by decide)), World.cell?_setCell_other _ _ _ _ (n 4 0 (by decide)), World.cell?_setCell_other _ _ _ _ (n 3 0 (by decide)), World.cell?_setCell_other _ _ _ _ (n 2 0 (by decide)), World.cell?_setCell_other _ _ _ _ (n 1 0 (by decide))]
    exact World.cell?_setCell_same _ _ _ (by exact h0)
  · rw [World.cell?_setCell_other _ _ _ _ (n 5 1 (by decide)), World.cell?_setCell_other _ _ _ _ (n 4 1 (by decide)), World.cell?_setCell_other _ _ _ _ (n 3 1 (by decide)), World.cell?_setCell_other _ _ _ _ (n 2 1 (by decide))]
    exact World.cell?_setCell_same _ _ _ (by rw [World.cell?_setCell_other _ _ _ _ (n 0 1 (by decide))]; exact h1)
  · rw [World.cell?_setCell_other _ _ _ _ (n 5 2 (by decide)), World.cell?_setCell_other _ _ _ _ (n 4 2 (by decide)), World.cell?_setCell_other _ _ _ _ (n 3 2 (by decide))]
    exact World.cell?_setCell_same _ _ _ (by rw [World.cell?_setCell_other _ _ _ _ (n 1 2 (by decide)), World.cell?_setCell_other _ _ _ _ (n 0 2 (by decide))]; exact h2)
  · rw [World.cell?_setCell_other _ _ _ _ (n 5 3 (by decide)), World.cell?_setCell_other _ _ _ _ (n 4 3 (by decide))]
    exact World.cell?_setCell_same _ _ _ (by rw [World.cell?_setCell_other _ _ _ _ (n 2 3 (by decide)), World.cell?_setCell_other _ _ _ _ (n 1 3 (by decide)), World.cell?_setCell_other _ _ _ _ (n 0 3 (by decide))]; exact h3)
  · rw [World.cell?_setCell_other _ _ _ _ (n 5 4 (by decide))]
    exact World.cell?_setCell_same _ _ _ (by rw [World.cell?_setCell_other _ _ _ _ (n 3 4 (by decide)), World.cell?_setCell_other _ _ _ _ (n 2 4 (by decide)), World.cell?_setCell_other _ _ _ _ (n 1 4 (by decide)), World.cell?_setCell_other _ _ _ _ (n 0 4 (by decide))]; exact h4)
  · exact World.cell?_setCell_same _ _ _ (by rw [World.cell?_setCell_other _ _ _ _ (n 4 5 (by decide)), World.cell?_setCell_other _ _ _ _ (n 3 5 (by decide)), World.cell?_setCell_other _ _ _ _ (n 2 5 (by decide)), World.cell?_setCell_other _ _ _ _ (n 1 5 (by decide)), World.cell?_setCell_other _ _ _ _ (n 0 5 (by decide))]; exact h5)

theorem set5 {w5 : World} {R : Nat} {x0 x1 x2 x3 x4 y0 y1 y2 y3 y4 : Value} (h0 : w5.cell? ⟨R, 0, none⟩ = some x0) (h1 : w5.cell? ⟨R, 1, none⟩ = some x1) (h2 : w5.cell? ⟨R, 2, none⟩ = some x2) (h3 : w5.cell? ⟨R, 3, none⟩ = some x3) (h4 : w5.cell? ⟨R, 4, none⟩ = some x4) : (((((w5.setCell ⟨R, 0, none⟩ y0).setCell ⟨R, 1, none⟩ y1).setCell ⟨R, 2, none⟩ y2).setCell ⟨R, 3, none⟩ y3).setCell ⟨R, 4, none⟩ y4).cell? ⟨R, 0, none⟩ = some y0 ∧ (((((w5.setCell ⟨R, 0, none⟩ y0).setCell ⟨R, 1, none⟩ y1).setCell ⟨R, 2, none⟩ y2).setCell ⟨R, 3, none⟩ y3).setCell ⟨R, 4, none⟩ y4).cell? ⟨R, 1, none⟩ = some y1 ∧ (((((w5.setCell ⟨R, 0, none⟩ y0).setCell ⟨R, 1, none⟩ y1).setCell ⟨R, 2, none⟩ y2).setCell ⟨R, 3, none⟩ y3).setCell ⟨R, 4, none⟩ y4).cell? ⟨R, 2, none⟩ = some y2 ∧ (((((w5.setCell ⟨R, 0, none⟩ y0).setCell ⟨R, 1, none⟩ y1).setCell ⟨R, 2, none⟩ y2).setCell ⟨R, 3, none⟩ y3).setCell ⟨R, 4, none⟩ y4).cell? ⟨R, 3, none⟩ = some y3 ∧ (((((w5.setCell ⟨R, 0, none⟩ y0).setCell ⟨R, 1, none⟩ y1).setCell ⟨R, 2, none⟩ y2).setCell ⟨R, 3, none⟩ y3).setCell ⟨R, 4, none⟩ y4).cell? ⟨R, 4, none⟩ = some y4 := by
  have n : ∀ i j : Nat, i ≠ j → (⟨R, i, none⟩ : Addr) ≠ ⟨R, j, none⟩ := fun i j h e => h (by cases e; rfl)
  refine ⟨?_, ?_, ?_, ?_, ?_⟩
  · rw [World.cell?_setCell_other _ _ _ _ (n 4 0 (by decide)), World.cell?_setCell_other _ _ _ _ (n 3 0 (by decide)), World.cell?_setCell_other _ _ _ _ (n 2 0 (by decide)), World.cell?_setCell_other _ _ _ _ (n 1 0 (by decide))]
    exact World.cell?_setCell_same _ _ _ (by exact h0)
  · rw [World.cell?_setCell_other _ _ _ _ (n 4 1 (by decide)), World.cell?_setCell_other _ _ _ _ (n 3 1 (by decide)), World.cell?_setCell_other _ _ _ _ (n 2 1 (by decide))]
    exact World.cell?_setCell_same _ _ _ (by rw [World.cell?_setCell_other _ _ _ _ (n 0 1 (by decide))]; exact h1)
  · rw [World.cell?_setCell_other _ _ _ _ (n 4 2 (by decide)), World.cell?_setCell_other _ _ _ _ (n 3 2 (by decide))]
    exact World.cell?_setCell_same _ _ _ (by rw [World.cell?_setCell_other _ _ _ _ (n 1 2 (by decide)), World.cell?_setCell_other _ _ _ _ (n 0 2 (by decide))]; exact h2)
  · rw [World.cell?_setCell_other _ _ _ _ (n 4 3 (by decide))]
    exact World.cell?_setCell_same _ _ _ (by rw [World.cell?_setCell_other _ _ _ _ (n 2 3 (by decide)), World.cell?_setCell_other _ _ _ _ (n 1 3 (by decide)), World.cell?_setCell_other _ _ _ _ (n 0 3 (by decide))]; exact h3)
  · exact World.cell?_setCell_same _ _ _ (by rw [World.cell?_setCell_other _ _ _ _ (n 3 4 (by decide)), World.cell?_setCell_other _ _ _ _ (n 2 4 (by decide)), World.cell?_setCell_other _ _ _ _ (n 1 4 (by decide)), World.cell?_setCell_other _ _ _ _ (n 0 4 (by decide))]; exact h4)


set_option maxRecDepth 20000 in
set_option maxHeartbeats 4000000 in
theorem request_rd (h : IsRr w p a c b zero) :
    Calls Try.prog 66 #[.pointer (some ⟨p, 0, none⟩)] w fun e w' => e = .returned (rv (rqO b)) ∧ IsRr w' p a c b (endR b) ∧ Wr (fun k => k = p) w w' := by
  have HH := hid h
  obtain ⟨wa, hwa⟩ : ∃ wa, w.alloc (.cells #[.int .i64 0, .int .u8 0, .int .i64 0, .int .i64 0, .string ⟨#[]⟩, .int .i64 0] 51) = wa := ⟨_, rfl⟩
  have hba : Below w.heap.size w wa := by rw [← hwa]; exact (Below.refl _ _).alloc (Nat.le_refl _) _
  have hblk : wa.heap[w.heap.size]? = some (.cells #[.int .i64 0, .int .u8 0, .int .i64 0, .int .i64 0, .string ⟨#[]⟩, .int .i64 0] 51 (0, 0)) := by rw [← hwa]; exact heap_alloc_new _ _
  obtain ⟨R, hR⟩ : ∃ R, w.heap.size = R := ⟨_, rfl⟩
  rw [hR] at hblk
  have HBA := hid hba
  have HBK := hid hblk
  have HRL := hid (show R < wa.heap.size ∧ p < R ∧ (∀ ad, a = some ad → ad.block < R) from ⟨(Array.getElem?_eq_some_iff.1 hblk).1, by have := h.lt; omega, fun ad e => by have := (h.off ad e).2; omega⟩)
  have HX := hid (one_rd (h.below hba))
  rw [show (((nx b zero 1).getD 0 0).toNat : Int) = (wantO b : Nat) from rfl, show st' b zero 1 = st1 b from rfl] at HX
  clear h hba hblk
  go_enter Try.func66, Try.ntmps66
  go_wp2_with fail
  try rw [hwa]
  try rw [hR]
  have HR := hid hR
  clear hwa hR
  refine HX.out.mono ?_
  rintro e w1 ⟨rfl, h1, hw1⟩
  have H1 := hid h1
  have HW1 := hid hw1
  have HBK1 := hid ((hw1.block R HRL.out.1 (fun e => by have := HRL.out.2.1; have e : R = p := e; omega)).trans HBK.out)
  have HSZ1 : Hid (wa.heap.size ≤ w1.heap.size) := hid hw1.size
  obtain ⟨w2, hw2⟩ : ∃ w2, (w1.alloc (.cells #[.int .i64 0, .int .u8 (wantO b : Nat), .int .i64 0, .int .i64 0, .string ⟨#[]⟩, .int .i64 0] 51)).alloc (.cells #[.pointer (some ⟨w1.heap.size, 0, none⟩), .pointer (some ⟨w1.heap.size, 2, none⟩), .pointer (some ⟨w1.heap.size, 3, none⟩), .pointer (some ⟨w1.heap.size, 5, none⟩)] 138) = w2 := ⟨_, rfl⟩
  have hs2 : w2.heap.size = w1.heap.size + 2 := by rw [← hw2]; simp
  have hb2 : Below w1.heap.size w1 w2 := by rw [← hw2]; exact ((Below.refl _ _).alloc (Nat.le_refl _) _).alloc (by simp) _
  have hk2 : w2.heap[w1.heap.size]? = some (.cells #[.int .i64 0, .int .u8 (wantO b : Nat), .int .i64 0, .int .i64 0, .string ⟨#[]⟩, .int .i64 0] 51 (0, 0)) := by
    rw [← hw2]
    exact (AlbC.heap_alloc_old _ _ _ (by simp)).trans (heap_alloc_new _ _)
  have hg2 : w2.heap[w1.heap.size + 1]? = some (.cells #[.pointer (some ⟨w1.heap.size, 0, none⟩), .pointer (some ⟨w1.heap.size, 2, none⟩), .pointer (some ⟨w1.heap.size, 3, none⟩), .pointer (some ⟨w1.heap.size, 5, none⟩)] 138 (0, 0)) := by
    rw [← hw2]
    have := heap_alloc_new (w1.alloc (.cells #[.int .i64 0, .int .u8 (wantO b : Nat), .int .i64 0, .int .i64 0, .string ⟨#[]⟩, .int .i64 0] 51)) (.cells #[.pointer (some ⟨w1.heap.size, 0, none⟩), .pointer (some ⟨w1.heap.size, 2, none⟩), .pointer (some ⟨w1.heap.size, 3, none⟩), .pointer (some ⟨w1.heap.size, 5, none⟩)] 138)
    simpa using this
  have hpl := h1.lt
  have HN := hid (numbers_rd w1.heap.size (w1.heap.size + 1) 6 [0, 2, 3, 5] (fun j => (#[.int .i64 0, .int .u8 (wantO b : Nat), .int .i64 0, .int .i64 0, .string ⟨#[]⟩, .int .i64 0] : Array Value).getD j (.bool false)) (h1.below hb2) (by omega) (by omega) (fun ad e => by have := (h1.off ad e).2; omega) (by omega) (by omega) (by omega) rfl (by decide) (fun j hj => by
    have : j = 0 ∨ j = 1 ∨ j = 2 ∨ j = 3 ∨ j = 4 ∨ j = 5 := by omega
    rcases this with rfl | rfl | rfl | rfl | rfl | rfl <;> exact ⟨by simp [World.cell?, hk2], by simp [World.frozen?, hk2]⟩) (hid (fun i x hi => by
    match i, hi with
    | 0, hi => simp at hi; subst hi; simp [World.cell?, hg2]
    | 1, hi => simp at hi; subst hi; simp [World.cell?, hg2]
    | 2, hi => simp at hi; subst hi; simp [World.cell?, hg2]
    | 3, hi => simp at hi; subst hi; simp [World.cell?, hg2]
    | i + 4, hi => simp at hi)))
  have HBK2 := hid ((hb2.block R (by have := HSZ1.out; have := HRL.out.1; omega)).trans HBK1.out)
  have HB2 := hid hb2
  have HS2 := hid hs2
  rw [← hw2] at HN HBK2 HB2 HS2
  clear h1 hw1 hw2 hs2 hb2 hk2 hg2 hpl HX
  go_wp2_with fail
  refine HN.out.mono ?_
  rintro e w3 ⟨rfl, h3, hv3, hw3⟩
  have HBK3 := hid ((hw3.block R (by have := HS2.out; have := HSZ1.out; have := HRL.out.1; omega) (by
    have := HSZ1.out
    have := HRL.out
    rintro (e | e)
    · omega
    · have e : R = w1.heap.size := e; omega)).trans HBK2.out)
  have hwr3 : Wr (fun k => k = p) w w3 := ((Wr.ofBelow HBA.out).trans HW1.out).on ((Wr.ofBelow (R := fun k => k = p ∨ k = w1.heap.size) HB2.out).trans hw3) (fun k e => e.elim .inl (fun e => .inr (by have := HSZ1.out; have := HBA.out.size; omega)))
  have HH3 := hid h3
  have HV3 := hid hv3
  have HWR3 := hid hwr3
  have HQS : Hid (w1.heap.size < w3.heap.size ∧ w1.heap.size ≠ p ∧ w1.heap.size ≠ R ∧ R < w3.heap.size ∧ w.heap.size ≤ w1.heap.size) := hid (by
    have := HSZ1.out
    have := HRL.out
    have := HS2.out
    have := hw3.size
    have := HBA.out.size
    omega)
  clear h3 hv3 hw3 hwr3 HN HBK2 HB2 HS2 HSZ1 HW1 H1 HBK1
  generalize w1.heap.size = Q at *
  have HT := hid (text_rd HH3.out)
  have hvr := HV3.out
  obtain ⟨y0, z0⟩ := hvr 0 (by omega)
  obtain ⟨y1, z1⟩ := hvr 1 (by omega)
  obtain ⟨y2, z2⟩ := hvr 2 (by omega)
  obtain ⟨y3, z3⟩ := hvr 3 (by omega)
  obtain ⟨y4, z4⟩ := hvr 4 (by omega)
  obtain ⟨y5, z5⟩ := hvr 5 (by omega)
  simp [put4] at y0 y1 y2 y3 y4 y5
  clear hvr
  go_wp2_with fail
  refine HT.out.mono ?_
  rintro e w4 ⟨rfl, h4, hw4⟩
  have HH4 := hid h4
  have HWR4 := hid (HWR3.out.trans hw4)
  have hq4 := hw4.block Q HQS.out.1 HQS.out.2.1
  have hr4 := (hw4.block R HQS.out.2.2.2.1 (fun e => by have := HRL.out.2.1; have e : R = p := e; omega)).trans HBK3.out
  have hRQ : R ≠ Q := fun e => HQS.out.2.2.1 e.symm
  have q0 := (World.cell?_of_block (a := ⟨Q, 0, none⟩) hq4).trans y0
  have f0 := (World.frozen?_of_block (a := ⟨Q, 0, none⟩) hq4).trans z0
  have q1 := (World.cell?_of_block (a := ⟨Q, 1, none⟩) hq4).trans y1
  have f1 := (World.frozen?_of_block (a := ⟨Q, 1, none⟩) hq4).trans z1
  have q2 := (World.cell?_of_block (a := ⟨Q, 2, none⟩) hq4).trans y2
  have f2 := (World.frozen?_of_block (a := ⟨Q, 2, none⟩) hq4).trans z2
  have q3 := (World.cell?_of_block (a := ⟨Q, 3, none⟩) hq4).trans y3
  have f3 := (World.frozen?_of_block (a := ⟨Q, 3, none⟩) hq4).trans z3
  have q4 := (World.cell?_of_block (a := ⟨Q, 4, none⟩) hq4).trans y4
  have f4 := (World.frozen?_of_block (a := ⟨Q, 4, none⟩) hq4).trans z4
  have q5 := (World.cell?_of_block (a := ⟨Q, 5, none⟩) hq4).trans y5
  have f5 := (World.frozen?_of_block (a := ⟨Q, 5, none⟩) hq4).trans z5
  have r0 : w4.cell? ⟨R, 0, none⟩ = some (.int .i64 0) := by simp [World.cell?, hr4]
  have g0 : w4.frozen? ⟨R, 0, none⟩ = false := by simp [World.frozen?, hr4]
  have r1 : w4.cell? ⟨R, 1, none⟩ = some (.int .u8 0) := by simp [World.cell?, hr4]
  have g1 : w4.frozen? ⟨R, 1, none⟩ = false := by simp [World.frozen?, hr4]
  have r2 : w4.cell? ⟨R, 2, none⟩ = some (.int .i64 0) := by simp [World.cell?, hr4]
  have g2 : w4.frozen? ⟨R, 2, none⟩ = false := by simp [World.frozen?, hr4]
  have r3 : w4.cell? ⟨R, 3, none⟩ = some (.int .i64 0) := by simp [World.cell?, hr4]
  have g3 : w4.frozen? ⟨R, 3, none⟩ = false := by simp [World.frozen?, hr4]
  have r4 : w4.cell? ⟨R, 4, none⟩ = some (.string ⟨#[]⟩) := by simp [World.cell?, hr4]
  have g4 : w4.frozen? ⟨R, 4, none⟩ = false := by simp [World.frozen?, hr4]
  have r5 : w4.cell? ⟨R, 5, none⟩ = some (.int .i64 0) := by simp [World.cell?, hr4]
  have g5 : w4.frozen? ⟨R, 5, none⟩ = false := by simp [World.frozen?, hr4]
  clear h4 hw4 hq4 hr4 HT y0 z0 y1 z1 y2 z2 y3 z3 y4 z4 y5 z5
  go_wp2_with fail
  have hq9 : ∀ j, (w4.setCell ⟨Q, 4, none⟩ (.string ⟨(txO b (stN b (st1 b) 4)).toArray⟩)).cell? ⟨R, j, none⟩ = w4.cell? ⟨R, j, none⟩ := fun j => World.cell?_setCell_other _ _ _ _ (fun e => hRQ (by cases e; rfl))
  have k6 := set6 (y0 := .int .i64 (numO b (stN b (st1 b) 0))) (y1 := .int .u8 (wantO b : Nat)) (y2 := .int .i64 (numO b (stN b (st1 b) 1))) (y3 := .int .i64 (numO b (stN b (st1 b) 2))) (y4 := .string ⟨(txO b (stN b (st1 b) 4)).toArray⟩) (y5 := .int .i64 (numO b (stN b (st1 b) 3))) ((hq9 0).trans r0) ((hq9 1).trans r1) ((hq9 2).trans r2) ((hq9 3).trans r3) ((hq9 4).trans r4) ((hq9 5).trans r5)
  obtain ⟨k60, k61, k62, k63, k64, k65⟩ := k6
  refine bodyPost_ret (v := rv (rqO b)) (by unfold rv rqO nO txR; simp [results, Try.results66, go_sem, k60, k61, k62, k63, k64, k65]) rfl ?_
  exact ⟨rfl, fin_wr HH4.out HWR4.out ((((((((Wr.refl (fun k => k = Q ∨ k = R) _).trans (Wr.set ⟨Q, 4, none⟩ _ (.inl rfl))).trans (Wr.set ⟨R, 0, none⟩ _ (.inr rfl))).trans (Wr.set ⟨R, 1, none⟩ _ (.inr rfl))).trans (Wr.set ⟨R, 2, none⟩ _ (.inr rfl))).trans (Wr.set ⟨R, 3, none⟩ _ (.inr rfl))).trans (Wr.set ⟨R, 4, none⟩ _ (.inr rfl))).trans (Wr.set ⟨R, 5, none⟩ _ (.inr rfl))) (fun e => HQS.out.2.1 e.symm) (fun e => by have := HRL.out.2.1; omega) (fun ad e => ⟨by have := HRL.out.2.2 ad e; have := HQS.out.2.2.2.2; have := HR.out; omega, by have := HRL.out.2.2 ad e; omega⟩) HQS.out.2.2.2.2 (by rw [HR.out]; exact Nat.le_refl _)⟩

set_option maxRecDepth 20000 in
set_option maxHeartbeats 4000000 in
theorem answer_rd (h : IsRr w p a c b zero) :
    Calls Try.prog 69 #[.pointer (some ⟨p, 0, none⟩)] w fun e w' => e = .returned (av (awO b)) ∧ IsRr w' p a c b (endA b) ∧ Wr (fun k => k = p) w w' := by
  have HH := hid h
  obtain ⟨wa, hwa⟩ : ∃ wa, w.alloc (.cells #[.int .i64 0, .int .u8 0, .int .i64 0, .int .i64 0, .int .i64 0] 54) = wa := ⟨_, rfl⟩
  have hba : Below w.heap.size w wa := by rw [← hwa]; exact (Below.refl _ _).alloc (Nat.le_refl _) _
  have hblk : wa.heap[w.heap.size]? = some (.cells #[.int .i64 0, .int .u8 0, .int .i64 0, .int .i64 0, .int .i64 0] 54 (0, 0)) := by rw [← hwa]; exact heap_alloc_new _ _
  obtain ⟨R, hR⟩ : ∃ R, w.heap.size = R := ⟨_, rfl⟩
  rw [hR] at hblk
  have HBA := hid hba
  have HBK := hid hblk
  have HRL := hid (show R < wa.heap.size ∧ p < R ∧ (∀ ad, a = some ad → ad.block < R) from ⟨(Array.getElem?_eq_some_iff.1 hblk).1, by have := h.lt; omega, fun ad e => by have := (h.off ad e).2; omega⟩)
  have HX := hid (one_rd (h.below hba))
  rw [show (((nx b zero 1).getD 0 0).toNat : Int) = (wantO b : Nat) from rfl, show st' b zero 1 = st1 b from rfl] at HX
  clear h hba hblk
  go_enter Try.func69, Try.ntmps69
  go_wp2_with fail
  try rw [hwa]
  try rw [hR]
  have HR := hid hR
  clear hwa hR
  refine HX.out.mono ?_
  rintro e w1 ⟨rfl, h1, hw1⟩
  have H1 := hid h1
  have HW1 := hid hw1
  have HBK1 := hid ((hw1.block R HRL.out.1 (fun e => by have := HRL.out.2.1; have e : R = p := e; omega)).trans HBK.out)
  have HSZ1 : Hid (wa.heap.size ≤ w1.heap.size) := hid hw1.size
  obtain ⟨w2, hw2⟩ : ∃ w2, (w1.alloc (.cells #[.int .i64 0, .int .u8 (wantO b : Nat), .int .i64 0, .int .i64 0, .int .i64 0] 54)).alloc (.cells #[.pointer (some ⟨w1.heap.size, 0, none⟩), .pointer (some ⟨w1.heap.size, 2, none⟩), .pointer (some ⟨w1.heap.size, 3, none⟩), .pointer (some ⟨w1.heap.size, 4, none⟩)] 138) = w2 := ⟨_, rfl⟩
  have hs2 : w2.heap.size = w1.heap.size + 2 := by rw [← hw2]; simp
  have hb2 : Below w1.heap.size w1 w2 := by rw [← hw2]; exact ((Below.refl _ _).alloc (Nat.le_refl _) _).alloc (by simp) _
  have hk2 : w2.heap[w1.heap.size]? = some (.cells #[.int .i64 0, .int .u8 (wantO b : Nat), .int .i64 0, .int .i64 0, .int .i64 0] 54 (0, 0)) := by
    rw [← hw2]
    exact (AlbC.heap_alloc_old _ _ _ (by simp)).trans (heap_alloc_new _ _)
  have hg2 : w2.heap[w1.heap.size + 1]? = some (.cells #[.pointer (some ⟨w1.heap.size, 0, none⟩), .pointer (some ⟨w1.heap.size, 2, none⟩), .pointer (some ⟨w1.heap.size, 3, none⟩), .pointer (some ⟨w1.heap.size, 4, none⟩)] 138 (0, 0)) := by
    rw [← hw2]
    have := heap_alloc_new (w1.alloc (.cells #[.int .i64 0, .int .u8 (wantO b : Nat), .int .i64 0, .int .i64 0, .int .i64 0] 54)) (.cells #[.pointer (some ⟨w1.heap.size, 0, none⟩), .pointer (some ⟨w1.heap.size, 2, none⟩), .pointer (some ⟨w1.heap.size, 3, none⟩), .pointer (some ⟨w1.heap.size, 4, none⟩)] 138)
    simpa using this
  have hpl := h1.lt
  have HN := hid (numbers_rd w1.heap.size (w1.heap.size + 1) 5 [0, 2, 3, 4] (fun j => (#[.int .i64 0, .int .u8 (wantO b : Nat), .int .i64 0, .int .i64 0, .int .i64 0] : Array Value).getD j (.bool false)) (h1.below hb2) (by omega) (by omega) (fun ad e => by have := (h1.off ad e).2; omega) (by omega) (by omega) (by omega) rfl (by decide) (fun j hj => by
    have : j = 0 ∨ j = 1 ∨ j = 2 ∨ j = 3 ∨ j = 4 := by omega
    rcases this with rfl | rfl | rfl | rfl | rfl <;> exact ⟨by simp [World.cell?, hk2], by simp [World.frozen?, hk2]⟩) (hid (fun i x hi => by
    match i, hi with
    | 0, hi => simp at hi; subst hi; simp [World.cell?, hg2]
    | 1, hi => simp at hi; subst hi; simp [World.cell?, hg2]
    | 2, hi => simp at hi; subst hi; simp [World.cell?, hg2]
    | 3, hi => simp at hi; subst hi; simp [World.cell?, hg2]
    | i + 4, hi => simp at hi)))
  have HBK2 := hid ((hb2.block R (by have := HSZ1.out; have := HRL.out.1; omega)).trans HBK1.out)
  have HB2 := hid hb2
  have HS2 := hid hs2
  rw [← hw2] at HN HBK2 HB2 HS2
  clear h1 hw1 hw2 hs2 hb2 hk2 hg2 hpl HX
  go_wp2_with fail
  refine HN.out.mono ?_
  rintro e w3 ⟨rfl, h3, hv3, hw3⟩
  have HBK3 := hid ((hw3.block R (by have := HS2.out; have := HSZ1.out; have := HRL.out.1; omega) (by
    have := HSZ1.out
    have := HRL.out
    rintro (e | e)
    · omega
    · have e : R = w1.heap.size := e; omega)).trans HBK2.out)
  have hwr3 : Wr (fun k => k = p) w w3 := ((Wr.ofBelow HBA.out).trans HW1.out).on ((Wr.ofBelow (R := fun k => k = p ∨ k = w1.heap.size) HB2.out).trans hw3) (fun k e => e.elim .inl (fun e => .inr (by have := HSZ1.out; have := HBA.out.size; omega)))
  have HH3 := hid h3
  have HV3 := hid hv3
  have HWR3 := hid hwr3
  have HQS : Hid (w1.heap.size < w3.heap.size ∧ w1.heap.size ≠ p ∧ w1.heap.size ≠ R ∧ R < w3.heap.size ∧ w.heap.size ≤ w1.heap.size) := hid (by
    have := HSZ1.out
    have := HRL.out
    have := HS2.out
    have := hw3.size
    have := HBA.out.size
    omega)
  clear h3 hv3 hw3 hwr3 HN HBK2 HB2 HS2 HSZ1 HW1 H1 HBK1
  generalize w1.heap.size = Q at *
  have hvr := HV3.out
  obtain ⟨y0, z0⟩ := hvr 0 (by omega)
  obtain ⟨y1, z1⟩ := hvr 1 (by omega)
  obtain ⟨y2, z2⟩ := hvr 2 (by omega)
  obtain ⟨y3, z3⟩ := hvr 3 (by omega)
  obtain ⟨y4, z4⟩ := hvr 4 (by omega)
  simp [put4] at y0 y1 y2 y3 y4
  clear hvr
  have hRQ : R ≠ Q := fun e => HQS.out.2.2.1 e.symm
  have r0 : w3.cell? ⟨R, 0, none⟩ = some (.int .i64 0) := by simp [World.cell?, HBK3.out]
  have g0 : w3.frozen? ⟨R, 0, none⟩ = false := by simp [World.frozen?, HBK3.out]
  have r1 : w3.cell? ⟨R, 1, none⟩ = some (.int .u8 0) := by simp [World.cell?, HBK3.out]
  have g1 : w3.frozen? ⟨R, 1, none⟩ = false := by simp [World.frozen?, HBK3.out]
  have r2 : w3.cell? ⟨R, 2, none⟩ = some (.int .i64 0) := by simp [World.cell?, HBK3.out]
  have g2 : w3.frozen? ⟨R, 2, none⟩ = false := by simp [World.frozen?, HBK3.out]
  have r3 : w3.cell? ⟨R, 3, none⟩ = some (.int .i64 0) := by simp [World.cell?, HBK3.out]
  have g3 : w3.frozen? ⟨R, 3, none⟩ = false := by simp [World.frozen?, HBK3.out]
  have r4 : w3.cell? ⟨R, 4, none⟩ = some (.int .i64 0) := by simp [World.cell?, HBK3.out]
  have g4 : w3.frozen? ⟨R, 4, none⟩ = false := by simp [World.frozen?, HBK3.out]
  go_wp2_with fail
  have k5 := set5 (y0 := .int .i64 (numO b (stN b (st1 b) 0))) (y1 := .int .u8 (wantO b : Nat)) (y2 := .int .i64 (numO b (stN b (st1 b) 1))) (y3 := .int .i64 (numO b (stN b (st1 b) 2))) (y4 := .int .i64 (numO b (stN b (st1 b) 3))) r0 r1 r2 r3 r4
  obtain ⟨k60, k61, k62, k63, k64⟩ := k5
  refine bodyPost_ret (v := av (awO b)) (by unfold av awO nO; simp [results, Try.results69, go_sem, k60, k61, k62, k63, k64]) rfl ?_
  exact ⟨rfl, fin_wr HH3.out HWR3.out ((((((Wr.refl (fun k => k = Q ∨ k = R) _).trans (Wr.set ⟨R, 0, none⟩ _ (.inr rfl))).trans (Wr.set ⟨R, 1, none⟩ _ (.inr rfl))).trans (Wr.set ⟨R, 2, none⟩ _ (.inr rfl))).trans (Wr.set ⟨R, 3, none⟩ _ (.inr rfl))).trans (Wr.set ⟨R, 4, none⟩ _ (.inr rfl))) (fun e => HQS.out.2.1 e.symm) (fun e => by have := HRL.out.2.1; omega) (fun ad e => ⟨by have := HRL.out.2.2 ad e; have := HQS.out.2.2.2.2; have := HR.out; omega, by have := HRL.out.2.2 ad e; omega⟩) HQS.out.2.2.2.2 (by rw [HR.out]; exact Nat.le_refl _)⟩

end Go.Proofs.Ythmcfnbnafdkeaa.PrtH
