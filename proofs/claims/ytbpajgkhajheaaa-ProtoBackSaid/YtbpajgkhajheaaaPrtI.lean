/- ReadRequest and ReadAnswer: the program's. -/
import Derived.Test.YtbpajgkhajheaaaPrtH
namespace Go.Proofs.Ytbpajgkhajheaaa.PrtI
open Go.ChangeShapes Go.WideShapes Go.ChangeAt Go.RowKit Base Wri Vrw FrmP FrmA FrmD FrmE FrmF FrmR FrmX FrmL FrmC2 FrmK FrmK2 RulA PrtA PrtB PrtC PrtR PrtN PrtD PrtE PrtF PrtG PrtH
set_option linter.unusedVariables false
set_option linter.unusedSimpArgs false

variable {W W' w : World} {p c : Nat} {a : Option Addr} {b : Bs} {st : Rs}

theorem tx_small (b : Bs) (st : Rs) : (txO b st).length ≤ 255 := by
  unfold txO
  rw [nx_len]
  have := UInt8.toNat_lt ((nx b st 1).getD 0 0)
  split <;> omega

/-- how a reader's place and what is right are told -/
def wholeP (b : Bs) (st : Rs) : Nat := if st.short then b.length else if st.place < b.length then st.place else 0
def wholeB (b : Bs) (st : Rs) (r : Bool) : Bool := !st.short && !decide (st.place < b.length) && r

set_option maxRecDepth 20000 in
set_option maxHeartbeats 2000000 in
theorem whole_any (r : Bool) (h : IsRr w p a c b st) :
    Calls Try.prog 73 #[.pointer (some ⟨p, 0, none⟩), .bool r] w fun e w' => e = .returned (.tuple #[.int .i64 (wholeP b st : Nat), .bool (wholeB b st r)]) ∧ ∃ m, w.drewN m = w' := by
  obtain ⟨x0, x1, x2⟩ := h.cells
  obtain ⟨hr1, hr2, hr3⟩ := h.room
  cases hs : st.short with
  | true =>
    have HP : Hid (wholeP b st = b.length ∧ wholeB b st r = false) := hid ⟨by unfold wholeP; rw [if_pos hs], by unfold wholeB; rw [hs]; rfl⟩
    rw [HP.out.1, HP.out.2]
    rw [hs] at x2
    clear h hs HP
    generalize b.length = L at *
    generalize st.place = pl at *
    go_enter Try.func73, Try.ntmps73
    go_wp2_with fail
    go_ret2
    exact ⟨rfl, 0, rfl⟩
  | false =>
    rw [hs] at x2
    by_cases hl : st.place < b.length
    · have HP : Hid (wholeP b st = st.place ∧ wholeB b st r = false) := hid ⟨by unfold wholeP; rw [if_neg (by rw [hs]; decide), if_pos hl], by unfold wholeB; rw [hs, decide_eq_true hl]; rfl⟩
      rw [HP.out.1, HP.out.2]
      clear h hs HP
      generalize b.length = L at *
      generalize st.place = pl at *
      have hd : decide ((pl : Int) < L) = true := decide_eq_true (by omega)
      go_enter Try.func73, Try.ntmps73
      go_wp2_with fail
      go_quiet (fail)
      go_wp2_with fail
      go_ret2
      exact ⟨rfl, nq, rfl⟩
    · have HP : Hid (wholeP b st = 0 ∧ wholeB b st r = r) := hid ⟨by unfold wholeP; rw [if_neg (by rw [hs]; decide), if_neg hl], by unfold wholeB; rw [hs, decide_eq_false hl]; simp⟩
      rw [HP.out.1, HP.out.2]
      clear h hs HP
      generalize b.length = L at *
      generalize st.place = pl at *
      have hd : decide ((pl : Int) < L) = false := decide_eq_false (by omega)
      go_enter Try.func73, Try.ntmps73
      go_wp2_with fail
      go_quiet (fail)
      go_wp2_with fail
      go_ret2
      exact ⟨rfl, nq, rfl⟩

/-- what it tells -/
def toldRequest (b : Bs) : Value := if wholeB b (endR b) (rightQ (rqO b)) then .tuple #[rv (rqO b), .int .i64 0, .int .i64 0] else .tuple #[.agg #[.int .i64 0, .int .u8 0, .int .i64 0, .int .i64 0, .string ⟨#[]⟩, .int .i64 0], .int .i64 6, .int .i64 (wholeP b (endR b) : Nat)]

set_option maxRecDepth 20000 in
set_option maxHeartbeats 4000000 in
theorem readRequest_any (a : Option Addr) (c : Nat) (b : Bs) (w : World) (HB : Hid (∀ n0, (∀ ad, a = some ad → ad.block < n0) → BAt w n0 a b)) (hc : b.length ≤ c) (hc2 : c ≤ 9223372036854775807) (ha : ∀ ad, a = some ad → ad.block < w.heap.size) :
    Calls Try.prog 46 #[.slice a b.length c] w fun e w' => e = .returned (toldRequest b) ∧ Below w.heap.size w w' := by
  obtain ⟨wa, hwa⟩ : ∃ wa, w.alloc (.cells #[.int .i64 0, .int .u8 0, .int .i64 0, .int .i64 0, .string ⟨#[]⟩, .int .i64 0] 59) = wa := ⟨_, rfl⟩
  obtain ⟨wb, hwb⟩ : ∃ wb, wa.alloc (.cells #[.slice a b.length c, .int .i64 0, .bool false] 101) = wb := ⟨_, rfl⟩
  have hsa : wa.heap.size = w.heap.size + 1 := by rw [← hwa]; simp
  have hsb : wb.heap.size = w.heap.size + 2 := by rw [← hwb]; simp; omega
  have hbb : Below w.heap.size w wb := by rw [← hwb, ← hwa]; exact ((Below.refl _ _).alloc (Nat.le_refl _) _).alloc (by simp) _
  have hkp : wb.heap[wa.heap.size]? = some (.cells #[.slice a b.length c, .int .i64 0, .bool false] 101 (0, 0)) := by rw [← hwb]; exact heap_alloc_new _ _
  have hkr : wb.heap[w.heap.size]? = some (.cells #[.int .i64 0, .int .u8 0, .int .i64 0, .int .i64 0, .string ⟨#[]⟩, .int .i64 0] 59 (0, 0)) := by
    rw [← hwb]
    refine (AlbC.heap_alloc_old _ _ _ (by omega)).trans ?_
    rw [← hwa]
    exact heap_alloc_new _ _
  have hrr : IsRr wb wa.heap.size a c b zero := ⟨⟨by simp [World.cell?, hkp], by simp [World.cell?, hkp, zero], by simp [World.cell?, hkp, zero]⟩, fun j => by simp [World.frozen?, hkp], by omega, fun n0 hn h0 => by
    have hbat : BAt wb w.heap.size a b := (HB.out _ ha).below hbb
    obtain ⟨g, o, e, hg, hc⟩ := hbat h0
    exact ⟨g, o, e, hn ⟨g, o, none⟩ e, hc⟩, ⟨hc, hc2, Nat.zero_le _⟩, fun ad e => by have := ha ad e; omega⟩
  rw [hsa] at hrr hkp
  have HQ := hid (request_rd hrr)
  have HWA := hid hwa
  have HWB := hid hwb
  have HKR := hid hkr
  have HBB := hid hbb
  have HS := hid (And.intro hsa hsb)
  have HR := hid (fun w => right_any (nO b 0) (wantO b : Nat) (nO b 1) (nO b 2) (nO b 3) (txR b) w (by show (txO b _).length ≤ maxLen; have := tx_small b (stN b (st1 b) 4); unfold maxLen; omega))
  clear hsa hsb hbb hkp hkr hrr hwa hwb
  unfold toldRequest
  cases hok : wholeB b (endR b) (rightQ (rqO b)) with
  | false =>
    go_enter Try.func46, Try.ntmps46
    go_wp2_with fail
    try rw [HWA.out]
    try rw [HWB.out]
    refine HQ.out.mono ?_
    rintro e w1 ⟨rfl, h1, hw1⟩
    have H1 := hid h1
    have hkr1 := (hw1.block w.heap.size (by have := HS.out; omega) (fun e => by have e : w.heap.size = w.heap.size + 1 := e; omega)).trans HKR.out
    have hb1 : Below w.heap.size w w1 := HBB.out.trans (hw1.below _ HBB.out.size (fun k e => by have e : k = w.heap.size + 1 := e; omega))
    have HKR1 := hid hkr1
    have HB1 := hid hb1
    have hs1 : w.heap.size + 2 ≤ w1.heap.size := by have := HS.out; have := hw1.size; omega
    have HS1 := hid hs1
    rw [show rv (rqO b) = .agg #[.int .i64 (nO b 0), .int .u8 (wantO b : Nat), .int .i64 (nO b 1), .int .i64 (nO b 2), .string (txR b), .int .i64 (nO b 3)] from rfl]
    obtain ⟨w2, hw2⟩ : ∃ w2, w1.alloc (.cells #[.int .i64 (nO b 0), .int .u8 (wantO b : Nat), .int .i64 (nO b 1), .int .i64 (nO b 2), .string (txR b), .int .i64 (nO b 3)] 59) = w2 := ⟨_, rfl⟩
    have hb2 : Below w1.heap.size w1 w2 := by rw [← hw2]; exact (Below.refl _ _).alloc (Nat.le_refl _) _
    have hk2 : w2.heap[w1.heap.size]? = some (.cells #[.int .i64 (nO b 0), .int .u8 (wantO b : Nat), .int .i64 (nO b 1), .int .i64 (nO b 2), .string (txR b), .int .i64 (nO b 3)] 59 (0, 0)) := by rw [← hw2]; exact heap_alloc_new _ _
    have c0 : w2.cell? ⟨w1.heap.size, 0, none⟩ = some (.int .i64 (nO b 0)) := by simp [World.cell?, hk2]
    have c1 : w2.cell? ⟨w1.heap.size, 1, none⟩ = some (.int .u8 (wantO b : Nat)) := by simp [World.cell?, hk2]
    have c2 : w2.cell? ⟨w1.heap.size, 2, none⟩ = some (.int .i64 (nO b 1)) := by simp [World.cell?, hk2]
    have c3 : w2.cell? ⟨w1.heap.size, 3, none⟩ = some (.int .i64 (nO b 2)) := by simp [World.cell?, hk2]
    have c4 : w2.cell? ⟨w1.heap.size, 4, none⟩ = some (.string (txR b)) := by simp [World.cell?, hk2]
    have c5 : w2.cell? ⟨w1.heap.size, 5, none⟩ = some (.int .i64 (nO b 3)) := by simp [World.cell?, hk2]
    have HK2 := hid hk2
    have HB2 := hid hb2
    have HW2 := hid hw2
    clear h1 hw1 hkr1 hb1 hs1 hw2 hb2 hk2 HQ HKR HBB HB
    go_wp2_with fail
    try rw [HW2.out]
    refine (HR.out _).mono ?_
    rintro e w3 ⟨rfl, hb3⟩
    have hk3 := (hb3.block w1.heap.size (Array.getElem?_eq_some_iff.1 HK2.out).1).trans HK2.out
    have hkr3 := (hb3.block w.heap.size (by have := HS1.out; have := HB2.out.size; omega)).trans ((HB2.out.block w.heap.size (by have := HS1.out; omega)).trans HKR1.out)
    have HB3 := hid (HB1.out.trans ((HB2.out.trans (hb3.mono HB2.out.size)).mono HB1.out.size))
    have HWH := hid (whole_any (rightQ (rqO b)) ((H1.out.below HB2.out).below hb3))
    have HSZ3 : Hid (w.heap.size + 2 ≤ w3.heap.size) := hid (by have := HS1.out; have := HB2.out.size; have := hb3.size; omega)
    rw [hok] at HWH
    have q0 : w3.cell? ⟨w1.heap.size, 0, none⟩ = some (.int .i64 (nO b 0)) := by simp [World.cell?, hk3]
    have r0 : w3.cell? ⟨w.heap.size, 0, none⟩ = some (.int .i64 0) := by simp [World.cell?, hkr3]
    have f0 : w3.frozen? ⟨w.heap.size, 0, none⟩ = false := by simp [World.frozen?, hkr3]
    have q1 : w3.cell? ⟨w1.heap.size, 1, none⟩ = some (.int .u8 (wantO b : Nat)) := by simp [World.cell?, hk3]
    have r1 : w3.cell? ⟨w.heap.size, 1, none⟩ = some (.int .u8 0) := by simp [World.cell?, hkr3]
    have f1 : w3.frozen? ⟨w.heap.size, 1, none⟩ = false := by simp [World.frozen?, hkr3]
    have q2 : w3.cell? ⟨w1.heap.size, 2, none⟩ = some (.int .i64 (nO b 1)) := by simp [World.cell?, hk3]
    have r2 : w3.cell? ⟨w.heap.size, 2, none⟩ = some (.int .i64 0) := by simp [World.cell?, hkr3]
    have f2 : w3.frozen? ⟨w.heap.size, 2, none⟩ = false := by simp [World.frozen?, hkr3]
    have q3 : w3.cell? ⟨w1.heap.size, 3, none⟩ = some (.int .i64 (nO b 2)) := by simp [World.cell?, hk3]
    have r3 : w3.cell? ⟨w.heap.size, 3, none⟩ = some (.int .i64 0) := by simp [World.cell?, hkr3]
    have f3 : w3.frozen? ⟨w.heap.size, 3, none⟩ = false := by simp [World.frozen?, hkr3]
    have q4 : w3.cell? ⟨w1.heap.size, 4, none⟩ = some (.string (txR b)) := by simp [World.cell?, hk3]
    have r4 : w3.cell? ⟨w.heap.size, 4, none⟩ = some (.string ⟨#[]⟩) := by simp [World.cell?, hkr3]
    have f4 : w3.frozen? ⟨w.heap.size, 4, none⟩ = false := by simp [World.frozen?, hkr3]
    have q5 : w3.cell? ⟨w1.heap.size, 5, none⟩ = some (.int .i64 (nO b 3)) := by simp [World.cell?, hk3]
    have r5 : w3.cell? ⟨w.heap.size, 5, none⟩ = some (.int .i64 0) := by simp [World.cell?, hkr3]
    have f5 : w3.frozen? ⟨w.heap.size, 5, none⟩ = false := by simp [World.frozen?, hkr3]
    clear hk3 hkr3 hb3 c0 c1 c2 c3 c4 c5
    go_wp2_with fail
    refine HWH.out.mono ?_
    rintro e w4 ⟨rfl, m4, rfl⟩
    have Q0 : (w3.drewN m4).cell? ⟨w1.heap.size, 0, none⟩ = some (.int .i64 (nO b 0)) := q0
    have R0 : (w3.drewN m4).cell? ⟨w.heap.size, 0, none⟩ = some (.int .i64 0) := r0
    have F0 : (w3.drewN m4).frozen? ⟨w.heap.size, 0, none⟩ = false := f0
    have Q1 : (w3.drewN m4).cell? ⟨w1.heap.size, 1, none⟩ = some (.int .u8 (wantO b : Nat)) := q1
    have R1 : (w3.drewN m4).cell? ⟨w.heap.size, 1, none⟩ = some (.int .u8 0) := r1
    have F1 : (w3.drewN m4).frozen? ⟨w.heap.size, 1, none⟩ = false := f1
    have Q2 : (w3.drewN m4).cell? ⟨w1.heap.size, 2, none⟩ = some (.int .i64 (nO b 1)) := q2
    have R2 : (w3.drewN m4).cell? ⟨w.heap.size, 2, none⟩ = some (.int .i64 0) := r2
    have F2 : (w3.drewN m4).frozen? ⟨w.heap.size, 2, none⟩ = false := f2
    have Q3 : (w3.drewN m4).cell? ⟨w1.heap.size, 3, none⟩ = some (.int .i64 (nO b 2)) := q3
    have R3 : (w3.drewN m4).cell? ⟨w.heap.size, 3, none⟩ = some (.int .i64 0) := r3
    have F3 : (w3.drewN m4).frozen? ⟨w.heap.size, 3, none⟩ = false := f3
    have Q4 : (w3.drewN m4).cell? ⟨w1.heap.size, 4, none⟩ = some (.string (txR b)) := q4
    have R4 : (w3.drewN m4).cell? ⟨w.heap.size, 4, none⟩ = some (.string ⟨#[]⟩) := r4
    have F4 : (w3.drewN m4).frozen? ⟨w.heap.size, 4, none⟩ = false := f4
    have Q5 : (w3.drewN m4).cell? ⟨w1.heap.size, 5, none⟩ = some (.int .i64 (nO b 3)) := q5
    have R5 : (w3.drewN m4).cell? ⟨w.heap.size, 5, none⟩ = some (.int .i64 0) := r5
    have F5 : (w3.drewN m4).frozen? ⟨w.heap.size, 5, none⟩ = false := f5
    clear q0 r0 f0 q1 r1 f1 q2 r2 f2 q3 r3 f3 q4 r4 f4 q5 r5 f5
    go_wp2_with fail
    all_goals have KK := set6 (y0 := .int .i64 0) (y1 := .int .u8 0) (y2 := .int .i64 0) (y3 := .int .i64 0) (y4 := .string ⟨#[]⟩) (y5 := .int .i64 0) R0 R1 R2 R3 R4 R5
    all_goals obtain ⟨k60, k61, k62, k63, k64, k65⟩ := KK
    all_goals refine bodyPost_ret (v := .tuple #[.agg #[.int .i64 0, .int .u8 0, .int .i64 0, .int .i64 0, .string ⟨#[]⟩, .int .i64 0], .int .i64 6, .int .i64 (wholeP b (endR b) : Nat)]) (by simp [results, Try.results46, go_sem, k60, k61, k62, k63, k64, k65]) rfl ?_
    all_goals exact ⟨rfl, (Below.setCell (Below.setCell (Below.setCell (Below.setCell (Below.setCell (Below.setCell (below_drewN HB3.out m4) (Nat.le_refl _) _) (Nat.le_refl _) _) (Nat.le_refl _) _) (Nat.le_refl _) _) (Nat.le_refl _) _) (Nat.le_refl _) _)⟩
  | true =>
    go_enter Try.func46, Try.ntmps46
    go_wp2_with fail
    try rw [HWA.out]
    try rw [HWB.out]
    refine HQ.out.mono ?_
    rintro e w1 ⟨rfl, h1, hw1⟩
    have H1 := hid h1
    have hkr1 := (hw1.block w.heap.size (by have := HS.out; omega) (fun e => by have e : w.heap.size = w.heap.size + 1 := e; omega)).trans HKR.out
    have hb1 : Below w.heap.size w w1 := HBB.out.trans (hw1.below _ HBB.out.size (fun k e => by have e : k = w.heap.size + 1 := e; omega))
    have HKR1 := hid hkr1
    have HB1 := hid hb1
    have hs1 : w.heap.size + 2 ≤ w1.heap.size := by have := HS.out; have := hw1.size; omega
    have HS1 := hid hs1
    rw [show rv (rqO b) = .agg #[.int .i64 (nO b 0), .int .u8 (wantO b : Nat), .int .i64 (nO b 1), .int .i64 (nO b 2), .string (txR b), .int .i64 (nO b 3)] from rfl]
    obtain ⟨w2, hw2⟩ : ∃ w2, w1.alloc (.cells #[.int .i64 (nO b 0), .int .u8 (wantO b : Nat), .int .i64 (nO b 1), .int .i64 (nO b 2), .string (txR b), .int .i64 (nO b 3)] 59) = w2 := ⟨_, rfl⟩
    have hb2 : Below w1.heap.size w1 w2 := by rw [← hw2]; exact (Below.refl _ _).alloc (Nat.le_refl _) _
    have hk2 : w2.heap[w1.heap.size]? = some (.cells #[.int .i64 (nO b 0), .int .u8 (wantO b : Nat), .int .i64 (nO b 1), .int .i64 (nO b 2), .string (txR b), .int .i64 (nO b 3)] 59 (0, 0)) := by rw [← hw2]; exact heap_alloc_new _ _
    have c0 : w2.cell? ⟨w1.heap.size, 0, none⟩ = some (.int .i64 (nO b 0)) := by simp [World.cell?, hk2]
    have c1 : w2.cell? ⟨w1.heap.size, 1, none⟩ = some (.int .u8 (wantO b : Nat)) := by simp [World.cell?, hk2]
    have c2 : w2.cell? ⟨w1.heap.size, 2, none⟩ = some (.int .i64 (nO b 1)) := by simp [World.cell?, hk2]
    have c3 : w2.cell? ⟨w1.heap.size, 3, none⟩ = some (.int .i64 (nO b 2)) := by simp [World.cell?, hk2]
    have c4 : w2.cell? ⟨w1.heap.size, 4, none⟩ = some (.string (txR b)) := by simp [World.cell?, hk2]
    have c5 : w2.cell? ⟨w1.heap.size, 5, none⟩ = some (.int .i64 (nO b 3)) := by simp [World.cell?, hk2]
    have HK2 := hid hk2
    have HB2 := hid hb2
    have HW2 := hid hw2
    clear h1 hw1 hkr1 hb1 hs1 hw2 hb2 hk2 HQ HKR HBB HB
    go_wp2_with fail
    try rw [HW2.out]
    refine (HR.out _).mono ?_
    rintro e w3 ⟨rfl, hb3⟩
    have hk3 := (hb3.block w1.heap.size (Array.getElem?_eq_some_iff.1 HK2.out).1).trans HK2.out
    have hkr3 := (hb3.block w.heap.size (by have := HS1.out; have := HB2.out.size; omega)).trans ((HB2.out.block w.heap.size (by have := HS1.out; omega)).trans HKR1.out)
    have HB3 := hid (HB1.out.trans ((HB2.out.trans (hb3.mono HB2.out.size)).mono HB1.out.size))
    have HWH := hid (whole_any (rightQ (rqO b)) ((H1.out.below HB2.out).below hb3))
    have HSZ3 : Hid (w.heap.size + 2 ≤ w3.heap.size) := hid (by have := HS1.out; have := HB2.out.size; have := hb3.size; omega)
    rw [hok] at HWH
    have q0 : w3.cell? ⟨w1.heap.size, 0, none⟩ = some (.int .i64 (nO b 0)) := by simp [World.cell?, hk3]
    have r0 : w3.cell? ⟨w.heap.size, 0, none⟩ = some (.int .i64 0) := by simp [World.cell?, hkr3]
    have f0 : w3.frozen? ⟨w.heap.size, 0, none⟩ = false := by simp [World.frozen?, hkr3]
    have q1 : w3.cell? ⟨w1.heap.size, 1, none⟩ = some (.int .u8 (wantO b : Nat)) := by simp [World.cell?, hk3]
    have r1 : w3.cell? ⟨w.heap.size, 1, none⟩ = some (.int .u8 0) := by simp [World.cell?, hkr3]
    have f1 : w3.frozen? ⟨w.heap.size, 1, none⟩ = false := by simp [World.frozen?, hkr3]
    have q2 : w3.cell? ⟨w1.heap.size, 2, none⟩ = some (.int .i64 (nO b 1)) := by simp [World.cell?, hk3]
    have r2 : w3.cell? ⟨w.heap.size, 2, none⟩ = some (.int .i64 0) := by simp [World.cell?, hkr3]
    have f2 : w3.frozen? ⟨w.heap.size, 2, none⟩ = false := by simp [World.frozen?, hkr3]
    have q3 : w3.cell? ⟨w1.heap.size, 3, none⟩ = some (.int .i64 (nO b 2)) := by simp [World.cell?, hk3]
    have r3 : w3.cell? ⟨w.heap.size, 3, none⟩ = some (.int .i64 0) := by simp [World.cell?, hkr3]
    have f3 : w3.frozen? ⟨w.heap.size, 3, none⟩ = false := by simp [World.frozen?, hkr3]
    have q4 : w3.cell? ⟨w1.heap.size, 4, none⟩ = some (.string (txR b)) := by simp [World.cell?, hk3]
    have r4 : w3.cell? ⟨w.heap.size, 4, none⟩ = some (.string ⟨#[]⟩) := by simp [World.cell?, hkr3]
    have f4 : w3.frozen? ⟨w.heap.size, 4, none⟩ = false := by simp [World.frozen?, hkr3]
    have q5 : w3.cell? ⟨w1.heap.size, 5, none⟩ = some (.int .i64 (nO b 3)) := by simp [World.cell?, hk3]
    have r5 : w3.cell? ⟨w.heap.size, 5, none⟩ = some (.int .i64 0) := by simp [World.cell?, hkr3]
    have f5 : w3.frozen? ⟨w.heap.size, 5, none⟩ = false := by simp [World.frozen?, hkr3]
    clear hk3 hkr3 hb3 c0 c1 c2 c3 c4 c5
    go_wp2_with fail
    refine HWH.out.mono ?_
    rintro e w4 ⟨rfl, m4, rfl⟩
    have Q0 : (w3.drewN m4).cell? ⟨w1.heap.size, 0, none⟩ = some (.int .i64 (nO b 0)) := q0
    have R0 : (w3.drewN m4).cell? ⟨w.heap.size, 0, none⟩ = some (.int .i64 0) := r0
    have F0 : (w3.drewN m4).frozen? ⟨w.heap.size, 0, none⟩ = false := f0
    have Q1 : (w3.drewN m4).cell? ⟨w1.heap.size, 1, none⟩ = some (.int .u8 (wantO b : Nat)) := q1
    have R1 : (w3.drewN m4).cell? ⟨w.heap.size, 1, none⟩ = some (.int .u8 0) := r1
    have F1 : (w3.drewN m4).frozen? ⟨w.heap.size, 1, none⟩ = false := f1
    have Q2 : (w3.drewN m4).cell? ⟨w1.heap.size, 2, none⟩ = some (.int .i64 (nO b 1)) := q2
    have R2 : (w3.drewN m4).cell? ⟨w.heap.size, 2, none⟩ = some (.int .i64 0) := r2
    have F2 : (w3.drewN m4).frozen? ⟨w.heap.size, 2, none⟩ = false := f2
    have Q3 : (w3.drewN m4).cell? ⟨w1.heap.size, 3, none⟩ = some (.int .i64 (nO b 2)) := q3
    have R3 : (w3.drewN m4).cell? ⟨w.heap.size, 3, none⟩ = some (.int .i64 0) := r3
    have F3 : (w3.drewN m4).frozen? ⟨w.heap.size, 3, none⟩ = false := f3
    have Q4 : (w3.drewN m4).cell? ⟨w1.heap.size, 4, none⟩ = some (.string (txR b)) := q4
    have R4 : (w3.drewN m4).cell? ⟨w.heap.size, 4, none⟩ = some (.string ⟨#[]⟩) := r4
    have F4 : (w3.drewN m4).frozen? ⟨w.heap.size, 4, none⟩ = false := f4
    have Q5 : (w3.drewN m4).cell? ⟨w1.heap.size, 5, none⟩ = some (.int .i64 (nO b 3)) := q5
    have R5 : (w3.drewN m4).cell? ⟨w.heap.size, 5, none⟩ = some (.int .i64 0) := r5
    have F5 : (w3.drewN m4).frozen? ⟨w.heap.size, 5, none⟩ = false := f5
    clear q0 r0 f0 q1 r1 f1 q2 r2 f2 q3 r3 f3 q4 r4 f4 q5 r5 f5
    go_wp2_with fail
    all_goals have KK := set6 (y0 := .int .i64 (nO b 0)) (y1 := .int .u8 (wantO b : Nat)) (y2 := .int .i64 (nO b 1)) (y3 := .int .i64 (nO b 2)) (y4 := .string (txR b)) (y5 := .int .i64 (nO b 3)) R0 R1 R2 R3 R4 R5
    all_goals obtain ⟨k60, k61, k62, k63, k64, k65⟩ := KK
    all_goals refine bodyPost_ret (v := .tuple #[.agg #[.int .i64 (nO b 0), .int .u8 (wantO b : Nat), .int .i64 (nO b 1), .int .i64 (nO b 2), .string (txR b), .int .i64 (nO b 3)], .int .i64 0, .int .i64 0]) (by simp [results, Try.results46, go_sem, k60, k61, k62, k63, k64, k65]) rfl ?_
    all_goals exact ⟨rfl, (Below.setCell (Below.setCell (Below.setCell (Below.setCell (Below.setCell (Below.setCell (below_drewN HB3.out m4) (Nat.le_refl _) _) (Nat.le_refl _) _) (Nat.le_refl _) _) (Nat.le_refl _) _) (Nat.le_refl _) _) (Nat.le_refl _) _)⟩

/-- what it tells -/
def toldAnswer (b : Bs) : Value := if wholeB b (endA b) (rightA (awO b)) then .tuple #[av (awO b), .int .i64 0, .int .i64 0] else .tuple #[.agg #[.int .i64 0, .int .u8 0, .int .i64 0, .int .i64 0, .int .i64 0], .int .i64 6, .int .i64 (wholeP b (endA b) : Nat)]

set_option maxRecDepth 20000 in
set_option maxHeartbeats 4000000 in
theorem readAnswer_any (a : Option Addr) (c : Nat) (b : Bs) (w : World) (HB : Hid (∀ n0, (∀ ad, a = some ad → ad.block < n0) → BAt w n0 a b)) (hc : b.length ≤ c) (hc2 : c ≤ 9223372036854775807) (ha : ∀ ad, a = some ad → ad.block < w.heap.size) :
    Calls Try.prog 48 #[.slice a b.length c] w fun e w' => e = .returned (toldAnswer b) ∧ Below w.heap.size w w' := by
  obtain ⟨wa, hwa⟩ : ∃ wa, w.alloc (.cells #[.int .i64 0, .int .u8 0, .int .i64 0, .int .i64 0, .int .i64 0] 62) = wa := ⟨_, rfl⟩
  obtain ⟨wb, hwb⟩ : ∃ wb, wa.alloc (.cells #[.slice a b.length c, .int .i64 0, .bool false] 105) = wb := ⟨_, rfl⟩
  have hsa : wa.heap.size = w.heap.size + 1 := by rw [← hwa]; simp
  have hsb : wb.heap.size = w.heap.size + 2 := by rw [← hwb]; simp; omega
  have hbb : Below w.heap.size w wb := by rw [← hwb, ← hwa]; exact ((Below.refl _ _).alloc (Nat.le_refl _) _).alloc (by simp) _
  have hkp : wb.heap[wa.heap.size]? = some (.cells #[.slice a b.length c, .int .i64 0, .bool false] 105 (0, 0)) := by rw [← hwb]; exact heap_alloc_new _ _
  have hkr : wb.heap[w.heap.size]? = some (.cells #[.int .i64 0, .int .u8 0, .int .i64 0, .int .i64 0, .int .i64 0] 62 (0, 0)) := by
    rw [← hwb]
    refine (AlbC.heap_alloc_old _ _ _ (by omega)).trans ?_
    rw [← hwa]
    exact heap_alloc_new _ _
  have hrr : IsRr wb wa.heap.size a c b zero := ⟨⟨by simp [World.cell?, hkp], by simp [World.cell?, hkp, zero], by simp [World.cell?, hkp, zero]⟩, fun j => by simp [World.frozen?, hkp], by omega, fun n0 hn h0 => by
    have hbat : BAt wb w.heap.size a b := (HB.out _ ha).below hbb
    obtain ⟨g, o, e, hg, hc⟩ := hbat h0
    exact ⟨g, o, e, hn ⟨g, o, none⟩ e, hc⟩, ⟨hc, hc2, Nat.zero_le _⟩, fun ad e => by have := ha ad e; omega⟩
  rw [hsa] at hrr hkp
  have HQ := hid (answer_rd hrr)
  have HWA := hid hwa
  have HWB := hid hwb
  have HKR := hid hkr
  have HBB := hid hbb
  have HS := hid (And.intro hsa hsb)
  have HR := hid (fun w => rightA_any (nO b 0) (wantO b : Nat) (nO b 1) (nO b 2) (nO b 3) w (by omega) (by have := UInt8.toNat_lt ((nx b zero 1).getD 0 0); show ((((nx b zero 1).getD 0 0).toNat : Nat) : Int) ≤ 255; omega))
  clear hsa hsb hbb hkp hkr hrr hwa hwb
  unfold toldAnswer
  cases hok : wholeB b (endA b) (rightA (awO b)) with
  | false =>
    go_enter Try.func48, Try.ntmps48
    go_wp2_with fail
    try rw [HWA.out]
    try rw [HWB.out]
    refine HQ.out.mono ?_
    rintro e w1 ⟨rfl, h1, hw1⟩
    have H1 := hid h1
    have hkr1 := (hw1.block w.heap.size (by have := HS.out; omega) (fun e => by have e : w.heap.size = w.heap.size + 1 := e; omega)).trans HKR.out
    have hb1 : Below w.heap.size w w1 := HBB.out.trans (hw1.below _ HBB.out.size (fun k e => by have e : k = w.heap.size + 1 := e; omega))
    have HKR1 := hid hkr1
    have HB1 := hid hb1
    have hs1 : w.heap.size + 2 ≤ w1.heap.size := by have := HS.out; have := hw1.size; omega
    have HS1 := hid hs1
    rw [show av (awO b) = .agg #[.int .i64 (nO b 0), .int .u8 (wantO b : Nat), .int .i64 (nO b 1), .int .i64 (nO b 2), .int .i64 (nO b 3)] from rfl]
    obtain ⟨w2, hw2⟩ : ∃ w2, w1.alloc (.cells #[.int .i64 (nO b 0), .int .u8 (wantO b : Nat), .int .i64 (nO b 1), .int .i64 (nO b 2), .int .i64 (nO b 3)] 62) = w2 := ⟨_, rfl⟩
    have hb2 : Below w1.heap.size w1 w2 := by rw [← hw2]; exact (Below.refl _ _).alloc (Nat.le_refl _) _
    have hk2 : w2.heap[w1.heap.size]? = some (.cells #[.int .i64 (nO b 0), .int .u8 (wantO b : Nat), .int .i64 (nO b 1), .int .i64 (nO b 2), .int .i64 (nO b 3)] 62 (0, 0)) := by rw [← hw2]; exact heap_alloc_new _ _
    have c0 : w2.cell? ⟨w1.heap.size, 0, none⟩ = some (.int .i64 (nO b 0)) := by simp [World.cell?, hk2]
    have c1 : w2.cell? ⟨w1.heap.size, 1, none⟩ = some (.int .u8 (wantO b : Nat)) := by simp [World.cell?, hk2]
    have c2 : w2.cell? ⟨w1.heap.size, 2, none⟩ = some (.int .i64 (nO b 1)) := by simp [World.cell?, hk2]
    have c3 : w2.cell? ⟨w1.heap.size, 3, none⟩ = some (.int .i64 (nO b 2)) := by simp [World.cell?, hk2]
    have c4 : w2.cell? ⟨w1.heap.size, 4, none⟩ = some (.int .i64 (nO b 3)) := by simp [World.cell?, hk2]
    have HK2 := hid hk2
    have HB2 := hid hb2
    have HW2 := hid hw2
    clear h1 hw1 hkr1 hb1 hs1 hw2 hb2 hk2 HQ HKR HBB HB
    go_wp2_with fail
    try rw [HW2.out]
    refine (HR.out _).mono ?_
    rintro e w3 ⟨rfl, hb3⟩
    have hk3 := (hb3.block w1.heap.size (Array.getElem?_eq_some_iff.1 HK2.out).1).trans HK2.out
    have hkr3 := (hb3.block w.heap.size (by have := HS1.out; have := HB2.out.size; omega)).trans ((HB2.out.block w.heap.size (by have := HS1.out; omega)).trans HKR1.out)
    have HB3 := hid (HB1.out.trans ((HB2.out.trans (hb3.mono HB2.out.size)).mono HB1.out.size))
    have HWH := hid (whole_any (rightA (awO b)) ((H1.out.below HB2.out).below hb3))
    have HSZ3 : Hid (w.heap.size + 2 ≤ w3.heap.size) := hid (by have := HS1.out; have := HB2.out.size; have := hb3.size; omega)
    rw [hok] at HWH
    have q0 : w3.cell? ⟨w1.heap.size, 0, none⟩ = some (.int .i64 (nO b 0)) := by simp [World.cell?, hk3]
    have r0 : w3.cell? ⟨w.heap.size, 0, none⟩ = some (.int .i64 0) := by simp [World.cell?, hkr3]
    have f0 : w3.frozen? ⟨w.heap.size, 0, none⟩ = false := by simp [World.frozen?, hkr3]
    have q1 : w3.cell? ⟨w1.heap.size, 1, none⟩ = some (.int .u8 (wantO b : Nat)) := by simp [World.cell?, hk3]
    have r1 : w3.cell? ⟨w.heap.size, 1, none⟩ = some (.int .u8 0) := by simp [World.cell?, hkr3]
    have f1 : w3.frozen? ⟨w.heap.size, 1, none⟩ = false := by simp [World.frozen?, hkr3]
    have q2 : w3.cell? ⟨w1.heap.size, 2, none⟩ = some (.int .i64 (nO b 1)) := by simp [World.cell?, hk3]
    have r2 : w3.cell? ⟨w.heap.size, 2, none⟩ = some (.int .i64 0) := by simp [World.cell?, hkr3]
    have f2 : w3.frozen? ⟨w.heap.size, 2, none⟩ = false := by simp [World.frozen?, hkr3]
    have q3 : w3.cell? ⟨w1.heap.size, 3, none⟩ = some (.int .i64 (nO b 2)) := by simp [World.cell?, hk3]
    have r3 : w3.cell? ⟨w.heap.size, 3, none⟩ = some (.int .i64 0) := by simp [World.cell?, hkr3]
    have f3 : w3.frozen? ⟨w.heap.size, 3, none⟩ = false := by simp [World.frozen?, hkr3]
    have q4 : w3.cell? ⟨w1.heap.size, 4, none⟩ = some (.int .i64 (nO b 3)) := by simp [World.cell?, hk3]
    have r4 : w3.cell? ⟨w.heap.size, 4, none⟩ = some (.int .i64 0) := by simp [World.cell?, hkr3]
    have f4 : w3.frozen? ⟨w.heap.size, 4, none⟩ = false := by simp [World.frozen?, hkr3]
    clear hk3 hkr3 hb3 c0 c1 c2 c3 c4
    go_wp2_with fail
    refine HWH.out.mono ?_
    rintro e w4 ⟨rfl, m4, rfl⟩
    have Q0 : (w3.drewN m4).cell? ⟨w1.heap.size, 0, none⟩ = some (.int .i64 (nO b 0)) := q0
    have R0 : (w3.drewN m4).cell? ⟨w.heap.size, 0, none⟩ = some (.int .i64 0) := r0
    have F0 : (w3.drewN m4).frozen? ⟨w.heap.size, 0, none⟩ = false := f0
    have Q1 : (w3.drewN m4).cell? ⟨w1.heap.size, 1, none⟩ = some (.int .u8 (wantO b : Nat)) := q1
    have R1 : (w3.drewN m4).cell? ⟨w.heap.size, 1, none⟩ = some (.int .u8 0) := r1
    have F1 : (w3.drewN m4).frozen? ⟨w.heap.size, 1, none⟩ = false := f1
    have Q2 : (w3.drewN m4).cell? ⟨w1.heap.size, 2, none⟩ = some (.int .i64 (nO b 1)) := q2
    have R2 : (w3.drewN m4).cell? ⟨w.heap.size, 2, none⟩ = some (.int .i64 0) := r2
    have F2 : (w3.drewN m4).frozen? ⟨w.heap.size, 2, none⟩ = false := f2
    have Q3 : (w3.drewN m4).cell? ⟨w1.heap.size, 3, none⟩ = some (.int .i64 (nO b 2)) := q3
    have R3 : (w3.drewN m4).cell? ⟨w.heap.size, 3, none⟩ = some (.int .i64 0) := r3
    have F3 : (w3.drewN m4).frozen? ⟨w.heap.size, 3, none⟩ = false := f3
    have Q4 : (w3.drewN m4).cell? ⟨w1.heap.size, 4, none⟩ = some (.int .i64 (nO b 3)) := q4
    have R4 : (w3.drewN m4).cell? ⟨w.heap.size, 4, none⟩ = some (.int .i64 0) := r4
    have F4 : (w3.drewN m4).frozen? ⟨w.heap.size, 4, none⟩ = false := f4
    clear q0 r0 f0 q1 r1 f1 q2 r2 f2 q3 r3 f3 q4 r4 f4
    go_wp2_with fail
    all_goals have KK := set5 (y0 := .int .i64 0) (y1 := .int .u8 0) (y2 := .int .i64 0) (y3 := .int .i64 0) (y4 := .int .i64 0) R0 R1 R2 R3 R4
    all_goals obtain ⟨k60, k61, k62, k63, k64⟩ := KK
    all_goals refine bodyPost_ret (v := .tuple #[.agg #[.int .i64 0, .int .u8 0, .int .i64 0, .int .i64 0, .int .i64 0], .int .i64 6, .int .i64 (wholeP b (endA b) : Nat)]) (by simp [results, Try.results48, go_sem, k60, k61, k62, k63, k64]) rfl ?_
    all_goals exact ⟨rfl, (Below.setCell (Below.setCell (Below.setCell (Below.setCell (Below.setCell (below_drewN HB3.out m4) (Nat.le_refl _) _) (Nat.le_refl _) _) (Nat.le_refl _) _) (Nat.le_refl _) _) (Nat.le_refl _) _)⟩
  | true =>
    go_enter Try.func48, Try.ntmps48
    go_wp2_with fail
    try rw [HWA.out]
    try rw [HWB.out]
    refine HQ.out.mono ?_
    rintro e w1 ⟨rfl, h1, hw1⟩
    have H1 := hid h1
    have hkr1 := (hw1.block w.heap.size (by have := HS.out; omega) (fun e => by have e : w.heap.size = w.heap.size + 1 := e; omega)).trans HKR.out
    have hb1 : Below w.heap.size w w1 := HBB.out.trans (hw1.below _ HBB.out.size (fun k e => by have e : k = w.heap.size + 1 := e; omega))
    have HKR1 := hid hkr1
    have HB1 := hid hb1
    have hs1 : w.heap.size + 2 ≤ w1.heap.size := by have := HS.out; have := hw1.size; omega
    have HS1 := hid hs1
    rw [show av (awO b) = .agg #[.int .i64 (nO b 0), .int .u8 (wantO b : Nat), .int .i64 (nO b 1), .int .i64 (nO b 2), .int .i64 (nO b 3)] from rfl]
    obtain ⟨w2, hw2⟩ : ∃ w2, w1.alloc (.cells #[.int .i64 (nO b 0), .int .u8 (wantO b : Nat), .int .i64 (nO b 1), .int .i64 (nO b 2), .int .i64 (nO b 3)] 62) = w2 := ⟨_, rfl⟩
    have hb2 : Below w1.heap.size w1 w2 := by rw [← hw2]; exact (Below.refl _ _).alloc (Nat.le_refl _) _
    have hk2 : w2.heap[w1.heap.size]? = some (.cells #[.int .i64 (nO b 0), .int .u8 (wantO b : Nat), .int .i64 (nO b 1), .int .i64 (nO b 2), .int .i64 (nO b 3)] 62 (0, 0)) := by rw [← hw2]; exact heap_alloc_new _ _
    have c0 : w2.cell? ⟨w1.heap.size, 0, none⟩ = some (.int .i64 (nO b 0)) := by simp [World.cell?, hk2]
    have c1 : w2.cell? ⟨w1.heap.size, 1, none⟩ = some (.int .u8 (wantO b : Nat)) := by simp [World.cell?, hk2]
    have c2 : w2.cell? ⟨w1.heap.size, 2, none⟩ = some (.int .i64 (nO b 1)) := by simp [World.cell?, hk2]
    have c3 : w2.cell? ⟨w1.heap.size, 3, none⟩ = some (.int .i64 (nO b 2)) := by simp [World.cell?, hk2]
    have c4 : w2.cell? ⟨w1.heap.size, 4, none⟩ = some (.int .i64 (nO b 3)) := by simp [World.cell?, hk2]
    have HK2 := hid hk2
    have HB2 := hid hb2
    have HW2 := hid hw2
    clear h1 hw1 hkr1 hb1 hs1 hw2 hb2 hk2 HQ HKR HBB HB
    go_wp2_with fail
    try rw [HW2.out]
    refine (HR.out _).mono ?_
    rintro e w3 ⟨rfl, hb3⟩
    have hk3 := (hb3.block w1.heap.size (Array.getElem?_eq_some_iff.1 HK2.out).1).trans HK2.out
    have hkr3 := (hb3.block w.heap.size (by have := HS1.out; have := HB2.out.size; omega)).trans ((HB2.out.block w.heap.size (by have := HS1.out; omega)).trans HKR1.out)
    have HB3 := hid (HB1.out.trans ((HB2.out.trans (hb3.mono HB2.out.size)).mono HB1.out.size))
    have HWH := hid (whole_any (rightA (awO b)) ((H1.out.below HB2.out).below hb3))
    have HSZ3 : Hid (w.heap.size + 2 ≤ w3.heap.size) := hid (by have := HS1.out; have := HB2.out.size; have := hb3.size; omega)
    rw [hok] at HWH
    have q0 : w3.cell? ⟨w1.heap.size, 0, none⟩ = some (.int .i64 (nO b 0)) := by simp [World.cell?, hk3]
    have r0 : w3.cell? ⟨w.heap.size, 0, none⟩ = some (.int .i64 0) := by simp [World.cell?, hkr3]
    have f0 : w3.frozen? ⟨w.heap.size, 0, none⟩ = false := by simp [World.frozen?, hkr3]
    have q1 : w3.cell? ⟨w1.heap.size, 1, none⟩ = some (.int .u8 (wantO b : Nat)) := by simp [World.cell?, hk3]
    have r1 : w3.cell? ⟨w.heap.size, 1, none⟩ = some (.int .u8 0) := by simp [World.cell?, hkr3]
    have f1 : w3.frozen? ⟨w.heap.size, 1, none⟩ = false := by simp [World.frozen?, hkr3]
    have q2 : w3.cell? ⟨w1.heap.size, 2, none⟩ = some (.int .i64 (nO b 1)) := by simp [World.cell?, hk3]
    have r2 : w3.cell? ⟨w.heap.size, 2, none⟩ = some (.int .i64 0) := by simp [World.cell?, hkr3]
    have f2 : w3.frozen? ⟨w.heap.size, 2, none⟩ = false := by simp [World.frozen?, hkr3]
    have q3 : w3.cell? ⟨w1.heap.size, 3, none⟩ = some (.int .i64 (nO b 2)) := by simp [World.cell?, hk3]
    have r3 : w3.cell? ⟨w.heap.size, 3, none⟩ = some (.int .i64 0) := by simp [World.cell?, hkr3]
    have f3 : w3.frozen? ⟨w.heap.size, 3, none⟩ = false := by simp [World.frozen?, hkr3]
    have q4 : w3.cell? ⟨w1.heap.size, 4, none⟩ = some (.int .i64 (nO b 3)) := by simp [World.cell?, hk3]
    have r4 : w3.cell? ⟨w.heap.size, 4, none⟩ = some (.int .i64 0) := by simp [World.cell?, hkr3]
    have f4 : w3.frozen? ⟨w.heap.size, 4, none⟩ = false := by simp [World.frozen?, hkr3]
    clear hk3 hkr3 hb3 c0 c1 c2 c3 c4
    go_wp2_with fail
    refine HWH.out.mono ?_
    rintro e w4 ⟨rfl, m4, rfl⟩
    have Q0 : (w3.drewN m4).cell? ⟨w1.heap.size, 0, none⟩ = some (.int .i64 (nO b 0)) := q0
    have R0 : (w3.drewN m4).cell? ⟨w.heap.size, 0, none⟩ = some (.int .i64 0) := r0
    have F0 : (w3.drewN m4).frozen? ⟨w.heap.size, 0, none⟩ = false := f0
    have Q1 : (w3.drewN m4).cell? ⟨w1.heap.size, 1, none⟩ = some (.int .u8 (wantO b : Nat)) := q1
    have R1 : (w3.drewN m4).cell? ⟨w.heap.size, 1, none⟩ = some (.int .u8 0) := r1
    have F1 : (w3.drewN m4).frozen? ⟨w.heap.size, 1, none⟩ = false := f1
    have Q2 : (w3.drewN m4).cell? ⟨w1.heap.size, 2, none⟩ = some (.int .i64 (nO b 1)) := q2
    have R2 : (w3.drewN m4).cell? ⟨w.heap.size, 2, none⟩ = some (.int .i64 0) := r2
    have F2 : (w3.drewN m4).frozen? ⟨w.heap.size, 2, none⟩ = false := f2
    have Q3 : (w3.drewN m4).cell? ⟨w1.heap.size, 3, none⟩ = some (.int .i64 (nO b 2)) := q3
    have R3 : (w3.drewN m4).cell? ⟨w.heap.size, 3, none⟩ = some (.int .i64 0) := r3
    have F3 : (w3.drewN m4).frozen? ⟨w.heap.size, 3, none⟩ = false := f3
    have Q4 : (w3.drewN m4).cell? ⟨w1.heap.size, 4, none⟩ = some (.int .i64 (nO b 3)) := q4
    have R4 : (w3.drewN m4).cell? ⟨w.heap.size, 4, none⟩ = some (.int .i64 0) := r4
    have F4 : (w3.drewN m4).frozen? ⟨w.heap.size, 4, none⟩ = false := f4
    clear q0 r0 f0 q1 r1 f1 q2 r2 f2 q3 r3 f3 q4 r4 f4
    go_wp2_with fail
    all_goals have KK := set5 (y0 := .int .i64 (nO b 0)) (y1 := .int .u8 (wantO b : Nat)) (y2 := .int .i64 (nO b 1)) (y3 := .int .i64 (nO b 2)) (y4 := .int .i64 (nO b 3)) R0 R1 R2 R3 R4
    all_goals obtain ⟨k60, k61, k62, k63, k64⟩ := KK
    all_goals refine bodyPost_ret (v := .tuple #[.agg #[.int .i64 (nO b 0), .int .u8 (wantO b : Nat), .int .i64 (nO b 1), .int .i64 (nO b 2), .int .i64 (nO b 3)], .int .i64 0, .int .i64 0]) (by simp [results, Try.results48, go_sem, k60, k61, k62, k63, k64]) rfl ?_
    all_goals exact ⟨rfl, (Below.setCell (Below.setCell (Below.setCell (Below.setCell (Below.setCell (below_drewN HB3.out m4) (Nat.le_refl _) _) (Nat.le_refl _) _) (Nat.le_refl _) _) (Nat.le_refl _) _) (Nat.le_refl _) _)⟩

end Go.Proofs.Ytbpajgkhajheaaa.PrtI
