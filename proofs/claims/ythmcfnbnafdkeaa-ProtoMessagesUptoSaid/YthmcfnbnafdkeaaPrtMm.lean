/- Of every request, answer and list of requests: the program writes just the bytes that the document says, or tells the same error; all requests as frames likewise. On condition that what is handed in is not larger than the bound of the second form. -/
import Derived.Test.YthmcfnbnafdkeaaPrtH
import Derived.Test.YthmcfnbnafdkeaaFrmM
import Derived.Test.YthmcfnbnafdkeaaFrmG
import Derived.Test.YthmcfnbnafdkeaaFrmV
import Derived.Deep.RegionHeld3
import Derived.Test.YthmcfnbnafdkeaaFrmL
import Derived.Test.YthmcfnbnafdkeaaVrw
import Derived.Test.YthmcfnbnafdkeaaOpn
import Derived.Test.YthmcfnbnafdkeaaFrmZ
import Derived.Test.YthmcfnbnafdkeaaAlbC
import Derived.Test.YthmcfnbnafdkeaaPrtE
import Derived.Test.YthmcfnbnafdkeaaFrmI
import Derived.BigQuiet
import Derived.Laws.StructEq
import Derived.Test.YthmcfnbnafdkeaaFrmY
import Derived.Deep.DeepCutAuto
import Derived.Test.YthmcfnbnafdkeaaRows
import Derived.WalkKit
import Derived.ProofKit
import Derived.OpenShut
import Derived.ShutString
import Derived.ChangeOld
import Derived.Below
import Derived.SizedLaws
import Derived.ChangeShapes
import Derived.JoinedCond

/- ReadRequest and ReadAnswer: the program's. -/
namespace Go.Proofs.Ythmcfnbnafdkeaa.PrtI
open Go.ChangeShapes Go.WideShapes Go.ChangeAt Go.RowKit Base Wri Vrw FrmP FrmA FrmD FrmE FrmF FrmR FrmX FrmL FrmC2 FrmK FrmK2 RulA PrtA PrtB PrtC PrtR PrtN PrtD PrtE PrtF PrtG PrtH
set_option linter.unusedVariables false
set_option linter.unusedSimpArgs false

variable {W W' w : World} {p c : Nat} {a : Option Addr} {b : Bs} {st : Rs}

theorem tx_small (b : Bs) (st : Rs) : (txO b st).length ≤ 255 := by
  unfold txO
  rw [nx_len]
  have := UInt8.toNat_lt ((nx b st 1).getD 0 0)
  split <;> omega

/-- how a reader's place and what is right are told -/
def wholeP (b : Bs) (st : Rs) : Nat := if st.short then b.length else if st.place < b.length then st.place else 0
def wholeB (b : Bs) (st : Rs) (r : Bool) : Bool := !st.short && !decide (st.place < b.length) && r

set_option maxRecDepth 20000 in
set_option maxHeartbeats 2000000 in
theorem whole_any (r : Bool) (h : IsRr w p a c b st) :
    Calls Try.prog 67 #[.pointer (some ⟨p, 0, none⟩), .bool r] w fun e w' => e = .returned (.tuple #[.int .i64 (wholeP b st : Nat), .bool (wholeB b st r)]) ∧ ∃ m, w.drewN m = w' := by
  obtain ⟨x0, x1, x2⟩ := h.cells
  obtain ⟨hr1, hr2, hr3⟩ := h.room
  cases hs : st.short with
  | true =>
    have HP : Hid (wholeP b st = b.length ∧ wholeB b st r = false) := hid ⟨by unfold wholeP; rw [if_pos hs], by unfold wholeB; rw [hs]; rfl⟩
    rw [HP.out.1, HP.out.2]
    rw [hs] at x2
    clear h hs HP
    generalize b.length = L at *
    generalize st.place = pl at *
    go_enter Try.func67, Try.ntmps67
    go_wp2_with fail
    go_ret2
    exact ⟨rfl, 0, rfl⟩
  | false =>
    rw [hs] at x2
    by_cases hl : st.place < b.length
    · have HP : Hid (wholeP b st = st.place ∧ wholeB b st r = false) := hid ⟨by unfold wholeP; rw [if_neg (by rw [hs]; decide), if_pos hl], by unfold wholeB; rw [hs, decide_eq_true hl]; rfl⟩
      rw [HP.out.1, HP.out.2]
      clear h hs HP
      generalize b.length = L at *
      generalize st.place = pl at *
      have hd : decide ((pl : Int) < L) = true := decide_eq_true (by omega)
      go_enter Try.func67, Try.ntmps67
      go_wp2_with fail
      go_quiet (fail)
      go_wp2_with fail
      go_ret2
      exact ⟨rfl, nq, rfl⟩
    · have HP : Hid (wholeP b st = 0 ∧ wholeB b st r = r) := hid ⟨by unfold wholeP; rw [if_neg (by rw [hs]; decide), if_neg hl], by unfold wholeB; rw [hs, decide_eq_false hl]; simp⟩
      rw [HP.out.1, HP.out.2]
      clear h hs HP
      generalize b.length = L at *
      generalize st.place = pl at *
      have hd : decide ((pl : Int) < L) = false := decide_eq_false (by omega)
      go_enter Try.func67, Try.ntmps67
      go_wp2_with fail
      go_quiet (fail)
      go_wp2_with fail
      go_ret2
      exact ⟨rfl, nq, rfl⟩

/-- what it tells -/
def toldRequest (b : Bs) : Value := if wholeB b (endR b) (rightQ (rqO b)) then .tuple #[rv (rqO b), .int .i64 0, .int .i64 0] else .tuple #[.agg #[.int .i64 0, .int .u8 0, .int .i64 0, .int .i64 0, .string ⟨#[]⟩, .int .i64 0], .int .i64 6, .int .i64 (wholeP b (endR b) : Nat)]

set_option maxRecDepth 20000 in
set_option maxHeartbeats 4000000 in
theorem readRequest_any (a : Option Addr) (c : Nat) (b : Bs) (w : World) (HB : Hid (∀ n0, (∀ ad, a = some ad → ad.block < n0) → BAt w n0 a b)) (hc : b.length ≤ c) (hc2 : c ≤ 9223372036854775807) (ha : ∀ ad, a = some ad → ad.block < w.heap.size) :
    Calls Try.prog 39 #[.slice a b.length c] w fun e w' => e = .returned (toldRequest b) ∧ Below w.heap.size w w' := by
  obtain ⟨wa, hwa⟩ : ∃ wa, w.alloc (.cells #[.int .i64 0, .int .u8 0, .int .i64 0, .int .i64 0, .string ⟨#[]⟩, .int .i64 0] 51) = wa := ⟨_, rfl⟩
  obtain ⟨wb, hwb⟩ : ∃ wb, wa.alloc (.cells #[.slice a b.length c, .int .i64 0, .bool false] 98) = wb := ⟨_, rfl⟩
  have hsa : wa.heap.size = w.heap.size + 1 := by rw [← hwa]; simp
  have hsb : wb.heap.size = w.heap.size + 2 := by rw [← hwb]; simp; omega
  have hbb : Below w.heap.size w wb := by rw [← hwb, ← hwa]; exact ((Below.refl _ _).alloc (Nat.le_refl _) _).alloc (by simp) _
  have hkp : wb.heap[wa.heap.size]? = some (.cells #[.slice a b.length c, .int .i64 0, .bool false] 98 (0, 0)) := by rw [← hwb]; exact heap_alloc_new _ _
  have hkr : wb.heap[w.heap.size]? = some (.cells #[.int .i64 0, .int .u8 0, .int .i64 0, .int .i64 0, .string ⟨#[]⟩, .int .i64 0] 51 (0, 0)) := by
    rw [← hwb]
    refine (AlbC.heap_alloc_old _ _ _ (by omega)).trans ?_
    rw [← hwa]
    exact heap_alloc_new _ _
  have hrr : IsRr wb wa.heap.size a c b zero := ⟨⟨by simp [World.cell?, hkp], by simp [World.cell?, hkp, zero], by simp [World.cell?, hkp, zero]⟩, fun j => by simp [World.frozen?, hkp], by omega, fun n0 hn h0 => by
    have hbat : BAt wb w.heap.size a b := (HB.out _ ha).below hbb
    obtain ⟨g, o, e, hg, hc⟩ := hbat h0
    exact ⟨g, o, e, hn ⟨g, o, none⟩ e, hc⟩, ⟨hc, hc2, Nat.zero_le _⟩, fun ad e => by have := ha ad e; omega⟩
  rw [hsa] at hrr hkp
  have HQ := hid (request_rd hrr)
  have HWA := hid hwa
  have HWB := hid hwb
  have HKR := hid hkr
  have HBB := hid hbb
  have HS := hid (And.intro hsa hsb)
  have HR := hid (fun w => right_any (nO b 0) (wantO b : Nat) (nO b 1) (nO b 2) (nO b 3) (txR b) w (by show (txO b _).length ≤ maxLen; have := tx_small b (stN b (st1 b) 4); unfold maxLen; omega))
  clear hsa hsb hbb hkp hkr hrr hwa hwb
  unfold toldRequest
  cases hok : wholeB b (endR b) (rightQ (rqO b)) with
  | false =>
    go_enter Try.func39, Try.ntmps39
    go_wp2_with fail
    try rw [HWA.out]
    try rw [HWB.out]
    refine HQ.out.mono ?_
    rintro e w1 ⟨rfl, h1, hw1⟩
    have H1 := hid h1
    have hkr1 := (hw1.block w.heap.size (by have := HS.out; omega) (fun e => by have e : w.heap.size = w.heap.size + 1 := e; omega)).trans HKR.out
    have hb1 : Below w.heap.size w w1 := HBB.out.trans (hw1.below _ HBB.out.size (fun k e => by have e : k = w.heap.size + 1 := e; omega))
    have HKR1 := hid hkr1
    have HB1 := hid hb1
    have hs1 : w.heap.size + 2 ≤ w1.heap.size := by have := HS.out; have := hw1.size; omega
    have HS1 := hid hs1
    rw [show rv (rqO b) = .agg #[.int .i64 (nO b 0), .int .u8 (wantO b : Nat), .int .i64 (nO b 1), .int .i64 (nO b 2), .string (txR b), .int .i64 (nO b 3)] from rfl]
    obtain ⟨w2, hw2⟩ : ∃ w2, w1.alloc (.cells #[.int .i64 (nO b 0), .int .u8 (wantO b : Nat), .int .i64 (nO b 1), .int .i64 (nO b 2), .string (txR b), .int .i64 (nO b 3)] 51) = w2 := ⟨_, rfl⟩
    have hb2 : Below w1.heap.size w1 w2 := by rw [← hw2]; exact (Below.refl _ _).alloc (Nat.le_refl _) _
    have hk2 : w2.heap[w1.heap.size]? = some (.cells #[.int .i64 (nO b 0), .int .u8 (wantO b : Nat), .int .i64 (nO b 1), .int .i64 (nO b 2), .string (txR b), .int .i64 (nO b 3)] 51 (0, 0)) := by rw [← hw2]; exact heap_alloc_new _ _
    have c0 : w2.cell? ⟨w1.heap.size, 0, none⟩ = some (.int .i64 (nO b 0)) := by simp [World.cell?, hk2]
    have c1 : w2.cell? ⟨w1.heap.size, 1, none⟩ = some (.int .u8 (wantO b : Nat)) := by simp [World.cell?, hk2]
    have c2 : w2.cell? ⟨w1.heap.size, 2, none⟩ = some (.int .i64 (nO b 1)) := by simp [World.cell?, hk2]
    have c3 : w2.cell? ⟨w1.heap.size, 3, none⟩ = some (.int .i64 (nO b 2)) := by simp [World.cell?, hk2]
    have c4 : w2.cell? ⟨w1.heap.size, 4, none⟩ = some (.string (txR b)) := by simp [World.cell?, hk2]
    have c5 : w2.cell? ⟨w1.heap.size, 5, none⟩ = some (.int .i64 (nO b 3)) := by simp [World.cell?, hk2]
    have HK2 := hid hk2
    have HB2 := hid hb2
    have HW2 := hid hw2
    clear h1 hw1 hkr1 hb1 hs1 hw2 hb2 hk2 HQ HKR HBB HB
    go_wp2_with fail
    try rw [HW2.out]
    refine (HR.out _).mono ?_
    rintro e w3 ⟨rfl, hb3⟩
    have hk3 := (hb3.block w1.heap.size (Array.getElem?_eq_some_iff.1 HK2.out).1).trans HK2.out
    have hkr3 := (hb3.block w.heap.size (by have := HS1.out; have := HB2.out.size; omega)).trans ((HB2.out.block w.heap.size (by have := HS1.out; omega)).trans HKR1.out)
    have HB3 := hid (HB1.out.trans ((HB2.out.trans (hb3.mono HB2.out.size)).mono HB1.out.size))
    have HWH := hid (whole_any (rightQ (rqO b)) ((H1.out.below HB2.out).below hb3))
    have HSZ3 : Hid (w.heap.size + 2 ≤ w3.heap.size) := hid (by have := HS1.out; have := HB2.out.size; have := hb3.size; omega)
    rw [hok] at HWH
    have q0 : w3.cell? ⟨w1.heap.size, 0, none⟩ = some (.int .i64 (nO b 0)) := by simp [World.cell?, hk3]
    have r0 : w3.cell? ⟨w.heap.size, 0, none⟩ = some (.int .i64 0) := by simp [World.cell?, hkr3]
    have f0 : w3.frozen? ⟨w.heap.size, 0, none⟩ = false := by simp [World.frozen?, hkr3]
    have q1 : w3.cell? ⟨w1.heap.size, 1, none⟩ = some (.int .u8 (wantO b : Nat)) := by simp [World.cell?, hk3]
    have r1 : w3.cell? ⟨w.heap.size, 1, none⟩ = some (.int .u8 0) := by simp [World.cell?, hkr3]
    have f1 : w3.frozen? ⟨w.heap.size, 1, none⟩ = false := by simp [World.frozen?, hkr3]
    have q2 : w3.cell? ⟨w1.heap.size, 2, none⟩ = some (.int .i64 (nO b 1)) := by simp [World.cell?, hk3]
    have r2 : w3.cell? ⟨w.heap.size, 2, none⟩ = some (.int .i64 0) := by simp [World.cell?, hkr3]
    have f2 : w3.frozen? ⟨w.heap.size, 2, none⟩ = false := by simp [World.frozen?, hkr3]
    have q3 : w3.cell? ⟨w1.heap.size, 3, none⟩ = some (.int .i64 (nO b 2)) := by simp [World.cell?, hk3]
    have r3 : w3.cell? ⟨w.heap.size, 3, none⟩ = some (.int .i64 0) := by simp [World.cell?, hkr3]
    have f3 : w3.frozen? ⟨w.heap.size, 3, none⟩ = false := by simp [World.frozen?, hkr3]
    have q4 : w3.cell? ⟨w1.heap.size, 4, none⟩ = some (.string (txR b)) := by simp [World.cell?, hk3]
    have r4 : w3.cell? ⟨w.heap.size, 4, none⟩ = some (.string ⟨#[]⟩) := by simp [World.cell?, hkr3]
    have f4 : w3.frozen? ⟨w.heap.size, 4, none⟩ = false := by simp [World.frozen?, hkr3]
    have q5 : w3.cell? ⟨w1.heap.size, 5, none⟩ = some (.int .i64 (nO b 3)) := by simp [World.cell?, hk3]
    have r5 : w3.cell? ⟨w.heap.size, 5, none⟩ = some (.int .i64 0) := by simp [World.cell?, hkr3]
    have f5 : w3.frozen? ⟨w.heap.size, 5, none⟩ = false := by simp [World.frozen?, hkr3]
    clear hk3 hkr3 hb3 c0 c1 c2 c3 c4 c5
    go_wp2_with fail
    refine HWH.out.mono ?_
    rintro e w4 ⟨rfl, m4, rfl⟩
    have Q0 : (w3.drewN m4).cell? ⟨w1.heap.size, 0, none⟩ = some (.int .i64 (nO b 0)) := q0
    have R0 : (w3.drewN m4).cell? ⟨w.heap.size, 0, none⟩ = some (.int .i64 0) := r0
    have F0 : (w3.drewN m4).frozen? ⟨w.heap.size, 0, none⟩ = false := f0
    have Q1 : (w3.drewN m4).cell? ⟨w1.heap.size, 1, none⟩ = some (.int .u8 (wantO b : Nat)) := q1
    have R1 : (w3.drewN m4).cell? ⟨w.heap.size, 1, none⟩ = some (.int .u8 0) := r1
    have F1 : (w3.drewN m4).frozen? ⟨w.heap.size, 1, none⟩ = false := f1
    have Q2 : (w3.drewN m4).cell? ⟨w1.heap.size, 2, none⟩ = some (.int .i64 (nO b 1)) := q2
    have R2 : (w3.drewN m4).cell? ⟨w.heap.size, 2, none⟩ = some (.int .i64 0) := r2
    have F2 : (w3.drewN m4).frozen? ⟨w.heap.size, 2, none⟩ = false := f2
    have Q3 : (w3.drewN m4).cell? ⟨w1.heap.size, 3, none⟩ = some (.int .i64 (nO b 2)) := q3
    have R3 : (w3.drewN m4).cell? ⟨w.heap.size, 3, none⟩ = some (.int .i64 0) := r3
    have F3 : (w3.drewN m4).frozen? ⟨w.heap.size, 3, none⟩ = false := f3
    have Q4 : (w3.drewN m4).cell? ⟨w1.heap.size, 4, none⟩ = some (.string (txR b)) := q4
    have R4 : (w3.drewN m4).cell? ⟨w.heap.size, 4, none⟩ = some (.string ⟨#[]⟩) := r4
    have F4 : (w3.drewN m4).frozen? ⟨w.heap.size, 4, none⟩ = false := f4
    have Q5 : (w3.drewN m4).cell? ⟨w1.heap.size, 5, none⟩ = some (.int .i64 (nO b 3)) := q5
    have R5 : (w3.drewN m4).cell? ⟨w.heap.size, 5, none⟩ = some (.int .i64 0) := r5
    have F5 : (w3.drewN m4).frozen? ⟨w.heap.size, 5, none⟩ = false := f5
    clear q0 r0 f0 q1 r1 f1 q2 r2 f2 q3 r3 f3 q4 r4 f4 q5 r5 f5
    go_wp2_with fail
    all_goals have KK := set6 (y0 := .int .i64 0) (y1 := .int .u8 0) (y2 := .int .i64 0) (y3 := .int .i64 0) (y4 := .string ⟨#[]⟩) (y5 := .int .i64 0) R0 R1 R2 R3 R4 R5
    all_goals obtain ⟨k60, k61, k62, k63, k64, k65⟩ := KK
    all_goals refine bodyPost_ret (v := .tuple #[.agg #[.int .i64 0, .int .u8 0, .int .i64 0, .int .i64 0, .string ⟨#[]⟩, .int .i64 0], .int .i64 6, .int .i64 (wholeP b (endR b) : Nat)]) (by simp [results, Try.results39, go_sem, k60, k61, k62, k63, k64, k65]) rfl ?_
    all_goals exact ⟨rfl, (Below.setCell (Below.setCell (Below.setCell (Below.setCell (Below.setCell (Below.setCell (below_drewN HB3.out m4) (Nat.le_refl _) _) (Nat.le_refl _) _) (Nat.le_refl _) _) (Nat.le_refl _) _) (Nat.le_refl _) _) (Nat.le_refl _) _)⟩
  | true =>
    go_enter Try.func39, Try.ntmps39
    go_wp2_with fail
    try rw [HWA.out]
    try rw [HWB.out]
    refine HQ.out.mono ?_
    rintro e w1 ⟨rfl, h1, hw1⟩
    have H1 := hid h1
    have hkr1 := (hw1.block w.heap.size (by have := HS.out; omega) (fun e => by have e : w.heap.size = w.heap.size + 1 := e; omega)).trans HKR.out
    have hb1 : Below w.heap.size w w1 := HBB.out.trans (hw1.below _ HBB.out.size (fun k e => by have e : k = w.heap.size + 1 := e; omega))
    have HKR1 := hid hkr1
    have HB1 := hid hb1
    have hs1 : w.heap.size + 2 ≤ w1.heap.size := by have := HS.out; have := hw1.size; omega
    have HS1 := hid hs1
    rw [show rv (rqO b) = .agg #[.int .i64 (nO b 0), .int .u8 (wantO b : Nat), .int .i64 (nO b 1), .int .i64 (nO b 2), .string (txR b), .int .i64 (nO b 3)] from rfl]
    obtain ⟨w2, hw2⟩ : ∃ w2, w1.alloc (.cells #[.int .i64 (nO b 0), .int .u8 (wantO b : Nat), .int .i64 (nO b 1), .int .i64 (nO b 2), .string (txR b), .int .i64 (nO b 3)] 51) = w2 := ⟨_, rfl⟩
    have hb2 : Below w1.heap.size w1 w2 := by rw [← hw2]; exact (Below.refl _ _).alloc (Nat.le_refl _) _
    have hk2 : w2.heap[w1.heap.size]? = some (.cells #[.int .i64 (nO b 0), .int .u8 (wantO b : Nat), .int .i64 (nO b 1), .int .i64 (nO b 2), .string (txR b), .int .i64 (nO b 3)] 51 (0, 0)) := by rw [← hw2]; exact heap_alloc_new _ _
    have c0 : w2.cell? ⟨w1.heap.size, 0, none⟩ = some (.int .i64 (nO b 0)) := by simp [World.cell?, hk2]
    have c1 : w2.cell? ⟨w1.heap.size, 1, none⟩ = some (.int .u8 (wantO b : Nat)) := by simp [World.cell?, hk2]
    have c2 : w2.cell? ⟨w1.heap.size, 2, none⟩ = some (.int .i64 (nO b 1)) := by simp [World.cell?, hk2]
    have c3 : w2.cell? ⟨w1.heap.size, 3, none⟩ = some (.int .i64 (nO b 2)) := by simp [World.cell?, hk2]
    have c4 : w2.cell? ⟨w1.heap.size, 4, none⟩ = some (.string (txR b)) := by simp [World.cell?, hk2]
    have c5 : w2.cell? ⟨w1.heap.size, 5, none⟩ = some (.int .i64 (nO b 3)) := by simp [World.cell?, hk2]
    have HK2 := hid hk2
    have HB2 := hid hb2
    have HW2 := hid hw2
    clear h1 hw1 hkr1 hb1 hs1 hw2 hb2 hk2 HQ HKR HBB HB
    go_wp2_with fail
    try rw [HW2.out]
    refine (HR.out _).mono ?_
    rintro e w3 ⟨rfl, hb3⟩
    have hk3 := (hb3.block w1.heap.size (Array.getElem?_eq_some_iff.1 HK2.out).1).trans HK2.out
    have hkr3 := (hb3.block w.heap.size (by have := HS1.out; have := HB2.out.size; omega)).trans ((HB2.out.block w.heap.size (by have := HS1.out; omega)).trans HKR1.out)
    have HB3 := hid (HB1.out.trans ((HB2.out.trans (hb3.mono HB2.out.size)).mono HB1.out.size))
    have HWH := hid (whole_any (rightQ (rqO b)) ((H1.out.below HB2.out).below hb3))
    have HSZ3 : Hid (w.heap.size + 2 ≤ w3.heap.size) := hid (by have := HS1.out; have := HB2.out.size; have := hb3.size; omega)
    rw [hok] at HWH
    have q0 : w3.cell? ⟨w1.heap.size, 0, none⟩ = some (.int .i64 (nO b 0)) := by simp [World.cell?, hk3]
    have r0 : w3.cell? ⟨w.heap.size, 0, none⟩ = some (.int .i64 0) := by simp [World.cell?, hkr3]
    have f0 : w3.frozen? ⟨w.heap.size, 0, none⟩ = false := by simp [World.frozen?, hkr3]
    have q1 : w3.cell? ⟨w1.heap.size, 1, none⟩ = some (.int .u8 (wantO b : Nat)) := by simp [World.cell?, hk3]
    have r1 : w3.cell? ⟨w.heap.size, 1, none⟩ = some (.int .u8 0) := by simp [World.cell?, hkr3]
    have f1 : w3.frozen? ⟨w.heap.size, 1, none⟩ = false := by simp [World.frozen?, hkr3]
    have q2 : w3.cell? ⟨w1.heap.size, 2, none⟩ = some (.int .i64 (nO b 1)) := by simp [World.cell?, hk3]
    have r2 : w3.cell? ⟨w.heap.size, 2, none⟩ = some (.int .i64 0) := by simp [World.cell?, hkr3]
    have f2 : w3.frozen? ⟨w.heap.size, 2, none⟩ = false := by simp [World.frozen?, hkr3]
    have q3 : w3.cell? ⟨w1.heap.size, 3, none⟩ = some (.int .i64 (nO b 2)) := by simp [World.cell?, hk3]
    have r3 : w3.cell? ⟨w.heap.size, 3, none⟩ = some (.int .i64 0) := by simp [World.cell?, hkr3]
    have f3 : w3.frozen? ⟨w.heap.size, 3, none⟩ = false := by simp [World.frozen?, hkr3]
    have q4 : w3.cell? ⟨w1.heap.size, 4, none⟩ = some (.string (txR b)) := by simp [World.cell?, hk3]
    have r4 : w3.cell? ⟨w.heap.size, 4, none⟩ = some (.string ⟨#[]⟩) := by simp [World.cell?, hkr3]
    have f4 : w3.frozen? ⟨w.heap.size, 4, none⟩ = false := by simp [World.frozen?, hkr3]
    have q5 : w3.cell? ⟨w1.heap.size, 5, none⟩ = some (.int .i64 (nO b 3)) := by simp [World.cell?, hk3]
    have r5 : w3.cell? ⟨w.heap.size, 5, none⟩ = some (.int .i64 0) := by simp [World.cell?, hkr3]
    have f5 : w3.frozen? ⟨w.heap.size, 5, none⟩ = false := by simp [World.frozen?, hkr3]
    clear hk3 hkr3 hb3 c0 c1 c2 c3 c4 c5
    go_wp2_with fail
    refine HWH.out.mono ?_
    rintro e w4 ⟨rfl, m4, rfl⟩
    have Q0 : (w3.drewN m4).cell? ⟨w1.heap.size, 0, none⟩ = some (.int .i64 (nO b 0)) := q0
    have R0 : (w3.drewN m4).cell? ⟨w.heap.size, 0, none⟩ = some (.int .i64 0) := r0
    have F0 : (w3.drewN m4).frozen? ⟨w.heap.size, 0, none⟩ = false := f0
    have Q1 : (w3.drewN m4).cell? ⟨w1.heap.size, 1, none⟩ = some (.int .u8 (wantO b : Nat)) := q1
    have R1 : (w3.drewN m4).cell? ⟨w.heap.size, 1, none⟩ = some (.int .u8 0) := r1
    have F1 : (w3.drewN m4).frozen? ⟨w.heap.size, 1, none⟩ = false := f1
    have Q2 : (w3.drewN m4).cell? ⟨w1.heap.size, 2, none⟩ = some (.int .i64 (nO b 1)) := q2
    have R2 : (w3.drewN m4).cell? ⟨w.heap.size, 2, none⟩ = some (.int .i64 0) := r2
    have F2 : (w3.drewN m4).frozen? ⟨w.heap.size, 2, none⟩ = false := f2
    have Q3 : (w3.drewN m4).cell? ⟨w1.heap.size, 3, none⟩ = some (.int .i64 (nO b 2)) := q3
    have R3 : (w3.drewN m4).cell? ⟨w.heap.size, 3, none⟩ = some (.int .i64 0) := r3
    have F3 : (w3.drewN m4).frozen? ⟨w.heap.size, 3, none⟩ = false := f3
    have Q4 : (w3.drewN m4).cell? ⟨w1.heap.size, 4, none⟩ = some (.string (txR b)) := q4
    have R4 : (w3.drewN m4).cell? ⟨w.heap.size, 4, none⟩ = some (.string ⟨#[]⟩) := r4
    have F4 : (w3.drewN m4).frozen? ⟨w.heap.size, 4, none⟩ = false := f4
    have Q5 : (w3.drewN m4).cell? ⟨w1.heap.size, 5, none⟩ = some (.int .i64 (nO b 3)) := q5
    have R5 : (w3.drewN m4).cell? ⟨w.heap.size, 5, none⟩ = some (.int .i64 0) := r5
    have F5 : (w3.drewN m4).frozen? ⟨w.heap.size, 5, none⟩ = false := f5
    clear q0 r0 f0 q1 r1 f1 q2 r2 f2 q3 r3 f3 q4 r4 f4 q5 r5 f5
    go_wp2_with fail
    all_goals have KK := set6 (y0 := .int .i64 (nO b 0)) (y1 := .int .u8 (wantO b : Nat)) (y2 := .int .i64 (nO b 1)) (y3 := .int .i64 (nO b 2)) (y4 := .string (txR b)) (y5 := .int .i64 (nO b 3)) R0 R1 R2 R3 R4 R5
    all_goals obtain ⟨k60, k61, k62, k63, k64, k65⟩ := KK
    all_goals refine bodyPost_ret (v := .tuple #[.agg #[.int .i64 (nO b 0), .int .u8 (wantO b : Nat), .int .i64 (nO b 1), .int .i64 (nO b 2), .string (txR b), .int .i64 (nO b 3)], .int .i64 0, .int .i64 0]) (by simp [results, Try.results39, go_sem, k60, k61, k62, k63, k64, k65]) rfl ?_
    all_goals exact ⟨rfl, (Below.setCell (Below.setCell (Below.setCell (Below.setCell (Below.setCell (Below.setCell (below_drewN HB3.out m4) (Nat.le_refl _) _) (Nat.le_refl _) _) (Nat.le_refl _) _) (Nat.le_refl _) _) (Nat.le_refl _) _) (Nat.le_refl _) _)⟩

/-- what it tells -/
def toldAnswer (b : Bs) : Value := if wholeB b (endA b) (rightA (awO b)) then .tuple #[av (awO b), .int .i64 0, .int .i64 0] else .tuple #[.agg #[.int .i64 0, .int .u8 0, .int .i64 0, .int .i64 0, .int .i64 0], .int .i64 6, .int .i64 (wholeP b (endA b) : Nat)]

set_option maxRecDepth 20000 in
set_option maxHeartbeats 4000000 in
theorem readAnswer_any (a : Option Addr) (c : Nat) (b : Bs) (w : World) (HB : Hid (∀ n0, (∀ ad, a = some ad → ad.block < n0) → BAt w n0 a b)) (hc : b.length ≤ c) (hc2 : c ≤ 9223372036854775807) (ha : ∀ ad, a = some ad → ad.block < w.heap.size) :
    Calls Try.prog 41 #[.slice a b.length c] w fun e w' => e = .returned (toldAnswer b) ∧ Below w.heap.size w w' := by
  obtain ⟨wa, hwa⟩ : ∃ wa, w.alloc (.cells #[.int .i64 0, .int .u8 0, .int .i64 0, .int .i64 0, .int .i64 0] 54) = wa := ⟨_, rfl⟩
  obtain ⟨wb, hwb⟩ : ∃ wb, wa.alloc (.cells #[.slice a b.length c, .int .i64 0, .bool false] 102) = wb := ⟨_, rfl⟩
  have hsa : wa.heap.size = w.heap.size + 1 := by rw [← hwa]; simp
  have hsb : wb.heap.size = w.heap.size + 2 := by rw [← hwb]; simp; omega
  have hbb : Below w.heap.size w wb := by rw [← hwb, ← hwa]; exact ((Below.refl _ _).alloc (Nat.le_refl _) _).alloc (by simp) _
  have hkp : wb.heap[wa.heap.size]? = some (.cells #[.slice a b.length c, .int .i64 0, .bool false] 102 (0, 0)) := by rw [← hwb]; exact heap_alloc_new _ _
  have hkr : wb.heap[w.heap.size]? = some (.cells #[.int .i64 0, .int .u8 0, .int .i64 0, .int .i64 0, .int .i64 0] 54 (0, 0)) := by
    rw [← hwb]
    refine (AlbC.heap_alloc_old _ _ _ (by omega)).trans ?_
    rw [← hwa]
    exact heap_alloc_new _ _
  have hrr : IsRr wb wa.heap.size a c b zero := ⟨⟨by simp [World.cell?, hkp], by simp [World.cell?, hkp, zero], by simp [World.cell?, hkp, zero]⟩, fun j => by simp [World.frozen?, hkp], by omega, fun n0 hn h0 => by
    have hbat : BAt wb w.heap.size a b := (HB.out _ ha).below hbb
    obtain ⟨g, o, e, hg, hc⟩ := hbat h0
    exact ⟨g, o, e, hn ⟨g, o, none⟩ e, hc⟩, ⟨hc, hc2, Nat.zero_le _⟩, fun ad e => by have := ha ad e; omega⟩
  rw [hsa] at hrr hkp
  have HQ := hid (answer_rd hrr)
  have HWA := hid hwa
  have HWB := hid hwb
  have HKR := hid hkr
  have HBB := hid hbb
  have HS := hid (And.intro hsa hsb)
  have HR := hid (fun w => rightA_any (nO b 0) (wantO b : Nat) (nO b 1) (nO b 2) (nO b 3) w (by omega) (by have := UInt8.toNat_lt ((nx b zero 1).getD 0 0); show ((((nx b zero 1).getD 0 0).toNat : Nat) : Int) ≤ 255; omega))
  clear hsa hsb hbb hkp hkr hrr hwa hwb
  unfold toldAnswer
  cases hok : wholeB b (endA b) (rightA (awO b)) with
  | false =>
    go_enter Try.func41, Try.ntmps41
    go_wp2_with fail
    try rw [HWA.out]
    try rw [HWB.out]
    refine HQ.out.mono ?_
    rintro e w1 ⟨rfl, h1, hw1⟩
    have H1 := hid h1
    have hkr1 := (hw1.block w.heap.size (by have := HS.out; omega) (fun e => by have e : w.heap.size = w.heap.size + 1 := e; omega)).trans HKR.out
    have hb1 : Below w.heap.size w w1 := HBB.out.trans (hw1.below _ HBB.out.size (fun k e => by have e : k = w.heap.size + 1 := e; omega))
    have HKR1 := hid hkr1
    have HB1 := hid hb1
    have hs1 : w.heap.size + 2 ≤ w1.heap.size := by have := HS.out; have := hw1.size; omega
    have HS1 := hid hs1
    rw [show av (awO b) = .agg #[.int .i64 (nO b 0), .int .u8 (wantO b : Nat), .int .i64 (nO b 1), .int .i64 (nO b 2), .int .i64 (nO b 3)] from rfl]
    obtain ⟨w2, hw2⟩ : ∃ w2, w1.alloc (.cells #[.int .i64 (nO b 0), .int .u8 (wantO b : Nat), .int .i64 (nO b 1), .int .i64 (nO b 2), .int .i64 (nO b 3)] 54) = w2 := ⟨_, rfl⟩
    have hb2 : Below w1.heap.size w1 w2 := by rw [← hw2]; exact (Below.refl _ _).alloc (Nat.le_refl _) _
    have hk2 : w2.heap[w1.heap.size]? = some (.cells #[.int .i64 (nO b 0), .int .u8 (wantO b : Nat), .int .i64 (nO b 1), .int .i64 (nO b 2), .int .i64 (nO b 3)] 54 (0, 0)) := by rw [← hw2]; exact heap_alloc_new _ _
    have c0 : w2.cell? ⟨w1.heap.size, 0, none⟩ = some (.int .i64 (nO b 0)) := by simp [World.cell?, hk2]
    have c1 : w2.cell? ⟨w1.heap.size, 1, none⟩ = some (.int .u8 (wantO b : Nat)) := by simp [World.cell?, hk2]
    have c2 : w2.cell? ⟨w1.heap.size, 2, none⟩ = some (.int .i64 (nO b 1)) := by simp [World.cell?, hk2]
    have c3 : w2.cell? ⟨w1.heap.size, 3, none⟩ = some (.int .i64 (nO b 2)) := by simp [World.cell?, hk2]
    have c4 : w2.cell? ⟨w1.heap.size, 4, none⟩ = some (.int .i64 (nO b 3)) := by simp [World.cell?, hk2]
    have HK2 := hid hk2
    have HB2 := hid hb2
    have HW2 := hid hw2
    clear h1 hw1 hkr1 hb1 hs1 hw2 hb2 hk2 HQ HKR HBB HB
    go_wp2_with fail
    try rw [HW2.out]
    refine (HR.out _).mono ?_
    rintro e w3 ⟨rfl, hb3⟩
    have hk3 := (hb3.block w1.heap.size (Array.getElem?_eq_some_iff.1 HK2.out).1).trans HK2.out
    have hkr3 := (hb3.block w.heap.size (by have := HS1.out; have := HB2.out.size; omega)).trans ((HB2.out.block w.heap.size (by have := HS1.out; omega)).trans HKR1.out)
    have HB3 := hid (HB1.out.trans ((HB2.out.trans (hb3.mono HB2.out.size)).mono HB1.out.size))
    have HWH := hid (whole_any (rightA (awO b)) ((H1.out.below HB2.out).below hb3))
    have HSZ3 : Hid (w.heap.size + 2 ≤ w3.heap.size) := hid (by have := HS1.out; have := HB2.out.size; have := hb3.size; omega)
    rw [hok] at HWH
    have q0 : w3.cell? ⟨w1.heap.size, 0, none⟩ = some (.int .i64 (nO b 0)) := by simp [World.cell?, hk3]
    have r0 : w3.cell? ⟨w.heap.size, 0, none⟩ = some (.int .i64 0) := by simp [World.cell?, hkr3]
    have f0 : w3.frozen? ⟨w.heap.size, 0, none⟩ = false := by simp [World.frozen?, hkr3]
    have q1 : w3.cell? ⟨w1.heap.size, 1, none⟩ = some (.int .u8 (wantO b : Nat)) := by simp [World.cell?, hk3]
    have r1 : w3.cell? ⟨w.heap.size, 1, none⟩ = some (.int .u8 0) := by simp [World.cell?, hkr3]
    have f1 : w3.frozen? ⟨w.heap.size, 1, none⟩ = false := by simp [World.frozen?, hkr3]
    have q2 : w3.cell? ⟨w1.heap.size, 2, none⟩ = some (.int .i64 (nO b 1)) := by simp [World.cell?, hk3]
    have r2 : w3.cell? ⟨w.heap.size, 2, none⟩ = some (.int .i64 0) := by simp [World.cell?, hkr3]
    have f2 : w3.frozen? ⟨w.heap.size, 2, none⟩ = false := by simp [World.frozen?, hkr3]
    have q3 : w3.cell? ⟨w1.heap.size, 3, none⟩ = some (.int .i64 (nO b 2)) := by simp [World.cell?, hk3]
    have r3 : w3.cell? ⟨w.heap.size, 3, none⟩ = some (.int .i64 0) := by simp [World.cell?, hkr3]
    have f3 : w3.frozen? ⟨w.heap.size, 3, none⟩ = false := by simp [World.frozen?, hkr3]
    have q4 : w3.cell? ⟨w1.heap.size, 4, none⟩ = some (.int .i64 (nO b 3)) := by simp [World.cell?, hk3]
    have r4 : w3.cell? ⟨w.heap.size, 4, none⟩ = some (.int .i64 0) := by simp [World.cell?, hkr3]
    have f4 : w3.frozen? ⟨w.heap.size, 4, none⟩ = false := by simp [World.frozen?, hkr3]
    clear hk3 hkr3 hb3 c0 c1 c2 c3 c4
    go_wp2_with fail
    refine HWH.out.mono ?_
    rintro e w4 ⟨rfl, m4, rfl⟩
    have Q0 : (w3.drewN m4).cell? ⟨w1.heap.size, 0, none⟩ = some (.int .i64 (nO b 0)) := q0
    have R0 : (w3.drewN m4).cell? ⟨w.heap.size, 0, none⟩ = some (.int .i64 0) := r0
    have F0 : (w3.drewN m4).frozen? ⟨w.heap.size, 0, none⟩ = false := f0
    have Q1 : (w3.drewN m4).cell? ⟨w1.heap.size, 1, none⟩ = some (.int .u8 (wantO b : Nat)) := q1
    have R1 : (w3.drewN m4).cell? ⟨w.heap.size, 1, none⟩ = some (.int .u8 0) := r1
    have F1 : (w3.drewN m4).frozen? ⟨w.heap.size, 1, none⟩ = false := f1
    have Q2 : (w3.drewN m4).cell? ⟨w1.heap.size, 2, none⟩ = some (.int .i64 (nO b 1)) := q2
    have R2 : (w3.drewN m4).cell? ⟨w.heap.size, 2, none⟩ = some (.int .i64 0) := r2
    have F2 : (w3.drewN m4).frozen? ⟨w.heap.size, 2, none⟩ = false := f2
    have Q3 : (w3.drewN m4).cell? ⟨w1.heap.size, 3, none⟩ = some (.int .i64 (nO b 2)) := q3
    have R3 : (w3.drewN m4).cell? ⟨w.heap.size, 3, none⟩ = some (.int .i64 0) := r3
    have F3 : (w3.drewN m4).frozen? ⟨w.heap.size, 3, none⟩ = false := f3
    have Q4 : (w3.drewN m4).cell? ⟨w1.heap.size, 4, none⟩ = some (.int .i64 (nO b 3)) := q4
    have R4 : (w3.drewN m4).cell? ⟨w.heap.size, 4, none⟩ = some (.int .i64 0) := r4
    have F4 : (w3.drewN m4).frozen? ⟨w.heap.size, 4, none⟩ = false := f4
    clear q0 r0 f0 q1 r1 f1 q2 r2 f2 q3 r3 f3 q4 r4 f4
    go_wp2_with fail
    all_goals have KK := set5 (y0 := .int .i64 0) (y1 := .int .u8 0) (y2 := .int .i64 0) (y3 := .int .i64 0) (y4 := .int .i64 0) R0 R1 R2 R3 R4
    all_goals obtain ⟨k60, k61, k62, k63, k64⟩ := KK
    all_goals refine bodyPost_ret (v := .tuple #[.agg #[.int .i64 0, .int .u8 0, .int .i64 0, .int .i64 0, .int .i64 0], .int .i64 6, .int .i64 (wholeP b (endA b) : Nat)]) (by simp [results, Try.results41, go_sem, k60, k61, k62, k63, k64]) rfl ?_
    all_goals exact ⟨rfl, (Below.setCell (Below.setCell (Below.setCell (Below.setCell (Below.setCell (below_drewN HB3.out m4) (Nat.le_refl _) _) (Nat.le_refl _) _) (Nat.le_refl _) _) (Nat.le_refl _) _) (Nat.le_refl _) _)⟩
  | true =>
    go_enter Try.func41, Try.ntmps41
    go_wp2_with fail
    try rw [HWA.out]
    try rw [HWB.out]
    refine HQ.out.mono ?_
    rintro e w1 ⟨rfl, h1, hw1⟩
    have H1 := hid h1
    have hkr1 := (hw1.block w.heap.size (by have := HS.out; omega) (fun e => by have e : w.heap.size = w.heap.size + 1 := e; omega)).trans HKR.out
    have hb1 : Below w.heap.size w w1 := HBB.out.trans (hw1.below _ HBB.out.size (fun k e => by have e : k = w.heap.size + 1 := e; omega))
    have HKR1 := hid hkr1
    have HB1 := hid hb1
    have hs1 : w.heap.size + 2 ≤ w1.heap.size := by have := HS.out; have := hw1.size; omega
    have HS1 := hid hs1
    rw [show av (awO b) = .agg #[.int .i64 (nO b 0), .int .u8 (wantO b : Nat), .int .i64 (nO b 1), .int .i64 (nO b 2), .int .i64 (nO b 3)] from rfl]
    obtain ⟨w2, hw2⟩ : ∃ w2, w1.alloc (.cells #[.int .i64 (nO b 0), .int .u8 (wantO b : Nat), .int .i64 (nO b 1), .int .i64 (nO b 2), .int .i64 (nO b 3)] 54) = w2 := ⟨_, rfl⟩
    have hb2 : Below w1.heap.size w1 w2 := by rw [← hw2]; exact (Below.refl _ _).alloc (Nat.le_refl _) _
    have hk2 : w2.heap[w1.heap.size]? = some (.cells #[.int .i64 (nO b 0), .int .u8 (wantO b : Nat), .int .i64 (nO b 1), .int .i64 (nO b 2), .int .i64 (nO b 3)] 54 (0, 0)) := by rw [← hw2]; exact heap_alloc_new _ _
    have c0 : w2.cell? ⟨w1.heap.size, 0, none⟩ = some (.int .i64 (nO b 0)) := by simp [World.cell?, hk2]
    have c1 : w2.cell? ⟨w1.heap.size, 1, none⟩ = some (.int .u8 (wantO b : Nat)) := by simp [World.cell?, hk2]
    have c2 : w2.cell? ⟨w1.heap.size, 2, none⟩ = some (.int .i64 (nO b 1)) := by simp [World.cell?, hk2]
    have c3 : w2.cell? ⟨w1.heap.size, 3, none⟩ = some (.int .i64 (nO b 2)) := by simp [World.cell?, hk2]
    have c4 : w2.cell? ⟨w1.heap.size, 4, none⟩ = some (.int .i64 (nO b 3)) := by simp [World.cell?, hk2]
    have HK2 := hid hk2
    have HB2 := hid hb2
    have HW2 := hid hw2
    clear h1 hw1 hkr1 hb1 hs1 hw2 hb2 hk2 HQ HKR HBB HB
    go_wp2_with fail
    try rw [HW2.out]
    refine (HR.out _).mono ?_
    rintro e w3 ⟨rfl, hb3⟩
    have hk3 := (hb3.block w1.heap.size (Array.getElem?_eq_some_iff.1 HK2.out).1).trans HK2.out
    have hkr3 := (hb3.block w.heap.size (by have := HS1.out; have := HB2.out.size; omega)).trans ((HB2.out.block w.heap.size (by have := HS1.out; omega)).trans HKR1.out)
    have HB3 := hid (HB1.out.trans ((HB2.out.trans (hb3.mono HB2.out.size)).mono HB1.out.size))
    have HWH := hid (whole_any (rightA (awO b)) ((H1.out.below HB2.out).below hb3))
    have HSZ3 : Hid (w.heap.size + 2 ≤ w3.heap.size) := hid (by have := HS1.out; have := HB2.out.size; have := hb3.size; omega)
    rw [hok] at HWH
    have q0 : w3.cell? ⟨w1.heap.size, 0, none⟩ = some (.int .i64 (nO b 0)) := by simp [World.cell?, hk3]
    have r0 : w3.cell? ⟨w.heap.size, 0, none⟩ = some (.int .i64 0) := by simp [World.cell?, hkr3]
    have f0 : w3.frozen? ⟨w.heap.size, 0, none⟩ = false := by simp [World.frozen?, hkr3]
    have q1 : w3.cell? ⟨w1.heap.size, 1, none⟩ = some (.int .u8 (wantO b : Nat)) := by simp [World.cell?, hk3]
    have r1 : w3.cell? ⟨w.heap.size, 1, none⟩ = some (.int .u8 0) := by simp [World.cell?, hkr3]
    have f1 : w3.frozen? ⟨w.heap.size, 1, none⟩ = false := by simp [World.frozen?, hkr3]
    have q2 : w3.cell? ⟨w1.heap.size, 2, none⟩ = some (.int .i64 (nO b 1)) := by simp [World.cell?, hk3]
    have r2 : w3.cell? ⟨w.heap.size, 2, none⟩ = some (.int .i64 0) := by simp [World.cell?, hkr3]
    have f2 : w3.frozen? ⟨w.heap.size, 2, none⟩ = false := by simp [World.frozen?, hkr3]
    have q3 : w3.cell? ⟨w1.heap.size, 3, none⟩ = some (.int .i64 (nO b 2)) := by simp [World.cell?, hk3]
    have r3 : w3.cell? ⟨w.heap.size, 3, none⟩ = some (.int .i64 0) := by simp [World.cell?, hkr3]
    have f3 : w3.frozen? ⟨w.heap.size, 3, none⟩ = false := by simp [World.frozen?, hkr3]
    have q4 : w3.cell? ⟨w1.heap.size, 4, none⟩ = some (.int .i64 (nO b 3)) := by simp [World.cell?, hk3]
    have r4 : w3.cell? ⟨w.heap.size, 4, none⟩ = some (.int .i64 0) := by simp [World.cell?, hkr3]
    have f4 : w3.frozen? ⟨w.heap.size, 4, none⟩ = false := by simp [World.frozen?, hkr3]
    clear hk3 hkr3 hb3 c0 c1 c2 c3 c4
    go_wp2_with fail
    refine HWH.out.mono ?_
    rintro e w4 ⟨rfl, m4, rfl⟩
    have Q0 : (w3.drewN m4).cell? ⟨w1.heap.size, 0, none⟩ = some (.int .i64 (nO b 0)) := q0
    have R0 : (w3.drewN m4).cell? ⟨w.heap.size, 0, none⟩ = some (.int .i64 0) := r0
    have F0 : (w3.drewN m4).frozen? ⟨w.heap.size, 0, none⟩ = false := f0
    have Q1 : (w3.drewN m4).cell? ⟨w1.heap.size, 1, none⟩ = some (.int .u8 (wantO b : Nat)) := q1
    have R1 : (w3.drewN m4).cell? ⟨w.heap.size, 1, none⟩ = some (.int .u8 0) := r1
    have F1 : (w3.drewN m4).frozen? ⟨w.heap.size, 1, none⟩ = false := f1
    have Q2 : (w3.drewN m4).cell? ⟨w1.heap.size, 2, none⟩ = some (.int .i64 (nO b 1)) := q2
    have R2 : (w3.drewN m4).cell? ⟨w.heap.size, 2, none⟩ = some (.int .i64 0) := r2
    have F2 : (w3.drewN m4).frozen? ⟨w.heap.size, 2, none⟩ = false := f2
    have Q3 : (w3.drewN m4).cell? ⟨w1.heap.size, 3, none⟩ = some (.int .i64 (nO b 2)) := q3
    have R3 : (w3.drewN m4).cell? ⟨w.heap.size, 3, none⟩ = some (.int .i64 0) := r3
    have F3 : (w3.drewN m4).frozen? ⟨w.heap.size, 3, none⟩ = false := f3
    have Q4 : (w3.drewN m4).cell? ⟨w1.heap.size, 4, none⟩ = some (.int .i64 (nO b 3)) := q4
    have R4 : (w3.drewN m4).cell? ⟨w.heap.size, 4, none⟩ = some (.int .i64 0) := r4
    have F4 : (w3.drewN m4).frozen? ⟨w.heap.size, 4, none⟩ = false := f4
    clear q0 r0 f0 q1 r1 f1 q2 r2 f2 q3 r3 f3 q4 r4 f4
    go_wp2_with fail
    all_goals have KK := set5 (y0 := .int .i64 (nO b 0)) (y1 := .int .u8 (wantO b : Nat)) (y2 := .int .i64 (nO b 1)) (y3 := .int .i64 (nO b 2)) (y4 := .int .i64 (nO b 3)) R0 R1 R2 R3 R4
    all_goals obtain ⟨k60, k61, k62, k63, k64⟩ := KK
    all_goals refine bodyPost_ret (v := .tuple #[.agg #[.int .i64 (nO b 0), .int .u8 (wantO b : Nat), .int .i64 (nO b 1), .int .i64 (nO b 2), .int .i64 (nO b 3)], .int .i64 0, .int .i64 0]) (by simp [results, Try.results41, go_sem, k60, k61, k62, k63, k64]) rfl ?_
    all_goals exact ⟨rfl, (Below.setCell (Below.setCell (Below.setCell (Below.setCell (Below.setCell (below_drewN HB3.out m4) (Nat.le_refl _) _) (Nat.le_refl _) _) (Nat.le_refl _) _) (Nat.le_refl _) _) (Nat.le_refl _) _)⟩

end Go.Proofs.Ythmcfnbnafdkeaa.PrtI

/- The document's Split. -/
namespace Go.Proofs.Ythmcfnbnafdkeaa.FrmDa
open Go.ChangeShapes Go.WideShapes Go.ChangeAt Go.RowKit Base Wri FrmP FrmA FrmD FrmE FrmF FrmG FrmQ FrmR FrmX FrmY FrmM
set_option linter.unusedVariables false
set_option linter.unusedSimpArgs false

set_option maxRecDepth 20000 in
set_option maxHeartbeats 1000000 in
theorem could_any (a : Option Addr) (cap : Nat) (s : Bs) (w : World) (hn : s.length ≤ 4) (HB : Hid (BAt w w.heap.size a s)) :
    Calls Try.prog 74 #[.slice a s.length cap] w fun e w' => e = .returned (.bool (may s)) ∧ ∃ m, w.drewN m = w' := by
  have HM : Hid ((if s.length < 4 then decide (num4 s ≤ 4096) else (decide (1 ≤ num4 s) && decide (num4 s ≤ 4096))) = may s) := hid rfl
  have HS4 := hid (sofar_num4 s)
  obtain ⟨L, hL⟩ : ∃ L, s.length = L := ⟨_, rfl⟩
  have HL := hid hL
  rw [hL] at hn HM ⊢
  clear hL
  go_enter Try.func74, Try.ntmps74
  go_wp2_with fail
  go_loopw [3, 4] (fun u i wr => ∃ k m : Nat, k ≤ 4 ∧ u = .int .i64 (sofar 0 s k : Nat) ∧ i = .int .i64 k ∧ w.drewN m = wr) (fun _ i _ => 4 - (intOf i).toNat)
  case atStart => exact ⟨0, 0, Nat.zero_le _, rfl, rfl, rfl⟩
  case round =>
    obtain ⟨k, m, hk, rfl, rfl, hwr⟩ := hrel
    have HW := hid hwr
    by_cases h4 : k < 4
    · have hs0 := sofar_small 0 s h4
      by_cases hlt : k < L
      · obtain ⟨g, o, rfl, hg, hc⟩ := HB.out (by rw [HL.out]; omega)
        obtain ⟨x, hx⟩ : ∃ x, s[k]? = some x := ⟨s[k]'(by rw [HL.out]; exact hlt), List.getElem?_eq_getElem _⟩
        have h1 : wr.cell? ⟨g, o + k, none⟩ = some (.int .u8 (x.toNat : Int)) := by rw [← HW.out]; exact hc k x hx
        have HN0 : Hid (sofar 0 s (k + 1) = sofar 0 s k * 256 + x.toNat) := hid (by simp [sofar, List.getD, hx])
        have hxl := UInt8.toNat_lt x
        clear hc hwr hx
        generalize sofar 0 s k = u at *
        generalize x.toNat = y at *
        go_wp2_with fail
        refine ⟨⟨k + 1, m, by omega, ?_, by go_num, HW.out⟩, by simp [intOf]; omega⟩
        rw [HN0.out]
        congr 1
      · have hx : s[k]? = none := List.getElem?_eq_none (by rw [HL.out]; omega)
        have HN0 : Hid (sofar 0 s (k + 1) = sofar 0 s k * 256) := hid (by simp [sofar, List.getD, hx])
        clear hwr hx
        generalize sofar 0 s k = u at *
        go_wp2_with fail
        refine ⟨⟨k + 1, m, by omega, ?_, by go_num, HW.out⟩, by simp [intOf]; omega⟩
        rw [HN0.out]
        congr 1
    · obtain rfl : k = 4 := by omega
      rw [HS4.out]
      clear hwr
      by_cases h5 : L < 4
      · by_cases h6 : num4 s ≤ 4096
        · have HR : Hid (may s = true) := hid (by rw [← HM.out, if_pos h5]; simpa using h6)
          go_wp2_with fail
          go_ret
          exact ⟨by rw [HR.out]; first | rfl | (simp; done) | (simp; omega), m, HW.out⟩
        · have HR : Hid (may s = false) := hid (by rw [← HM.out, if_pos h5]; simpa using h6)
          go_wp2_with fail
          go_ret
          exact ⟨by rw [HR.out]; first | rfl | (simp; done) | (simp; omega), m, HW.out⟩
      · by_cases h7 : 1 ≤ num4 s
        · by_cases h6 : num4 s ≤ 4096
          · have HR : Hid (may s = true) := hid (by rw [← HM.out, if_neg h5]; simp [h6, h7])
            go_wp2_with fail
            go_ret
            exact ⟨by rw [HR.out]; first | rfl | (simp; done) | (simp; omega), m, HW.out⟩
          · have HR : Hid (may s = false) := hid (by rw [← HM.out, if_neg h5]; simp [h6])
            go_wp2_with fail
            go_ret
            exact ⟨by rw [HR.out]; first | rfl | (simp; done) | (simp; omega), m, HW.out⟩
        · have HR : Hid (may s = false) := hid (by rw [← HM.out, if_neg h5]; simp [h7])
          go_wp2_with fail
          go_ret
          exact ⟨by rw [HR.out]; first | rfl | (simp; done) | (simp; omega), m, HW.out⟩

end Go.Proofs.Ythmcfnbnafdkeaa.FrmDa

/- What is read, said by places; the document's number. -/
namespace Go.Proofs.Ythmcfnbnafdkeaa.PrtJ
open Go.ChangeShapes Go.WideShapes Go.ChangeAt Go.RowKit Base Wri Vrw FrmP FrmA FrmD FrmE FrmF FrmR FrmX FrmL FrmC2 FrmK FrmK2 RulA PrtA PrtB PrtC PrtR PrtN PrtD PrtE PrtF PrtG PrtH PrtI
set_option linter.unusedVariables false
set_option linter.unusedSimpArgs false

variable {W W' w : World} {p c : Nat} {a : Option Addr} {b : Bs} {st : Rs}

theorem st_fine {n : Nat} (h : (st' b st n).short = false) : st.short = false ∧ st.place + n ≤ b.length ∧ st' b st n = ⟨st.place + n, false⟩ ∧ nx b st n = (b.drop st.place).take n := by
  unfold st' at h ⊢
  split at h
  · cases h
  · rename_i hl
    rw [if_neg hl]
    unfold nx
    rw [if_neg hl]
    unfold lacks at hl
    simp only [Bool.or_eq_true, decide_eq_true_eq, not_or, Bool.not_eq_true] at hl
    exact ⟨hl.1, by omega, rfl, rfl⟩
theorem st_there {n : Nat} (h0 : st.short = false) (h : st.place + n ≤ b.length) : st' b st n = ⟨st.place + n, false⟩ ∧ nx b st n = (b.drop st.place).take n := by
  have hl : ¬ lacks b st n = true := by
    unfold lacks
    simp only [Bool.or_eq_true, decide_eq_true_eq, not_or, Bool.not_eq_true]
    exact ⟨h0, by omega⟩
  unfold st' nx
  rw [if_neg hl, if_neg hl]
  exact ⟨rfl, rfl⟩

def lenT (b : Bs) : Nat := (b.getD 33 0).toNat

theorem one_at {b : Bs} {k : Nat} (h : k < b.length) : ((b.drop k).take 1).getD 0 0 = b.getD k 0 := by
  rw [List.getD_eq_getElem?_getD, List.getD_eq_getElem?_getD, List.getElem?_take, List.getElem?_drop]
  simp

/-- all is there -/
theorem there {b : Bs} (h : 33 ≤ b.length) : endA b = ⟨33, false⟩ ∧ wantO b = (b.getD 0 0).toNat ∧ ∀ k, k < 4 → nO b k = num ((b.drop (1 + 8 * k)).take 8) := by
  have e1 := st_there (b := b) (st := zero) (n := 1) rfl (by show 0 + 1 ≤ _; omega)
  have hz : zero.place = 0 := rfl
  rw [hz, Nat.zero_add] at e1
  have hN : ∀ k, k ≤ 4 → stN b (st1 b) k = ⟨1 + 8 * k, false⟩ := by
    intro k
    induction k with
    | zero => intro _; exact e1.1
    | succ k ih =>
      intro hk
      show st' b (stN b (st1 b) k) 8 = _
      rw [ih (by omega)]
      have := (st_there (b := b) (st := ⟨1 + 8 * k, false⟩) (n := 8) rfl (by dsimp only; omega)).1
      rw [this]
      exact congrArg (fun n => Rs.mk n false) (by dsimp only; omega)
  refine ⟨hN 4 (Nat.le_refl _), ?_, fun k hk => ?_⟩
  · unfold wantO
    rw [e1.2, one_at (by omega)]
  · unfold nO numO
    rw [hN k (by omega), (st_there (b := b) (st := ⟨1 + 8 * k, false⟩) (n := 8) rfl (by dsimp only; omega)).2]
theorem endA_short {b : Bs} (h : b.length < 33) : (endA b).short = true := by
  cases hs : (endA b).short with
  | true => rfl
  | false =>
    exfalso
    have h4 := st_fine (b := b) (st := stN b (st1 b) 3) (n := 8) hs
    have h3 := st_fine (b := b) (st := stN b (st1 b) 2) (n := 8) h4.1
    have h2 := st_fine (b := b) (st := stN b (st1 b) 1) (n := 8) h3.1
    have h1 := st_fine (b := b) (st := stN b (st1 b) 0) (n := 8) h2.1
    have h0 := st_fine (b := b) (st := zero) (n := 1) h1.1
    have p4 := h4.2.1
    have e3 : stN b (st1 b) 3 = ⟨(stN b (st1 b) 2).place + 8, false⟩ := h3.2.2.1
    have e2 : stN b (st1 b) 2 = ⟨(stN b (st1 b) 1).place + 8, false⟩ := h2.2.2.1
    have e1 : stN b (st1 b) 1 = ⟨(stN b (st1 b) 0).place + 8, false⟩ := h1.2.2.1
    have e0 : stN b (st1 b) 0 = ⟨0 + 1, false⟩ := h0.2.2.1
    rw [e0] at e1
    rw [e1] at e2
    rw [e2] at e3
    rw [e3] at p4
    dsimp only at p4
    omega
theorem endR_there {b : Bs} (h : 34 + lenT b ≤ b.length) : endR b = ⟨34 + lenT b, false⟩ ∧ txR b = ⟨((b.drop 34).take (lenT b)).toArray⟩ := by
  obtain ⟨e4, _, _⟩ := there (b := b) (by omega)
  have e4 : stN b (st1 b) 4 = ⟨33, false⟩ := e4
  have h1 := st_there (b := b) (st := ⟨33, false⟩) (n := 1) rfl (by dsimp only; omega)
  have hx : ((nx b ⟨33, false⟩ 1).getD 0 0).toNat = lenT b := by
    rw [h1.2, one_at (by dsimp only; omega)]
    rfl
  have h2 := st_there (b := b) (st := ⟨34, false⟩) (n := lenT b) rfl (by dsimp only; omega)
  have h1' : st' b ⟨33, false⟩ 1 = ⟨34, false⟩ := h1.1
  unfold endR txR txS txO
  rw [e4, hx, h1', h2.1, h2.2]
  exact ⟨rfl, rfl⟩
theorem endR_short {b : Bs} (h : b.length < 34 ∨ b.length < 34 + lenT b) : (endR b).short = true := by
  cases hs : (endR b).short with
  | true => rfl
  | false =>
    exfalso
    have h2 := st_fine hs
    have h1 := st_fine h2.1
    by_cases h33 : b.length < 33
    · have := endA_short h33
      have h3 : (stN b (st1 b) 4).short = true := this
      rw [h1.1] at h3
      cases h3
    · have e4 : stN b (st1 b) 4 = ⟨33, false⟩ := (there (b := b) (by omega)).1
      have p1 := h1.2.1
      have p2 := h2.2.1
      rw [h1.2.2.1, h1.2.2.2, e4] at p2
      rw [e4] at p1
      dsimp only at p1 p2
      rw [one_at (by omega)] at p2
      have : lenT b = (b.getD 33 0).toNat := rfl
      omega

set_option maxRecDepth 20000 in
set_option maxHeartbeats 2000000 in
theorem number_any (a : Option Addr) (c : Nat) (s : Bs) (w : World) (h8 : 8 ≤ s.length) (hL : s.length ≤ 9223372036854775807) (HB : Hid (BAt w w.heap.size a s)) :
    Calls Try.prog 68 #[.slice a s.length c] w fun e w' => e = .returned (.int .i64 (num (s.take 8))) ∧ w' = w := by
  obtain ⟨L, hl⟩ : ∃ L, s.length = L := ⟨_, rfl⟩
  have HL := hid hl
  rw [hl] at h8 hL ⊢
  clear hl
  obtain ⟨g, o, rfl, hg, hc⟩ := HB.out (by rw [HL.out]; omega)
  have HC := hid hc
  obtain ⟨t, ht⟩ : ∃ t, s.take 8 = t := ⟨_, rfl⟩
  have htl : t.length = 8 := by rw [← ht, List.length_take, HL.out]; omega
  have HT : Hid (∀ k, k < 8 → ∃ x, t[k]? = some x ∧ s[k]? = some x) := hid (fun k hk => by
    obtain ⟨x, hx⟩ : ∃ x, s[k]? = some x := ⟨s[k]'(by rw [HL.out]; omega), List.getElem?_eq_getElem _⟩
    exact ⟨x, by rw [← ht, List.getElem?_take, if_pos hk, hx], hx⟩)
  have HNT : Hid (num t = wrap64 (sofar 0 t 8 : Nat)) := hid (by unfold num; rw [htl])
  rw [ht, HNT.out]
  clear hc ht htl HNT
  go_enter Try.func68, Try.ntmps68
  go_wp2_with fail
  go_loopw [3, 4] (fun u i wr => ∃ k : Nat, k ≤ 8 ∧ u = .int .i64 (wrap64 (sofar 0 t k : Nat)) ∧ i = .int .i64 k ∧ wr = w) (fun _ i _ => 8 - (intOf i).toNat)
  case atStart => exact ⟨0, Nat.zero_le _, by simp [sofar, wrap64], rfl, rfl⟩
  case round =>
    obtain ⟨k, hk, rfl, rfl, rfl⟩ := hrel
    by_cases hlt : k < 8
    · obtain ⟨x, hx, hxs⟩ := HT.out k hlt
      have z0 := HC.out k x hxs
      unfold bv at z0
      have hsm := sofar_small7 t hlt
      have HN0 : Hid (sofar 0 t (k + 1) = sofar 0 t k * 256 + x.toNat) := hid (by simp [sofar, List.getD, hx])
      have HXL := hid (UInt8.toNat_lt x)
      clear hx hxs
      rw [show wrap64 ((sofar 0 t k : Nat) : Int) = ((sofar 0 t k : Nat) : Int) by unfold wrap64; omega]
      obtain ⟨u, hu⟩ : ∃ u, sofar 0 t k = u := ⟨_, rfl⟩
      rw [hu] at HN0 hsm ⊢
      have HSM := hid hsm
      clear hu
      go_wp2_with fail
      go_roundw
      case rel => exact ⟨k + 1, by omega, by rw [HN0.out]; exact congrArg (Value.int .i64) (join64 u x.toNat HSM.out HXL.out), by go_num, by first | trivial | rfl⟩
      case measure => simp [intOf]; omega
    · obtain rfl : k = 8 := by omega
      go_wp2_with fail
      go_ret
      exact ⟨rfl, by first | trivial | rfl⟩

end Go.Proofs.Ythmcfnbnafdkeaa.PrtJ

/- Requests and answers there and back: pure. -/
namespace Go.Proofs.Ythmcfnbnafdkeaa.PrtP
open Go.ChangeShapes Go.WideShapes Go.ChangeAt Go.RowKit Base FrmP FrmA RulA PrtA PrtB PrtC PrtD PrtF PrtG PrtH PrtI PrtJ
set_option linter.unusedVariables false
set_option linter.unusedSimpArgs false

theorem wrap_small {n : Nat} (h : n < 9223372036854775808) : wrap64 ((n : Nat) : Int) = (n : Int) := by unfold wrap64; omega

theorem sofar_enc (n : Nat) (h : n < 9223372036854775808) : sofar 0 (enc n) 8 = n := by
  simp [sofar, enc, List.getD]
  omega
theorem num_enc (n : Nat) (h : n < 9223372036854775808) : num (enc n) = (n : Int) := by
  unfold num
  rw [enc_len, sofar_enc n h, wrap_small h]

/-- eight bytes that say a number that is not below nought -/
theorem enc_num {s : Bs} (hl : s.length = 8) (h0 : 0 ≤ num s) : enc (num s).toNat = s := by
  match s, hl with
  | [a, b, c, d, e, f, g, h], _ =>
    have ha := UInt8.toNat_lt a
    have hb := UInt8.toNat_lt b
    have hc := UInt8.toNat_lt c
    have hd := UInt8.toNat_lt d
    have he := UInt8.toNat_lt e
    have hf := UInt8.toNat_lt f
    have hg := UInt8.toNat_lt g
    have hh := UInt8.toNat_lt h
    have hS : sofar 0 [a, b, c, d, e, f, g, h] 8 = ((((((a.toNat * 256 + b.toNat) * 256 + c.toNat) * 256 + d.toNat) * 256 + e.toNat) * 256 + f.toNat) * 256 + g.toNat) * 256 + h.toNat := by simp [sofar, List.getD]
    unfold num at h0 ⊢
    rw [show ([a, b, c, d, e, f, g, h] : Bs).length = 8 from rfl, hS] at h0 ⊢
    obtain ⟨S, hSS⟩ : ∃ S, ((((((a.toNat * 256 + b.toNat) * 256 + c.toNat) * 256 + d.toNat) * 256 + e.toNat) * 256 + f.toNat) * 256 + g.toNat) * 256 + h.toNat = S := ⟨_, rfl⟩
    rw [hSS] at h0 ⊢
    have hlt : S < 9223372036854775808 := by
      unfold wrap64 at h0
      omega
    rw [wrap_small hlt, Int.toNat_natCast]
    unfold enc
    have key : ∀ (m : Nat) (x : UInt8), m % 256 = x.toNat → UInt8.ofNat m = x := fun m x hx => by
      apply UInt8.toNat.inj
      rw [UInt8.toNat_ofNat']
      exact hx
    rw [key (S / 72057594037927936) a (by omega), key (S / 281474976710656) b (by omega), key (S / 1099511627776) c (by omega), key (S / 4294967296) d (by omega), key (S / 16777216) e (by omega), key (S / 65536) f (by omega), key (S / 256) g (by omega), key S h (by omega)]

theorem bytesR_len (id flow count token want : Nat) (t : ByteArray) : (bytesR id flow count token want t).length = 34 + t.size := by
  unfold bytesR
  simp only [List.length_append, List.length_singleton, encs_len, List.length_cons, List.length_nil]
  have : t.data.toList.length = t.size := rfl
  omega
theorem bytesA_len (id left wait token status : Nat) : (bytesA id left wait token status).length = 33 := by
  unfold bytesA
  simp only [List.length_append, List.length_singleton, encs_len, List.length_cons, List.length_nil]

/-- a request that is right comes back -/
theorem read_back {r : Rq} (h : rightQ r = true) : toldRequest (encR r) = .tuple #[rv r, .int .i64 0, .int .i64 0] := by
  obtain ⟨id, flow, count, token, want, he, h1, h2, h3, h4, h5, h6, h7⟩ := right_nums h
  obtain ⟨t, ht⟩ : ∃ t, r.text = t := ⟨_, rfl⟩
  rw [ht] at he h7
  subst he
  have hE : encR ⟨id, want, flow, count, t, token⟩ = bytesR id flow count token want t := by simp [encR]
  rw [hE]
  obtain ⟨b, hb⟩ : ∃ b, bytesR id flow count token want t = b := ⟨_, rfl⟩
  have hl : b.length = 34 + t.size := by rw [← hb]; exact bytesR_len _ _ _ _ _ _
  have hlt : lenT b = t.size := by
    rw [← hb]
    unfold lenT bytesR
    simp [encs, enc, List.getD]
    omega
  rw [hb]
  obtain ⟨e1, e4⟩ := endR_there (b := b) (by omega)
  obtain ⟨_, e2, e3⟩ := there (b := b) (by omega)
  have hw : wantO b = want := by
    rw [e2, ← hb]
    unfold bytesR
    simp [List.getD]
    omega
  have n0 : nO b 0 = id := by
    rw [e3 0 (by omega), ← hb, ← num_enc id (by omega)]
    congr 1
  have n1 : nO b 1 = flow := by
    rw [e3 1 (by omega), ← hb, ← num_enc flow (by omega)]
    congr 1
  have n2 : nO b 2 = count := by
    rw [e3 2 (by omega), ← hb, ← num_enc count (by omega)]
    congr 1
  have n3 : nO b 3 = token := by
    rw [e3 3 (by omega), ← hb, ← num_enc token (by omega)]
    congr 1
  have ht2 : txR b = t := by
    rw [e4, hlt]
    have : (b.drop 34).take t.size = t.data.toList := by
      rw [← hb]
      exact List.take_of_length_le (Nat.le_refl _)
    rw [this]
  have hq : rqO b = ⟨id, want, flow, count, t, token⟩ := by
    unfold rqO
    rw [n0, n1, n2, n3, hw, ht2]
  unfold toldRequest wholeB
  rw [hq, h, e1]
  simp [hl, hlt]

theorem answer_back {a : Aw} (h : rightA a = true) : toldAnswer (encA a) = .tuple #[av a, .int .i64 0, .int .i64 0] := by
  obtain ⟨id, left, wait, token, status, he, h1, h2, h3, h4, h5, h6⟩ := rightA_nums h
  subst he
  have hE : encA ⟨id, status, left, wait, token⟩ = bytesA id left wait token status := by simp [encA]
  rw [hE]
  obtain ⟨b, hb⟩ : ∃ b, bytesA id left wait token status = b := ⟨_, rfl⟩
  have hl : b.length = 33 := by rw [← hb]; exact bytesA_len _ _ _ _ _
  rw [hb]
  obtain ⟨e1, e2, e3⟩ := there (b := b) (by omega)
  have hw : wantO b = status := by
    rw [e2, ← hb]
    unfold bytesA
    simp [List.getD]
    omega
  have n0 : nO b 0 = id := by
    rw [e3 0 (by omega), ← hb, ← num_enc id (by omega)]
    congr 1
  have n1 : nO b 1 = left := by
    rw [e3 1 (by omega), ← hb, ← num_enc left (by omega)]
    congr 1
  have n2 : nO b 2 = wait := by
    rw [e3 2 (by omega), ← hb, ← num_enc wait (by omega)]
    congr 1
  have n3 : nO b 3 = token := by
    rw [e3 3 (by omega), ← hb, ← num_enc token (by omega)]
    congr 1
  have hq : awO b = ⟨id, status, left, wait, token⟩ := by
    unfold awO
    rw [n0, n1, n2, n3, hw]
  unfold toldAnswer wholeB
  rw [hq, h, e1]
  simp [hl]

end Go.Proofs.Ythmcfnbnafdkeaa.PrtP

/- Requests there and back again: pure. -/
namespace Go.Proofs.Ythmcfnbnafdkeaa.PrtS
open Go.ChangeShapes Go.WideShapes Go.ChangeAt Go.RowKit Base FrmP FrmA RulA PrtA PrtB PrtC PrtD PrtE PrtF PrtG PrtH PrtI PrtJ PrtP
set_option linter.unusedVariables false
set_option linter.unusedSimpArgs false

theorem cut34 {b : Bs} (h : 34 ≤ b.length) : b.take 1 ++ ((b.drop 1).take 8 ++ ((b.drop 9).take 8 ++ ((b.drop 17).take 8 ++ ((b.drop 25).take 8 ++ ((b.drop 33).take 1 ++ b.drop 34))))) = b := by
  have s0 := List.take_append_drop 1 b
  have s1 : (b.drop 1).take 8 ++ b.drop 9 = b.drop 1 := by
    have := List.take_append_drop 8 (b.drop 1)
    rwa [List.drop_drop] at this
  have s2 : (b.drop 9).take 8 ++ b.drop 17 = b.drop 9 := by
    have := List.take_append_drop 8 (b.drop 9)
    rwa [List.drop_drop] at this
  have s3 : (b.drop 17).take 8 ++ b.drop 25 = b.drop 17 := by
    have := List.take_append_drop 8 (b.drop 17)
    rwa [List.drop_drop] at this
  have s4 : (b.drop 25).take 8 ++ b.drop 33 = b.drop 25 := by
    have := List.take_append_drop 8 (b.drop 25)
    rwa [List.drop_drop] at this
  have s5 : (b.drop 33).take 1 ++ b.drop 34 = b.drop 33 := by
    have := List.take_append_drop 1 (b.drop 33)
    rwa [List.drop_drop] at this
  rw [s5, s4, s3, s2, s1, s0]

theorem one0 {b : Bs} (h : 34 ≤ b.length) : [b.getD 0 0] = b.take 1 := by
  match b, h with
  | x :: r, _ => rfl
theorem one33 {b : Bs} (h : 34 ≤ b.length) : [b.getD 33 0] = (b.drop 33).take 1 := by
  have h33 : b[33]? = some (b.getD 33 0) := by
    rw [List.getD_eq_getElem?_getD, List.getElem?_eq_getElem (show 33 < b.length by omega)]
    rfl
  rw [List.take_one, List.head?_drop, h33]
  rfl

theorem wb_core {b : Bs} {n0 n1 n2 n3 : Int} {wt lt : Nat} {tx : Bs} (hl : 34 ≤ b.length) (hw : wt = (b.getD 0 0).toNat) (hlt : lt = (b.getD 33 0).toNat)
    (f0 : n0 = num ((b.drop 1).take 8)) (f1 : n1 = num ((b.drop 9).take 8)) (f2 : n2 = num ((b.drop 17).take 8)) (f3 : n3 = num ((b.drop 25).take 8)) (k0 : 0 ≤ n0) (k1 : 0 ≤ n1) (k2 : 0 ≤ n2) (k3 : 0 ≤ n3) (htx : tx = b.drop 34) :
    [UInt8.ofNat wt] ++ encs [n0.toNat, n1.toNat, n2.toNat, n3.toNat] ++ [UInt8.ofNat lt] ++ tx = b := by
  have l8 : ∀ k, k + 8 ≤ b.length → ((b.drop k).take 8).length = 8 := fun k hk => by
    rw [List.length_take, List.length_drop]
    omega
  have c0 : enc n0.toNat = (b.drop 1).take 8 := by rw [f0]; exact enc_num (l8 1 (by omega)) (f0 ▸ k0)
  have c1 : enc n1.toNat = (b.drop 9).take 8 := by rw [f1]; exact enc_num (l8 9 (by omega)) (f1 ▸ k1)
  have c2 : enc n2.toNat = (b.drop 17).take 8 := by rw [f2]; exact enc_num (l8 17 (by omega)) (f2 ▸ k2)
  have c3 : enc n3.toNat = (b.drop 25).take 8 := by rw [f3]; exact enc_num (l8 25 (by omega)) (f3 ▸ k3)
  have he : encs [n0.toNat, n1.toNat, n2.toNat, n3.toNat] = enc n0.toNat ++ (enc n1.toNat ++ (enc n2.toNat ++ enc n3.toNat)) := by
    unfold encs
    rw [List.flatMap_cons, List.flatMap_cons, List.flatMap_cons, List.flatMap_cons, List.flatMap_nil, List.append_nil]
  have u0 : UInt8.ofNat wt = b.getD 0 0 := by rw [hw]; exact UInt8.ofNat_toNat
  have u1 : UInt8.ofNat lt = b.getD 33 0 := by rw [hlt]; exact UInt8.ofNat_toNat
  rw [he, c0, c1, c2, c3, u0, u1, one0 hl, one33 hl, htx]
  rw [List.append_assoc, List.append_assoc, List.append_assoc, List.append_assoc, List.append_assoc]
  exact cut34 hl

theorem wb_nums {b : Bs} (h3 : rightQ (rqO b) = true) : 0 ≤ nO b 0 ∧ 0 ≤ nO b 1 ∧ 0 ≤ nO b 2 ∧ 0 ≤ nO b 3 := by
  obtain ⟨id, flow, count, token, want, he, -, -, -, -, -, -, -⟩ := right_nums h3
  have q0 : (rqO b).id = id := by rw [he]
  have q1 : (rqO b).flow = flow := by rw [he]
  have q2 : (rqO b).count = count := by rw [he]
  have q3 : (rqO b).token = token := by rw [he]
  have p0 : (rqO b).id = nO b 0 := rfl
  have p1 : (rqO b).flow = nO b 1 := rfl
  have p2 : (rqO b).count = nO b 2 := rfl
  have p3 : (rqO b).token = nO b 3 := rfl
  rw [← p0, ← p1, ← p2, ← p3, q0, q1, q2, q3]
  exact ⟨Int.natCast_nonneg _, Int.natCast_nonneg _, Int.natCast_nonneg _, Int.natCast_nonneg _⟩

theorem wb_len {b : Bs} {r : Bool} (h : wholeB b (endR b) r = true) : r = true ∧ b.length = 34 + lenT b := by
  unfold wholeB at h
  simp only [Bool.and_eq_true, Bool.not_eq_true', decide_eq_false_iff_not] at h
  obtain ⟨⟨h1, h2⟩, h3⟩ := h
  refine ⟨h3, ?_⟩
  have hL : 34 + lenT b ≤ b.length := by
    rcases Nat.lt_or_ge b.length (34 + lenT b) with h5 | h5
    · rw [endR_short (.inr h5)] at h1; cases h1
    · exact h5
  rw [(endR_there hL).1] at h2
  have h2 : ¬ (34 + lenT b < b.length) := h2
  omega

theorem encR_eq (b : Bs) : encR (rqO b) = [UInt8.ofNat (wantO b)] ++ encs [(nO b 0).toNat, (nO b 1).toNat, (nO b 2).toNat, (nO b 3).toNat] ++ [UInt8.ofNat (txR b).size] ++ (txR b).data.toList := rfl

/-- what was read is written as it was -/
theorem write_back {b : Bs} (h : wholeB b (endR b) (rightQ (rqO b)) = true) : rightQ (rqO b) = true ∧ encR (rqO b) = b := by
  obtain ⟨h3, hlen⟩ := wb_len h
  refine ⟨h3, ?_⟩
  have h34 : 34 ≤ b.length := by omega
  obtain ⟨e1, e4⟩ := endR_there (b := b) (Nat.le_of_eq hlen.symm)
  obtain ⟨_, e2, e3⟩ := there (b := b) (Nat.le_of_succ_le h34)
  obtain ⟨k0, k1, k2, k3⟩ := wb_nums h3
  have htk : (b.drop 34).take (lenT b) = b.drop 34 := List.take_of_length_le (by rw [List.length_drop]; omega)
  rw [htk] at e4
  have hsz : (txR b).size = lenT b := by
    rw [e4]
    have : (⟨(b.drop 34).toArray⟩ : ByteArray).size = (b.drop 34).length := rfl
    rw [this, List.length_drop]
    omega
  have htx : (txR b).data.toList = b.drop 34 := by rw [e4]
  rw [encR_eq, hsz, htx]
  exact wb_core h34 e2 rfl (e3 0 (by decide)) (e3 1 (by decide)) (e3 2 (by decide)) (e3 3 (by decide)) k0 k1 k2 k3 rfl

end Go.Proofs.Ythmcfnbnafdkeaa.PrtS

/- ReadRequest and ReadAnswer: the document's. -/
namespace Go.Proofs.Ythmcfnbnafdkeaa.PrtK
open Go.ChangeShapes Go.WideShapes Go.ChangeAt Go.RowKit Base Wri Vrw FrmP FrmA FrmD FrmE FrmF FrmR FrmX FrmL FrmC2 FrmK FrmK2 FrmV RulA PrtA PrtB PrtC PrtR PrtN PrtD PrtE PrtF PrtG PrtH PrtI PrtJ
set_option linter.unusedVariables false
set_option linter.unusedSimpArgs false

set_option maxRecDepth 20000 in
set_option maxHeartbeats 4000000 in
theorem rreadAnswer_any (a : Option Addr) (c : Nat) (b : Bs) (w : World) (HB : Hid (BAt w w.heap.size a b)) (hc : b.length ≤ c) (hc2 : c ≤ 9223372036854775807) (hb : b.length ≤ 9223372036854775000) :
    Calls Try.prog 42 #[.slice a b.length c] w fun e w' => e = .returned (toldAnswer b) ∧ Below w.heap.size w w' := by
  rcases Nat.lt_or_ge b.length 33 with h33 | h33
  · have HT : Hid (toldAnswer b = .tuple #[.agg #[.int .i64 0, .int .u8 0, .int .i64 0, .int .i64 0, .int .i64 0], .int .i64 6, .int .i64 (b.length : Nat)]) := hid (by
      have := endA_short h33
      unfold toldAnswer wholeB wholeP
      rw [this]
      rfl)
    rw [HT.out]
    clear HT
    obtain ⟨PL, hPL⟩ : ∃ PL, b.length = PL := ⟨_, rfl⟩
    rw [hPL] at h33 hc hb ⊢
    clear hPL
    go_enter Try.func42, Try.ntmps42
    go_wp2_with fail
    obtain ⟨wz, hwz⟩ : ∃ wz, w.alloc (.cells #[.int .i64 0, .int .u8 0, .int .i64 0, .int .i64 0, .int .i64 0] 54) = wz := ⟨_, rfl⟩
    have hkr : wz.heap[w.heap.size]? = some (.cells #[.int .i64 0, .int .u8 0, .int .i64 0, .int .i64 0, .int .i64 0] 54 (0, 0)) := by rw [← hwz]; exact heap_alloc_new _ _
    have hbz : Below w.heap.size w wz := by rw [← hwz]; exact (Below.refl _ _).alloc (Nat.le_refl _) _
    rw [hwz]
    have r0 : wz.cell? ⟨w.heap.size, 0, none⟩ = some (.int .i64 0) := by simp [World.cell?, hkr]
    have r1 : wz.cell? ⟨w.heap.size, 1, none⟩ = some (.int .u8 0) := by simp [World.cell?, hkr]
    have r2 : wz.cell? ⟨w.heap.size, 2, none⟩ = some (.int .i64 0) := by simp [World.cell?, hkr]
    have r3 : wz.cell? ⟨w.heap.size, 3, none⟩ = some (.int .i64 0) := by simp [World.cell?, hkr]
    have r4 : wz.cell? ⟨w.heap.size, 4, none⟩ = some (.int .i64 0) := by simp [World.cell?, hkr]
    refine bodyPost_ret (v := .tuple #[.agg #[.int .i64 0, .int .u8 0, .int .i64 0, .int .i64 0, .int .i64 0], .int .i64 6, .int .i64 (PL : Nat)]) (by simp [results, Try.results42, go_sem, r0, r1, r2, r3, r4]) rfl ?_
    exact ⟨rfl, hbz⟩
  · obtain ⟨e1, e2, e3⟩ := there h33
    by_cases hm : 33 < b.length
    · have HT : Hid (toldAnswer b = .tuple #[.agg #[.int .i64 0, .int .u8 0, .int .i64 0, .int .i64 0, .int .i64 0], .int .i64 6, .int .i64 (33 : Nat)]) := hid (by
        unfold toldAnswer wholeB wholeP
        rw [e1]
        simp [hm])
      rw [HT.out]
      clear HT e1 e2 e3
      generalize b.length = L at *
      go_enter Try.func42, Try.ntmps42
      go_wp2_with fail
      obtain ⟨wz, hwz⟩ : ∃ wz, w.alloc (.cells #[.int .i64 0, .int .u8 0, .int .i64 0, .int .i64 0, .int .i64 0] 54) = wz := ⟨_, rfl⟩
      have hkr : wz.heap[w.heap.size]? = some (.cells #[.int .i64 0, .int .u8 0, .int .i64 0, .int .i64 0, .int .i64 0] 54 (0, 0)) := by rw [← hwz]; exact heap_alloc_new _ _
      have hbz : Below w.heap.size w wz := by rw [← hwz]; exact (Below.refl _ _).alloc (Nat.le_refl _) _
      rw [hwz]
      have r0 : wz.cell? ⟨w.heap.size, 0, none⟩ = some (.int .i64 0) := by simp [World.cell?, hkr]
      have r1 : wz.cell? ⟨w.heap.size, 1, none⟩ = some (.int .u8 0) := by simp [World.cell?, hkr]
      have r2 : wz.cell? ⟨w.heap.size, 2, none⟩ = some (.int .i64 0) := by simp [World.cell?, hkr]
      have r3 : wz.cell? ⟨w.heap.size, 3, none⟩ = some (.int .i64 0) := by simp [World.cell?, hkr]
      have r4 : wz.cell? ⟨w.heap.size, 4, none⟩ = some (.int .i64 0) := by simp [World.cell?, hkr]
      refine bodyPost_ret (v := .tuple #[.agg #[.int .i64 0, .int .u8 0, .int .i64 0, .int .i64 0, .int .i64 0], .int .i64 6, .int .i64 33]) (by simp [results, Try.results42, go_sem, r0, r1, r2, r3, r4]) rfl ?_
      exact ⟨rfl, hbz⟩
    · have hL : b.length = 33 := by omega
      have HT : Hid (toldAnswer b = if rightA (awO b) then .tuple #[av (awO b), .int .i64 0, .int .i64 0] else .tuple #[.agg #[.int .i64 0, .int .u8 0, .int .i64 0, .int .i64 0, .int .i64 0], .int .i64 6, .int .i64 0]) := hid (by
        unfold toldAnswer wholeB wholeP
        rw [e1]
        simp [hL])
      rw [HT.out]
      clear HT
      obtain ⟨g, o, hag, hg, hcl⟩ := HB.out (by omega)
      have z0 : w.cell? ⟨g, o, none⟩ = some (.int .u8 (wantO b : Nat)) := by
        have := hcl 0 (b.getD 0 0) (by rw [List.getD_eq_getElem?_getD, List.getElem?_eq_getElem (show 0 < b.length by omega)]; rfl)
        rw [e2]
        exact this
      obtain ⟨a1, c1, s1, b1, -, -, -⟩ := slice_from a c 1 b (by omega) hc HB.out
      obtain ⟨a2, c2, s2, b2, -, -, -⟩ := slice_from a c 9 b (by omega) hc HB.out
      obtain ⟨a3, c3, s3, b3, -, -, -⟩ := slice_from a c 17 b (by omega) hc HB.out
      obtain ⟨a4, c4, s4, b4, -, -, -⟩ := slice_from a c 25 b (by omega) hc HB.out
      have l1 : (b.drop 1).length = b.length - 1 := List.length_drop
      have l2 : (b.drop 9).length = b.length - 9 := List.length_drop
      have l3 : (b.drop 17).length = b.length - 17 := List.length_drop
      have l4 : (b.drop 25).length = b.length - 25 := List.length_drop
      have H1 := hid (fun (wx : World) (hx : Below w.heap.size w wx) => number_any a1 c1 (b.drop 1) wx (by omega) (by omega) (hid ((b1.below hx).mono hx.size)))
      have H2 := hid (fun (wx : World) (hx : Below w.heap.size w wx) => number_any a2 c2 (b.drop 9) wx (by omega) (by omega) (hid ((b2.below hx).mono hx.size)))
      have H3 := hid (fun (wx : World) (hx : Below w.heap.size w wx) => number_any a3 c3 (b.drop 17) wx (by omega) (by omega) (hid ((b3.below hx).mono hx.size)))
      have H4 := hid (fun (wx : World) (hx : Below w.heap.size w wx) => number_any a4 c4 (b.drop 25) wx (by omega) (by omega) (hid ((b4.below hx).mono hx.size)))
      rw [show num ((b.drop 1).take 8) = nO b 0 from (e3 0 (by omega)).symm, l1] at H1
      rw [show num ((b.drop 9).take 8) = nO b 1 from (e3 1 (by omega)).symm, l2] at H2
      rw [show num ((b.drop 17).take 8) = nO b 2 from (e3 2 (by omega)).symm, l3] at H3
      rw [show num ((b.drop 25).take 8) = nO b 3 from (e3 3 (by omega)).symm, l4] at H4
      rw [l1] at s1
      rw [l2] at s2
      rw [l3] at s3
      rw [l4] at s4
      subst hag
      rw [hL] at s1 s2 s3 s4 H1 H2 H3 H4 hc ⊢
      have t1 : ∀ wx, Sem.run Try.prog (Instr.sliceAt 28 (.slice (some ⟨g, o, none⟩) 33 c) (some (.int .i64 1)) none none) wx = .ok (.slice a1 32 c1) wx := s1
      have t2 : ∀ wx, Sem.run Try.prog (Instr.sliceAt 28 (.slice (some ⟨g, o, none⟩) 33 c) (some (.int .i64 9)) none none) wx = .ok (.slice a2 24 c2) wx := s2
      have t3 : ∀ wx, Sem.run Try.prog (Instr.sliceAt 28 (.slice (some ⟨g, o, none⟩) 33 c) (some (.int .i64 17)) none none) wx = .ok (.slice a3 16 c3) wx := s3
      have t4 : ∀ wx, Sem.run Try.prog (Instr.sliceAt 28 (.slice (some ⟨g, o, none⟩) 33 c) (some (.int .i64 25)) none none) wx = .ok (.slice a4 8 c4) wx := s4
      clear s1 s2 s3 s4 l1 l2 l3 l4 b1 b2 b3 b4 e1 e2 e3 hcl h33 hm
      have HR := hid (fun w => rrightA_any (nO b 0) (wantO b : Nat) (nO b 1) (nO b 2) (nO b 3) w (by omega) (by have := UInt8.toNat_lt ((nx b zero 1).getD 0 0); show ((((nx b zero 1).getD 0 0).toNat : Nat) : Int) ≤ 255; omega))
      rw [show rightA ⟨nO b 0, (wantO b : Nat), nO b 1, nO b 2, nO b 3⟩ = rightA (awO b) from rfl] at HR
      cases hr : rightA (awO b) with
      | false =>
        rw [hr] at HR
        go_enter Try.func42, Try.ntmps42
        go_wp2_with fail
        go_region_held3 (fun w' => w'.cell? ⟨g, o, none⟩ = some (.int .u8 (wantO b : Nat))) (first | assumption | go_keep) (first
          | (go_at_call 68
             (first | with_reducible refine (H1.out _ (by repeat (first | (with_reducible exact Below.refl _ _) | (with_reducible refine Below.setCell ?_ (by first | (simp; done) | (simp; omega) | omega) _) | (with_reducible refine Below.alloc ?_ (by first | (simp; done) | (simp; omega) | omega) _) | (with_reducible refine Below.drew ?_)))).mono ?_ | with_reducible refine (H2.out _ (by repeat (first | (with_reducible exact Below.refl _ _) | (with_reducible refine Below.setCell ?_ (by first | (simp; done) | (simp; omega) | omega) _) | (with_reducible refine Below.alloc ?_ (by first | (simp; done) | (simp; omega) | omega) _) | (with_reducible refine Below.drew ?_)))).mono ?_ | with_reducible refine (H3.out _ (by repeat (first | (with_reducible exact Below.refl _ _) | (with_reducible refine Below.setCell ?_ (by first | (simp; done) | (simp; omega) | omega) _) | (with_reducible refine Below.alloc ?_ (by first | (simp; done) | (simp; omega) | omega) _) | (with_reducible refine Below.drew ?_)))).mono ?_ | with_reducible refine (H4.out _ (by repeat (first | (with_reducible exact Below.refl _ _) | (with_reducible refine Below.setCell ?_ (by first | (simp; done) | (simp; omega) | omega) _) | (with_reducible refine Below.alloc ?_ (by first | (simp; done) | (simp; omega) | omega) _) | (with_reducible refine Below.drew ?_)))).mono ?_)
             rintro e w9 ⟨rfl, rfl⟩))
        all_goals
          obtain ⟨wz, hwz⟩ : ∃ wz, ((w.alloc (.cells #[.int .i64 0, .int .u8 0, .int .i64 0, .int .i64 0, .int .i64 0] 54)).alloc (.cells #[.int .i64 (nO b 0), .int .u8 (wantO b : Nat), .int .i64 (nO b 1), .int .i64 (nO b 2), .int .i64 (nO b 3)] 54)).drew = wz := ⟨_, rfl⟩
          have hbz : Below w.heap.size w wz := by
            rw [← hwz]
            exact Below.drew (((Below.refl _ _).alloc (Nat.le_refl _) _).alloc (by simp) _)
          have hkz : wz.heap[w.heap.size]? = some (.cells #[.int .i64 0, .int .u8 0, .int .i64 0, .int .i64 0, .int .i64 0] 54 (0, 0)) := by
            rw [← hwz]
            exact (AlbC.heap_alloc_old _ _ _ (by simp)).trans (heap_alloc_new _ _)
          have hkq : wz.heap[w.heap.size + 1]? = some (.cells #[.int .i64 (nO b 0), .int .u8 (wantO b : Nat), .int .i64 (nO b 1), .int .i64 (nO b 2), .int .i64 (nO b 3)] 54 (0, 0)) := by
            rw [← hwz]
            have := heap_alloc_new (w.alloc (.cells #[.int .i64 0, .int .u8 0, .int .i64 0, .int .i64 0, .int .i64 0] 54)) (.cells #[.int .i64 (nO b 0), .int .u8 (wantO b : Nat), .int .i64 (nO b 1), .int .i64 (nO b 2), .int .i64 (nO b 3)] 54)
            rw [show (w.alloc (.cells #[.int .i64 0, .int .u8 0, .int .i64 0, .int .i64 0, .int .i64 0] 54)).heap.size = w.heap.size + 1 from by simp] at this
            exact this
          rw [hwz]
          clear hwz
          have c0 : wz.cell? ⟨w.heap.size + 1, 0, none⟩ = some (.int .i64 (nO b 0)) := by simp [World.cell?, hkq]
          have c1 : wz.cell? ⟨w.heap.size + 1, 1, none⟩ = some (.int .u8 (wantO b : Nat)) := by simp [World.cell?, hkq]
          have c2 : wz.cell? ⟨w.heap.size + 1, 2, none⟩ = some (.int .i64 (nO b 1)) := by simp [World.cell?, hkq]
          have c3 : wz.cell? ⟨w.heap.size + 1, 3, none⟩ = some (.int .i64 (nO b 2)) := by simp [World.cell?, hkq]
          have c4 : wz.cell? ⟨w.heap.size + 1, 4, none⟩ = some (.int .i64 (nO b 3)) := by simp [World.cell?, hkq]
          go_wp2_with fail
          refine (HR.out _).mono ?_
          rintro e w9 ⟨rfl, hb9⟩
          have hk9 := (hb9.block _ (Array.getElem?_eq_some_iff.1 hkz).1).trans hkz
          have hq9 := (hb9.block _ (Array.getElem?_eq_some_iff.1 hkq).1).trans hkq
          have HB9 := hid (hbz.trans (hb9.mono hbz.size))
          have r0 : w9.cell? ⟨w.heap.size, 0, none⟩ = some (.int .i64 0) := by simp [World.cell?, hk9]
          have f0 : w9.frozen? ⟨w.heap.size, 0, none⟩ = false := by simp [World.frozen?, hk9]
          have q0 : w9.cell? ⟨w.heap.size + 1, 0, none⟩ = some (.int .i64 (nO b 0)) := by simp [World.cell?, hq9]
          have r1 : w9.cell? ⟨w.heap.size, 1, none⟩ = some (.int .u8 0) := by simp [World.cell?, hk9]
          have f1 : w9.frozen? ⟨w.heap.size, 1, none⟩ = false := by simp [World.frozen?, hk9]
          have q1 : w9.cell? ⟨w.heap.size + 1, 1, none⟩ = some (.int .u8 (wantO b : Nat)) := by simp [World.cell?, hq9]
          have r2 : w9.cell? ⟨w.heap.size, 2, none⟩ = some (.int .i64 0) := by simp [World.cell?, hk9]
          have f2 : w9.frozen? ⟨w.heap.size, 2, none⟩ = false := by simp [World.frozen?, hk9]
          have q2 : w9.cell? ⟨w.heap.size + 1, 2, none⟩ = some (.int .i64 (nO b 1)) := by simp [World.cell?, hq9]
          have r3 : w9.cell? ⟨w.heap.size, 3, none⟩ = some (.int .i64 0) := by simp [World.cell?, hk9]
          have f3 : w9.frozen? ⟨w.heap.size, 3, none⟩ = false := by simp [World.frozen?, hk9]
          have q3 : w9.cell? ⟨w.heap.size + 1, 3, none⟩ = some (.int .i64 (nO b 2)) := by simp [World.cell?, hq9]
          have r4 : w9.cell? ⟨w.heap.size, 4, none⟩ = some (.int .i64 0) := by simp [World.cell?, hk9]
          have f4 : w9.frozen? ⟨w.heap.size, 4, none⟩ = false := by simp [World.frozen?, hk9]
          have q4 : w9.cell? ⟨w.heap.size + 1, 4, none⟩ = some (.int .i64 (nO b 3)) := by simp [World.cell?, hq9]
          clear hb9 hk9 hq9 hkz hkq hbz c0 c1 c2 c3 c4
          go_wp2_with fail
          have KK := set5 (y0 := .int .i64 0) (y1 := .int .u8 0) (y2 := .int .i64 0) (y3 := .int .i64 0) (y4 := .int .i64 0) r0 r1 r2 r3 r4
          obtain ⟨k60, k61, k62, k63, k64⟩ := KK
          refine bodyPost_ret (v := .tuple #[.agg #[.int .i64 0, .int .u8 0, .int .i64 0, .int .i64 0, .int .i64 0], .int .i64 6, .int .i64 0]) (by simp [results, Try.results42, go_sem, k60, k61, k62, k63, k64]) rfl ?_
          exact ⟨rfl, (Below.setCell (Below.setCell (Below.setCell (Below.setCell (Below.setCell HB9.out (Nat.le_refl _) _) (Nat.le_refl _) _) (Nat.le_refl _) _) (Nat.le_refl _) _) (Nat.le_refl _) _)⟩
      | true =>
        rw [hr] at HR
        go_enter Try.func42, Try.ntmps42
        go_wp2_with fail
        go_region_held3 (fun w' => w'.cell? ⟨g, o, none⟩ = some (.int .u8 (wantO b : Nat))) (first | assumption | go_keep) (first
          | (go_at_call 68
             (first | with_reducible refine (H1.out _ (by repeat (first | (with_reducible exact Below.refl _ _) | (with_reducible refine Below.setCell ?_ (by first | (simp; done) | (simp; omega) | omega) _) | (with_reducible refine Below.alloc ?_ (by first | (simp; done) | (simp; omega) | omega) _) | (with_reducible refine Below.drew ?_)))).mono ?_ | with_reducible refine (H2.out _ (by repeat (first | (with_reducible exact Below.refl _ _) | (with_reducible refine Below.setCell ?_ (by first | (simp; done) | (simp; omega) | omega) _) | (with_reducible refine Below.alloc ?_ (by first | (simp; done) | (simp; omega) | omega) _) | (with_reducible refine Below.drew ?_)))).mono ?_ | with_reducible refine (H3.out _ (by repeat (first | (with_reducible exact Below.refl _ _) | (with_reducible refine Below.setCell ?_ (by first | (simp; done) | (simp; omega) | omega) _) | (with_reducible refine Below.alloc ?_ (by first | (simp; done) | (simp; omega) | omega) _) | (with_reducible refine Below.drew ?_)))).mono ?_ | with_reducible refine (H4.out _ (by repeat (first | (with_reducible exact Below.refl _ _) | (with_reducible refine Below.setCell ?_ (by first | (simp; done) | (simp; omega) | omega) _) | (with_reducible refine Below.alloc ?_ (by first | (simp; done) | (simp; omega) | omega) _) | (with_reducible refine Below.drew ?_)))).mono ?_)
             rintro e w9 ⟨rfl, rfl⟩))
        all_goals
          obtain ⟨wz, hwz⟩ : ∃ wz, ((w.alloc (.cells #[.int .i64 0, .int .u8 0, .int .i64 0, .int .i64 0, .int .i64 0] 54)).alloc (.cells #[.int .i64 (nO b 0), .int .u8 (wantO b : Nat), .int .i64 (nO b 1), .int .i64 (nO b 2), .int .i64 (nO b 3)] 54)).drew = wz := ⟨_, rfl⟩
          have hbz : Below w.heap.size w wz := by
            rw [← hwz]
            exact Below.drew (((Below.refl _ _).alloc (Nat.le_refl _) _).alloc (by simp) _)
          have hkz : wz.heap[w.heap.size]? = some (.cells #[.int .i64 0, .int .u8 0, .int .i64 0, .int .i64 0, .int .i64 0] 54 (0, 0)) := by
            rw [← hwz]
            exact (AlbC.heap_alloc_old _ _ _ (by simp)).trans (heap_alloc_new _ _)
          have hkq : wz.heap[w.heap.size + 1]? = some (.cells #[.int .i64 (nO b 0), .int .u8 (wantO b : Nat), .int .i64 (nO b 1), .int .i64 (nO b 2), .int .i64 (nO b 3)] 54 (0, 0)) := by
            rw [← hwz]
            have := heap_alloc_new (w.alloc (.cells #[.int .i64 0, .int .u8 0, .int .i64 0, .int .i64 0, .int .i64 0] 54)) (.cells #[.int .i64 (nO b 0), .int .u8 (wantO b : Nat), .int .i64 (nO b 1), .int .i64 (nO b 2), .int .i64 (nO b 3)] 54)
            rw [show (w.alloc (.cells #[.int .i64 0, .int .u8 0, .int .i64 0, .int .i64 0, .int .i64 0] 54)).heap.size = w.heap.size + 1 from by simp] at this
            exact this
          rw [hwz]
          clear hwz
          have c0 : wz.cell? ⟨w.heap.size + 1, 0, none⟩ = some (.int .i64 (nO b 0)) := by simp [World.cell?, hkq]
          have c1 : wz.cell? ⟨w.heap.size + 1, 1, none⟩ = some (.int .u8 (wantO b : Nat)) := by simp [World.cell?, hkq]
          have c2 : wz.cell? ⟨w.heap.size + 1, 2, none⟩ = some (.int .i64 (nO b 1)) := by simp [World.cell?, hkq]
          have c3 : wz.cell? ⟨w.heap.size + 1, 3, none⟩ = some (.int .i64 (nO b 2)) := by simp [World.cell?, hkq]
          have c4 : wz.cell? ⟨w.heap.size + 1, 4, none⟩ = some (.int .i64 (nO b 3)) := by simp [World.cell?, hkq]
          go_wp2_with fail
          refine (HR.out _).mono ?_
          rintro e w9 ⟨rfl, hb9⟩
          have hk9 := (hb9.block _ (Array.getElem?_eq_some_iff.1 hkz).1).trans hkz
          have hq9 := (hb9.block _ (Array.getElem?_eq_some_iff.1 hkq).1).trans hkq
          have HB9 := hid (hbz.trans (hb9.mono hbz.size))
          have r0 : w9.cell? ⟨w.heap.size, 0, none⟩ = some (.int .i64 0) := by simp [World.cell?, hk9]
          have f0 : w9.frozen? ⟨w.heap.size, 0, none⟩ = false := by simp [World.frozen?, hk9]
          have q0 : w9.cell? ⟨w.heap.size + 1, 0, none⟩ = some (.int .i64 (nO b 0)) := by simp [World.cell?, hq9]
          have r1 : w9.cell? ⟨w.heap.size, 1, none⟩ = some (.int .u8 0) := by simp [World.cell?, hk9]
          have f1 : w9.frozen? ⟨w.heap.size, 1, none⟩ = false := by simp [World.frozen?, hk9]
          have q1 : w9.cell? ⟨w.heap.size + 1, 1, none⟩ = some (.int .u8 (wantO b : Nat)) := by simp [World.cell?, hq9]
          have r2 : w9.cell? ⟨w.heap.size, 2, none⟩ = some (.int .i64 0) := by simp [World.cell?, hk9]
          have f2 : w9.frozen? ⟨w.heap.size, 2, none⟩ = false := by simp [World.frozen?, hk9]
          have q2 : w9.cell? ⟨w.heap.size + 1, 2, none⟩ = some (.int .i64 (nO b 1)) := by simp [World.cell?, hq9]
          have r3 : w9.cell? ⟨w.heap.size, 3, none⟩ = some (.int .i64 0) := by simp [World.cell?, hk9]
          have f3 : w9.frozen? ⟨w.heap.size, 3, none⟩ = false := by simp [World.frozen?, hk9]
          have q3 : w9.cell? ⟨w.heap.size + 1, 3, none⟩ = some (.int .i64 (nO b 2)) := by simp [World.cell?, hq9]
          have r4 : w9.cell? ⟨w.heap.size, 4, none⟩ = some (.int .i64 0) := by simp [World.cell?, hk9]
          have f4 : w9.frozen? ⟨w.heap.size, 4, none⟩ = false := by simp [World.frozen?, hk9]
          have q4 : w9.cell? ⟨w.heap.size + 1, 4, none⟩ = some (.int .i64 (nO b 3)) := by simp [World.cell?, hq9]
          clear hb9 hk9 hq9 hkz hkq hbz c0 c1 c2 c3 c4
          go_wp2_with fail
          have KK := set5 (y0 := .int .i64 (nO b 0)) (y1 := .int .u8 (wantO b : Nat)) (y2 := .int .i64 (nO b 1)) (y3 := .int .i64 (nO b 2)) (y4 := .int .i64 (nO b 3)) r0 r1 r2 r3 r4
          obtain ⟨k60, k61, k62, k63, k64⟩ := KK
          refine bodyPost_ret (v := .tuple #[.agg #[.int .i64 (nO b 0), .int .u8 (wantO b : Nat), .int .i64 (nO b 1), .int .i64 (nO b 2), .int .i64 (nO b 3)], .int .i64 0, .int .i64 0]) (by simp [results, Try.results42, go_sem, k60, k61, k62, k63, k64]) rfl ?_
          exact ⟨rfl, (Below.setCell (Below.setCell (Below.setCell (Below.setCell (Below.setCell HB9.out (Nat.le_refl _) _) (Nat.le_refl _) _) (Nat.le_refl _) _) (Nat.le_refl _) _) (Nat.le_refl _) _)⟩

set_option maxRecDepth 20000 in
set_option maxHeartbeats 4000000 in
theorem rreadRequest_any (a : Option Addr) (c : Nat) (b : Bs) (w : World) (HB : Hid (BAt w w.heap.size a b)) (hc : b.length ≤ c) (hc2 : c ≤ 9223372036854775807) (hb : b.length ≤ 9223372036854775000) :
    Calls Try.prog 40 #[.slice a b.length c] w fun e w' => e = .returned (toldRequest b) ∧ Below w.heap.size w w' := by
  have hlt : lenT b < 256 := UInt8.toNat_lt (b.getD 33 0)
  by_cases h34 : b.length < 34
  · have HT : Hid (toldRequest b = .tuple #[.agg #[.int .i64 0, .int .u8 0, .int .i64 0, .int .i64 0, .string ⟨#[]⟩, .int .i64 0], .int .i64 6, .int .i64 (b.length : Nat)]) := hid (by
      have := endR_short (.inl h34)
      unfold toldRequest wholeB wholeP
      rw [this]
      rfl)
    rw [HT.out]
    clear HT
    obtain ⟨PL, hPL⟩ : ∃ PL, b.length = PL := ⟨_, rfl⟩
    rw [hPL] at h34 hc hb ⊢
    clear hPL
    go_enter Try.func40, Try.ntmps40
    go_wp2_with fail
    obtain ⟨wz, hwz⟩ : ∃ wz, w.alloc (.cells #[.int .i64 0, .int .u8 0, .int .i64 0, .int .i64 0, .string ⟨#[]⟩, .int .i64 0] 51) = wz := ⟨_, rfl⟩
    have hkr : wz.heap[w.heap.size]? = some (.cells #[.int .i64 0, .int .u8 0, .int .i64 0, .int .i64 0, .string ⟨#[]⟩, .int .i64 0] 51 (0, 0)) := by rw [← hwz]; exact heap_alloc_new _ _
    have hbz : Below w.heap.size w wz := by rw [← hwz]; exact (Below.refl _ _).alloc (Nat.le_refl _) _
    rw [hwz]
    have r0 : wz.cell? ⟨w.heap.size, 0, none⟩ = some (.int .i64 0) := by simp [World.cell?, hkr]
    have r1 : wz.cell? ⟨w.heap.size, 1, none⟩ = some (.int .u8 0) := by simp [World.cell?, hkr]
    have r2 : wz.cell? ⟨w.heap.size, 2, none⟩ = some (.int .i64 0) := by simp [World.cell?, hkr]
    have r3 : wz.cell? ⟨w.heap.size, 3, none⟩ = some (.int .i64 0) := by simp [World.cell?, hkr]
    have r4 : wz.cell? ⟨w.heap.size, 4, none⟩ = some (.string ⟨#[]⟩) := by simp [World.cell?, hkr]
    have r5 : wz.cell? ⟨w.heap.size, 5, none⟩ = some (.int .i64 0) := by simp [World.cell?, hkr]
    refine bodyPost_ret (v := .tuple #[.agg #[.int .i64 0, .int .u8 0, .int .i64 0, .int .i64 0, .string ⟨#[]⟩, .int .i64 0], .int .i64 6, .int .i64 (PL : Nat)]) (by simp [results, Try.results40, go_sem, r0, r1, r2, r3, r4, r5]) rfl ?_
    exact ⟨rfl, hbz⟩
  · obtain ⟨g, o, hag, hg, hcl⟩ := HB.out (by omega)
    subst hag
    have z33 : w.cell? ⟨g, o + 33, none⟩ = some (.int .u8 (lenT b : Nat)) := hcl 33 (b.getD 33 0) (by rw [List.getD_eq_getElem?_getD, List.getElem?_eq_getElem (show 33 < b.length by omega)]; rfl)
    by_cases hs : b.length < 34 + lenT b
    · have HT : Hid (toldRequest b = .tuple #[.agg #[.int .i64 0, .int .u8 0, .int .i64 0, .int .i64 0, .string ⟨#[]⟩, .int .i64 0], .int .i64 6, .int .i64 (b.length : Nat)]) := hid (by
        have := endR_short (.inr hs)
        unfold toldRequest wholeB wholeP
        rw [this]
        rfl)
      rw [HT.out]
      clear HT hcl
      obtain ⟨PL, hPL⟩ : ∃ PL, b.length = PL := ⟨_, rfl⟩
      rw [hPL] at h34 hs hc hb ⊢
      clear hPL
      generalize lenT b = t at *
      go_enter Try.func40, Try.ntmps40
      go_wp2_with fail
      obtain ⟨wz, hwz⟩ : ∃ wz, w.alloc (.cells #[.int .i64 0, .int .u8 0, .int .i64 0, .int .i64 0, .string ⟨#[]⟩, .int .i64 0] 51) = wz := ⟨_, rfl⟩
      have hkr : wz.heap[w.heap.size]? = some (.cells #[.int .i64 0, .int .u8 0, .int .i64 0, .int .i64 0, .string ⟨#[]⟩, .int .i64 0] 51 (0, 0)) := by rw [← hwz]; exact heap_alloc_new _ _
      have hbz : Below w.heap.size w wz := by rw [← hwz]; exact (Below.refl _ _).alloc (Nat.le_refl _) _
      rw [hwz]
      have r0 : wz.cell? ⟨w.heap.size, 0, none⟩ = some (.int .i64 0) := by simp [World.cell?, hkr]
      have r1 : wz.cell? ⟨w.heap.size, 1, none⟩ = some (.int .u8 0) := by simp [World.cell?, hkr]
      have r2 : wz.cell? ⟨w.heap.size, 2, none⟩ = some (.int .i64 0) := by simp [World.cell?, hkr]
      have r3 : wz.cell? ⟨w.heap.size, 3, none⟩ = some (.int .i64 0) := by simp [World.cell?, hkr]
      have r4 : wz.cell? ⟨w.heap.size, 4, none⟩ = some (.string ⟨#[]⟩) := by simp [World.cell?, hkr]
      have r5 : wz.cell? ⟨w.heap.size, 5, none⟩ = some (.int .i64 0) := by simp [World.cell?, hkr]
      refine bodyPost_ret (v := .tuple #[.agg #[.int .i64 0, .int .u8 0, .int .i64 0, .int .i64 0, .string ⟨#[]⟩, .int .i64 0], .int .i64 6, .int .i64 (PL : Nat)]) (by simp [results, Try.results40, go_sem, r0, r1, r2, r3, r4, r5]) rfl ?_
      exact ⟨rfl, hbz⟩
    · obtain ⟨e1, e4⟩ := endR_there (b := b) (by omega)
      obtain ⟨_, e2, e3⟩ := there (b := b) (by omega)
      by_cases hm : 34 + lenT b < b.length
      · have HT : Hid (toldRequest b = .tuple #[.agg #[.int .i64 0, .int .u8 0, .int .i64 0, .int .i64 0, .string ⟨#[]⟩, .int .i64 0], .int .i64 6, .int .i64 ((34 : Int) + (lenT b : Nat))]) := hid (by
          unfold toldRequest wholeB wholeP
          rw [e1]
          simp [hm])
        rw [HT.out]
        clear HT e1 e2 e3 e4 hcl
        generalize b.length = L at *
        generalize lenT b = t at *
        go_enter Try.func40, Try.ntmps40
        go_wp2_with fail
        obtain ⟨wz, hwz⟩ : ∃ wz, w.alloc (.cells #[.int .i64 0, .int .u8 0, .int .i64 0, .int .i64 0, .string ⟨#[]⟩, .int .i64 0] 51) = wz := ⟨_, rfl⟩
        have hkr : wz.heap[w.heap.size]? = some (.cells #[.int .i64 0, .int .u8 0, .int .i64 0, .int .i64 0, .string ⟨#[]⟩, .int .i64 0] 51 (0, 0)) := by rw [← hwz]; exact heap_alloc_new _ _
        have hbz : Below w.heap.size w wz := by rw [← hwz]; exact (Below.refl _ _).alloc (Nat.le_refl _) _
        rw [hwz]
        have r0 : wz.cell? ⟨w.heap.size, 0, none⟩ = some (.int .i64 0) := by simp [World.cell?, hkr]
        have r1 : wz.cell? ⟨w.heap.size, 1, none⟩ = some (.int .u8 0) := by simp [World.cell?, hkr]
        have r2 : wz.cell? ⟨w.heap.size, 2, none⟩ = some (.int .i64 0) := by simp [World.cell?, hkr]
        have r3 : wz.cell? ⟨w.heap.size, 3, none⟩ = some (.int .i64 0) := by simp [World.cell?, hkr]
        have r4 : wz.cell? ⟨w.heap.size, 4, none⟩ = some (.string ⟨#[]⟩) := by simp [World.cell?, hkr]
        have r5 : wz.cell? ⟨w.heap.size, 5, none⟩ = some (.int .i64 0) := by simp [World.cell?, hkr]
        refine bodyPost_ret (v := .tuple #[.agg #[.int .i64 0, .int .u8 0, .int .i64 0, .int .i64 0, .string ⟨#[]⟩, .int .i64 0], .int .i64 6, .int .i64 ((34 : Int) + (t : Nat))]) (by simp [results, Try.results40, go_sem, r0, r1, r2, r3, r4, r5]) rfl ?_
        exact ⟨rfl, hbz⟩
      · have hL : b.length = 34 + lenT b := by omega
        have HT : Hid (toldRequest b = if rightQ (rqO b) then .tuple #[rv (rqO b), .int .i64 0, .int .i64 0] else .tuple #[.agg #[.int .i64 0, .int .u8 0, .int .i64 0, .int .i64 0, .string ⟨#[]⟩, .int .i64 0], .int .i64 6, .int .i64 0]) := hid (by
          unfold toldRequest wholeB wholeP
          rw [e1]
          simp [hL])
        rw [HT.out]
        clear HT
        have HAG : Hid (True) := hid trivial
        have z0 : w.cell? ⟨g, o, none⟩ = some (.int .u8 (wantO b : Nat)) := by
          have := hcl 0 (b.getD 0 0) (by rw [List.getD_eq_getElem?_getD, List.getElem?_eq_getElem (show 0 < b.length by omega)]; rfl)
          rw [e2]
          exact this
        obtain ⟨a1, c1, s1, b1, -, -, -⟩ := slice_from (some ⟨g, o, none⟩) c 1 b (by omega) hc HB.out
        obtain ⟨a2, c2, s2, b2, -, -, -⟩ := slice_from (some ⟨g, o, none⟩) c 9 b (by omega) hc HB.out
        obtain ⟨a3, c3, s3, b3, -, -, -⟩ := slice_from (some ⟨g, o, none⟩) c 17 b (by omega) hc HB.out
        obtain ⟨a4, c4, s4, b4, -, -, -⟩ := slice_from (some ⟨g, o, none⟩) c 25 b (by omega) hc HB.out
        have l1 : (b.drop 1).length = b.length - 1 := List.length_drop
        have l2 : (b.drop 9).length = b.length - 9 := List.length_drop
        have l3 : (b.drop 17).length = b.length - 17 := List.length_drop
        have l4 : (b.drop 25).length = b.length - 25 := List.length_drop
        have H1 := hid (fun (wx : World) (hx : Below w.heap.size w wx) => number_any a1 c1 (b.drop 1) wx (by omega) (by omega) (hid ((b1.below hx).mono hx.size)))
        have H2 := hid (fun (wx : World) (hx : Below w.heap.size w wx) => number_any a2 c2 (b.drop 9) wx (by omega) (by omega) (hid ((b2.below hx).mono hx.size)))
        have H3 := hid (fun (wx : World) (hx : Below w.heap.size w wx) => number_any a3 c3 (b.drop 17) wx (by omega) (by omega) (hid ((b3.below hx).mono hx.size)))
        have H4 := hid (fun (wx : World) (hx : Below w.heap.size w wx) => number_any a4 c4 (b.drop 25) wx (by omega) (by omega) (hid ((b4.below hx).mono hx.size)))
        rw [show num ((b.drop 1).take 8) = nO b 0 from (e3 0 (by omega)).symm, l1] at H1
        rw [show num ((b.drop 9).take 8) = nO b 1 from (e3 1 (by omega)).symm, l2] at H2
        rw [show num ((b.drop 17).take 8) = nO b 2 from (e3 2 (by omega)).symm, l3] at H3
        rw [show num ((b.drop 25).take 8) = nO b 3 from (e3 3 (by omega)).symm, l4] at H4
        rw [l1] at s1
        rw [l2] at s2
        rw [l3] at s3
        rw [l4] at s4
        obtain ⟨a5, c5, s5, b5, -, -, -⟩ := slice_from (some ⟨g, o, none⟩) c 34 b (by omega) hc HB.out
        have l5 : (b.drop 34).length = b.length - 34 := List.length_drop
        have hcv : ∀ wx, Below w.heap.size w wx → Sem.run Try.prog (convert 28 9 (.slice a5 (lenT b) c5)) wx = .ok (.string (txR b)) wx := fun wx hx => by
          have h5 := conv_str (W := wx) (n0 := w.heap.size) (x := a5) (s := b.drop 34) (k := c5) (b5.below hx)
          rw [l5, hL, Nat.add_sub_cancel_left] at h5
          rw [e4, List.take_of_length_le (by rw [l5]; omega)]
          exact h5
        have HCV := hid hcv
        rw [hL] at s1 s2 s3 s4 H1 H2 H3 H4 hc hb s5 ⊢
        rw [show (b.drop 34).length = lenT b by rw [l5]; omega] at s5
        obtain ⟨L, hLL⟩ : ∃ L, 34 + lenT b = L := ⟨_, rfl⟩
        rw [hLL] at s1 s2 s3 s4 H1 H2 H3 H4 hc hb s5 ⊢
        have t1 : ∀ wx, Sem.run Try.prog (Instr.sliceAt 28 (.slice (some ⟨g, o, none⟩) L c) (some (.int .i64 1)) none none) wx = .ok (.slice a1 (L - 1) c1) wx := s1
        have t2 : ∀ wx, Sem.run Try.prog (Instr.sliceAt 28 (.slice (some ⟨g, o, none⟩) L c) (some (.int .i64 9)) none none) wx = .ok (.slice a2 (L - 9) c2) wx := s2
        have t3 : ∀ wx, Sem.run Try.prog (Instr.sliceAt 28 (.slice (some ⟨g, o, none⟩) L c) (some (.int .i64 17)) none none) wx = .ok (.slice a3 (L - 17) c3) wx := s3
        have t4 : ∀ wx, Sem.run Try.prog (Instr.sliceAt 28 (.slice (some ⟨g, o, none⟩) L c) (some (.int .i64 25)) none none) wx = .ok (.slice a4 (L - 25) c4) wx := s4
        have t5 : ∀ wx, Sem.run Try.prog (Instr.sliceAt 28 (.slice (some ⟨g, o, none⟩) L c) (some (.int .i64 34)) none none) wx = .ok (.slice a5 (lenT b) c5) wx := s5
        obtain ⟨M1, hM1⟩ : ∃ M1, L - 1 = M1 := ⟨_, rfl⟩
        obtain ⟨M2, hM2⟩ : ∃ M2, L - 9 = M2 := ⟨_, rfl⟩
        obtain ⟨M3, hM3⟩ : ∃ M3, L - 17 = M3 := ⟨_, rfl⟩
        obtain ⟨M4, hM4⟩ : ∃ M4, L - 25 = M4 := ⟨_, rfl⟩
        rw [hM1] at t1 H1
        rw [hM2] at t2 H2
        rw [hM3] at t3 H3
        rw [hM4] at t4 H4
        have hL34 : L = 34 + lenT b := hLL.symm
        have HTX := hid (tx_small b (stN b (st1 b) 4))
        clear s1 s2 s3 s4 s5 l1 l2 l3 l4 l5 b1 b2 b3 b4 b5 e1 e2 e3 e4 hcl hm hs hcv hM1 hM2 hM3 hM4 hLL HAG
        have HR := hid (fun w => rright_any (nO b 0) (wantO b : Nat) (nO b 1) (nO b 2) (nO b 3) (txR b) w (by show (txO b _).length ≤ maxLen; have := HTX.out; unfold maxLen; omega) (hid (fun w => rname_any (txR b) w (by show (txO b _).length ≤ maxLen; have := HTX.out; unfold maxLen; omega))))
        rw [show rightQ ⟨nO b 0, (wantO b : Nat), nO b 1, nO b 2, txR b, nO b 3⟩ = rightQ (rqO b) from rfl] at HR
        clear HTX
        have d1 : decide ((L : Int) < 34) = false := decide_eq_false (by omega)
        have d2 : decide ((L : Int) < 34 + (lenT b : Nat)) = false := decide_eq_false (by omega)
        have d3 : decide ((34 : Int) + (lenT b : Nat) < L) = false := decide_eq_false (by omega)
        have hL0 : 34 ≤ L := by omega
        have hL1 : (0 : Int) < L := by omega
        have hL2 : 0 < L := by omega
        clear hL34 hL h34 HB
        generalize lenT b = t at *
        cases hr : rightQ (rqO b) with
        | false =>
          rw [hr] at HR
          go_enter Try.func40, Try.ntmps40
          go_wp2_with fail
          go_region_held3 (fun w' => w'.cell? ⟨g, o, none⟩ = some (.int .u8 (wantO b : Nat)) ∧ Sem.run Try.prog (convert 28 9 (.slice a5 t c5)) w' = .ok (.string (txR b)) w') (first | assumption | (refine ⟨?_, ?_⟩ <;> first | assumption | go_keep | exact HCV.out _ (by repeat (first | (with_reducible exact Below.refl _ _) | (with_reducible refine Below.setCell ?_ (by first | (simp; done) | (simp; omega) | omega) _) | (with_reducible refine Below.alloc ?_ (by first | (simp; done) | (simp; omega) | omega) _) | (with_reducible refine Below.drew ?_))))) (first
            | (go_at_call 68
               (first | with_reducible refine (H1.out _ (by repeat (first | (with_reducible exact Below.refl _ _) | (with_reducible refine Below.setCell ?_ (by first | (simp; done) | (simp; omega) | omega) _) | (with_reducible refine Below.alloc ?_ (by first | (simp; done) | (simp; omega) | omega) _) | (with_reducible refine Below.drew ?_)))).mono ?_ | with_reducible refine (H2.out _ (by repeat (first | (with_reducible exact Below.refl _ _) | (with_reducible refine Below.setCell ?_ (by first | (simp; done) | (simp; omega) | omega) _) | (with_reducible refine Below.alloc ?_ (by first | (simp; done) | (simp; omega) | omega) _) | (with_reducible refine Below.drew ?_)))).mono ?_ | with_reducible refine (H3.out _ (by repeat (first | (with_reducible exact Below.refl _ _) | (with_reducible refine Below.setCell ?_ (by first | (simp; done) | (simp; omega) | omega) _) | (with_reducible refine Below.alloc ?_ (by first | (simp; done) | (simp; omega) | omega) _) | (with_reducible refine Below.drew ?_)))).mono ?_ | with_reducible refine (H4.out _ (by repeat (first | (with_reducible exact Below.refl _ _) | (with_reducible refine Below.setCell ?_ (by first | (simp; done) | (simp; omega) | omega) _) | (with_reducible refine Below.alloc ?_ (by first | (simp; done) | (simp; omega) | omega) _) | (with_reducible refine Below.drew ?_)))).mono ?_)
               rintro e w9 ⟨rfl, rfl⟩))
          all_goals
            obtain ⟨wz, hwz⟩ : ∃ wz, ((w.alloc (.cells #[.int .i64 0, .int .u8 0, .int .i64 0, .int .i64 0, .string ⟨#[]⟩, .int .i64 0] 51)).alloc (.cells #[.int .i64 (nO b 0), .int .u8 (wantO b : Nat), .int .i64 (nO b 1), .int .i64 (nO b 2), .string (txR b), .int .i64 (nO b 3)] 51)).drew = wz := ⟨_, rfl⟩
            have hbz : Below w.heap.size w wz := by
              rw [← hwz]
              exact Below.drew (((Below.refl _ _).alloc (Nat.le_refl _) _).alloc (by simp) _)
            have hkz : wz.heap[w.heap.size]? = some (.cells #[.int .i64 0, .int .u8 0, .int .i64 0, .int .i64 0, .string ⟨#[]⟩, .int .i64 0] 51 (0, 0)) := by
              rw [← hwz]
              exact (AlbC.heap_alloc_old _ _ _ (by simp)).trans (heap_alloc_new _ _)
            have hkq : wz.heap[w.heap.size + 1]? = some (.cells #[.int .i64 (nO b 0), .int .u8 (wantO b : Nat), .int .i64 (nO b 1), .int .i64 (nO b 2), .string (txR b), .int .i64 (nO b 3)] 51 (0, 0)) := by
              rw [← hwz]
              have := heap_alloc_new (w.alloc (.cells #[.int .i64 0, .int .u8 0, .int .i64 0, .int .i64 0, .string ⟨#[]⟩, .int .i64 0] 51)) (.cells #[.int .i64 (nO b 0), .int .u8 (wantO b : Nat), .int .i64 (nO b 1), .int .i64 (nO b 2), .string (txR b), .int .i64 (nO b 3)] 51)
              rw [show (w.alloc (.cells #[.int .i64 0, .int .u8 0, .int .i64 0, .int .i64 0, .string ⟨#[]⟩, .int .i64 0] 51)).heap.size = w.heap.size + 1 from by simp] at this
              exact this
            rw [hwz]
            clear hwz
            have c0 : wz.cell? ⟨w.heap.size + 1, 0, none⟩ = some (.int .i64 (nO b 0)) := by simp [World.cell?, hkq]
            have c1 : wz.cell? ⟨w.heap.size + 1, 1, none⟩ = some (.int .u8 (wantO b : Nat)) := by simp [World.cell?, hkq]
            have c2 : wz.cell? ⟨w.heap.size + 1, 2, none⟩ = some (.int .i64 (nO b 1)) := by simp [World.cell?, hkq]
            have c3 : wz.cell? ⟨w.heap.size + 1, 3, none⟩ = some (.int .i64 (nO b 2)) := by simp [World.cell?, hkq]
            have c4 : wz.cell? ⟨w.heap.size + 1, 4, none⟩ = some (.string (txR b)) := by simp [World.cell?, hkq]
            have c5 : wz.cell? ⟨w.heap.size + 1, 5, none⟩ = some (.int .i64 (nO b 3)) := by simp [World.cell?, hkq]
            go_wp2_with fail
            refine (HR.out _).mono ?_
            rintro e w9 ⟨rfl, hb9⟩
            have hk9 := (hb9.block _ (Array.getElem?_eq_some_iff.1 hkz).1).trans hkz
            have hq9 := (hb9.block _ (Array.getElem?_eq_some_iff.1 hkq).1).trans hkq
            have HB9 := hid (hbz.trans (hb9.mono hbz.size))
            have r0 : w9.cell? ⟨w.heap.size, 0, none⟩ = some (.int .i64 0) := by simp [World.cell?, hk9]
            have f0 : w9.frozen? ⟨w.heap.size, 0, none⟩ = false := by simp [World.frozen?, hk9]
            have q0 : w9.cell? ⟨w.heap.size + 1, 0, none⟩ = some (.int .i64 (nO b 0)) := by simp [World.cell?, hq9]
            have r1 : w9.cell? ⟨w.heap.size, 1, none⟩ = some (.int .u8 0) := by simp [World.cell?, hk9]
            have f1 : w9.frozen? ⟨w.heap.size, 1, none⟩ = false := by simp [World.frozen?, hk9]
            have q1 : w9.cell? ⟨w.heap.size + 1, 1, none⟩ = some (.int .u8 (wantO b : Nat)) := by simp [World.cell?, hq9]
            have r2 : w9.cell? ⟨w.heap.size, 2, none⟩ = some (.int .i64 0) := by simp [World.cell?, hk9]
            have f2 : w9.frozen? ⟨w.heap.size, 2, none⟩ = false := by simp [World.frozen?, hk9]
            have q2 : w9.cell? ⟨w.heap.size + 1, 2, none⟩ = some (.int .i64 (nO b 1)) := by simp [World.cell?, hq9]
            have r3 : w9.cell? ⟨w.heap.size, 3, none⟩ = some (.int .i64 0) := by simp [World.cell?, hk9]
            have f3 : w9.frozen? ⟨w.heap.size, 3, none⟩ = false := by simp [World.frozen?, hk9]
            have q3 : w9.cell? ⟨w.heap.size + 1, 3, none⟩ = some (.int .i64 (nO b 2)) := by simp [World.cell?, hq9]
            have r4 : w9.cell? ⟨w.heap.size, 4, none⟩ = some (.string ⟨#[]⟩) := by simp [World.cell?, hk9]
            have f4 : w9.frozen? ⟨w.heap.size, 4, none⟩ = false := by simp [World.frozen?, hk9]
            have q4 : w9.cell? ⟨w.heap.size + 1, 4, none⟩ = some (.string (txR b)) := by simp [World.cell?, hq9]
            have r5 : w9.cell? ⟨w.heap.size, 5, none⟩ = some (.int .i64 0) := by simp [World.cell?, hk9]
            have f5 : w9.frozen? ⟨w.heap.size, 5, none⟩ = false := by simp [World.frozen?, hk9]
            have q5 : w9.cell? ⟨w.heap.size + 1, 5, none⟩ = some (.int .i64 (nO b 3)) := by simp [World.cell?, hq9]
            clear hb9 hk9 hq9 hkz hkq hbz c0 c1 c2 c3 c4 c5
            go_wp2_with fail
            have KK := set6 (y0 := .int .i64 0) (y1 := .int .u8 0) (y2 := .int .i64 0) (y3 := .int .i64 0) (y4 := .string ⟨#[]⟩) (y5 := .int .i64 0) r0 r1 r2 r3 r4 r5
            obtain ⟨k60, k61, k62, k63, k64, k65⟩ := KK
            refine bodyPost_ret (v := .tuple #[.agg #[.int .i64 0, .int .u8 0, .int .i64 0, .int .i64 0, .string ⟨#[]⟩, .int .i64 0], .int .i64 6, .int .i64 0]) (by simp [results, Try.results40, go_sem, k60, k61, k62, k63, k64, k65]) rfl ?_
            exact ⟨rfl, (Below.setCell (Below.setCell (Below.setCell (Below.setCell (Below.setCell (Below.setCell HB9.out (Nat.le_refl _) _) (Nat.le_refl _) _) (Nat.le_refl _) _) (Nat.le_refl _) _) (Nat.le_refl _) _) (Nat.le_refl _) _)⟩
        | true =>
          rw [hr] at HR
          go_enter Try.func40, Try.ntmps40
          go_wp2_with fail
          go_region_held3 (fun w' => w'.cell? ⟨g, o, none⟩ = some (.int .u8 (wantO b : Nat)) ∧ Sem.run Try.prog (convert 28 9 (.slice a5 t c5)) w' = .ok (.string (txR b)) w') (first | assumption | (refine ⟨?_, ?_⟩ <;> first | assumption | go_keep | exact HCV.out _ (by repeat (first | (with_reducible exact Below.refl _ _) | (with_reducible refine Below.setCell ?_ (by first | (simp; done) | (simp; omega) | omega) _) | (with_reducible refine Below.alloc ?_ (by first | (simp; done) | (simp; omega) | omega) _) | (with_reducible refine Below.drew ?_))))) (first
            | (go_at_call 68
               (first | with_reducible refine (H1.out _ (by repeat (first | (with_reducible exact Below.refl _ _) | (with_reducible refine Below.setCell ?_ (by first | (simp; done) | (simp; omega) | omega) _) | (with_reducible refine Below.alloc ?_ (by first | (simp; done) | (simp; omega) | omega) _) | (with_reducible refine Below.drew ?_)))).mono ?_ | with_reducible refine (H2.out _ (by repeat (first | (with_reducible exact Below.refl _ _) | (with_reducible refine Below.setCell ?_ (by first | (simp; done) | (simp; omega) | omega) _) | (with_reducible refine Below.alloc ?_ (by first | (simp; done) | (simp; omega) | omega) _) | (with_reducible refine Below.drew ?_)))).mono ?_ | with_reducible refine (H3.out _ (by repeat (first | (with_reducible exact Below.refl _ _) | (with_reducible refine Below.setCell ?_ (by first | (simp; done) | (simp; omega) | omega) _) | (with_reducible refine Below.alloc ?_ (by first | (simp; done) | (simp; omega) | omega) _) | (with_reducible refine Below.drew ?_)))).mono ?_ | with_reducible refine (H4.out _ (by repeat (first | (with_reducible exact Below.refl _ _) | (with_reducible refine Below.setCell ?_ (by first | (simp; done) | (simp; omega) | omega) _) | (with_reducible refine Below.alloc ?_ (by first | (simp; done) | (simp; omega) | omega) _) | (with_reducible refine Below.drew ?_)))).mono ?_)
               rintro e w9 ⟨rfl, rfl⟩))
          all_goals
            obtain ⟨wz, hwz⟩ : ∃ wz, ((w.alloc (.cells #[.int .i64 0, .int .u8 0, .int .i64 0, .int .i64 0, .string ⟨#[]⟩, .int .i64 0] 51)).alloc (.cells #[.int .i64 (nO b 0), .int .u8 (wantO b : Nat), .int .i64 (nO b 1), .int .i64 (nO b 2), .string (txR b), .int .i64 (nO b 3)] 51)).drew = wz := ⟨_, rfl⟩
            have hbz : Below w.heap.size w wz := by
              rw [← hwz]
              exact Below.drew (((Below.refl _ _).alloc (Nat.le_refl _) _).alloc (by simp) _)
            have hkz : wz.heap[w.heap.size]? = some (.cells #[.int .i64 0, .int .u8 0, .int .i64 0, .int .i64 0, .string ⟨#[]⟩, .int .i64 0] 51 (0, 0)) := by
              rw [← hwz]
              exact (AlbC.heap_alloc_old _ _ _ (by simp)).trans (heap_alloc_new _ _)
            have hkq : wz.heap[w.heap.size + 1]? = some (.cells #[.int .i64 (nO b 0), .int .u8 (wantO b : Nat), .int .i64 (nO b 1), .int .i64 (nO b 2), .string (txR b), .int .i64 (nO b 3)] 51 (0, 0)) := by
              rw [← hwz]
              have := heap_alloc_new (w.alloc (.cells #[.int .i64 0, .int .u8 0, .int .i64 0, .int .i64 0, .string ⟨#[]⟩, .int .i64 0] 51)) (.cells #[.int .i64 (nO b 0), .int .u8 (wantO b : Nat), .int .i64 (nO b 1), .int .i64 (nO b 2), .string (txR b), .int .i64 (nO b 3)] 51)
              rw [show (w.alloc (.cells #[.int .i64 0, .int .u8 0, .int .i64 0, .int .i64 0, .string ⟨#[]⟩, .int .i64 0] 51)).heap.size = w.heap.size + 1 from by simp] at this
              exact this
            rw [hwz]
            clear hwz
            have c0 : wz.cell? ⟨w.heap.size + 1, 0, none⟩ = some (.int .i64 (nO b 0)) := by simp [World.cell?, hkq]
            have c1 : wz.cell? ⟨w.heap.size + 1, 1, none⟩ = some (.int .u8 (wantO b : Nat)) := by simp [World.cell?, hkq]
            have c2 : wz.cell? ⟨w.heap.size + 1, 2, none⟩ = some (.int .i64 (nO b 1)) := by simp [World.cell?, hkq]
            have c3 : wz.cell? ⟨w.heap.size + 1, 3, none⟩ = some (.int .i64 (nO b 2)) := by simp [World.cell?, hkq]
            have c4 : wz.cell? ⟨w.heap.size + 1, 4, none⟩ = some (.string (txR b)) := by simp [World.cell?, hkq]
            have c5 : wz.cell? ⟨w.heap.size + 1, 5, none⟩ = some (.int .i64 (nO b 3)) := by simp [World.cell?, hkq]
            go_wp2_with fail
            refine (HR.out _).mono ?_
            rintro e w9 ⟨rfl, hb9⟩
            have hk9 := (hb9.block _ (Array.getElem?_eq_some_iff.1 hkz).1).trans hkz
            have hq9 := (hb9.block _ (Array.getElem?_eq_some_iff.1 hkq).1).trans hkq
            have HB9 := hid (hbz.trans (hb9.mono hbz.size))
            have r0 : w9.cell? ⟨w.heap.size, 0, none⟩ = some (.int .i64 0) := by simp [World.cell?, hk9]
            have f0 : w9.frozen? ⟨w.heap.size, 0, none⟩ = false := by simp [World.frozen?, hk9]
            have q0 : w9.cell? ⟨w.heap.size + 1, 0, none⟩ = some (.int .i64 (nO b 0)) := by simp [World.cell?, hq9]
            have r1 : w9.cell? ⟨w.heap.size, 1, none⟩ = some (.int .u8 0) := by simp [World.cell?, hk9]
            have f1 : w9.frozen? ⟨w.heap.size, 1, none⟩ = false := by simp [World.frozen?, hk9]
            have q1 : w9.cell? ⟨w.heap.size + 1, 1, none⟩ = some (.int .u8 (wantO b : Nat)) := by simp [World.cell?, hq9]
            have r2 : w9.cell? ⟨w.heap.size, 2, none⟩ = some (.int .i64 0) := by simp [World.cell?, hk9]
            have f2 : w9.frozen? ⟨w.heap.size, 2, none⟩ = false := by simp [World.frozen?, hk9]
            have q2 : w9.cell? ⟨w.heap.size + 1, 2, none⟩ = some (.int .i64 (nO b 1)) := by simp [World.cell?, hq9]
            have r3 : w9.cell? ⟨w.heap.size, 3, none⟩ = some (.int .i64 0) := by simp [World.cell?, hk9]
            have f3 : w9.frozen? ⟨w.heap.size, 3, none⟩ = false := by simp [World.frozen?, hk9]
            have q3 : w9.cell? ⟨w.heap.size + 1, 3, none⟩ = some (.int .i64 (nO b 2)) := by simp [World.cell?, hq9]
            have r4 : w9.cell? ⟨w.heap.size, 4, none⟩ = some (.string ⟨#[]⟩) := by simp [World.cell?, hk9]
            have f4 : w9.frozen? ⟨w.heap.size, 4, none⟩ = false := by simp [World.frozen?, hk9]
            have q4 : w9.cell? ⟨w.heap.size + 1, 4, none⟩ = some (.string (txR b)) := by simp [World.cell?, hq9]
            have r5 : w9.cell? ⟨w.heap.size, 5, none⟩ = some (.int .i64 0) := by simp [World.cell?, hk9]
            have f5 : w9.frozen? ⟨w.heap.size, 5, none⟩ = false := by simp [World.frozen?, hk9]
            have q5 : w9.cell? ⟨w.heap.size + 1, 5, none⟩ = some (.int .i64 (nO b 3)) := by simp [World.cell?, hq9]
            clear hb9 hk9 hq9 hkz hkq hbz c0 c1 c2 c3 c4 c5
            go_wp2_with fail
            have KK := set6 (y0 := .int .i64 (nO b 0)) (y1 := .int .u8 (wantO b : Nat)) (y2 := .int .i64 (nO b 1)) (y3 := .int .i64 (nO b 2)) (y4 := .string (txR b)) (y5 := .int .i64 (nO b 3)) r0 r1 r2 r3 r4 r5
            obtain ⟨k60, k61, k62, k63, k64, k65⟩ := KK
            refine bodyPost_ret (v := .tuple #[.agg #[.int .i64 (nO b 0), .int .u8 (wantO b : Nat), .int .i64 (nO b 1), .int .i64 (nO b 2), .string (txR b), .int .i64 (nO b 3)], .int .i64 0, .int .i64 0]) (by simp [results, Try.results40, go_sem, k60, k61, k62, k63, k64, k65]) rfl ?_
            exact ⟨rfl, (Below.setCell (Below.setCell (Below.setCell (Below.setCell (Below.setCell (Below.setCell HB9.out (Nat.le_refl _) _) (Nat.le_refl _) _) (Nat.le_refl _) _) (Nat.le_refl _) _) (Nat.le_refl _) _) (Nat.le_refl _) _)⟩

end Go.Proofs.Ythmcfnbnafdkeaa.PrtK

/- Bytes handed in with marked room behind them, and kept; a reader's Fork. -/
namespace Go.Proofs.Ythmcfnbnafdkeaa.FrmH
open Go.ChangeShapes Go.WideShapes Go.ChangeAt Go.RowKit Base Wri Vrw FrmP FrmA FrmD FrmE FrmQ FrmR FrmX FrmY FrmL
set_option linter.unusedVariables false
set_option linter.unusedSimpArgs false

/-- bytes, and the marks behind them -/
def markB (s : Bs) : Nat → Value := fun j => if j < s.length then bv (s.getD j 0) else .int .u8 (160 + (j : Int) - s.length)
theorem markB_in {s : Bs} {k : Nat} {x : UInt8} (h : s[k]? = some x) : markB s k = bv x := by
  unfold markB
  rw [if_pos (List.getElem?_eq_some_iff.1 h).1]
  simp [List.getD, h]
theorem markB_out {s : Bs} {k : Nat} (h : s.length ≤ k) : markB s k = .int .u8 (160 + (k : Int) - s.length) := by unfold markB; rw [if_neg (by omega)]

theorem vrow_bat {w : World} {g n n0 : Nat} {s : Bs} (h : VRow w g n (markB s)) (hn : s.length ≤ n) (hg : g < n0) : BAt w n0 (some ⟨g, 0, none⟩) s := fun _ => ⟨g, 0, rfl, hg, fun i x hx => by
  have hi := (List.getElem?_eq_some_iff.1 hx).1
  rw [Nat.zero_add, (h i (by omega)).1, markB_in hx]⟩

set_option maxRecDepth 20000 in
set_option maxHeartbeats 1000000 in
theorem hand_bytes (a : Option Addr) (cap : Nat) (s : Bs) (w : World) (hn : s.length ≤ 8796093022208) (HB : Hid (BAt w w.heap.size a s)) :
    Calls Try.prog 14 #[.slice a s.length cap] w fun e w' => e = .returned (.slice (some ⟨w.heap.size, 0, none⟩) s.length (s.length + 9)) ∧ VRow w' w.heap.size (s.length + 9) (markB s) ∧ Below w.heap.size w w' ∧ w.heap.size < w'.heap.size := by
  obtain ⟨i0, hi, hz0, hz1, hz2⟩ := info_parts infoU8
  obtain ⟨L, hL⟩ : ∃ L, s.length = L := ⟨_, rfl⟩
  have HL := hid hL
  rw [hL] at hn ⊢
  clear hL
  go_enter Try.func14, Try.ntmps14
  go_wp2_with (at_make; refine wpList_make_full _ rfl _ _ 28 rfl w.heap.size 5 i0 (.int .u8 0) 1 Try.underlying28 hi hz0 hz1 .i64 .i64 ((L : Int) + 9) ((L : Int) + 9) (L + 9) rfl rfl (by omega) (by omega) ?b2 ?b3 (Nat.le_refl _) ?_; rotate_left 2; intro w1 hown hgrow)
  case b2 => rw [hz2]; omega
  case b3 => unfold maxLen; omega
  have HB1 : Hid (Below w.heap.size w w1) := hid ((Below.refl _ _).grown hgrow (Nat.le_refl _) (fun _ e => by cases e))
  have HR1 : Hid (VRow w1 w.heap.size (L + 9) (fillV (fun _ => .int .u8 0) 0 (markB s))) := hid (by
    have hz : ∀ j, j < (L + 9) * 1 → (madeCells (Value.int IntKind.u8 0).cells ((L + 9) * 1)).toList[j]? = some (fillV (fun _ => .int .u8 0) 0 (markB s) j) := by
      intro j hj
      have hj2 : j < L + 9 := by omega
      simp [madeCells, Value.cells, hj2, fillV, Nat.mod_one]
    have := VRow.owned hown hz
    rwa [Nat.mul_one] at this)
  have hs1 : w.heap.size < w1.heap.size := (hown.lt w.heap.size rfl).2
  clear hown hgrow
  obtain ⟨B, hB⟩ : ∃ B, w.heap.size = B := ⟨_, rfl⟩
  rw [hB] at HB1 HR1 hs1 HB ⊢
  go_loopw [4] (fun i wr => ∃ k : Nat, k ≤ L ∧ i = .int .i64 k ∧ VRow wr B (L + 9) (fillV (fun _ => .int .u8 0) k (markB s)) ∧ Below B w wr ∧ B < wr.heap.size) (fun i _ => L - (intOf i).toNat)
  case atStart => exact ⟨0, Nat.zero_le _, rfl, HR1.out, HB1.out, hs1⟩
  case round =>
    obtain ⟨k, hk, rfl, hrow, hbel, hsz⟩ := hrel
    have HR := hid hrow
    have HBl := hid hbel
    clear hrow hbel
    by_cases hlt : k < L
    · obtain ⟨g, o, rfl, hg, hc⟩ := HB.out (by rw [HL.out]; omega)
      obtain ⟨x, hx⟩ : ∃ x, s[k]? = some x := ⟨s[k]'(by rw [HL.out]; exact hlt), List.getElem?_eq_getElem _⟩
      have h1 : wr.cell? ⟨g, o + k, none⟩ = some (.int .u8 (x.toNat : Int)) := (HBl.out.cell (p := ⟨g, o + k, none⟩) hg).trans (hc k x hx)
      have h2 := (HR.out k (by omega)).1
      have h3 := (HR.out k (by omega)).2
      have hgs : g < wr.heap.size := by omega
      have HN := hid (HR.out.set k (by omega) (markB s k))
      rw [fillV_set, markB_in hx] at HN
      have HB2 := hid (HBl.out.setCell (p := ⟨B, k, none⟩) (Nat.le_refl _) (bv x))
      unfold bv at HN HB2
      clear hc hx
      generalize (x.toNat : Int) = y at *
      unfold fillV at h2
      rw [if_neg (Nat.lt_irrefl k)] at h2
      go_wp2_with fail
      go_roundw
      case rel => exact ⟨k + 1, by omega, by go_num, HN.out, HB2.out, by simpa using hsz⟩
      case measure => simp [intOf]; omega
    · obtain rfl : k = L := by omega
      go_wp2_with fail
      go_loopw [5] (fun i wr => ∃ m : Nat, m ≤ k + 9 ∧ i = .int .i64 m ∧ k ≤ m ∧ VRow wr B (k + 9) (fillV (fun _ => .int .u8 0) m (markB s)) ∧ Below B w wr ∧ B < wr.heap.size) (fun i _ => (k + 9) - (intOf i).toNat)
      case atStart => exact ⟨k, by omega, rfl, Nat.le_refl _, HR.out, HBl.out, hsz⟩
      case round =>
        obtain ⟨m, hm, rfl, hkm, hrow, hbel, hsz2⟩ := hrel
        have HR3 := hid hrow
        have HB3 := hid hbel
        clear hrow hbel
        by_cases hml : m < k + 9
        · have h2 := (HR3.out m (by omega)).1
          have h3 := (HR3.out m (by omega)).2
          have HN := hid (HR3.out.set m (by omega) (markB s m))
          rw [fillV_set, markB_out (by rw [HL.out]; exact hkm), HL.out] at HN
          have HB4 := hid (HB3.out.setCell (p := ⟨B, m, none⟩) (Nat.le_refl _) (.int .u8 (160 + (m : Int) - k)))
          unfold fillV at h2
          rw [if_neg (Nat.lt_irrefl m)] at h2
          go_wp2_with fail
          go_roundw
          case rel => exact ⟨m + 1, by omega, by go_num, by omega, HN.out, HB4.out, by simpa using hsz2⟩
          case measure => simp [intOf]; omega
        · obtain rfl : m = k + 9 := by omega
          go_wp2_with fail
          go_ret
          subst hB
          exact ⟨rfl, HR3.out.congr (fun j hj => by simp [fillV, hj]), HB3.out, hsz2⟩

set_option maxRecDepth 20000 in
set_option maxHeartbeats 1000000 in
theorem kept_bytes (a : Option Addr) (g cap : Nat) (s : Bs) (w : World) (hn : s.length ≤ 8796093022208) (hg : g < w.heap.size) (HB : Hid (BAt w w.heap.size a s)) (hr : VRow w g (s.length + 9) (markB s)) :
    Calls Try.prog 24 #[.slice (some ⟨g, 0, none⟩) s.length (s.length + 9), .slice a s.length cap] w fun e w' => e = .returned (.bool true) ∧ ∃ m, w.drewN m = w' := by
  have HS := hid (same_bytes (some ⟨g, 0, none⟩) a (s.length + 9) cap s w (by omega) (hid (vrow_bat hr (by omega) hg)) HB)
  have HR := hid hr
  obtain ⟨L, hL⟩ : ∃ L, s.length = L := ⟨_, rfl⟩
  have HL := hid hL
  rw [hL] at hn HS HR ⊢
  clear hr hL
  go_enter Try.func24, Try.ntmps24
  go_wp2_with fail
  refine HS.out.mono ?_
  rintro e w1 ⟨rfl, m1, hw1⟩
  clear HS
  go_wp2_with fail
  go_loopw [6] (fun i wr => ∃ k m : Nat, k ≤ L + 9 ∧ L ≤ k ∧ i = .int .i64 k ∧ w.drewN m = wr) (fun i _ => L + 9 - (intOf i).toNat)
  case atStart => exact ⟨L, m1, by omega, Nat.le_refl _, rfl, hw1⟩
  case round =>
    obtain ⟨k, m, hk, hnk, rfl, hwr⟩ := hrel
    by_cases hlt : k < L + 9
    · have h1 : wr.cell? ⟨g, k, none⟩ = some (.int .u8 (160 + (k : Int) - L)) := by
        rw [← hwr]
        have := (HR.out k hlt).1
        rw [markB_out (by rw [HL.out]; exact hnk), HL.out] at this
        exact this
      have HW := hid hwr
      clear hwr hw1
      go_wp2_with fail
      go_roundw
      case rel => exact ⟨k + 1, m, by omega, by omega, by go_num, HW.out⟩
      case measure => simp [intOf]; omega
    · go_wp2
      go_ret
      exact ⟨rfl, m, hwr⟩

end Go.Proofs.Ythmcfnbnafdkeaa.FrmH

/- What must be, whatever is asked of requests; the law ProtoReads. -/
namespace Go.Proofs.Ythmcfnbnafdkeaa.PrtQ
open Go.ChangeShapes Go.WideShapes Go.ChangeAt Go.RowKit Base Wri Vrw FrmP FrmA FrmD FrmE FrmF FrmR FrmX FrmL FrmC2 FrmK FrmK2 FrmH RulA PrtA PrtB PrtC PrtD PrtE PrtF PrtG PrtH PrtI PrtJ PrtK PrtP
set_option linter.unusedVariables false
set_option linter.unusedSimpArgs false

/-- an own row, as its bytes lie -/
theorem own_bytes {W : World} {B n k : Nat} {x : Option Addr} {s : Bs} (h : W.ownsRow B 5 1 (.slice x n k) n (s.map bv)) (hn : n = s.length) : n ≤ k ∧ k ≤ 9223372036854775807 ∧ (∀ ad, x = some ad → ad.block < W.heap.size) ∧ (∀ n0, (∀ ad, x = some ad → ad.block < n0) → BAt W n0 x s) := by
  obtain ⟨h1, h2, h3, h4, h5⟩ := own_room h hn
  refine ⟨h1, h2, fun ad e => ?_, fun n0 h6 h0 => ?_⟩
  · rcases h.2 with ⟨e1, _⟩ | ⟨g, cap, cur, e1, _⟩
    · injection e1 with e2 _ _; rw [e2] at e; cases e
    · injection e1 with e2 _ _
      rw [e2] at e
      cases e
      subst e2
      exact (h.lt g rfl).2
  · obtain ⟨g, o, e, hg, hc⟩ := h4 h0
    exact ⟨g, o, e, h6 _ e, hc⟩

def rq7 : Rq := ⟨1, 4, 0, 0, ⟨#[]⟩, 7⟩
theorem rq7_right : rightQ rq7 = true := by decide +kernel
theorem rq7_bytes : encR rq7 = [4, 0, 0, 0, 0, 0, 0, 0, 1, 0, 0, 0, 0, 0, 0, 0, 0, 0, 0, 0, 0, 0, 0, 0, 0, 0, 0, 0, 0, 0, 0, 0, 7, 0] := by decide +kernel

set_option maxRecDepth 20000 in
set_option maxHeartbeats 4000000 in
theorem live_any (w : World) : Calls Try.prog 31 #[] w fun e w' => e = .returned (.bool true) ∧ Below w.heap.size w w' := by
  have HQ := hid (request_any rq7 w (by decide))
  rw [show rv rq7 = .agg #[.int .i64 1, .int .u8 4, .int .i64 0, .int .i64 0, .string ⟨#[]⟩, .int .i64 7] from rfl, rq7_right] at HQ
  go_enter Try.func31, Try.ntmps31
  go_wp2_with fail
  refine HQ.out.mono ?_
  rintro e w1 ⟨va, vc, he, hown, hb1⟩
  have ho : outB true (encR rq7) = encR rq7 := rfl
  rw [ho] at he hown
  have hlen : (encR rq7).length = 34 := by rw [rq7_bytes]; rfl
  obtain ⟨k1, k2, k3, k4⟩ := own_bytes hown rfl
  have HR := hid (readRequest_any va vc (encR rq7) w1 (hid k4) k1 k2 k3)
  rw [read_back rq7_right, show rv rq7 = .agg #[.int .i64 1, .int .u8 4, .int .i64 0, .int .i64 0, .string ⟨#[]⟩, .int .i64 7] from rfl, hlen] at HR
  rw [hlen] at he
  have he : e = .returned (.tuple #[.slice va 34 vc, .int .i64 0]) := he
  subst he
  obtain ⟨g, o, rfl, hg, hc⟩ := k4 w1.heap.size k3 (by rw [hlen]; omega)
  rw [rq7_bytes] at hc
  have z0 : w1.cell? ⟨g, o, none⟩ = some (.int .u8 4) := hc 0 4 rfl
  have z8 : w1.cell? ⟨g, o + 8, none⟩ = some (.int .u8 1) := hc 8 1 rfl
  have z32 : w1.cell? ⟨g, o + 32, none⟩ = some (.int .u8 7) := hc 32 7 rfl
  have HB1 := hid hb1
  have hgl : g < w1.heap.size := hg
  have hvc : 34 ≤ vc := by rw [hlen] at k1; exact k1
  clear hown hb1 k1 k2 k3 k4 hc hlen ho HQ hg
  go_wp2_with fail
  refine HR.out.mono ?_
  rintro e w2 ⟨rfl, hb2⟩
  have y0 := (hb2.cell (p := ⟨g, o, none⟩) hgl).trans z0
  have y8 := (hb2.cell (p := ⟨g, o + 8, none⟩) hgl).trans z8
  have y32 := (hb2.cell (p := ⟨g, o + 32, none⟩) hgl).trans z32
  have hgl2 : g < w2.heap.size := Nat.lt_of_lt_of_le hgl hb2.size
  have HB2 := hid (HB1.out.trans (hb2.mono HB1.out.size))
  clear hb2 z0 z8 z32 HR
  go_wp2_with fail
  go_ret
  exact ⟨rfl, HB2.out.alloc HB2.out.size _⟩

end Go.Proofs.Ythmcfnbnafdkeaa.PrtQ

/- How many rows a slice that came in may have, by what it weighs. -/
namespace Go.Proofs.Ythmcfnbnafdkeaa.Room
open Go.ChangeShapes Go.WideShapes Go.Deep Go.RowKit Opn

theorem rows_room {H : Type} {enc : TypeId × Value → H} {P : Program} {w : World} {base : Nat} {spare : Nat → Bool} {held : Bool} {t e : TypeId} {fuel : Nat} {a0 : Option Addr} {len cap : Nat} {x : DataW H × List MemPlace} (ht : P.underlying t = some (.slice e))
    (h : DataW.trod enc P w base spare held fuel t [.slice a0 len cap] = some x) (hw : ∀ m ∈ x.1.weights P t, m ≤ reachBytes) : len * P.bytesOf e ≤ reachBytes := by
  rcases open_slice ht h with ⟨hn, _⟩ | ⟨a, l, c, m, n, D, Pl, hcs, _, hl, hm, hmm, hx, hi⟩
  · simp at hn
    rw [hn.2.1, Nat.zero_mul]; exact Nat.zero_le _
  · simp at hcs
    obtain ⟨rfl, rfl, rfl⟩ := hcs
    have hx1 := congrArg Prod.fst hx
    dsimp only at hx1
    rw [hx1] at hw
    unfold DataW.weights at hw
    rw [ht] at hw
    have := hw _ List.mem_cons_self
    simp at this
    exact Nat.le_trans (Nat.mul_le_mul_right _ (Nat.le_add_right _ _)) this

end Go.Proofs.Ythmcfnbnafdkeaa.Room

/- Bytes of any length handed in with marked room behind them, and kept; bytes as an argument; the law ProtoReads. -/
namespace Go.Proofs.Ythmcfnbnafdkeaa.PrtU
open Go.ChangeShapes Go.WideShapes Go.ChangeAt Go.RowKit Go.Deep Base Opn Wri Vrw FrmP FrmA FrmD FrmE FrmQ FrmR FrmX FrmY FrmL FrmH
set_option linter.unusedVariables false
set_option linter.unusedSimpArgs false

set_option maxRecDepth 20000 in
set_option maxHeartbeats 1000000 in
theorem hand_any (a : Option Addr) (cap : Nat) (s : Bs) (w : World) (hn : s.length ≤ 140737488351232) (HB : Hid (BAt w w.heap.size a s)) :
    Calls Try.prog 14 #[.slice a s.length cap] w fun e w' => e = .returned (.slice (some ⟨w.heap.size, 0, none⟩) s.length (s.length + 9)) ∧ VRow w' w.heap.size (s.length + 9) (markB s) ∧ Below w.heap.size w w' ∧ w.heap.size < w'.heap.size := by
  obtain ⟨i0, hi, hz0, hz1, hz2⟩ := info_parts infoU8
  obtain ⟨L, hL⟩ : ∃ L, s.length = L := ⟨_, rfl⟩
  have HL := hid hL
  rw [hL] at hn ⊢
  clear hL
  go_enter Try.func14, Try.ntmps14
  go_wp2_with (at_make; refine wpList_make_full _ rfl _ _ 28 rfl w.heap.size 5 i0 (.int .u8 0) 1 Try.underlying28 hi hz0 hz1 .i64 .i64 ((L : Int) + 9) ((L : Int) + 9) (L + 9) rfl rfl (by omega) (by omega) ?b2 ?b3 (Nat.le_refl _) ?_; rotate_left 2; intro w1 hown hgrow)
  case b2 => rw [hz2]; omega
  case b3 => unfold maxLen; omega
  have HB1 : Hid (Below w.heap.size w w1) := hid ((Below.refl _ _).grown hgrow (Nat.le_refl _) (fun _ e => by cases e))
  have HR1 : Hid (VRow w1 w.heap.size (L + 9) (fillV (fun _ => .int .u8 0) 0 (markB s))) := hid (by
    have hz : ∀ j, j < (L + 9) * 1 → (madeCells (Value.int IntKind.u8 0).cells ((L + 9) * 1)).toList[j]? = some (fillV (fun _ => .int .u8 0) 0 (markB s) j) := by
      intro j hj
      have hj2 : j < L + 9 := by omega
      simp [madeCells, Value.cells, hj2, fillV, Nat.mod_one]
    have := VRow.owned hown hz
    rwa [Nat.mul_one] at this)
  have hs1 : w.heap.size < w1.heap.size := (hown.lt w.heap.size rfl).2
  clear hown hgrow
  obtain ⟨B, hB⟩ : ∃ B, w.heap.size = B := ⟨_, rfl⟩
  rw [hB] at HB1 HR1 hs1 HB ⊢
  go_loopw [4] (fun i wr => ∃ k : Nat, k ≤ L ∧ i = .int .i64 k ∧ VRow wr B (L + 9) (fillV (fun _ => .int .u8 0) k (markB s)) ∧ Below B w wr ∧ B < wr.heap.size) (fun i _ => L - (intOf i).toNat)
  case atStart => exact ⟨0, Nat.zero_le _, rfl, HR1.out, HB1.out, hs1⟩
  case round =>
    obtain ⟨k, hk, rfl, hrow, hbel, hsz⟩ := hrel
    have HR := hid hrow
    have HBl := hid hbel
    clear hrow hbel
    by_cases hlt : k < L
    · obtain ⟨g, o, rfl, hg, hc⟩ := HB.out (by rw [HL.out]; omega)
      obtain ⟨x, hx⟩ : ∃ x, s[k]? = some x := ⟨s[k]'(by rw [HL.out]; exact hlt), List.getElem?_eq_getElem _⟩
      have h1 : wr.cell? ⟨g, o + k, none⟩ = some (.int .u8 (x.toNat : Int)) := (HBl.out.cell (p := ⟨g, o + k, none⟩) hg).trans (hc k x hx)
      have h2 := (HR.out k (by omega)).1
      have h3 := (HR.out k (by omega)).2
      have hgs : g < wr.heap.size := by omega
      have HN := hid (HR.out.set k (by omega) (markB s k))
      rw [fillV_set, markB_in hx] at HN
      have HB2 := hid (HBl.out.setCell (p := ⟨B, k, none⟩) (Nat.le_refl _) (bv x))
      unfold bv at HN HB2
      clear hc hx
      generalize (x.toNat : Int) = y at *
      unfold fillV at h2
      rw [if_neg (Nat.lt_irrefl k)] at h2
      go_wp2_with fail
      go_roundw
      case rel => exact ⟨k + 1, by omega, by go_num, HN.out, HB2.out, by simpa using hsz⟩
      case measure => simp [intOf]; omega
    · obtain rfl : k = L := by omega
      go_wp2_with fail
      go_loopw [5] (fun i wr => ∃ m : Nat, m ≤ k + 9 ∧ i = .int .i64 m ∧ k ≤ m ∧ VRow wr B (k + 9) (fillV (fun _ => .int .u8 0) m (markB s)) ∧ Below B w wr ∧ B < wr.heap.size) (fun i _ => (k + 9) - (intOf i).toNat)
      case atStart => exact ⟨k, by omega, rfl, Nat.le_refl _, HR.out, HBl.out, hsz⟩
      case round =>
        obtain ⟨m, hm, rfl, hkm, hrow, hbel, hsz2⟩ := hrel
        have HR3 := hid hrow
        have HB3 := hid hbel
        clear hrow hbel
        by_cases hml : m < k + 9
        · have h2 := (HR3.out m (by omega)).1
          have h3 := (HR3.out m (by omega)).2
          have HN := hid (HR3.out.set m (by omega) (markB s m))
          rw [fillV_set, markB_out (by rw [HL.out]; exact hkm), HL.out] at HN
          have HB4 := hid (HB3.out.setCell (p := ⟨B, m, none⟩) (Nat.le_refl _) (.int .u8 (160 + (m : Int) - k)))
          unfold fillV at h2
          rw [if_neg (Nat.lt_irrefl m)] at h2
          go_wp2_with fail
          go_roundw
          case rel => exact ⟨m + 1, by omega, by go_num, by omega, HN.out, HB4.out, by simpa using hsz2⟩
          case measure => simp [intOf]; omega
        · obtain rfl : m = k + 9 := by omega
          go_wp2_with fail
          go_ret
          subst hB
          exact ⟨rfl, HR3.out.congr (fun j hj => by simp [fillV, hj]), HB3.out, hsz2⟩

set_option maxRecDepth 20000 in
set_option maxHeartbeats 1000000 in
theorem kept_any (a : Option Addr) (g cap : Nat) (s : Bs) (w : World) (hn : s.length ≤ 140737488351232) (hg : g < w.heap.size) (HB : Hid (BAt w w.heap.size a s)) (hr : VRow w g (s.length + 9) (markB s)) :
    Calls Try.prog 24 #[.slice (some ⟨g, 0, none⟩) s.length (s.length + 9), .slice a s.length cap] w fun e w' => e = .returned (.bool true) ∧ ∃ m, w.drewN m = w' := by
  have HS := hid (same_bytes (some ⟨g, 0, none⟩) a (s.length + 9) cap s w (by omega) (hid (vrow_bat hr (by omega) hg)) HB)
  have HR := hid hr
  obtain ⟨L, hL⟩ : ∃ L, s.length = L := ⟨_, rfl⟩
  have HL := hid hL
  rw [hL] at hn HS HR ⊢
  clear hr hL
  go_enter Try.func24, Try.ntmps24
  go_wp2_with fail
  refine HS.out.mono ?_
  rintro e w1 ⟨rfl, m1, hw1⟩
  clear HS
  go_wp2_with fail
  go_loopw [6] (fun i wr => ∃ k m : Nat, k ≤ L + 9 ∧ L ≤ k ∧ i = .int .i64 k ∧ w.drewN m = wr) (fun i _ => L + 9 - (intOf i).toNat)
  case atStart => exact ⟨L, m1, by omega, Nat.le_refl _, rfl, hw1⟩
  case round =>
    obtain ⟨k, m, hk, hnk, rfl, hwr⟩ := hrel
    by_cases hlt : k < L + 9
    · have h1 : wr.cell? ⟨g, k, none⟩ = some (.int .u8 (160 + (k : Int) - L)) := by
        rw [← hwr]
        have := (HR.out k hlt).1
        rw [markB_out (by rw [HL.out]; exact hnk), HL.out] at this
        exact this
      have HW := hid hwr
      clear hwr hw1
      go_wp2_with fail
      go_roundw
      case rel => exact ⟨k + 1, m, by omega, by omega, by go_num, HW.out⟩
      case measure => simp [intOf]; omega
    · go_wp2
      go_ret
      exact ⟨rfl, m, hwr⟩

theorem bytes_of {H : Type} {enc : TypeId × Value → H} {w : World} {base : Nat} {held : Bool} {k : Nat} {v : Value} {z : DataW H × List MemPlace} (h : DataW.trod enc Try.prog w base (fun _ => true) held k 28 [v] = some z) :
    ∃ (a : Option Addr) (cap : Nat) (s : Bs), v = .slice a s.length cap ∧ BAt w w.heap.size a s ∧ s.length ≤ cap ∧ cap ≤ maxLen := by
  rcases open_slice1 Try.underlying28 (by kernel_rfl) h with ⟨hn, _⟩ | ⟨a, l, c, m, n, V, D, Pl, hcs, _, hl, hm, hmm, hx, hi⟩
  · simp at hn
    exact ⟨none, 0, [], hn, fun h => absurd h (by decide), Nat.le_refl _, Nat.zero_le _⟩
  · simp at hcs hmm
    have each : ∀ i, i < m → ∃ x : UInt8, w.cell? (a.add i) = some (bv x) := fun i him => by
      obtain ⟨h1, h2⟩ := hi i him
      obtain ⟨n0, e0, _, hw⟩ := DataW.trod_int Try.underlying5 h2
      simp at e0
      have hb : 0 ≤ n0 ∧ n0 ≤ 255 := by
        simp [Lit.wf, IntKind.min, IntKind.max, IntKind.bits, IntKind.signed] at hw
        omega
      refine ⟨UInt8.ofNat n0.toNat, ?_⟩
      rw [h1, e0]
      unfold bv
      congr 2
      simp
      omega
    obtain ⟨f, hf⟩ := choose2 (n := m) (0 : UInt8) each
    have hsl : ((List.range l).map f).length = l := by simp
    refine ⟨some a, c, (List.range l).map f, by rw [hsl]; exact hcs, fun h0 => ?_, by rw [hsl]; exact hl, ?_⟩
    · rw [hsl] at h0
      obtain ⟨b, off, spot⟩ := a
      have h00 := hf 0 (by omega)
      have hspot : spot = none := by simpa [Addr.add] using World.cell?_spot h00
      subst hspot
      refine ⟨b, off, rfl, World.block_lt_of_cell? _ _ h00, fun i x hx => ?_⟩
      rw [List.getElem?_map] at hx
      have hil : i < l := by
        apply Decidable.byContradiction
        intro hc
        rw [List.getElem?_eq_none (by simp; omega)] at hx
        cases hx
      rw [List.getElem?_range hil] at hx
      simp at hx
      have := hf i (by omega)
      rw [Go.WideShapes.add_plain, hx] at this
      exact this
    · exact Nat.le_trans (by omega) hm

theorem bytes_sized {H : Type} {enc : TypeId × Value → H} {W : World} {base : Nat} {held : Bool} {a0 : Option Addr} {len0 cap0 : Nat} {d : DataW H} {p : List MemPlace}
    (h : DataW.Trod enc Try.prog W base (fun _ => true) held 28 (.slice a0 len0 cap0) d p) (hz : ∀ m ∈ d.weights Try.prog 28, m ≤ reachBytes) : ∃ s : Bs, s.length = len0 ∧ BAt W W.heap.size a0 s ∧ len0 ≤ cap0 ∧ cap0 ≤ maxLen ∧ len0 ≤ 140737488351232 := by
  obtain ⟨fuel, hf⟩ := h
  have hf' : DataW.trod enc Try.prog W base (fun _ => true) held fuel 28 [.slice a0 len0 cap0] = some (d, p) := by simpa [Value.cells] using hf
  have hr := Room.rows_room Try.underlying28 hf' hz
  rw [show Try.prog.bytesOf 5 = 1 by kernel_rfl] at hr
  unfold reachBytes at hr
  obtain ⟨a, cap, s, e, h1, h2, h3⟩ := bytes_of hf'
  injection e with e1 e2 e3
  subst e1 e2 e3
  exact ⟨s, rfl, h1, h2, h3, by omega⟩

end Go.Proofs.Ythmcfnbnafdkeaa.PrtU

/- The law ProtoReads. -/
namespace Go.Proofs.Ythmcfnbnafdkeaa.PrtV
open Go.ChangeShapes Go.WideShapes Go.ChangeAt Go.RowKit Go.Deep Base Wri Vrw FrmP FrmA FrmD FrmE FrmF FrmR FrmX FrmL FrmC2 FrmK FrmK2 FrmH RulA PrtA PrtB PrtC PrtD PrtE PrtF PrtG PrtH PrtI PrtJ PrtK PrtP PrtQ PrtU
set_option linter.unusedVariables false
set_option linter.unusedSimpArgs false

theorem toldR_shape (b : Bs) : ∃ (x0 x1 x2 x3 : Int) (t : ByteArray) (x5 e p : Int), toldRequest b = .tuple #[.agg #[.int .i64 x0, .int .u8 x1, .int .i64 x2, .int .i64 x3, .string t, .int .i64 x5], .int .i64 e, .int .i64 p] := by
  unfold toldRequest
  split <;> exact ⟨_, _, _, _, _, _, _, _, rfl⟩
theorem toldA_shape (b : Bs) : ∃ (x0 x1 x2 x3 x4 e p : Int), toldAnswer b = .tuple #[.agg #[.int .i64 x0, .int .u8 x1, .int .i64 x2, .int .i64 x3, .int .i64 x4], .int .i64 e, .int .i64 p] := by
  unfold toldAnswer
  split <;> exact ⟨_, _, _, _, _, _, _, rfl⟩

theorem size_alloc (W : World) (o : Obj) : (W.alloc o).heap.size = W.heap.size + 1 := by simp

def Six (W : World) (p : Nat) (a b c d e f : Value) : Prop := W.cell? ⟨p, 0, none⟩ = some a ∧ W.cell? ⟨p, 1, none⟩ = some b ∧ W.cell? ⟨p, 2, none⟩ = some c ∧ W.cell? ⟨p, 3, none⟩ = some d ∧ W.cell? ⟨p, 4, none⟩ = some e ∧ W.cell? ⟨p, 5, none⟩ = some f
def Five (W : World) (p : Nat) (a b c d e : Value) : Prop := W.cell? ⟨p, 0, none⟩ = some a ∧ W.cell? ⟨p, 1, none⟩ = some b ∧ W.cell? ⟨p, 2, none⟩ = some c ∧ W.cell? ⟨p, 3, none⟩ = some d ∧ W.cell? ⟨p, 4, none⟩ = some e
theorem cells6 {W W' : World} {p n : Nat} {a b c d e f : Value} (h : Six W p a b c d e f) (hb : Below n W W') (hp : p < n) : Six W' p a b c d e f :=
  ⟨(hb.cell (p := ⟨p, 0, none⟩) hp).trans h.1, (hb.cell (p := ⟨p, 1, none⟩) hp).trans h.2.1, (hb.cell (p := ⟨p, 2, none⟩) hp).trans h.2.2.1, (hb.cell (p := ⟨p, 3, none⟩) hp).trans h.2.2.2.1, (hb.cell (p := ⟨p, 4, none⟩) hp).trans h.2.2.2.2.1, (hb.cell (p := ⟨p, 5, none⟩) hp).trans h.2.2.2.2.2⟩
theorem cells5 {W W' : World} {p n : Nat} {a b c d e : Value} (h : Five W p a b c d e) (hb : Below n W W') (hp : p < n) : Five W' p a b c d e :=
  ⟨(hb.cell (p := ⟨p, 0, none⟩) hp).trans h.1, (hb.cell (p := ⟨p, 1, none⟩) hp).trans h.2.1, (hb.cell (p := ⟨p, 2, none⟩) hp).trans h.2.2.1, (hb.cell (p := ⟨p, 3, none⟩) hp).trans h.2.2.2.1, (hb.cell (p := ⟨p, 4, none⟩) hp).trans h.2.2.2.2⟩
theorem six_new {W : World} {a b c d e f : Value} {t : TypeId} : Six (W.alloc (.cells #[a, b, c, d, e, f] t)) W.heap.size a b c d e f := by
  refine ⟨?_, ?_, ?_, ?_, ?_, ?_⟩ <;> (unfold World.cell?; rw [heap_alloc_new]; rfl)
theorem five_new {W : World} {a b c d e : Value} {t : TypeId} : Five (W.alloc (.cells #[a, b, c, d, e] t)) W.heap.size a b c d e := by
  refine ⟨?_, ?_, ?_, ?_, ?_⟩ <;> (unfold World.cell?; rw [heap_alloc_new]; rfl)

set_option maxRecDepth 20000 in
set_option maxHeartbeats 4000000 in
theorem reads_core (a : Option Addr) (c : Nat) (s : Bs) (w : World) (hn : s.length ≤ 140737488351232) (hc : s.length ≤ c) (hc2 : c ≤ 9223372036854775807) (HB : Hid (BAt w w.heap.size a s)) :
    Calls Try.prog 5 #[.slice a s.length c] w fun e w' => e = .returned (.bool true) ∧ Below w.heap.size w w' := by
  have HH := hid (hand_any a c s w hn HB)
  obtain ⟨x0, x1, x2, x3, t, x5, xe, xp, hR⟩ := toldR_shape s
  obtain ⟨y0, y1, y2, y3, y4, ye, yp, hA⟩ := toldA_shape s
  have K2 : Hid (∀ W', Below w.heap.size w W' → Calls Try.prog 40 #[.slice a s.length c] W' fun e w' => e = .returned (toldRequest s) ∧ Below W'.heap.size W' w') := hid fun W' hb => rreadRequest_any a c s W' (hid ((HB.out.below hb).mono hb.size)) hc hc2 (by omega)
  have K4 : Hid (∀ W', Below w.heap.size w W' → Calls Try.prog 42 #[.slice a s.length c] W' fun e w' => e = .returned (toldAnswer s) ∧ Below W'.heap.size W' w') := hid fun W' hb => rreadAnswer_any a c s W' (hid ((HB.out.below hb).mono hb.size)) hc hc2 (by omega)
  have K1 : Hid (∀ w1 W', VRow w1 w.heap.size (s.length + 9) (markB s) → w.heap.size < w1.heap.size → Below w1.heap.size w1 W' → Calls Try.prog 39 #[.slice (some ⟨w.heap.size, 0, none⟩) s.length (s.length + 9)] W' fun e w' => e = .returned (toldRequest s) ∧ Below W'.heap.size W' w') := hid fun w1 W' hr hs hb => readRequest_any _ (s.length + 9) s W' (hid fun n0 h => vrow_bat (hr.of_block (hb.block _ hs)) (by omega) (h _ rfl)) (by omega) (by omega) (fun ad e => by cases e; exact Nat.lt_of_lt_of_le hs hb.size)
  have K3 : Hid (∀ w1 W', VRow w1 w.heap.size (s.length + 9) (markB s) → w.heap.size < w1.heap.size → Below w1.heap.size w1 W' → Calls Try.prog 41 #[.slice (some ⟨w.heap.size, 0, none⟩) s.length (s.length + 9)] W' fun e w' => e = .returned (toldAnswer s) ∧ Below W'.heap.size W' w') := hid fun w1 W' hr hs hb => readAnswer_any _ (s.length + 9) s W' (hid fun n0 h => vrow_bat (hr.of_block (hb.block _ hs)) (by omega) (h _ rfl)) (by omega) (by omega) (fun ad e => by cases e; exact Nat.lt_of_lt_of_le hs hb.size)
  have K5 : Hid (∀ w1 W', VRow w1 w.heap.size (s.length + 9) (markB s) → w.heap.size < w1.heap.size → Below w1.heap.size w1 W' → Below w.heap.size w W' → Calls Try.prog 24 #[.slice (some ⟨w.heap.size, 0, none⟩) s.length (s.length + 9), .slice a s.length c] W' fun e w' => e = .returned (.bool true) ∧ ∃ m, W'.drewN m = w') := hid fun w1 W' hr hs hb hb0 => kept_any a w.heap.size c s W' hn (Nat.lt_of_lt_of_le hs hb.size) (hid ((HB.out.below hb0).mono hb0.size)) (hr.of_block (hb.block _ hs))
  rw [hR] at K1 K2
  rw [hA] at K3 K4
  obtain ⟨L, hL⟩ : ∃ L, s.length = L := ⟨_, rfl⟩
  rw [hL] at HH K1 K2 K3 K4 K5 hn hc ⊢
  clear hL hR hA
  obtain ⟨B, hB⟩ : ∃ B, w.heap.size = B := ⟨_, rfl⟩
  rw [hB] at HH K1 K2 K3 K4 K5 ⊢
  have HBe := hid hB
  clear hB HB
  go_enter Try.func5, Try.ntmps5
  go_wp2_with fail
  refine HH.out.mono ?_
  rintro e w1 ⟨rfl, hrow, hb1, hs1⟩
  have HR := hid hrow
  have HB1 := hid hb1
  have HS1 := hid hs1
  clear hrow hb1 hs1
  go_wp2_with fail
  refine (K1.out w1 _ HR.out HS1.out (Below.refl _ _)).mono ?_
  rintro e w2 ⟨rfl, hb2⟩
  have HB2 := hid hb2
  clear hb2
  go_wp2_with fail
  have A2 := hid ((HB2.out.alloc HB2.out.size (.cells #[.int .i64 x0, .int .u8 x1, .int .i64 x2, .int .i64 x3, .string t, .int .i64 x5] 51)))
  have E2 := hid (HB1.out.trans (A2.out.mono (Nat.le_of_lt HS1.out)))
  refine (K2.out _ E2.out).mono ?_
  rintro e w3 ⟨rfl, hb3⟩
  have hz3 : w2.heap.size < w3.heap.size := Nat.lt_of_lt_of_le (by rw [size_alloc]; exact Nat.lt_succ_self _) hb3.size
  have z := cells6 six_new hb3 (by rw [size_alloc]; exact Nat.lt_succ_self _)
  have A3 := hid (A2.out.trans (hb3.mono A2.out.size))
  have E3 := hid (E2.out.trans (hb3.mono (HBe.out ▸ E2.out.size)))
  clear hb3
  obtain ⟨p2, hp2⟩ : ∃ p, w2.heap.size = p := ⟨_, rfl⟩
  rw [hp2] at z hz3 ⊢
  have Z3 := hid z
  have QZ3 := hid hz3
  clear z hp2 A2 E2 HB2 hz3
  go_wp2_with fail
  have A3a := hid (A3.out.alloc A3.out.size (.cells #[.int .i64 x0, .int .u8 x1, .int .i64 x2, .int .i64 x3, .string t, .int .i64 x5] 51))
  have E3a := hid (E3.out.alloc (HBe.out ▸ E3.out.size) (.cells #[.int .i64 x0, .int .u8 x1, .int .i64 x2, .int .i64 x3, .string t, .int .i64 x5] 51))
  have I3 := hid ((Below.refl w3.heap.size w3).alloc (Nat.le_refl _) (.cells #[.int .i64 x0, .int .u8 x1, .int .i64 x2, .int .i64 x3, .string t, .int .i64 x5] 51))
  refine (K3.out w1 _ HR.out HS1.out A3a.out).mono ?_
  rintro e w4 ⟨rfl, hb⟩
  have hz : w3.heap.size < w4.heap.size := Nat.lt_of_lt_of_le (by rw [size_alloc]; exact Nat.lt_succ_self _) hb.size
  have Z4 := hid (cells6 (cells6 Z3.out I3.out QZ3.out) hb (by rw [size_alloc]; exact Nat.lt_succ_of_lt QZ3.out))
  have QZ4 := hid (Nat.lt_trans QZ3.out hz)
  have nw := cells6 six_new hb (by rw [size_alloc]; exact Nat.lt_succ_self _)
  have A4 := hid (A3a.out.trans (hb.mono A3a.out.size))
  have E4 := hid (E3a.out.trans (hb.mono (HBe.out ▸ E3a.out.size)))
  clear hb
  obtain ⟨p3, hp⟩ : ∃ p, w3.heap.size = p := ⟨_, rfl⟩
  rw [hp] at nw hz ⊢
  have N4 := hid nw
  have QN4 := hid hz
  clear nw hz hp A3 E3 A3a E3a I3 Z3 QZ3
  go_wp2_with fail
  have A4a := hid (A4.out.alloc A4.out.size (.cells #[.int .i64 y0, .int .u8 y1, .int .i64 y2, .int .i64 y3, .int .i64 y4] 54))
  have E4a := hid (E4.out.alloc (HBe.out ▸ E4.out.size) (.cells #[.int .i64 y0, .int .u8 y1, .int .i64 y2, .int .i64 y3, .int .i64 y4] 54))
  have I4 := hid ((Below.refl w4.heap.size w4).alloc (Nat.le_refl _) (.cells #[.int .i64 y0, .int .u8 y1, .int .i64 y2, .int .i64 y3, .int .i64 y4] 54))
  refine (K4.out _ E4a.out).mono ?_
  rintro e w5 ⟨rfl, hb⟩
  have hz : w4.heap.size < w5.heap.size := Nat.lt_of_lt_of_le (by rw [size_alloc]; exact Nat.lt_succ_self _) hb.size
  have Z5 := hid (cells6 (cells6 Z4.out I4.out QZ4.out) hb (by rw [size_alloc]; exact Nat.lt_succ_of_lt QZ4.out))
  have QZ5 := hid (Nat.lt_trans QZ4.out hz)
  have N5 := hid (cells6 (cells6 N4.out I4.out QN4.out) hb (by rw [size_alloc]; exact Nat.lt_succ_of_lt QN4.out))
  have QN5 := hid (Nat.lt_trans QN4.out hz)
  have nw := cells5 five_new hb (by rw [size_alloc]; exact Nat.lt_succ_self _)
  have A5 := hid (A4a.out.trans (hb.mono A4a.out.size))
  have E5 := hid (E4a.out.trans (hb.mono (HBe.out ▸ E4a.out.size)))
  clear hb
  obtain ⟨p4, hp⟩ : ∃ p, w4.heap.size = p := ⟨_, rfl⟩
  rw [hp] at nw hz ⊢
  have F5 := hid nw
  have QF5 := hid hz
  clear nw hz hp A4 E4 A4a E4a I4 Z4 QZ4 N4 QN4
  go_wp2_with fail
  have A5a := hid (A5.out.alloc A5.out.size (.cells #[.int .i64 y0, .int .u8 y1, .int .i64 y2, .int .i64 y3, .int .i64 y4] 54))
  have E5a := hid (E5.out.alloc (HBe.out ▸ E5.out.size) (.cells #[.int .i64 y0, .int .u8 y1, .int .i64 y2, .int .i64 y3, .int .i64 y4] 54))
  have I5 := hid ((Below.refl w5.heap.size w5).alloc (Nat.le_refl _) (.cells #[.int .i64 y0, .int .u8 y1, .int .i64 y2, .int .i64 y3, .int .i64 y4] 54))
  refine (PrtQ.live_any _).mono ?_
  rintro e w6 ⟨rfl, hb⟩
  have hz : w5.heap.size < w6.heap.size := Nat.lt_of_lt_of_le (by rw [size_alloc]; exact Nat.lt_succ_self _) hb.size
  have Z6 := hid (cells6 (cells6 Z5.out I5.out QZ5.out) hb (by rw [size_alloc]; exact Nat.lt_succ_of_lt QZ5.out))
  have QZ6 := hid (Nat.lt_trans QZ5.out hz)
  have N6 := hid (cells6 (cells6 N5.out I5.out QN5.out) hb (by rw [size_alloc]; exact Nat.lt_succ_of_lt QN5.out))
  have QN6 := hid (Nat.lt_trans QN5.out hz)
  have F6 := hid (cells5 (cells5 F5.out I5.out QF5.out) hb (by rw [size_alloc]; exact Nat.lt_succ_of_lt QF5.out))
  have QF6 := hid (Nat.lt_trans QF5.out hz)
  have nw := cells5 five_new hb (by rw [size_alloc]; exact Nat.lt_succ_self _)
  have A6 := hid (A5a.out.trans (hb.mono A5a.out.size))
  have E6 := hid (E5a.out.trans (hb.mono (HBe.out ▸ E5a.out.size)))
  clear hb
  obtain ⟨p5, hp⟩ : ∃ p, w5.heap.size = p := ⟨_, rfl⟩
  rw [hp] at nw hz ⊢
  have G6 := hid nw
  have QG6 := hid hz
  clear nw hz hp A5 E5 A5a E5a I5 Z5 QZ5 N5 QN5 F5 QF5
  obtain ⟨a0, a1, a2, a3, a4, a5⟩ := Z6.out
  obtain ⟨b0, b1, b2, b3, b4, b5⟩ := N6.out
  obtain ⟨c0, c1, c2, c3, c4⟩ := F6.out
  obtain ⟨d0, d1, d2, d3, d4⟩ := G6.out
  have HK := hid (K5.out w1 w6 HR.out HS1.out A6.out E6.out)
  clear Z6 N6 F6 G6 QZ6 QN6 QF6 QG6 K1 K2 K3 K4 K5 HR HS1 HB1 HH A6
  go_wp2_with fail
  refine HK.out.mono ?_
  rintro e w7 ⟨rfl, m, rfl⟩
  clear HK
  go_wp2_with fail
  go_ret
  exact ⟨rfl, below_drewN E6.out m⟩

theorem main {H : Type} {enc : TypeId × Value → H} {W : World} {base : Nat} {held : Bool} (a0 : Option Addr) (len0 cap0 : Nat) {d : DataW H} {p : List MemPlace}
    (h : DataW.Trod enc Try.prog W base (fun _ => true) held 28 (.slice a0 len0 cap0) d p) (hz : ∀ m ∈ d.weights Try.prog 28, m ≤ reachBytes) :
    Calls Try.prog 5 #[.slice a0 len0 cap0] W fun e w' => e = .returned (.bool true) ∧ Below W.heap.size W w' := by
  obtain ⟨s, rfl, hB, h1, h2, h3⟩ := bytes_sized h hz
  exact reads_core a0 cap0 s W h3 h1 (by simpa [maxLen] using h2) (hid hB)

end Go.Proofs.Ythmcfnbnafdkeaa.PrtV

/- Requests and answers as arguments; what becomes of them there and back. -/
namespace Go.Proofs.Ythmcfnbnafdkeaa.PrtX
open Go.ChangeShapes Go.WideShapes Go.ChangeAt Go.RowKit Go.Deep Base Opn Wri Vrw FrmP FrmA FrmX FrmY RulA PrtA PrtB PrtC PrtD PrtE PrtF PrtG PrtH PrtI PrtJ PrtK PrtP PrtQ PrtS PrtU PrtV
set_option linter.unusedVariables false
set_option linter.unusedSimpArgs false

section
variable {H : Type} {enc : TypeId × Value → H} {P : Program} {w : World} {base : Nat} {spare : Nat → Bool} {held : Bool}

/-- a field of a struct that is an argument, and what it weighs -/
theorem arg_sized {e : TypeId} {fs : Array Field} {n : Nat} {cs : List Value} {y : DataW H × List MemPlace} (he : P.underlying e = some (.struct fs)) (hone : oneCellFields P fs = true) (hC : P.cellsOf e = fs.size)
    (ht : DataW.trod enc P w base spare held n e cs = some y) (j : Nat) (f : Field) (hj : fs[j]? = some f) :
    ∃ v z k, cs[j]? = some v ∧ DataW.trod enc P w base spare held k f.type [v] = some z ∧ ∀ m ∈ z.1.weights P f.type, m ∈ y.1.weights P e := by
  obtain ⟨xs, k, _, hy, hlen, hxl, hg⟩ := DataW.trod_struct he ht
  obtain ⟨o1, o2⟩ := hone_of hone j f hj
  have hjs : j < fs.size := (Array.getElem?_eq_some_iff.1 hj).1
  have hjc : j < cs.length := by omega
  have hg := hg j f hj
  rw [o1, o2, List.drop_eq_getElem_cons hjc] at hg
  simp only [List.take_succ_cons, List.take_zero] at hg
  obtain ⟨z, hz⟩ : ∃ z, xs[j]? = some z := ⟨xs[j]'(by omega), List.getElem?_eq_getElem (by omega)⟩
  refine ⟨cs[j], z, k, List.getElem?_eq_getElem hjc, by rw [hg, hz], fun m hm => ?_⟩
  have hy1 : y.1 = .agg (xs.map (·.1)) := by rw [hy]
  rw [hy1]
  unfold DataW.weights
  rw [he]
  exact DataW.weights_mem_each (j := j) (by rw [List.getElem?_map]; simp [hj]) (by rw [List.getElem?_map, hz]; rfl) m hm
end

set_option maxRecDepth 100000 in
theorem rq_of {H : Type} {enc : TypeId × Value → H} {W : World} {base b0 : Nat} {r : Reach} {spare : Nat → Bool} {held : Bool} {v : Value} {d : DataW H} {p : List MemPlace}
    (hv : Value.okWide Try.prog W r b0 51 v) (h : DataW.Trod enc Try.prog W base spare held 51 v d p) :
    ∃ r : Rq, v = rv r ∧ r.text.size ≤ maxLen := by
  obtain ⟨fuel, hf⟩ := h
  obtain ⟨fs, hu, h1, h2, h5, ht⟩ : ∃ fs, Try.prog.underlying 51 = some (.struct fs) ∧ oneCellFields Try.prog fs = true ∧ Try.prog.cellsOf 51 = fs.size ∧ fs.size = 6 ∧
    (fs.toList.map (·.type)) = [3, 49, 3, 3, 9, 3] := ⟨_, Try.underlying51, by kernel_rfl, by kernel_rfl, by kernel_rfl, by kernel_rfl⟩
  obtain ⟨cs, rfl, hcs⟩ := okWide_struct hu hv
  have hf : DataW.trod enc Try.prog W base spare held fuel 51 cs.toList = some (d, p) := by
    rw [show (Value.agg cs).cells = cs from by unfold Value.cells; rfl] at hf
    exact hf
  have hcl : cs.toList.length = 6 := by rw [Array.length_toList, hcs, h2, h5]
  have hty : ∀ j (hj : j < 6), ∃ f, fs[j]? = some f ∧ some f.type = ([3, 49, 3, 3, 9, 3] : List TypeId)[j]? := fun j hj => by
    refine ⟨fs[j]'(by omega), Array.getElem?_eq_getElem (by omega), ?_⟩
    rw [← ht]
    simp [h5, hj]
  obtain ⟨f0, g0, t0⟩ := hty 0 (by omega)
  obtain ⟨f1, g1, t1⟩ := hty 1 (by omega)
  obtain ⟨f2, g2, t2⟩ := hty 2 (by omega)
  obtain ⟨f3, g3, t3⟩ := hty 3 (by omega)
  obtain ⟨f4, g4, t4⟩ := hty 4 (by omega)
  obtain ⟨f5, g5, t5⟩ := hty 5 (by omega)
  obtain ⟨v0, z0, k0, c0, r0, _⟩ := arg_sized hu h1 h2 hf 0 f0 g0
  obtain ⟨v1, z1, k1, c1, r1, _⟩ := arg_sized hu h1 h2 hf 1 f1 g1
  obtain ⟨v2, z2, k2, c2, r2, _⟩ := arg_sized hu h1 h2 hf 2 f2 g2
  obtain ⟨v3, z3, k3, c3, r3, _⟩ := arg_sized hu h1 h2 hf 3 f3 g3
  obtain ⟨v4, z4, k4, c4, r4, _⟩ := arg_sized hu h1 h2 hf 4 f4 g4
  obtain ⟨v5, z5, k5, c5, r5, _⟩ := arg_sized hu h1 h2 hf 5 f5 g5
  simp only [List.getElem?_cons_zero, List.getElem?_cons_succ, Option.some.injEq] at t0 t1 t2 t3 t4 t5
  rw [t0] at r0
  rw [t1] at r1
  rw [t2] at r2
  rw [t3] at r3
  rw [t4] at r4
  rw [t5] at r5
  obtain ⟨n0, e0, _, w0⟩ := DataW.trod_int Try.underlying3 r0
  obtain ⟨n1, e1, _, w1⟩ := DataW.trod_int Try.underlying49 r1
  obtain ⟨n2, e2, _, w2⟩ := DataW.trod_int Try.underlying3 r2
  obtain ⟨n3, e3, _, w3⟩ := DataW.trod_int Try.underlying3 r3
  obtain ⟨n4, e4, _, w4⟩ := DataW.trod_string Try.underlying9 r4
  obtain ⟨n5, e5, _, w5⟩ := DataW.trod_int Try.underlying3 r5
  simp only [List.cons.injEq, and_true] at e0 e1 e2 e3 e4 e5
  subst e0 e1 e2 e3 e4 e5
  refine ⟨⟨n0, n1, n2, n3, n4, n5⟩, ?_, w4⟩
  unfold rv
  congr 1
  apply Array.ext'
  match hl : cs.toList, hcl with
  | [x0, x1, x2, x3, x4, x5], _ =>
    rw [hl] at c0 c1 c2 c3 c4 c5
    simp at c0 c1 c2 c3 c4 c5
    simp [c0, c1, c2, c3, c4, c5]

set_option maxRecDepth 100000 in
theorem aw_of {H : Type} {enc : TypeId × Value → H} {W : World} {base b0 : Nat} {r : Reach} {spare : Nat → Bool} {held : Bool} {v : Value} {d : DataW H} {p : List MemPlace}
    (hv : Value.okWide Try.prog W r b0 54 v) (h : DataW.Trod enc Try.prog W base spare held 54 v d p) :
    ∃ r : Aw, v = av r ∧ 0 ≤ r.status ∧ r.status ≤ 255 := by
  obtain ⟨fuel, hf⟩ := h
  obtain ⟨fs, hu, h1, h2, h5, ht⟩ : ∃ fs, Try.prog.underlying 54 = some (.struct fs) ∧ oneCellFields Try.prog fs = true ∧ Try.prog.cellsOf 54 = fs.size ∧ fs.size = 5 ∧
    (fs.toList.map (·.type)) = [3, 52, 3, 3, 3] := ⟨_, Try.underlying54, by kernel_rfl, by kernel_rfl, by kernel_rfl, by kernel_rfl⟩
  obtain ⟨cs, rfl, hcs⟩ := okWide_struct hu hv
  have hf : DataW.trod enc Try.prog W base spare held fuel 54 cs.toList = some (d, p) := by
    rw [show (Value.agg cs).cells = cs from by unfold Value.cells; rfl] at hf
    exact hf
  have hcl : cs.toList.length = 5 := by rw [Array.length_toList, hcs, h2, h5]
  have hty : ∀ j (hj : j < 5), ∃ f, fs[j]? = some f ∧ some f.type = ([3, 52, 3, 3, 3] : List TypeId)[j]? := fun j hj => by
    refine ⟨fs[j]'(by omega), Array.getElem?_eq_getElem (by omega), ?_⟩
    rw [← ht]
    simp [h5, hj]
  obtain ⟨f0, g0, t0⟩ := hty 0 (by omega)
  obtain ⟨f1, g1, t1⟩ := hty 1 (by omega)
  obtain ⟨f2, g2, t2⟩ := hty 2 (by omega)
  obtain ⟨f3, g3, t3⟩ := hty 3 (by omega)
  obtain ⟨f4, g4, t4⟩ := hty 4 (by omega)
  obtain ⟨v0, z0, k0, c0, r0, _⟩ := arg_sized hu h1 h2 hf 0 f0 g0
  obtain ⟨v1, z1, k1, c1, r1, _⟩ := arg_sized hu h1 h2 hf 1 f1 g1
  obtain ⟨v2, z2, k2, c2, r2, _⟩ := arg_sized hu h1 h2 hf 2 f2 g2
  obtain ⟨v3, z3, k3, c3, r3, _⟩ := arg_sized hu h1 h2 hf 3 f3 g3
  obtain ⟨v4, z4, k4, c4, r4, _⟩ := arg_sized hu h1 h2 hf 4 f4 g4
  simp only [List.getElem?_cons_zero, List.getElem?_cons_succ, Option.some.injEq] at t0 t1 t2 t3 t4
  rw [t0] at r0
  rw [t1] at r1
  rw [t2] at r2
  rw [t3] at r3
  rw [t4] at r4
  obtain ⟨n0, e0, _, w0⟩ := DataW.trod_int Try.underlying3 r0
  obtain ⟨n1, e1, _, w1⟩ := DataW.trod_int Try.underlying52 r1
  obtain ⟨n2, e2, _, w2⟩ := DataW.trod_int Try.underlying3 r2
  obtain ⟨n3, e3, _, w3⟩ := DataW.trod_int Try.underlying3 r3
  obtain ⟨n4, e4, _, w4⟩ := DataW.trod_int Try.underlying3 r4
  simp only [List.cons.injEq, and_true] at e0 e1 e2 e3 e4
  subst e0 e1 e2 e3 e4
  have hk : 0 ≤ n1 ∧ n1 ≤ 255 := by
    simp [Lit.wf, IntKind.min, IntKind.max, IntKind.bits, IntKind.signed] at w1
    omega
  refine ⟨⟨n0, n1, n2, n3, n4⟩, ?_, hk⟩
  unfold av
  congr 1
  apply Array.ext'
  match hl : cs.toList, hcl with
  | [x0, x1, x2, x3, x4], _ =>
    rw [hl] at c0 c1 c2 c3 c4
    simp at c0 c1 c2 c3 c4
    simp [c0, c1, c2, c3, c4]


theorem request_right (r : Rq) (W : World) (hs : r.text.size ≤ maxLen) (hr : rightQ r = true) : Calls Try.prog 27 #[.agg #[.int .i64 r.id, .int .u8 r.want, .int .i64 r.flow, .int .i64 r.count, .string r.text, .int .i64 r.token]] W fun e w' =>
    ∃ va vc n, n ≤ 98 ∧ e = .returned (.tuple #[.slice va n vc, .int .i64 0]) ∧ Below W.heap.size W w' ∧ Hid (Calls Try.prog 39 #[.slice va n vc] w' fun e w'' => e = .returned (.tuple #[.agg #[.int .i64 r.id, .int .u8 r.want, .int .i64 r.flow, .int .i64 r.count, .string r.text, .int .i64 r.token], .int .i64 0, .int .i64 0]) ∧ Below w'.heap.size w' w'') := by
  refine (request_any r W hs).mono fun e w' h => ?_
  obtain ⟨va, vc, he, hown, hb⟩ := h
  rw [hr] at he hown
  have ho : outB true (encR r) = encR r := rfl
  rw [ho] at he hown
  obtain ⟨k1, k2, k3, k4⟩ := own_bytes hown rfl
  have HR := readRequest_any va vc (encR r) w' (hid k4) k1 k2 k3
  rw [read_back hr] at HR
  have hl : (encR r).length ≤ 98 := by
    obtain ⟨_, _, _, _, _, _, _, _, _, _, _, _, h7⟩ := right_nums hr
    unfold encR
    rw [bytesR_len]
    omega
  exact ⟨va, vc, _, hl, he, hb, hid HR⟩

theorem request_wrong (r : Rq) (W : World) (hs : r.text.size ≤ maxLen) (hr : rightQ r = false) : Calls Try.prog 27 #[.agg #[.int .i64 r.id, .int .u8 r.want, .int .i64 r.flow, .int .i64 r.count, .string r.text, .int .i64 r.token]] W fun e w' =>
    ∃ va vc, e = .returned (.tuple #[.slice va 0 vc, .int .i64 6]) ∧ Below W.heap.size W w' := by
  refine (request_any r W hs).mono fun e w' h => ?_
  obtain ⟨va, vc, he, hown, hb⟩ := h
  rw [hr] at he
  exact ⟨va, vc, he, hb⟩

theorem answer_right (r : Aw) (W : World) (h0 : 0 ≤ r.status) (h1 : r.status ≤ 255) (hr : rightA r = true) : Calls Try.prog 29 #[.agg #[.int .i64 r.id, .int .u8 r.status, .int .i64 r.left, .int .i64 r.wait, .int .i64 r.token]] W fun e w' =>
    ∃ va vc n, e = .returned (.tuple #[.slice va n vc, .int .i64 0]) ∧ Below W.heap.size W w' ∧ Hid (Calls Try.prog 41 #[.slice va n vc] w' fun e w'' => e = .returned (.tuple #[.agg #[.int .i64 r.id, .int .u8 r.status, .int .i64 r.left, .int .i64 r.wait, .int .i64 r.token], .int .i64 0, .int .i64 0]) ∧ Below w'.heap.size w' w'') := by
  refine (answer_any r W h0 h1).mono fun e w' h => ?_
  obtain ⟨va, vc, he, hown, hb⟩ := h
  rw [hr] at he hown
  have ho : outB true (encA r) = encA r := rfl
  rw [ho] at he hown
  obtain ⟨k1, k2, k3, k4⟩ := own_bytes hown rfl
  have HR := readAnswer_any va vc (encA r) w' (hid k4) k1 k2 k3
  rw [answer_back hr] at HR
  exact ⟨va, vc, _, he, hb, hid HR⟩

theorem answer_wrong (r : Aw) (W : World) (h0 : 0 ≤ r.status) (h1 : r.status ≤ 255) (hr : rightA r = false) : Calls Try.prog 29 #[.agg #[.int .i64 r.id, .int .u8 r.status, .int .i64 r.left, .int .i64 r.wait, .int .i64 r.token]] W fun e w' =>
    ∃ va vc, e = .returned (.tuple #[.slice va 0 vc, .int .i64 6]) ∧ Below W.heap.size W w' := by
  refine (answer_any r W h0 h1).mono fun e w' h => ?_
  obtain ⟨va, vc, he, hown, hb⟩ := h
  rw [hr] at he
  exact ⟨va, vc, he, hb⟩

theorem request_read {s : Bs} (h : wholeB s (endR s) (rightQ (rqO s)) = true) (W : World) : Calls Try.prog 27 #[.agg #[.int .i64 (rqO s).id, .int .u8 (rqO s).want, .int .i64 (rqO s).flow, .int .i64 (rqO s).count, .string (rqO s).text, .int .i64 (rqO s).token]] W fun e w' =>
    ∃ va vc, e = .returned (.tuple #[.slice va s.length vc, .int .i64 0]) ∧ Below W.heap.size W w' ∧ BAt w' w'.heap.size va s := by
  obtain ⟨h1, h2⟩ := write_back h
  have hs : (rqO s).text.size ≤ maxLen := by
    obtain ⟨_, _, _, _, _, _, _, _, _, _, _, _, h7⟩ := right_nums h1
    unfold maxLen
    omega
  refine (request_any (rqO s) W hs).mono fun e w' h => ?_
  obtain ⟨va, vc, he, hown, hb⟩ := h
  rw [h1] at he hown
  have ho : outB true (encR (rqO s)) = s := h2
  rw [ho] at he hown
  obtain ⟨k1, k2, k3, k4⟩ := own_bytes hown rfl
  exact ⟨va, vc, he, hb, k4 _ k3⟩

theorem read_cases (s : Bs) : (wholeB s (endR s) (rightQ (rqO s)) = true ∧ toldRequest s = .tuple #[.agg #[.int .i64 (rqO s).id, .int .u8 (rqO s).want, .int .i64 (rqO s).flow, .int .i64 (rqO s).count, .string (rqO s).text, .int .i64 (rqO s).token], .int .i64 0, .int .i64 0]) ∨
    ∃ (p : Int), toldRequest s = .tuple #[.agg #[.int .i64 0, .int .u8 0, .int .i64 0, .int .i64 0, .string ⟨#[]⟩, .int .i64 0], .int .i64 6, .int .i64 p] := by
  unfold toldRequest
  split
  · exact .inl ⟨by assumption, rfl⟩
  · exact .inr ⟨_, rfl⟩

end Go.Proofs.Ythmcfnbnafdkeaa.PrtX

/- Lists of requests as an argument: where they lie. -/
namespace Go.Proofs.Ythmcfnbnafdkeaa.PrtZ
open Go.ChangeShapes Go.WideShapes Go.ChangeAt Go.RowKit Go.Deep Base Opn FrmP FrmA PrtA
set_option linter.unusedVariables false
set_option linter.unusedSimpArgs false

/-- a request's cells -/
def rw6 (r : Rq) : List Value := [.int .i64 r.id, .int .u8 r.want, .int .i64 r.flow, .int .i64 r.count, .string r.text, .int .i64 r.token]
/-- requests that lie in a row -/
def Reqs (w : World) (a : Option Addr) (n : Nat) (D : Nat → Rq) : Prop :=
  n ≤ maxLen ∧ (0 < n → ∃ p q, a = some ⟨p, q, none⟩ ∧ p < w.heap.size ∧ ∀ i, i < n → ∀ (j : Nat) v, (rw6 (D i))[j]? = some v → w.cell? ⟨p, q + i * 6 + j, none⟩ = some v) ∧ ∀ i, i < n → (D i).text.size ≤ maxLen

set_option maxRecDepth 100000 in
theorem reqs_of {H : Type} {enc : TypeId × Value → H} {W : World} {base : Nat} {spare : Nat → Bool} {held : Bool} {a0 : Option Addr} {len0 cap0 : Nat} {d : DataW H} {p : List MemPlace}
    (h : DataW.Trod enc Try.prog W base spare held 55 (.slice a0 len0 cap0) d p) : ∃ D, Reqs W a0 len0 D := by
  obtain ⟨fuel, hf⟩ := h
  obtain ⟨fs, hu, h1, h2, h5, ht⟩ : ∃ fs, Try.prog.underlying 51 = some (.struct fs) ∧ oneCellFields Try.prog fs = true ∧ Try.prog.cellsOf 51 = fs.size ∧ fs.size = 6 ∧
    (fs.toList.map (·.type)) = [3, 49, 3, 3, 9, 3] := ⟨_, Try.underlying51, by kernel_rfl, by kernel_rfl, by kernel_rfl, by kernel_rfl⟩
  rcases row_at Try.underlying55 hu h1 h2 (by simpa [Value.cells] using hf) with ⟨rfl, rfl⟩ | ⟨a, rfl, hl, hm, hi⟩
  · exact ⟨fun _ => ⟨0, 0, 0, 0, ⟨#[]⟩, 0⟩, Nat.zero_le _, fun h => by omega, fun i h => by omega⟩
  · have each : ∀ i, i < len0 → ∃ D : Rq, (∀ (j : Nat) v, (rw6 D)[j]? = some v → W.cell? (a.add (i * 6 + j)) = some v) ∧ D.text.size ≤ maxLen := by
      intro i hil
      have hi := hi i hil
      rw [h5] at hi
      have hty : ∀ j (hj : j < 6), ∃ f, fs[j]? = some f ∧ some f.type = ([3, 49, 3, 3, 9, 3] : List TypeId)[j]? := fun j hj => by
        refine ⟨fs[j]'(by omega), Array.getElem?_eq_getElem (by omega), ?_⟩
        rw [← ht]
        simp [h5, hj]
      obtain ⟨f0, g0, t0⟩ := hty 0 (by omega)
      obtain ⟨f1, g1, t1⟩ := hty 1 (by omega)
      obtain ⟨f2, g2, t2⟩ := hty 2 (by omega)
      obtain ⟨f3, g3, t3⟩ := hty 3 (by omega)
      obtain ⟨f4, g4, t4⟩ := hty 4 (by omega)
      obtain ⟨f5, g5, t5⟩ := hty 5 (by omega)
      obtain ⟨v0, z0, k0, c0, r0⟩ := hi 0 f0 g0
      obtain ⟨v1, z1, k1, c1, r1⟩ := hi 1 f1 g1
      obtain ⟨v2, z2, k2, c2, r2⟩ := hi 2 f2 g2
      obtain ⟨v3, z3, k3, c3, r3⟩ := hi 3 f3 g3
      obtain ⟨v4, z4, k4, c4, r4⟩ := hi 4 f4 g4
      obtain ⟨v5, z5, k5, c5, r5⟩ := hi 5 f5 g5
      simp only [List.getElem?_cons_zero, List.getElem?_cons_succ, Option.some.injEq] at t0 t1 t2 t3 t4 t5
      rw [t0] at r0
      rw [t1] at r1
      rw [t2] at r2
      rw [t3] at r3
      rw [t4] at r4
      rw [t5] at r5
      obtain ⟨n0, e0, _, w0⟩ := DataW.trod_int Try.underlying3 r0
      obtain ⟨n1, e1, _, w1⟩ := DataW.trod_int Try.underlying49 r1
      obtain ⟨n2, e2, _, w2⟩ := DataW.trod_int Try.underlying3 r2
      obtain ⟨n3, e3, _, w3⟩ := DataW.trod_int Try.underlying3 r3
      obtain ⟨n4, e4, _, w4⟩ := DataW.trod_string Try.underlying9 r4
      obtain ⟨n5, e5, _, w5⟩ := DataW.trod_int Try.underlying3 r5
      simp only [List.cons.injEq, and_true] at e0 e1 e2 e3 e4 e5
      subst e0 e1 e2 e3 e4 e5
      refine ⟨⟨n0, n1, n2, n3, n4, n5⟩, fun j v hv => ?_, w4⟩
      match j, hv with
      | 0, hv => simp [rw6] at hv; rw [← hv]; exact c0
      | 1, hv => simp [rw6] at hv; rw [← hv]; exact c1
      | 2, hv => simp [rw6] at hv; rw [← hv]; exact c2
      | 3, hv => simp [rw6] at hv; rw [← hv]; exact c3
      | 4, hv => simp [rw6] at hv; rw [← hv]; exact c4
      | 5, hv => simp [rw6] at hv; rw [← hv]; exact c5
      | j + 6, hv => simp [rw6] at hv
    obtain ⟨D, hD⟩ := choose2 (⟨0, 0, 0, 0, ⟨#[]⟩, 0⟩ : Rq) each
    refine ⟨D, by omega, fun h0 => ?_, fun i hil => (hD i hil).2⟩
    obtain ⟨b, off, spot⟩ := a
    have h00 := (hD 0 h0).1 0 _ rfl
    have hspot : spot = none := by simpa [Addr.add] using World.cell?_spot h00
    subst hspot
    refine ⟨b, off, rfl, World.block_lt_of_cell? _ _ h00, fun i hil j v hv => ?_⟩
    have h1 := (hD i hil).1 j v hv
    rw [Go.WideShapes.add_plain] at h1
    rw [show off + i * 6 + j = off + (i * 6 + j) by omega]
    exact h1

end Go.Proofs.Ythmcfnbnafdkeaa.PrtZ

/- Requests as frames, one behind the other: their bytes in a list, and All. -/
namespace Go.Proofs.Ythmcfnbnafdkeaa.PrtAl
open Go.ChangeShapes Go.WideShapes Go.ChangeAt Go.RowKit Go.Deep Base Wri FrmP FrmA FrmD FrmE FrmF FrmG FrmX FrmR FrmU FrmM FrmC2 PrtA PrtC PrtP PrtQ PrtZ
set_option linter.unusedVariables false
set_option linter.unusedSimpArgs false

/-- bytes that the call itself made, in a list of its own -/
structure Pyl (w W : World) (k : Nat) (ls : List Bs) (va : Option Addr) (vc : Nat) (vs : List Value) : Prop where
  own : W.ownsRow w.heap.size 28 1 (.slice va k vc) k vs
  each : ∀ (i : Nat) q, ls[i]? = some q → ∃ a c, vs[i]? = some (.slice a q.length c) ∧ BAt W W.heap.size a q ∧ q.length ≤ c ∧ c ≤ 9223372036854775807 ∧ ∀ ad, a = some ad → ad.block < W.heap.size ∧ (Value.slice va k vc).ownBlock ≠ some ad.block

theorem Pyl.below {w W W' : World} {k vc : Nat} {ls : List Bs} {va : Option Addr} {vs : List Value} (h : Pyl w W k ls va vc vs) (hb : Below W.heap.size W W') : Pyl w W' k ls va vc vs :=
  ⟨owns_keep h.own (fun g e => hb.block g (h.own.lt g e).2), fun i q hq => by
    obtain ⟨a, c, h1, h2, h3, h4, h5⟩ := h.each i q hq
    exact ⟨a, c, h1, (h2.below hb).mono hb.size, h3, h4, fun ad e => ⟨Nat.lt_of_lt_of_le (h5 ad e).1 hb.size, (h5 ad e).2⟩⟩⟩

/-- one more, made behind W -/
theorem Pyl.next {w W W2 w6 : World} {k vc vc' : Nat} {ls : List Bs} {va va' a : Option Addr} {c : Nat} {vs : List Value} {q : Bs} (h : Pyl w W k ls va vc vs) (hlk : ls.length = k) (hb : Below W.heap.size W W2) (hq : W2.ownsRow W.heap.size 5 1 (.slice a q.length c) q.length (q.map bv))
    (hown : w6.ownsRow w.heap.size 28 1 (.slice va' (k + 1) vc') (k + 1) (vs ++ [.slice a q.length c])) (hgr : (W2.alloc (.cells #[.slice a q.length c] 28)).grownBy w6 (Value.slice va k vc).ownBlock)
    (hat : (Value.slice va' (k + 1) vc').ownBlock = (Value.slice va k vc).ownBlock ∨ (Value.slice va' (k + 1) vc').ownBlock = some (W2.heap.size + 1)) : Pyl w w6 (k + 1) (ls ++ [q]) va' vc' (vs ++ [.slice a q.length c]) := by
  have hsz := hgr.size
  simp at hsz
  have hbs := hb.size
  have hlv : vs.length = k := by have := h.own.1; omega
  have hnew : ∀ g, g < W2.heap.size → (Value.slice va k vc).ownBlock ≠ some g → w6.heap[g]? = W2.heap[g]? := fun g h1 h2 => (hgr.block g (by simp; omega) (fun e => h2 e.symm)).trans (heap_alloc_old _ _ h1)
  have hv : ∀ g, (Value.slice va k vc).ownBlock ≠ some g → g < W2.heap.size → (Value.slice va' (k + 1) vc').ownBlock ≠ some g := fun g h1 h2 e => by
    rcases hat with e2 | e2
    · exact h1 (e2 ▸ e)
    · rw [e2] at e
      cases e
      omega
  have move : ∀ (x : Option Addr) (s : Bs), BAt W2 W2.heap.size x s → (∀ ad, x = some ad → (Value.slice va k vc).ownBlock ≠ some ad.block) → BAt w6 w6.heap.size x s := fun x s hx hne h0 => by
    obtain ⟨g, o, e, hg, hc⟩ := hx h0
    exact ⟨g, o, e, by omega, fun i u hu => (World.cell?_of_block (a := ⟨g, o + i, none⟩) (hnew g hg (hne _ e))).trans (hc i u hu)⟩
  refine ⟨hown, fun i q' hq' => ?_⟩
  by_cases hik : i = k
  · subst hik
    rw [List.getElem?_append_right (by omega), hlk, Nat.sub_self] at hq'
    obtain rfl : q = q' := by simpa using hq'
    obtain ⟨k1, k2, k3, k4⟩ := own_bytes hq rfl
    have hne : ∀ ad, a = some ad → (Value.slice va i vc).ownBlock ≠ some ad.block := fun ad e e2 => by
      have h1 := (h.own.lt _ e2).2
      rcases hq.2 with ⟨e1, _⟩ | ⟨g, cap, cur, e1, hg, _⟩
      · injection e1 with e3 _ _
        rw [e3] at e
        cases e
      · injection e1 with e3 _ _
        rw [e3] at e
        cases e
        dsimp only at h1
        omega
    exact ⟨a, c, by rw [List.getElem?_append_right (by omega), hlv, Nat.sub_self]; rfl, move a q (k4 _ k3) hne, k1, k2, fun ad e => ⟨by have := k3 ad e; omega, hv _ (hne ad e) (k3 ad e)⟩⟩
  · have hi : i < ls.length := by
      have := (List.getElem?_eq_some_iff.1 hq').1
      simp at this
      omega
    rw [List.getElem?_append_left hi] at hq'
    obtain ⟨b, d, h1, h2, h3, h4, h5⟩ := h.each i q' hq'
    exact ⟨b, d, by rw [List.getElem?_append_left (by omega)]; exact h1, move b q' ((h2.below hb).mono hb.size) (fun ad e => (h5 ad e).2), h3, h4, fun ad e => ⟨by have := (h5 ad e).1; omega, hv _ (h5 ad e).2 (by have := (h5 ad e).1; omega)⟩⟩

theorem Pyl.pat {w W : World} {k vc : Nat} {ls : List Bs} {va : Option Addr} {vs : List Value} (h : Pyl w W k ls va vc vs) (hk : ls.length = k) : PAt W W.heap.size va ls (whereAt vs) := by
  intro h0
  obtain ⟨g, c, e, hb, hg, hc⟩ := owns_at h.own (by omega)
  injection e with e1 _ _
  subst e1
  refine ⟨g, 0, rfl, hg, fun i q hq => ?_⟩
  have hi := (List.getElem?_eq_some_iff.1 hq).1
  obtain ⟨a, d, h1, h2, h3, h4, h5⟩ := h.each i q hq
  rw [whereAt_eq h1, Nat.zero_add]
  exact ⟨hc i _ (by omega) h1, h2, h3, h4⟩

/-- the bytes of the first of some requests; are they right? -/
def encsL (D : Nat → Rq) (k : Nat) : List Bs := (List.range k).map fun i => encR (D i)
def allR (D : Nat → Rq) (k : Nat) : Bool := (List.range k).all fun i => rightQ (D i)
theorem encsL_len (D : Nat → Rq) (k : Nat) : (encsL D k).length = k := by simp [encsL]
theorem encsL_snoc (D : Nat → Rq) (k : Nat) : encsL D (k + 1) = encsL D k ++ [encR (D k)] := by simp [encsL, List.range_succ]
theorem encsL_get {D : Nat → Rq} {k i : Nat} (h : i < k) : (encsL D k)[i]? = some (encR (D i)) := by
  unfold encsL
  rw [List.getElem?_map, List.getElem?_range h]
  rfl
theorem allR_true {D : Nat → Rq} {k : Nat} : allR D k = true ↔ ∀ i, i < k → rightQ (D i) = true := by
  unfold allR
  rw [List.all_eq_true]
  exact ⟨fun h i hi => h i (List.mem_range.2 hi), fun h i hi => h i (List.mem_range.1 hi)⟩
theorem allR_false {D : Nat → Rq} {k i : Nat} (hi : i < k) (h : rightQ (D i) = false) : allR D k = false := by
  cases e : allR D k with
  | false => rfl
  | true => rw [allR_true.1 e i hi] at h; cases h
theorem encR_len {r : Rq} (h : rightQ r = true) : 34 ≤ (encR r).length ∧ (encR r).length ≤ 98 := by
  obtain ⟨id, flow, count, token, want, he, h1, h2, h3, h4, h5, h6, h7⟩ := right_nums h
  unfold encR
  rw [bytesR_len]
  omega
theorem encsL_right {D : Nat → Rq} {k : Nat} (h : ∀ i, i < k → rightQ (D i) = true) : ∀ q ∈ encsL D k, Right q := by
  intro q hq
  unfold encsL at hq
  obtain ⟨i, hi, rfl⟩ := List.mem_map.1 hq
  have := encR_len (h i (List.mem_range.1 hi))
  unfold Right
  omega
theorem frames_small {D : Nat → Rq} {k : Nat} (h : ∀ i, i < k → rightQ (D i) = true) : (frames (encsL D k)).length ≤ 102 * k := by
  induction k with
  | zero => exact Nat.zero_le _
  | succ k ih =>
    have h1 := ih fun i hi => h i (by omega)
    have h2 := encR_len (h k (by omega))
    rw [encsL_snoc, frames_snoc, List.length_append, frame_len]
    omega
theorem first_ok {D : Nat → Rq} {k : Nat} (h : ∀ i, i < k → rightQ (D i) = true) : firstErr (encsL D k) = 0 := by
  have := firstErr_ok (encsL_right h) []
  rw [List.append_nil] at this
  exact this

theorem Reqs.below {w w' : World} {a : Option Addr} {n : Nat} {D : Nat → Rq} (h : Reqs w a n D) (hb : Below w.heap.size w w') : Reqs w' a n D := by
  refine ⟨h.1, fun h0 => ?_, h.2.2⟩
  obtain ⟨p, q, e, hp, hc⟩ := h.2.1 h0
  exact ⟨p, q, e, Nat.lt_of_lt_of_le hp hb.size, fun i hi j v hv => (hb.cell (p := ⟨p, q + i * 6 + j, none⟩) hp).trans (hc i hi j v hv)⟩

set_option maxRecDepth 20000 in
set_option maxHeartbeats 4000000 in
theorem all_any (a : Option Addr) (cap n : Nat) (D : Nat → Rq) (w : World) (hn : n ≤ 1048576) (HP : Hid (Reqs w a n D)) :
    Calls Try.prog 37 #[.slice a n cap] w fun e w' => Told2 w (allR D n) (frames (encsL D n)) e w' := by
  obtain ⟨i0, hi, hz0, hz1, hz2⟩ := info_parts infoBs
  go_enter Try.func37, Try.ntmps37
  go_wp2_with fail
  go_loopw [4, 11] (fun v i wr => ∃ (k vc : Nat) (va : Option Addr) (vs : List Value), k ≤ n ∧ v = .slice va k vc ∧ i = .int .i64 k ∧ (∀ j, j < k → rightQ (D j) = true) ∧ Pyl w wr k (encsL D k) va vc vs ∧ Below w.heap.size w wr) (fun _ i _ => n - (intOf i).toNat)
  case atStart => exact ⟨0, 0, none, [], Nat.zero_le _, rfl, rfl, fun j h => by omega, ⟨World.ownsRow_nil _ _ _ _, fun i q h => by simp [encsL] at h⟩, Below.refl _ _⟩
  case round =>
    obtain ⟨k, vc, va, vs, hk, rfl, rfl, hr, hh, hb⟩ := hrel
    have HR := hid hr
    have HH := hid hh
    have HB := hid hb
    clear hr hh hb
    by_cases hlt : k < n
    · obtain ⟨p, q, rfl, hp, hc⟩ := HP.out.2.1 (by omega)
      have HT := hid (HP.out.2.2 k hlt)
      have mv : ∀ (j : Nat) v, (rw6 (D k))[j]? = some v → wr.cell? ⟨p, q + k * 6 + j, none⟩ = some v := fun j v hv => (HB.out.cell (p := ⟨p, q + k * 6 + j, none⟩) hp).trans (hc k hlt j v hv)
      have c0 : wr.cell? ⟨p, q + k * 6, none⟩ = some (.int .i64 (D k).id) := mv 0 _ rfl
      have c1 : wr.cell? ⟨p, q + k * 6 + 1, none⟩ = some (.int .u8 (D k).want) := mv 1 _ rfl
      have c2 : wr.cell? ⟨p, q + k * 6 + 2, none⟩ = some (.int .i64 (D k).flow) := mv 2 _ rfl
      have c3 : wr.cell? ⟨p, q + k * 6 + 3, none⟩ = some (.int .i64 (D k).count) := mv 3 _ rfl
      have c4 : wr.cell? ⟨p, q + k * 6 + 4, none⟩ = some (.string (D k).text) := mv 4 _ rfl
      have c5 : wr.cell? ⟨p, q + k * 6 + 5, none⟩ = some (.int .i64 (D k).token) := mv 5 _ rfl
      obtain ⟨W1, hW1⟩ : ∃ W1, wr.alloc (.cells #[.int .i64 (D k).id, .int .u8 (D k).want, .int .i64 (D k).flow, .int .i64 (D k).count, .string (D k).text, .int .i64 (D k).token] 51) = W1 := ⟨_, rfl⟩
      have HW1 : Hid (Below wr.heap.size wr W1) := hid (by rw [← hW1]; exact (Below.refl _ _).alloc (Nat.le_refl _) _)
      have HQ := hid (request_any (D k) W1 HT.out)
      have HWE := hid hW1
      clear hW1
      rw [show rv (D k) = .agg #[.int .i64 (D k).id, .int .u8 (D k).want, .int .i64 (D k).flow, .int .i64 (D k).count, .string (D k).text, .int .i64 (D k).token] from rfl] at HQ
      have HLN : Hid (rightQ (D k) = true → (encR (D k)).length ≤ 98) := hid fun h => (encR_len h).2
      clear mv hc
      cases hrk : rightQ (D k) with
      | false =>
        have HAL := hid (allR_false hlt hrk)
        rw [hrk] at HQ
        clear hrk
        go_wp2_with fail
        rw [HWE.out]
        refine HQ.out.mono ?_
        rintro e w2 ⟨xa, xc, rfl, hown, hb2⟩
        have hb2 := HW1.out.trans (hb2.mono HW1.out.size)
        have HB2 := hid (HB.out.trans (hb2.mono HB.out.size))
        clear hown hb2
        rw [show errB false = 6 from rfl]
        go_wp2_with fail
        go_ret2
        refine ⟨none, 0, by rw [HAL.out]; rfl, by rw [HAL.out]; exact World.ownsRow_nil _ _ _ _, HB2.out⟩
      | true =>
        have HRK := hid hrk
        rw [hrk] at HQ
        clear hrk
        go_wp2_with fail
        rw [HWE.out]
        refine HQ.out.mono ?_
        rintro e w2 ⟨xa, xc, rfl, hown, hb2⟩
        have hb2 := HW1.out.trans (hb2.mono HW1.out.size)
        have hown := owns_low hown HW1.out.size
        rw [show errB true = 0 from rfl]
        rw [show outB true (encR (D k)) = encR (D k) from rfl] at hown ⊢
        have hown1 : (w2.alloc (.cells #[.slice xa (encR (D k)).length xc] 28)).ownsRow w.heap.size 28 1 (.slice va k vc) k vs := World.ownsRow.alloc (owns_keep HH.out.own (fun g e => hb2.block g (HH.out.own.lt g e).2)) _
        have HO1 := hid hown1
        have H3 := hid (And.intro hown hb2)
        have hs3 : w.heap.size ≤ w2.heap.size := Nat.le_trans HB.out.size hb2.size
        obtain ⟨Lq, hLq⟩ : ∃ Lq, (encR (D k)).length = Lq := ⟨_, rfl⟩
        have HLQ := hid hLq
        rw [hLq] at HO1 ⊢
        clear hown hb2 hown1 hLq HQ c0 c1 c2 c3 c4 c5
        go_wp2_with (at_builtin
                     go_loud (refine wpList_append_own_at _ rfl _ _ 22 rfl w.heap.size 28 i0 (.slice none 0 0) 1 24 Try.underlying22 hi hz0 hz1 hz2 rfl (by decide) (Value.slice va k vc) _ _ rfl HO1.out ⟨w2.heap.size, 0, none⟩ 1 1 [.slice xa Lq xc] rfl rfl (AlbC.cell_one _ _ _) (by intro u hu; obtain rfl := List.mem_singleton.1 hu; rfl) (by unfold maxLen; omega) (by omega) (by simp; omega) ?_)
                     intro v6 w6 hown6 hgr6 hnil6 hat6
                     obtain ⟨vb, vd, rfl⟩ := owns_shape hown6
                     have H6 := hid (And.intro hown6 (And.intro hgr6 (by simpa using hat6)))
                     clear hown6 hgr6 hnil6 hat6)
        go_roundw
        case rel =>
          refine ⟨k + 1, _, _, vs ++ [.slice xa (encR (D k)).length xc], by omega, rfl, by go_num, fun j hj => ?_, ?_, ?_⟩
          · by_cases e : j = k
            · subst e; exact HRK.out
            · exact HR.out j (by omega)
          · rw [encsL_snoc]
            exact HH.out.next (encsL_len _ _) H3.out.2 H3.out.1 (by rw [HLQ.out]; exact H6.out.1) (by rw [HLQ.out]; exact H6.out.2.1) H6.out.2.2
          · have h5 : Below w.heap.size w (w2.alloc (.cells #[.slice xa Lq xc] 28)) := (HB.out.trans (H3.out.2.mono HB.out.size)).alloc hs3 _
            exact Below.grown h5 H6.out.2.1 h5.size (fun g e => (HH.out.own.lt g e).1)
        case measure => simp [intOf]; omega
    · obtain rfl : n = k := by omega
      have HF := hid (frames_any va vc (encsL D n) (whereAt vs) wr (by rw [encsL_len]; omega) (by have := frames_small HR.out; omega) (hid (HH.out.pat (encsL_len _ _))))
      rw [encsL_len, first_ok HR.out] at HF
      have HAL := hid (allR_true.2 HR.out)
      go_wp2_with fail
      refine HF.out.mono ?_
      rintro e w2 ⟨⟨v, rfl, h1, -⟩, hb2⟩
      have h3 := (h1 (by trivial)).2
      obtain ⟨xa, xc, rfl⟩ := owns_shape h3
      have H3 := hid (And.intro h3 hb2)
      clear h1 h3 hb2 HF
      go_wp2_with fail
      go_ret2
      refine ⟨xa, xc, by rw [HAL.out]; rfl, ?_, HB.out.trans (H3.out.2.mono HB.out.size)⟩
      rw [HAL.out]
      exact owns_low H3.out.1 HB.out.size

end Go.Proofs.Ythmcfnbnafdkeaa.PrtAl

/- The document's requests and answers as bytes, whatever they are. -/
namespace Go.Proofs.Ythmcfnbnafdkeaa.PrtAo
open Go.ChangeShapes Go.WideShapes Go.ChangeAt Go.RowKit Go.Deep Base Wri RulA FrmP FrmA FrmD FrmE FrmF FrmX FrmI FrmR FrmU PrtA PrtB PrtC PrtD PrtE PrtN PrtR PrtI PrtP PrtQ PrtZ PrtAl
set_option linter.unusedVariables false
set_option linter.unusedSimpArgs false

theorem rrightQ_any (r : Rq) (hs : r.text.size ≤ maxLen) (w : World) : Calls Try.prog 34 #[rv r] w fun e w' => e = .returned (.bool (rightQ r)) ∧ Below w.heap.size w w' :=
  rright_any r.id r.want r.flow r.count r.token r.text w hs (hid fun w => rname_any r.text w hs)

set_option maxRecDepth 20000 in
set_option maxHeartbeats 2000000 in
theorem rrequest_any (r : Rq) (w : World) (hs : r.text.size ≤ maxLen) :
    Calls Try.prog 28 #[rv r] w fun e w' => Told2 w (rightQ r) (encR r) e w' := by
  have HR := hid (rrightQ_any r hs)
  cases hr : rightQ r with
  | false =>
    rw [hr] at HR
    obtain ⟨id, want, flow, count, text, token⟩ := r
    clear hr hs
    unfold rv at HR ⊢
    go_enter Try.func28, Try.ntmps28
    go_wp2_with (go_at_call 34; refine (HR.out _).mono ?_; rintro e w1 ⟨rfl, hb1⟩; have HB := hid hb1; clear hb1)
    go_ret2
    exact ⟨none, 0, rfl, World.ownsRow_nil _ _ _ _, (by repeat (first | (with_reducible exact Below.refl _ _) | (with_reducible refine Below.setCell ?_ (by first | (simp; done) | (simp; omega) | omega) _) | (with_reducible refine Below.alloc ?_ (by first | (simp; done) | (simp; omega) | omega) _) | (with_reducible refine Below.drew ?_) | (with_reducible refine Below.trans ?_ (Below.mono HB.out (by first | (simp; done) | (simp; omega) | omega)))))⟩
  | true =>
    rw [hr] at HR
    obtain ⟨id, flow, count, token, want, he, h1, h2, h3, h4, h5, h6, h7⟩ := right_nums hr
    obtain ⟨t, ht⟩ : ∃ t, r.text = t := ⟨_, rfl⟩
    rw [ht] at he h7
    subst he
    have HE : encR ⟨id, want, flow, count, t, token⟩ = bytesR id flow count token want t := by simp [encR]
    have hl : (bytesR id flow count token want t).length = 34 + t.size := bytesR_len _ _ _ _ _ _
    refine (rrequest_core id flow count token want t w h1 h2 h3 h4 (by omega) h7 HR).mono ?_
    rintro e w' ⟨va, vc, rfl, hown, hb⟩
    refine ⟨va, vc, ?_, ?_, hb⟩
    · show Ending.returned (.tuple #[.slice va (34 + t.size) vc, .int .i64 0]) = .returned (.tuple #[.slice va (encR _).length vc, .int .i64 0])
      rw [HE, hl]
    · show w'.ownsRow _ _ 1 (.slice va (encR _).length vc) (encR _).length ((encR _).map bv)
      rw [HE, hl]
      exact hown

set_option maxRecDepth 20000 in
set_option maxHeartbeats 2000000 in
theorem ranswer_any (a : Aw) (w : World) (h0 : 0 ≤ a.status) (h1 : a.status ≤ 255) :
    Calls Try.prog 30 #[av a] w fun e w' => Told2 w (rightA a) (encA a) e w' := by
  have HR := hid (fun w => rrightA_any a.id a.status a.left a.wait a.token w h0 h1)
  cases hr : rightA a with
  | false =>
    obtain ⟨id, status, left, wait, token⟩ := a
    rw [hr] at HR
    clear hr h0 h1
    unfold av
    go_enter Try.func30, Try.ntmps30
    go_wp2_with (go_at_call 36; refine (HR.out _).mono ?_; rintro e w1 ⟨rfl, hb1⟩; have HB := hid hb1; clear hb1)
    go_ret2
    exact ⟨none, 0, rfl, World.ownsRow_nil _ _ _ _, (by repeat (first | (with_reducible exact Below.refl _ _) | (with_reducible refine Below.setCell ?_ (by first | (simp; done) | (simp; omega) | omega) _) | (with_reducible refine Below.alloc ?_ (by first | (simp; done) | (simp; omega) | omega) _) | (with_reducible refine Below.drew ?_) | (with_reducible refine Below.trans ?_ (Below.mono HB.out (by first | (simp; done) | (simp; omega) | omega)))))⟩
  | true =>
    obtain ⟨id, left, wait, token, status, he, h2, h3, h4, h5, h6, h7⟩ := rightA_nums hr
    rw [show rightA ⟨a.id, a.status, a.left, a.wait, a.token⟩ = true from hr] at HR
    subst he
    have HE : encA ⟨id, status, left, wait, token⟩ = bytesA id left wait token status := by simp [encA]
    have hl : (bytesA id left wait token status).length = 33 := bytesA_len _ _ _ _ _
    refine (ranswer_core id left wait token status w h2 h3 h4 h5 (by omega) HR).mono ?_
    rintro e w' ⟨va, vc, rfl, hown, hb⟩
    refine ⟨va, vc, ?_, ?_, hb⟩
    · show Ending.returned (.tuple #[.slice va 33 vc, .int .i64 0]) = .returned (.tuple #[.slice va (encA _).length vc, .int .i64 0])
      rw [HE, hl]
    · show w'.ownsRow _ _ 1 (.slice va (encA _).length vc) (encA _).length ((encA _).map bv)
      rw [HE, hl]
      exact hown

end Go.Proofs.Ythmcfnbnafdkeaa.PrtAo

/- The law ProtoAll. -/
namespace Go.Proofs.Ythmcfnbnafdkeaa.PrtAm
open Go.ChangeShapes Go.WideShapes Go.ChangeAt Go.RowKit Go.Deep Base Wri FrmP FrmA FrmE FrmF FrmG FrmX FrmR FrmU PrtA PrtC PrtI PrtP PrtQ PrtZ PrtAl
set_option linter.unusedVariables false
set_option linter.unusedSimpArgs false

set_option maxRecDepth 20000 in
set_option maxHeartbeats 8000000 in
theorem all_core (a : Option Addr) (cap n : Nat) (D : Nat → Rq) (w : World) (hn : n ≤ 1048576) (HP : Hid (Reqs w a n D)) :
    Calls Try.prog 7 #[.slice a n cap] w fun e w' => e = .returned (.bool true) ∧ Below w.heap.size w w' := by
  have HA := hid (all_any a cap n D w hn HP)
  cases hr : allR D n with
  | false =>
    rw [hr] at HA
    clear hr
    go_enter Try.func7, Try.ntmps7
    go_wp2_with fail
    refine HA.out.mono ?_
    rintro e w1 ⟨va, vc, rfl, hown, hb1⟩
    have HB1 := hid hb1
    clear hown hb1 HA
    rw [show errB false = 6 from rfl, show outB false (frames (encsL D n)) = [] from rfl]
    go_wp2_with fail
    refine (PrtQ.live_any _).mono ?_
    rintro e w2 ⟨rfl, hb2⟩
    have HB2 := hid (HB1.out.trans (hb2.mono HB1.out.size))
    clear hb2
    go_wp2_with fail
    go_ret
    exact ⟨rfl, HB2.out⟩
  | true =>
    have HOK := hid (allR_true.1 hr)
    rw [hr] at HA
    clear hr
    go_enter Try.func7, Try.ntmps7
    go_wp2_with fail
    refine HA.out.mono ?_
    rintro e w1 ⟨va, vc, rfl, hown, hb1⟩
    rw [show errB true = 0 from rfl]
    rw [show outB true (frames (encsL D n)) = frames (encsL D n) from rfl] at hown ⊢
    obtain ⟨k1, k2, k3, k4⟩ := own_bytes hown rfl
    have hsm := frames_small HOK.out
    have HS := hid (split_any va vc (frames (encsL D n)) w1 (by omega) k1 k2 (hid (k4 _ k3)))
    have hpl := sp_place (frames (encsL D n))
    have hsp := sp_frames (encsL_right HOK.out)
    rw [hsp] at HS hpl
    have hpl : place (encsL D n) = (frames (encsL D n)).length := by simpa using hpl
    rw [hpl] at HS
    have HB1 := hid hb1
    have HLS : Hid (encsL D n = encsL D n) := hid rfl
    obtain ⟨L, hL⟩ : ∃ L, (frames (encsL D n)).length = L := ⟨_, rfl⟩
    rw [hL] at HS ⊢
    clear hown hb1 k1 k2 k3 k4 hsm hpl hsp hL HA
    go_wp2_with fail
    refine HS.out.mono ?_
    rintro e w2 ⟨row, us, rfl, hpl, hb2⟩
    obtain ⟨ua, uc, rfl⟩ := owns_shape hpl.own
    have HPL := hid hpl
    have HB2 := hid (HB1.out.trans (hb2.mono HB1.out.size))
    rw [show errOf ([] : Bs) = 0 from rfl, encsL_len]
    clear hpl hb2 HS
    go_wp2_with fail
    go_loopw [8] (fun i wr => ∃ k : Nat, k ≤ n ∧ i = .int .i64 k ∧ Below w2.heap.size w2 wr) (fun i _ => n - (intOf i).toNat)
    case atStart => exact ⟨0, Nat.zero_le _, rfl, Below.refl _ _⟩
    case round =>
      obtain ⟨k, hk, rfl, hb⟩ := hrel
      have HB := hid hb
      clear hb
      by_cases hlt : k < n
      · obtain ⟨p, q, rfl, hp, hc⟩ := HP.out.2.1 (by omega)
        have HPW := hid (HPL.out.below HB.out)
        have hul := HPW.out.len
        rw [encsL_len] at hul
        obtain ⟨v, hv⟩ : ∃ v, us[k]? = some v := ⟨us[k]'(by omega), List.getElem?_eq_getElem _⟩
        have hpy := HPW.out.each k v _ hv (encsL_get hlt)
        obtain ⟨g, o, vcap, rfl, hg, hv1, hv2, hvb⟩ := hpy.at_
        obtain ⟨gr, cr, er, hgr1, hgr2, hrc⟩ := owns_at HPW.out.own (by rw [encsL_len]; omega)
        rw [encsL_len] at er hrc
        injection er with e1 _ e3
        subst e1 e3
        have x0 : wr.cell? ⟨gr, k, none⟩ = some (.slice (some ⟨g, o, none⟩) (encR (D k)).length vcap) := hrc k _ hlt hv
        have HRR := hid (readRequest_any (some ⟨g, o, none⟩) vcap (encR (D k)) wr (hid fun n0 h h0 => ⟨g, o, rfl, h _ rfl, hvb⟩) hv1 (by simpa [maxLen] using hv2) (fun ad e => by cases e; exact hg))
        rw [read_back (HOK.out k hlt), show rv (D k) = .agg #[.int .i64 (D k).id, .int .u8 (D k).want, .int .i64 (D k).flow, .int .i64 (D k).count, .string (D k).text, .int .i64 (D k).token] from rfl] at HRR
        have hbw : ∀ wx, Below wr.heap.size wr wx → Below w.heap.size w wx := fun wx hx => HB2.out.trans ((HB.out.mono HB2.out.size).trans (hx.mono (Nat.le_trans HB2.out.size HB.out.size)))
        have mv : Hid (∀ wx, Below wr.heap.size wr wx → ∀ (j : Nat) v, (rw6 (D k))[j]? = some v → wx.cell? ⟨p, q + k * 6 + j, none⟩ = some v) := hid fun wx hx j v hv => ((hbw wx hx).cell (p := ⟨p, q + k * 6 + j, none⟩) hp).trans (hc k hlt j v hv)
        obtain ⟨Lq, hLq⟩ : ∃ Lq, (encR (D k)).length = Lq := ⟨_, rfl⟩
        rw [hLq] at HRR x0
        clear hul hv hpy hg hv1 hv2 hvb hgr1 hgr2 hrc hbw hc hLq
        go_wp2_with fail
        refine HRR.out.mono ?_
        rintro e w3 ⟨rfl, hb3⟩
        have HB3 := hid (HB.out.trans (hb3.mono HB.out.size))
        obtain ⟨W4, hW4⟩ : ∃ W4, w3.alloc (.cells #[.int .i64 (D k).id, .int .u8 (D k).want, .int .i64 (D k).flow, .int .i64 (D k).count, .string (D k).text, .int .i64 (D k).token] 51) = W4 := ⟨_, rfl⟩
        have h34 : Below w3.heap.size w3 W4 := by rw [← hW4]; exact (Below.refl _ _).alloc (Nat.le_refl _) _
        have HB4 := hid (HB3.out.trans (h34.mono HB3.out.size))
        have hb4 := hb3.trans (h34.mono hb3.size)
        have c0 : W4.cell? ⟨p, q + k * 6, none⟩ = some (.int .i64 (D k).id) := mv.out W4 hb4 0 _ rfl
        have c1 : W4.cell? ⟨p, q + k * 6 + 1, none⟩ = some (.int .u8 (D k).want) := mv.out W4 hb4 1 _ rfl
        have c2 : W4.cell? ⟨p, q + k * 6 + 2, none⟩ = some (.int .i64 (D k).flow) := mv.out W4 hb4 2 _ rfl
        have c3 : W4.cell? ⟨p, q + k * 6 + 3, none⟩ = some (.int .i64 (D k).count) := mv.out W4 hb4 3 _ rfl
        have c4 : W4.cell? ⟨p, q + k * 6 + 4, none⟩ = some (.string (D k).text) := mv.out W4 hb4 4 _ rfl
        have c5 : W4.cell? ⟨p, q + k * 6 + 5, none⟩ = some (.int .i64 (D k).token) := mv.out W4 hb4 5 _ rfl
        obtain ⟨d0, d1, d2, d3, d4, d5⟩ : PrtV.Six W4 w3.heap.size (.int .i64 (D k).id) (.int .u8 (D k).want) (.int .i64 (D k).flow) (.int .i64 (D k).count) (.string (D k).text) (.int .i64 (D k).token) := by rw [← hW4]; exact PrtV.six_new
        have HWE := hid hW4
        clear hb3 HRR x0 hW4 h34 hb4
        go_wp2_with fail
        rw [HWE.out]
        go_quiet (fail)
        go_wp2_with fail
        go_roundw
        case rel => exact ⟨k + 1, by omega, by go_num, ⟨HB4.out.os, HB4.out.tape, HB4.out.output, HB4.out.size, HB4.out.block⟩⟩
        case measure => simp [intOf]; omega
      · obtain rfl : n = k := by omega
        go_wp2_with fail
        refine (PrtQ.live_any _).mono ?_
        rintro e w3 ⟨rfl, hb3⟩
        have HB3 := hid (HB2.out.trans ((HB.out.mono HB2.out.size).trans (hb3.mono (Nat.le_trans HB2.out.size HB.out.size))))
        clear hb3
        go_wp2_with fail
        go_ret
        exact ⟨rfl, HB3.out⟩

/-- requests that came in, no more than there is room for -/
theorem reqs_bulk {H : Type} {enc : TypeId × Value → H} {W : World} {base : Nat} {held : Bool} {a0 : Option Addr} {len0 cap0 : Nat} {d : DataW H} {p : List MemPlace}
    (h : DataW.Trod enc Try.prog W base (fun _ => true) held 55 (.slice a0 len0 cap0) d p) (hb : Rows.uptoBulk d ≤ 1048576) : len0 ≤ 1048576 := by
  obtain ⟨fuel, hf⟩ := h
  have hf : DataW.trod enc Try.prog W base (fun _ => true) held fuel 55 [.slice a0 len0 cap0] = some (d, p) := by simpa [Value.cells] using hf
  rcases open_slice Try.underlying55 hf with ⟨hn, _⟩ | ⟨a, l, c, m, n, D, Pl, hcs, _, hl, hm, hmm, hx, hi⟩
  · simp at hn
    omega
  · simp at hcs
    obtain ⟨rfl, rfl, rfl⟩ := hcs
    have hx1 := congrArg Prod.fst hx
    dsimp only at hx1
    have h1 := FrmZ.bulk_len ((List.range len0).map D)
    simp only [List.length_map, List.length_range] at h1
    rw [hx1] at hb
    have h2 : Rows.uptoBulkAll ((List.range len0).map D) ≤ 1048576 := by
      refine Nat.le_trans ?_ hb
      show _ ≤ Rows.uptoBulkAll _ + Rows.uptoBulkAll _ + 1
      omega
    omega

end Go.Proofs.Ythmcfnbnafdkeaa.PrtAm

/- The law ProtoMessages. -/
namespace Go.Proofs.Ythmcfnbnafdkeaa.PrtAp
open Go.ChangeShapes Go.WideShapes Go.ChangeAt Go.RowKit Go.Deep Base Wri RulA FrmP FrmA FrmD FrmE FrmF FrmX FrmY FrmI FrmR FrmU FrmM FrmC2 PrtA PrtB PrtC PrtD PrtE PrtN PrtR PrtI PrtP PrtQ PrtV PrtX PrtZ PrtAl PrtAo
set_option linter.unusedVariables false
set_option linter.unusedSimpArgs false

/-- what stays: the request and the answer that came in, in their boxes -/
def Inv (w : World) (B : Nat) (r : Rq) (q : Aw) (W : World) : Prop := Below B w W ∧ B + 1 < W.heap.size ∧ Six W B (.int .i64 r.id) (.int .u8 r.want) (.int .i64 r.flow) (.int .i64 r.count) (.string r.text) (.int .i64 r.token) ∧ Five W (B + 1) (.int .i64 q.id) (.int .u8 q.status) (.int .i64 q.left) (.int .i64 q.wait) (.int .i64 q.token)
theorem Inv.step {w W W' : World} {B : Nat} {r : Rq} {q : Aw} (h : Inv w B r q W) (hb : Below W.heap.size W W') : Inv w B r q W' := by
  obtain ⟨h1, h2, h3, h4⟩ := h
  have hB : B ≤ W.heap.size := by omega
  exact ⟨h1.trans (hb.mono hB), Nat.lt_of_lt_of_le h2 hb.size, cells6 h3 hb (by omega), cells5 h4 hb h2⟩
theorem Inv.new (w : World) (r : Rq) (q : Aw) : Inv w w.heap.size r q ((w.alloc (.cells #[.int .i64 r.id, .int .u8 r.want, .int .i64 r.flow, .int .i64 r.count, .string r.text, .int .i64 r.token] 51)).alloc (.cells #[.int .i64 q.id, .int .u8 q.status, .int .i64 q.left, .int .i64 q.wait, .int .i64 q.token] 54)) := by
  refine ⟨((Below.refl _ _).alloc (Nat.le_refl _) _).alloc (by rw [size_alloc]; omega) _, by rw [size_alloc, size_alloc]; omega, ?_, ?_⟩
  · exact cells6 six_new ((Below.refl _ _).alloc (Nat.le_refl _) _) (by rw [size_alloc]; omega)
  · have := five_new (W := w.alloc (.cells #[.int .i64 r.id, .int .u8 r.want, .int .i64 r.flow, .int .i64 r.count, .string r.text, .int .i64 r.token] 51)) (a := .int .i64 q.id) (b := .int .u8 q.status) (c := .int .i64 q.left) (d := .int .i64 q.wait) (e := .int .i64 q.token) (t := 54)
    rwa [size_alloc] at this

theorem bstep {W U V : World} (h : Below W.heap.size W U) (hb : Below U.heap.size U V) : Below W.heap.size W V := h.trans (hb.mono h.size)
theorem bdrew (W : World) : Below W.heap.size W W.drew := ⟨rfl, rfl, rfl, Nat.le_refl _, fun _ _ => rfl⟩
theorem bdrewN {W U : World} (h : Below W.heap.size W U) (m : Nat) : Below W.heap.size W (U.drewN m) := ⟨h.os, h.tape, h.output, h.size, h.block⟩

theorem kc {W W' : World} {g o : Nat} {v : Value} (hb : Below W.heap.size W W') (h : W.cell? ⟨g, o, none⟩ = some v) : W'.cell? ⟨g, o, none⟩ = some v := (hb.cell (p := ⟨g, o, none⟩) (World.block_lt_of_cell? _ _ h)).trans h
theorem drewN_bel {W W' : World} {m : Nat} (h : W.drewN m = W') : Below W.heap.size W W' := by rw [← h]; exact ⟨rfl, rfl, rfl, Nat.le_refl _, fun _ _ => rfl⟩

/-- the bytes told lie there, and stay -/
theorem told_bat {w w' : World} {va : Option Addr} {vc : Nat} {s : Bs} (h : w'.ownsRow w.heap.size 5 1 (.slice va s.length vc) s.length (s.map bv)) : ∀ wx, Below w'.heap.size w' wx → BAt wx wx.heap.size va s := fun wx hb => by
  obtain ⟨k1, k2, k3, k4⟩ := own_bytes h rfl
  exact ((k4 _ k3).below hb).mono hb.size

set_option maxRecDepth 100000 in
set_option maxHeartbeats 8000000 in
theorem messages_core (r : Rq) (q : Aw) (a : Option Addr) (cap n : Nat) (D : Nat → Rq) (w : World) (hs : r.text.size ≤ maxLen) (hq0 : 0 ≤ q.status) (hq1 : q.status ≤ 255) (hn : n ≤ 1048576) (HP : Hid (Reqs w a n D)) :
    Calls Try.prog 4 #[.agg #[.int .i64 r.id, .int .u8 r.want, .int .i64 r.flow, .int .i64 r.count, .string r.text, .int .i64 r.token], .agg #[.int .i64 q.id, .int .u8 q.status, .int .i64 q.left, .int .i64 q.wait, .int .i64 q.token], .slice a n cap] w fun e w' => e = .returned (.bool true) ∧ Below w.heap.size w w' := by
  obtain ⟨i0, hi, hz0, hz1, hz2⟩ := info_parts infoU8
  have HI := hid (Inv.new w r q)
  have K1 : Hid (∀ W, Calls Try.prog 27 #[.agg #[.int .i64 r.id, .int .u8 r.want, .int .i64 r.flow, .int .i64 r.count, .string r.text, .int .i64 r.token]] W fun e w' => Told2 W (rightQ r) (encR r) e w') := hid fun W => request_any r W hs
  have K2 : Hid (∀ W, Calls Try.prog 28 #[.agg #[.int .i64 r.id, .int .u8 r.want, .int .i64 r.flow, .int .i64 r.count, .string r.text, .int .i64 r.token]] W fun e w' => Told2 W (rightQ r) (encR r) e w') := hid fun W => rrequest_any r W hs
  have K3 : Hid (∀ W, Calls Try.prog 29 #[.agg #[.int .i64 q.id, .int .u8 q.status, .int .i64 q.left, .int .i64 q.wait, .int .i64 q.token]] W fun e w' => Told2 W (rightA q) (encA q) e w') := hid fun W => answer_any q W hq0 hq1
  have K4 : Hid (∀ W, Calls Try.prog 30 #[.agg #[.int .i64 q.id, .int .u8 q.status, .int .i64 q.left, .int .i64 q.wait, .int .i64 q.token]] W fun e w' => Told2 W (rightA q) (encA q) e w') := hid fun W => ranswer_any q W hq0 hq1
  have K5 : Hid (∀ W, Calls Try.prog 33 #[.agg #[.int .i64 r.id, .int .u8 r.want, .int .i64 r.flow, .int .i64 r.count, .string r.text, .int .i64 r.token]] W fun e w' => e = .returned (.bool (rightQ r)) ∧ Below W.heap.size W w') := hid fun W => right_any r.id r.want r.flow r.count r.token r.text W hs
  have K6 : Hid (∀ W, Calls Try.prog 34 #[.agg #[.int .i64 r.id, .int .u8 r.want, .int .i64 r.flow, .int .i64 r.count, .string r.text, .int .i64 r.token]] W fun e w' => e = .returned (.bool (rightQ r)) ∧ Below W.heap.size W w') := hid fun W => rrightQ_any r hs W
  have K7 : Hid (∀ W, Calls Try.prog 35 #[.agg #[.int .i64 q.id, .int .u8 q.status, .int .i64 q.left, .int .i64 q.wait, .int .i64 q.token]] W fun e w' => e = .returned (.bool (rightA q)) ∧ Below W.heap.size W w') := hid fun W => rightA_any q.id q.status q.left q.wait q.token W hq0 hq1
  have K8 : Hid (∀ W, Calls Try.prog 36 #[.agg #[.int .i64 q.id, .int .u8 q.status, .int .i64 q.left, .int .i64 q.wait, .int .i64 q.token]] W fun e w' => e = .returned (.bool (rightA q)) ∧ Below W.heap.size W w') := hid fun W => rrightA_any q.id q.status q.left q.wait q.token W hq0 hq1
  have HL1 : Hid ((outB (rightQ r) (encR r)).length ≤ 98) := hid (by
    cases hr : rightQ r with
    | false => exact Nat.zero_le _
    | true => exact (encR_len hr).2)
  have HL2 : Hid ((outB (rightA q) (encA q)).length ≤ 98) := hid (by
    cases hr : rightA q with
    | false => exact Nat.zero_le _
    | true =>
      obtain ⟨id, left, wait, token, status, he, -⟩ := rightA_nums hr
      show (encA q).length ≤ 98
      unfold encA
      rw [bytesA_len]
      omega)
  obtain ⟨B, hB⟩ : ∃ B, w.heap.size = B := ⟨_, rfl⟩
  have HBe := hid hB
  rw [hB] at HI ⊢
  generalize hX : outB (rightQ r) (encR r) = X at *
  generalize hY : outB (rightA q) (encA q) = Y at *
  have HXY := hid (And.intro hX hY)
  clear hB hs hq0 hq1 hX hY
  obtain ⟨W2, hW2⟩ : ∃ W2, (w.alloc (.cells #[.int .i64 r.id, .int .u8 r.want, .int .i64 r.flow, .int .i64 r.count, .string r.text, .int .i64 r.token] 51)).alloc (.cells #[.int .i64 q.id, .int .u8 q.status, .int .i64 q.left, .int .i64 q.wait, .int .i64 q.token] 54) = W2 := ⟨_, rfl⟩
  rw [hW2] at HI
  have HWE := hid hW2
  clear hW2
  go_enter Try.func4, Try.ntmps4
  go_wp2_with fail
  rw [HWE.out]
  refine (K1.out _).mono ?_
  rintro e w1 ⟨va1, vc1, rfl, hown, hb⟩
  rw [HXY.out.1] at hown ⊢
  have HR1 : Hid (∀ wx, Below w1.heap.size w1 wx → BAt wx wx.heap.size va1 X) := hid (told_bat hown)
  have HB1 := hid hb
  have HI := hid (HI.out.step hb)
  clear hown hb
  obtain ⟨c0, c1, c2, c3, c4, c5⟩ := HI.out.2.2.1
  rw [HBe.out]
  go_wp2_with fail
  clear c0 c1 c2 c3 c4 c5
  refine (K2.out _).mono ?_
  rintro e w2 ⟨va2, vc2, rfl, hown, hb⟩
  rw [HXY.out.1] at hown ⊢
  have HR2 : Hid (∀ wx, Below w2.heap.size w2 wx → BAt wx wx.heap.size va2 X) := hid (told_bat hown)
  have HB2 := hid hb
  have HI := hid (HI.out.step hb)
  clear hown hb
  obtain ⟨d0, d1, d2, d3, d4⟩ := HI.out.2.2.2
  go_wp2_with fail
  clear d0 d1 d2 d3 d4
  refine (K3.out _).mono ?_
  rintro e w3 ⟨va3, vc3, rfl, hown, hb⟩
  rw [HXY.out.2] at hown ⊢
  have HR3 : Hid (∀ wx, Below w3.heap.size w3 wx → BAt wx wx.heap.size va3 Y) := hid (told_bat hown)
  have HB3 := hid hb
  have HI := hid (HI.out.step hb)
  clear hown hb
  obtain ⟨d0, d1, d2, d3, d4⟩ := HI.out.2.2.2
  go_wp2_with fail
  clear d0 d1 d2 d3 d4
  refine (K4.out _).mono ?_
  rintro e w4 ⟨va4, vc4, rfl, hown, hb⟩
  rw [HXY.out.2] at hown ⊢
  have HR4 : Hid (∀ wx, Below w4.heap.size w4 wx → BAt wx wx.heap.size va4 Y) := hid (told_bat hown)
  have HB4 := hid hb
  have HI := hid (HI.out.step hb)
  clear hown hb
  have HS1 : Hid (∀ wx, Below w4.heap.size w4 wx → Calls Try.prog 32 #[.slice va1 X.length vc1, .slice va2 X.length vc2] wx fun e w' => e = .returned (.bool true) ∧ ∃ m, wx.drewN m = w') := hid fun wx hb => same_bytes va1 va2 vc1 vc2 X wx (by have := HL1.out; omega) (hid (HR1.out wx (bstep HB2.out (bstep HB3.out (bstep HB4.out hb))))) (hid (HR2.out wx (bstep HB3.out (bstep HB4.out hb))))
  have HS2 : Hid (∀ wx, Below w4.heap.size w4 wx → Calls Try.prog 32 #[.slice va3 Y.length vc3, .slice va4 Y.length vc4] wx fun e w' => e = .returned (.bool true) ∧ ∃ m, wx.drewN m = w') := hid fun wx hb => same_bytes va3 va4 vc3 vc4 Y wx (by have := HL2.out; omega) (hid (HR3.out wx (bstep HB4.out hb))) (hid (HR4.out wx hb))
  have KC : Hid (∀ wx, Below w4.heap.size w4 wx → Six wx B (.int .i64 r.id) (.int .u8 r.want) (.int .i64 r.flow) (.int .i64 r.count) (.string r.text) (.int .i64 r.token) ∧ Five wx (B + 1) (.int .i64 q.id) (.int .u8 q.status) (.int .i64 q.left) (.int .i64 q.wait) (.int .i64 q.token)) := hid fun wx hb => ⟨(HI.out.step hb).2.2.1, (HI.out.step hb).2.2.2⟩
  generalize errB (rightQ r) = E1 at *
  generalize errB (rightA q) = E2 at *
  generalize hb1 : rightQ r = b1 at *
  generalize hb2 : rightA q = b2 at *
  generalize hN1 : X.length = N1 at *
  generalize hN2 : Y.length = N2 at *
  have hB0 := bdrew w4
  clear hb1 hb2 hN1 hN2 HR1 HR2 HR3 HR4 HB1 HB2 HB3 HB4 K1 K2 K3 K4 HL1 HL2 HWE HXY
  go_upto_region 5 with (fail)
  go_cut [77] (fun v wx => v = .bool false ∧ Below w4.heap.size w4 wx)
  case first =>
    obtain ⟨⟨c0, c1, c2, c3, c4, c5⟩, ⟨d0, d1, d2, d3, d4⟩⟩ := KC.out w4 (Below.refl _ _)
    have kb : Below w4.heap.size w4 w4.drew := bdrew w4
    clear KC hB0
    generalize r.id = r0 at *
    generalize r.want = r1 at *
    generalize r.flow = r2 at *
    generalize r.count = r3 at *
    generalize r.text = r4 at *
    generalize r.token = r5 at *
    generalize q.id = q0 at *
    generalize q.status = q1 at *
    generalize q.left = q2 at *
    generalize q.wait = q3 at *
    generalize q.token = q4 at *
    go_region_held3 (fun w' => w'.cell? ⟨B, 0, none⟩ = some (.int .i64 r0) ∧ w'.cell? ⟨B, 1, none⟩ = some (.int .u8 r1) ∧ w'.cell? ⟨B, 2, none⟩ = some (.int .i64 r2) ∧ w'.cell? ⟨B, 3, none⟩ = some (.int .i64 r3) ∧ w'.cell? ⟨B, 4, none⟩ = some (.string r4) ∧ w'.cell? ⟨B, 5, none⟩ = some (.int .i64 r5) ∧ w'.cell? ⟨B + 1, 0, none⟩ = some (.int .i64 q0) ∧ w'.cell? ⟨B + 1, 1, none⟩ = some (.int .u8 q1) ∧ w'.cell? ⟨B + 1, 2, none⟩ = some (.int .i64 q2) ∧ w'.cell? ⟨B + 1, 3, none⟩ = some (.int .i64 q3) ∧ w'.cell? ⟨B + 1, 4, none⟩ = some (.int .i64 q4)) (first | assumption | go_keep)
      (first
        | (go_at_call 31; refine (PrtQ.live_any _).mono ?_; rintro e w9 ⟨rfl, hb⟩
           have c0 : w9.cell? ⟨B, 0, none⟩ = some (.int .i64 r0) := kc hb (by first | assumption | go_cell)
           have c1 : w9.cell? ⟨B, 1, none⟩ = some (.int .u8 r1) := kc hb (by first | assumption | go_cell)
           have c2 : w9.cell? ⟨B, 2, none⟩ = some (.int .i64 r2) := kc hb (by first | assumption | go_cell)
           have c3 : w9.cell? ⟨B, 3, none⟩ = some (.int .i64 r3) := kc hb (by first | assumption | go_cell)
           have c4 : w9.cell? ⟨B, 4, none⟩ = some (.string r4) := kc hb (by first | assumption | go_cell)
           have c5 : w9.cell? ⟨B, 5, none⟩ = some (.int .i64 r5) := kc hb (by first | assumption | go_cell)
           have d0 : w9.cell? ⟨B + 1, 0, none⟩ = some (.int .i64 q0) := kc hb (by first | assumption | go_cell)
           have d1 : w9.cell? ⟨B + 1, 1, none⟩ = some (.int .u8 q1) := kc hb (by first | assumption | go_cell)
           have d2 : w9.cell? ⟨B + 1, 2, none⟩ = some (.int .i64 q2) := kc hb (by first | assumption | go_cell)
           have d3 : w9.cell? ⟨B + 1, 3, none⟩ = some (.int .i64 q3) := kc hb (by first | assumption | go_cell)
           have d4 : w9.cell? ⟨B + 1, 4, none⟩ = some (.int .i64 q4) := kc hb (by first | assumption | go_cell)
           have kb : Below w4.heap.size w4 w9 := bstep (by first | assumption | exact (Below.drew (by assumption))) hb)
        | (go_at_call 32; (first | with_reducible refine (HS1.out _ (by first | assumption | exact (Below.drew (by assumption)))).mono ?_ | with_reducible refine (HS2.out _ (by first | assumption | exact (Below.drew (by assumption)))).mono ?_); rintro e w9 ⟨rfl, m9, hm9⟩
           have hb := drewN_bel hm9
           clear hm9
           have c0 : w9.cell? ⟨B, 0, none⟩ = some (.int .i64 r0) := kc hb (by first | assumption | go_cell)
           have c1 : w9.cell? ⟨B, 1, none⟩ = some (.int .u8 r1) := kc hb (by first | assumption | go_cell)
           have c2 : w9.cell? ⟨B, 2, none⟩ = some (.int .i64 r2) := kc hb (by first | assumption | go_cell)
           have c3 : w9.cell? ⟨B, 3, none⟩ = some (.int .i64 r3) := kc hb (by first | assumption | go_cell)
           have c4 : w9.cell? ⟨B, 4, none⟩ = some (.string r4) := kc hb (by first | assumption | go_cell)
           have c5 : w9.cell? ⟨B, 5, none⟩ = some (.int .i64 r5) := kc hb (by first | assumption | go_cell)
           have d0 : w9.cell? ⟨B + 1, 0, none⟩ = some (.int .i64 q0) := kc hb (by first | assumption | go_cell)
           have d1 : w9.cell? ⟨B + 1, 1, none⟩ = some (.int .u8 q1) := kc hb (by first | assumption | go_cell)
           have d2 : w9.cell? ⟨B + 1, 2, none⟩ = some (.int .i64 q2) := kc hb (by first | assumption | go_cell)
           have d3 : w9.cell? ⟨B + 1, 3, none⟩ = some (.int .i64 q3) := kc hb (by first | assumption | go_cell)
           have d4 : w9.cell? ⟨B + 1, 4, none⟩ = some (.int .i64 q4) := kc hb (by first | assumption | go_cell)
           have kb : Below w4.heap.size w4 w9 := bstep (by first | assumption | exact (Below.drew (by assumption))) hb)
        | (go_at_call 33; with_reducible refine (K5.out _).mono ?_; rintro e w9 ⟨rfl, hb⟩
           have c0 : w9.cell? ⟨B, 0, none⟩ = some (.int .i64 r0) := kc hb (by first | assumption | go_cell)
           have c1 : w9.cell? ⟨B, 1, none⟩ = some (.int .u8 r1) := kc hb (by first | assumption | go_cell)
           have c2 : w9.cell? ⟨B, 2, none⟩ = some (.int .i64 r2) := kc hb (by first | assumption | go_cell)
           have c3 : w9.cell? ⟨B, 3, none⟩ = some (.int .i64 r3) := kc hb (by first | assumption | go_cell)
           have c4 : w9.cell? ⟨B, 4, none⟩ = some (.string r4) := kc hb (by first | assumption | go_cell)
           have c5 : w9.cell? ⟨B, 5, none⟩ = some (.int .i64 r5) := kc hb (by first | assumption | go_cell)
           have d0 : w9.cell? ⟨B + 1, 0, none⟩ = some (.int .i64 q0) := kc hb (by first | assumption | go_cell)
           have d1 : w9.cell? ⟨B + 1, 1, none⟩ = some (.int .u8 q1) := kc hb (by first | assumption | go_cell)
           have d2 : w9.cell? ⟨B + 1, 2, none⟩ = some (.int .i64 q2) := kc hb (by first | assumption | go_cell)
           have d3 : w9.cell? ⟨B + 1, 3, none⟩ = some (.int .i64 q3) := kc hb (by first | assumption | go_cell)
           have d4 : w9.cell? ⟨B + 1, 4, none⟩ = some (.int .i64 q4) := kc hb (by first | assumption | go_cell)
           have kb : Below w4.heap.size w4 w9 := bstep (by first | assumption | exact (Below.drew (by assumption))) hb)
        | (go_at_call 34; with_reducible refine (K6.out _).mono ?_; rintro e w9 ⟨rfl, hb⟩
           have c0 : w9.cell? ⟨B, 0, none⟩ = some (.int .i64 r0) := kc hb (by first | assumption | go_cell)
           have c1 : w9.cell? ⟨B, 1, none⟩ = some (.int .u8 r1) := kc hb (by first | assumption | go_cell)
           have c2 : w9.cell? ⟨B, 2, none⟩ = some (.int .i64 r2) := kc hb (by first | assumption | go_cell)
           have c3 : w9.cell? ⟨B, 3, none⟩ = some (.int .i64 r3) := kc hb (by first | assumption | go_cell)
           have c4 : w9.cell? ⟨B, 4, none⟩ = some (.string r4) := kc hb (by first | assumption | go_cell)
           have c5 : w9.cell? ⟨B, 5, none⟩ = some (.int .i64 r5) := kc hb (by first | assumption | go_cell)
           have d0 : w9.cell? ⟨B + 1, 0, none⟩ = some (.int .i64 q0) := kc hb (by first | assumption | go_cell)
           have d1 : w9.cell? ⟨B + 1, 1, none⟩ = some (.int .u8 q1) := kc hb (by first | assumption | go_cell)
           have d2 : w9.cell? ⟨B + 1, 2, none⟩ = some (.int .i64 q2) := kc hb (by first | assumption | go_cell)
           have d3 : w9.cell? ⟨B + 1, 3, none⟩ = some (.int .i64 q3) := kc hb (by first | assumption | go_cell)
           have d4 : w9.cell? ⟨B + 1, 4, none⟩ = some (.int .i64 q4) := kc hb (by first | assumption | go_cell)
           have kb : Below w4.heap.size w4 w9 := bstep (by first | assumption | exact (Below.drew (by assumption))) hb)
        | (go_at_call 35; with_reducible refine (K7.out _).mono ?_; rintro e w9 ⟨rfl, hb⟩
           have c0 : w9.cell? ⟨B, 0, none⟩ = some (.int .i64 r0) := kc hb (by first | assumption | go_cell)
           have c1 : w9.cell? ⟨B, 1, none⟩ = some (.int .u8 r1) := kc hb (by first | assumption | go_cell)
           have c2 : w9.cell? ⟨B, 2, none⟩ = some (.int .i64 r2) := kc hb (by first | assumption | go_cell)
           have c3 : w9.cell? ⟨B, 3, none⟩ = some (.int .i64 r3) := kc hb (by first | assumption | go_cell)
           have c4 : w9.cell? ⟨B, 4, none⟩ = some (.string r4) := kc hb (by first | assumption | go_cell)
           have c5 : w9.cell? ⟨B, 5, none⟩ = some (.int .i64 r5) := kc hb (by first | assumption | go_cell)
           have d0 : w9.cell? ⟨B + 1, 0, none⟩ = some (.int .i64 q0) := kc hb (by first | assumption | go_cell)
           have d1 : w9.cell? ⟨B + 1, 1, none⟩ = some (.int .u8 q1) := kc hb (by first | assumption | go_cell)
           have d2 : w9.cell? ⟨B + 1, 2, none⟩ = some (.int .i64 q2) := kc hb (by first | assumption | go_cell)
           have d3 : w9.cell? ⟨B + 1, 3, none⟩ = some (.int .i64 q3) := kc hb (by first | assumption | go_cell)
           have d4 : w9.cell? ⟨B + 1, 4, none⟩ = some (.int .i64 q4) := kc hb (by first | assumption | go_cell)
           have kb : Below w4.heap.size w4 w9 := bstep (by first | assumption | exact (Below.drew (by assumption))) hb)
        | (go_at_call 36; with_reducible refine (K8.out _).mono ?_; rintro e w9 ⟨rfl, hb⟩
           have c0 : w9.cell? ⟨B, 0, none⟩ = some (.int .i64 r0) := kc hb (by first | assumption | go_cell)
           have c1 : w9.cell? ⟨B, 1, none⟩ = some (.int .u8 r1) := kc hb (by first | assumption | go_cell)
           have c2 : w9.cell? ⟨B, 2, none⟩ = some (.int .i64 r2) := kc hb (by first | assumption | go_cell)
           have c3 : w9.cell? ⟨B, 3, none⟩ = some (.int .i64 r3) := kc hb (by first | assumption | go_cell)
           have c4 : w9.cell? ⟨B, 4, none⟩ = some (.string r4) := kc hb (by first | assumption | go_cell)
           have c5 : w9.cell? ⟨B, 5, none⟩ = some (.int .i64 r5) := kc hb (by first | assumption | go_cell)
           have d0 : w9.cell? ⟨B + 1, 0, none⟩ = some (.int .i64 q0) := kc hb (by first | assumption | go_cell)
           have d1 : w9.cell? ⟨B + 1, 1, none⟩ = some (.int .u8 q1) := kc hb (by first | assumption | go_cell)
           have d2 : w9.cell? ⟨B + 1, 2, none⟩ = some (.int .i64 q2) := kc hb (by first | assumption | go_cell)
           have d3 : w9.cell? ⟨B + 1, 3, none⟩ = some (.int .i64 q3) := kc hb (by first | assumption | go_cell)
           have d4 : w9.cell? ⟨B + 1, 4, none⟩ = some (.int .i64 q4) := kc hb (by first | assumption | go_cell)
           have kb : Below w4.heap.size w4 w9 := bstep (by first | assumption | exact (Below.drew (by assumption))) hb)
        )
    all_goals
      go_wp2_with fail
      go_meet
      exact ⟨rfl, by assumption⟩
  case rest =>
    obtain ⟨rfl, hbc⟩ := hcut
    have HC : Hid (Below w.heap.size w wc) := hid (by rw [HBe.out]; exact HI.out.1.trans (hbc.mono (by have h1 := HI.out.1.size; have h2 := HI.out.2.1; omega)))
    have HPc := hid (Reqs.below HP.out HC.out)
    have HA := hid (all_any a cap n D wc hn HPc)
    clear hbc HS1 HS2 KC hB0
    go_wp2_with fail
    refine HA.out.mono ?_
    rintro e w7 ⟨xa, xc, rfl, hown, hb⟩
    have HX := hid hown
    have HB7 := hid (HC.out.trans (hb.mono HC.out.size))
    clear hown hb HA
    go_wp2_with fail
    go_loopw [10, 16, 17] (fun f v i wr => ∃ (k : Nat) (va : Option Addr) (vn vc : Nat), k ≤ n ∧ i = .int .i64 k ∧ v = .slice va vn vc ∧ Below w7.heap.size w7 wr ∧
      (((∀ j, j < k → rightQ (D j) = true) ∧ f = .int .i64 0 ∧ vn = (frames (encsL D k)).length ∧ wr.ownsRow w7.heap.size 5 1 (.slice va vn vc) vn ((frames (encsL D k)).map bv)) ∨ (f = .int .i64 6 ∧ allR D n = false))) (fun _ _ i _ => n - (intOf i).toNat)
    case atStart => exact ⟨0, none, 0, 0, Nat.zero_le _, rfl, rfl, Below.refl _ _, .inl ⟨fun j h => by omega, rfl, rfl, World.ownsRow_nil _ _ _ _⟩⟩
    case round =>
      obtain ⟨k, va, vn, vc, hk, rfl, rfl, hb, hcase⟩ := hrel
      have HB := hid hb
      clear hb
      rcases hcase with ⟨hr, rfl, hvn, hrow⟩ | ⟨rfl, hall⟩
      · have HR := hid hr
        have HW := hid (And.intro hvn hrow)
        clear hr hvn hrow
        by_cases hlt : k < n
        · obtain ⟨p, o, rfl, hp, hc⟩ := HP.out.2.1 (by omega)
          have HT := hid (HP.out.2.2 k hlt)
          have hBB := HB7.out.trans (HB.out.mono HB7.out.size)
          have mv : ∀ (j : Nat) v, (rw6 (D k))[j]? = some v → wr.cell? ⟨p, o + k * 6 + j, none⟩ = some v := fun j v hv => (hBB.cell (p := ⟨p, o + k * 6 + j, none⟩) hp).trans (hc k hlt j v hv)
          have c0 : wr.cell? ⟨p, o + k * 6, none⟩ = some (.int .i64 (D k).id) := mv 0 _ rfl
          have c1 : wr.cell? ⟨p, o + k * 6 + 1, none⟩ = some (.int .u8 (D k).want) := mv 1 _ rfl
          have c2 : wr.cell? ⟨p, o + k * 6 + 2, none⟩ = some (.int .i64 (D k).flow) := mv 2 _ rfl
          have c3 : wr.cell? ⟨p, o + k * 6 + 3, none⟩ = some (.int .i64 (D k).count) := mv 3 _ rfl
          have c4 : wr.cell? ⟨p, o + k * 6 + 4, none⟩ = some (.string (D k).text) := mv 4 _ rfl
          have c5 : wr.cell? ⟨p, o + k * 6 + 5, none⟩ = some (.int .i64 (D k).token) := mv 5 _ rfl
          have HQ := hid (rrequest_any (D k) wr HT.out)
          rw [show rv (D k) = .agg #[.int .i64 (D k).id, .int .u8 (D k).want, .int .i64 (D k).flow, .int .i64 (D k).count, .string (D k).text, .int .i64 (D k).token] from rfl] at HQ
          clear mv hc hBB
          cases hrk : rightQ (D k) with
          | false =>
            have HAL := hid (allR_false hlt hrk)
            rw [hrk] at HQ
            clear hrk
            go_wp2_with fail
            refine HQ.out.mono ?_
            rintro e w8 ⟨ya, yc, rfl, hown, hb⟩
            rw [show errB false = 6 from rfl]
            rw [show outB false (encR (D k)) = [] from rfl] at hown ⊢
            have HB8 := hid (HB.out.trans (hb.mono HB.out.size))
            have HF := hid (rframe_any ya yc [] w8 (by decide) (hid (fun h => absurd h (by decide))))
            rw [show firstErr [[]] = 6 from by decide, show ([] : Bs).length = 0 from rfl] at HF
            have hrow8 := owns_keep HW.out.2 (fun g e => hb.block g (HW.out.2.lt g e).2)
            have H8 := hid hrow8
            rw [show ([] : Bs).length = 0 from rfl]
            clear hown hb HQ hrow8 c0 c1 c2 c3 c4 c5
            go_wp2_with fail
            refine HF.out.mono ?_
            rintro e w9 ⟨⟨y, rfl, -, hy⟩, hb⟩
            obtain rfl := hy (by decide)
            have HB9 := hid (HB8.out.trans (hb.mono HB8.out.size))
            have HW9 := hid hb
            clear hy hb HF
            have hrow9 := owns_keep H8.out (fun g e => HW9.out.block g (H8.out.lt g e).2)
            have H9 := hid hrow9
            clear hrow9
            go_wp2_with (at_builtin; refine wpList_append_own_none rfl _ _ 28 rfl w7.heap.size 5 i0 1 Try.underlying28 hi (Value.slice va vn vc) vn _ rfl H9.out rfl ?_)
            go_roundw
            case rel => exact ⟨k + 1, va, vn, vc, by omega, by go_num, rfl, HB9.out, .inr ⟨rfl, HAL.out⟩⟩
            case measure => simp [intOf]; omega
          | true =>
            have HRK := hid hrk
            rw [hrk] at HQ
            clear hrk
            go_wp2_with fail
            refine HQ.out.mono ?_
            rintro e w8 ⟨ya, yc, rfl, hown, hb⟩
            rw [show errB true = 0 from rfl]
            rw [show outB true (encR (D k)) = encR (D k) from rfl] at hown ⊢
            have HB8 := hid (HB.out.trans (hb.mono HB.out.size))
            have hen := encR_len HRK.out
            have HF := hid (rframe_any ya yc (encR (D k)) w8 (by omega) (hid (told_bat hown w8 (Below.refl _ _))))
            have hfe : firstErr [encR (D k)] = 0 := by
              have := firstErr_ok (l := [encR (D k)]) (fun q hq => by obtain rfl := List.mem_singleton.1 hq; unfold Right; omega) []
              rw [List.append_nil] at this
              exact this
            rw [hfe] at HF
            have H8 := hid (owns_keep HW.out.2 (fun g e => hb.block g (HW.out.2.lt g e).2))
            have HEN := hid hen
            obtain ⟨Lq, hLq⟩ : ∃ Lq, (encR (D k)).length = Lq := ⟨_, rfl⟩
            have HLQ := hid hLq
            rw [hLq] at HF ⊢
            clear hown hb HQ c0 c1 c2 c3 c4 c5 hen hfe hLq
            go_wp2_with fail
            refine HF.out.mono ?_
            rintro e w9 ⟨⟨y, rfl, hy, -⟩, hb⟩
            have hrow := (hy (by trivial)).2
            obtain ⟨za, zc, rfl⟩ := owns_shape hrow
            have HB9 := hid (HB8.out.trans (hb.mono HB8.out.size))
            have H9 := hid (And.intro hrow (owns_keep H8.out (fun g e => hb.block g (H8.out.lt g e).2)))
            have hfl := frame_len (encR (D k))
            have hen := HEN.out
            rw [HLQ.out] at hfl
            have hsm := frames_small HR.out
            have hvn := HW.out.1
            obtain ⟨Fl, hFl⟩ : ∃ Fl, (frame (encR (D k))).length = Fl := ⟨_, rfl⟩
            have HFl := hid hFl
            rw [hFl] at H9 hfl ⊢
            have hFb : Fl ≤ 102 := by rw [HLQ.out] at hen; omega
            have hvb : vn ≤ 102 * k := by omega
            clear hy hb hrow HF hfl hen hsm hvn hFl
            cases za with
            | none =>
              have h0 : Fl = 0 := by
                rcases H9.out.1.2 with ⟨_, h⟩ | ⟨g, c, cur, e, _⟩
                · exact h
                · cases e
              exfalso
              have := frame_len (encR (D k))
              rw [HFl.out] at this
              omega
            | some ad =>
              obtain ⟨gz, oz, ez, hzg, hzc⟩ := (told_bat (w := w8) (by rw [HFl.out]; exact H9.out.1)) w9 (Below.refl _ _) (by have := frame_len (encR (D k)); omega)
              cases ez
              have HZ := hid hzc
              clear hzg hzc
              go_wp2_with (at_builtin
                           refine wpList_append_own_at _ rfl _ _ 28 rfl w7.heap.size 5 i0 (.int .u8 0) 1 1 Try.underlying28 hi hz0 hz1 hz2 rfl (by decide) (Value.slice va vn vc) vn ((frames (encsL D k)).map bv) rfl H9.out.2 ⟨gz, oz, none⟩ Fl zc ((frame (encR (D k))).map bv) rfl (by rw [List.length_map, HFl.out, Nat.mul_one]) (news_of HZ.out) (one_cells _) (by unfold maxLen; omega) (by omega) HB9.out.size ?_
                           intro v4 w10 hown4 hgr4 hnil4 hat4
                           obtain ⟨vb, vd, rfl⟩ := owns_shape hown4
                           have H10 := hid (And.intro hown4 (Below.grown HB9.out hgr4 HB9.out.size (fun g e => (H9.out.2.lt g e).1)))
                           clear hown4 hgr4 hnil4 hat4)
              go_roundw
              case rel =>
                refine ⟨k + 1, vb, vn + Fl, vd, by omega, by go_num, rfl, H10.out.2, .inl ⟨fun j hj => ?_, rfl, ?_, ?_⟩⟩
                · by_cases e : j = k
                  · subst e; exact HRK.out
                  · exact HR.out j (by omega)
                · rw [encsL_snoc, frames_snoc, List.length_append, ← HW.out.1, HFl.out]
                · rw [encsL_snoc, frames_snoc, List.map_append]
                  exact H10.out.1
              case measure => simp [intOf]; omega
        · obtain rfl : k = n := by omega
          have HAL := hid (allR_true.2 HR.out)
          have hsm := frames_small HR.out
          have hrow7 := owns_keep HX.out (fun g e => HB.out.block g (HX.out.lt g e).2)
          rw [HAL.out, show outB true (frames (encsL D k)) = frames (encsL D k) from rfl] at hrow7
          rw [HAL.out, show outB true (frames (encsL D k)) = frames (encsL D k) from rfl, show errB true = 0 from rfl]
          have hrw := HW.out.2
          have hvn := HW.out.1
          subst hvn
          have HS := hid (same_bytes xa va xc vc (frames (encsL D k)) wr (by omega) (hid (told_bat (w := wc) (w' := wr) hrow7 wr (Below.refl _ _))) (hid (told_bat (w := w7) (w' := wr) hrw wr (Below.refl _ _))))
          generalize (frames (encsL D k)).length = Lf at *
          clear hrow7 hrw hsm
          go_wp2_with fail
          refine HS.out.mono ?_
          rintro e w8 ⟨rfl, m, hm⟩
          have HF := hid (HB7.out.trans ((HB.out.trans ((drewN_bel hm).mono HB.out.size)).mono HB7.out.size))
          clear hm
          go_wp2_with fail
          go_ret
          exact ⟨rfl, by rw [← HBe.out]; exact HF.out⟩
      · have HAL := hid hall
        clear hall
        rw [HAL.out, show errB false = 6 from rfl, show outB false (frames (encsL D n)) = [] from rfl, show ([] : Bs).length = 0 from rfl]
        have HS := hid (same_bytes xa none xc 0 [] wr (by decide) (hid (fun h => absurd h (by decide))) (hid (fun h => absurd h (by decide))))
        rw [show ([] : Bs).length = 0 from rfl] at HS
        by_cases hlt : k < n
        · go_wp2_with fail
          refine HS.out.mono ?_
          rintro e w8 ⟨rfl, m, hm⟩
          have HF := hid (HB7.out.trans ((HB.out.trans ((drewN_bel hm).mono HB.out.size)).mono HB7.out.size))
          clear hm
          go_wp2_with fail
          go_ret
          exact ⟨rfl, by rw [← HBe.out]; exact HF.out⟩
        · go_wp2_with fail
          refine HS.out.mono ?_
          rintro e w8 ⟨rfl, m, hm⟩
          have HF := hid (HB7.out.trans ((HB.out.trans ((drewN_bel hm).mono HB.out.size)).mono HB7.out.size))
          clear hm
          go_wp2_with fail
          go_ret
          exact ⟨rfl, by rw [← HBe.out]; exact HF.out⟩

end Go.Proofs.Ythmcfnbnafdkeaa.PrtAp

namespace Go.Proofs.Ythmcfnbnafdkeaa.protoMessages
open Go.ChangeShapes Go.WideShapes Go.ChangeAt Go.RowKit Go.Deep
open Go.ChangeMaps (open_string shut_string)
set_option linter.unusedVariables false

theorem own : ownKnob Try.prog.godebug = none := by kernel_rfl
theorem laidOut : laidOutB Try.prog = true := by kernel_rfl

set_option maxRecDepth 100000 in
theorem held (H : Type) (enc : TypeId × Value → H) (W : World) (base : Nat) (args : Array Value) (ds gs : List (DataW H)) (before : List MemPlace)
    (hval0 : ∀ (j : Nat) t v, Try.f4.params[j]? = some t → args[j]? = some v → Value.okWide Try.prog W .any base t v)
    (hW : DataW.Whole enc Try.prog Try.f4.params.toList Rows.protoMessagesSpec.vars false W args.toList ds gs before) (hk : Rows.uptoSmall H (ds ++ gs) = true) :
    Calls Try.prog 4 args W fun e W' => ∃ v, e = .returned v ∧ Rows.protoMessagesSpec.post enc Try.prog Try.f4 false true false false W args v W' := by
  have hval : ∀ (j : Nat) t v, Try.f4.params[j]? = some t → args[j]? = some v → Value.okWide Try.prog W .any base t v := hval0
  have hW' := hW
  obtain ⟨p, q, hA0, hV, rfl, hfz, hnd⟩ := hW
  have hA : DataW.TrodAll enc Try.prog W 0 (fun _ => true) true Try.f4.params.toList args.toList ds p := hA0
  rw [Try.params4] at hA hval
  obtain ⟨v0, vs0, d0, ds0, p0, q0, hargs, rfl, rfl, h0, r0⟩ := trodAll_cons hA
  obtain ⟨v1, vs1, d1, ds1, p1, q1, rfl, rfl, rfl, h1, r1⟩ := trodAll_cons r0
  obtain ⟨v2, vs2, d2, ds2, p2, q2, rfl, rfl, rfl, h2, r2⟩ := trodAll_cons r1
  obtain ⟨rfl, rfl, rfl⟩ := trodAll_nil r2
  obtain rfl : args = #[v0, v1, v2] := by cases args; simp_all
  obtain ⟨rfl, rfl⟩ := trodVars_none hV
  have k0 := h0
  have lt0 : ∀ x ∈ p0, x.block < W.heap.size := by obtain ⟨m, hm⟩ := k0; exact DataW.trod_lt m _ _ _ hm
  have k1 := h1
  have lt1 : ∀ x ∈ p1, x.block < W.heap.size := by obtain ⟨m, hm⟩ := k1; exact DataW.trod_lt m _ _ _ hm
  have k2 := h2
  have lt2 : ∀ x ∈ p2, x.block < W.heap.size := by obtain ⟨m, hm⟩ := k2; exact DataW.trod_lt m _ _ _ hm
  clear hA0 hval0
  have hb : Rows.uptoBulkAll ([d0, d1, d2] ++ ([] : List (DataW H))) ≤ 1048576 := of_decide_eq_true hk
  have hb2 : Rows.uptoBulk d2 ≤ 1048576 := Nat.le_trans (FrmZ.bulk_in (by simp)) hb
  obtain ⟨r, rfl, hrs⟩ := PrtX.rq_of (hval 0 51 v0 rfl rfl) h0
  obtain ⟨q, rfl, hq0, hq1⟩ := PrtX.aw_of (hval 1 54 v1 rfl rfl) h1
  obtain ⟨a2, len2, cap2, rfl⟩ := okWide_slice Try.underlying55 (hval 2 55 v2 rfl rfl)
  obtain ⟨D, hD⟩ := PrtZ.reqs_of h2
  refine (PrtAp.messages_core r q a2 cap2 len2 D W hrs hq0 hq1 (PrtAm.reqs_bulk h2 hb2) (Base.hid hD)).mono fun e W' ⟨he, bel⟩ => ?_

  subst he
  exact ⟨_, rfl, _, _, _, [], _, [], hW', trodAll_mk1 (shut_bool Try.underlying4 _), (trodAll_cons_mk (Below.trod laidOut (by kernel_rfl) (of_decide_eq_true (by kernel_rfl)) k0 bel lt0) (trodAll_cons_mk (Below.trod laidOut (by kernel_rfl) (of_decide_eq_true (by kernel_rfl)) k1 bel lt1) (trodAll_cons_mk (Below.trod laidOut (by kernel_rfl) (of_decide_eq_true (by kernel_rfl)) k2 bel lt2) trodAll_mk0))), rfl, bel.frame _, fun h => by cases h⟩

set_option maxRecDepth 100000 in
theorem lifted (os : Os) (started : os.Started) (H : Type) (enc : TypeId × Value → H) (F : Stop.Interp) :
    ReturnsInHanded {} Try.checked os 4 .any ((Rows.OpenSpec.upto Rows.protoMessagesSpec).pre6 enc Try.prog Try.f4 Rows.protoMessagesUptoRow.domain false) (((Rows.OpenSpec.upto Rows.protoMessagesSpec).at F).post enc Try.prog Try.f4 false true false false) := by
  refine returnsInHanded_of_cond (C := Try.checked) (s := Rows.OpenSpec.upto Rows.protoMessagesSpec) (k := Rows.uptoSmall) rfl own started (by kernel_rfl) Try.func4
    (OpenSpec.witness (enc := enc) (C := Try.checked) (s := Rows.OpenSpec.upto Rows.protoMessagesSpec) (k := Rows.uptoSmall) rfl false ⟨#[], #[.agg #[.int .i64 0, .int .u8 0, .int .i64 0, .int .i64 0, .string ⟨#[]⟩, .int .i64 0], .agg #[.int .i64 0, .int .u8 0, .int .i64 0, .int .i64 0, .int .i64 0], .slice none 0 0], []⟩ 8 (by kernel_rfl) (by kernel_rfl) (by kernel_rfl)
      (x := ([.agg [.lit (.int .i64 0), .lit (.int .u8 0), .lit (.int .i64 0), .lit (.int .i64 0), .lit (.string []), .lit (.int .i64 0)], .agg [.lit (.int .i64 0), .lit (.int .u8 0), .lit (.int .i64 0), .lit (.int .i64 0), .lit (.int .i64 0)], .nil], [], [])) (by kernel_rfl) rfl (by kernel_rfl)) ?_
  intro W base args ds gs before hval hW _ hk _
  exact held H enc W base args ds gs before hval hW hk

theorem over : Rows.protoMessagesUptoRow.holds Try.pinned (Rows.OpenSpec.upto Rows.protoMessagesSpec) :=
  OpenClaim.holds_of_cond 4 Try.f4 rfl rfl rfl rfl rfl rfl rfl ⟨rfl, rfl, rfl, rfl, rfl⟩ rfl rfl rfl rfl rfl (by kernel_rfl) Try.func4 (by kernel_rfl)
    (of_decide_eq_true (by kernel_rfl)) (by unfold Func.isWrapper; first | (rw [if_pos (by decide +kernel)]; kernel_rfl) | (rw [if_neg (by decide +kernel)]; exact ⟨rfl, rfl⟩))
    (fun os started H enc _ F => lifted os started H enc F)

theorem proved : Rows.ProtoMessagesUptoSaid := over
#print axioms proved
end Go.Proofs.Ythmcfnbnafdkeaa.protoMessages
