/- Requests and answers as bytes: the program's. -/
import Derived.Test.YthmcfnbnafdkeaaPrtB
namespace Go.Proofs.Ythmcfnbnafdkeaa.PrtC
open Go.ChangeShapes Go.WideShapes Go.ChangeAt Go.RowKit Base Wri FrmP FrmA FrmD FrmE FrmF FrmR FrmX FrmL FrmC2 FrmK FrmK2 RulA PrtA PrtB
set_option linter.unusedVariables false
set_option linter.unusedSimpArgs false

/-- a request whose numbers are none below nought -/
def bytesR (id flow count token : Nat) (want : Nat) (t : ByteArray) : Bs := [UInt8.ofNat want] ++ encs [id, flow, count, token] ++ [UInt8.ofNat t.size] ++ t.data.toList
def bytesA (id left wait token : Nat) (status : Nat) : Bs := [UInt8.ofNat status] ++ encs [id, left, wait, token]

theorem wt_new (w : World) (T : TypeId) (hT : T ≠ 5) (B : Nat) : Wt (w.alloc (.cells #[.slice none 0 0] T)) B w.heap.size (.slice none 0 0) [] :=
  ⟨by unfold World.cell?; rw [heap_alloc_new]; rfl, by unfold World.frozen?; rw [heap_alloc_new]; rfl, World.ownsRow_nil _ _ _ _, fun e => (by cases e), by simp, ⟨_, T, heap_alloc_new _ _, hT⟩⟩

set_option maxRecDepth 20000 in
set_option maxHeartbeats 2000000 in
theorem wrequest_any (B p : Nat) (id flow count token : Nat) (want : Nat) (t : ByteArray) (v : Value) (w : World) (h : Wt w B p v []) (hB : B ≤ w.heap.size) (h1 : id < 9223372036854775808) (h2 : flow < 9223372036854775808) (h3 : count < 9223372036854775808) (h4 : token < 9223372036854775808) (hw : want < 256) (ht : t.size ≤ 255) :
    Calls Try.prog 58 #[.pointer (some ⟨p, 0, none⟩), .agg #[.int .i64 (id : Nat), .int .u8 (want : Nat), .int .i64 (flow : Nat), .int .i64 (count : Nat), .string t, .int .i64 (token : Nat)]] w fun e w' => e = .returned (.tuple #[]) ∧ ∃ v', w'.cell? ⟨p, 0, none⟩ = some v' ∧ w'.ownsRow B 5 1 v' (bytesR id flow count token want t).length ((bytesR id flow count token want t).map bv) ∧ Wr (fun k => k = p ∨ v.ownBlock = some k) w w' := by
  have HW := hid h
  clear h
  go_enter Try.func58, Try.ntmps58
  go_wp2_with fail
  obtain ⟨wa, hwa⟩ : ∃ wa, w.alloc (.cells #[.int .i64 (id : Nat), .int .u8 (want : Nat), .int .i64 (flow : Nat), .int .i64 (count : Nat), .string t, .int .i64 (token : Nat)] 51) = wa := ⟨_, rfl⟩
  obtain ⟨A, hA⟩ : ∃ A, w.heap.size = A := ⟨_, rfl⟩
  have hba : Below w.heap.size w wa := by rw [← hwa]; exact (Below.refl _ _).alloc (Nat.le_refl _) _
  have hblk : wa.heap[A]? = some (.cells #[.int .i64 (id : Nat), .int .u8 (want : Nat), .int .i64 (flow : Nat), .int .i64 (count : Nat), .string t, .int .i64 (token : Nat)] 51 (0, 0)) := by rw [← hwa, ← hA]; exact heap_alloc_new _ _
  have hAs : A < wa.heap.size := (Array.getElem?_eq_some_iff.1 hblk).1
  have HA : Hid (A ≠ p ∧ v.ownBlock ≠ some A) := hid ⟨by have := HW.out.lt; omega, fun e => by have := (HW.out.own.lt _ e).2; omega⟩
  have HBA := hid hba
  have HBK := hid hblk
  have c1 : wa.cell? ⟨A, 1, none⟩ = some (.int .u8 (want : Nat)) := by simp [World.cell?, hblk]
  have HC1 := hid (one_any B p (UInt8.ofNat want) [] v wa.drew (HW.out.below (show Below w.heap.size w wa.drew from ⟨hba.os, hba.tape, hba.output, hba.size, hba.block⟩)) (show B ≤ wa.heap.size by have := hba.size; omega) (by simp))
  rw [u8_nat, show ((want : Nat) : Int) % 256 = (want : Nat) by omega] at HC1
  have HWA := hid hwa
  rw [hwa, hA]
  clear hwa hba hblk hA
  go_region_held3 (fun w' => w'.cell? ⟨A, 1, none⟩ = some (.int .u8 (want : Nat))) (first | assumption | go_keep) (first
    | (go_at_call 78
       refine HC1.out.mono ?_
       rintro e w1 ⟨rfl, v1, h1⟩
       have H1 := hid h1
       have y1 : w1.cell? ⟨A, 1, none⟩ = some (.int .u8 (want : Nat)) := (h1.wr.cell 1 hAs (by
         rintro (e | e)
         · exact HA.out.1 e
         · exact HA.out.2 e)).trans c1
       clear h1))
  have hAB : w1.heap[A]? = wa.heap[A]? := H1.out.wr.block A hAs (by
    rintro (e | e)
    · exact HA.out.1 e
    · exact HA.out.2 e)
  have hT1 : Stp B p w v w1 v1 [UInt8.ofNat want] := Stp.ahead' HBA.out H1.out
  have HT1 := hid hT1
  have HBK1 := hid (hAB.trans HBK.out)
  have hA1 : A < w1.heap.size := Nat.lt_of_lt_of_le hAs H1.out.wr.size
  have HAV : Hid (v1.ownBlock ≠ some A) := hid (fun e => by
    rcases H1.out.blk A e with e2 | e2
    · exact HA.out.2 e2
    · have e2 : wa.heap.size ≤ A := e2
      omega)
  clear hT1 hAB H1 c1 y1
  have c0 : w1.cell? ⟨A, 0, none⟩ = some (.int .i64 (id : Nat)) := by simp [World.cell?, HBK1.out]
  have c2 : w1.cell? ⟨A, 2, none⟩ = some (.int .i64 (flow : Nat)) := by simp [World.cell?, HBK1.out]
  have c3 : w1.cell? ⟨A, 3, none⟩ = some (.int .i64 (count : Nat)) := by simp [World.cell?, HBK1.out]
  have c5 : w1.cell? ⟨A, 5, none⟩ = some (.int .i64 (token : Nat)) := by simp [World.cell?, HBK1.out]
  obtain ⟨wb, hwb⟩ : ∃ wb, w1.alloc (.cells #[.int .i64 (id : Nat), .int .i64 (flow : Nat), .int .i64 (count : Nat), .int .i64 (token : Nat)] 3) = wb := ⟨_, rfl⟩
  have hbb : Below w1.heap.size w1 wb := by rw [← hwb]; exact (Below.refl _ _).alloc (Nat.le_refl _) _
  have hblk : wb.heap[w1.heap.size]? = some (.cells #[.int .i64 (id : Nat), .int .i64 (flow : Nat), .int .i64 (count : Nat), .int .i64 (token : Nat)] 3 (0, 0)) := by rw [← hwb]; exact heap_alloc_new _ _
  have hB1 : B ≤ w1.heap.size := Nat.le_trans hB HT1.out.wr.size
  have HC2 := hid (numbers_any B p w1.heap.size 0 [id, flow, count, token] [UInt8.ofNat want] v1 wb.drew (HT1.out.wt.below (show Below w1.heap.size w1 wb.drew from ⟨hbb.os, hbb.tape, hbb.output, hbb.size, hbb.block⟩)) (show B ≤ wb.heap.size by have := hbb.size; omega) (by simp) rfl (by intro n hn; simp at hn; rcases hn with rfl | rfl | rfl | rfl <;> assumption) (show w1.heap.size < wb.heap.size from (Array.getElem?_eq_some_iff.1 hblk).1) (by have := HT1.out.wt.lt; omega) (fun e => by have := (HT1.out.wt.own.lt _ e).2; omega) (hid (fun i n hi => by
    show wb.cell? _ = _
    match i, hi with
    | 0, hi => simp at hi; subst hi; simp [World.cell?, hblk]
    | 1, hi => simp at hi; subst hi; simp [World.cell?, hblk]
    | 2, hi => simp at hi; subst hi; simp [World.cell?, hblk]
    | 3, hi => simp at hi; subst hi; simp [World.cell?, hblk]
    | i + 4, hi => simp at hi)))
  have HBB := hid hbb
  rw [← hwb] at HC2 HBB
  clear hwb hbb hblk wb
  go_wp2_with fail
  go_region_held3 (fun w' => w'.cell? ⟨A, 0, none⟩ = some (.int .i64 (id : Nat)) ∧ w'.cell? ⟨A, 2, none⟩ = some (.int .i64 (flow : Nat)) ∧ w'.cell? ⟨A, 3, none⟩ = some (.int .i64 (count : Nat)) ∧ w'.cell? ⟨A, 5, none⟩ = some (.int .i64 (token : Nat))) (first | assumption | (refine ⟨?_, ?_, ?_, ?_⟩ <;> first | assumption | go_keep)) (first
    | (go_at_call 79
       go_loud (refine HC2.out.mono ?_)
       rintro e w2 ⟨rfl, v2, h2⟩
       have H2 := hid h2
       have hkk : w2.heap[A]? = w1.heap[A]? := (h2.wr.block A (Nat.lt_of_lt_of_le hA1 HBB.out.size) (by
         rintro (e | e)
         · exact HA.out.1 e
         · exact HAV.out e)).trans (HBB.out.block A hA1)
       have HBK2 := hid (hkk.trans HBK1.out)
       have y0 : w2.cell? ⟨A, 0, none⟩ = some (.int .i64 (id : Nat)) := by simp [World.cell?, HBK2.out]
       have y2 : w2.cell? ⟨A, 2, none⟩ = some (.int .i64 (flow : Nat)) := by simp [World.cell?, HBK2.out]
       have y3 : w2.cell? ⟨A, 3, none⟩ = some (.int .i64 (count : Nat)) := by simp [World.cell?, HBK2.out]
       have y5 : w2.cell? ⟨A, 5, none⟩ = some (.int .i64 (token : Nat)) := by simp [World.cell?, HBK2.out]
       clear h2 hkk))
  have hT2 : Stp B p w v w2 v2 ([UInt8.ofNat want] ++ encs [id, flow, count, token]) := HT1.out.trans (Stp.ahead' HBB.out H2.out)
  have HT2 := hid hT2
  have hA2 : A < w2.heap.size := Nat.lt_of_lt_of_le hA1 (Nat.le_trans HBB.out.size H2.out.wr.size)
  have HAV2 : Hid (v2.ownBlock ≠ some A) := hid (fun e => by
    rcases H2.out.blk A e with e2 | e2
    · exact HAV.out e2
    · have := HBB.out.size
      have e2 : (w1.alloc (.cells #[.int .i64 (id : Nat), .int .i64 (flow : Nat), .int .i64 (count : Nat), .int .i64 (token : Nat)] 3)).heap.size ≤ A := e2
      omega)
  clear hT2 H2 c0 c2 c3 c5 y0 y2 y3 y5
  have c4 : w2.cell? ⟨A, 4, none⟩ = some (.string t) := by simp [World.cell?, HBK2.out]
  have hbd : Below w2.heap.size w2 w2.drew := ⟨rfl, rfl, rfl, Nat.le_refl _, fun _ _ => rfl⟩
  have HC3 := hid (text_any B p t ([UInt8.ofNat want] ++ encs [id, flow, count, token]) v2 w2.drew (HT2.out.wt.below hbd) (show B ≤ w2.heap.size from Nat.le_trans hB HT2.out.wr.size) (by simp [encs, enc_len]) ht)
  clear hbd
  go_wp2_with fail
  go_region_held3 (fun w' => w'.cell? ⟨A, 4, none⟩ = some (.string t)) (first | assumption | go_keep) (first
    | (go_at_call 80
       refine HC3.out.mono ?_
       rintro e w3 ⟨rfl, v3, h5, h6, h7⟩
       have H3 := hid (And.intro h5 (And.intro h6 h7))
       have y4 : w3.cell? ⟨A, 4, none⟩ = some (.string t) := (h7.cell 4 hA2 (by
         rintro (e | e)
         · exact HA.out.1 e
         · exact HAV2.out e)).trans c4
       clear h5 h6 h7))
  go_wp2_with fail
  go_end0
  have h7 := H3.out.2.2
  exact ⟨rfl, v3, H3.out.1, H3.out.2.1, HT2.out.wr.on (R' := fun k => k = p ∨ v2.ownBlock = some k) ⟨h7.os, h7.tape, h7.output, h7.size, h7.block⟩ (fun k e => e.elim (fun e => .inl (.inl e)) (fun e => (HT2.out.blk k e).elim (fun e => .inl (.inr e)) .inr))⟩

set_option maxRecDepth 20000 in
set_option maxHeartbeats 2000000 in
theorem wanswer_any (B p : Nat) (id flow count token : Nat) (want : Nat) (v : Value) (w : World) (h : Wt w B p v []) (hB : B ≤ w.heap.size) (h1 : id < 9223372036854775808) (h2 : flow < 9223372036854775808) (h3 : count < 9223372036854775808) (h4 : token < 9223372036854775808) (hw : want < 256) :
    Calls Try.prog 60 #[.pointer (some ⟨p, 0, none⟩), .agg #[.int .i64 (id : Nat), .int .u8 (want : Nat), .int .i64 (flow : Nat), .int .i64 (count : Nat), .int .i64 (token : Nat)]] w fun e w' => e = .returned (.tuple #[]) ∧ ∃ v', w'.cell? ⟨p, 0, none⟩ = some v' ∧ w'.ownsRow B 5 1 v' (bytesA id flow count token want).length ((bytesA id flow count token want).map bv) ∧ Wr (fun k => k = p ∨ v.ownBlock = some k) w w' := by
  have HW := hid h
  clear h
  go_enter Try.func60, Try.ntmps60
  go_wp2_with fail
  obtain ⟨wa, hwa⟩ : ∃ wa, w.alloc (.cells #[.int .i64 (id : Nat), .int .u8 (want : Nat), .int .i64 (flow : Nat), .int .i64 (count : Nat), .int .i64 (token : Nat)] 54) = wa := ⟨_, rfl⟩
  obtain ⟨A, hA⟩ : ∃ A, w.heap.size = A := ⟨_, rfl⟩
  have hba : Below w.heap.size w wa := by rw [← hwa]; exact (Below.refl _ _).alloc (Nat.le_refl _) _
  have hblk : wa.heap[A]? = some (.cells #[.int .i64 (id : Nat), .int .u8 (want : Nat), .int .i64 (flow : Nat), .int .i64 (count : Nat), .int .i64 (token : Nat)] 54 (0, 0)) := by rw [← hwa, ← hA]; exact heap_alloc_new _ _
  have hAs : A < wa.heap.size := (Array.getElem?_eq_some_iff.1 hblk).1
  have HA : Hid (A ≠ p ∧ v.ownBlock ≠ some A) := hid ⟨by have := HW.out.lt; omega, fun e => by have := (HW.out.own.lt _ e).2; omega⟩
  have HBA := hid hba
  have HBK := hid hblk
  have c1 : wa.cell? ⟨A, 1, none⟩ = some (.int .u8 (want : Nat)) := by simp [World.cell?, hblk]
  have HC1 := hid (one_any B p (UInt8.ofNat want) [] v wa.drew (HW.out.below (show Below w.heap.size w wa.drew from ⟨hba.os, hba.tape, hba.output, hba.size, hba.block⟩)) (show B ≤ wa.heap.size by have := hba.size; omega) (by simp))
  rw [u8_nat, show ((want : Nat) : Int) % 256 = (want : Nat) by omega] at HC1
  have HWA := hid hwa
  rw [hwa, hA]
  clear hwa hba hblk hA
  go_region_held3 (fun w' => w'.cell? ⟨A, 1, none⟩ = some (.int .u8 (want : Nat))) (first | assumption | go_keep) (first
    | (go_at_call 78
       refine HC1.out.mono ?_
       rintro e w1 ⟨rfl, v1, h1⟩
       have H1 := hid h1
       have y1 : w1.cell? ⟨A, 1, none⟩ = some (.int .u8 (want : Nat)) := (h1.wr.cell 1 hAs (by
         rintro (e | e)
         · exact HA.out.1 e
         · exact HA.out.2 e)).trans c1
       clear h1))
  have hAB : w1.heap[A]? = wa.heap[A]? := H1.out.wr.block A hAs (by
    rintro (e | e)
    · exact HA.out.1 e
    · exact HA.out.2 e)
  have hT1 : Stp B p w v w1 v1 [UInt8.ofNat want] := Stp.ahead' HBA.out H1.out
  have HT1 := hid hT1
  have HBK1 := hid (hAB.trans HBK.out)
  have hA1 : A < w1.heap.size := Nat.lt_of_lt_of_le hAs H1.out.wr.size
  have HAV : Hid (v1.ownBlock ≠ some A) := hid (fun e => by
    rcases H1.out.blk A e with e2 | e2
    · exact HA.out.2 e2
    · have e2 : wa.heap.size ≤ A := e2
      omega)
  clear hT1 hAB H1 c1 y1
  have c0 : w1.cell? ⟨A, 0, none⟩ = some (.int .i64 (id : Nat)) := by simp [World.cell?, HBK1.out]
  have c2 : w1.cell? ⟨A, 2, none⟩ = some (.int .i64 (flow : Nat)) := by simp [World.cell?, HBK1.out]
  have c3 : w1.cell? ⟨A, 3, none⟩ = some (.int .i64 (count : Nat)) := by simp [World.cell?, HBK1.out]
  have c5 : w1.cell? ⟨A, 4, none⟩ = some (.int .i64 (token : Nat)) := by simp [World.cell?, HBK1.out]
  obtain ⟨wb, hwb⟩ : ∃ wb, w1.alloc (.cells #[.int .i64 (id : Nat), .int .i64 (flow : Nat), .int .i64 (count : Nat), .int .i64 (token : Nat)] 3) = wb := ⟨_, rfl⟩
  have hbb : Below w1.heap.size w1 wb := by rw [← hwb]; exact (Below.refl _ _).alloc (Nat.le_refl _) _
  have hblk : wb.heap[w1.heap.size]? = some (.cells #[.int .i64 (id : Nat), .int .i64 (flow : Nat), .int .i64 (count : Nat), .int .i64 (token : Nat)] 3 (0, 0)) := by rw [← hwb]; exact heap_alloc_new _ _
  have hB1 : B ≤ w1.heap.size := Nat.le_trans hB HT1.out.wr.size
  have HC2 := hid (numbers_any B p w1.heap.size 0 [id, flow, count, token] [UInt8.ofNat want] v1 wb.drew (HT1.out.wt.below (show Below w1.heap.size w1 wb.drew from ⟨hbb.os, hbb.tape, hbb.output, hbb.size, hbb.block⟩)) (show B ≤ wb.heap.size by have := hbb.size; omega) (by simp) rfl (by intro n hn; simp at hn; rcases hn with rfl | rfl | rfl | rfl <;> assumption) (show w1.heap.size < wb.heap.size from (Array.getElem?_eq_some_iff.1 hblk).1) (by have := HT1.out.wt.lt; omega) (fun e => by have := (HT1.out.wt.own.lt _ e).2; omega) (hid (fun i n hi => by
    show wb.cell? _ = _
    match i, hi with
    | 0, hi => simp at hi; subst hi; simp [World.cell?, hblk]
    | 1, hi => simp at hi; subst hi; simp [World.cell?, hblk]
    | 2, hi => simp at hi; subst hi; simp [World.cell?, hblk]
    | 3, hi => simp at hi; subst hi; simp [World.cell?, hblk]
    | i + 4, hi => simp at hi)))
  have HBB := hid hbb
  rw [← hwb] at HC2 HBB
  clear hwb hbb hblk wb
  go_wp2_with fail
  go_region_held3 (fun w' => w'.cell? ⟨A, 0, none⟩ = some (.int .i64 (id : Nat)) ∧ w'.cell? ⟨A, 2, none⟩ = some (.int .i64 (flow : Nat)) ∧ w'.cell? ⟨A, 3, none⟩ = some (.int .i64 (count : Nat)) ∧ w'.cell? ⟨A, 4, none⟩ = some (.int .i64 (token : Nat))) (first | assumption | (refine ⟨?_, ?_, ?_, ?_⟩ <;> first | assumption | go_keep)) (first
    | (go_at_call 79
       go_loud (refine HC2.out.mono ?_)
       rintro e w2 ⟨rfl, v2, h2⟩
       have H2 := hid h2
       have hkk : w2.heap[A]? = w1.heap[A]? := (h2.wr.block A (Nat.lt_of_lt_of_le hA1 HBB.out.size) (by
         rintro (e | e)
         · exact HA.out.1 e
         · exact HAV.out e)).trans (HBB.out.block A hA1)
       have HBK2 := hid (hkk.trans HBK1.out)
       have y0 : w2.cell? ⟨A, 0, none⟩ = some (.int .i64 (id : Nat)) := by simp [World.cell?, HBK2.out]
       have y2 : w2.cell? ⟨A, 2, none⟩ = some (.int .i64 (flow : Nat)) := by simp [World.cell?, HBK2.out]
       have y3 : w2.cell? ⟨A, 3, none⟩ = some (.int .i64 (count : Nat)) := by simp [World.cell?, HBK2.out]
       have y5 : w2.cell? ⟨A, 4, none⟩ = some (.int .i64 (token : Nat)) := by simp [World.cell?, HBK2.out]
       clear h2 hkk))
  have hT2 : Stp B p w v w2 v2 ([UInt8.ofNat want] ++ encs [id, flow, count, token]) := HT1.out.trans (Stp.ahead' HBB.out H2.out)
  have HT2 := hid hT2
  have hA2 : A < w2.heap.size := Nat.lt_of_lt_of_le hA1 (Nat.le_trans HBB.out.size H2.out.wr.size)
  have HAV2 : Hid (v2.ownBlock ≠ some A) := hid (fun e => by
    rcases H2.out.blk A e with e2 | e2
    · exact HAV.out e2
    · have := HBB.out.size
      have e2 : (w1.alloc (.cells #[.int .i64 (id : Nat), .int .i64 (flow : Nat), .int .i64 (count : Nat), .int .i64 (token : Nat)] 3)).heap.size ≤ A := e2
      omega)
  go_wp2_with fail
  go_end0
  exact ⟨rfl, v2, HT2.out.wt.cell, HT2.out.wt.own, HT2.out.wr⟩

/-- a new writer's call -/
def RqV (id flow count token want : Nat) (t : ByteArray) : Value := .agg #[.int .i64 (id : Nat), .int .u8 (want : Nat), .int .i64 (flow : Nat), .int .i64 (count : Nat), .string t, .int .i64 (token : Nat)]

theorem right_nums {r : Rq} (h : rightQ r = true) : ∃ id flow count token want : Nat, r = ⟨id, want, flow, count, r.text, token⟩ ∧ id < 2147483648 ∧ flow ≤ 1099511627776 ∧ count ≤ 1099511627776 ∧ token < 2147483648 ∧ want < 6 ∧ 1 ≤ want ∧ r.text.size ≤ 64 := by
  obtain ⟨id, want, flow, count, text, token⟩ := r
  unfold rightQ wantQ flowQ noneQ at h
  simp only [Bool.and_eq_true] at h
  obtain ⟨h0, h⟩ := h
  obtain ⟨i1, i2⟩ := inR_iff.1 h0
  have hem : ∀ s : ByteArray, emptyQ s = true → s.size = 0 := fun s hs => by unfold emptyQ at hs; simpa using hs
  split at h
  · rename_i hw
    simp only [Bool.and_eq_true, decide_eq_true_eq] at h
    obtain ⟨⟨⟨f1, f2⟩, f3⟩, f4⟩ := h
    have := inR_iff.1 f1
    have := inR_iff.1 f2
    have := hem _ f3
    exact ⟨id.toNat, flow.toNat, count.toNat, token.toNat, want.toNat, by congr 1 <;> omega, by omega, by omega, by omega, by omega, by omega, by omega, by dsimp only; omega⟩
  · split at h
    · rename_i hw
      simp only [Bool.and_eq_true, decide_eq_true_eq] at h
      obtain ⟨⟨⟨f1, f2⟩, f3⟩, f4⟩ := h
      have := inR_iff.1 f1
      have := inR_iff.1 f2
      exact ⟨id.toNat, flow.toNat, count.toNat, token.toNat, want.toNat, by congr 1 <;> omega, by omega, by omega, by omega, by omega, by omega, by omega, by dsimp only; omega⟩
    · split at h
      · rename_i hw
        simp only [Bool.and_eq_true, decide_eq_true_eq] at h
        obtain ⟨⟨⟨f1, f2⟩, f3⟩, f4⟩ := h
        have := inR_iff.1 f4
        have := hem _ f3
        exact ⟨id.toNat, flow.toNat, count.toNat, token.toNat, want.toNat, by congr 1 <;> omega, by omega, by omega, by omega, by omega, by omega, by omega, by dsimp only; omega⟩
      · split at h
        · rename_i hw
          simp only [Bool.and_eq_true, decide_eq_true_eq] at h
          obtain ⟨⟨⟨f1, f2⟩, f3⟩, f4⟩ := h
          have := name_iff.1 f3
          exact ⟨id.toNat, flow.toNat, count.toNat, token.toNat, want.toNat, by congr 1 <;> omega, by omega, by omega, by omega, by omega, by omega, by omega, by dsimp only; omega⟩
        · cases h

/-- the bytes of a request that is right -/
def encR (r : Rq) : Bs := bytesR r.id.toNat r.flow.toNat r.count.toNat r.token.toNat r.want.toNat r.text

/-- bytes and an error, or nothing and the error -/
def outB (b : Bool) (s : Bs) : Bs := if b then s else []
def errB (b : Bool) : Int := if b then 0 else 6
def Told2 (w : World) (b : Bool) (s : Bs) (e : Ending) (w' : World) : Prop := ∃ va vc, e = .returned (.tuple #[.slice va (outB b s).length vc, .int .i64 (errB b)]) ∧ w'.ownsRow w.heap.size 5 1 (.slice va (outB b s).length vc) (outB b s).length ((outB b s).map bv) ∧ Below w.heap.size w w'

set_option maxRecDepth 20000 in
set_option maxHeartbeats 2000000 in
theorem request_any (r : Rq) (w : World) (hs : r.text.size ≤ maxLen) :
    Calls Try.prog 27 #[rv r] w fun e w' => Told2 w (rightQ r) (encR r) e w' := by
  cases hr : rightQ r with
  | false =>
    obtain ⟨id, want, flow, count, text, token⟩ := r
    have HR := hid (fun w => right_any id want flow count token text w hs)
    rw [hr] at HR
    clear hr
    unfold rv
    go_enter Try.func27, Try.ntmps27
    go_wp2_with (go_at_call 33; refine (HR.out _).mono ?_; rintro e w1 ⟨rfl, hb1⟩; have HB := hid hb1; clear hb1)
    go_ret2
    exact ⟨none, 0, rfl, World.ownsRow_nil _ _ _ _, (by repeat (first | (with_reducible exact Below.refl _ _) | (with_reducible refine Below.setCell ?_ (by first | (simp; done) | (simp; omega) | omega) _) | (with_reducible refine Below.alloc ?_ (by first | (simp; done) | (simp; omega) | omega) _) | (with_reducible refine Below.drew ?_) | (with_reducible refine Below.trans ?_ (Below.mono HB.out (by first | (simp; done) | (simp; omega) | omega)))))⟩
  | true =>
    obtain ⟨id, flow, count, token, want, he, h1, h2, h3, h4, h5, h6, h7⟩ := right_nums hr
    obtain ⟨t, ht⟩ : ∃ t, r.text = t := ⟨_, rfl⟩
    rw [ht] at he h7 hs
    subst he
    have HR := hid (fun w => right_any id want flow count token t w hs)
    rw [hr] at HR
    have HE : Hid (encR ⟨id, want, flow, count, t, token⟩ = bytesR id flow count token want t) := hid (by simp [encR])
    rw [HE.out]
    clear hr ht
    unfold rv
    go_enter Try.func27, Try.ntmps27
    go_wp2_with (go_at_call 33
                 refine (HR.out _).mono ?_
                 rintro e w1 ⟨rfl, hb1⟩
                 have HB := hid hb1
                 have hbk : w1.heap[w.heap.size]? = some (.cells #[.int .i64 (id : Nat), .int .u8 (want : Nat), .int .i64 (flow : Nat), .int .i64 (count : Nat), .string t, .int .i64 (token : Nat)] 51 (0, 0)) := (hb1.block _ (by simp)).trans (heap_alloc_new _ _)
                 have c0 : w1.cell? ⟨w.heap.size, 0, none⟩ = some (.int .i64 (id : Nat)) := by simp [World.cell?, hbk]
                 have c1 : w1.cell? ⟨w.heap.size, 1, none⟩ = some (.int .u8 (want : Nat)) := by simp [World.cell?, hbk]
                 have c2 : w1.cell? ⟨w.heap.size, 2, none⟩ = some (.int .i64 (flow : Nat)) := by simp [World.cell?, hbk]
                 have c3 : w1.cell? ⟨w.heap.size, 3, none⟩ = some (.int .i64 (count : Nat)) := by simp [World.cell?, hbk]
                 have c4 : w1.cell? ⟨w.heap.size, 4, none⟩ = some (.string t) := by simp [World.cell?, hbk]
                 have c5 : w1.cell? ⟨w.heap.size, 5, none⟩ = some (.int .i64 (token : Nat)) := by simp [World.cell?, hbk]
                 have hlt1 : w.heap.size < w1.heap.size := (Array.getElem?_eq_some_iff.1 hbk).1
                 clear hb1 hbk)
    refine (wrequest_any w.heap.size w1.heap.size id flow count token want t (.slice none 0 0) _ (wt_new w1 87 (by decide) w.heap.size) (by simp; omega) (by omega) (by omega) (by omega) (by omega) (by omega) (by omega)).mono ?_
    rintro e w2 ⟨rfl, v2, x2, hown, hwr⟩
    obtain ⟨va, vc, rfl⟩ := owns_shape hown
    have HO := hid (And.intro hown hwr)
    clear hown hwr c0 c1 c2 c3 c4 c5
    have hbl : Hid (Below w.heap.size w w1) := hid (((Below.refl w.heap.size w).alloc (Nat.le_refl _) _).trans (HB.out.mono (by simp)))
    go_wp2_with fail
    go_ret2
    refine ⟨va, vc, rfl, HO.out.1, ?_⟩
    have h3 := HO.out.2.below w.heap.size (by simp; omega) (fun k e => by
      rcases e with e | e
      · omega
      · cases e)
    exact (hbl.out.alloc (by omega) _).trans h3

/-- an answer -/
structure Aw where
  id : Int
  status : Int
  left : Int
  wait : Int
  token : Int
def av (a : Aw) : Value := .agg #[.int .i64 a.id, .int .u8 a.status, .int .i64 a.left, .int .i64 a.wait, .int .i64 a.token]
def rightA (a : Aw) : Bool := inR a.id 0 2147483647 && inR a.status 1 8 && inR a.left 0 1099511627776 && inR a.wait 0 1099511627776 && inR a.token 0 2147483647
def encA (a : Aw) : Bs := bytesA a.id.toNat a.left.toNat a.wait.toNat a.token.toNat a.status.toNat

set_option maxRecDepth 20000 in
set_option maxHeartbeats 4000000 in
theorem rightA_any (id status left wait token : Int) (w : World) (h0 : 0 ≤ status) (h1 : status ≤ 255) :
    Calls Try.prog 35 #[.agg #[.int .i64 id, .int .u8 status, .int .i64 left, .int .i64 wait, .int .i64 token]] w fun e w' => e = .returned (.bool (rightA ⟨id, status, left, wait, token⟩)) ∧ Below w.heap.size w w' := by
  have H1 := hid (fun w => pin_any id 0 2147483647 w)
  have H2 := hid (fun w => pin_any status 1 8 w)
  have H3 := hid (fun w => pin_any left 0 1099511627776 w)
  have H4 := hid (fun w => pin_any wait 0 1099511627776 w)
  have H5 := hid (fun w => pin_any token 0 2147483647 w)
  have HR : Hid (rightA ⟨id, status, left, wait, token⟩ = (inR id 0 2147483647 && inR status 1 8 && inR left 0 1099511627776 && inR wait 0 1099511627776 && inR token 0 2147483647)) := hid rfl
  rw [HR.out]
  clear HR
  generalize inR id 0 2147483647 = b1 at *
  generalize inR status 1 8 = b2 at *
  generalize inR left 0 1099511627776 = b3 at *
  generalize inR wait 0 1099511627776 = b4 at *
  generalize inR token 0 2147483647 = b5 at *
  cases b1
  all_goals (try cases b2)
  all_goals (try cases b3)
  all_goals (try cases b4)
  all_goals (try cases b5)
  all_goals go_enter Try.func35, Try.ntmps35
  all_goals go_wp2_with (go_at_call 61; (first | with_reducible refine (H1.out _).mono ?_ | with_reducible refine (H2.out _).mono ?_ | with_reducible refine (H3.out _).mono ?_ | with_reducible refine (H4.out _).mono ?_ | with_reducible refine (H5.out _).mono ?_); rintro e w1 ⟨rfl, rfl⟩)
  all_goals go_ret
  all_goals exact ⟨rfl, (by repeat (first | (with_reducible exact Below.refl _ _) | (with_reducible refine Below.setCell ?_ (by first | (simp; done) | (simp; omega) | omega) _) | (with_reducible refine Below.alloc ?_ (by first | (simp; done) | (simp; omega) | omega) _) | (with_reducible refine Below.drew ?_)))⟩

end Go.Proofs.Ythmcfnbnafdkeaa.PrtC
