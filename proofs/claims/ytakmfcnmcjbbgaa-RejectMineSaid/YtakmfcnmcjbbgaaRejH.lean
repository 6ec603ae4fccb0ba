/- RejectLooks, RejectPasses, RejectLess. -/
import Derived.Test.YtakmfcnmcjbbgaaRejX
import Derived.Test.YtakmfcnmcjbbgaaRAdd
namespace Go.Proofs.Ytakmfcnmcjbbgaa.RejH
set_option linter.unusedVariables false
open Go.ChangeShapes Go.WideShapes Go.ChangeAt Go.RowKit Base RejA RejB RejD RejE RejF RejG Pas Txt NumM NumA

set_option maxRecDepth 20000 in
set_option maxHeartbeats 1000000 in
theorem RPasses_any (res org : ByteArray) (thr : Bool) (cnt : Int) (strat : Int) (ref : ByteArray) (shape warm queue : Int) (clus : Bool) (id_ : Int) (fall : Bool) (passed flight count : Int) (hp : Fits passed) (hc : Fits count) (w : World) :
    Calls Try.prog 12 #[.agg #[.string res, .string org, .bool thr, .int .i64 cnt, .int .u8 strat, .string ref, .int .u8 shape, .int .i64 warm, .int .i64 queue, .bool clus, .int .i64 id_, .bool fall], .int .i64 passed, .int .i64 flight, .int .i64 count] w fun e w' => e = .returned (.bool (passF thr cnt passed flight count)) ∧ Below w.heap.size w w' := by
  unfold passF
  have HA := hid (fun w => RAdd.add_ref passed count hp hc w)
  unfold tellN tellE at HA
  cases thr with
  | true =>
    go_enter Try.func12, Try.ntmps12
    go_wp2
    go_ret
    exact ⟨rfl, (Below.refl w.heap.size w).alloc (Nat.le_refl _) _⟩
  | false =>
    by_cases hf : Fits (passed + count)
    · rw [if_pos hf]
      simp only [if_pos hf] at HA
      generalize passed + count = x at *
      clear hf hp hc
      go_enter Try.func12, Try.ntmps12
      go_wp2_with fail
      refine (HA.out _).mono ?_
      rintro e w2 ⟨rfl, hb⟩
      have HB : Hid (Below w.heap.size w w2) := hid (((Below.refl w.heap.size w).alloc (Nat.le_refl _) _).trans (hb.mono (by simp)))
      have c3 : w2.cell? ⟨w.heap.size, 3, none⟩ = some (.int .i64 cnt) := (hb.cell (p := ⟨w.heap.size, 3, none⟩) (by simp)).trans (by go_cell)
      clear hb HA
      go_wp2_with fail
      go_ret
      exact ⟨rfl, HB.out⟩
    · rw [if_neg hf]
      simp only [if_neg hf] at HA
      clear hf hp hc
      go_enter Try.func12, Try.ntmps12
      go_wp2_with fail
      refine (HA.out _).mono ?_
      rintro e w2 ⟨rfl, hb⟩
      have HB : Hid (Below w.heap.size w w2) := hid (((Below.refl w.heap.size w).alloc (Nat.le_refl _) _).trans (hb.mono (by simp)))
      clear hb HA
      go_wp2_with fail
      go_ret
      exact ⟨rfl, HB.out⟩

set_option maxRecDepth 20000 in
set_option maxHeartbeats 4000000 in
theorem looks_core (res org : ByteArray) (thr : Bool) (cnt : Int) (strat : Nat) (ref : ByteArray) (shape : Nat) (warm queue : Int) (clus : Bool) (id_ : Int) (fall : Bool) (at_ : Int) (cres cctx corg : ByteArray) (inb : Bool) (ccnt : Int) (a : Option Addr) (n cap : Nat) (v0 v1 v2 : ByteArray) (v3 : Bool)
    (HL : Hid (lookV ⟨res, org, thr, cnt, strat, ref, shape, warm, queue, clus, id_, fall⟩ ⟨at_, cres, cctx, corg, inb, ccnt, a, n, cap⟩ = .agg #[.string v0, .string v1, .string v2, .bool v3])) (w : World) :
    Calls Try.prog 3 #[.agg #[.string res, .string org, .bool thr, .int .i64 cnt, .int .u8 strat, .string ref, .int .u8 shape, .int .i64 warm, .int .i64 queue, .bool clus, .int .i64 id_, .bool fall], .agg #[.int .i64 at_, .string cres, .string cctx, .string corg, .bool inb, .int .i64 ccnt, .slice a n cap]] w fun e w' => e = .returned (.bool true) ∧ Below w.heap.size w w' := by
  have HW := hid (fun w => Where_any ⟨res, org, thr, cnt, strat, ref, shape, warm, queue, clus, id_, fall⟩ ⟨at_, cres, cctx, corg, inb, ccnt, a, n, cap⟩ w)
  have HV := hid (fun w => RWhere_any ⟨res, org, thr, cnt, strat, ref, shape, warm, queue, clus, id_, fall⟩ ⟨at_, cres, cctx, corg, inb, ccnt, a, n, cap⟩ w)
  rw [HL.out] at HW HV
  unfold fv cv at HW HV
  dsimp only at HW HV
  clear HL
  go_enter Try.func3, Try.ntmps3
  have R0 : Hid ((((w.alloc (.cells #[.string res, .string org, .bool thr, .int .i64 cnt, .int .u8 strat, .string ref, .int .u8 shape, .int .i64 warm, .int .i64 queue, .bool clus, .int .i64 id_, .bool fall] 25)).alloc (.cells #[.int .i64 at_, .string cres, .string cctx, .string corg, .bool inb, .int .i64 ccnt, .slice a n cap] 28))).heap[w.heap.size]? = some (.cells (fv ⟨res, org, thr, cnt, strat, ref, shape, warm, queue, clus, id_, fall⟩) 25)) := hid (heap_alloc2_old _ _ _)
  have C0 : Hid ((((w.alloc (.cells #[.string res, .string org, .bool thr, .int .i64 cnt, .int .u8 strat, .string ref, .int .u8 shape, .int .i64 warm, .int .i64 queue, .bool clus, .int .i64 id_, .bool fall] 25)).alloc (.cells #[.int .i64 at_, .string cres, .string cctx, .string corg, .bool inb, .int .i64 ccnt, .slice a n cap] 28))).heap[w.heap.size + 1]? = some (.cells (cv ⟨at_, cres, cctx, corg, inb, ccnt, a, n, cap⟩) 28)) := hid (by have := heap_alloc_new (w.alloc (.cells #[.string res, .string org, .bool thr, .int .i64 cnt, .int .u8 strat, .string ref, .int .u8 shape, .int .i64 warm, .int .i64 queue, .bool clus, .int .i64 id_, .bool fall] 25)) (.cells #[.int .i64 at_, .string cres, .string cctx, .string corg, .bool inb, .int .i64 ccnt, .slice a n cap] 28); rwa [World.size_alloc] at this)
  have B0 : Hid (Below w.heap.size w ((w.alloc (.cells #[.string res, .string org, .bool thr, .int .i64 cnt, .int .u8 strat, .string ref, .int .u8 shape, .int .i64 warm, .int .i64 queue, .bool clus, .int .i64 id_, .bool fall] 25)).alloc (.cells #[.int .i64 at_, .string cres, .string cctx, .string corg, .bool inb, .int .i64 ccnt, .slice a n cap] 28))) := hid (((Below.refl _ w).alloc (Nat.le_refl _) _).alloc (by simp) _)
  have z0 : w.heap.size + 1 < ((w.alloc (.cells #[.string res, .string org, .bool thr, .int .i64 cnt, .int .u8 strat, .string ref, .int .u8 shape, .int .i64 warm, .int .i64 queue, .bool clus, .int .i64 id_, .bool fall] 25)).alloc (.cells #[.int .i64 at_, .string cres, .string cctx, .string corg, .bool inb, .int .i64 ccnt, .slice a n cap] 28)).heap.size := by simp
  go_wp2_with fail
  refine (HW.out _).mono ?_
  rintro e w1 ⟨rfl, hb1⟩
  have R1 := hid ((hb1.block _ (by omega)).trans R0.out)
  have C1 := hid ((hb1.block _ z0).trans C0.out)
  have B1 := hid (B0.out.trans (hb1.mono B0.out.size))
  have z1 : w.heap.size + 1 < w1.heap.size := Nat.lt_of_lt_of_le z0 hb1.size
  clear hb1 R0 C0 B0 z0 HW
  obtain ⟨x0, x1, x2, x3, x4, x5, x6, x7, x8, x9, x10, x11⟩ := fv_at ((Below.heap_alloc w1 (.cells #[.string v0, .string v1, .string v2, .bool v3] 30) _ (by omega)).trans R1.out)
  obtain ⟨y0, y1, y2, y3, y4, y5, y6⟩ := cv_at ((Below.heap_alloc w1 (.cells #[.string v0, .string v1, .string v2, .bool v3] 30) _ z1).trans C1.out)
  dsimp only at x0 x1 x2 x3 x4 x5 x6 x7 x8 x9 x10 x11 y0 y1 y2 y3 y4 y5 y6
  go_wp2_with fail
  refine (HV.out _).mono ?_
  rintro e w2 ⟨rfl, hb2⟩
  clear x0 x1 x2 x3 x4 x5 x6 x7 x8 x9 x10 x11 y0 y1 y2 y3 y4 y5 y6 HV R1 C1
  have D1 := heap_alloc_new w1 (.cells #[.string v0, .string v1, .string v2, .bool v3] 30)
  have D2 := hid ((hb2.block _ (by simp)).trans D1)
  have B2 : Hid (Below w.heap.size w w2) := hid ((B1.out.alloc B1.out.size _).trans (hb2.mono (by simp; omega)))
  have z2 : w1.heap.size < w2.heap.size := by have := hb2.size; simp at this; omega
  clear hb2 D1
  generalize w1.heap.size = p1 at *
  go_wp2_with fail
  have D3 := hid ((Below.heap_alloc w2 (.cells #[.string v0, .string v1, .string v2, .bool v3] 32) p1 z2).trans D2.out)
  have D4 := hid (heap_alloc_new w2 (.cells #[.string v0, .string v1, .string v2, .bool v3] 32))
  have B3 := hid (B2.out.alloc B2.out.size (.cells #[.string v0, .string v1, .string v2, .bool v3] 32))
  have z3 : w2.heap.size < (w2.alloc (.cells #[.string v0, .string v1, .string v2, .bool v3] 32)).heap.size := by simp
  refine (live_any _).mono ?_
  rintro e w3 ⟨rfl, hb3⟩
  have E1 := (hb3.block p1 (by omega)).trans D3.out
  have E2 := (hb3.block w2.heap.size z3).trans D4.out
  have B4 := hid (B3.out.trans (hb3.mono B3.out.size))
  have c0 : w3.cell? ⟨p1, 0, none⟩ = some (.string v0) := by simp [World.cell?, E1]
  have c1 : w3.cell? ⟨p1, 1, none⟩ = some (.string v1) := by simp [World.cell?, E1]
  have c2 : w3.cell? ⟨p1, 2, none⟩ = some (.string v2) := by simp [World.cell?, E1]
  have c3 : w3.cell? ⟨p1, 3, none⟩ = some (.bool v3) := by simp [World.cell?, E1]
  have d0 : w3.cell? ⟨w2.heap.size, 0, none⟩ = some (.string v0) := by simp [World.cell?, E2]
  have d1 : w3.cell? ⟨w2.heap.size, 1, none⟩ = some (.string v1) := by simp [World.cell?, E2]
  have d2 : w3.cell? ⟨w2.heap.size, 2, none⟩ = some (.string v2) := by simp [World.cell?, E2]
  have d3 : w3.cell? ⟨w2.heap.size, 3, none⟩ = some (.bool v3) := by simp [World.cell?, E2]
  clear E1 E2 hb3 D3 D4 D2 B1 B2 B3
  have q0 : (v0.toList == v0.toList) = true := by simp
  have q1 : (v1.toList == v1.toList) = true := by simp
  have q2 : (v2.toList == v2.toList) = true := by simp
  have q3 : (v3 == v3) = true := by simp
  go_wp2_with fail
  go_ret
  exact ⟨rfl, B4.out⟩

theorem lookV_is (f : Flow) (c : Cal) : ∃ v0 v1 v2 v3, lookV f c = .agg #[.string v0, .string v1, .string v2, .bool v3] := by
  unfold lookV
  split
  · exact ⟨_, _, _, _, rfl⟩
  · split
    · split <;> exact ⟨_, _, _, _, rfl⟩
    · split <;> exact ⟨_, _, _, _, rfl⟩

theorem main {W : World} (F : Flow) (f1 : F.res.size ≤ maxLen) (f2 : F.org.size ≤ maxLen) (f3 : F.ref.size ≤ maxLen) (f4 : (Lit.int .i64 F.cnt).wf = true) (C : Cal) :
    Calls Try.prog 3 #[.agg (fv F), .agg (cv C)] W fun e w' => e = .returned (.bool true) ∧ Below W.heap.size W w' := by
  obtain ⟨v0, v1, v2, v3, h⟩ := lookV_is F C
  obtain ⟨res, org, thr, cnt, strat, ref, shape, warm, queue, clus, id_, fall⟩ := F
  obtain ⟨at_, cres, cctx, corg, inb, ccnt, a, n, cap⟩ := C
  exact looks_core res org thr cnt strat ref shape warm queue clus id_ fall at_ cres cctx corg inb ccnt a n cap v0 v1 v2 v3 (hid h) W

end Go.Proofs.Ytakmfcnmcjbbgaa.RejH
