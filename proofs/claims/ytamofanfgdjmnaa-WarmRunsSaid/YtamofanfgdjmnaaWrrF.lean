/- Both warm-ups: one deed on both. -/
import Derived.Test.YtamofanfgdjmnaaWrrE
namespace Go.Proofs.Ytamofanfgdjmnaa.WrrF
set_option linter.unusedVariables false
open Go.ChangeShapes Go.WideShapes Go.ChangeAt Go.RowKit Base WrmP NumM NumC NumE NumA RefA RefB LawA WrmA WrmB WrmF WrmG WrmH WrmI WrmJ Wri WrrA WrrB WrrC WrrD WrrE

theorem wrc {R : Nat → Prop} {w w' : World} {b o : Nat} {v : Value} (h : Wr R w w') (hr : ¬ R b) (hc : w.cell? ⟨b, o, none⟩ = some v) : w'.cell? ⟨b, o, none⟩ = some v := by
  have hl := World.block_lt_of_cell? _ _ hc
  rw [← hc]
  unfold World.cell?
  rw [h.block b hl hr]
def one (p q : Nat) : Nat → Prop := fun k => k = p ∨ k = q
theorem Wr.l {p q : Nat} {w w' : World} (h : Wr (fun k => k = p) w w') : Wr (one p q) w w' := h.mono (fun k hk => .inl hk)
theorem Wr.r {p q : Nat} {w w' : World} (h : Wr (fun k => k = q) w w') : Wr (one p q) w w' := h.mono (fun k hk => .inr hk)

/-- what a deed leaves -/
def stepM (m : Wm) (kd t past now n : Int) : Wm := if kd = 0 then fillA m t past else if kd = 1 then takeA m t past now n else m
theorem stepM_ok (m : Wm) (h : m.Ok) (kd t past now n : Int) : (stepM m kd t past now n).Ok := by
  unfold stepM
  split
  · exact fillA_ok m h t past
  · split
    · exact takeA_ok m h t past now n
    · exact h

set_option maxRecDepth 100000 in
set_option maxHeartbeats 4000000 in
theorem do_0 (p q : Nat) (hpq : p ≠ q) (m : Wm) (ho : m.Ok) (kd t past now n : Int) (e0 : (kd == 0) = true) (w : World) (hp : At w p m) (hq : RAt w q m) :
    Calls Try.prog 15 #[.agg #[ptr p, ptr q], .agg #[.int .i64 kd, .int .i64 t, .int .i64 past, .int .i64 now, .int .i64 n]] w fun e w' => e = .returned (.bool true) ∧ At w' p (fillA m t past) ∧ RAt w' q (fillA m t past) ∧ Wr (one p q) w w' := by
  have hpl := hp.lt
  have hql := hq.lt
  have hB0 : Below w.heap.size w ((w.alloc (.cells #[ptr p, ptr q] 32)).alloc (.cells #[.int .i64 kd, .int .i64 t, .int .i64 past, .int .i64 now, .int .i64 n] 35)) := ((Below.refl _ _).alloc (Nat.le_refl _) _).alloc (by simp) _
  have b0 : ((w.alloc (.cells #[ptr p, ptr q] 32)).alloc (.cells #[.int .i64 kd, .int .i64 t, .int .i64 past, .int .i64 now, .int .i64 n] 35)).cell? ⟨w.heap.size, 0, none⟩ = some (ptr p) := by go_cell
  have b1 : ((w.alloc (.cells #[ptr p, ptr q] 32)).alloc (.cells #[.int .i64 kd, .int .i64 t, .int .i64 past, .int .i64 now, .int .i64 n] 35)).cell? ⟨w.heap.size, 1, none⟩ = some (ptr q) := by go_cell
  have x0 : ((w.alloc (.cells #[ptr p, ptr q] 32)).alloc (.cells #[.int .i64 kd, .int .i64 t, .int .i64 past, .int .i64 now, .int .i64 n] 35)).cell? ⟨w.heap.size + 1, 0, none⟩ = some (.int .i64 kd) := by go_cell
  have x1 : ((w.alloc (.cells #[ptr p, ptr q] 32)).alloc (.cells #[.int .i64 kd, .int .i64 t, .int .i64 past, .int .i64 now, .int .i64 n] 35)).cell? ⟨w.heap.size + 1, 1, none⟩ = some (.int .i64 t) := by go_cell
  have x2 : ((w.alloc (.cells #[ptr p, ptr q] 32)).alloc (.cells #[.int .i64 kd, .int .i64 t, .int .i64 past, .int .i64 now, .int .i64 n] 35)).cell? ⟨w.heap.size + 1, 2, none⟩ = some (.int .i64 past) := by go_cell
  have x3 : ((w.alloc (.cells #[ptr p, ptr q] 32)).alloc (.cells #[.int .i64 kd, .int .i64 t, .int .i64 past, .int .i64 now, .int .i64 n] 35)).cell? ⟨w.heap.size + 1, 3, none⟩ = some (.int .i64 now) := by go_cell
  have x4 : ((w.alloc (.cells #[ptr p, ptr q] 32)).alloc (.cells #[.int .i64 kd, .int .i64 t, .int .i64 past, .int .i64 now, .int .i64 n] 35)).cell? ⟨w.heap.size + 1, 4, none⟩ = some (.int .i64 n) := by go_cell
  go_enter Try.func15, Try.ntmps15
  go_upto_region 1 with fail
  generalize ((w.alloc (.cells #[ptr p, ptr q] 32)).alloc (.cells #[.int .i64 kd, .int .i64 t, .int .i64 past, .int .i64 now, .int .i64 n] 35)) = wb at *
  have HPB := hid (hp.below hB0 hpl)
  have HQB := hid (hq.below hB0 hql)
  have HB0 := hid (Wr.ofBelow (R := one p q) hB0)
  clear hp hq hB0
  go_wp2_with fail
  refine (Fill_any p m ho t past wb HPB.out).mono ?_
  rintro e w1 ⟨rfl, ha, hw⟩
  have HP1 := hid ha
  have HW1 := hid (HB0.out.trans (Wr.l (q := q) hw))
  have HQ1 := hid (HQB.out.wr hw (fun e => hpq e.symm))
  have b0 : w1.cell? ⟨w.heap.size, 0, none⟩ = some (ptr p) := wrc hw (by omega) (by assumption)
  have b1 : w1.cell? ⟨w.heap.size, 1, none⟩ = some (ptr q) := wrc hw (by omega) (by assumption)
  have x0 : w1.cell? ⟨w.heap.size + 1, 0, none⟩ = some (.int .i64 kd) := wrc hw (by omega) (by assumption)
  have x1 : w1.cell? ⟨w.heap.size + 1, 1, none⟩ = some (.int .i64 t) := wrc hw (by omega) (by assumption)
  have x2 : w1.cell? ⟨w.heap.size + 1, 2, none⟩ = some (.int .i64 past) := wrc hw (by omega) (by assumption)
  have x3 : w1.cell? ⟨w.heap.size + 1, 3, none⟩ = some (.int .i64 now) := wrc hw (by omega) (by assumption)
  have x4 : w1.cell? ⟨w.heap.size + 1, 4, none⟩ = some (.int .i64 n) := wrc hw (by omega) (by assumption)
  clear ha hw HPB HQB HB0
  have HC := hid (RFill_any q m ho t past w1 HQ1.out)
  go_wp2_with fail
  refine HC.out.mono ?_
  rintro e w2 ⟨rfl, ha, hw⟩
  have HQ2 := hid ha
  have HW2 := hid (HW1.out.trans (Wr.r (p := p) hw))
  have HP2 := hid (HP1.out.wr hw (fun e => hpq e))
  have b0 : w2.cell? ⟨w.heap.size, 0, none⟩ = some (ptr p) := wrc hw (by omega) (by assumption)
  have b1 : w2.cell? ⟨w.heap.size, 1, none⟩ = some (ptr q) := wrc hw (by omega) (by assumption)
  have x0 : w2.cell? ⟨w.heap.size + 1, 0, none⟩ = some (.int .i64 kd) := wrc hw (by omega) (by assumption)
  have x1 : w2.cell? ⟨w.heap.size + 1, 1, none⟩ = some (.int .i64 t) := wrc hw (by omega) (by assumption)
  have x2 : w2.cell? ⟨w.heap.size + 1, 2, none⟩ = some (.int .i64 past) := wrc hw (by omega) (by assumption)
  have x3 : w2.cell? ⟨w.heap.size + 1, 3, none⟩ = some (.int .i64 now) := wrc hw (by omega) (by assumption)
  have x4 : w2.cell? ⟨w.heap.size + 1, 4, none⟩ = some (.int .i64 n) := wrc hw (by omega) (by assumption)
  clear ha hw HP1 HQ1 HW1 HC
  have HAL := hid (alike_any p q _ (fillA_ok m ho t past) w2 HP2.out HQ2.out)
  generalize rateA m t past = xa at *
  generalize ref2 m.last t past = xe at *
  have z1 : (xa == xa) = true := by simp
  have z2 : (xe == xe) = true := by simp
  go_wp2_with fail
  refine HAL.out.mono ?_
  rintro e w3 ⟨rfl, hb⟩
  have HE := hid (And.intro (HP2.out.below hb HP2.out.lt) (And.intro (HQ2.out.below hb HQ2.out.lt) (HW2.out.trans (Wr.ofBelow hb))))
  clear hb HAL HP2 HQ2 HW2
  go_wp2_with fail
  go_ret
  exact ⟨rfl, HE.out⟩

set_option maxRecDepth 100000 in
set_option maxHeartbeats 4000000 in
theorem do_1 (p q : Nat) (hpq : p ≠ q) (m : Wm) (ho : m.Ok) (kd t past now n : Int) (e0 : (kd == 0) = false) (e1 : (kd == 1) = true) (w : World) (hp : At w p m) (hq : RAt w q m) :
    Calls Try.prog 15 #[.agg #[ptr p, ptr q], .agg #[.int .i64 kd, .int .i64 t, .int .i64 past, .int .i64 now, .int .i64 n]] w fun e w' => e = .returned (.bool true) ∧ At w' p (takeA m t past now n) ∧ RAt w' q (takeA m t past now n) ∧ Wr (one p q) w w' := by
  have hpl := hp.lt
  have hql := hq.lt
  have hB0 : Below w.heap.size w ((w.alloc (.cells #[ptr p, ptr q] 32)).alloc (.cells #[.int .i64 kd, .int .i64 t, .int .i64 past, .int .i64 now, .int .i64 n] 35)) := ((Below.refl _ _).alloc (Nat.le_refl _) _).alloc (by simp) _
  have b0 : ((w.alloc (.cells #[ptr p, ptr q] 32)).alloc (.cells #[.int .i64 kd, .int .i64 t, .int .i64 past, .int .i64 now, .int .i64 n] 35)).cell? ⟨w.heap.size, 0, none⟩ = some (ptr p) := by go_cell
  have b1 : ((w.alloc (.cells #[ptr p, ptr q] 32)).alloc (.cells #[.int .i64 kd, .int .i64 t, .int .i64 past, .int .i64 now, .int .i64 n] 35)).cell? ⟨w.heap.size, 1, none⟩ = some (ptr q) := by go_cell
  have x0 : ((w.alloc (.cells #[ptr p, ptr q] 32)).alloc (.cells #[.int .i64 kd, .int .i64 t, .int .i64 past, .int .i64 now, .int .i64 n] 35)).cell? ⟨w.heap.size + 1, 0, none⟩ = some (.int .i64 kd) := by go_cell
  have x1 : ((w.alloc (.cells #[ptr p, ptr q] 32)).alloc (.cells #[.int .i64 kd, .int .i64 t, .int .i64 past, .int .i64 now, .int .i64 n] 35)).cell? ⟨w.heap.size + 1, 1, none⟩ = some (.int .i64 t) := by go_cell
  have x2 : ((w.alloc (.cells #[ptr p, ptr q] 32)).alloc (.cells #[.int .i64 kd, .int .i64 t, .int .i64 past, .int .i64 now, .int .i64 n] 35)).cell? ⟨w.heap.size + 1, 2, none⟩ = some (.int .i64 past) := by go_cell
  have x3 : ((w.alloc (.cells #[ptr p, ptr q] 32)).alloc (.cells #[.int .i64 kd, .int .i64 t, .int .i64 past, .int .i64 now, .int .i64 n] 35)).cell? ⟨w.heap.size + 1, 3, none⟩ = some (.int .i64 now) := by go_cell
  have x4 : ((w.alloc (.cells #[ptr p, ptr q] 32)).alloc (.cells #[.int .i64 kd, .int .i64 t, .int .i64 past, .int .i64 now, .int .i64 n] 35)).cell? ⟨w.heap.size + 1, 4, none⟩ = some (.int .i64 n) := by go_cell
  go_enter Try.func15, Try.ntmps15
  go_upto_region 1 with fail
  generalize ((w.alloc (.cells #[ptr p, ptr q] 32)).alloc (.cells #[.int .i64 kd, .int .i64 t, .int .i64 past, .int .i64 now, .int .i64 n] 35)) = wb at *
  have HPB := hid (hp.below hB0 hpl)
  have HQB := hid (hq.below hB0 hql)
  have HB0 := hid (Wr.ofBelow (R := one p q) hB0)
  clear hp hq hB0
  go_wp2_with fail
  refine (Take_any p m ho t past now n wb HPB.out).mono ?_
  rintro e w1 ⟨rfl, ha, hw⟩
  have HP1 := hid ha
  have HW1 := hid (HB0.out.trans (Wr.l (q := q) hw))
  have HQ1 := hid (HQB.out.wr hw (fun e => hpq e.symm))
  have b0 : w1.cell? ⟨w.heap.size, 0, none⟩ = some (ptr p) := wrc hw (by omega) (by assumption)
  have b1 : w1.cell? ⟨w.heap.size, 1, none⟩ = some (ptr q) := wrc hw (by omega) (by assumption)
  have x0 : w1.cell? ⟨w.heap.size + 1, 0, none⟩ = some (.int .i64 kd) := wrc hw (by omega) (by assumption)
  have x1 : w1.cell? ⟨w.heap.size + 1, 1, none⟩ = some (.int .i64 t) := wrc hw (by omega) (by assumption)
  have x2 : w1.cell? ⟨w.heap.size + 1, 2, none⟩ = some (.int .i64 past) := wrc hw (by omega) (by assumption)
  have x3 : w1.cell? ⟨w.heap.size + 1, 3, none⟩ = some (.int .i64 now) := wrc hw (by omega) (by assumption)
  have x4 : w1.cell? ⟨w.heap.size + 1, 4, none⟩ = some (.int .i64 n) := wrc hw (by omega) (by assumption)
  clear ha hw HPB HQB HB0
  have HC := hid (RTake_any q m ho t past now n w1 HQ1.out)
  go_wp2_with fail
  refine HC.out.mono ?_
  rintro e w2 ⟨rfl, ha, hw⟩
  have HQ2 := hid ha
  have HW2 := hid (HW1.out.trans (Wr.r (p := p) hw))
  have HP2 := hid (HP1.out.wr hw (fun e => hpq e))
  have b0 : w2.cell? ⟨w.heap.size, 0, none⟩ = some (ptr p) := wrc hw (by omega) (by assumption)
  have b1 : w2.cell? ⟨w.heap.size, 1, none⟩ = some (ptr q) := wrc hw (by omega) (by assumption)
  have x0 : w2.cell? ⟨w.heap.size + 1, 0, none⟩ = some (.int .i64 kd) := wrc hw (by omega) (by assumption)
  have x1 : w2.cell? ⟨w.heap.size + 1, 1, none⟩ = some (.int .i64 t) := wrc hw (by omega) (by assumption)
  have x2 : w2.cell? ⟨w.heap.size + 1, 2, none⟩ = some (.int .i64 past) := wrc hw (by omega) (by assumption)
  have x3 : w2.cell? ⟨w.heap.size + 1, 3, none⟩ = some (.int .i64 now) := wrc hw (by omega) (by assumption)
  have x4 : w2.cell? ⟨w.heap.size + 1, 4, none⟩ = some (.int .i64 n) := wrc hw (by omega) (by assumption)
  clear ha hw HP1 HQ1 HW1 HC
  have HAL := hid (alike_any p q _ (takeA_ok m ho t past now n) w2 HP2.out HQ2.out)
  generalize lookA m t past now n = xa at *
  generalize ref4 m.last t past now n = xe at *
  have z1 : (xa == xa) = true := by simp
  have z2 : (xe == xe) = true := by simp
  go_wp2_with fail
  refine HAL.out.mono ?_
  rintro e w3 ⟨rfl, hb⟩
  have HE := hid (And.intro (HP2.out.below hb HP2.out.lt) (And.intro (HQ2.out.below hb HQ2.out.lt) (HW2.out.trans (Wr.ofBelow hb))))
  clear hb HAL HP2 HQ2 HW2
  go_wp2_with fail
  go_ret
  exact ⟨rfl, HE.out⟩

set_option maxRecDepth 100000 in
set_option maxHeartbeats 4000000 in
theorem do_2 (p q : Nat) (hpq : p ≠ q) (m : Wm) (ho : m.Ok) (kd t past now n : Int) (e0 : (kd == 0) = false) (e1 : (kd == 1) = false) (e2 : (kd == 2) = true) (w : World) (hp : At w p m) (hq : RAt w q m) :
    Calls Try.prog 15 #[.agg #[ptr p, ptr q], .agg #[.int .i64 kd, .int .i64 t, .int .i64 past, .int .i64 now, .int .i64 n]] w fun e w' => e = .returned (.bool true) ∧ At w' p (m) ∧ RAt w' q (m) ∧ Wr (one p q) w w' := by
  have hpl := hp.lt
  have hql := hq.lt
  have hB0 : Below w.heap.size w ((w.alloc (.cells #[ptr p, ptr q] 32)).alloc (.cells #[.int .i64 kd, .int .i64 t, .int .i64 past, .int .i64 now, .int .i64 n] 35)) := ((Below.refl _ _).alloc (Nat.le_refl _) _).alloc (by simp) _
  have b0 : ((w.alloc (.cells #[ptr p, ptr q] 32)).alloc (.cells #[.int .i64 kd, .int .i64 t, .int .i64 past, .int .i64 now, .int .i64 n] 35)).cell? ⟨w.heap.size, 0, none⟩ = some (ptr p) := by go_cell
  have b1 : ((w.alloc (.cells #[ptr p, ptr q] 32)).alloc (.cells #[.int .i64 kd, .int .i64 t, .int .i64 past, .int .i64 now, .int .i64 n] 35)).cell? ⟨w.heap.size, 1, none⟩ = some (ptr q) := by go_cell
  have x0 : ((w.alloc (.cells #[ptr p, ptr q] 32)).alloc (.cells #[.int .i64 kd, .int .i64 t, .int .i64 past, .int .i64 now, .int .i64 n] 35)).cell? ⟨w.heap.size + 1, 0, none⟩ = some (.int .i64 kd) := by go_cell
  have x1 : ((w.alloc (.cells #[ptr p, ptr q] 32)).alloc (.cells #[.int .i64 kd, .int .i64 t, .int .i64 past, .int .i64 now, .int .i64 n] 35)).cell? ⟨w.heap.size + 1, 1, none⟩ = some (.int .i64 t) := by go_cell
  have x2 : ((w.alloc (.cells #[ptr p, ptr q] 32)).alloc (.cells #[.int .i64 kd, .int .i64 t, .int .i64 past, .int .i64 now, .int .i64 n] 35)).cell? ⟨w.heap.size + 1, 2, none⟩ = some (.int .i64 past) := by go_cell
  have x3 : ((w.alloc (.cells #[ptr p, ptr q] 32)).alloc (.cells #[.int .i64 kd, .int .i64 t, .int .i64 past, .int .i64 now, .int .i64 n] 35)).cell? ⟨w.heap.size + 1, 3, none⟩ = some (.int .i64 now) := by go_cell
  have x4 : ((w.alloc (.cells #[ptr p, ptr q] 32)).alloc (.cells #[.int .i64 kd, .int .i64 t, .int .i64 past, .int .i64 now, .int .i64 n] 35)).cell? ⟨w.heap.size + 1, 4, none⟩ = some (.int .i64 n) := by go_cell
  go_enter Try.func15, Try.ntmps15
  go_upto_region 1 with fail
  generalize ((w.alloc (.cells #[ptr p, ptr q] 32)).alloc (.cells #[.int .i64 kd, .int .i64 t, .int .i64 past, .int .i64 now, .int .i64 n] 35)) = wb at *
  have HPB := hid (hp.below hB0 hpl)
  have HQB := hid (hq.below hB0 hql)
  have HB0 := hid (Wr.ofBelow (R := one p q) hB0)
  clear hp hq hB0
  go_wp2_with fail
  refine (Look_any p m ho t past now n wb HPB.out).mono ?_
  rintro e w1 ⟨rfl, hb⟩
  have HP1 := hid (HPB.out.below hb HPB.out.lt)
  have HW1 := hid (HB0.out.trans (Wr.ofBelow hb))
  have HQ1 := hid (HQB.out.below hb HQB.out.lt)
  have b0 : w1.cell? ⟨w.heap.size, 0, none⟩ = some (ptr p) := kc hb (by assumption)
  have b1 : w1.cell? ⟨w.heap.size, 1, none⟩ = some (ptr q) := kc hb (by assumption)
  have x0 : w1.cell? ⟨w.heap.size + 1, 0, none⟩ = some (.int .i64 kd) := kc hb (by assumption)
  have x1 : w1.cell? ⟨w.heap.size + 1, 1, none⟩ = some (.int .i64 t) := kc hb (by assumption)
  have x2 : w1.cell? ⟨w.heap.size + 1, 2, none⟩ = some (.int .i64 past) := kc hb (by assumption)
  have x3 : w1.cell? ⟨w.heap.size + 1, 3, none⟩ = some (.int .i64 now) := kc hb (by assumption)
  have x4 : w1.cell? ⟨w.heap.size + 1, 4, none⟩ = some (.int .i64 n) := kc hb (by assumption)
  clear hb HPB HQB HB0
  have HC := hid (RLook_any q m ho t past now n w1 HQ1.out)
  go_wp2_with fail
  refine HC.out.mono ?_
  rintro e w2 ⟨rfl, hb⟩
  have HP2 := hid (HP1.out.below hb HP1.out.lt)
  have HW2 := hid (HW1.out.trans (Wr.ofBelow hb))
  have HQ2 := hid (HQ1.out.below hb HQ1.out.lt)
  have b0 : w2.cell? ⟨w.heap.size, 0, none⟩ = some (ptr p) := kc hb (by assumption)
  have b1 : w2.cell? ⟨w.heap.size, 1, none⟩ = some (ptr q) := kc hb (by assumption)
  have x0 : w2.cell? ⟨w.heap.size + 1, 0, none⟩ = some (.int .i64 kd) := kc hb (by assumption)
  have x1 : w2.cell? ⟨w.heap.size + 1, 1, none⟩ = some (.int .i64 t) := kc hb (by assumption)
  have x2 : w2.cell? ⟨w.heap.size + 1, 2, none⟩ = some (.int .i64 past) := kc hb (by assumption)
  have x3 : w2.cell? ⟨w.heap.size + 1, 3, none⟩ = some (.int .i64 now) := kc hb (by assumption)
  have x4 : w2.cell? ⟨w.heap.size + 1, 4, none⟩ = some (.int .i64 n) := kc hb (by assumption)
  clear hb HP1 HQ1 HW1 HC
  have HAL := hid (alike_any p q _ (ho) w2 HP2.out HQ2.out)
  generalize lookA m t past now n = xa at *
  generalize ref4 m.last t past now n = xe at *
  have z1 : (xa == xa) = true := by simp
  have z2 : (xe == xe) = true := by simp
  go_wp2_with fail
  refine HAL.out.mono ?_
  rintro e w3 ⟨rfl, hb⟩
  have HE := hid (And.intro (HP2.out.below hb HP2.out.lt) (And.intro (HQ2.out.below hb HQ2.out.lt) (HW2.out.trans (Wr.ofBelow hb))))
  clear hb HAL HP2 HQ2 HW2
  go_wp2_with fail
  go_ret
  exact ⟨rfl, HE.out⟩

set_option maxRecDepth 100000 in
set_option maxHeartbeats 4000000 in
theorem do_3 (p q : Nat) (hpq : p ≠ q) (m : Wm) (ho : m.Ok) (kd t past now n : Int) (e0 : (kd == 0) = false) (e1 : (kd == 1) = false) (e2 : (kd == 2) = false) (e3 : (kd == 3) = true) (w : World) (hp : At w p m) (hq : RAt w q m) :
    Calls Try.prog 15 #[.agg #[ptr p, ptr q], .agg #[.int .i64 kd, .int .i64 t, .int .i64 past, .int .i64 now, .int .i64 n]] w fun e w' => e = .returned (.bool true) ∧ At w' p (m) ∧ RAt w' q (m) ∧ Wr (one p q) w w' := by
  have hpl := hp.lt
  have hql := hq.lt
  have hB0 : Below w.heap.size w ((w.alloc (.cells #[ptr p, ptr q] 32)).alloc (.cells #[.int .i64 kd, .int .i64 t, .int .i64 past, .int .i64 now, .int .i64 n] 35)) := ((Below.refl _ _).alloc (Nat.le_refl _) _).alloc (by simp) _
  have b0 : ((w.alloc (.cells #[ptr p, ptr q] 32)).alloc (.cells #[.int .i64 kd, .int .i64 t, .int .i64 past, .int .i64 now, .int .i64 n] 35)).cell? ⟨w.heap.size, 0, none⟩ = some (ptr p) := by go_cell
  have b1 : ((w.alloc (.cells #[ptr p, ptr q] 32)).alloc (.cells #[.int .i64 kd, .int .i64 t, .int .i64 past, .int .i64 now, .int .i64 n] 35)).cell? ⟨w.heap.size, 1, none⟩ = some (ptr q) := by go_cell
  have x0 : ((w.alloc (.cells #[ptr p, ptr q] 32)).alloc (.cells #[.int .i64 kd, .int .i64 t, .int .i64 past, .int .i64 now, .int .i64 n] 35)).cell? ⟨w.heap.size + 1, 0, none⟩ = some (.int .i64 kd) := by go_cell
  have x1 : ((w.alloc (.cells #[ptr p, ptr q] 32)).alloc (.cells #[.int .i64 kd, .int .i64 t, .int .i64 past, .int .i64 now, .int .i64 n] 35)).cell? ⟨w.heap.size + 1, 1, none⟩ = some (.int .i64 t) := by go_cell
  have x2 : ((w.alloc (.cells #[ptr p, ptr q] 32)).alloc (.cells #[.int .i64 kd, .int .i64 t, .int .i64 past, .int .i64 now, .int .i64 n] 35)).cell? ⟨w.heap.size + 1, 2, none⟩ = some (.int .i64 past) := by go_cell
  have x3 : ((w.alloc (.cells #[ptr p, ptr q] 32)).alloc (.cells #[.int .i64 kd, .int .i64 t, .int .i64 past, .int .i64 now, .int .i64 n] 35)).cell? ⟨w.heap.size + 1, 3, none⟩ = some (.int .i64 now) := by go_cell
  have x4 : ((w.alloc (.cells #[ptr p, ptr q] 32)).alloc (.cells #[.int .i64 kd, .int .i64 t, .int .i64 past, .int .i64 now, .int .i64 n] 35)).cell? ⟨w.heap.size + 1, 4, none⟩ = some (.int .i64 n) := by go_cell
  go_enter Try.func15, Try.ntmps15
  go_upto_region 1 with fail
  generalize ((w.alloc (.cells #[ptr p, ptr q] 32)).alloc (.cells #[.int .i64 kd, .int .i64 t, .int .i64 past, .int .i64 now, .int .i64 n] 35)) = wb at *
  have HPB := hid (hp.below hB0 hpl)
  have HQB := hid (hq.below hB0 hql)
  have HB0 := hid (Wr.ofBelow (R := one p q) hB0)
  clear hp hq hB0
  go_wp2_with fail
  refine (Rate_any p m ho t past wb HPB.out).mono ?_
  rintro e w1 ⟨rfl, hb⟩
  have HP1 := hid (HPB.out.below hb HPB.out.lt)
  have HW1 := hid (HB0.out.trans (Wr.ofBelow hb))
  have HQ1 := hid (HQB.out.below hb HQB.out.lt)
  have b0 : w1.cell? ⟨w.heap.size, 0, none⟩ = some (ptr p) := kc hb (by assumption)
  have b1 : w1.cell? ⟨w.heap.size, 1, none⟩ = some (ptr q) := kc hb (by assumption)
  have x0 : w1.cell? ⟨w.heap.size + 1, 0, none⟩ = some (.int .i64 kd) := kc hb (by assumption)
  have x1 : w1.cell? ⟨w.heap.size + 1, 1, none⟩ = some (.int .i64 t) := kc hb (by assumption)
  have x2 : w1.cell? ⟨w.heap.size + 1, 2, none⟩ = some (.int .i64 past) := kc hb (by assumption)
  have x3 : w1.cell? ⟨w.heap.size + 1, 3, none⟩ = some (.int .i64 now) := kc hb (by assumption)
  have x4 : w1.cell? ⟨w.heap.size + 1, 4, none⟩ = some (.int .i64 n) := kc hb (by assumption)
  clear hb HPB HQB HB0
  have HC := hid (RRate_any q m ho t past w1 HQ1.out)
  go_wp2_with fail
  refine HC.out.mono ?_
  rintro e w2 ⟨rfl, hb⟩
  have HP2 := hid (HP1.out.below hb HP1.out.lt)
  have HW2 := hid (HW1.out.trans (Wr.ofBelow hb))
  have HQ2 := hid (HQ1.out.below hb HQ1.out.lt)
  have b0 : w2.cell? ⟨w.heap.size, 0, none⟩ = some (ptr p) := kc hb (by assumption)
  have b1 : w2.cell? ⟨w.heap.size, 1, none⟩ = some (ptr q) := kc hb (by assumption)
  have x0 : w2.cell? ⟨w.heap.size + 1, 0, none⟩ = some (.int .i64 kd) := kc hb (by assumption)
  have x1 : w2.cell? ⟨w.heap.size + 1, 1, none⟩ = some (.int .i64 t) := kc hb (by assumption)
  have x2 : w2.cell? ⟨w.heap.size + 1, 2, none⟩ = some (.int .i64 past) := kc hb (by assumption)
  have x3 : w2.cell? ⟨w.heap.size + 1, 3, none⟩ = some (.int .i64 now) := kc hb (by assumption)
  have x4 : w2.cell? ⟨w.heap.size + 1, 4, none⟩ = some (.int .i64 n) := kc hb (by assumption)
  clear hb HP1 HQ1 HW1 HC
  have HAL := hid (alike_any p q _ (ho) w2 HP2.out HQ2.out)
  generalize rateA m t past = xa at *
  generalize ref2 m.last t past = xe at *
  have z1 : (xa == xa) = true := by simp
  have z2 : (xe == xe) = true := by simp
  go_wp2_with fail
  refine HAL.out.mono ?_
  rintro e w3 ⟨rfl, hb⟩
  have HE := hid (And.intro (HP2.out.below hb HP2.out.lt) (And.intro (HQ2.out.below hb HQ2.out.lt) (HW2.out.trans (Wr.ofBelow hb))))
  clear hb HAL HP2 HQ2 HW2
  go_wp2_with fail
  go_ret
  exact ⟨rfl, HE.out⟩

set_option maxRecDepth 100000 in
theorem do_no (p q : Nat) (m : Wm) (kd t past now n : Int) (e0 : (kd == 0) = false) (e1 : (kd == 1) = false) (e2 : (kd == 2) = false) (e3 : (kd == 3) = false) (w : World) (hp : At w p m) (hq : RAt w q m) :
    Calls Try.prog 15 #[.agg #[ptr p, ptr q], .agg #[.int .i64 kd, .int .i64 t, .int .i64 past, .int .i64 now, .int .i64 n]] w fun e w' => e = .returned (.bool true) ∧ At w' p m ∧ RAt w' q m ∧ Wr (one p q) w w' := by
  have hB0 : Below w.heap.size w ((w.alloc (.cells #[ptr p, ptr q] 32)).alloc (.cells #[.int .i64 kd, .int .i64 t, .int .i64 past, .int .i64 now, .int .i64 n] 35)) := ((Below.refl _ _).alloc (Nat.le_refl _) _).alloc (by simp) _
  have HE := hid (And.intro (hp.below hB0 hp.lt) (And.intro (hq.below hB0 hq.lt) (Wr.ofBelow (R := one p q) hB0)))
  clear hp hq hB0
  go_enter Try.func15, Try.ntmps15
  go_wp2_with fail
  go_ret
  exact ⟨rfl, HE.out⟩

theorem do_any (p q : Nat) (hpq : p ≠ q) (m : Wm) (ho : m.Ok) (kd t past now n : Int) (w : World) (hp : At w p m) (hq : RAt w q m) :
    Calls Try.prog 15 #[.agg #[ptr p, ptr q], .agg #[.int .i64 kd, .int .i64 t, .int .i64 past, .int .i64 now, .int .i64 n]] w fun e w' => e = .returned (.bool true) ∧ At w' p (stepM m kd t past now n) ∧ RAt w' q (stepM m kd t past now n) ∧ Wr (one p q) w w' := by
  unfold stepM
  by_cases h0 : kd = 0
  · rw [if_pos h0]; exact do_0 p q hpq m ho kd t past now n (by simpa using h0) w hp hq
  · rw [if_neg h0]
    by_cases h1 : kd = 1
    · rw [if_pos h1]; exact do_1 p q hpq m ho kd t past now n (by simpa using h0) (by simpa using h1) w hp hq
    · rw [if_neg h1]
      by_cases h2 : kd = 2
      · exact do_2 p q hpq m ho kd t past now n (by simpa using h0) (by simpa using h1) (by simpa using h2) w hp hq
      · by_cases h3 : kd = 3
        · exact do_3 p q hpq m ho kd t past now n (by simpa using h0) (by simpa using h1) (by simpa using h2) (by simpa using h3) w hp hq
        · exact do_no p q m kd t past now n (by simpa using h0) (by simpa using h1) (by simpa using h2) (by simpa using h3) w hp hq

end Go.Proofs.Ytamofanfgdjmnaa.WrrF
