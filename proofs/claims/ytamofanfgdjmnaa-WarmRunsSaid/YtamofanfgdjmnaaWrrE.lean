/- Both warm-ups: alike. -/
import Derived.Test.YtamofanfgdjmnaaWrrD
import Derived.Deep.RegionHeld3
namespace Go.Proofs.Ytamofanfgdjmnaa.WrrE
set_option linter.unusedVariables false
open Go.ChangeShapes Go.WideShapes Go.ChangeAt Go.RowKit Base WrmP NumM NumC NumE NumA RefA RefB LawA WrmA WrmB WrmF WrmG WrmH WrmI WrmJ Wri WrrA WrrB WrrC WrrD

set_option maxRecDepth 20000 in
set_option maxHeartbeats 4000000 in
theorem alike_any (p q : Nat) (m : Wm) (ho : m.Ok) (w : World) (hp : At w p m) (hq : RAt w q m) :
    Calls Try.prog 16 #[.agg #[ptr p, ptr q]] w fun e w' => e = .returned (.bool true) ∧ Below w.heap.size w w' := by
  have HB0 : Hid (Below w.heap.size w (w.alloc (.cells #[ptr p, ptr q] 32))) := hid ((Below.refl _ _).alloc (Nat.le_refl _) _)
  have HP := hid hp
  have HQ := hid hq
  have HM1 : Hid (∀ wx, Below w.heap.size w wx → Calls Try.prog 21 #[ptr p] wx fun e w' => e = .returned (.tuple #[.int .i64 (wn m.G : Nat), .int .i64 (m.G : Nat)]) ∧ Below wx.heap.size wx w') := hid fun wx hx => Marks_any p m ho wx (HP.out.below hx HP.out.lt)
  have HM2 : Hid (∀ wx, Below w.heap.size w wx → Calls Try.prog 34 #[ptr q] wx fun e w' => e = .returned (.tuple #[.int .i64 (wn m.G : Nat), .int .i64 (m.G : Nat)]) ∧ Below wx.heap.size wx w') := hid fun wx hx => RMarks_any q m ho wx (HQ.out.below hx HQ.out.lt)
  have HT : Hid (∀ wx, Below w.heap.size w wx → Calls Try.prog 23 #[ptr p] wx fun e w' => e = .returned (.int .i64 m.tok) ∧ Below wx.heap.size wx w') := hid fun wx hx => (Tokens_any p m wx (HP.out.below hx HP.out.lt)).mono fun e w' h => ⟨h.1, h.2 ▸ Below.refl _ _⟩
  have HL : Hid (∀ wx, Below w.heap.size w wx → Calls Try.prog 27 #[ptr p] wx fun e w' => e = .returned (.int .i64 m.last) ∧ Below wx.heap.size wx w') := hid fun wx hx => (Last_any p m wx (HP.out.below hx HP.out.lt)).mono fun e w' h => ⟨h.1, h.2 ▸ Below.refl _ _⟩
  have hbb := (HQ.out.below HB0.out HQ.out.lt).cells
  have q2 := hbb.2.2.1
  have q4 := hbb.2.2.2.2.1
  have b0 : (w.alloc (.cells #[ptr p, ptr q] 32)).cell? ⟨w.heap.size, 0, none⟩ = some (ptr p) := by go_cell
  have b1 : (w.alloc (.cells #[ptr p, ptr q] 32)).cell? ⟨w.heap.size, 1, none⟩ = some (ptr q) := by go_cell
  clear hbb hp hq ho
  have z1 : ((m.tok : Int) == (m.tok : Int)) = true := by simp
  have z2 : ((m.last : Int) == (m.last : Int)) = true := by simp
  have z3 : (((wn m.G : Nat) : Int) == ((wn m.G : Nat) : Int)) = true := by simp
  have z4 : (((m.G : Nat) : Int) == ((m.G : Nat) : Int)) = true := by simp
  generalize ((wn m.G : Nat) : Int) = v1 at *
  generalize ((m.G : Nat) : Int) = v2 at *
  generalize ((m.tok : Nat) : Int) = v3 at *
  generalize ((m.last : Nat) : Int) = v4 at *
  go_enter Try.func16, Try.ntmps16
  go_upto_region 1 with fail
  generalize (w.alloc (.cells #[ptr p, ptr q] 32)) = w0 at *
  go_wp2_with fail
  refine (HM1.out _ HB0.out).mono ?_
  rintro e w1 ⟨rfl, hb3⟩
  have b0 : w1.cell? ⟨w.heap.size, 0, none⟩ = some (ptr p) := kc hb3 (by first | assumption | go_cell)
  have b1 : w1.cell? ⟨w.heap.size, 1, none⟩ = some (ptr q) := kc hb3 (by first | assumption | go_cell)
  have q2 : w1.cell? ⟨q, 2, none⟩ = some (.int .i64 v3) := kc hb3 (by first | assumption | go_cell)
  have q4 : w1.cell? ⟨q, 4, none⟩ = some (.int .i64 v4) := kc hb3 (by first | assumption | go_cell)
  have HB1 := hid (bl HB0.out hb3)
  clear hb3 HB0 HM1
  go_wp2_with fail
  refine (HM2.out _ HB1.out).mono ?_
  rintro e w2 ⟨rfl, hb3⟩
  have b0 : w2.cell? ⟨w.heap.size, 0, none⟩ = some (ptr p) := kc hb3 (by first | assumption | go_cell)
  have b1 : w2.cell? ⟨w.heap.size, 1, none⟩ = some (ptr q) := kc hb3 (by first | assumption | go_cell)
  have q2 : w2.cell? ⟨q, 2, none⟩ = some (.int .i64 v3) := kc hb3 (by first | assumption | go_cell)
  have q4 : w2.cell? ⟨q, 4, none⟩ = some (.int .i64 v4) := kc hb3 (by first | assumption | go_cell)
  have HB2 := hid (bl HB1.out hb3)
  clear hb3 HB1 HM2
  have kb : Below w.heap.size w w2.drew := HB2.out.drew
  clear HB2
  go_upto_region 3 with fail
  go_region_held3 (fun w' => w'.cell? ⟨w.heap.size, 0, none⟩ = some (ptr p) ∧ w'.cell? ⟨w.heap.size, 1, none⟩ = some (ptr q) ∧ w'.cell? ⟨q, 2, none⟩ = some (.int .i64 v3) ∧ w'.cell? ⟨q, 4, none⟩ = some (.int .i64 v4)) (first | assumption | go_keep)
    (first
      | (go_at_call 23; refine (HT.out _ (by first | assumption | exact (Below.drew (by assumption)))).mono ?_; rintro e w3 ⟨rfl, hb3⟩
         have b0 : w3.cell? ⟨w.heap.size, 0, none⟩ = some (ptr p) := kc hb3 (by first | assumption | go_cell)
         have b1 : w3.cell? ⟨w.heap.size, 1, none⟩ = some (ptr q) := kc hb3 (by first | assumption | go_cell)
         have q2 : w3.cell? ⟨q, 2, none⟩ = some (.int .i64 v3) := kc hb3 (by first | assumption | go_cell)
         have q4 : w3.cell? ⟨q, 4, none⟩ = some (.int .i64 v4) := kc hb3 (by first | assumption | go_cell)
         have kb : Below w.heap.size w w3 := bl (by first | assumption | exact (Below.drew (by assumption))) hb3)
      | (go_at_call 27; refine (HL.out _ (by first | assumption | exact (Below.drew (by assumption)))).mono ?_; rintro e w3 ⟨rfl, hb3⟩
         have b0 : w3.cell? ⟨w.heap.size, 0, none⟩ = some (ptr p) := kc hb3 (by first | assumption | go_cell)
         have b1 : w3.cell? ⟨w.heap.size, 1, none⟩ = some (ptr q) := kc hb3 (by first | assumption | go_cell)
         have q2 : w3.cell? ⟨q, 2, none⟩ = some (.int .i64 v3) := kc hb3 (by first | assumption | go_cell)
         have q4 : w3.cell? ⟨q, 4, none⟩ = some (.int .i64 v4) := kc hb3 (by first | assumption | go_cell)
         have kb : Below w.heap.size w w3 := bl (by first | assumption | exact (Below.drew (by assumption))) hb3))
  all_goals
    have KB := hid kb
    clear kb
    go_wp2_with fail
    go_ret
    exact ⟨by first | rfl | simp, KB.out⟩

end Go.Proofs.Ytamofanfgdjmnaa.WrrE
