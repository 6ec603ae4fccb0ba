/- What must be of rejecting, whatever is asked. -/
import Derived.Test.YtakmfcnmcjbbgaaRejF
import Derived.Test.YtakmfcnmcjbbgaaPas
import Derived.Test.YtakmfcnmcjbbgaaWri
namespace Go.Proofs.Ytakmfcnmcjbbgaa.RejG
set_option linter.unusedVariables false
open Go.ChangeShapes Go.WideShapes Go.ChangeAt Go.RowKit Base RejA RejB RejD RejE RejF Pas Txt

def rule : Flow := ⟨⟨#[97]⟩, ⟨#[100, 101, 102, 97, 117, 108, 116]⟩, false, 5, 1, ⟨#[98]⟩, 0, 0, 0, false, 0, false⟩
def call : Cal := ⟨0, ⟨#[97]⟩, ⟨#[109, 97, 105, 110]⟩, ⟨#[]⟩, false, 1, none, 0, 0⟩

theorem mines_one : mines 1 (fun _ => rule) call 1 = [0] := by
  have h : mineB 1 (fun _ => rule) call 0 = true := by
    unfold mineB
    rw [show ((0 : Nat) : Int) = ((0 : Nat) : Int) from rfl, conc_in (show 0 < 1 by omega)]
    rw [decide_eq_true (show rule.res = call.res from rfl), decide_eq_true (show rule.org = dft from rfl)]
    simp [skips, rule]
  rw [mines_yes h]
  rfl

theorem flows_one (w : World) (ty : TypeId) : Flows (w.alloc (.cells (fv rule) ty)) (some ⟨w.heap.size, 0, none⟩) 1 (fun _ => rule) := by
  refine ⟨fun _ => ⟨w.heap.size, 0, rfl, by simp, fun i hi j v hv => ?_⟩, fun i hi => ?_, fun i hi => ?_, fun i hi => ?_⟩
  · obtain rfl : i = 0 := by omega
    unfold World.cell?
    rw [heap_alloc_new]
    simpa using hv
  · show (1 : Nat) ≤ _; decide
  · show (7 : Nat) ≤ _; decide
  · show (1 : Nat) ≤ _; decide

theorem r_at {w : World} {b : Nat} {ty : TypeId} (h : w.heap[b]? = some (.cells #[.string ⟨#[97]⟩, .string ⟨#[100, 101, 102, 97, 117, 108, 116]⟩, .bool false, .int .i64 5, .int .u8 1, .string ⟨#[98]⟩, .int .u8 0, .int .i64 0, .int .i64 0, .bool false, .int .i64 0, .bool false] ty)) : w.cell? ⟨b, 0, none⟩ = some (.string ⟨#[97]⟩) ∧ w.cell? ⟨b, 1, none⟩ = some (.string ⟨#[100, 101, 102, 97, 117, 108, 116]⟩) ∧ w.cell? ⟨b, 2, none⟩ = some (.bool false) ∧ w.cell? ⟨b, 3, none⟩ = some (.int .i64 5) ∧ w.cell? ⟨b, 4, none⟩ = some (.int .u8 1) ∧ w.cell? ⟨b, 5, none⟩ = some (.string ⟨#[98]⟩) ∧ w.cell? ⟨b, 6, none⟩ = some (.int .u8 0) ∧ w.cell? ⟨b, 7, none⟩ = some (.int .i64 0) ∧ w.cell? ⟨b, 8, none⟩ = some (.int .i64 0) ∧ w.cell? ⟨b, 9, none⟩ = some (.bool false) ∧ w.cell? ⟨b, 10, none⟩ = some (.int .i64 0) ∧ w.cell? ⟨b, 11, none⟩ = some (.bool false) := by
  exact ⟨by simp [World.cell?, h], by simp [World.cell?, h], by simp [World.cell?, h], by simp [World.cell?, h], by simp [World.cell?, h], by simp [World.cell?, h], by simp [World.cell?, h], by simp [World.cell?, h], by simp [World.cell?, h], by simp [World.cell?, h], by simp [World.cell?, h], by simp [World.cell?, h]⟩
theorem c_at {w : World} {b : Nat} {ty : TypeId} (h : w.heap[b]? = some (.cells #[.int .i64 0, .string ⟨#[97]⟩, .string ⟨#[109, 97, 105, 110]⟩, .string ⟨#[]⟩, .bool false, .int .i64 1, .slice none 0 0] ty)) : w.cell? ⟨b, 0, none⟩ = some (.int .i64 0) ∧ w.cell? ⟨b, 1, none⟩ = some (.string ⟨#[97]⟩) ∧ w.cell? ⟨b, 2, none⟩ = some (.string ⟨#[109, 97, 105, 110]⟩) ∧ w.cell? ⟨b, 3, none⟩ = some (.string ⟨#[]⟩) ∧ w.cell? ⟨b, 4, none⟩ = some (.bool false) ∧ w.cell? ⟨b, 5, none⟩ = some (.int .i64 1) ∧ w.cell? ⟨b, 6, none⟩ = some (.slice none 0 0) := by
  exact ⟨by simp [World.cell?, h], by simp [World.cell?, h], by simp [World.cell?, h], by simp [World.cell?, h], by simp [World.cell?, h], by simp [World.cell?, h], by simp [World.cell?, h]⟩

set_option maxRecDepth 100000 in
set_option maxHeartbeats 2000000 in
theorem live_any (w : World) :
    Calls Try.prog 10 #[] w fun e w' => e = .returned (.bool true) ∧ Below w.heap.size w w' := by
  have HW := hid (fun w => Where_any rule call w)
  have e0 : lookV rule call = .agg #[.string ⟨#[98]⟩, .string ⟨#[]⟩, .string ⟨#[]⟩, .bool false] := rfl
  rw [e0] at HW
  have HP1 := hid (fun w => Passes_any ⟨#[97]⟩ ⟨#[100, 101, 102, 97, 117, 108, 116]⟩ false 5 1 ⟨#[98]⟩ 0 0 0 false 0 false 4 0 1 (by decide) (by decide) w)
  have HP2 := hid (fun w => Passes_any ⟨#[97]⟩ ⟨#[100, 101, 102, 97, 117, 108, 116]⟩ false 5 1 ⟨#[98]⟩ 0 0 0 false 0 false 5 0 1 (by decide) (by decide) w)
  rw [show passF false 5 4 0 1 = true by decide] at HP1
  rw [show passF false 5 5 0 1 = false by decide] at HP2
  have HM := hid (fun (w : World) => Mine_any (some ⟨w.heap.size, 0, none⟩) 1 1 (fun _ => rule) call (w.alloc (.cells (fv rule) 25)) (by omega) (flows_one w _))
  rw [mines_one] at HM
  unfold rule call fv cv at HW HM
  go_enter Try.func10, Try.ntmps10
  have R0 : Hid ((((w.alloc (.cells #[.string ⟨#[97]⟩, .string ⟨#[100, 101, 102, 97, 117, 108, 116]⟩, .bool false, .int .i64 5, .int .u8 1, .string ⟨#[98]⟩, .int .u8 0, .int .i64 0, .int .i64 0, .bool false, .int .i64 0, .bool false] 25)).alloc (.cells #[.int .i64 0, .string ⟨#[97]⟩, .string ⟨#[109, 97, 105, 110]⟩, .string ⟨#[]⟩, .bool false, .int .i64 1, .slice none 0 0] 28))).heap[w.heap.size]? = some (.cells #[.string ⟨#[97]⟩, .string ⟨#[100, 101, 102, 97, 117, 108, 116]⟩, .bool false, .int .i64 5, .int .u8 1, .string ⟨#[98]⟩, .int .u8 0, .int .i64 0, .int .i64 0, .bool false, .int .i64 0, .bool false] 25)) := hid (heap_alloc2_old _ _ _)
  have C0 : Hid ((((w.alloc (.cells #[.string ⟨#[97]⟩, .string ⟨#[100, 101, 102, 97, 117, 108, 116]⟩, .bool false, .int .i64 5, .int .u8 1, .string ⟨#[98]⟩, .int .u8 0, .int .i64 0, .int .i64 0, .bool false, .int .i64 0, .bool false] 25)).alloc (.cells #[.int .i64 0, .string ⟨#[97]⟩, .string ⟨#[109, 97, 105, 110]⟩, .string ⟨#[]⟩, .bool false, .int .i64 1, .slice none 0 0] 28))).heap[w.heap.size + 1]? = some (.cells #[.int .i64 0, .string ⟨#[97]⟩, .string ⟨#[109, 97, 105, 110]⟩, .string ⟨#[]⟩, .bool false, .int .i64 1, .slice none 0 0] 28)) := hid (by have := heap_alloc_new (w.alloc (.cells #[.string ⟨#[97]⟩, .string ⟨#[100, 101, 102, 97, 117, 108, 116]⟩, .bool false, .int .i64 5, .int .u8 1, .string ⟨#[98]⟩, .int .u8 0, .int .i64 0, .int .i64 0, .bool false, .int .i64 0, .bool false] 25)) (.cells #[.int .i64 0, .string ⟨#[97]⟩, .string ⟨#[109, 97, 105, 110]⟩, .string ⟨#[]⟩, .bool false, .int .i64 1, .slice none 0 0] 28); rwa [World.size_alloc] at this)
  have B0 : Hid (Below w.heap.size w ((w.alloc (.cells #[.string ⟨#[97]⟩, .string ⟨#[100, 101, 102, 97, 117, 108, 116]⟩, .bool false, .int .i64 5, .int .u8 1, .string ⟨#[98]⟩, .int .u8 0, .int .i64 0, .int .i64 0, .bool false, .int .i64 0, .bool false] 25)).alloc (.cells #[.int .i64 0, .string ⟨#[97]⟩, .string ⟨#[109, 97, 105, 110]⟩, .string ⟨#[]⟩, .bool false, .int .i64 1, .slice none 0 0] 28))) := hid (((Below.refl _ w).alloc (Nat.le_refl _) _).alloc (by simp) _)
  have z0 : w.heap.size + 1 < ((w.alloc (.cells #[.string ⟨#[97]⟩, .string ⟨#[100, 101, 102, 97, 117, 108, 116]⟩, .bool false, .int .i64 5, .int .u8 1, .string ⟨#[98]⟩, .int .u8 0, .int .i64 0, .int .i64 0, .bool false, .int .i64 0, .bool false] 25)).alloc (.cells #[.int .i64 0, .string ⟨#[97]⟩, .string ⟨#[109, 97, 105, 110]⟩, .string ⟨#[]⟩, .bool false, .int .i64 1, .slice none 0 0] 28)).heap.size := by simp
  go_wp2_with fail
  refine (HW.out _).mono ?_
  rintro e w1 ⟨rfl, hb1⟩
  have R1 := hid ((hb1.block _ (by omega)).trans R0.out)
  have C1 := hid ((hb1.block _ z0).trans C0.out)
  have B1 := hid (B0.out.trans (hb1.mono B0.out.size))
  have z1 : w.heap.size + 1 < w1.heap.size := Nat.lt_of_lt_of_le z0 hb1.size
  clear hb1 R0 C0 B0 z0 HW
  obtain ⟨x0, x1, x2, x3, x4, x5, x6, x7, x8, x9, x10, x11⟩ := r_at R1.out
  go_wp2_with fail
  refine (HP1.out _).mono ?_
  rintro e w2 ⟨rfl, hb2⟩
  have R2 := hid ((hb2.block _ (by omega)).trans R1.out)
  have C2 := hid ((hb2.block _ z1).trans C1.out)
  have B2 := hid (B1.out.trans (hb2.mono B1.out.size))
  have z2 : w.heap.size + 1 < w2.heap.size := Nat.lt_of_lt_of_le z1 hb2.size
  clear x0 x1 x2 x3 x4 x5 x6 x7 x8 x9 x10 x11
  clear hb2 R1 C1 B1 z1 HP1
  obtain ⟨x0, x1, x2, x3, x4, x5, x6, x7, x8, x9, x10, x11⟩ := r_at R2.out
  go_wp2_with fail
  refine (HP2.out _).mono ?_
  rintro e w3 ⟨rfl, hb3⟩
  have R3 := hid ((hb3.block _ (by omega)).trans R2.out)
  have C3 := hid ((hb3.block _ z2).trans C2.out)
  have B3 := hid (B2.out.trans (hb3.mono B2.out.size))
  have z3 : w.heap.size + 1 < w3.heap.size := Nat.lt_of_lt_of_le z2 hb3.size
  clear x0 x1 x2 x3 x4 x5 x6 x7 x8 x9 x10 x11
  clear hb3 R2 C2 B2 z2 HP2
  obtain ⟨x0, x1, x2, x3, x4, x5, x6, x7, x8, x9, x10, x11⟩ := r_at R3.out
  obtain ⟨y0, y1, y2, y3, y4, y5, y6⟩ := c_at C3.out
  go_wp2_with fail
  refine (HM.out w3).mono ?_
  rintro e w4 ⟨⟨x, rfl, hx⟩, hb4⟩
  obtain ⟨va, vc, rfl⟩ := Wri.owns_shape hx
  have B4 := hid (B3.out.trans (((Below.refl _ w3).alloc (Nat.le_refl _) (.cells #[.string ⟨#[97]⟩, .string ⟨#[100, 101, 102, 97, 117, 108, 116]⟩, .bool false, .int .i64 5, .int .u8 1, .string ⟨#[98]⟩, .int .u8 0, .int .i64 0, .int .i64 0, .bool false, .int .i64 0, .bool false] 25)).trans (hb4.mono (by simp)) |>.mono B3.out.size))
  clear hx hb4 HM
  go_wp2_with fail
  go_ret
  exact ⟨rfl, B4.out⟩

end Go.Proofs.Ytakmfcnmcjbbgaa.RejG
