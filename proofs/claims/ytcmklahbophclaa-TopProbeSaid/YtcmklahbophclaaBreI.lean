/- Breakers: the program's own: Done, New. -/
import Derived.Test.YtcmklahbophclaaBreZ
namespace Go.Proofs.Ytcmklahbophclaa.BreI
set_option linter.unusedVariables false
open Go.ChangeShapes Go.WideShapes Go.ChangeAt Go.RowKit Base WinM WinA WinB WinC WinE WinH WinI WinK BreP BreA BreV BreU BreW BreY BreZ

set_option maxRecDepth 20000 in
set_option maxHeartbeats 4000000 in
theorem done_core (p q : Nat) (t rt z y st : Int) (nm : ByteArray) (g : Nat) (ct sl ls wd rc : Int) (f pr bad : Bool) (w : World) (Q Wx Wy : World → Prop) (k0 : w.cell? ⟨p, 0, none⟩ = some (.int .u8 st)) (k2 : w.cell? ⟨p, 2, none⟩ = some (.string nm)) (k3 : w.cell? ⟨p, 3, none⟩ = some (.int .u8 (g : Nat))) (k4 : w.cell? ⟨p, 4, none⟩ = some (.int .i64 ct)) (k5 : w.cell? ⟨p, 5, none⟩ = some (.int .i64 sl)) (k6 : w.cell? ⟨p, 6, none⟩ = some (.int .i64 ls)) (k7 : w.cell? ⟨p, 7, none⟩ = some (.int .i64 wd)) (k8 : w.cell? ⟨p, 8, none⟩ = some (.int .i64 rc)) (k11 : ∃ v, w.cell? ⟨p, 11, none⟩ = some v) (f11 : w.frozen? ⟨p, 11, none⟩ = false)
    (HR : Hid (∀ (wx : World) (g : Nat), Below w.heap.size w wx → wx.cell? ⟨g, 0, none⟩ = some (.int .i64 rt) → Calls Try.prog 39 #[ptr p, .int .i64 t, .slice (some ⟨g, 0, none⟩) 1 1] wx fun e w' => e = .returned (.int .i64 z) ∧ wx = w'))
    (HB : Hid (∀ wx : World, Calls Try.prog 40 #[.agg #[.string nm, .int .u8 (g : Nat), .int .i64 ct, .int .i64 sl, .int .i64 ls, .int .i64 wd, .int .i64 rc], .int .i64 rt, .bool f] wx fun e w' => e = .returned (.bool bad) ∧ Below wx.heap.size wx w'))
    (HW : Hid (z = 0 → ∀ wx wy : World, Below w.heap.size w wx → Below wx.heap.size (wx.setCell ⟨p, 11, none⟩ (.int .i64 t)) wy → Wx wy))
    (HWc : Hid (∀ wx : World, Wx wx → wx.cell? ⟨p, 0, none⟩ = some (.int .u8 st) ∧ wx.cell? ⟨p, 9, none⟩ = some (.pointer (some ⟨q, 0, none⟩))))
    (hr : (z == 0) = false ∧ y = z ∧ Hid (∀ wx, Below w.heap.size w wx → Q wx) ∨ z = 0 ∧ (pr = true ∧ (st == 3) = false ∧ y = 4 ∧ Hid (∀ wx, Below w.heap.size w wx → Q wx) ∨
      y = 0 ∧ (pr = true ∧ st = 3 ∧ (bad = true ∧ Hid (∀ wx, Wx wx → Calls Try.prog 41 #[ptr p, .int .i64 t] wx fun e w' => e = .returned (.tuple #[]) ∧ Q w') ∨ bad = false ∧ Hid (∀ wx, Wx wx → Calls Try.prog 30 #[ptr p] wx fun e w' => e = .returned (.tuple #[]) ∧ Q w')) ∨
        pr = false ∧ (st = 1 ∧ Hid (∀ wx, Wx wx → Calls Try.prog 42 #[.agg #[.pointer (some ⟨q, 0, none⟩)], .int .i64 t, .bool bad] wx fun e w' => e = .returned (.tuple #[]) ∧ Wy w') ∧ Hid (∀ wx, Wy wx → Calls Try.prog 43 #[ptr p, .int .i64 t] wx fun e w' => e = .returned (.tuple #[]) ∧ Q w') ∨
          (st == 1) = false ∧ Hid (∀ wx, Wx wx → Q wx))))) :
    Calls Try.prog 18 #[ptr p, .int .i64 t, .int .i64 rt, .bool f, .bool pr] w fun e w' => e = .returned (.int .i64 y) ∧ Q w' := by
  obtain ⟨v11, k11⟩ := k11
  have hp := World.block_lt_of_cell? _ _ k0
  have hB : Below w.heap.size w (w.alloc (.cells #[.int .i64 rt] 3)) := (Below.refl _ _).alloc (Nat.le_refl _) _
  have kg : (w.alloc (.cells #[.int .i64 rt] 3)).cell? ⟨w.heap.size, 0, none⟩ = some (.int .i64 rt) := by go_cell
  have j2 := kc hB k2
  have j3 := kc hB k3
  have j4 := kc hB k4
  have j5 := kc hB k5
  have j6 := kc hB k6
  have j7 := kc hB k7
  have j8 := kc hB k8
  have j0 := kc hB k0
  have j11 := kc hB k11
  have g11 : (w.alloc (.cells #[.int .i64 rt] 3)).frozen? ⟨p, 11, none⟩ = false := (hB.frozen (p := ⟨p, 11, none⟩) hp).trans f11
  have HR2 := hid (HR.out _ w.heap.size hB kg)
  have HB1 := hid hB
  have hpz : p < (w.alloc (.cells #[.int .i64 rt] 3)).heap.size := Nat.lt_of_lt_of_le hp hB.size
  clear HR k0 k2 k3 k4 k5 k6 k7 k8 k11 f11 kg hB
  go_enter Try.func18, Try.ntmps18
  go_wp2_with fail
  generalize (w.alloc (.cells #[.int .i64 rt] 3)) = w1 at *
  refine HR2.out.mono ?_
  rintro e w2 ⟨rfl, rfl⟩
  clear HR2
  rcases hr with ⟨h1, rfl, HQ⟩ | ⟨rfl, ⟨rfl, h1, rfl, HQ⟩ | ⟨rfl, hr⟩⟩
  · go_wp2_with fail
    go_ret
    exact ⟨rfl, HQ.out _ HB1.out⟩
  · go_wp2_with fail
    go_ret
    exact ⟨rfl, HQ.out _ HB1.out⟩
  rcases hr with ⟨rfl, rfl, ⟨rfl, HT⟩ | ⟨rfl, HC⟩⟩ | ⟨rfl, ⟨rfl, HN, HI⟩ | ⟨h1, HQ⟩⟩
  · go_wp2_with fail
    refine (HB.out _).mono ?_
    rintro e w3 ⟨rfl, hb⟩
    have HX := hid (HW.out (by trivial) _ _ HB1.out (by simpa using hb))
    clear hb j0 j2 j3 j4 j5 j6 j7 j8 j11 g11 hpz HB HW HB1
    go_wp2_with fail
    refine (HT.out _ HX.out).mono ?_
    rintro e w4 ⟨rfl, hq⟩
    have HQ := hid hq
    clear hq
    go_wp2_with fail
    go_ret
    exact ⟨rfl, HQ.out⟩
  · go_wp2_with fail
    refine (HB.out _).mono ?_
    rintro e w3 ⟨rfl, hb⟩
    have HX := hid (HW.out (by trivial) _ _ HB1.out (by simpa using hb))
    clear hb j0 j2 j3 j4 j5 j6 j7 j8 j11 g11 hpz HB HW HB1
    go_wp2_with fail
    refine (HC.out _ HX.out).mono ?_
    rintro e w4 ⟨rfl, hq⟩
    have HQ := hid hq
    clear hq
    go_wp2_with fail
    go_ret
    exact ⟨rfl, HQ.out⟩
  · go_wp2_with fail
    refine (HB.out _).mono ?_
    rintro e w3 ⟨rfl, hb⟩
    have HX := hid (HW.out (by trivial) _ _ HB1.out (by simpa using hb))
    clear hb j0 j2 j3 j4 j5 j6 j7 j8 j11 g11 hpz HB HW HB1
    obtain ⟨i0, i9⟩ := HWc.out _ HX.out
    go_wp2_with fail
    refine (HN.out _ HX.out).mono ?_
    rintro e w4 ⟨rfl, hy⟩
    have HY := hid hy
    clear hy i0 i9
    go_wp2_with fail
    refine (HI.out _ HY.out).mono ?_
    rintro e w5 ⟨rfl, hq⟩
    have HQ := hid hq
    clear hq
    go_wp2_with fail
    go_ret
    exact ⟨rfl, HQ.out⟩
  · go_wp2_with fail
    refine (HB.out _).mono ?_
    rintro e w3 ⟨rfl, hb⟩
    have HX := hid (HW.out (by trivial) _ _ HB1.out (by simpa using hb))
    clear hb j0 j2 j3 j4 j5 j6 j7 j8 j11 g11 hpz HB HW HB1
    obtain ⟨i0, i9⟩ := HWc.out _ HX.out
    go_wp2_with fail
    go_ret
    exact ⟨rfl, HQ.out _ HX.out⟩

set_option maxRecDepth 20000 in
set_option maxHeartbeats 2000000 in
theorem new_core (nm : ByteArray) (g : Nat) (ct sl ls wd rc z : Int) (w : World) (Q : Value → World → Prop)
    (HR : Hid (∀ wx : World, Calls Try.prog 29 #[.agg #[.string nm, .int .u8 (g : Nat), .int .i64 ct, .int .i64 sl, .int .i64 ls, .int .i64 wd, .int .i64 rc]] wx fun e w' => e = .returned (.int .i64 z) ∧ Below wx.heap.size wx w'))
    (hr : (z == 0) = false ∧ Hid (∀ wx, Below w.heap.size w wx → Q (.tuple #[.pointer none, .int .i64 z]) wx) ∨
      z = 0 ∧ Hid (∀ wx, Below w.heap.size w wx → Calls Try.prog 30 #[ptr wx.heap.size] (wx.alloc (.cells #[.int .u8 0, .int .i64 0, .string nm, .int .u8 (g : Nat), .int .i64 ct, .int .i64 sl, .int .i64 ls, .int .i64 wd, .int .i64 rc, .pointer none, .int .i64 0, .int .i64 0] 84)) fun e w' => e = .returned (.tuple #[]) ∧ Q (.tuple #[ptr wx.heap.size, .int .i64 0]) w')) :
    Calls Try.prog 10 #[.agg #[.string nm, .int .u8 (g : Nat), .int .i64 ct, .int .i64 sl, .int .i64 ls, .int .i64 wd, .int .i64 rc]] w fun e w' => ∃ v, e = .returned v ∧ Q v w' := by
  go_enter Try.func10, Try.ntmps10
  go_wp2_with fail
  have hB : Below w.heap.size w (w.alloc (.cells #[.string nm, .int .u8 (g : Nat), .int .i64 ct, .int .i64 sl, .int .i64 ls, .int .i64 wd, .int .i64 rc] 24)) := (Below.refl _ _).alloc (Nat.le_refl _) _
  have k0 : (w.alloc (.cells #[.string nm, .int .u8 (g : Nat), .int .i64 ct, .int .i64 sl, .int .i64 ls, .int .i64 wd, .int .i64 rc] 24)).cell? ⟨w.heap.size, 0, none⟩ = some (.string nm) := by go_cell
  have k1 : (w.alloc (.cells #[.string nm, .int .u8 (g : Nat), .int .i64 ct, .int .i64 sl, .int .i64 ls, .int .i64 wd, .int .i64 rc] 24)).cell? ⟨w.heap.size, 1, none⟩ = some (.int .u8 (g : Nat)) := by go_cell
  have k2 : (w.alloc (.cells #[.string nm, .int .u8 (g : Nat), .int .i64 ct, .int .i64 sl, .int .i64 ls, .int .i64 wd, .int .i64 rc] 24)).cell? ⟨w.heap.size, 2, none⟩ = some (.int .i64 ct) := by go_cell
  have k3 : (w.alloc (.cells #[.string nm, .int .u8 (g : Nat), .int .i64 ct, .int .i64 sl, .int .i64 ls, .int .i64 wd, .int .i64 rc] 24)).cell? ⟨w.heap.size, 3, none⟩ = some (.int .i64 sl) := by go_cell
  have k4 : (w.alloc (.cells #[.string nm, .int .u8 (g : Nat), .int .i64 ct, .int .i64 sl, .int .i64 ls, .int .i64 wd, .int .i64 rc] 24)).cell? ⟨w.heap.size, 4, none⟩ = some (.int .i64 ls) := by go_cell
  have k5 : (w.alloc (.cells #[.string nm, .int .u8 (g : Nat), .int .i64 ct, .int .i64 sl, .int .i64 ls, .int .i64 wd, .int .i64 rc] 24)).cell? ⟨w.heap.size, 5, none⟩ = some (.int .i64 wd) := by go_cell
  have k6 : (w.alloc (.cells #[.string nm, .int .u8 (g : Nat), .int .i64 ct, .int .i64 sl, .int .i64 ls, .int .i64 wd, .int .i64 rc] 24)).cell? ⟨w.heap.size, 6, none⟩ = some (.int .i64 rc) := by go_cell
  generalize (w.alloc (.cells #[.string nm, .int .u8 (g : Nat), .int .i64 ct, .int .i64 sl, .int .i64 ls, .int .i64 wd, .int .i64 rc] 24)) = w1 at *
  refine (HR.out _).mono ?_
  rintro e w2 ⟨rfl, hb⟩
  have j0 := kc hb k0
  have j1 := kc hb k1
  have j2 := kc hb k2
  have j3 := kc hb k3
  have j4 := kc hb k4
  have j5 := kc hb k5
  have j6 := kc hb k6
  clear k0 k1 k2 k3 k4 k5 k6
  have HB : Hid (Below w.heap.size w w2) := hid (BreU.bl hB hb)
  clear hb hB
  rcases hr with ⟨h1, HQ⟩ | ⟨rfl, HC⟩
  · go_wp2_with fail
    go_ret2
    exact ⟨_, rfl, HQ.out _ HB.out⟩
  · go_wp2_with fail
    refine (HC.out _ HB.out).mono ?_
    rintro e w4 ⟨rfl, hq⟩
    have HQ := hid hq
    clear hq
    go_wp2_with fail
    go_ret2
    exact ⟨_, rfl, HQ.out⟩

end Go.Proofs.Ytcmklahbophclaa.BreI
