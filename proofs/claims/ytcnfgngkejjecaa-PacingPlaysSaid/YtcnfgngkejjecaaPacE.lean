/- Both paces, whether or not there are any: a deed on both. -/
import Derived.Test.YtcnfgngkejjecaaPacB
import Derived.Test.YtcnfgngkejjecaaPacA
import Derived.Deep.RegionHeld3
import Derived.BigQuiet
namespace Go.Proofs.Ytcnfgngkejjecaa.PacE
set_option linter.unusedVariables false
open Go.ChangeShapes Go.WideShapes Go.ChangeAt Go.RowKit Base NumM NumA NumE WrmA Wri PacP PacM

def wO (o : Option Pc) (t n r : Int) : Int := match o with | none => 0 | some m => wA m t n r
def gO (o : Option Pc) (t n r : Int) : Bool := match o with | none => false | some m => gA m t n r
def eO (o : Option Pc) (t n r : Int) : Int := match o with | none => 1 | some m => refW m t n r
def cO (o : Option Pc) : Int := match o with | none => 0 | some m => m.count
def nO (o : Option Pc) : Int := match o with | none => 0 | some m => m.next
def sO (o : Option Pc) : Bool := match o with | none => false | some m => m.some
def stO (o : Option Pc) (t n r : Int) : Option Pc := match o with | none => none | some m => some (stepA m t n r)
def Is (v : Value) : Nat → Prop := fun k => v = ptr k
theorem ptr_inj {p k : Nat} (h : ptr p = ptr k) : k = p := by simp at h; exact h.symm
theorem Is_ptr (p : Nat) {w w' : World} (h : Wr (fun k => k = p) w w') : Wr (Is (ptr p)) w w' := h.mono fun k e => by subst e; rfl

def MIs (w : World) (v : Value) : Option Pc → Prop
  | none => v = .pointer none
  | some m => m.Ok ∧ ∃ p, v = ptr p ∧ At w p m
theorem MIs.wr {R : Nat → Prop} {w w' : World} {v : Value} {o : Option Pc} (h : MIs w v o) (hb : Wr R w w') (hr : ∀ k, v = ptr k → ¬ R k) : MIs w' v o := by
  cases o with
  | none => exact h
  | some m => obtain ⟨h1, p, rfl, h2⟩ := h; exact ⟨h1, p, rfl, At.wr h2 hb (hr p rfl)⟩
theorem MIs.below {w w' : World} {v : Value} {o : Option Pc} (h : MIs w v o) (hb : Below w.heap.size w w') : MIs w' v o := h.wr (Wr.ofBelow (R := fun _ => False) hb) (fun _ _ h => h)
theorem look_o (v : Value) (o : Option Pc) (t n : Int) (w : World) (h : MIs w v o) :
    Calls Try.prog 17 #[v, .int .i64 t, .int .i64 n] w fun e w' => e = .returned (.tuple #[.int .i64 (wO o t n (cO o)), .bool (gO o t n (cO o)), .int .i64 (eO o t n (cO o))]) ∧ MIs w' v o ∧ Wr (Is v) w w' := by
  cases o with
  | none => obtain rfl : v = .pointer none := h; exact (PacM.look_nil t n w).mono fun e w' h => ⟨h.1, rfl, Wr.ofBelow h.2⟩
  | some m => obtain ⟨h1, p, rfl, h2⟩ := h; exact (PacM.Look_any p m h1 t n w h2).mono fun e w' h => ⟨h.1, ⟨h1, p, rfl, h2.below h.2 h2.lt⟩, Wr.ofBelow h.2⟩
theorem at_o (v : Value) (o : Option Pc) (t n r : Int) (w : World) (h : MIs w v o) :
    Calls Try.prog 18 #[v, .int .i64 t, .int .i64 n, .int .i64 r] w fun e w' => e = .returned (.tuple #[.int .i64 (wO o t n r), .bool (gO o t n r), .int .i64 (eO o t n r)]) ∧ MIs w' v (stO o t n r) ∧ Wr (Is v) w w' := by
  cases o with
  | none => obtain rfl : v = .pointer none := h; exact (PacM.at_nil t n r w).mono fun e w' h => ⟨h.1, rfl, Wr.ofBelow h.2⟩
  | some m => obtain ⟨h1, p, rfl, h2⟩ := h; exact (PacM.At_any p m h1 t n r w h2).mono fun e w' h => ⟨h.1, ⟨stepA_ok h1 t n r, p, rfl, h.2.1⟩, Is_ptr p h.2.2⟩
theorem go_o (v : Value) (o : Option Pc) (t n : Int) (w : World) (h : MIs w v o) :
    Calls Try.prog 15 #[v, .int .i64 t, .int .i64 n] w fun e w' => e = .returned (.tuple #[.int .i64 (wO o t n (cO o)), .bool (gO o t n (cO o)), .int .i64 (eO o t n (cO o))]) ∧ MIs w' v (stO o t n (cO o)) ∧ Wr (Is v) w w' := by
  cases o with
  | none => obtain rfl : v = .pointer none := h; exact (PacM.go_nil t n w).mono fun e w' h => ⟨h.1, rfl, Wr.ofBelow h.2⟩
  | some m => obtain ⟨h1, p, rfl, h2⟩ := h; exact (PacM.Go_any p m h1 t n w h2).mono fun e w' h => ⟨h.1, ⟨stepA_ok h1 t n m.count, p, rfl, h.2.1⟩, Is_ptr p h.2.2⟩
theorem next_o (v : Value) (o : Option Pc) (w : World) (h : MIs w v o) :
    Calls Try.prog 16 #[v] w fun e w' => e = .returned (.tuple #[.int .i64 (nO o), .bool (sO o)]) ∧ Below w.heap.size w w' := by
  cases o with
  | none => obtain rfl : v = .pointer none := h; exact PacM.next_nil w
  | some m => obtain ⟨h1, p, rfl, h2⟩ := h; exact PacM.Next_any p m h1 w h2
theorem fork_o (v : Value) (o : Option Pc) (w : World) (h : MIs w v o) :
    Calls Try.prog 10 #[v] w fun e w' => ∃ v', e = .returned v' ∧ MIs w' v' o ∧ Below w.heap.size w w' ∧ ∀ k, v' = ptr k → w.heap.size ≤ k := by
  cases o with
  | none => obtain rfl : v = .pointer none := h; exact (PacM.fork_nil w).mono fun e w' h => ⟨_, h.1, rfl, h.2, fun k e => by simp at e⟩
  | some m => obtain ⟨h1, p, rfl, h2⟩ := h; exact (PacM.Fork_any p m w h2).mono fun e w' h => ⟨_, h.1, ⟨h1, _, rfl, h.2.1⟩, h.2.2, fun k e => by have := ptr_inj e; omega⟩

def RIs (w : World) (v : Value) : Option Pc → Prop
  | none => v = .pointer none
  | some m => m.Ok ∧ ∃ p, v = ptr p ∧ PacA.RAt w p m
theorem RIs.wr {R : Nat → Prop} {w w' : World} {v : Value} {o : Option Pc} (h : RIs w v o) (hb : Wr R w w') (hr : ∀ k, v = ptr k → ¬ R k) : RIs w' v o := by
  cases o with
  | none => exact h
  | some m => obtain ⟨h1, p, rfl, h2⟩ := h; exact ⟨h1, p, rfl, PacA.RAt.wr h2 hb (hr p rfl)⟩
theorem RIs.below {w w' : World} {v : Value} {o : Option Pc} (h : RIs w v o) (hb : Below w.heap.size w w') : RIs w' v o := h.wr (Wr.ofBelow (R := fun _ => False) hb) (fun _ _ h => h)
theorem Rlook_o (v : Value) (o : Option Pc) (t n : Int) (w : World) (h : RIs w v o) :
    Calls Try.prog 23 #[v, .int .i64 t, .int .i64 n] w fun e w' => e = .returned (.tuple #[.int .i64 (wO o t n (cO o)), .bool (gO o t n (cO o)), .int .i64 (eO o t n (cO o))]) ∧ RIs w' v o ∧ Wr (Is v) w w' := by
  cases o with
  | none => obtain rfl : v = .pointer none := h; exact (PacA.look_nil t n w).mono fun e w' h => ⟨h.1, rfl, Wr.ofBelow h.2⟩
  | some m => obtain ⟨h1, p, rfl, h2⟩ := h; exact (PacA.Look_any p m h1 t n w h2).mono fun e w' h => ⟨h.1, ⟨h1, p, rfl, h2.below h.2 h2.lt⟩, Wr.ofBelow h.2⟩
theorem Rat_o (v : Value) (o : Option Pc) (t n r : Int) (w : World) (h : RIs w v o) :
    Calls Try.prog 25 #[v, .int .i64 t, .int .i64 n, .int .i64 r] w fun e w' => e = .returned (.tuple #[.int .i64 (wO o t n r), .bool (gO o t n r), .int .i64 (eO o t n r)]) ∧ RIs w' v (stO o t n r) ∧ Wr (Is v) w w' := by
  cases o with
  | none => obtain rfl : v = .pointer none := h; exact (PacA.at_nil t n r w).mono fun e w' h => ⟨h.1, rfl, Wr.ofBelow h.2⟩
  | some m => obtain ⟨h1, p, rfl, h2⟩ := h; exact (PacA.At_any p m h1 t n r w h2).mono fun e w' h => ⟨h.1, ⟨stepA_ok h1 t n r, p, rfl, h.2.1⟩, Is_ptr p h.2.2⟩
theorem Rgo_o (v : Value) (o : Option Pc) (t n : Int) (w : World) (h : RIs w v o) :
    Calls Try.prog 24 #[v, .int .i64 t, .int .i64 n] w fun e w' => e = .returned (.tuple #[.int .i64 (wO o t n (cO o)), .bool (gO o t n (cO o)), .int .i64 (eO o t n (cO o))]) ∧ RIs w' v (stO o t n (cO o)) ∧ Wr (Is v) w w' := by
  cases o with
  | none => obtain rfl : v = .pointer none := h; exact (PacA.go_nil t n w).mono fun e w' h => ⟨h.1, rfl, Wr.ofBelow h.2⟩
  | some m => obtain ⟨h1, p, rfl, h2⟩ := h; exact (PacA.Go_any p m h1 t n w h2).mono fun e w' h => ⟨h.1, ⟨stepA_ok h1 t n m.count, p, rfl, h.2.1⟩, Is_ptr p h.2.2⟩
theorem Rnext_o (v : Value) (o : Option Pc) (w : World) (h : RIs w v o) :
    Calls Try.prog 26 #[v] w fun e w' => e = .returned (.tuple #[.int .i64 (nO o), .bool (sO o)]) ∧ Below w.heap.size w w' := by
  cases o with
  | none => obtain rfl : v = .pointer none := h; exact PacA.next_nil w
  | some m => obtain ⟨h1, p, rfl, h2⟩ := h; exact PacA.Next_any p m h1 w h2
theorem Rfork_o (v : Value) (o : Option Pc) (w : World) (h : RIs w v o) :
    Calls Try.prog 11 #[v] w fun e w' => ∃ v', e = .returned v' ∧ RIs w' v' o ∧ Below w.heap.size w w' ∧ ∀ k, v' = ptr k → w.heap.size ≤ k := by
  cases o with
  | none => obtain rfl : v = .pointer none := h; exact (PacA.fork_nil w).mono fun e w' h => ⟨_, h.1, rfl, h.2, fun k e => by simp at e⟩
  | some m => obtain ⟨h1, p, rfl, h2⟩ := h; exact (PacA.Fork_any p m w h2).mono fun e w' h => ⟨_, h.1, ⟨h1, _, rfl, h.2.1⟩, h.2.2, fun k e => by have := ptr_inj e; omega⟩

theorem ne_pr {w : World} {p q : Nat} {m m' : Pc} (h : At w p m) (h' : PacA.RAt w q m') : p ≠ q := by
  intro e
  subst e
  unfold At at h
  unfold PacA.RAt at h'
  rw [h] at h'
  simp at h'
theorem apart {w : World} {v v' : Value} {o o' : Option Pc} (h : MIs w v o) (h' : RIs w v' o') : ∀ k, v = ptr k → v' ≠ ptr k := by
  intro k e e'
  cases o with
  | none => rw [show v = .pointer none from h] at e; simp at e
  | some m =>
    cases o' with
    | none => rw [show v' = .pointer none from h'] at e'; simp at e'
    | some m' =>
      obtain ⟨-, p, h1, h2⟩ := h
      obtain ⟨-, q, h3, h4⟩ := h'
      rw [h1] at e
      rw [h3] at e'
      exact ne_pr h2 h4 ((ptr_inj e).symm.trans (ptr_inj e'))

def both (v v' : Value) : Nat → Prop := fun k => v = ptr k ∨ v' = ptr k
theorem wrc {R : Nat → Prop} {w w' : World} {b o : Nat} {v : Value} (h : Wr R w w') (hr : ¬ R b) (hc : w.cell? ⟨b, o, none⟩ = some v) : w'.cell? ⟨b, o, none⟩ = some v := by
  have hl := World.block_lt_of_cell? _ _ hc
  rw [← hc]
  unfold World.cell?
  rw [h.block b hl hr]
theorem MIs.lt {w : World} {v : Value} {o : Option Pc} (h : MIs w v o) : ∀ k, v = ptr k → k < w.heap.size := by
  intro k e
  cases o with
  | none => rw [show v = .pointer none from h] at e; simp at e
  | some m => obtain ⟨-, p, h1, h2⟩ := h; rw [h1] at e; have := ptr_inj e; have := h2.lt; omega
theorem RIs.lt {w : World} {v : Value} {o : Option Pc} (h : RIs w v o) : ∀ k, v = ptr k → k < w.heap.size := by
  intro k e
  cases o with
  | none => rw [show v = .pointer none from h] at e; simp at e
  | some m => obtain ⟨-, p, h1, h2⟩ := h; rw [h1] at e; have := ptr_inj e; have := h2.lt; omega

/-- what a deed leaves -/
def stepD (o : Option Pc) (kd t n r : Int) : Option Pc := if kd = 0 then o else if kd = 1 then stO o t n (cO o) else stO o t n r

set_option maxRecDepth 100000 in
set_option maxHeartbeats 4000000 in
theorem do_0 (v v' : Value) (o : Option Pc) (kd t n r : Int) (e0 : (kd == 0) = true) (w : World) (hp : MIs w v o) (hq : RIs w v' o) :
    Calls Try.prog 14 #[v, v', .agg #[.int .i64 kd, .int .i64 t, .int .i64 n, .int .i64 r]] w fun e w' => e = .returned (.bool true) ∧ MIs w' v o ∧ RIs w' v' o ∧ Wr (both v v') w w' := by
  have hB0 : Below w.heap.size w (w.alloc (.cells #[.int .i64 kd, .int .i64 t, .int .i64 n, .int .i64 r] 36)) := (Below.refl _ _).alloc (Nat.le_refl _) _
  have HAP := hid (apart hp hq)
  have HN := hid (show ∀ k, v = ptr k → k ≠ w.heap.size from fun k e h => by have := hp.lt k e; omega)
  have HN' := hid (show ∀ k, v' = ptr k → k ≠ w.heap.size from fun k e h => by have := hq.lt k e; omega)
  have x0 : (w.alloc (.cells #[.int .i64 kd, .int .i64 t, .int .i64 n, .int .i64 r] 36)).cell? ⟨w.heap.size, 0, none⟩ = some (.int .i64 kd) := by go_cell
  have x1 : (w.alloc (.cells #[.int .i64 kd, .int .i64 t, .int .i64 n, .int .i64 r] 36)).cell? ⟨w.heap.size, 1, none⟩ = some (.int .i64 t) := by go_cell
  have x2 : (w.alloc (.cells #[.int .i64 kd, .int .i64 t, .int .i64 n, .int .i64 r] 36)).cell? ⟨w.heap.size, 2, none⟩ = some (.int .i64 n) := by go_cell
  have x3 : (w.alloc (.cells #[.int .i64 kd, .int .i64 t, .int .i64 n, .int .i64 r] 36)).cell? ⟨w.heap.size, 3, none⟩ = some (.int .i64 r) := by go_cell
  go_enter Try.func14, Try.ntmps14
  go_upto_region 1 with fail
  generalize (w.alloc (.cells #[.int .i64 kd, .int .i64 t, .int .i64 n, .int .i64 r] 36)) = wb at *
  have HPB := hid (hp.below hB0)
  have HQB := hid (hq.below hB0)
  have HB0 := hid (Wr.ofBelow (R := both v v') hB0)
  clear hp hq hB0
  go_wp2_with fail
  refine (look_o v o t n wb HPB.out).mono ?_
  rintro e w1 ⟨rfl, ha, hw⟩
  have HP1 := hid ha
  have HW1 := hid (HB0.out.trans (hw.mono (fun k h => Or.inl h)))
  have HQ1 := hid (HQB.out.wr hw (fun k e h => HAP.out k h e))
  have x0 : w1.cell? ⟨w.heap.size, 0, none⟩ = some (.int .i64 kd) := wrc hw (fun h => HN.out _ h rfl) (by assumption)
  have x1 : w1.cell? ⟨w.heap.size, 1, none⟩ = some (.int .i64 t) := wrc hw (fun h => HN.out _ h rfl) (by assumption)
  have x2 : w1.cell? ⟨w.heap.size, 2, none⟩ = some (.int .i64 n) := wrc hw (fun h => HN.out _ h rfl) (by assumption)
  have x3 : w1.cell? ⟨w.heap.size, 3, none⟩ = some (.int .i64 r) := wrc hw (fun h => HN.out _ h rfl) (by assumption)
  clear ha hw HPB HQB HB0
  go_wp2_with fail
  refine (Rlook_o v' o t n w1 HQ1.out).mono ?_
  rintro e w2 ⟨rfl, ha, hw⟩
  have HQ2 := hid ha
  have HW2 := hid (HW1.out.trans (hw.mono (fun k h => Or.inr h)))
  have HP2 := hid (HP1.out.wr hw (fun k e h => HAP.out k e h))
  have x0 : w2.cell? ⟨w.heap.size, 0, none⟩ = some (.int .i64 kd) := wrc hw (fun h => HN'.out _ h rfl) (by assumption)
  have x1 : w2.cell? ⟨w.heap.size, 1, none⟩ = some (.int .i64 t) := wrc hw (fun h => HN'.out _ h rfl) (by assumption)
  have x2 : w2.cell? ⟨w.heap.size, 2, none⟩ = some (.int .i64 n) := wrc hw (fun h => HN'.out _ h rfl) (by assumption)
  have x3 : w2.cell? ⟨w.heap.size, 3, none⟩ = some (.int .i64 r) := wrc hw (fun h => HN'.out _ h rfl) (by assumption)
  clear ha hw HP1 HQ1 HW1
  generalize wO o t n (cO o) = xa at *
  generalize gO o t n (cO o) = xg at *
  generalize eO o t n (cO o) = xe at *
  have z1 : (xa == xa) = true := by simp
  have z2 : (xg == xg) = true := by simp
  have z3 : (xe == xe) = true := by simp
  go_wp2_with fail
  refine (next_o v o w2 HP2.out).mono ?_
  rintro e w3 ⟨rfl, hb⟩
  have HP3 := hid (HP2.out.below hb)
  have HQ3 := hid (HQ2.out.below hb)
  have HW3 := hid (HW2.out.trans (Wr.ofBelow hb))
  clear hb HP2 HQ2 HW2 z1 z2 z3
  go_wp2_with fail
  refine (Rnext_o v' o w3 HQ3.out).mono ?_
  rintro e w4 ⟨rfl, hb⟩
  have HE := hid (And.intro (HP3.out.below hb) (And.intro (HQ3.out.below hb) (HW3.out.trans (Wr.ofBelow hb))))
  clear hb HP3 HQ3 HW3
  generalize nO o = ya at *
  generalize sO o = yg at *
  have z1 : (ya == ya) = true := by simp
  have z2 : (yg == yg) = true := by simp
  go_wp2_with fail
  go_ret
  exact ⟨rfl, HE.out⟩

set_option maxRecDepth 100000 in
set_option maxHeartbeats 4000000 in
theorem do_1 (v v' : Value) (o : Option Pc) (kd t n r : Int) (e0 : (kd == 0) = false) (e1 : (kd == 1) = true) (w : World) (hp : MIs w v o) (hq : RIs w v' o) :
    Calls Try.prog 14 #[v, v', .agg #[.int .i64 kd, .int .i64 t, .int .i64 n, .int .i64 r]] w fun e w' => e = .returned (.bool true) ∧ MIs w' v (stO o t n (cO o)) ∧ RIs w' v' (stO o t n (cO o)) ∧ Wr (both v v') w w' := by
  have hB0 : Below w.heap.size w (w.alloc (.cells #[.int .i64 kd, .int .i64 t, .int .i64 n, .int .i64 r] 36)) := (Below.refl _ _).alloc (Nat.le_refl _) _
  have HAP := hid (apart hp hq)
  have HN := hid (show ∀ k, v = ptr k → k ≠ w.heap.size from fun k e h => by have := hp.lt k e; omega)
  have HN' := hid (show ∀ k, v' = ptr k → k ≠ w.heap.size from fun k e h => by have := hq.lt k e; omega)
  have x0 : (w.alloc (.cells #[.int .i64 kd, .int .i64 t, .int .i64 n, .int .i64 r] 36)).cell? ⟨w.heap.size, 0, none⟩ = some (.int .i64 kd) := by go_cell
  have x1 : (w.alloc (.cells #[.int .i64 kd, .int .i64 t, .int .i64 n, .int .i64 r] 36)).cell? ⟨w.heap.size, 1, none⟩ = some (.int .i64 t) := by go_cell
  have x2 : (w.alloc (.cells #[.int .i64 kd, .int .i64 t, .int .i64 n, .int .i64 r] 36)).cell? ⟨w.heap.size, 2, none⟩ = some (.int .i64 n) := by go_cell
  have x3 : (w.alloc (.cells #[.int .i64 kd, .int .i64 t, .int .i64 n, .int .i64 r] 36)).cell? ⟨w.heap.size, 3, none⟩ = some (.int .i64 r) := by go_cell
  go_enter Try.func14, Try.ntmps14
  go_upto_region 1 with fail
  generalize (w.alloc (.cells #[.int .i64 kd, .int .i64 t, .int .i64 n, .int .i64 r] 36)) = wb at *
  have HPB := hid (hp.below hB0)
  have HQB := hid (hq.below hB0)
  have HB0 := hid (Wr.ofBelow (R := both v v') hB0)
  clear hp hq hB0
  go_wp2_with fail
  refine (go_o v o t n wb HPB.out).mono ?_
  rintro e w1 ⟨rfl, ha, hw⟩
  have HP1 := hid ha
  have HW1 := hid (HB0.out.trans (hw.mono (fun k h => Or.inl h)))
  have HQ1 := hid (HQB.out.wr hw (fun k e h => HAP.out k h e))
  have x0 : w1.cell? ⟨w.heap.size, 0, none⟩ = some (.int .i64 kd) := wrc hw (fun h => HN.out _ h rfl) (by assumption)
  have x1 : w1.cell? ⟨w.heap.size, 1, none⟩ = some (.int .i64 t) := wrc hw (fun h => HN.out _ h rfl) (by assumption)
  have x2 : w1.cell? ⟨w.heap.size, 2, none⟩ = some (.int .i64 n) := wrc hw (fun h => HN.out _ h rfl) (by assumption)
  have x3 : w1.cell? ⟨w.heap.size, 3, none⟩ = some (.int .i64 r) := wrc hw (fun h => HN.out _ h rfl) (by assumption)
  clear ha hw HPB HQB HB0
  go_wp2_with fail
  refine (Rgo_o v' o t n w1 HQ1.out).mono ?_
  rintro e w2 ⟨rfl, ha, hw⟩
  have HQ2 := hid ha
  have HW2 := hid (HW1.out.trans (hw.mono (fun k h => Or.inr h)))
  have HP2 := hid (HP1.out.wr hw (fun k e h => HAP.out k e h))
  have x0 : w2.cell? ⟨w.heap.size, 0, none⟩ = some (.int .i64 kd) := wrc hw (fun h => HN'.out _ h rfl) (by assumption)
  have x1 : w2.cell? ⟨w.heap.size, 1, none⟩ = some (.int .i64 t) := wrc hw (fun h => HN'.out _ h rfl) (by assumption)
  have x2 : w2.cell? ⟨w.heap.size, 2, none⟩ = some (.int .i64 n) := wrc hw (fun h => HN'.out _ h rfl) (by assumption)
  have x3 : w2.cell? ⟨w.heap.size, 3, none⟩ = some (.int .i64 r) := wrc hw (fun h => HN'.out _ h rfl) (by assumption)
  clear ha hw HP1 HQ1 HW1
  have HO2 := hid (rfl : (stO o t n (cO o)) = (stO o t n (cO o)))
  clear HO2
  generalize wO o t n (cO o) = xa at *
  generalize gO o t n (cO o) = xg at *
  generalize eO o t n (cO o) = xe at *
  have z1 : (xa == xa) = true := by simp
  have z2 : (xg == xg) = true := by simp
  have z3 : (xe == xe) = true := by simp
  go_wp2_with fail
  refine (next_o v (stO o t n (cO o)) w2 HP2.out).mono ?_
  rintro e w3 ⟨rfl, hb⟩
  have HP3 := hid (HP2.out.below hb)
  have HQ3 := hid (HQ2.out.below hb)
  have HW3 := hid (HW2.out.trans (Wr.ofBelow hb))
  clear hb HP2 HQ2 HW2 z1 z2 z3
  go_wp2_with fail
  refine (Rnext_o v' (stO o t n (cO o)) w3 HQ3.out).mono ?_
  rintro e w4 ⟨rfl, hb⟩
  have HE := hid (And.intro (HP3.out.below hb) (And.intro (HQ3.out.below hb) (HW3.out.trans (Wr.ofBelow hb))))
  clear hb HP3 HQ3 HW3
  generalize nO (stO o t n (cO o)) = ya at *
  generalize sO (stO o t n (cO o)) = yg at *
  have z1 : (ya == ya) = true := by simp
  have z2 : (yg == yg) = true := by simp
  go_wp2_with fail
  go_ret
  exact ⟨rfl, HE.out⟩

set_option maxRecDepth 100000 in
set_option maxHeartbeats 4000000 in
theorem do_2 (v v' : Value) (o : Option Pc) (kd t n r : Int) (e0 : (kd == 0) = false) (e1 : (kd == 1) = false) (w : World) (hp : MIs w v o) (hq : RIs w v' o) :
    Calls Try.prog 14 #[v, v', .agg #[.int .i64 kd, .int .i64 t, .int .i64 n, .int .i64 r]] w fun e w' => e = .returned (.bool true) ∧ MIs w' v (stO o t n r) ∧ RIs w' v' (stO o t n r) ∧ Wr (both v v') w w' := by
  have hB0 : Below w.heap.size w (w.alloc (.cells #[.int .i64 kd, .int .i64 t, .int .i64 n, .int .i64 r] 36)) := (Below.refl _ _).alloc (Nat.le_refl _) _
  have HAP := hid (apart hp hq)
  have HN := hid (show ∀ k, v = ptr k → k ≠ w.heap.size from fun k e h => by have := hp.lt k e; omega)
  have HN' := hid (show ∀ k, v' = ptr k → k ≠ w.heap.size from fun k e h => by have := hq.lt k e; omega)
  have x0 : (w.alloc (.cells #[.int .i64 kd, .int .i64 t, .int .i64 n, .int .i64 r] 36)).cell? ⟨w.heap.size, 0, none⟩ = some (.int .i64 kd) := by go_cell
  have x1 : (w.alloc (.cells #[.int .i64 kd, .int .i64 t, .int .i64 n, .int .i64 r] 36)).cell? ⟨w.heap.size, 1, none⟩ = some (.int .i64 t) := by go_cell
  have x2 : (w.alloc (.cells #[.int .i64 kd, .int .i64 t, .int .i64 n, .int .i64 r] 36)).cell? ⟨w.heap.size, 2, none⟩ = some (.int .i64 n) := by go_cell
  have x3 : (w.alloc (.cells #[.int .i64 kd, .int .i64 t, .int .i64 n, .int .i64 r] 36)).cell? ⟨w.heap.size, 3, none⟩ = some (.int .i64 r) := by go_cell
  go_enter Try.func14, Try.ntmps14
  go_upto_region 1 with fail
  generalize (w.alloc (.cells #[.int .i64 kd, .int .i64 t, .int .i64 n, .int .i64 r] 36)) = wb at *
  have HPB := hid (hp.below hB0)
  have HQB := hid (hq.below hB0)
  have HB0 := hid (Wr.ofBelow (R := both v v') hB0)
  clear hp hq hB0
  go_wp2_with fail
  refine (at_o v o t n r wb HPB.out).mono ?_
  rintro e w1 ⟨rfl, ha, hw⟩
  have HP1 := hid ha
  have HW1 := hid (HB0.out.trans (hw.mono (fun k h => Or.inl h)))
  have HQ1 := hid (HQB.out.wr hw (fun k e h => HAP.out k h e))
  have x0 : w1.cell? ⟨w.heap.size, 0, none⟩ = some (.int .i64 kd) := wrc hw (fun h => HN.out _ h rfl) (by assumption)
  have x1 : w1.cell? ⟨w.heap.size, 1, none⟩ = some (.int .i64 t) := wrc hw (fun h => HN.out _ h rfl) (by assumption)
  have x2 : w1.cell? ⟨w.heap.size, 2, none⟩ = some (.int .i64 n) := wrc hw (fun h => HN.out _ h rfl) (by assumption)
  have x3 : w1.cell? ⟨w.heap.size, 3, none⟩ = some (.int .i64 r) := wrc hw (fun h => HN.out _ h rfl) (by assumption)
  clear ha hw HPB HQB HB0
  go_wp2_with fail
  refine (Rat_o v' o t n r w1 HQ1.out).mono ?_
  rintro e w2 ⟨rfl, ha, hw⟩
  have HQ2 := hid ha
  have HW2 := hid (HW1.out.trans (hw.mono (fun k h => Or.inr h)))
  have HP2 := hid (HP1.out.wr hw (fun k e h => HAP.out k e h))
  have x0 : w2.cell? ⟨w.heap.size, 0, none⟩ = some (.int .i64 kd) := wrc hw (fun h => HN'.out _ h rfl) (by assumption)
  have x1 : w2.cell? ⟨w.heap.size, 1, none⟩ = some (.int .i64 t) := wrc hw (fun h => HN'.out _ h rfl) (by assumption)
  have x2 : w2.cell? ⟨w.heap.size, 2, none⟩ = some (.int .i64 n) := wrc hw (fun h => HN'.out _ h rfl) (by assumption)
  have x3 : w2.cell? ⟨w.heap.size, 3, none⟩ = some (.int .i64 r) := wrc hw (fun h => HN'.out _ h rfl) (by assumption)
  clear ha hw HP1 HQ1 HW1
  have HO2 := hid (rfl : (stO o t n r) = (stO o t n r))
  clear HO2
  generalize wO o t n r = xa at *
  generalize gO o t n r = xg at *
  generalize eO o t n r = xe at *
  have z1 : (xa == xa) = true := by simp
  have z2 : (xg == xg) = true := by simp
  have z3 : (xe == xe) = true := by simp
  go_wp2_with fail
  refine (next_o v (stO o t n r) w2 HP2.out).mono ?_
  rintro e w3 ⟨rfl, hb⟩
  have HP3 := hid (HP2.out.below hb)
  have HQ3 := hid (HQ2.out.below hb)
  have HW3 := hid (HW2.out.trans (Wr.ofBelow hb))
  clear hb HP2 HQ2 HW2 z1 z2 z3
  go_wp2_with fail
  refine (Rnext_o v' (stO o t n r) w3 HQ3.out).mono ?_
  rintro e w4 ⟨rfl, hb⟩
  have HE := hid (And.intro (HP3.out.below hb) (And.intro (HQ3.out.below hb) (HW3.out.trans (Wr.ofBelow hb))))
  clear hb HP3 HQ3 HW3
  generalize nO (stO o t n r) = ya at *
  generalize sO (stO o t n r) = yg at *
  have z1 : (ya == ya) = true := by simp
  have z2 : (yg == yg) = true := by simp
  go_wp2_with fail
  go_ret
  exact ⟨rfl, HE.out⟩

theorem do_any (v v' : Value) (o : Option Pc) (kd t n r : Int) (w : World) (hp : MIs w v o) (hq : RIs w v' o) :
    Calls Try.prog 14 #[v, v', .agg #[.int .i64 kd, .int .i64 t, .int .i64 n, .int .i64 r]] w fun e w' => e = .returned (.bool true) ∧ MIs w' v (stepD o kd t n r) ∧ RIs w' v' (stepD o kd t n r) ∧ Wr (both v v') w w' := by
  unfold stepD
  by_cases h0 : kd = 0
  · rw [if_pos h0]; exact do_0 v v' o kd t n r (by simpa using h0) w hp hq
  · rw [if_neg h0]
    by_cases h1 : kd = 1
    · rw [if_pos h1]; exact do_1 v v' o kd t n r (by simpa using h0) (by simpa using h1) w hp hq
    · rw [if_neg h1]; exact do_2 v v' o kd t n r (by simpa using h0) (by simpa using h1) w hp hq

end Go.Proofs.Ytcnfgngkejjecaa.PacE
