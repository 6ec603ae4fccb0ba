/- Breakers: what must be whatever is asked; BreakerNone, whatever the breaker is made of. -/
import Derived.Test.YtcmklahbophclaaBreB
import Derived.Deep.RegionHeld3
namespace Go.Proofs.Ytcmklahbophclaa.BreL
set_option linter.unusedVariables false
open Go.ChangeShapes Go.WideShapes Go.ChangeAt Go.RowKit Base WinM WinE BreP BreA BreB

theorem bl {w w1 w2 : World} (h : Below w.heap.size w w1) (h2 : Below w1.heap.size w1 w2) : Below w.heap.size w w2 := h.trans (h2.mono h.size)
theorem kc {w1 w2 : World} {p o : Nat} {v : Value} (h2 : Below w1.heap.size w1 w2) (h : w1.cell? ⟨p, o, none⟩ = some v) : w2.cell? ⟨p, o, none⟩ = some v :=
  (h2.cell (p := ⟨p, o, none⟩) (World.block_lt_of_cell? _ _ h)).trans h

def liveR : Rule := ⟨⟨#[97]⟩, 1, 500, 0, 2, 1000000, 1000000⟩
def b0 : Bk := fresh liveR
def b1 : Bk := doneB b0 1 0 true false
def b2 : Bk := doneB b1 2 0 true false
def b3 : Bk := enterB b2 1000002
def b4 : Bk := enterB b3 1000003
def b5 : Bk := doneB b4 1000004 0 false true
theorem l0 : refD b0 1 0 false = 0 ∧ b1.n ≤ 10000000000000 := by decide
theorem l1 : refD b1 2 0 false = 0 ∧ b2.n ≤ 10000000000000 := by decide
theorem l2 : ((if b2.st = 1 then 0 else b2.til : Nat) : Int) = 1000002 ∧ decide (b2.st ≠ 1) = true ∧ goesB b2 1000001 = false ∧ refT b2 1000001 0 = 0 := by decide
theorem l3 : goesB b2 1000002 = true ∧ (goesB b2 1000002 && decide (b2.st = 2)) = true ∧ refT b2 1000002 0 = 0 := by decide
theorem l4 : goesB b3 1000003 = false ∧ (goesB b3 1000003 && decide (b3.st = 2)) = false ∧ refT b3 1000003 0 = 0 := by decide
theorem l5 : refD b4 1000004 0 true = 0 ∧ b5.n ≤ 10000000000000 ∧ ((b5.st : Nat) : Int) = 1 ∧ ((b5.trips : Nat) : Int) = 1 := by decide

theorem done_my {I : Inv} {refR : Rule → Int} (A : Api0 I refR) {w wx : World} {p : Nat} {B B' : Bk} (t rt : Int) (f pr : Bool) (hB : doneB B t rt f pr = B') (hz : refD B t rt pr = 0) (hn : B'.n ≤ 10000000000000) (h : My I w wx p B) :
    Calls Try.prog 18 #[ptr p, .int .i64 t, .int .i64 rt, .bool f, .bool pr] wx fun e w' => e = .returned (.int .i64 0) ∧ My I w w' p B' := by
  subst hB
  obtain ⟨H, a, b, c⟩ := h
  rw [← hz]
  exact (A.done_ t rt f pr a hn).mono fun e w' x => ⟨x.1, moved_my b c x.2⟩
theorem enter_my {I : Inv} {refR : Rule → Int} (A : Api0 I refR) {w wx : World} {p : Nat} {B B' : Bk} (t : Int) (x y : Bool) (hB : enterB B t = B') (hx : goesB B t = x) (hy : (goesB B t && decide (B.st = 2)) = y) (hz : refT B t 0 = 0) (h : My I w wx p B) :
    Calls Try.prog 17 #[ptr p, .int .i64 t] wx fun e w' => e = .returned (.tuple #[.bool x, .bool y, .int .i64 0]) ∧ My I w w' p B' := by
  subst hB hx hy
  obtain ⟨H, a, b, c⟩ := h
  rw [← hz]
  exact (A.enter_ t a).mono fun e w' x => ⟨x.1, moved_my b c x.2⟩
theorem below_my {I : Inv} {refR : Rule → Int} (A : Api0 I refR) {w wx wy : World} {p : Nat} {B : Bk} (h : My I w wx p B) (hb : Below wx.heap.size wx wy) : My I w wy p B := by
  obtain ⟨H, h1, h2, h3⟩ := h
  exact ⟨H, A.keep (R := fun _ => False) h1 (Lets.ofBelow hb) (fun _ _ h => h), h2, h3.trans (hb.mono h3.size)⟩

set_option maxRecDepth 20000 in
set_option maxHeartbeats 4000000 in
theorem live_of {I : Inv} {refR : Rule → Int} (A : Api0 I refR) (h0 : refR liveR = 0) (w : World) :
    Calls Try.prog 9 #[] w fun e w' => e = .returned (.bool true) ∧ Below w.heap.size w w' := by
  have HA := hid A
  have HN : Hid (Calls Try.prog 10 #[.agg #[.string ⟨#[97]⟩, .int .u8 1, .int .i64 500, .int .i64 0, .int .i64 2, .int .i64 1000000, .int .i64 1000000]] w fun e w' => (∃ p H, e = .returned (.tuple #[ptr p, .int .i64 0]) ∧ refR liveR = 0 ∧ RuleGood liveR ∧ I w' p H b0 ∧ (∀ k, H k → w.heap.size ≤ k) ∧ Below w.heap.size w w') ∨ (refR liveR ≠ 0 ∧ e = .returned (.tuple #[.pointer none, .int .i64 (refR liveR)]) ∧ Below w.heap.size w w')) := hid (A.new_ liveR w (by show 1 ≤ maxLen; unfold maxLen; omega))
  clear A
  go_enter Try.func9, Try.ntmps9
  go_wp2_with fail
  refine HN.out.mono ?_
  rintro e w1 (⟨p, H, rfl, -, -, hI, hlo, hb⟩ | ⟨h, -⟩)
  rotate_left
  · exact absurd h0 h
  have M1 : Hid (My I w w1 p b0) := hid ⟨H, hI, hlo, hb⟩
  clear hI hlo hb HN h0
  go_wp2_with fail
  refine (done_my HA.out 1 0 true false (rfl : doneB b0 1 0 true false = b1) l0.1 l0.2 M1.out).mono ?_
  rintro e w2 ⟨rfl, hm⟩
  have M2 := hid hm
  clear hm M1
  go_wp2_with fail
  refine (done_my HA.out 2 0 true false (rfl : doneB b1 2 0 true false = b2) l1.1 l1.2 M2.out).mono ?_
  rintro e w3 ⟨rfl, hm⟩
  have M3 := hid hm
  clear hm M2
  have HU : Hid (Calls Try.prog 16 #[ptr p] w3 fun e w' => e = .returned (.tuple #[.int .i64 1000002, .bool true]) ∧ My I w w' p b2) := hid (by
    obtain ⟨H, a, b, c⟩ := M3.out
    rw [← l2.1, ← l2.2.1]
    exact (HA.out.until_ a).mono fun e w' x => ⟨x.1, below_my HA.out M3.out x.2⟩)
  go_wp2_with fail
  refine HU.out.mono ?_
  rintro e w4 ⟨rfl, hm⟩
  have M4 := hid hm
  clear hm M3 HU
  have HL : Hid (Calls Try.prog 22 #[ptr p, .int .i64 1000001] w4 fun e w' => e = .returned (.tuple #[.bool false, .int .i64 0]) ∧ My I w w' p b2) := hid (by
    obtain ⟨H, a, b, c⟩ := M4.out
    have hl := HA.out.look_ 1000001 a
    rw [l2.2.2.1, l2.2.2.2] at hl
    exact hl.mono fun e w' x => ⟨x.1, below_my HA.out M4.out x.2⟩)
  go_wp2_with fail
  refine HL.out.mono ?_
  rintro e w5 ⟨rfl, hm⟩
  have M5 := hid hm
  clear hm M4 HL
  go_wp2_with fail
  refine (enter_my HA.out 1000002 true true (rfl : enterB b2 1000002 = b3) l3.1 l3.2.1 l3.2.2 M5.out).mono ?_
  rintro e w6 ⟨rfl, hm⟩
  have M6 := hid hm
  clear hm M5
  go_wp2_with fail
  refine (enter_my HA.out 1000003 false false (rfl : enterB b3 1000003 = b4) l4.1 l4.2.1 l4.2.2 M6.out).mono ?_
  rintro e w7 ⟨rfl, hm⟩
  have M7 := hid hm
  clear hm M6
  go_wp2_with fail
  refine (done_my HA.out 1000004 0 false true (rfl : doneB b4 1000004 0 false true = b5) l5.1 l5.2.1 M7.out).mono ?_
  rintro e w8 ⟨rfl, hm⟩
  have M8 := hid hm
  clear hm M7
  have HS : Hid (Calls Try.prog 15 #[ptr p] w8 fun e w' => e = .returned (.int .u8 1) ∧ My I w w' p b5) := hid (by
    obtain ⟨H, a, b, c⟩ := M8.out
    rw [← l5.2.2.1]
    exact (HA.out.state_ a).mono fun e w' x => ⟨x.1, below_my HA.out M8.out x.2⟩)
  go_wp2_with fail
  refine HS.out.mono ?_
  rintro e w9 ⟨rfl, hm⟩
  have M9 := hid hm
  clear hm M8 HS
  have HT : Hid (Calls Try.prog 21 #[ptr p] w9 fun e w' => e = .returned (.int .i64 1) ∧ My I w w' p b5) := hid (by
    obtain ⟨H, a, b, c⟩ := M9.out
    rw [← l5.2.2.2]
    exact (HA.out.trips_ a).mono fun e w' x => ⟨x.1, below_my HA.out M9.out x.2⟩)
  go_wp2_with fail
  refine HT.out.mono ?_
  rintro e w10 ⟨rfl, hm⟩
  have M10 := hid hm
  clear hm M9 HT
  go_wp2_with fail
  go_ret
  exact ⟨rfl, my_bel M10.out⟩

/-- the calls where there is no breaker -/
structure ApiNil : Prop where
  look_ : ∀ (t : Int) (w : World), Calls Try.prog 22 #[.pointer none, .int .i64 t] w fun e w' => e = .returned (.tuple #[.bool false, .int .i64 1]) ∧ Below w.heap.size w w'
  enter_ : ∀ (t : Int) (w : World), Calls Try.prog 17 #[.pointer none, .int .i64 t] w fun e w' => e = .returned (.tuple #[.bool false, .bool false, .int .i64 1]) ∧ Below w.heap.size w w'
  sum_ : ∀ (t : Int) (w : World), Calls Try.prog 23 #[.pointer none, .int .i64 t] w fun e w' => e = .returned (.tuple #[.agg #[.int .i64 0, .int .i64 0, .int .i64 0, .int .i64 0, .int .i64 0, .int .i64 0], .int .i64 1]) ∧ Below w.heap.size w w'
  until_ : ∀ (w : World), Calls Try.prog 16 #[.pointer none] w fun e w' => e = .returned (.tuple #[.int .i64 0, .bool false]) ∧ Below w.heap.size w w'
  all_ : ∀ (t : Int) (w : World) (b : Nat), w.cell? ⟨b, 0, none⟩ = some (.pointer none) → w.cell? ⟨b, 1, none⟩ = some (.pointer none) → Calls Try.prog 13 #[.int .i64 t, .slice (some ⟨b, 0, none⟩) 2 2] w fun e w' => e = .returned (.tuple #[.int .i64 2, .bool true, .int .i64 0]) ∧ Below w.heap.size w w'
  done_ : ∀ (t rt : Int) (f pr : Bool) (w : World), Calls Try.prog 18 #[.pointer none, .int .i64 t, .int .i64 rt, .bool f, .bool pr] w fun e w' => e = .returned (.int .i64 1) ∧ Below w.heap.size w w'
  give_ : ∀ (t : Int) (w : World), Calls Try.prog 19 #[.pointer none, .int .i64 t] w fun e w' => e = .returned (.int .i64 1) ∧ Below w.heap.size w w'
  state_ : ∀ (w : World), Calls Try.prog 15 #[.pointer none] w fun e w' => e = .returned (.int .u8 0) ∧ Below w.heap.size w w'
  trips_ : ∀ (w : World), Calls Try.prog 21 #[.pointer none] w fun e w' => e = .returned (.int .i64 0) ∧ Below w.heap.size w w'
  last_ : ∀ (w : World), Calls Try.prog 24 #[.pointer none] w fun e w' => e = .returned (.int .i64 0) ∧ Below w.heap.size w w'
  fork_ : ∀ (w : World), Calls Try.prog 25 #[.pointer none] w fun e w' => e = .returned (.pointer none) ∧ Below w.heap.size w w'
  live_ : ∀ (w : World), Calls Try.prog 9 #[] w fun e w' => e = .returned (.bool true) ∧ Below w.heap.size w w'

set_option maxRecDepth 20000 in
set_option maxHeartbeats 4000000 in
theorem core_none (N : ApiNil) (a0 a1 : Int) (W : World) :
    Calls Try.prog 7 #[.int .i64 a0, .int .i64 a1] W fun e w' => e = .returned (.bool true) ∧ Below W.heap.size W w' := by
  have HN := hid N
  clear N
  go_enter Try.func7, Try.ntmps7
  go_wp2_with fail
  refine (HN.out.look_ a0 W).mono ?_
  rintro e w1 ⟨rfl, hb⟩
  have HB1 := hid hb
  clear hb
  go_wp2_with fail
  refine (HN.out.enter_ a0 w1).mono ?_
  rintro e w2 ⟨rfl, hb⟩
  have HB2 := hid (bl HB1.out hb)
  clear hb HB1
  go_wp2_with fail
  refine (HN.out.sum_ a0 w2).mono ?_
  rintro e w3 ⟨rfl, hb⟩
  have HB3 := hid (bl HB2.out hb)
  clear hb HB2
  go_wp2_with fail
  refine (HN.out.until_ _).mono ?_
  rintro e w4 ⟨rfl, hb⟩
  have HB4 : Hid (Below W.heap.size W w4) := hid ((HB3.out.alloc HB3.out.size _).trans (hb.mono (by have := HB3.out.size; simp; omega)))
  clear hb HB3
  go_wp2_with fail
  refine (HN.out.all_ a0 _ w4.heap.size (by go_cell) (by go_cell)).mono ?_
  rintro e w5 ⟨rfl, hb⟩
  have HB5 : Hid (Below W.heap.size W w5) := hid ((HB4.out.alloc HB4.out.size _).trans (hb.mono (by have := HB4.out.size; simp; omega)))
  clear hb HB4
  go_wp2_with fail
  refine (HN.out.live_ w5).mono ?_
  rintro e w6 ⟨rfl, hb⟩
  have HB6 := hid (bl HB5.out hb)
  clear hb HB5
  go_wp2_with fail
  refine (HN.out.done_ a0 a1 true true w6).mono ?_
  rintro e w7 ⟨rfl, hb⟩
  have HB7 := hid (bl HB6.out hb)
  clear hb HB6
  go_wp2_with fail
  refine (HN.out.give_ a0 w7).mono ?_
  rintro e w8 ⟨rfl, hb⟩
  have HB8 := hid (bl HB7.out hb)
  clear hb HB7
  go_wp2_with fail
  refine (HN.out.state_ w8).mono ?_
  rintro e w9 ⟨rfl, hb⟩
  have HB9 := hid (bl HB8.out hb)
  clear hb HB8
  go_wp2_with fail
  refine (HN.out.trips_ w9).mono ?_
  rintro e w10 ⟨rfl, hb⟩
  have HB10 := hid (bl HB9.out hb)
  clear hb HB9
  go_wp2_with fail
  refine (HN.out.last_ w10).mono ?_
  rintro e w11 ⟨rfl, hb⟩
  have HB11 := hid (bl HB10.out hb)
  clear hb HB10
  go_wp2_with fail
  refine (HN.out.fork_ w11).mono ?_
  rintro e w12 ⟨rfl, hb⟩
  have HB12 := hid (bl HB11.out hb)
  clear hb HB11
  go_wp2_with fail
  go_ret
  exact ⟨rfl, HB12.out⟩

end Go.Proofs.Ytcmklahbophclaa.BreL
