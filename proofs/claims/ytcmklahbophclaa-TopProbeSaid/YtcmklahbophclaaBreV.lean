/- Breakers: the program's own, its inner calls. -/
import Derived.Test.YtcmklahbophclaaBreA
import Derived.Test.YtcmklahbophclaaNumC
import Derived.BigQuiet
import Derived.Deep.RegionHeld3
namespace Go.Proofs.Ytcmklahbophclaa.BreV
set_option linter.unusedVariables false
open Go.ChangeShapes Go.WideShapes Go.ChangeAt Go.RowKit Base WinM WinA WinE BreP BreA

theorem kc {w1 w2 : World} {p o : Nat} {v : Value} (h2 : Below w1.heap.size w1 w2) (h : w1.cell? ⟨p, o, none⟩ = some v) : w2.cell? ⟨p, o, none⟩ = some v :=
  (h2.cell (p := ⟨p, o, none⟩) (World.block_lt_of_cell? _ _ h)).trans h

set_option maxHeartbeats 400000 in
theorem isNoTime_any (n : Int) (w : World) :
    Calls Try.prog 64 #[.int .i64 n] w fun e w' => e = .returned (.bool (!inT n)) ∧ w = w' := by
  unfold inT
  by_cases h0 : 0 ≤ n
  · have d0 : decide (n < 0) = false := decide_eq_false (by omega)
    rw [decide_eq_true h0]
    by_cases h1 : n ≤ 1152921504606846976
    · have d1 : decide (1152921504606846976 < n) = false := decide_eq_false (by omega)
      rw [decide_eq_true h1]
      clear h0 h1
      go_enter Try.func64, Try.ntmps64
      go_wp2
      go_ret
      exact ⟨rfl, rfl⟩
    · have d1 : decide (1152921504606846976 < n) = true := decide_eq_true (by omega)
      rw [decide_eq_false h1]
      clear h0 h1
      go_enter Try.func64, Try.ntmps64
      go_wp2
      go_ret
      exact ⟨rfl, rfl⟩
  · have d0 : decide (n < 0) = true := decide_eq_true (by omega)
    rw [decide_eq_false h0]
    clear h0
    go_enter Try.func64, Try.ntmps64
    go_wp2
    go_ret
    exact ⟨rfl, rfl⟩

set_option maxHeartbeats 400000 in
theorem index_none (a : Option Addr) (cap : Nat) (w : World) :
    Calls Try.prog 86 #[.slice a 0 cap, .func (Fn.func 64) #[] #[]] w fun e w' => (∃ r : Int, e = .returned (.int .i64 r) ∧ decide (0 ≤ r) = false) ∧ w = w' := by
  go_enter Try.func86, Try.ntmps86
  go_wp2
  go_loop [8] (fun i => i = .int .i64 0) (fun _ => 0)
  case atStart => rfl
  case round =>
    obtain rfl := hrel
    go_wp2
    go_ret
    exact ⟨⟨-1, rfl, by decide⟩, rfl⟩

set_option maxRecDepth 20000 in
set_option maxHeartbeats 400000 in
theorem index_one (g o cap : Nat) (n : Int) (b : Bool) (w : World) (hb : (!inT n) = b) (h : w.cell? ⟨g, o, none⟩ = some (.int .i64 n)) :
    Calls Try.prog 86 #[.slice (some ⟨g, o, none⟩) 1 cap, .func (Fn.func 64) #[] #[]] w fun e w' => (∃ r : Int, e = .returned (.int .i64 r) ∧ decide (0 ≤ r) = b) ∧ w = w' := by
  have HA := hid (isNoTime_any n w)
  rw [hb] at HA
  clear hb
  go_enter Try.func86, Try.ntmps86
  go_wp2
  go_loop [8] (fun i => i = .int .i64 0 ∨ i = .int .i64 1 ∧ b = false) (fun i => 1 - (intOf i).toNat)
  case atStart => exact .inl rfl
  case round =>
    rcases hrel with rfl | ⟨rfl, rfl⟩
    · cases b with
      | true =>
        go_wp2_with fail
        refine HA.out.mono ?_
        rintro e w2 ⟨rfl, rfl⟩
        go_wp2
        go_ret
        exact ⟨⟨0, rfl, by decide⟩, rfl⟩
      | false =>
        go_wp2_with fail
        refine HA.out.mono ?_
        rintro e w2 ⟨rfl, rfl⟩
        go_wp2
        go_round
        case rel => exact .inr ⟨by go_num, by trivial⟩
        case measure => simp [intOf]
    · go_wp2
      go_ret
      exact ⟨⟨-1, rfl, by decide⟩, rfl⟩

theorem contains_core (v : Value) (b : Bool) (w : World) (HI : Hid (Calls Try.prog 86 #[v, .func (Fn.func 64) #[] #[]] w fun e w' => (∃ r : Int, e = .returned (.int .i64 r) ∧ decide (0 ≤ r) = b) ∧ w = w')) :
    Calls Try.prog 65 #[v, .func (Fn.func 64) #[] #[]] w fun e w' => e = .returned (.bool b) ∧ w = w' := by
  go_enter Try.func65, Try.ntmps65
  go_wp2_with fail
  refine HI.out.mono ?_
  rintro e w2 ⟨⟨r, rfl, hr⟩, rfl⟩
  go_wp2
  go_ret
  exact ⟨by first | rfl | rw [hr] | simp [hr], rfl⟩

def refV (last t : Int) (b : Bool) : Int := if inT t && !b then (if t < last then 7 else 0) else 2

set_option maxHeartbeats 1000000 in
theorem refuses_core (p : Nat) (t last z : Int) (v : Value) (b1 b : Bool) (w : World) (Z : Hid ((if b1 && !b then (if t < last then 7 else 0) else 2) = z)) (h : w.cell? ⟨p, 11, none⟩ = some (.int .i64 last)) (H1 : Hid (Calls Try.prog 64 #[.int .i64 t] w fun e w' => e = .returned (.bool (!b1)) ∧ w = w')) (HC : Hid (Calls Try.prog 65 #[v, .func (Fn.func 64) #[] #[]] w fun e w' => e = .returned (.bool b) ∧ w = w')) :
    Calls Try.prog 39 #[ptr p, .int .i64 t, v] w fun e w' => e = .returned (.int .i64 z) ∧ w = w' := by
  go_enter Try.func39, Try.ntmps39
  cases b1 with
  | false =>
    obtain rfl : z = 2 := by rw [← Z.out]; simp
    clear Z
    go_wp2_with fail
    refine H1.out.mono ?_
    rintro e w1 ⟨rfl, rfl⟩
    go_wp2_with fail
    go_ret
    exact ⟨rfl, rfl⟩
  | true =>
    cases b with
    | true =>
      obtain rfl : z = 2 := by rw [← Z.out]; simp
      clear Z
      go_wp2_with fail
      refine H1.out.mono ?_
      rintro e w1 ⟨rfl, rfl⟩
      go_wp2_with fail
      refine HC.out.mono ?_
      rintro e w1 ⟨rfl, rfl⟩
      go_wp2_with fail
      go_ret
      exact ⟨rfl, rfl⟩
    | false =>
      by_cases hl : t < last
      · have d1 := decide_eq_true hl
        obtain rfl : z = 7 := by rw [← Z.out]; simp [hl]
        clear hl Z
        go_wp2_with fail
        refine H1.out.mono ?_
        rintro e w1 ⟨rfl, rfl⟩
        go_wp2_with fail
        refine HC.out.mono ?_
        rintro e w1 ⟨rfl, rfl⟩
        go_wp2_with fail
        go_ret
        exact ⟨rfl, rfl⟩
      · have d1 := decide_eq_false hl
        obtain rfl : z = 0 := by rw [← Z.out]; simp [hl]
        clear hl Z
        go_wp2_with fail
        refine H1.out.mono ?_
        rintro e w1 ⟨rfl, rfl⟩
        go_wp2_with fail
        refine HC.out.mono ?_
        rintro e w1 ⟨rfl, rfl⟩
        go_wp2_with fail
        go_ret
        exact ⟨rfl, rfl⟩

/-- the errors of one time -/
theorem refuses_at (p : Nat) (B : Bk) (t : Int) (w : World) (h : w.cell? ⟨p, 11, none⟩ = some (.int .i64 B.last)) :
    Calls Try.prog 39 #[ptr p, .int .i64 t, .slice none 0 0] w fun e w' => e = .returned (.int .i64 (refT B t 0)) ∧ w = w' := by
  have := refuses_core p t B.last _ (.slice none 0 0) (inT t) false w (hid rfl) h (hid (isNoTime_any t w)) (hid (contains_core _ _ w (hid (index_none none 0 w))))
  unfold refT
  rw [show inT 0 = true by decide]
  exact this
/-- the errors of two -/
theorem refuses_two (p g : Nat) (B : Bk) (t rt : Int) (w : World) (h : w.cell? ⟨p, 11, none⟩ = some (.int .i64 B.last)) (h2 : w.cell? ⟨g, 0, none⟩ = some (.int .i64 rt)) :
    Calls Try.prog 39 #[ptr p, .int .i64 t, .slice (some ⟨g, 0, none⟩) 1 1] w fun e w' => e = .returned (.int .i64 (refT B t rt)) ∧ w = w' := by
  have := refuses_core p t B.last _ (.slice (some ⟨g, 0, none⟩) 1 1) (inT t) (!inT rt) w (hid rfl) h (hid (isNoTime_any t w)) (hid (contains_core _ _ w (hid (index_one g 0 1 rt _ w rfl h2))))
  unfold refT
  rw [Bool.not_not] at this
  exact this
set_option maxHeartbeats 1000000 in
theorem refuses_nil (t : Int) (v : Value) (w : World) :
    Calls Try.prog 39 #[.pointer none, .int .i64 t, v] w fun e w' => e = .returned (.int .i64 1) ∧ w = w' := by
  go_enter Try.func39, Try.ntmps39
  go_wp2_with fail
  go_ret
  exact ⟨rfl, rfl⟩

set_option maxHeartbeats 1000000 in
theorem lets_core (st til t : Int) (b : Bool) (w : World) (hr : st = 1 ∧ b = true ∨ st = 2 ∧ decide (til ≤ t) = b ∨ st = 3 ∧ b = false) :
    Calls Try.prog 44 #[.agg #[.int .u8 st, .int .i64 til], .int .i64 t] w fun e w' => e = .returned (.bool b) ∧ Below w.heap.size w w' := by
  go_enter Try.func44, Try.ntmps44
  rcases hr with ⟨rfl, rfl⟩ | ⟨rfl, hb⟩ | ⟨rfl, rfl⟩
  · go_wp2_with fail
    go_ret
    exact ⟨rfl, (by repeat (first | (with_reducible exact Below.refl _ _) | (with_reducible refine Below.setCell ?_ (by first | (simp; done) | (simp; omega) | omega) _) | (with_reducible refine Below.alloc ?_ (by first | (simp; done) | (simp; omega) | omega) _) | (with_reducible refine Below.drew ?_)))⟩
  · cases b with
    | true =>
      go_wp2_with fail
      go_ret
      exact ⟨rfl, (by repeat (first | (with_reducible exact Below.refl _ _) | (with_reducible refine Below.setCell ?_ (by first | (simp; done) | (simp; omega) | omega) _) | (with_reducible refine Below.alloc ?_ (by first | (simp; done) | (simp; omega) | omega) _) | (with_reducible refine Below.drew ?_)))⟩
    | false =>
      go_wp2_with fail
      go_ret
      exact ⟨rfl, (by repeat (first | (with_reducible exact Below.refl _ _) | (with_reducible refine Below.setCell ?_ (by first | (simp; done) | (simp; omega) | omega) _) | (with_reducible refine Below.alloc ?_ (by first | (simp; done) | (simp; omega) | omega) _) | (with_reducible refine Below.drew ?_)))⟩
  · go_wp2_with fail
    go_ret
    exact ⟨rfl, (by repeat (first | (with_reducible exact Below.refl _ _) | (with_reducible refine Below.setCell ?_ (by first | (simp; done) | (simp; omega) | omega) _) | (with_reducible refine Below.alloc ?_ (by first | (simp; done) | (simp; omega) | omega) _) | (with_reducible refine Below.drew ?_)))⟩

set_option maxHeartbeats 1000000 in
theorem isBad_core (nm : ByteArray) (g : Nat) (ct sl ls wd rc : Int) (rt : Int) (f r : Bool) (w : World) (hr : g = 0 ∧ decide (sl < rt) = r ∨ ((g : Int) == 0) = false ∧ f = r) :
    Calls Try.prog 40 #[.agg #[.string nm, .int .u8 (g : Nat), .int .i64 ct, .int .i64 sl, .int .i64 ls, .int .i64 wd, .int .i64 rc], .int .i64 rt, .bool f] w fun e w' => e = .returned (.bool r) ∧ Below w.heap.size w w' := by
  go_enter Try.func40, Try.ntmps40
  rcases hr with ⟨rfl, hr⟩ | ⟨hg, rfl⟩
  · go_wp2_with fail
    go_ret
    exact ⟨by subst hr; rfl, (by repeat (first | (with_reducible exact Below.refl _ _) | (with_reducible refine Below.setCell ?_ (by first | (simp; done) | (simp; omega) | omega) _) | (with_reducible refine Below.alloc ?_ (by first | (simp; done) | (simp; omega) | omega) _) | (with_reducible refine Below.drew ?_)))⟩
  · go_wp2_with fail
    go_ret
    exact ⟨rfl, (by repeat (first | (with_reducible exact Below.refl _ _) | (with_reducible refine Below.setCell ?_ (by first | (simp; done) | (simp; omega) | omega) _) | (with_reducible refine Below.alloc ?_ (by first | (simp; done) | (simp; omega) | omega) _) | (with_reducible refine Below.drew ?_)))⟩

end Go.Proofs.Ytcmklahbophclaa.BreV
