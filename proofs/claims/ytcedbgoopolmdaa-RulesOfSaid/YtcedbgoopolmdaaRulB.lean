/- Flow rules, each looked at. -/
import Derived.Test.YtcedbgoopolmdaaRulA
import Derived.Test.YtcedbgoopolmdaaTxt
namespace Go.Proofs.Ytcedbgoopolmdaa.RulB
open Go.ChangeShapes Go.WideShapes Go.ChangeAt Go.RowKit Base RulA Txt

/-- a flow rule -/
structure Flow where
  res : ByteArray
  org : ByteArray
  thr : Bool
  cnt : Int
  strat : Nat
  ref : ByteArray
  shape : Nat
  warm : Int
  queue : Int
  clus : Bool
  id_ : Int
  fall : Bool

def fv (f : Flow) : Array Value := #[.string f.res, .string f.org, .bool f.thr, .int .i64 f.cnt, .int .u8 f.strat, .string f.ref, .int .u8 f.shape, .int .i64 f.warm, .int .i64 f.queue, .bool f.clus, .int .i64 f.id_, .bool f.fall]

def namedF (f : Flow) : Bool := nameB f.res && nameB f.org && (!(decide (f.strat = 1 ∨ f.strat = 2)) || nameB f.ref)
def countF (f : Flow) : Bool := !(f.thr && (decide (f.shape ≠ 0) || f.clus)) && (if f.shape = 0 then inR f.cnt 0 1099511627776 else inR f.cnt 1 1099511627776)
def lookF (f : Flow) : Bool := decide (f.strat ≤ 2) && (decide (f.strat ≠ 0) || decide (f.ref = ⟨#[]⟩))
def waitF (f : Flow) : Bool := decide (f.shape ≤ 3) && (if f.shape = 1 ∨ f.shape = 3 then inIf true f.warm 1 3600 else inIf false f.warm 1 3600) && (if f.shape = 2 ∨ f.shape = 3 then inIf true f.queue 0 3600000000 else inIf false f.queue 0 3600000000)
def shareF (f : Flow) : Bool := if f.clus then decide (f.strat = 0) && decide (f.shape = 0) && inR f.id_ 1 1099511627776 else decide (f.id_ = 0) && !f.fall
def flowE (f : Flow) : Int := if namedF f then (if countF f && lookF f && waitF f && shareF f then 0 else 30) else 10

theorem empty_eq (s : ByteArray) : s.toList.isEmpty = decide (s = ⟨#[]⟩) := by
  rw [← text_eq]
  rw [ByteArray.toList_eq, ByteArray.toList_eq]
  cases s.data.toList <;> rfl

set_option maxRecDepth 20000 in
set_option maxHeartbeats 2000000 in
theorem isNamed_core (res org : ByteArray) (thr : Bool) (cnt : Int) (strat : Nat) (ref : ByteArray) (shape : Nat) (warm queue : Int) (clus : Bool) (id_ : Int) (fall : Bool) (b1 b2 b3 : Bool) (r : Bool) (R : Hid ((b1 && b2 && (!(decide (strat = 1 ∨ strat = 2)) || b3)) = r)) (w : World) (H1 : Hid (∀ w, Calls Try.prog 66 #[.string res] w fun e w' => e = .returned (.bool b1) ∧ w = w')) (H2 : Hid (∀ w, Calls Try.prog 66 #[.string org] w fun e w' => e = .returned (.bool b2) ∧ w = w')) (H3 : Hid (∀ w, Calls Try.prog 66 #[.string ref] w fun e w' => e = .returned (.bool b3) ∧ w = w')) :
    Calls Try.prog 125 #[.agg #[.string res, .string org, .bool thr, .int .i64 cnt, .int .u8 strat, .string ref, .int .u8 shape, .int .i64 warm, .int .i64 queue, .bool clus, .int .i64 id_, .bool fall]] w fun e w' => e = .returned (.bool r) ∧ Below w.heap.size w w' := by
  by_cases s1 : strat = 1
  · subst s1
    cases b1 <;> cases b2 <;> cases b3 <;> (
      go_enter Try.func125, Try.ntmps125
      go_wp2_with (go_at_call 66; first | ((with_reducible refine (H1.out _).mono ?_); rintro e w1 ⟨rfl, rfl⟩) | ((with_reducible refine (H2.out _).mono ?_); rintro e w1 ⟨rfl, rfl⟩) | ((with_reducible refine (H3.out _).mono ?_); rintro e w1 ⟨rfl, rfl⟩))
      go_ret
      exact ⟨ret_bool (by rw [← R.out]; rfl), (by repeat (first | (with_reducible exact Below.refl _ _) | (with_reducible refine Below.setCell ?_ (by first | (simp; done) | (simp; omega) | omega) _) | (with_reducible refine Below.alloc ?_ (by first | (simp; done) | (simp; omega) | omega) _) | (with_reducible refine Below.drew ?_) | (with_reducible refine below_drewN ?_ _)))⟩)
  · by_cases s2 : strat = 2
    · subst s2
      cases b1 <;> cases b2 <;> cases b3 <;> (
        go_enter Try.func125, Try.ntmps125
        go_wp2_with (go_at_call 66; first | ((with_reducible refine (H1.out _).mono ?_); rintro e w1 ⟨rfl, rfl⟩) | ((with_reducible refine (H2.out _).mono ?_); rintro e w1 ⟨rfl, rfl⟩) | ((with_reducible refine (H3.out _).mono ?_); rintro e w1 ⟨rfl, rfl⟩))
        go_ret
        exact ⟨ret_bool (by rw [← R.out]; rfl), (by repeat (first | (with_reducible exact Below.refl _ _) | (with_reducible refine Below.setCell ?_ (by first | (simp; done) | (simp; omega) | omega) _) | (with_reducible refine Below.alloc ?_ (by first | (simp; done) | (simp; omega) | omega) _) | (with_reducible refine Below.drew ?_) | (with_reducible refine below_drewN ?_ _)))⟩)
    · have n1 : ((strat : Int) == 1) = false := by simp; omega
      have n2 : ((strat : Int) == 2) = false := by simp; omega
      have D : Hid (decide (strat = 1 ∨ strat = 2) = false) := hid (by simp; omega)
      clear s1 s2
      cases b1 <;> cases b2 <;> (
        go_enter Try.func125, Try.ntmps125
        go_wp2_with (go_at_call 66; first | ((with_reducible refine (H1.out _).mono ?_); rintro e w1 ⟨rfl, rfl⟩) | ((with_reducible refine (H2.out _).mono ?_); rintro e w1 ⟨rfl, rfl⟩) | ((with_reducible refine (H3.out _).mono ?_); rintro e w1 ⟨rfl, rfl⟩))
        go_ret
        exact ⟨ret_bool (by rw [← R.out]; rw [D.out]; rfl), (by repeat (first | (with_reducible exact Below.refl _ _) | (with_reducible refine Below.setCell ?_ (by first | (simp; done) | (simp; omega) | omega) _) | (with_reducible refine Below.alloc ?_ (by first | (simp; done) | (simp; omega) | omega) _) | (with_reducible refine Below.drew ?_) | (with_reducible refine below_drewN ?_ _)))⟩)

set_option maxRecDepth 20000 in
set_option maxHeartbeats 2000000 in
theorem mayCount_core (res org : ByteArray) (thr : Bool) (cnt : Int) (strat : Nat) (ref : ByteArray) (shape : Nat) (warm queue : Int) (clus : Bool) (id_ : Int) (fall : Bool) (b1 b2 : Bool) (r : Bool) (R : Hid ((!(thr && (decide (shape ≠ 0) || clus)) && (if shape = 0 then b1 else b2)) = r)) (w : World) (H1 : Hid (∀ w, Calls Try.prog 104 #[.int .i64 cnt, .int .i64 0, .int .i64 1099511627776] w fun e w' => e = .returned (.bool b1) ∧ w = w')) (H2 : Hid (∀ w, Calls Try.prog 104 #[.int .i64 cnt, .int .i64 1, .int .i64 1099511627776] w fun e w' => e = .returned (.bool b2) ∧ w = w')) :
    Calls Try.prog 126 #[.agg #[.string res, .string org, .bool thr, .int .i64 cnt, .int .u8 strat, .string ref, .int .u8 shape, .int .i64 warm, .int .i64 queue, .bool clus, .int .i64 id_, .bool fall]] w fun e w' => e = .returned (.bool r) ∧ Below w.heap.size w w' := by
  by_cases s0 : shape = 0
  · subst s0
    cases thr <;> cases clus <;> (
      go_enter Try.func126, Try.ntmps126
      go_wp2_with (go_at_call 104; first | ((with_reducible refine (H1.out _).mono ?_); rintro e w1 ⟨rfl, rfl⟩) | ((with_reducible refine (H2.out _).mono ?_); rintro e w1 ⟨rfl, rfl⟩))
      go_ret
      exact ⟨ret_bool (by rw [← R.out]; simp), (by repeat (first | (with_reducible exact Below.refl _ _) | (with_reducible refine Below.setCell ?_ (by first | (simp; done) | (simp; omega) | omega) _) | (with_reducible refine Below.alloc ?_ (by first | (simp; done) | (simp; omega) | omega) _) | (with_reducible refine Below.drew ?_) | (with_reducible refine below_drewN ?_ _)))⟩)
  · have n1 : ((shape : Int) != 0) = true := by simp; omega
    have D : Hid (decide (shape ≠ 0) = true ∧ shape ≠ 0) := hid ⟨by simp; omega, s0⟩
    clear s0
    cases thr <;> cases clus <;> (
      go_enter Try.func126, Try.ntmps126
      go_wp2_with (go_at_call 104; first | ((with_reducible refine (H1.out _).mono ?_); rintro e w1 ⟨rfl, rfl⟩) | ((with_reducible refine (H2.out _).mono ?_); rintro e w1 ⟨rfl, rfl⟩))
      go_ret
      exact ⟨ret_bool (by rw [← R.out]; rw [if_neg D.out.2, D.out.1]; simp), (by repeat (first | (with_reducible exact Below.refl _ _) | (with_reducible refine Below.setCell ?_ (by first | (simp; done) | (simp; omega) | omega) _) | (with_reducible refine Below.alloc ?_ (by first | (simp; done) | (simp; omega) | omega) _) | (with_reducible refine Below.drew ?_) | (with_reducible refine below_drewN ?_ _)))⟩)

set_option maxRecDepth 20000 in
set_option maxHeartbeats 2000000 in
theorem mayLook_core (res org : ByteArray) (thr : Bool) (cnt : Int) (strat : Nat) (ref : ByteArray) (shape : Nat) (warm queue : Int) (clus : Bool) (id_ : Int) (fall : Bool) (r : Bool) (R : Hid ((decide (strat ≤ 2) && (decide (strat ≠ 0) || decide (ref = ⟨#[]⟩))) = r)) (w : World)  :
    Calls Try.prog 127 #[.agg #[.string res, .string org, .bool thr, .int .i64 cnt, .int .u8 strat, .string ref, .int .u8 shape, .int .i64 warm, .int .i64 queue, .bool clus, .int .i64 id_, .bool fall]] w fun e w' => e = .returned (.bool r) ∧ Below w.heap.size w w' := by
  by_cases s0 : strat = 0
  · subst s0
    go_enter Try.func127, Try.ntmps127
    go_wp2
    go_ret
    exact ⟨ret_bool (by rw [← R.out]; rw [empty_eq]; rfl), (by repeat (first | (with_reducible exact Below.refl _ _) | (with_reducible refine Below.setCell ?_ (by first | (simp; done) | (simp; omega) | omega) _) | (with_reducible refine Below.alloc ?_ (by first | (simp; done) | (simp; omega) | omega) _) | (with_reducible refine Below.drew ?_) | (with_reducible refine below_drewN ?_ _)))⟩
  · by_cases s2 : strat ≤ 2
    · have n1 : ((strat : Int) != 0) = true := by simp; omega
      have D : Hid (decide (strat ≤ 2) = true ∧ decide (strat ≠ 0) = true) := hid ⟨by simpa using s2, by simpa using s0⟩
      clear s0
      go_enter Try.func127, Try.ntmps127
      go_wp2
      go_ret
      exact ⟨ret_bool (by rw [← R.out]; rw [D.out.1, D.out.2]; rfl), (by repeat (first | (with_reducible exact Below.refl _ _) | (with_reducible refine Below.setCell ?_ (by first | (simp; done) | (simp; omega) | omega) _) | (with_reducible refine Below.alloc ?_ (by first | (simp; done) | (simp; omega) | omega) _) | (with_reducible refine Below.drew ?_) | (with_reducible refine below_drewN ?_ _)))⟩
    · have n1 : decide ((strat : Int) ≤ 2) = false := by simp; omega
      have D : Hid (decide (strat ≤ 2) = false) := hid (by simpa using s2)
      clear s0 s2
      go_enter Try.func127, Try.ntmps127
      go_wp2
      go_ret
      exact ⟨ret_bool (by rw [← R.out]; rw [D.out]; rfl), (by repeat (first | (with_reducible exact Below.refl _ _) | (with_reducible refine Below.setCell ?_ (by first | (simp; done) | (simp; omega) | omega) _) | (with_reducible refine Below.alloc ?_ (by first | (simp; done) | (simp; omega) | omega) _) | (with_reducible refine Below.drew ?_) | (with_reducible refine below_drewN ?_ _)))⟩

set_option maxRecDepth 20000 in
set_option maxHeartbeats 2000000 in
theorem mayWait_core (res org : ByteArray) (thr : Bool) (cnt : Int) (strat : Nat) (ref : ByteArray) (shape : Nat) (warm queue : Int) (clus : Bool) (id_ : Int) (fall : Bool) (b1 b2 b3 b4 : Bool) (r : Bool) (R : Hid ((decide (shape ≤ 3) && (if shape = 1 ∨ shape = 3 then b1 else b2) && (if shape = 2 ∨ shape = 3 then b3 else b4)) = r)) (w : World) (H1 : Hid (∀ w, Calls Try.prog 137 #[.bool true, .int .i64 warm, .int .i64 1, .int .i64 3600] w fun e w' => e = .returned (.bool b1) ∧ w = w')) (H2 : Hid (∀ w, Calls Try.prog 137 #[.bool false, .int .i64 warm, .int .i64 1, .int .i64 3600] w fun e w' => e = .returned (.bool b2) ∧ w = w')) (H3 : Hid (∀ w, Calls Try.prog 137 #[.bool true, .int .i64 queue, .int .i64 0, .int .i64 3600000000] w fun e w' => e = .returned (.bool b3) ∧ w = w')) (H4 : Hid (∀ w, Calls Try.prog 137 #[.bool false, .int .i64 queue, .int .i64 0, .int .i64 3600000000] w fun e w' => e = .returned (.bool b4) ∧ w = w')) :
    Calls Try.prog 128 #[.agg #[.string res, .string org, .bool thr, .int .i64 cnt, .int .u8 strat, .string ref, .int .u8 shape, .int .i64 warm, .int .i64 queue, .bool clus, .int .i64 id_, .bool fall]] w fun e w' => e = .returned (.bool r) ∧ Below w.heap.size w w' := by
  by_cases s0 : shape = 0
  · subst s0
    cases b2 <;> cases b4 <;> (
      go_enter Try.func128, Try.ntmps128
      go_wp2_with (go_at_call 137; first | ((with_reducible refine (H1.out _).mono ?_); rintro e w1 ⟨rfl, rfl⟩) | ((with_reducible refine (H2.out _).mono ?_); rintro e w1 ⟨rfl, rfl⟩) | ((with_reducible refine (H3.out _).mono ?_); rintro e w1 ⟨rfl, rfl⟩) | ((with_reducible refine (H4.out _).mono ?_); rintro e w1 ⟨rfl, rfl⟩))
      go_ret
      exact ⟨ret_bool (by rw [← R.out]; rfl), (by repeat (first | (with_reducible exact Below.refl _ _) | (with_reducible refine Below.setCell ?_ (by first | (simp; done) | (simp; omega) | omega) _) | (with_reducible refine Below.alloc ?_ (by first | (simp; done) | (simp; omega) | omega) _) | (with_reducible refine Below.drew ?_) | (with_reducible refine below_drewN ?_ _)))⟩)
  · by_cases s1 : shape = 1
    · subst s1
      cases b1 <;> cases b4 <;> (
        go_enter Try.func128, Try.ntmps128
        go_wp2_with (go_at_call 137; first | ((with_reducible refine (H1.out _).mono ?_); rintro e w1 ⟨rfl, rfl⟩) | ((with_reducible refine (H2.out _).mono ?_); rintro e w1 ⟨rfl, rfl⟩) | ((with_reducible refine (H3.out _).mono ?_); rintro e w1 ⟨rfl, rfl⟩) | ((with_reducible refine (H4.out _).mono ?_); rintro e w1 ⟨rfl, rfl⟩))
        go_ret
        exact ⟨ret_bool (by rw [← R.out]; rfl), (by repeat (first | (with_reducible exact Below.refl _ _) | (with_reducible refine Below.setCell ?_ (by first | (simp; done) | (simp; omega) | omega) _) | (with_reducible refine Below.alloc ?_ (by first | (simp; done) | (simp; omega) | omega) _) | (with_reducible refine Below.drew ?_) | (with_reducible refine below_drewN ?_ _)))⟩)
    · by_cases s2 : shape = 2
      · subst s2
        cases b2 <;> cases b3 <;> (
          go_enter Try.func128, Try.ntmps128
          go_wp2_with (go_at_call 137; first | ((with_reducible refine (H1.out _).mono ?_); rintro e w1 ⟨rfl, rfl⟩) | ((with_reducible refine (H2.out _).mono ?_); rintro e w1 ⟨rfl, rfl⟩) | ((with_reducible refine (H3.out _).mono ?_); rintro e w1 ⟨rfl, rfl⟩) | ((with_reducible refine (H4.out _).mono ?_); rintro e w1 ⟨rfl, rfl⟩))
          go_ret
          exact ⟨ret_bool (by rw [← R.out]; rfl), (by repeat (first | (with_reducible exact Below.refl _ _) | (with_reducible refine Below.setCell ?_ (by first | (simp; done) | (simp; omega) | omega) _) | (with_reducible refine Below.alloc ?_ (by first | (simp; done) | (simp; omega) | omega) _) | (with_reducible refine Below.drew ?_) | (with_reducible refine below_drewN ?_ _)))⟩)
      · by_cases s3 : shape = 3
        · subst s3
          cases b1 <;> cases b3 <;> (
            go_enter Try.func128, Try.ntmps128
            go_wp2_with (go_at_call 137; first | ((with_reducible refine (H1.out _).mono ?_); rintro e w1 ⟨rfl, rfl⟩) | ((with_reducible refine (H2.out _).mono ?_); rintro e w1 ⟨rfl, rfl⟩) | ((with_reducible refine (H3.out _).mono ?_); rintro e w1 ⟨rfl, rfl⟩) | ((with_reducible refine (H4.out _).mono ?_); rintro e w1 ⟨rfl, rfl⟩))
            go_ret
            exact ⟨ret_bool (by rw [← R.out]; rfl), (by repeat (first | (with_reducible exact Below.refl _ _) | (with_reducible refine Below.setCell ?_ (by first | (simp; done) | (simp; omega) | omega) _) | (with_reducible refine Below.alloc ?_ (by first | (simp; done) | (simp; omega) | omega) _) | (with_reducible refine Below.drew ?_) | (with_reducible refine below_drewN ?_ _)))⟩)
        · have n1 : ((shape : Int) == 1) = false := by simp; omega
          have n2 : ((shape : Int) == 2) = false := by simp; omega
          have n3 : ((shape : Int) == 3) = false := by simp; omega
          have n4 : decide ((shape : Int) ≤ 3) = false := by simp; omega
          have D : Hid (decide (shape ≤ 3) = false) := hid (by simp; omega)
          clear s0 s1 s2 s3
          go_enter Try.func128, Try.ntmps128
          go_wp2_with (go_at_call 137; first | ((with_reducible refine (H1.out _).mono ?_); rintro e w1 ⟨rfl, rfl⟩) | ((with_reducible refine (H2.out _).mono ?_); rintro e w1 ⟨rfl, rfl⟩) | ((with_reducible refine (H3.out _).mono ?_); rintro e w1 ⟨rfl, rfl⟩) | ((with_reducible refine (H4.out _).mono ?_); rintro e w1 ⟨rfl, rfl⟩))
          go_ret
          exact ⟨ret_bool (by rw [← R.out]; rw [D.out]; rfl), (by repeat (first | (with_reducible exact Below.refl _ _) | (with_reducible refine Below.setCell ?_ (by first | (simp; done) | (simp; omega) | omega) _) | (with_reducible refine Below.alloc ?_ (by first | (simp; done) | (simp; omega) | omega) _) | (with_reducible refine Below.drew ?_) | (with_reducible refine below_drewN ?_ _)))⟩

set_option maxRecDepth 20000 in
set_option maxHeartbeats 2000000 in
theorem mayShare_core (res org : ByteArray) (thr : Bool) (cnt : Int) (strat : Nat) (ref : ByteArray) (shape : Nat) (warm queue : Int) (clus : Bool) (id_ : Int) (fall : Bool) (b1 : Bool) (r : Bool) (R : Hid ((if clus then decide (strat = 0) && decide (shape = 0) && b1 else decide (id_ = 0) && !fall) = r)) (w : World) (H1 : Hid (∀ w, Calls Try.prog 104 #[.int .i64 id_, .int .i64 1, .int .i64 1099511627776] w fun e w' => e = .returned (.bool b1) ∧ w = w')) :
    Calls Try.prog 129 #[.agg #[.string res, .string org, .bool thr, .int .i64 cnt, .int .u8 strat, .string ref, .int .u8 shape, .int .i64 warm, .int .i64 queue, .bool clus, .int .i64 id_, .bool fall]] w fun e w' => e = .returned (.bool r) ∧ Below w.heap.size w w' := by
  cases clus with
  | true =>
    by_cases s0 : strat = 0
    · subst s0
      by_cases s1 : shape = 0
      · subst s1
        cases b1 <;> (
          go_enter Try.func129, Try.ntmps129
          go_wp2_with (go_at_call 104; first | ((with_reducible refine (H1.out _).mono ?_); rintro e w1 ⟨rfl, rfl⟩))
          go_ret
          exact ⟨ret_bool (by rw [← R.out]; rfl), (by repeat (first | (with_reducible exact Below.refl _ _) | (with_reducible refine Below.setCell ?_ (by first | (simp; done) | (simp; omega) | omega) _) | (with_reducible refine Below.alloc ?_ (by first | (simp; done) | (simp; omega) | omega) _) | (with_reducible refine Below.drew ?_) | (with_reducible refine below_drewN ?_ _)))⟩)
      · have n1 : ((shape : Int) == 0) = false := by simp; omega
        have D : Hid (decide (shape = 0) = false) := hid (by simp; omega)
        clear s1
        go_enter Try.func129, Try.ntmps129
        go_wp2_with (go_at_call 104; first | ((with_reducible refine (H1.out _).mono ?_); rintro e w1 ⟨rfl, rfl⟩))
        go_ret
        exact ⟨ret_bool (by rw [← R.out]; rw [D.out]; rfl), (by repeat (first | (with_reducible exact Below.refl _ _) | (with_reducible refine Below.setCell ?_ (by first | (simp; done) | (simp; omega) | omega) _) | (with_reducible refine Below.alloc ?_ (by first | (simp; done) | (simp; omega) | omega) _) | (with_reducible refine Below.drew ?_) | (with_reducible refine below_drewN ?_ _)))⟩
    · have n1 : ((strat : Int) == 0) = false := by simp; omega
      have D : Hid (decide (strat = 0) = false) := hid (by simp; omega)
      clear s0
      go_enter Try.func129, Try.ntmps129
      go_wp2_with (go_at_call 104; first | ((with_reducible refine (H1.out _).mono ?_); rintro e w1 ⟨rfl, rfl⟩))
      go_ret
      exact ⟨ret_bool (by rw [← R.out]; rw [D.out]; rfl), (by repeat (first | (with_reducible exact Below.refl _ _) | (with_reducible refine Below.setCell ?_ (by first | (simp; done) | (simp; omega) | omega) _) | (with_reducible refine Below.alloc ?_ (by first | (simp; done) | (simp; omega) | omega) _) | (with_reducible refine Below.drew ?_) | (with_reducible refine below_drewN ?_ _)))⟩
  | false =>
    by_cases s0 : id_ = 0
    · subst s0
      cases fall <;> (
        go_enter Try.func129, Try.ntmps129
        go_wp2_with (go_at_call 104; first | ((with_reducible refine (H1.out _).mono ?_); rintro e w1 ⟨rfl, rfl⟩))
        go_ret
        exact ⟨ret_bool (by rw [← R.out]; rfl), (by repeat (first | (with_reducible exact Below.refl _ _) | (with_reducible refine Below.setCell ?_ (by first | (simp; done) | (simp; omega) | omega) _) | (with_reducible refine Below.alloc ?_ (by first | (simp; done) | (simp; omega) | omega) _) | (with_reducible refine Below.drew ?_) | (with_reducible refine below_drewN ?_ _)))⟩)
    · have n1 : (id_ == 0) = false := by simp; omega
      have D : Hid (decide (id_ = 0) = false) := hid (by simp; omega)
      clear s0
      go_enter Try.func129, Try.ntmps129
      go_wp2_with (go_at_call 104; first | ((with_reducible refine (H1.out _).mono ?_); rintro e w1 ⟨rfl, rfl⟩))
      go_ret
      exact ⟨ret_bool (by rw [← R.out]; rw [D.out]; rfl), (by repeat (first | (with_reducible exact Below.refl _ _) | (with_reducible refine Below.setCell ?_ (by first | (simp; done) | (simp; omega) | omega) _) | (with_reducible refine Below.alloc ?_ (by first | (simp; done) | (simp; omega) | omega) _) | (with_reducible refine Below.drew ?_) | (with_reducible refine below_drewN ?_ _)))⟩

theorem isNamed_any (f : Flow) (w : World) (h1 : f.res.size ≤ maxLen) (h2 : f.org.size ≤ maxLen) (h3 : f.ref.size ≤ maxLen) :
    Calls Try.prog 125 #[.agg (fv f)] w fun e w' => e = .returned (.bool (namedF f)) ∧ Below w.heap.size w w' :=
  isNamed_core f.res f.org f.thr f.cnt f.strat f.ref f.shape f.warm f.queue f.clus f.id_ f.fall _ _ _ _ (hid rfl) w (hid fun w => IsName_any _ w h1) (hid fun w => IsName_any _ w h2) (hid fun w => IsName_any _ w h3)
theorem mayCount_any (f : Flow) (w : World) : Calls Try.prog 126 #[.agg (fv f)] w fun e w' => e = .returned (.bool (countF f)) ∧ Below w.heap.size w w' :=
  mayCount_core f.res f.org f.thr f.cnt f.strat f.ref f.shape f.warm f.queue f.clus f.id_ f.fall _ _ _ (hid rfl) w (hid fun w => within_any _ _ _ w) (hid fun w => within_any _ _ _ w)
theorem mayLook_any (f : Flow) (w : World) : Calls Try.prog 127 #[.agg (fv f)] w fun e w' => e = .returned (.bool (lookF f)) ∧ Below w.heap.size w w' :=
  mayLook_core f.res f.org f.thr f.cnt f.strat f.ref f.shape f.warm f.queue f.clus f.id_ f.fall _ (hid rfl) w
theorem mayWait_any (f : Flow) (w : World) : Calls Try.prog 128 #[.agg (fv f)] w fun e w' => e = .returned (.bool (waitF f)) ∧ Below w.heap.size w w' :=
  mayWait_core f.res f.org f.thr f.cnt f.strat f.ref f.shape f.warm f.queue f.clus f.id_ f.fall _ _ _ _ _ (hid rfl) w (hid fun w => withinIf_any _ _ _ _ w) (hid fun w => withinIf_any _ _ _ _ w) (hid fun w => withinIf_any _ _ _ _ w) (hid fun w => withinIf_any _ _ _ _ w)
theorem mayShare_any (f : Flow) (w : World) : Calls Try.prog 129 #[.agg (fv f)] w fun e w' => e = .returned (.bool (shareF f)) ∧ Below w.heap.size w w' :=
  mayShare_core f.res f.org f.thr f.cnt f.strat f.ref f.shape f.warm f.queue f.clus f.id_ f.fall _ _ (hid rfl) w (hid fun w => within_any _ _ _ w)

end Go.Proofs.Ytcedbgoopolmdaa.RulB
