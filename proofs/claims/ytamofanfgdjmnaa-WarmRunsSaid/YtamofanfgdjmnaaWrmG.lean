/- Calls of a warm-up: what is refused, the rate by a filling, a filling. -/
import Derived.Test.YtamofanfgdjmnaaWrmF
import Derived.Deep.RegionLaw
namespace Go.Proofs.Ytamofanfgdjmnaa.WrmG
set_option linter.unusedVariables false
open Go.ChangeShapes Go.WideShapes Go.ChangeAt Go.RowKit Base WrmP NumM NumC NumE NumA WrmA WrmB WrmC WrmD WrmE WrmF Wri

abbrev ptr (p : Nat) : Value := .pointer (some ⟨p, 0, none⟩)

/-- the errors of a time and of what passed -/
def ref2 (last t past : Int) : Int := if inW t 0 1152921504606846976 && inW past 0 4611686018427387904 then (if t < last then 7 else 0) else 2
def ask (now n : Int) : Bool := inW now 0 4611686018427387904 && inW n 1 1099511627776
def ref4 (last t past now n : Int) : Int := if inW t 0 1152921504606846976 && inW past 0 4611686018427387904 && ask now n then (if t < last then 7 else 0) else 2

set_option maxHeartbeats 400000 in
theorem mayBe_any (now n : Int) (w : World) :
    Calls Try.prog 47 #[.agg #[.int .i64 now, .int .i64 n]] w fun e w' => e = .returned (.bool (ask now n)) ∧ Below w.heap.size w w' := by
  unfold ask
  have HA := hid (within_any now 0 4611686018427387904)
  have HB := hid (within_any n 1 1099511627776)
  generalize inW now 0 4611686018427387904 = b1 at *
  generalize inW n 1 1099511627776 = b2 at *
  go_enter Try.func47, Try.ntmps47
  cases b1 with
  | false =>
    go_wp2_with fail
    refine (HA.out _).mono ?_
    rintro e w1 ⟨rfl, rfl⟩
    go_wp2_with fail
    go_ret
    exact ⟨rfl, (Below.refl w.heap.size w).alloc (Nat.le_refl _) _⟩
  | true =>
    go_wp2_with fail
    refine (HA.out _).mono ?_
    rintro e w1 ⟨rfl, rfl⟩
    go_wp2_with fail
    refine (HB.out _).mono ?_
    rintro e w1 ⟨rfl, rfl⟩
    go_wp2_with fail
    go_ret
    exact ⟨rfl, (Below.refl w.heap.size w).alloc (Nat.le_refl _) _⟩

set_option maxRecDepth 20000 in
set_option maxHeartbeats 1000000 in
theorem refuses_nil (t past : Int) (a : Option Addr) (n cap : Nat) (w : World) :
    Calls Try.prog 39 #[.pointer none, .int .i64 t, .int .i64 past, .slice a n cap] w fun e w' => e = .returned (.int .i64 1) ∧ w = w' := by
  go_enter Try.func39, Try.ntmps39
  go_wp2_with fail
  go_ret
  exact ⟨rfl, rfl⟩

set_option maxRecDepth 20000 in
set_option maxHeartbeats 1000000 in
theorem refuses_none (p : Nat) (t past last : Int) (w : World) (h : w.cell? ⟨p, 5, none⟩ = some (.int .i64 last)) :
    Calls Try.prog 39 #[ptr p, .int .i64 t, .int .i64 past, .slice none 0 0] w fun e w' => e = .returned (.int .i64 (ref2 last t past)) ∧ w = w' := by
  unfold ref2
  have HA := hid (within_any t 0 1152921504606846976)
  have HB := hid (within_any past 0 4611686018427387904)
  generalize inW t 0 1152921504606846976 = b1 at *
  generalize inW past 0 4611686018427387904 = b2 at *
  go_enter Try.func39, Try.ntmps39
  cases b1 with
  | false =>
    go_wp2_with fail
    refine (HA.out _).mono ?_
    rintro e w1 ⟨rfl, rfl⟩
    go_wp2_with fail
    go_ret
    exact ⟨rfl, rfl⟩
  | true =>
    go_wp2_with fail
    refine (HA.out _).mono ?_
    rintro e w1 ⟨rfl, rfl⟩
    cases b2 with
    | false =>
      go_wp2_with fail
      refine (HB.out _).mono ?_
      rintro e w1 ⟨rfl, rfl⟩
      go_wp2_with fail
      go_ret
      exact ⟨rfl, rfl⟩
    | true =>
      go_wp2_with fail
      refine (HB.out _).mono ?_
      rintro e w1 ⟨rfl, rfl⟩
      have HL := hid h
      clear h
      go_wp2_with fail
      go_loopw [23] (fun i wr => i = .int .i64 0 ∧ w = wr) (fun _ _ => 0)
      case atStart => exact ⟨rfl, rfl⟩
      case round =>
        obtain ⟨rfl, rfl⟩ := hrel
        have h := HL.out
        by_cases hlt : t < last
        · have h1 : decide (t < last) = true := by simpa using hlt
          go_wp2_with fail
          go_ret
          exact ⟨by simp, rfl⟩
        · have h1 : decide (t < last) = false := by simpa using hlt
          go_wp2_with fail
          go_ret
          exact ⟨by simp, rfl⟩

set_option maxRecDepth 20000 in
set_option maxHeartbeats 1000000 in
theorem refuses_one (p g : Nat) (t past now n last : Int) (w : World) (h : w.cell? ⟨p, 5, none⟩ = some (.int .i64 last)) (g0 : w.cell? ⟨g, 0, none⟩ = some (.int .i64 now)) (g1 : w.cell? ⟨g, 1, none⟩ = some (.int .i64 n)) :
    Calls Try.prog 39 #[ptr p, .int .i64 t, .int .i64 past, .slice (some ⟨g, 0, none⟩) 1 1] w fun e w' => e = .returned (.int .i64 (ref4 last t past now n)) ∧ Below w.heap.size w w' := by
  unfold ref4
  have HA := hid (within_any t 0 1152921504606846976)
  have HB := hid (within_any past 0 4611686018427387904)
  have HM := hid (mayBe_any now n)
  generalize inW t 0 1152921504606846976 = b1 at *
  generalize inW past 0 4611686018427387904 = b2 at *
  generalize ask now n = b3 at *
  go_enter Try.func39, Try.ntmps39
  cases b1 with
  | false =>
    go_wp2_with fail
    refine (HA.out _).mono ?_
    rintro e w1 ⟨rfl, rfl⟩
    go_wp2_with fail
    go_ret
    exact ⟨rfl, Below.refl _ _⟩
  | true =>
    go_wp2_with fail
    refine (HA.out _).mono ?_
    rintro e w1 ⟨rfl, rfl⟩
    cases b2 with
    | false =>
      go_wp2_with fail
      refine (HB.out _).mono ?_
      rintro e w1 ⟨rfl, rfl⟩
      go_wp2_with fail
      go_ret
      exact ⟨rfl, Below.refl _ _⟩
    | true =>
      go_wp2_with fail
      refine (HB.out _).mono ?_
      rintro e w1 ⟨rfl, rfl⟩
      have HL := hid h
      have HG := hid (And.intro g0 g1)
      clear h g0 g1
      go_wp2_with fail
      go_loopw [23] (fun i wr => (i = .int .i64 0 ∧ w = wr) ∨ (i = .int .i64 1 ∧ b3 = true ∧ Below w.heap.size w wr)) (fun i _ => 1 - (intOf i).toNat)
      case atStart => exact .inl ⟨rfl, rfl⟩
      case round =>
        rcases hrel with ⟨rfl, rfl⟩ | ⟨rfl, rfl, hb⟩
        · obtain ⟨g0, g1⟩ := HG.out
          cases b3 with
          | false =>
            go_wp2_with fail
            refine (HM.out _).mono ?_
            rintro e w2 ⟨rfl, hb2⟩
            have HB2 := hid hb2
            clear hb2
            go_wp2_with fail
            go_ret
            exact ⟨rfl, (by repeat (first | (with_reducible exact Below.refl _ _) | (with_reducible refine Below.setCell ?_ (by first | (simp; done) | (simp; omega) | omega) _) | (with_reducible refine Below.alloc ?_ (by first | (simp; done) | (simp; omega) | omega) _) | (with_reducible refine Below.drew ?_) | (with_reducible refine below_drewN ?_ _) | (with_reducible exact HB2.out) | (with_reducible refine Below.trans ?_ (Below.mono HB2.out (by first | (simp; done) | (simp; omega) | omega)))))⟩
          | true =>
            go_wp2_with fail
            refine (HM.out _).mono ?_
            rintro e w2 ⟨rfl, hb2⟩
            have HB2 := hid hb2
            clear hb2
            go_wp2_with fail
            exact ⟨.inr ⟨by trivial, by trivial, (by repeat (first | (with_reducible exact Below.refl _ _) | (with_reducible refine Below.setCell ?_ (by first | (simp; done) | (simp; omega) | omega) _) | (with_reducible refine Below.alloc ?_ (by first | (simp; done) | (simp; omega) | omega) _) | (with_reducible refine Below.drew ?_) | (with_reducible refine below_drewN ?_ _) | (with_reducible exact HB2.out) | (with_reducible refine Below.trans ?_ (Below.mono HB2.out (by first | (simp; done) | (simp; omega) | omega)))))⟩, by simp [intOf]⟩
        · have h := kc hb HL.out
          have HBB := hid hb
          clear hb
          by_cases hlt : t < last
          · have h1 : decide (t < last) = true := by simpa using hlt
            go_wp2_with fail
            go_ret
            exact ⟨by simp, HBB.out⟩
          · have h1 : decide (t < last) = false := by simpa using hlt
            go_wp2_with fail
            go_ret
            exact ⟨by simp, HBB.out⟩

end Go.Proofs.Ytamofanfgdjmnaa.WrmG
