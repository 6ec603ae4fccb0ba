/- Contracts of the wide numbers: widen, plus, narrow, and Add, for every number that fits. -/
import Derived.Test.YtnloedhcginopaaBase
import Derived.Laws.Externs
import Derived.Laws.StructEq
import Derived.Laws.Bits64

import Derived.Deep.RegionWith
import Derived.Test.YtnloedhcginopaaNumM
namespace Go.Proofs.Ytnloedhcginopaa.NumA
open Go.ChangeShapes Go.WideShapes Go.ChangeAt Go.RowKit Base NumM

abbrev W (n : Int) : Value := .agg #[.int .u64 (hiN n : Int), .int .u64 (loN n : Int)]

theorem call_add64 (x y c : Int) (hx : 0 ≤ x) (hy : 0 ≤ y) (h0 : 0 ≤ c) (hc : c ≤ 1) (w : World) :
    (callFunc 94 #[.int .u64 x, .int .u64 y, .int .u64 c]).run Try.prog w =
      .ok (.value (.tuple #[.int .u64 (cs x y c), .int .u64 (cc x y c)])) w := by
  rw [run_callFunc_extern (show Try.prog.funcs[94]? = some Try.f94 from by kernel_rfl) (by kernel_rfl) (by kernel_rfl) (by kernel_rfl) (e := add64Entry) (by kernel_rfl), Go.run_add64 x y c hx hy h0 hc]
  rfl

set_option maxHeartbeats 400000 in
theorem widen_any (n : Int) (h : -9223372036854775808 ≤ n) (h2 : n ≤ 9223372036854775807) (w : World) :
    Calls Try.prog 85 #[.int .i64 n] w fun e w' => e = .returned (W n) ∧ Below w.heap.size w w' := by
  have e1 : IntKind.u64.wrap (n / 9223372036854775808) = (hiN n : Int) := by rw [IntKind.wrap_u64]; unfold hiN; omega
  have e2 : IntKind.u64.wrap n = (loN n : Int) := by rw [IntKind.wrap_u64]; unfold loN; omega
  go_enter Try.func85, Try.ntmps85
  go_wp2
  exact bodyPost_ret (v := W n) (by simp [results, Try.results85, go_sem, W]) rfl ⟨rfl, (Below.refl _ _).alloc (Nat.le_refl _) _⟩

set_option maxHeartbeats 400000 in
theorem plus_core (a b c d : Int) (w : World)
    (h1 : ∀ w, (callFunc 94 #[.int .u64 b, .int .u64 d, .int .u64 0]).run Try.prog w = .ok (.value (.tuple #[.int .u64 (cs b d 0), .int .u64 (cc b d 0)])) w)
    (h2 : ∀ w, (callFunc 94 #[.int .u64 a, .int .u64 c, .int .u64 (cc b d 0)]).run Try.prog w = .ok (.value (.tuple #[.int .u64 (cs a c (cc b d 0)), .int .u64 (cc a c (cc b d 0))])) w) :
    Calls Try.prog 86 #[.agg #[.int .u64 a, .int .u64 b], .agg #[.int .u64 c, .int .u64 d]] w fun e w' => e = .returned (.agg #[.int .u64 (cs a c (cc b d 0)), .int .u64 (cs b d 0)]) ∧ Below w.heap.size w w' := by
  go_enter Try.func86, Try.ntmps86
  go_wp2
  exact bodyPost_ret (v := .agg #[.int .u64 (cs a c (cc b d 0)), .int .u64 (cs b d 0)]) (by simp [results, Try.results86, go_sem]) rfl ⟨rfl, (((Below.refl _ _).alloc (Nat.le_refl _) _).alloc (by simp) _).alloc (by simp; omega) _⟩

theorem plus_any (a b : Int) (w : World) :
    Calls Try.prog 86 #[W a, W b] w fun e w' => e = .returned (W (a + b)) ∧ Below w.heap.size w w' := by
  have a1 := hi_lt a; have a0 := lo_lt a; have b1 := hi_lt b; have b0 := lo_lt b
  have k := cc_bd (loN a) (loN b) 0 (by omega) (by omega) (by omega) (by omega) (by omega) (by omega)
  refine (plus_core (hiN a) (loN a) (hiN b) (loN b) w (fun w => call_add64 _ _ _ (by omega) (by omega) (by omega) (by omega) w) (fun w => call_add64 _ _ _ (by omega) (by omega) (by omega) (by omega) w)).mono ?_
  rintro e w' ⟨rfl, hb⟩
  refine ⟨?_, hb⟩
  unfold W
  rw [hi_add, lo_add]

theorem plus_eq (a b : Int) {v1 v2 : Value} (h1 : v1 = W a) (h2 : v2 = W b) (w : World) :
    Calls Try.prog 86 #[v1, v2] w fun e w' => e = .returned (W (a + b)) ∧ Below w.heap.size w w' := by
  subst h1 h2; exact plus_any a b w

set_option maxHeartbeats 400000 in
theorem narrow_yes (n : Int) (h : Fits n) (w : World) :
    Calls Try.prog 95 #[W n] w fun e w' => e = .returned (.tuple #[.int .i64 n, .int .i64 0]) ∧ Below w.heap.size w w' := by
  have hl := low_of h
  have e1 : wrap64 (loN n : Int) = n := by unfold low at hl; unfold wrap64; exact hl
  have h1 := h.1
  have h2 := h.2
  have HW : Hid (-9223372036854775808 ≤ n ∧ n ≤ 9223372036854775807) := hid h
  clear h1 h2 h hl
  unfold W
  go_enter Try.func95, Try.ntmps95
  go_wp2_with fail
  go_region_with (go_at_call 85; refine (widen_any _ HW.out.1 HW.out.2 _).mono ?_; rintro e w1 ⟨rfl, hb⟩; obtain ⟨hc, hf⟩ := bcell hb)
  all_goals
    go_wp2
    go_ret2
    exact ⟨rfl, (by repeat (first | (with_reducible exact Below.refl _ _) | (with_reducible refine Below.setCell ?_ (by first | (simp; done) | (simp; omega) | omega) _) | (with_reducible refine Below.alloc ?_ (by first | (simp; done) | (simp; omega) | omega) _) | (with_reducible refine Below.drew ?_) | (with_reducible refine Below.trans ?_ (Below.mono hb (by first | (simp; done) | (simp; omega) | omega)))))⟩

set_option maxHeartbeats 400000 in
theorem narrow_no_core (n m : Int) (w : World) (e1 : wrap64 (loN n : Int) = m) (HW : Hid (-9223372036854775808 ≤ m ∧ m ≤ 9223372036854775807)) (e2 : ((hiN m : Int) == (hiN n : Int)) = false) :
    Calls Try.prog 95 #[W n] w fun e w' => e = .returned (.tuple #[.int .i64 0, .int .i64 8]) ∧ Below w.heap.size w w' := by
  go_enter Try.func95, Try.ntmps95
  go_wp2_with fail
  go_region_with (go_at_call 85; refine (widen_any _ HW.out.1 HW.out.2 _).mono ?_; rintro e w1 ⟨rfl, hb⟩; obtain ⟨hc, hf⟩ := bcell hb)
  all_goals
    go_wp2
    go_ret2
    exact ⟨rfl, (by repeat (first | (with_reducible exact Below.refl _ _) | (with_reducible refine Below.setCell ?_ (by first | (simp; done) | (simp; omega) | omega) _) | (with_reducible refine Below.alloc ?_ (by first | (simp; done) | (simp; omega) | omega) _) | (with_reducible refine Below.drew ?_) | (with_reducible refine Below.trans ?_ (Below.mono hb (by first | (simp; done) | (simp; omega) | omega)))))⟩

theorem narrow_e2 {n : Int} (hl : hiN (low n) ≠ hiN n) : ((hiN (low n) : Int) == (hiN n : Int)) = false := by
  generalize hiN (low n) = a at *
  generalize hiN n = b at *
  rw [beq_eq_false_iff_ne]
  omega

theorem narrow_e1 (n : Int) : wrap64 (loN n : Int) = low n := by unfold wrap64; exact low_eq n

theorem narrow_no (n : Int) (hn : Bd n) (h : ¬ Fits n) (w : World) :
    Calls Try.prog 95 #[W n] w fun e w' => e = .returned (.tuple #[.int .i64 0, .int .i64 8]) ∧ Below w.heap.size w w' :=
  narrow_no_core n (low n) w (narrow_e1 n) (hid (low_fits n)) (narrow_e2 (NumM.narrow_no hn h))

/-- what a number is told as: itself, or ErrOver -/
def tellN (n : Int) : Int := if Fits n then n else 0
def tellE (n : Int) : Int := if Fits n then 0 else 8

theorem narrow_any (n : Int) (hn : Bd n) {v : Value} (hv : v = W n) (w : World) :
    Calls Try.prog 95 #[v] w fun e w' => e = .returned (.tuple #[.int .i64 (tellN n), .int .i64 (tellE n)]) ∧ Below w.heap.size w w' := by
  subst hv
  unfold tellN tellE
  by_cases h : Fits n
  · rw [if_pos h, if_pos h]; exact narrow_yes n h w
  · rw [if_neg h, if_neg h]; exact narrow_no n hn h w

end Go.Proofs.Ytnloedhcginopaa.NumA
