/- Bytes in memory; the calls of a frame's head. -/
import Derived.Test.YthmcfnbnafdkeaaFrmP
import Derived.Test.YthmcfnbnafdkeaaWri
import Derived.OwnWalk
import Derived.BigQuiet
import Derived.Laws.BitsLemmas
import Derived.Deep.RegionHeld3
namespace Go.Proofs.Ythmcfnbnafdkeaa.FrmA
open Go.ChangeShapes Go.WideShapes Go.ChangeAt Go.RowKit Base Wri FrmP
set_option linter.unusedVariables false
set_option linter.unusedSimpArgs false

/-- a byte as it lies in memory -/
def bv (x : UInt8) : Value := .int .u8 (x.toNat : Int)
/-- bytes that lie in a row, below a block -/
def BAt (w : World) (n0 : Nat) (a : Option Addr) (ss : Bs) : Prop :=
  0 < ss.length → ∃ g o, a = some ⟨g, o, none⟩ ∧ g < n0 ∧ ∀ i x, ss[i]? = some x → w.cell? ⟨g, o + i, none⟩ = some (bv x)

theorem BAt.below {w w' : World} {n0 : Nat} {a : Option Addr} {ss : Bs} (h : BAt w n0 a ss) (hb : Below n0 w w') : BAt w' n0 a ss := fun h0 => by
  obtain ⟨g, o, ha, hg, hc⟩ := h h0
  exact ⟨g, o, ha, hg, fun i x hx => (hb.cell (p := ⟨g, o + i, none⟩) hg).trans (hc i x hx)⟩
theorem BAt.mono {w : World} {n0 n1 : Nat} {a : Option Addr} {ss : Bs} (h : BAt w n0 a ss) (hb : n0 ≤ n1) : BAt w n1 a ss := fun h0 => by
  obtain ⟨g, o, ha, hg, hc⟩ := h h0
  exact ⟨g, o, ha, Nat.lt_of_lt_of_le hg hb, hc⟩
theorem BAt.drewN {w : World} {n0 : Nat} {a : Option Addr} {ss : Bs} (h : BAt w n0 a ss) (m : Nat) : BAt (w.drewN m) n0 a ss := h

/-- the number that the first k bytes say, with z for each that is not there -/
def sofar (z : UInt8) (b : Bs) : Nat → Nat
  | 0 => 0
  | k + 1 => sofar z b k * 256 + (b.getD k z).toNat
theorem sofar_num4 (b : Bs) : sofar 0 b 4 = num4 b := by simp [sofar, num4, hd]

theorem sofar_lt (z : UInt8) (b : Bs) (k : Nat) : sofar z b k < 256 ^ k := by
  induction k with
  | zero => simp [sofar]
  | succ k ih =>
    have := UInt8.toNat_lt (b.getD k z)
    simp only [sofar, Nat.pow_succ] at *
    omega
theorem sofar_small (z : UInt8) (b : Bs) {k : Nat} (h : k < 4) : sofar z b k < 16777216 := Nat.lt_of_lt_of_le (sofar_lt z b k) (by
  have := Nat.pow_le_pow_right (n := 256) (by decide) (show k ≤ 3 by omega)
  simpa using this)
theorem join8 (u x : Nat) (hu : u < 16777216) (hx : x < 256) : bits BinOp.or IntKind.i64 (wrap64 ((u : Int) * 256)) (wrap64 (x : Int)) = ((u * 256 + x : Nat) : Int) := by
  rw [show wrap64 ((u : Int) * 256) = (u : Int) * 256 by unfold wrap64; omega, show wrap64 (x : Int) = (x : Int) by unfold wrap64; omega]
  rw [bits_join .i64 40 (by decide) (fun n h0 h1 => by rw [IntKind.wrap_i64]; omega) 8 ((u : Int) * 256) (x : Int) (by omega) (by omega) (by omega) (by omega) (by omega) (by omega)]
  omega

theorem join8' (u x : Nat) (hu : u < 16777216) (hx : x < 256) : bits BinOp.or IntKind.i64 (wrap64 ((u : Int) * 256)) (x : Int) = ((u * 256 + x : Nat) : Int) := by
  have := join8 u x hu hx
  rwa [show wrap64 (x : Int) = (x : Int) by unfold wrap64; omega] at this

set_option maxRecDepth 20000 in
set_option maxHeartbeats 1000000 in
theorem lengths_any (a : Option Addr) (cap : Nat) (b : Bs) (w : World) (hn : b.length ≤ 9223372036854775807) (HB : Hid (BAt w w.heap.size a b)) :
    Calls Try.prog 76 #[.slice a b.length cap] w fun e w' => e = .returned (.tuple #[.int .i64 (sofar 0 b 4 : Nat), .int .i64 (sofar 255 b 4 : Nat)]) ∧ ∃ m, w.drewN m = w' := by
  obtain ⟨n, hln⟩ : ∃ n, b.length = n := ⟨_, rfl⟩
  have HL := hid hln
  rw [hln] at hn ⊢
  clear hln
  go_enter Try.func76, Try.ntmps76
  go_wp2_with fail
  go_loopw [2, 3, 7] (fun u v i wr => ∃ k m : Nat, k ≤ 4 ∧ u = .int .i64 (sofar 0 b k : Nat) ∧ v = .int .i64 (sofar 255 b k : Nat) ∧ i = .int .i64 k ∧ w.drewN m = wr) (fun _ _ i _ => 4 - (intOf i).toNat)
  case atStart => exact ⟨0, 0, Nat.zero_le _, rfl, rfl, rfl, rfl⟩
  case round =>
    obtain ⟨k, m, hk, rfl, rfl, rfl, hwr⟩ := hrel
    have HW := hid hwr
    by_cases h4 : k < 4
    · have HS0 := hid (sofar_small 0 b h4)
      have HS1 := hid (sofar_small 255 b h4)
      by_cases hlt : k < n
      · obtain ⟨g, o, rfl, hg, hc⟩ := HB.out (by rw [HL.out]; omega)
        obtain ⟨x, hx⟩ : ∃ x, b[k]? = some x := ⟨b[k]'(by rw [HL.out]; exact hlt), List.getElem?_eq_getElem _⟩
        have h1 : wr.cell? ⟨g, o + k, none⟩ = some (.int .u8 (x.toNat : Int)) := by rw [← HW.out]; exact hc k x hx
        have HN0 : Hid (sofar 0 b (k + 1) = sofar 0 b k * 256 + x.toNat) := hid (by simp [sofar, List.getD, hx])
        have HN1 : Hid (sofar 255 b (k + 1) = sofar 255 b k * 256 + x.toNat) := hid (by simp [sofar, List.getD, hx])
        clear hc hwr hx
        generalize sofar 0 b k = u at *
        generalize sofar 255 b k = v at *
        go_wp2_with fail
        go_quiet (fail)
        go_wp2_with fail
        refine ⟨⟨k + 1, m + nq, by omega, ?_, ?_, by go_num, by rw [← HW.out, World.drewN_drewN]⟩, by simp [intOf]; omega⟩
        · rw [join8 u x.toNat HS0.out (UInt8.toNat_lt x), HN0.out]
        · rw [join8 v x.toNat HS1.out (UInt8.toNat_lt x), HN1.out]
      · have hx : b[k]? = none := List.getElem?_eq_none (by rw [HL.out]; omega)
        have HN0 : Hid (sofar 0 b (k + 1) = sofar 0 b k * 256 + 0) := hid (by simp [sofar, List.getD, hx])
        have HN1 : Hid (sofar 255 b (k + 1) = sofar 255 b k * 256 + 255) := hid (by simp [sofar, List.getD, hx])
        clear hwr hx
        generalize sofar 0 b k = u at *
        generalize sofar 255 b k = v at *
        go_wp2_with fail
        refine ⟨⟨k + 1, m, by omega, ?_, ?_, by go_num, HW.out⟩, by simp [intOf]; omega⟩
        · have := join8' u 0 HS0.out (by decide)
          rw [HN0.out]; exact congrArg (Value.int .i64) this
        · have := join8' v 255 HS1.out (by decide)
          rw [HN1.out]; exact congrArg (Value.int .i64) this
    · obtain rfl : k = 4 := by omega
      clear hwr
      go_wp2_with fail
      go_ret2
      exact ⟨rfl, m, HW.out⟩

theorem most_may (b : Bs) : (decide (num4 b ≤ 4096) && decide (1 ≤ sofar 255 b 4)) = may b := by
  by_cases h : b.length < 4
  · rw [may_short h]
    have h3 : b[3]? = none := List.getElem?_eq_none (by omega)
    have : 1 ≤ sofar 255 b 4 := by simp only [sofar, List.getD, h3, Option.getD_none]; have : (255 : UInt8).toNat = 255 := by decide
                                   omega
    simp [this]
  · rw [may_long (by omega)]
    have e : sofar 255 b 4 = num4 b := by
      unfold num4 hd
      simp [sofar, List.getD, List.getElem?_eq_getElem (show 0 < b.length by omega), List.getElem?_eq_getElem (show 1 < b.length by omega), List.getElem?_eq_getElem (show 2 < b.length by omega), List.getElem?_eq_getElem (show 3 < b.length by omega)]
    rw [e]; unfold ok4; exact Bool.and_comm _ _

set_option maxRecDepth 20000 in
set_option maxHeartbeats 1000000 in
theorem mayBegin_any (a : Option Addr) (cap : Nat) (b : Bs) (w : World) (hn : b.length ≤ 9223372036854775807) (HB : Hid (BAt w w.heap.size a b)) :
    Calls Try.prog 75 #[.slice a b.length cap] w fun e w' => e = .returned (.bool (may b)) ∧ ∃ m, w.drewN m = w' := by
  have HM := hid (most_may b)
  have HC := hid (lengths_any a cap b w hn HB)
  rw [sofar_num4] at HC
  clear HB
  generalize b.length = n at *
  generalize num4 b = u at *
  generalize sofar 255 b 4 = v at *
  generalize may b = r at *
  go_enter Try.func75, Try.ntmps75
  go_wp2_with fail
  refine HC.out.mono ?_
  rintro e w1 ⟨rfl, m, hw1⟩
  clear HC
  have HW := hid hw1
  clear hw1
  by_cases h1 : u ≤ 4096
  · by_cases h2 : 1 ≤ v
    · have HR : Hid (r = true) := hid (by rw [← HM.out]; simp [h1, h2])
      go_wp2_with fail
      go_ret
      exact ⟨by rw [HR.out]; first | rfl | (simp; done) | (simp; omega), m, HW.out⟩
    · have HR : Hid (r = false) := hid (by rw [← HM.out]; simp [h1, h2])
      go_wp2_with fail
      go_ret
      exact ⟨by rw [HR.out]; first | rfl | (simp; done) | (simp; omega), m, HW.out⟩
  · have HR : Hid (r = false) := hid (by rw [← HM.out]; simp [h1])
    go_wp2_with fail
    go_ret
    exact ⟨by rw [HR.out]; first | rfl | (simp; done) | (simp; omega), m, HW.out⟩

/-- does a whole length stand ahead? -/
def isz (b : Bs) : Bool := decide (4 ≤ b.length) && ok4 b

set_option maxRecDepth 20000 in
set_option maxHeartbeats 1000000 in
theorem sizeOf_yes (a : Option Addr) (cap : Nat) (b : Bs) (w : World) (hn : b.length ≤ 9223372036854775807) (HB : Hid (BAt w w.heap.size a b)) (h4 : 4 ≤ b.length) (hok : ok4 b = true) :
    Calls Try.prog 48 #[.slice a b.length cap] w fun e w' => e = .returned (.tuple #[.int .i64 ((4 + num4 b : Nat) : Int), .bool true]) ∧ ∃ m, w.drewN m = w' := by
  have HM : ∀ m, Hid (Calls Try.prog 75 #[.slice a b.length cap] (w.drewN m) fun e w' => e = .returned (.bool true) ∧ ∃ m, w.drewN m = w') := fun m => hid ((mayBegin_any a cap b (w.drewN m) hn HB).mono fun e w' ⟨h1, m2, h2⟩ => ⟨by rw [h1, may_long h4, hok], m + m2, by rw [← h2, World.drewN_drewN]⟩)
  have HC : ∀ m, Hid (Calls Try.prog 76 #[.slice a b.length cap] (w.drewN m) fun e w' => e = .returned (.tuple #[.int .i64 (num4 b : Nat), .int .i64 (sofar 255 b 4 : Nat)]) ∧ ∃ m, w.drewN m = w') := fun m => hid ((lengths_any a cap b (w.drewN m) hn HB).mono fun e w' ⟨h1, m2, h2⟩ => ⟨by rw [h1, sofar_num4], m + m2, by rw [← h2, World.drewN_drewN]⟩)
  have h5 := (ok4_iff.1 hok).2
  clear HB hok
  generalize sofar 255 b 4 = v at *
  generalize num4 b = u at *
  generalize b.length = n at *
  go_enter Try.func48, Try.ntmps48
  go_wp2_with fail
  refine (HM 0).out.mono ?_
  rintro e w1 ⟨rfl, m, rfl⟩
  go_wp2_with fail
  refine (HC m).out.mono ?_
  rintro e w1 ⟨rfl, m2, hw2⟩
  have HW := hid hw2
  clear hw2
  go_wp2_with fail
  go_ret2
  exact ⟨by first | rfl | (simp; done) | (simp; omega), m2, HW.out⟩

set_option maxRecDepth 20000 in
set_option maxHeartbeats 1000000 in
theorem sizeOf_no (a : Option Addr) (cap : Nat) (b : Bs) (w : World) (hn : b.length ≤ 9223372036854775807) (HB : Hid (BAt w w.heap.size a b)) (hz : isz b = false) :
    Calls Try.prog 48 #[.slice a b.length cap] w fun e w' => e = .returned (.tuple #[.int .i64 0, .bool false]) ∧ ∃ m, w.drewN m = w' := by
  by_cases h4 : b.length < 4
  · generalize b.length = n at *
    clear HB hz
    go_enter Try.func48, Try.ntmps48
    go_wp2_with fail
    go_ret2
    exact ⟨rfl, 0, rfl⟩
  · have hok : ok4 b = false := by unfold isz at hz; simpa [show 4 ≤ b.length by omega] using hz
    have HM : Hid (Calls Try.prog 75 #[.slice a b.length cap] w fun e w' => e = .returned (.bool false) ∧ ∃ m, w.drewN m = w') := hid ((mayBegin_any a cap b w hn HB).mono fun e w' ⟨h1, h2⟩ => ⟨by rw [h1, may_long (by omega), hok], h2⟩)
    clear HB hz hok
    generalize b.length = n at *
    go_enter Try.func48, Try.ntmps48
    go_wp2_with fail
    refine HM.out.mono ?_
    rintro e w1 ⟨rfl, m, hw2⟩
    have HW := hid hw2
    clear hw2
    go_wp2_with fail
    go_ret2
    exact ⟨rfl, m, HW.out⟩

theorem cut_any (g o n cap size : Nat) (w : World) (h4 : 4 < size) (hs : size ≤ cap) (hc : cap ≤ 9223372036854775807) :
    Calls Try.prog 88 #[.slice (some ⟨g, o, none⟩) n cap, .int .i64 size] w fun e w' => e = .returned (.slice (some ⟨g, o + 4, none⟩) (size - 4) (size - 4)) ∧ w' = w := by
  have hne : ¬ size = 4 := by omega
  have hne2 : ¬ size - 4 = 0 := by omega
  go_enter Try.func88, Try.ntmps88
  go_wp2_with fail
  go_ret
  exact ⟨by first | rfl | (simp; done) | (simp; omega), rfl⟩

set_option maxRecDepth 20000 in
set_option maxHeartbeats 1000000 in
theorem begun_any (a : Option Addr) (cap : Nat) (b : Bs) (w : World) (hn : b.length ≤ 9223372036854775807) (HB : Hid (BAt w w.heap.size a b)) :
    Calls Try.prog 71 #[.slice a b.length cap] w fun e w' => e = .returned (.int .i64 (errOf b)) ∧ ∃ m, w.drewN m = w' := by
  have HM := hid (mayBegin_any a cap b w hn HB)
  by_cases h0 : b.length = 0
  · have HR : Hid (errOf b = 0) := hid (by unfold errOf; rw [if_pos h0])
    rw [h0] at HM ⊢
    rw [HR.out]
    clear HB hn
    go_enter Try.func71, Try.ntmps71
    go_wp2_with fail
    go_ret
    exact ⟨rfl, 0, rfl⟩
  · cases hm : may b with
    | true =>
      rw [show errOf b = 24 by unfold errOf; rw [if_neg h0, if_pos hm]]
      rw [hm] at HM
      clear HB hm
      generalize b.length = n at *
      go_enter Try.func71, Try.ntmps71
      go_wp2_with fail
      refine HM.out.mono ?_
      rintro e w1 ⟨rfl, m, hw2⟩
      have HW := hid hw2
      clear hw2
      go_wp2_with fail
      go_ret
      exact ⟨rfl, m, HW.out⟩
    | false =>
      rw [show errOf b = 50 by unfold errOf; rw [if_neg h0, if_neg (by simp [hm])]]
      rw [hm] at HM
      clear HB hm
      generalize b.length = n at *
      go_enter Try.func71, Try.ntmps71
      go_wp2_with fail
      refine HM.out.mono ?_
      rintro e w1 ⟨rfl, m, hw2⟩
      have HW := hid hw2
      clear hw2
      go_wp2_with fail
      go_ret
      exact ⟨rfl, m, HW.out⟩

end Go.Proofs.Ythmcfnbnafdkeaa.FrmA
