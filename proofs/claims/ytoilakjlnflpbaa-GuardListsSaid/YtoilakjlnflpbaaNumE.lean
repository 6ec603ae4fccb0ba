/- Contracts of the wide numbers: quotient, rounded; of Div, MulDiv, Share. -/
import Derived.Test.YtoilakjlnflpbaaNumD
namespace Go.Proofs.Ytoilakjlnflpbaa.NumE
open Go.ChangeShapes Go.WideShapes Go.ChangeAt Go.RowKit Base NumM NumA NumB NumC NumD DivM DivA DivB

theorem hi_nat (q : Nat) (h : q / 18446744073709551616 < 18446744073709551616) : hiN (q : Int) = q / 18446744073709551616 := by unfold hiN; omega
theorem lo_nat (q : Nat) : loN (q : Int) = q % 18446744073709551616 := by unfold loN; omega

theorem quot_words {m d : Nat} (hd : 0 < d) (_hd2 : d < 18446744073709551616) (hm : m < 340282366920938463463374607431768211456) :
    m / 18446744073709551616 / d = m / d / 18446744073709551616 ∧ ((m / 18446744073709551616 % d) * 18446744073709551616 + m % 18446744073709551616) / d = m / d % 18446744073709551616 ∧
    ((m / 18446744073709551616 % d) * 18446744073709551616 + m % 18446744073709551616) % d = m % d ∧ m / d / 18446744073709551616 < 18446744073709551616 := by
  have h1 : m / 18446744073709551616 / d = m / d / 18446744073709551616 := by rw [Nat.div_div_eq_div_mul, Nat.div_div_eq_div_mul, Nat.mul_comm]
  have e : m = d * (m / 18446744073709551616 / d * 18446744073709551616) + ((m / 18446744073709551616 % d) * 18446744073709551616 + m % 18446744073709551616) := by
    have a : m / 18446744073709551616 = d * (m / 18446744073709551616 / d) + m / 18446744073709551616 % d := (Nat.div_add_mod _ _).symm
    have b : m = m / 18446744073709551616 * 18446744073709551616 + m % 18446744073709551616 := (Nat.div_add_mod' _ _).symm
    generalize m / 18446744073709551616 = h at *
    generalize m % 18446744073709551616 = l at *
    rw [b, ← Nat.mul_assoc]
    generalize h / d = x at *
    generalize h % d = y at *
    rw [a, Nat.add_mul]
    omega
  have hr : m / 18446744073709551616 % d < d := Nat.mod_lt _ hd
  have hlt : ((m / 18446744073709551616 % d) * 18446744073709551616 + m % 18446744073709551616) / d < 18446744073709551616 := by
    rw [Nat.div_lt_iff_lt_mul hd]
    have hl : m % 18446744073709551616 < 18446744073709551616 := Nat.mod_lt _ (by decide)
    generalize m / 18446744073709551616 % d = y at *
    generalize m % 18446744073709551616 = l at *
    omega
  have hdiv : m / d = m / 18446744073709551616 / d * 18446744073709551616 + ((m / 18446744073709551616 % d) * 18446744073709551616 + m % 18446744073709551616) / d := by
    rw [← Nat.mul_add_div hd, ← e]
  have hmod : ((m / 18446744073709551616 % d) * 18446744073709551616 + m % 18446744073709551616) % d = m % d := by
    rw [← Nat.mul_add_mod d (m / 18446744073709551616 / d * 18446744073709551616), ← e]
  refine ⟨h1, ?_, hmod, ?_⟩
  · generalize ((m / 18446744073709551616 % d) * 18446744073709551616 + m % 18446744073709551616) / d = z at *
    rw [hdiv]
    omega
  · have : m / d ≤ m := Nat.div_le_self _ _
    omega

theorem quotient_any (n c : Int) (hn : Bd n) (hc : Fits c) (h0 : c ≠ 0) {v : Value} (hv : v = .agg #[.int .u64 (hiN n), .int .u64 (loN n), .int .i64 c]) (w : World) :
    Calls Try.prog 89 #[v] w fun e w' => e = .returned (.tuple #[W ((n.natAbs / c.natAbs : Nat) : Int), .bool (decide (n.natAbs % c.natAbs = 0))]) ∧ Below w.heap.size w w' := by
  subst hv
  have hd : 0 < c.natAbs := by omega
  have hd2 : c.natAbs < 18446744073709551616 := by unfold Fits at hc; omega
  have hm : n.natAbs < 340282366920938463463374607431768211456 := by unfold Bd at hn; omega
  obtain ⟨q1, q2, q3, q4⟩ := quot_words hd hd2 hm
  have e1 : hiN (n.natAbs : Int) = n.natAbs / 18446744073709551616 := by unfold hiN; omega
  have e2 : loN (n.natAbs : Int) = n.natAbs % 18446744073709551616 := by unfold loN; omega
  have e3 : loN (c.natAbs : Int) = c.natAbs := by unfold loN; omega
  have e4 : hiN ((n.natAbs / c.natAbs : Nat) : Int) = n.natAbs / c.natAbs / 18446744073709551616 := hi_nat _ q4
  have e5 : loN ((n.natAbs / c.natAbs : Nat) : Int) = n.natAbs / c.natAbs % 18446744073709551616 := lo_nat _
  unfold W
  rw [e4, e5]
  refine quot_core n c n.natAbs c.natAbs _ _ ((n.natAbs / 18446744073709551616 % c.natAbs : Nat) : Int) ((n.natAbs % c.natAbs : Nat) : Int) _ w (hid ?_) ?_ ?_ ?_ ?_ ?_ (hid fun w => size_any n hn w) (hid fun w => widen_any c hc.1 hc.2 w) (hid fun w => size_any c (by unfold Fits at hc; unfold Bd; omega) w)
  · intro w
    rw [e2, e3]
    have := div64_any (n.natAbs / 18446744073709551616 % c.natAbs) (n.natAbs % 18446744073709551616) c.natAbs (Nat.mod_lt _ hd) (Nat.mod_lt _ (by decide)) hd2 w
    rw [q2, q3] at this
    exact this
  · rw [e1, e3]; exact (Int.natCast_emod _ _).symm
  · rw [e1, e3, div_n, q1]; exact w_nat _ q4
  · rw [e3, beq_eq_false_iff_ne]; omega
  · rw [e3]; omega
  · by_cases h : n.natAbs % c.natAbs = 0
    · rw [h]; rfl
    · rw [decide_eq_false h, beq_eq_false_iff_ne]; omega

/-- .. of one block alone -/
theorem bat {B : Nat} {W w1 : World} (hb : Below B W w1) (n : Nat) (hn : n < B) : (∀ o, w1.cell? ⟨n, o, none⟩ = W.cell? ⟨n, o, none⟩) ∧ (∀ o, w1.frozen? ⟨n, o, none⟩ = W.frozen? ⟨n, o, none⟩) :=
  ⟨fun o => hb.cell (p := ⟨n, o, none⟩) hn, fun o => hb.frozen (p := ⟨n, o, none⟩) hn⟩

/-- the box of a fraction stays -/
structure Frac (w : World) (h l c : Int) (x : World) : Prop where
  k1 : x.cell? ⟨w.heap.size, 0, none⟩ = some (.int .u64 h)
  k2 : x.cell? ⟨w.heap.size, 1, none⟩ = some (.int .u64 l)
  k3 : x.cell? ⟨w.heap.size, 2, none⟩ = some (.int .i64 c)
  k0 : w.heap.size < x.heap.size
  k9 : Below w.heap.size w x

theorem Frac.step {w x y : World} {h l c : Int} (H : Frac w h l c x) (hb : Below x.heap.size x y) : Frac w h l c y where
  k1 := (hb.cell (p := ⟨w.heap.size, 0, none⟩) H.k0).trans H.k1
  k2 := (hb.cell (p := ⟨w.heap.size, 1, none⟩) H.k0).trans H.k2
  k3 := (hb.cell (p := ⟨w.heap.size, 2, none⟩) H.k0).trans H.k3
  k0 := Nat.lt_of_lt_of_le H.k0 hb.size
  k9 := H.k9.trans (hb.mono (by have := H.k0; omega))

theorem Frac.drew {w x : World} {h l c : Int} (H : Frac w h l c x) : Frac w h l c x.drew := ⟨H.k1, H.k2, H.k3, H.k0, H.k9.drew⟩

/-- what the code makes of a quotient without its sign -/
def mend (q : Int) (ex up b0 : Bool) : Int := if b0 then -(if !ex && (up != b0) then q + 1 else q) else (if !ex && (up != b0) then q + 1 else q)

set_option maxHeartbeats 2000000 in
theorem rounded_zero (h l : Int) (up : Bool) (w : World) :
    Calls Try.prog 77 #[.agg #[.int .u64 h, .int .u64 l, .int .i64 0], .bool up] w fun e w' => e = .returned (.tuple #[.int .i64 0, .int .i64 9]) ∧ Below w.heap.size w w' := by
  go_enter Try.func77, Try.ntmps77
  go_wp2
  go_ret2
  exact ⟨rfl, (by repeat (first | (with_reducible exact Below.refl _ _) | (with_reducible refine Below.setCell ?_ (by first | (simp; done) | (simp; omega) | omega) _) | (with_reducible refine Below.alloc ?_ (by first | (simp; done) | (simp; omega) | omega) _) | (with_reducible refine Below.drew ?_)))⟩

set_option maxRecDepth 20000 in
set_option maxHeartbeats 4000000 in
theorem rounded_core (n c q tn te : Int) (ex up nn cn b0 : Bool) (w : World) (h0 : (c == 0) = false) (hcn : decide (c < 0) = cn) (hb0 : b0 = (nn != cn))
    (HN : Hid (∀ w, Calls Try.prog 88 #[W n] w fun e w' => e = .returned (.bool nn) ∧ Below w.heap.size w w'))
    (HQ : Hid (∀ w, Calls Try.prog 89 #[.agg #[.int .u64 (hiN n), .int .u64 (loN n), .int .i64 c]] w fun e w' => e = .returned (.tuple #[W q, .bool ex]) ∧ Below w.heap.size w w'))
    (HT : Hid (∀ w, Calls Try.prog 92 #[W (mend q ex up b0)] w fun e w' => e = .returned (.tuple #[.int .i64 tn, .int .i64 te]) ∧ Below w.heap.size w w')) :
    Calls Try.prog 77 #[.agg #[.int .u64 (hiN n), .int .u64 (loN n), .int .i64 c], .bool up] w fun e w' => e = .returned (.tuple #[.int .i64 tn, .int .i64 te]) ∧ Below w.heap.size w w' := by
  have hb1 : (nn != cn) = b0 := hb0.symm
  clear hb0
  go_enter Try.func77, Try.ntmps77
  go_upto_region 3 with fail
  have HH : Frac w (hiN n) (loN n) c (w.alloc (.cells #[.int .u64 (hiN n), .int .u64 (loN n), .int .i64 c] 122)) :=
    ⟨by go_simp, by go_simp, by go_simp, by simp, (by repeat (first | (with_reducible exact Below.refl _ _) | (with_reducible refine Below.setCell ?_ (by first | (simp; done) | (simp; omega) | omega) _) | (with_reducible refine Below.alloc ?_ (by first | (simp; done) | (simp; omega) | omega) _) | (with_reducible refine Below.drew ?_)))⟩
  generalize (w.alloc (.cells #[.int .u64 (hiN n), .int .u64 (loN n), .int .i64 c] 122)) = wx at *
  have H := hid HH
  obtain ⟨k1, k2, k3, k0, k9⟩ := HH
  clear k9
  go_cut [6] (fun s6 wx => s6 = .bool b0 ∧ Frac w (hiN n) (loN n) c wx)
  case first =>
    go_region_with (go_at_call 88; refine (HN.out _).mono ?_; rintro e w1 ⟨rfl, hb⟩; have H1 := hid (Frac.step (Frac.drew H.out) hb); obtain ⟨q1, q2, q3, q0, q9⟩ := H1.out; clear q9)
    all_goals
      go_wp2_with fail
      go_meet
      exact ⟨congrArg Value.bool hb1, H1.out⟩
  case rest =>
    obtain ⟨rfl, HF⟩ := hcut
    clear k1 k2 k3 k0 H HN hb1 hcn
    have H := hid HF
    obtain ⟨k1, k2, k3, k0, k9⟩ := HF
    clear k9
    go_wp2_with fail
    refine (HQ.out _).mono ?_
    rintro e w1 ⟨rfl, hb⟩
    have H1 := hid (H.out.step hb)
    have hz1 := H1.out.k0
    clear k1 k2 k3 k0 hb H HQ
    cases ex <;> cases up <;> cases b0 <;> simp only [mend, Bool.not_false, Bool.not_true, Bool.true_and, Bool.false_and, bne_self_eq_false, Bool.false_eq_true, if_true, if_false, Bool.bne_true, Bool.bne_false] at HT
    all_goals
      go_wp2_with (first | (go_at_call 90; refine (plus_eq q 1 rfl rfl _).mono ?_; rintro e w2 ⟨rfl, hb2⟩; obtain ⟨hc2, hf2⟩ := bat hb2 w1.heap.size (by first | (simp; done) | (simp; omega)); have hz2 := hb2.size; (try simp at hz2); have hz3 : w1.heap.size < w2.heap.size := (by omega); have c20 : w2.cell? ⟨w1.heap.size, 0, none⟩ = some (.int .u64 (hiN q)) := (hc2 0).trans (by go_simp); have c21 : w2.cell? ⟨w1.heap.size, 1, none⟩ = some (.int .u64 (loN q)) := (hc2 1).trans (by go_simp); have f20 : w2.frozen? ⟨w1.heap.size, 0, none⟩ = false := (hf2 0).trans (by go_simp); have f21 : w2.frozen? ⟨w1.heap.size, 1, none⟩ = false := (hf2 1).trans (by go_simp); clear hc2 hf2) | (go_at_call 91; first | ((with_reducible refine (negated_any q _).mono ?_); rintro e w3 ⟨rfl, hb3⟩; obtain ⟨hc3, hf3⟩ := bat hb3 w1.heap.size (by first | (simp; done) | (simp; omega)); have hz4 := hb3.size; (try simp at hz4); have hz5 : w1.heap.size < w3.heap.size := (by omega); have c30 : w3.cell? ⟨w1.heap.size, 0, none⟩ = some (.int .u64 (hiN q)) := (hc3 0).trans (by go_simp); have c31 : w3.cell? ⟨w1.heap.size, 1, none⟩ = some (.int .u64 (loN q)) := (hc3 1).trans (by go_simp); have f30 : w3.frozen? ⟨w1.heap.size, 0, none⟩ = false := (hf3 0).trans (by go_simp); have f31 : w3.frozen? ⟨w1.heap.size, 1, none⟩ = false := (hf3 1).trans (by go_simp); clear hc3 hf3) | ((with_reducible refine (negated_any (q + 1) _).mono ?_); rintro e w3 ⟨rfl, hb3⟩; obtain ⟨hc3, hf3⟩ := bat hb3 w1.heap.size (by first | (simp; done) | (simp; omega)); have hz4 := hb3.size; (try simp at hz4); have hz5 : w1.heap.size < w3.heap.size := (by omega); have c30 : w3.cell? ⟨w1.heap.size, 0, none⟩ = some (.int .u64 (hiN (q + 1))) := (hc3 0).trans (by go_simp); have c31 : w3.cell? ⟨w1.heap.size, 1, none⟩ = some (.int .u64 (loN (q + 1))) := (hc3 1).trans (by go_simp); have f30 : w3.frozen? ⟨w1.heap.size, 0, none⟩ = false := (hf3 0).trans (by go_simp); have f31 : w3.frozen? ⟨w1.heap.size, 1, none⟩ = false := (hf3 1).trans (by go_simp); clear hc3 hf3)) | (go_at_call 92; refine (HT.out _).mono ?_; rintro e w4 ⟨rfl, hb4⟩))
      have hb1 := H1.out.k9
      clear H1
      go_ret2
      exact ⟨rfl, (by repeat (first | (with_reducible exact Below.refl _ _) | (with_reducible refine Below.setCell ?_ (by first | (simp; done) | (simp; omega) | omega) _) | (with_reducible refine Below.alloc ?_ (by first | (simp; done) | (simp; omega) | omega) _) | (with_reducible refine Below.drew ?_) | (with_reducible refine below_drewN ?_ _) | (with_reducible exact hb4) | (with_reducible exact hb3) | (with_reducible exact hb2) | (with_reducible exact hb1) | (with_reducible refine Below.trans ?_ (Below.mono hb4 (by first | (simp; done) | (simp; omega) | omega))) | (with_reducible refine Below.trans ?_ (Below.mono hb3 (by first | (simp; done) | (simp; omega) | omega))) | (with_reducible refine Below.trans ?_ (Below.mono hb2 (by first | (simp; done) | (simp; omega) | omega))) | (with_reducible refine Below.trans ?_ (Below.mono hb1 (by first | (simp; done) | (simp; omega) | omega)))))⟩

/-- a number by another, rounded down or up -/
def rdiv (n c : Int) (up : Bool) : Int := mend ((n.natAbs / c.natAbs : Nat) : Int) (decide (n.natAbs % c.natAbs = 0)) up (neg n != neg c)

theorem bd_rdiv {n c : Int} (_hn : Bd n) (up : Bool) (h : n.natAbs < 170141183460469231731687303715884105728) : Bd (rdiv n c up) := by
  unfold rdiv mend
  have h1 : n.natAbs / c.natAbs ≤ n.natAbs := Nat.div_le_self _ _
  by_cases h2 : n.natAbs / c.natAbs = n.natAbs
  · by_cases h3 : c.natAbs = 1
    · have : n.natAbs % c.natAbs = 0 := by rw [h3]; omega
      rw [h2, this]
      unfold Bd
      simp <;> (try split) <;> omega
    · have h4 : n.natAbs = 0 := by
        rcases Nat.eq_zero_or_pos c.natAbs with hc | hc
        · rw [hc] at h2; simp at h2; omega
        · rcases Nat.eq_zero_or_pos n.natAbs with hp | hp
          · exact hp
          · have := Nat.div_lt_self hp (show 1 < c.natAbs by omega); omega
      rw [h2, h4]
      unfold Bd
      simp <;> (try split) <;> (try split) <;> omega
  · generalize n.natAbs / c.natAbs = q at *
    unfold Bd
    split <;> split <;> omega

theorem rounded_any (n c : Int) (up : Bool) (hn : Bd n) (hn2 : n.natAbs < 170141183460469231731687303715884105728) (hc : Fits c) (h0 : c ≠ 0) {v : Value} (hv : v = .agg #[.int .u64 (hiN n), .int .u64 (loN n), .int .i64 c]) (w : World) :
    Calls Try.prog 77 #[v, .bool up] w fun e w' => e = .returned (.tuple #[.int .i64 (tellN (rdiv n c up)), .int .i64 (tellE (rdiv n c up))]) ∧ Below w.heap.size w w' := by
  subst hv
  exact rounded_core n c ((n.natAbs / c.natAbs : Nat) : Int) _ _ (decide (n.natAbs % c.natAbs = 0)) up (neg n) (neg c) _ w (by rw [beq_eq_false_iff_ne]; exact h0) rfl rfl (hid fun w => negative_any n hn w) (hid fun w => quotient_any n c hn hc h0 rfl w) (hid fun w => narrow_any _ (bd_rdiv hn up hn2) rfl w)

/-- the answer of MulDiv and of Div -/
def divN (n c : Int) (up : Bool) : Int := if c = 0 then 0 else tellN (rdiv n c up)
def divE (n c : Int) (up : Bool) : Int := if c = 0 then 9 else tellE (rdiv n c up)

theorem rounded_all (n c : Int) (up : Bool) (hn : Bd n) (hn2 : n.natAbs < 170141183460469231731687303715884105728) (hc : Fits c) {v : Value} (hv : v = .agg #[.int .u64 (hiN n), .int .u64 (loN n), .int .i64 c]) (w : World) :
    Calls Try.prog 77 #[v, .bool up] w fun e w' => e = .returned (.tuple #[.int .i64 (divN n c up), .int .i64 (divE n c up)]) ∧ Below w.heap.size w w' := by
  unfold divN divE
  by_cases h : c = 0
  · subst hv h
    rw [if_pos rfl, if_pos rfl]
    exact rounded_zero _ _ up w
  · rw [if_neg h, if_neg h]
    exact rounded_any n c up hn hn2 hc h hv w

theorem abs_mul {a b : Int} (ha : Fits a) (hb : Fits b) : (a * b).natAbs < 170141183460469231731687303715884105728 := by
  rw [Int.natAbs_mul]
  have : a.natAbs * b.natAbs ≤ 9223372036854775808 * 9223372036854775808 := Nat.mul_le_mul (by unfold Fits at ha; omega) (by unfold Fits at hb; omega)
  omega

set_option maxHeartbeats 400000 in
theorem muldiv_any (a b c : Int) (up : Bool) (ha : Fits a) (hb : Fits b) (hc : Fits c) (w : World) :
    Calls Try.prog 60 #[.int .i64 a, .int .i64 b, .int .i64 c, .bool up] w fun e w' => e = .returned (.tuple #[.int .i64 (divN (a * b) c up), .int .i64 (divE (a * b) c up)]) ∧ Below w.heap.size w w' := by
  have HA := hid ha
  have HB := hid hb
  have HC := hid hc
  clear ha hb hc
  go_enter Try.func60, Try.ntmps60
  go_wp2_with fail
  refine (product_any a b HA.out HB.out _).mono ?_
  rintro e w1 ⟨rfl, hb1⟩
  go_wp2_with fail
  refine (rounded_all (a * b) c up (bd_mul HA.out HB.out) (abs_mul HA.out HB.out) HC.out rfl _).mono ?_
  rintro e w2 ⟨rfl, hb2⟩
  go_wp2
  go_ret2
  have hz := hb1.size
  exact ⟨rfl, (by repeat (first | (with_reducible exact Below.refl _ _) | (with_reducible refine Below.setCell ?_ (by first | (simp; done) | (simp; omega) | omega) _) | (with_reducible refine Below.alloc ?_ (by first | (simp; done) | (simp; omega) | omega) _) | (with_reducible refine Below.drew ?_) | (with_reducible refine below_drewN ?_ _) | (with_reducible exact hb2) | (with_reducible exact hb1) | (with_reducible refine Below.trans ?_ (Below.mono hb2 (by first | (simp; done) | (simp; omega) | omega))) | (with_reducible refine Below.trans ?_ (Below.mono hb1 (by first | (simp; done) | (simp; omega) | omega)))))⟩


end Go.Proofs.Ytoilakjlnflpbaa.NumE
