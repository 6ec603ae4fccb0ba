/- Contracts of the document's own wide numbers: by; of its Div, MulDiv, Share; of num's Share. -/
import Derived.Test.YtoilakjlnflpbaaRefD
namespace Go.Proofs.Ytoilakjlnflpbaa.RefE
open Go.ChangeShapes Go.WideShapes Go.ChangeAt Go.RowKit Base NumM NumA NumB NumC NumD NumE RefA RefB RefC RefD DivB

/-- the box of a number stays -/
structure Box (w : World) (b : Bool) (h l : Int) (x : World) : Prop where
  k1 : x.cell? ⟨w.heap.size, 0, none⟩ = some (.bool b)
  k2 : x.cell? ⟨w.heap.size, 1, none⟩ = some (.int .u64 h)
  k3 : x.cell? ⟨w.heap.size, 2, none⟩ = some (.int .u64 l)
  k0 : w.heap.size < x.heap.size
  k9 : Below w.heap.size w x

theorem of_m1 (w : World) : Calls Try.prog 82 #[.int .i64 (-1)] w fun e w' => e = .returned (S true 1) ∧ Below w.heap.size w w' := of_any (-1) (by decide) w
theorem of_p1 (w : World) : Calls Try.prog 82 #[.int .i64 1] w fun e w' => e = .returned (S false 1) ∧ Below w.heap.size w w' := of_any 1 (by decide) w

set_option maxRecDepth 20000 in
set_option maxHeartbeats 2000000 in
theorem by_core (b cn bb re up : Bool) (h l d : Nat) (c qh r ql rem : Int) (x : Bool) (m : Nat) (y : Bool) (k : Nat) (tn : Int) (ok : Bool) (w : World)
    (hcn : decide (c < 0) = cn) (_h0 : ((d : Int) == 0) = false) (hd : 0 < d) (er : (h : Int) % d = r) (eq_ : IntKind.u64.wrap ((h : Int) / d) = qh) (hre : decide (0 < rem) = re)
    (hz : ((b == cn) = true ∧ bb = false) ∨ ((b == cn) = false ∧ decide (0 < h) = true ∧ bb = true) ∨ ((b == cn) = false ∧ decide (0 < h) = false ∧ decide (0 < l) = bb))
    (HC : Hid (∀ w, Calls Try.prog 79 #[.int .i64 c] w fun e w' => e = .returned (.int .u64 d) ∧ w = w'))
    (HD : Hid (∀ w, Calls Try.prog 80 #[.int .u64 r, .int .u64 l, .int .u64 d] w fun e w' => e = .returned (.tuple #[.int .u64 ql, .int .u64 rem]) ∧ ∃ n, w' = w.drewN n))
    (HP : Hid (∀ w, Calls Try.prog 81 #[.agg #[.bool bb, .int .u64 qh, .int .u64 ql], S bb 1] w fun e w' => e = .returned (S x m) ∧ Below w.heap.size w w'))
    (HF : Hid ((re && (bb != up)) = true → y = x ∧ k = m)) (HG : Hid ((re && (bb != up)) = false → Value.agg #[.bool bb, .int .u64 qh, .int .u64 ql] = S y k))
    (HS : Hid (∀ w, Calls Try.prog 83 #[S y k] w fun e w' => e = .returned (.tuple #[.int .i64 tn, .bool ok]) ∧ Below w.heap.size w w')) :
    Calls Try.prog 62 #[.agg #[.bool b, .int .u64 h, .int .u64 l], .int .i64 c, .bool up] w fun e w' => e = .returned (.tuple #[.int .i64 tn, .bool ok]) ∧ Below w.heap.size w w' := by
  go_enter Try.func62, Try.ntmps62
  go_wp2_with fail
  refine (HC.out _).mono ?_
  rintro e w1 ⟨rfl, rfl⟩
  go_upto_region 2 with fail
  have H : Box w b h l (w.alloc (.cells #[.bool b, .int .u64 h, .int .u64 l] 97)) := ⟨by go_simp, by go_simp, by go_simp, by simp, (by repeat (first | (with_reducible exact Below.refl _ _) | (with_reducible refine Below.setCell ?_ (by first | (simp; done) | (simp; omega) | omega) _) | (with_reducible refine Below.alloc ?_ (by first | (simp; done) | (simp; omega) | omega) _) | (with_reducible refine Below.drew ?_)))⟩
  generalize (w.alloc (.cells #[.bool b, .int .u64 h, .int .u64 l] 97)) = wx at *
  have HB := hid H
  obtain ⟨k1, k2, k3, k0, k9⟩ := H
  clear k9
  go_cut [9] (fun s9 wy => s9 = .bool bb ∧ wy = wx)
  case first =>
    rcases hz with ⟨z1, rfl⟩ | ⟨z1, z2, rfl⟩ | ⟨z1, z2, rfl⟩
    all_goals
      go_wp2_with fail
      go_meet
      exact ⟨rfl, rfl⟩
  case rest =>
    obtain ⟨rfl, rfl⟩ := hcut
    clear hz hcn
    go_wp2_with fail
    go_quiet ((go_at_call 80; exact Calls.quiet_of (HD.out _)))
    have hq := below_drewN HB.out.k9 nq
    have hz : w.heap.size < (wc.drewN nq).heap.size := k0
    clear k1 k2 k3 k0 HB
    generalize wc.drewN nq = wd at *
    cases re
    · skip
      have HS2 := HS.out
      rw [← HG.out rfl] at HS2
      have HS3 := hid HS2
      clear HS2 HF HG HS HP HD HC
      go_wp2_with (go_at_call 83; refine (HS3.out _).mono ?_; rintro e w4 ⟨rfl, hb4⟩)
      go_ret2
      exact ⟨rfl, (by repeat (first | (with_reducible exact Below.refl _ _) | (with_reducible refine Below.setCell ?_ (by first | (simp; done) | (simp; omega) | omega) _) | (with_reducible refine Below.alloc ?_ (by first | (simp; done) | (simp; omega) | omega) _) | (with_reducible refine Below.drew ?_) | (with_reducible refine below_drewN ?_ _) | (with_reducible exact hb4) | (with_reducible exact hq) | (with_reducible refine Below.trans ?_ (Below.mono hb4 (by first | (simp; done) | (simp; omega) | omega))) | (with_reducible refine Below.trans ?_ (Below.mono hq (by first | (simp; done) | (simp; omega) | omega)))))⟩
    · cases bb <;> cases up
      · skip
        have HS2 := HS.out
        rw [← HG.out rfl] at HS2
        have HS3 := hid HS2
        clear HS2 HF HG HS HP HD HC
        go_wp2_with (go_at_call 83; refine (HS3.out _).mono ?_; rintro e w4 ⟨rfl, hb4⟩)
        go_ret2
        exact ⟨rfl, (by repeat (first | (with_reducible exact Below.refl _ _) | (with_reducible refine Below.setCell ?_ (by first | (simp; done) | (simp; omega) | omega) _) | (with_reducible refine Below.alloc ?_ (by first | (simp; done) | (simp; omega) | omega) _) | (with_reducible refine Below.drew ?_) | (with_reducible refine below_drewN ?_ _) | (with_reducible exact hb4) | (with_reducible exact hq) | (with_reducible refine Below.trans ?_ (Below.mono hb4 (by first | (simp; done) | (simp; omega) | omega))) | (with_reducible refine Below.trans ?_ (Below.mono hq (by first | (simp; done) | (simp; omega) | omega)))))⟩
      · skip
        obtain ⟨rfl, rfl⟩ := HF.out rfl
        clear HF HG HD HC er eq_ _h0 hd
        go_wp2_with fail
        have hB : Below w.heap.size w (wd.alloc (.cells #[.bool false, .int .u64 qh, .int .u64 ql] 97)) := (by repeat (first | (with_reducible exact Below.refl _ _) | (with_reducible refine Below.setCell ?_ (by first | (simp; done) | (simp; omega) | omega) _) | (with_reducible refine Below.alloc ?_ (by first | (simp; done) | (simp; omega) | omega) _) | (with_reducible refine Below.drew ?_) | (with_reducible refine below_drewN ?_ _) | (with_reducible exact hq) | (with_reducible refine Below.trans ?_ (Below.mono hq (by first | (simp; done) | (simp; omega) | omega)))))
        have g1 : (wd.alloc (.cells #[.bool false, .int .u64 qh, .int .u64 ql] 97)).cell? ⟨wd.heap.size, 0, none⟩ = some (.bool false) := by go_simp
        have g2 : (wd.alloc (.cells #[.bool false, .int .u64 qh, .int .u64 ql] 97)).cell? ⟨wd.heap.size, 1, none⟩ = some (.int .u64 qh) := by go_simp
        have g3 : (wd.alloc (.cells #[.bool false, .int .u64 qh, .int .u64 ql] 97)).cell? ⟨wd.heap.size, 2, none⟩ = some (.int .u64 ql) := by go_simp
        have g4 : ∀ i, (wd.alloc (.cells #[.bool false, .int .u64 qh, .int .u64 ql] 97)).frozen? ⟨wd.heap.size, i, none⟩ = false := by intro i; go_simp
        have g5 : wd.heap.size < (wd.alloc (.cells #[.bool false, .int .u64 qh, .int .u64 ql] 97)).heap.size := by simp
        have g6 : w.heap.size ≤ wd.heap.size := by omega
        generalize (wd.alloc (.cells #[.bool false, .int .u64 qh, .int .u64 ql] 97)) = wv at *
        generalize wd.heap.size = qb at *
        go_region_with (first | (go_at_call 82; refine (of_p1 _).mono ?_; rintro e w5 ⟨rfl, hb5⟩; obtain ⟨hc5, hf5⟩ := bat hb5 qb g5; have z5 := hb5.size; have g7 : qb < w5.heap.size := (Nat.lt_of_lt_of_le g5 z5)) | (go_at_call 81; refine (HP.out _).mono ?_; rintro e w6 ⟨rfl, hb6⟩; obtain ⟨hc6, hf6⟩ := bat hb6 qb g7; have z6 := hb6.size; have g8 : qb < w6.heap.size := (Nat.lt_of_lt_of_le g7 z6)))
        all_goals
          go_wp2_with (go_at_call 83; refine (HS.out _).mono ?_; rintro e w4 ⟨rfl, hb4⟩)
          go_ret2
          exact ⟨rfl, (by repeat (first | (with_reducible exact Below.refl _ _) | (with_reducible refine Below.setCell ?_ (by first | (simp; done) | (simp; omega) | omega) _) | (with_reducible refine Below.alloc ?_ (by first | (simp; done) | (simp; omega) | omega) _) | (with_reducible refine Below.drew ?_) | (with_reducible refine below_drewN ?_ _) | (with_reducible exact hb4) | (with_reducible exact hb6) | (with_reducible exact hb5) | (with_reducible exact hB) | (with_reducible refine Below.trans ?_ (Below.mono hb4 (by first | (simp; done) | (simp; omega) | omega))) | (with_reducible refine Below.trans ?_ (Below.mono hb6 (by first | (simp; done) | (simp; omega) | omega))) | (with_reducible refine Below.trans ?_ (Below.mono hb5 (by first | (simp; done) | (simp; omega) | omega))) | (with_reducible refine Below.trans ?_ (Below.mono hB (by first | (simp; done) | (simp; omega) | omega)))))⟩
      · skip
        obtain ⟨rfl, rfl⟩ := HF.out rfl
        clear HF HG HD HC er eq_ _h0 hd
        go_wp2_with fail
        have hB : Below w.heap.size w (wd.alloc (.cells #[.bool true, .int .u64 qh, .int .u64 ql] 97)) := (by repeat (first | (with_reducible exact Below.refl _ _) | (with_reducible refine Below.setCell ?_ (by first | (simp; done) | (simp; omega) | omega) _) | (with_reducible refine Below.alloc ?_ (by first | (simp; done) | (simp; omega) | omega) _) | (with_reducible refine Below.drew ?_) | (with_reducible refine below_drewN ?_ _) | (with_reducible exact hq) | (with_reducible refine Below.trans ?_ (Below.mono hq (by first | (simp; done) | (simp; omega) | omega)))))
        have g1 : (wd.alloc (.cells #[.bool true, .int .u64 qh, .int .u64 ql] 97)).cell? ⟨wd.heap.size, 0, none⟩ = some (.bool true) := by go_simp
        have g2 : (wd.alloc (.cells #[.bool true, .int .u64 qh, .int .u64 ql] 97)).cell? ⟨wd.heap.size, 1, none⟩ = some (.int .u64 qh) := by go_simp
        have g3 : (wd.alloc (.cells #[.bool true, .int .u64 qh, .int .u64 ql] 97)).cell? ⟨wd.heap.size, 2, none⟩ = some (.int .u64 ql) := by go_simp
        have g4 : ∀ i, (wd.alloc (.cells #[.bool true, .int .u64 qh, .int .u64 ql] 97)).frozen? ⟨wd.heap.size, i, none⟩ = false := by intro i; go_simp
        have g5 : wd.heap.size < (wd.alloc (.cells #[.bool true, .int .u64 qh, .int .u64 ql] 97)).heap.size := by simp
        have g6 : w.heap.size ≤ wd.heap.size := by omega
        generalize (wd.alloc (.cells #[.bool true, .int .u64 qh, .int .u64 ql] 97)) = wv at *
        generalize wd.heap.size = qb at *
        go_region_with (first | (go_at_call 82; refine (of_m1 _).mono ?_; rintro e w5 ⟨rfl, hb5⟩; obtain ⟨hc5, hf5⟩ := bat hb5 qb g5; have z5 := hb5.size; have g7 : qb < w5.heap.size := (Nat.lt_of_lt_of_le g5 z5)) | (go_at_call 81; refine (HP.out _).mono ?_; rintro e w6 ⟨rfl, hb6⟩; obtain ⟨hc6, hf6⟩ := bat hb6 qb g7; have z6 := hb6.size; have g8 : qb < w6.heap.size := (Nat.lt_of_lt_of_le g7 z6)))
        all_goals
          go_wp2_with (go_at_call 83; refine (HS.out _).mono ?_; rintro e w4 ⟨rfl, hb4⟩)
          go_ret2
          exact ⟨rfl, (by repeat (first | (with_reducible exact Below.refl _ _) | (with_reducible refine Below.setCell ?_ (by first | (simp; done) | (simp; omega) | omega) _) | (with_reducible refine Below.alloc ?_ (by first | (simp; done) | (simp; omega) | omega) _) | (with_reducible refine Below.drew ?_) | (with_reducible refine below_drewN ?_ _) | (with_reducible exact hb4) | (with_reducible exact hb6) | (with_reducible exact hb5) | (with_reducible exact hB) | (with_reducible refine Below.trans ?_ (Below.mono hb4 (by first | (simp; done) | (simp; omega) | omega))) | (with_reducible refine Below.trans ?_ (Below.mono hb6 (by first | (simp; done) | (simp; omega) | omega))) | (with_reducible refine Below.trans ?_ (Below.mono hb5 (by first | (simp; done) | (simp; omega) | omega))) | (with_reducible refine Below.trans ?_ (Below.mono hB (by first | (simp; done) | (simp; omega) | omega)))))⟩
      · skip
        have HS2 := HS.out
        rw [← HG.out rfl] at HS2
        have HS3 := hid HS2
        clear HS2 HF HG HS HP HD HC
        go_wp2_with (go_at_call 83; refine (HS3.out _).mono ?_; rintro e w4 ⟨rfl, hb4⟩)
        go_ret2
        exact ⟨rfl, (by repeat (first | (with_reducible exact Below.refl _ _) | (with_reducible refine Below.setCell ?_ (by first | (simp; done) | (simp; omega) | omega) _) | (with_reducible refine Below.alloc ?_ (by first | (simp; done) | (simp; omega) | omega) _) | (with_reducible refine Below.drew ?_) | (with_reducible refine below_drewN ?_ _) | (with_reducible exact hb4) | (with_reducible exact hq) | (with_reducible refine Below.trans ?_ (Below.mono hb4 (by first | (simp; done) | (simp; omega) | omega))) | (with_reducible refine Below.trans ?_ (Below.mono hq (by first | (simp; done) | (simp; omega) | omega)))))⟩

theorem sgn_neg (n : Int) : sgn (neg n) n.natAbs = n := by unfold sgn neg; by_cases h1 : n < 0 <;> simp [h1] <;> omega

theorem plusB_self (b : Bool) (m k : Nat) : plusB b m b k = b ∧ plusN b m b k = m + k := by unfold plusB plusN; simp

/-- the sign of a quotient, as the document keeps it: none of 0 -/
def signB (b : Bool) (m : Nat) (c : Int) : Bool := !(b == neg c) && decide (0 < m)

theorem by_any (b : Bool) (m : Nat) (c : Int) (up : Bool) (hm : m < 170141183460469231731687303715884105728) (hc : Fits c) (h0 : c ≠ 0) {v : Value} (hv : v = S b m) (w : World) :
    Calls Try.prog 62 #[v, .int .i64 c, .bool up] w fun e w' =>
      e = .returned (.tuple #[.int .i64 (tellN (mend (m / c.natAbs : Nat) (decide (m % c.natAbs = 0)) up (b != neg c))), .bool (fitsB (mend (m / c.natAbs : Nat) (decide (m % c.natAbs = 0)) up (b != neg c)))]) ∧ Below w.heap.size w w' := by
  subst hv
  have hd : 0 < c.natAbs := by omega
  have hd2 : c.natAbs < 18446744073709551616 := by unfold Fits at hc; omega
  obtain ⟨q1, q2, q3, q4⟩ := quot_words hd hd2 (show m < 340282366920938463463374607431768211456 by omega)
  have hle : m / c.natAbs ≤ m := Nat.div_le_self _ _
  have hmv : ∀ (y : Bool) (k : Nat), (if (decide (0 < m % c.natAbs) && (signB b m c != up)) = true then y = signB b m c ∧ k = m / c.natAbs + 1 else y = signB b m c ∧ k = m / c.natAbs) →
      sgn y k = mend (m / c.natAbs : Nat) (decide (m % c.natAbs = 0)) up (b != neg c) := by
    intro y k h
    have hx : decide (0 < m % c.natAbs) = !decide (m % c.natAbs = 0) := by
      by_cases h : m % c.natAbs = 0 <;> simp [h] <;> omega
    rw [hx] at h
    by_cases h0 : m = 0
    · subst h0
      unfold mend sgn
      simp at h
      obtain ⟨rfl, rfl⟩ := h
      simp
    · have hs : signB b m c = (b != neg c) := by unfold signB; rw [decide_eq_true (show 0 < m by omega), Bool.and_true]; rfl
      rw [hs] at h
      unfold mend sgn
      generalize (b != neg c) = g at *
      generalize decide (m % c.natAbs = 0) = ex at *
      generalize m / c.natAbs = q at *
      cases ex <;> cases g <;> cases up <;> simp at h ⊢ <;> obtain ⟨rfl, rfl⟩ := h <;> simp <;> omega
  have hpl : plusB (signB b m c) (m / c.natAbs) (signB b m c) 1 = signB b m c ∧ plusN (signB b m c) (m / c.natAbs) (signB b m c) 1 = m / c.natAbs + 1 := plusB_self _ _ _
  have hS : Value.agg #[.bool (signB b m c), .int .u64 ((m / 18446744073709551616 / c.natAbs : Nat) : Int), .int .u64 (((m / 18446744073709551616 % c.natAbs) * 18446744073709551616 + m % 18446744073709551616) / c.natAbs : Nat)] = S (signB b m c) (m / c.natAbs) := by
    unfold S hiM loM
    rw [q1, q2]
  by_cases hadj : (decide (0 < m % c.natAbs) && (signB b m c != up)) = true
  · refine by_core b (neg c) (signB b m c) (decide (0 < m % c.natAbs)) up (hiM m) (loM m) c.natAbs c ((m / 18446744073709551616 / c.natAbs : Nat) : Int) ((m / 18446744073709551616 % c.natAbs : Nat) : Int) (((m / 18446744073709551616 % c.natAbs) * 18446744073709551616 + m % 18446744073709551616) / c.natAbs : Nat) ((m % c.natAbs : Nat) : Int) (signB b m c) (m / c.natAbs + 1) (signB b m c) (m / c.natAbs + 1) _ _ w rfl ?_ hd ?_ ?_ ?_ ?_ (hid fun w => size_ref c hc w) (hid ?_) (hid ?_) (hid fun _ => ⟨rfl, rfl⟩) (hid fun h => absurd (h.symm.trans hadj) (by decide)) (hid ?_)
    · rw [beq_eq_false_iff_ne]; omega
    · exact (Int.natCast_emod _ _).symm
    · rw [div_n]; exact DivA.w_nat _ (by unfold hiM; rw [q1]; exact q4)
    · rw [decide_eq_decide]; omega
    · unfold signB hiM loM
      by_cases h1 : (b == neg c) = true
      · left; rw [h1]; exact ⟨rfl, rfl⟩
      · right
        have h1 : (b == neg c) = false := by simpa using h1
        rw [h1]
        by_cases h2 : 0 < m / 18446744073709551616
        · left; exact ⟨rfl, decide_eq_true (by omega), by rw [Bool.not_false, Bool.true_and]; exact decide_eq_true (by omega)⟩
        · right; exact ⟨rfl, decide_eq_false (by omega), by rw [Bool.not_false, Bool.true_and, decide_eq_decide]; omega⟩
    · intro w
      have := div64_any (m / 18446744073709551616 % c.natAbs) (m % 18446744073709551616) c.natAbs (Nat.mod_lt _ hd) (Nat.mod_lt _ (by decide)) hd2 w
      rw [q3] at this
      exact this
    · intro w
      have := plus_ref (signB b m c) (m / c.natAbs) (signB b m c) 1 (by omega) hS rfl w
      rw [hpl.1, hpl.2] at this
      exact this
    · intro w
      have := small_any (signB b m c) (m / c.natAbs + 1) rfl w
      rw [hmv (signB b m c) (m / c.natAbs + 1) (by rw [if_pos hadj]; exact ⟨rfl, rfl⟩)] at this
      exact this
  · refine by_core b (neg c) (signB b m c) (decide (0 < m % c.natAbs)) up (hiM m) (loM m) c.natAbs c ((m / 18446744073709551616 / c.natAbs : Nat) : Int) ((m / 18446744073709551616 % c.natAbs : Nat) : Int) (((m / 18446744073709551616 % c.natAbs) * 18446744073709551616 + m % 18446744073709551616) / c.natAbs : Nat) ((m % c.natAbs : Nat) : Int) (signB b m c) (m / c.natAbs + 1) (signB b m c) (m / c.natAbs) _ _ w rfl ?_ hd ?_ ?_ ?_ ?_ (hid fun w => size_ref c hc w) (hid ?_) (hid ?_) (hid fun h => absurd h hadj) (hid fun _ => hS) (hid ?_)
    · rw [beq_eq_false_iff_ne]; omega
    · exact (Int.natCast_emod _ _).symm
    · rw [div_n]; exact DivA.w_nat _ (by unfold hiM; rw [q1]; exact q4)
    · rw [decide_eq_decide]; omega
    · unfold signB hiM loM
      by_cases h1 : (b == neg c) = true
      · left; rw [h1]; exact ⟨rfl, rfl⟩
      · right
        have h1 : (b == neg c) = false := by simpa using h1
        rw [h1]
        by_cases h2 : 0 < m / 18446744073709551616
        · left; exact ⟨rfl, decide_eq_true (by omega), by rw [Bool.not_false, Bool.true_and]; exact decide_eq_true (by omega)⟩
        · right; exact ⟨rfl, decide_eq_false (by omega), by rw [Bool.not_false, Bool.true_and, decide_eq_decide]; omega⟩
    · intro w
      have := div64_any (m / 18446744073709551616 % c.natAbs) (m % 18446744073709551616) c.natAbs (Nat.mod_lt _ hd) (Nat.mod_lt _ (by decide)) hd2 w
      rw [q3] at this
      exact this
    · intro w
      have := plus_ref (signB b m c) (m / c.natAbs) (signB b m c) 1 (by omega) hS rfl w
      rw [hpl.1, hpl.2] at this
      exact this
    · intro w
      have := small_any (signB b m c) (m / c.natAbs) rfl w
      rw [hmv (signB b m c) (m / c.natAbs) (by rw [if_neg hadj]; exact ⟨rfl, rfl⟩)] at this
      exact this

end Go.Proofs.Ytoilakjlnflpbaa.RefE
