/- The document's sketch: hash, column, window, sums. -/
import Derived.Test.YtnpldfacnmhemaaSkT
namespace Go.Proofs.Ytnpldfacnmhemaa.SruA
open Go.ChangeShapes Go.WideShapes Go.ChangeAt Go.RowKit Go.Deep Base Wri Map WldA WldF WldG SkK SkA SkB SkC SkD SkE SkF SkG SkH SkI SkJ SkL SkM SkN SkP SkQ SkR SkS SkT
set_option linter.unusedVariables false

set_option maxRecDepth 20000 in
set_option maxHeartbeats 400000 in
theorem rhash_core (c : Nat) (HC0 : Hid ((14695981039346656037 : Int) = (c : Int))) (s : ByteArray) (HS : Hid (∀ k, (h : k < s.size) → ((hashTo c s (k + 1) : Nat) : Int) = IntKind.u64.wrap (bits .xor .u64 (hashTo c s k : Int) (IntKind.u64.wrap (s[k].toNat : Int)) * 1099511628211))) (w : World) (hs : s.size ≤ maxLen) :
    Calls Try.prog 24 #[.string s] w fun e w' => e = .returned (.int .u64 (s.data.toList.foldl hstep c : Nat)) ∧ w = w' := by
  unfold maxLen at hs
  go_enter Try.func24, Try.ntmps24
  go_wp2
  go_loop [3, 4] (fun h i => ∃ k : Nat, k ≤ s.size ∧ h = .int .u64 (hashTo c s k : Nat) ∧ i = .int .i64 k) (fun _ i => s.size - (intOf i).toNat)
  case atStart => exact ⟨0, Nat.zero_le _, by rw [HC0.out]; rfl, rfl⟩
  case round =>
    obtain ⟨k, hk, rfl, rfl⟩ := hrel
    by_cases hlt : k < s.size
    · have HE := hid (HS.out k hlt)
      obtain ⟨h, hh⟩ : ∃ h, hashTo c s k = h := ⟨_, rfl⟩
      rw [hh] at HE ⊢
      clear hh
      go_wp2
      exact ⟨⟨k + 1, by omega, by rw [HE.out], by go_num⟩, by simp [intOf]; omega⟩
    · obtain rfl : k = s.size := by omega
      rw [hashTo_all]
      go_wp2
      go_ret
      exact ⟨rfl, rfl⟩

theorem rhash_any (s : ByteArray) (w : World) (hs : s.size ≤ maxLen) :
    Calls Try.prog 24 #[.string s] w fun e w' => e = .returned (.int .u64 (hashN s)) ∧ w = w' :=
  rhash_core 14695981039346656037 (hid rfl) s (hid fun k h => hashTo_succ _ (by decide) s k h) w hs

set_option maxHeartbeats 400000 in
theorem rmix_look (x : Nat) (hx : x < 18446744073709551616) (w : World) :
    Calls Try.prog 78 #[.int .u64 x] w fun e w' => e = .returned (.int .u64 (mixN x)) ∧ w = w' := by
  have e := mix_eq x hx
  clear hx
  go_enter Try.func78, Try.ntmps78
  go_wp2
  go_ret
  exact ⟨rfl, rfl⟩

theorem ret_bool {a b : Bool} (h : a = b) : Ending.returned (.bool a) = .returned (.bool b) := by rw [h]
theorem ret_int {k : IntKind} {a b : Int} (h : a = b) : Ending.returned (.int k a) = .returned (.int k b) := by rw [h]
theorem col_eq (y cols : Nat) (hc : 1 ≤ cols ∧ cols ≤ 4096) : wrap64 ((y : Int) % (cols : Int)) = ((y % cols : Nat) : Int) := by
  have h0 : y % cols < cols := Nat.mod_lt _ (by omega)
  have e : (y : Int) % (cols : Int) = ((y % cols : Nat) : Int) := rfl
  rw [e]
  generalize y % cols = r at *
  unfold wrap64
  omega

theorem sum_core (C b d k : Nat) (hb : b < 18446744073709551616) (hd : d < 18446744073709551616) : IntKind.u64.wrap (IntKind.u64.wrap ((b : Int) + (d : Int)) + IntKind.u64.wrap ((C : Int) * ((k : Int) + 1))) = (((((b + d) % 18446744073709551616) + C * (k + 1)) % 18446744073709551616 : Nat) : Int) := by
  rw [IntKind.wrap_u64, IntKind.wrap_u64, IntKind.wrap_u64, Int.natCast_emod, Int.natCast_add, Int.natCast_mul, Int.natCast_add, Int.natCast_emod, Int.natCast_add, Int.emod_add_emod, Int.add_emod_emod]
  exact (Int.emod_add_emod ..).symm

theorem rsum_eq (s : ByteArray) (seed r : Nat) (hs : seed < 18446744073709551616) : IntKind.u64.wrap (IntKind.u64.wrap ((hashN s : Int) + (seed : Int)) + IntKind.u64.wrap (11400714819323198485 * ((r : Int) + 1))) = ((argN (baseN s seed) r : Nat) : Int) := sum_core 11400714819323198485 (hashN s) seed r (hash_lt s) hs

set_option maxRecDepth 20000 in
set_option maxHeartbeats 1000000 in
theorem column_core (p seed r cols : Nat) (s : ByteArray) (w : World) (hs : s.size ≤ maxLen) (hr : r ≤ 8) (hc : 1 ≤ cols ∧ cols ≤ 4096) (hseed : seed < 18446744073709551616)
    (c3 : w.cell? ⟨p, 3, none⟩ = some (.int .i64 cols)) (c4 : w.cell? ⟨p, 4, none⟩ = some (.int .u64 seed)) :
    Calls Try.prog 54 #[.pointer (some ⟨p, 0, none⟩), .int .i64 r, .string s] w fun e w' => e = .returned (.int .i64 (colN seed cols r s)) ∧ ∃ m, w.drewN m = w' := by
  have HH := hid (fun w => rhash_any s w hs)
  have HM := hid (fun w => rmix_look (argN (baseN s seed) r) (arg_lt _ _) w)
  have HE := hid (rsum_eq s seed r hseed)
  have HC : Hid (colN seed cols r s = mixN (argN (baseN s seed) r) % cols) := hid rfl
  generalize argN (baseN s seed) r = x at *
  generalize hashN s = h at *
  go_enter Try.func54, Try.ntmps54
  go_wp2_with fail
  go_quiet ((go_at_call 24; exact Calls.quiet_of_same ((HH.out _).mono fun _ _ h => ⟨h.1, h.2.symm⟩)))
  rw [HE.out]
  have k3 : (w.drewN nq).cell? ⟨p, 3, none⟩ = some (.int .i64 cols) := c3
  have HD : Hid (∃ m, w.drewN m = w.drewN nq) := hid ⟨nq, rfl⟩
  clear HE HH c3 c4
  obtain ⟨y, hy⟩ : ∃ y, mixN x = y := ⟨_, rfl⟩
  rw [hy] at HM HC
  clear hy
  have hwe : ∀ z : Nat, (z : Int) % (cols : Int) = ((z % cols : Nat) : Int) := fun z => rfl
  have hyc : y % cols < cols := Nat.mod_lt _ (by omega)
  have HYC := hid hyc
  generalize w.drewN nq = wd at *
  clear hwe hyc
  go_wp2_with fail
  go_quiet ((go_at_call 78; exact Calls.quiet_of_same ((HM.out _).mono fun _ _ h => ⟨h.1, h.2.symm⟩)))
  go_wp2_with fail
  go_ret
  refine ⟨?_, by obtain ⟨m, hm⟩ := HD.out; exact ⟨m + nq, by rw [← hm, World.drewN_drewN]⟩⟩
  rw [HC.out, ← col_eq y cols hc]
  rfl

set_option maxRecDepth 20000 in
set_option maxHeartbeats 1000000 in
theorem in_any (p q wd bk t at_ : Nat) (w : World) (hb : 1 ≤ bk ∧ bk ≤ 60) (hq : 0 < q) (hw : wd = q * bk) (hwm : wd ≤ 1099511627776) (ht : t ≤ 1152921504606846976) (ha : at_ ≤ 1152921504606846976)
    (c0 : w.cell? ⟨p, 0, none⟩ = some (.int .i64 wd)) (c1 : w.cell? ⟨p, 1, none⟩ = some (.int .i64 bk)) :
    Calls Try.prog 73 #[.pointer (some ⟨p, 0, none⟩), .int .i64 t, .int .i64 at_] w fun e w' => e = .returned (.bool (decide (t / q ≤ at_ / q) && inW q bk at_ (t / q))) ∧ ∃ m, w.drewN m = w' := by
  have hqe : (wd : Int) / (bk : Int) = (q : Int) := by
    have : wd / bk = q := by rw [hw]; exact Nat.mul_div_cancel _ (by omega)
    omega
  obtain ⟨u, hu⟩ : ∃ u, t / q = u := ⟨_, rfl⟩
  obtain ⟨v, hv⟩ : ∃ v, at_ / q = v := ⟨_, rfl⟩
  have hue : (t : Int) / (q : Int) = (u : Int) := by rw [← hu]; rfl
  have hve : (at_ : Int) / (q : Int) = (v : Int) := by rw [← hv]; rfl
  have hul : u ≤ 1152921504606846976 := by rw [← hu]; exact Nat.le_trans (Nat.div_le_self _ _) ht
  have hvl : v ≤ 1152921504606846976 := by rw [← hv]; exact Nat.le_trans (Nat.div_le_self _ _) ha
  have HW : Hid (inW q bk at_ u = decide (v < u + bk)) := hid (by unfold inW; rw [hv])
  rw [hu, hv, HW.out]
  have hqm : q ≤ 1099511627776 := by
    have : q * 1 ≤ q * bk := Nat.mul_le_mul_left _ (by omega)
    omega
  clear hu hv hw
  have hbk0 : ¬ ((bk : Int) = 0) := by omega
  have hq0 : ¬ ((q : Int) = 0) := by omega
  by_cases h1 : u ≤ v
  · have d1 : decide ((u : Int) ≤ (v : Int)) = true := by simp; omega
    rw [decide_eq_true h1, Bool.true_and]
    go_enter Try.func73, Try.ntmps73
    go_wp2_with fail
    go_quiet (fail)
    have k1 : (w.drewN nq).cell? ⟨p, 1, none⟩ = some (.int .i64 bk) := c1
    have HD : Hid (∃ m, w.drewN m = w.drewN nq) := hid ⟨nq, rfl⟩
    clear c0 c1
    generalize w.drewN nq = wd at *
    go_wp2_with fail
    go_quiet (fail)
    go_wp2_with fail
    go_ret
    refine ⟨?_, by obtain ⟨m, hm⟩ := HD.out; exact ⟨m + _, by rw [← hm, World.drewN_drewN]⟩⟩
    refine ret_bool ?_
    rw [Bool.eq_iff_iff]
    simp
    omega
  · have d1 : decide ((u : Int) ≤ (v : Int)) = false := by simp; omega
    rw [decide_eq_false h1, Bool.false_and]
    go_enter Try.func73, Try.ntmps73
    go_wp2_with fail
    go_quiet (fail)
    have k1 : (w.drewN nq).cell? ⟨p, 1, none⟩ = some (.int .i64 bk) := c1
    have HD : Hid (∃ m, w.drewN m = w.drewN nq) := hid ⟨nq, rfl⟩
    clear c0 c1
    generalize w.drewN nq = wd at *
    go_wp2_with fail
    go_quiet (fail)
    go_wp2_with fail
    go_ret
    refine ⟨?_, by obtain ⟨m, hm⟩ := HD.out; exact ⟨m + _, by rw [← hm, World.drewN_drewN]⟩⟩
    rfl

set_option maxHeartbeats 400000 in
theorem plus2_any (a b : Nat) (w : World) (ha : a ≤ 4611686018427387904) (hb : b ≤ 4611686018427387904) :
    Calls Try.prog 74 #[.int .i64 a, .int .i64 b] w fun e w' => e = .returned (.int .i64 (sat (a + b) : Nat)) ∧ w = w' := by
  by_cases h : 4611686018427387904 < a + b
  · have hd : decide ((4611686018427387904 : Int) - (a : Int) < (b : Int)) = true := by simp; omega
    have HE : Hid (sat (a + b) = 4611686018427387904) := hid (by unfold sat; omega)
    go_enter Try.func74, Try.ntmps74
    go_wp2
    go_ret
    exact ⟨by rw [HE.out]; rfl, rfl⟩
  · have hd : decide ((4611686018427387904 : Int) - (a : Int) < (b : Int)) = false := by simp; omega
    have HE : Hid (sat (a + b) = a + b) := hid (by unfold sat; omega)
    go_enter Try.func74, Try.ntmps74
    go_wp2
    go_ret
    exact ⟨by rw [HE.out]; rfl, rfl⟩

set_option maxHeartbeats 400000 in
theorem isTimeRef_dec (n : Int) (b : Bool) (h : decide (0 ≤ n ∧ n ≤ 1152921504606846976) = b) (w : World) :
    Calls Try.prog 72 #[.int .i64 n] w fun e w' => e = .returned (.bool b) ∧ w = w' := by
  subst h
  by_cases h0 : 0 ≤ n
  · by_cases h1 : n ≤ 1152921504606846976
    · rw [decide_eq_true ⟨h0, h1⟩]
      go_enter Try.func72, Try.ntmps72
      go_wp2
      go_ret
      exact ⟨rfl, rfl⟩
    · have h2 : decide (n ≤ 1152921504606846976) = false := by simp; omega
      rw [decide_eq_false (fun h => h1 h.2)]
      clear h1
      go_enter Try.func72, Try.ntmps72
      go_wp2
      go_ret
      exact ⟨rfl, rfl⟩
  · have h2 : decide (0 ≤ n) = false := by simp; omega
    rw [decide_eq_false (fun h => h0 h.1)]
    clear h0
    go_enter Try.func72, Try.ntmps72
    go_wp2
    go_ret
    exact ⟨rfl, rfl⟩

set_option maxHeartbeats 400000 in
theorem wrong_any (p : Nat) (last t : Int) (w : World) (c6 : w.cell? ⟨p, 6, none⟩ = some (.int .i64 last)) :
    Calls Try.prog 41 #[.pointer (some ⟨p, 0, none⟩), .int .i64 t] w fun e w' => e = .returned (.int .i64 (refT last t true)) ∧ w = w' := by
  by_cases h0 : 0 ≤ t ∧ t ≤ 1152921504606846976
  · have HT := hid (isTimeRef_dec t true (decide_eq_true h0))
    by_cases h1 : t < last
    · have HE : Hid (refT last t true = 7) := hid (by unfold refT; rw [if_neg (by simp; omega), if_pos h1])
      clear h0
      go_enter Try.func41, Try.ntmps41
      go_wp2_with fail
      refine (HT.out _).mono ?_
      rintro e w1 ⟨rfl, rfl⟩
      go_wp2_with fail
      go_ret
      exact ⟨by rw [HE.out]; rfl, rfl⟩
    · have HE : Hid (refT last t true = 0) := hid (by unfold refT; rw [if_neg (by simp; omega), if_neg h1])
      have hd : decide (t < last) = false := by simp; omega
      clear h0
      go_enter Try.func41, Try.ntmps41
      go_wp2_with fail
      refine (HT.out _).mono ?_
      rintro e w1 ⟨rfl, rfl⟩
      go_wp2_with fail
      go_ret
      exact ⟨by rw [HE.out]; rfl, rfl⟩
  · have HT := hid (isTimeRef_dec t false (decide_eq_false h0))
    have HE : Hid (refT last t true = 2) := hid (by unfold refT; rw [if_pos (by simp; omega)])
    clear h0
    go_enter Try.func41, Try.ntmps41
    go_wp2_with fail
    refine (HT.out _).mono ?_
    rintro e w1 ⟨rfl, rfl⟩
    go_wp2_with fail
    go_ret
    exact ⟨by rw [HE.out]; rfl, rfl⟩

end Go.Proofs.Ytnpldfacnmhemaa.SruA
