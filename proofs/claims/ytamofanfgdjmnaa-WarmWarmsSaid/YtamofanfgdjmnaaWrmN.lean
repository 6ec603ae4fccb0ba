/- WarmWarms: the walk. -/
import Derived.Test.YtamofanfgdjmnaaWrmM
namespace Go.Proofs.Ytamofanfgdjmnaa.WrmN
set_option linter.unusedVariables false
open Go.ChangeShapes Go.WideShapes Go.ChangeAt Go.RowKit Base WrmP NumM NumC NumE NumA WrmA WrmB WrmC WrmD WrmE WrmF WrmG WrmH WrmI WrmJ WrmK WrmM Wri

set_option maxRecDepth 20000 in
set_option maxHeartbeats 4000000 in
theorem warms_core (a b r c : Int) (x : Bool) (w : World) (f1 : IntKind.i64.wrap a = a) (f2 : IntKind.i64.wrap b = b) (g0 : 0 ≤ b) (m1 : b % 300 = r) (m2 : Int.tmod b 300 = r) (m3 : wrap64 r = r) (ha0 : 0 ≤ a)
    (hx : decide (a < 3) = x) (hc : (x = true ∧ c = a + 3 ∧ wrap64 (a + 3) = a + 3) ∨ (x = false ∧ c = a))
    (HC : Hid (∃ cn sn : Nat, c = cn ∧ r + 1 = sn ∧ 3 ≤ cn ∧ cn ≤ 1099511627776 ∧ 1 ≤ sn ∧ sn ≤ 300)) :
    Calls Try.prog 7 #[.int .u32 a, .int .u16 b] w fun e w' => e = .returned (.bool true) ∧ Below w.heap.size w w' := by
  go_enter Try.func7, Try.ntmps7
  go_wp2_with fail
  refine (live_any w).mono ?_
  rintro e w1 ⟨rfl, hb1⟩
  have HB1 := hid hb1
  clear hb1
  have HN : Hid (∀ w1 : World, Calls Try.prog 10 #[.int .i64 c, .int .i64 (r + 1)] w1 fun e w' =>
      (∃ cn sn : Nat, c = cn ∧ r + 1 = sn ∧ (fresh cn sn).Ok ∧ e = .returned (.tuple #[ptr w1.heap.size, .int .i64 0]) ∧ At w' w1.heap.size (fresh cn sn) ∧ Below w1.heap.size w1 w') ∨
      ((inW c 1 1099511627776 && inW (r + 1) 1 3600) = false ∧ e = .returned (.tuple #[.pointer none, .int .i64 2]) ∧ w1 = w')) := hid fun w1 => New_any c (r + 1) w1
  rcases hc with ⟨rfl, rfl, hc2⟩ | ⟨rfl, rfl⟩
  all_goals
    go_wp2_with fail
    refine (HN.out w1).mono ?_
    clear HN
    rintro e w2 (⟨cn, sn, hc, hs, ho, rfl, ha, hb⟩ | ⟨h, -⟩)
    rotate_left
    · exfalso
      obtain ⟨cn, sn, qa, qb, q1, q2, q3, q4⟩ := HC.out
      rw [qa, qb] at h
      have i1 : inW (cn : Int) 1 1099511627776 = true := inW_iff.2 ⟨by omega, by omega⟩
      have i2 : inW (sn : Int) 1 3600 = true := inW_iff.2 ⟨by omega, by omega⟩
      rw [i1, i2] at h
      cases h
    have HO := hid ho
    have HA := hid ha
    have HB2 := hid (bl HB1.out hb)
    have HZ := hid HB1.out.size
    obtain ⟨cn', sn', qa, qb, q1, q2, q3, q4⟩ := HC.out
    obtain rfl : cn' = cn := by omega
    obtain rfl : sn' = sn := by omega
    have HQ := hid (And.intro q1 (And.intro q2 (And.intro q3 q4)))
    clear ho ha hb HC qa qb q1 q2 q3 q4
    try rw [hc2]
    rw [hc, hs]
    clear hc hs
    try clear hc2
    clear hx f1 f2 g0 m1 m2 m3 ha0
    generalize hp : w1.heap.size = p at *
    clear hp HB1
    go_wp2_with fail
    go_loopw [9, 10] (fun a k wr => ∃ (k' past : Nat) (m : Wm), k = .int .i64 k' ∧ a = .int .i64 past ∧ k' ≤ 2 * sn' + 21 ∧ WrmM.Used cn' sn' m past k' ∧ At wr p m ∧ Below w.heap.size w wr) (fun _ k _ => 2 * sn' + 21 - (intOf k).toNat)
    case atStart => exact ⟨0, 0, _, rfl, rfl, by omega, .inl ⟨rfl, rfl, rfl⟩, HA.out, HB2.out⟩
    case round =>
      obtain ⟨k, past, m, rfl, rfl, hk, hu, ha, hb⟩ := hrel
      have HU := hid hu
      have HAk := hid ha
      have HBk := hid hb
      clear hu ha hb
      obtain ⟨q1, q2, q3, q4⟩ := HQ.out
      have e2 : wrap64 (2 * (sn' : Int)) = 2 * (sn' : Int) := by unfold wrap64; omega
      have e20 : wrap64 (2 * (sn' : Int) + 20) = 2 * (sn' : Int) + 20 := by unfold wrap64; omega
      have e4 : wrap64 (2 * (sn' : Int) + 4) = 2 * (sn' : Int) + 4 := by unfold wrap64; omega
      by_cases hlt : k ≤ 2 * sn' + 20
      · have hd : decide ((k : Int) ≤ 2 * (sn' : Int) + 20) = true := by simp; omega
        have e1 : wrap64 ((k : Int) * 1000000) = (k : Int) * 1000000 := by unfold wrap64; omega
        obtain ⟨ok, pk, lk⟩ := HU.out.ok q1 q2 q3 q4
        obtain ⟨nx, nc⟩ := HU.out.next q1 q2 q3 q4 hlt
        have hT : ((k : Int) * 1000000).toNat = k * 1000000 := by omega
        have hr2 : ref2 m.last ((k : Int) * 1000000) past = 0 := by
          unfold ref2
          rw [inW_iff.2 ⟨by omega, by omega⟩, inW_iff.2 ⟨by omega, by omega⟩]
          simp; omega
        have hra : rateA m ((k : Int) * 1000000) past = (Wm.next m (k * 1000000) past : Nat) := by
          unfold rateA; rw [hr2, hT]; simp
        have hfa : fillA m ((k : Int) * 1000000) past = m.fill (k * 1000000) past := by
          unfold fillA; rw [hr2, hT]; simp
        have HF := Fill_any p m ok ((k : Int) * 1000000) past wr HAk.out
        rw [hra, hr2, hfa] at HF
        have HF2 := hid HF
        have HNX := hid nx
        have hcase : (decide (2 * (sn' : Int) + 4 ≤ (k : Int)) = true ∧ (((Wm.next m (k * 1000000) past : Nat) : Int) != (cn' : Int)) = false) ∨ decide (2 * (sn' : Int) + 4 ≤ (k : Int)) = false := by
          by_cases hh : 2 * sn' + 4 ≤ k
          · left; rw [nc hh]; exact ⟨by simp; omega, by simp⟩
          · right; simp; omega
        have e7 : wrap64 ((k : Int) + 1) = ((k + 1 : Nat) : Int) := by unfold wrap64; omega
        have HE7 := hid e7
        have HLT := hid hlt
        clear e7
        clear HF hr2 hra hfa ok pk lk nx nc hT HA HB2 q1 q2 q3 q4 hlt
        generalize Wm.next m (k * 1000000) past = n at *
        go_wp2_with fail
        refine HF2.out.mono ?_
        clear HF2
        rintro e w3 ⟨rfl, ha3, hw3⟩
        have HA3 := hid ha3
        have HB3 : Hid (Below w.heap.size w w3) := hid (HBk.out.trans (hw3.below w.heap.size HBk.out.size (fun k e => by rw [e]; exact HZ.out)))
        clear ha3 hw3
        rcases hcase with ⟨h5, h6⟩ | h5
        · go_wp2_with fail
          exact ⟨⟨k + 1, n, _, by rw [HE7.out], rfl, by have := HLT.out; omega, HNX.out, HA3.out, HB3.out⟩, by rw [HE7.out]; have := HLT.out; simp [intOf]; omega⟩
        · go_wp2_with fail
          exact ⟨⟨k + 1, n, _, by rw [HE7.out], rfl, by have := HLT.out; omega, HNX.out, HA3.out, HB3.out⟩, by rw [HE7.out]; have := HLT.out; simp [intOf]; omega⟩
      · have hd : decide ((k : Int) ≤ 2 * (sn' : Int) + 20) = false := by simp; omega
        clear HA HB2 q1 q2 q3 q4 hlt
        go_wp2_with fail
        go_ret
        exact ⟨rfl, HBk.out⟩

theorem main {W : World} (a0 : Int) (w0 : (Lit.int .u32 a0).wf = true) (a1 : Int) (w1 : (Lit.int .u16 a1).wf = true) :
    Calls Try.prog 7 #[.int .u32 a0, .int .u16 a1] W fun e w' => e = .returned (.bool true) ∧ Below W.heap.size W w' := by
  have h0 : 0 ≤ a0 ∧ a0 < 4294967296 := by
    simp [Lit.wf, IntKind.min, IntKind.max, IntKind.bits, IntKind.signed] at w0
    omega
  have h1 : 0 ≤ a1 ∧ a1 < 65536 := by
    simp [Lit.wf, IntKind.min, IntKind.max, IntKind.bits, IntKind.signed] at w1
    omega
  refine warms_core a0 a1 (a1 % 300) (if a0 < 3 then a0 + 3 else a0) _ W (by rw [IntKind.wrap_i64]; omega) (by rw [IntKind.wrap_i64]; omega) h1.1 rfl (Int.tmod_eq_emod_of_nonneg h1.1) (by unfold wrap64; omega) h0.1 rfl ?_ (hid ?_)
  · by_cases h : a0 < 3
    · left
      exact ⟨by simpa using h, by rw [if_pos h], by unfold wrap64; omega⟩
    · right
      exact ⟨by simpa using h, by rw [if_neg h]⟩
  · refine ⟨(if a0 < 3 then a0 + 3 else a0).toNat, (a1 % 300 + 1).toNat, ?_, by omega, ?_, ?_, by omega, by omega⟩
    all_goals split <;> omega

end Go.Proofs.Ytamofanfgdjmnaa.WrmN
