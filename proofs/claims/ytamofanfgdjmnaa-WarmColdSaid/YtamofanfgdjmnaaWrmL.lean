/- WarmCold. -/
import Derived.Test.YtamofanfgdjmnaaWrmK
namespace Go.Proofs.Ytamofanfgdjmnaa.WrmL
set_option linter.unusedVariables false
open Go.ChangeShapes Go.WideShapes Go.ChangeAt Go.RowKit Base WrmP NumM NumC NumE NumA WrmA WrmB WrmC WrmD WrmE WrmF WrmG WrmH WrmI WrmJ WrmK Wri

theorem tk_first (c s t : Nat) : (fresh c s).tk t 0 = s * c := by
  unfold Wm.tk Wm.come fresh Wm.G
  simp

set_option maxRecDepth 20000 in
set_option maxHeartbeats 2000000 in
theorem cold_core (c s t : Int) (w : World) :
    Calls Try.prog 6 #[.int .i64 c, .int .i64 s, .int .i64 t] w fun e w' => e = .returned (.bool true) ∧ Below w.heap.size w w' := by
  go_enter Try.func6, Try.ntmps6
  go_wp2_with fail
  refine (live_any w).mono ?_
  rintro e w1 ⟨rfl, hb1⟩
  have HB1 := hid hb1
  clear hb1
  go_wp2_with fail
  refine (New_any c s w1).mono ?_
  rintro e w2 (⟨cn, sn, hc, hs, ho, rfl, ha, hb⟩ | ⟨h, rfl, rfl⟩)
  rotate_left
  · clear h
    go_wp2_with fail
    go_ret
    exact ⟨rfl, HB1.out⟩
  have HC := hid hc
  have HO := hid ho
  have HA := hid ha
  have HB2 := hid (bl HB1.out hb)
  have HZ := hid (Nat.le_trans HB1.out.size (Nat.le_refl w1.heap.size))
  clear hc hs ho ha hb
  generalize hp : w1.heap.size = p at *
  clear hp HB1
  go_wp2_with fail
  obtain ⟨x, hx⟩ : ∃ x, rateA (fresh cn sn) t 0 = x := ⟨_, rfl⟩
  obtain ⟨r, hr⟩ : ∃ r, ref2 (fresh cn sn).last t 0 = r := ⟨_, rfl⟩
  have H1 := Fill_any p (fresh cn sn) HO.out t 0 w2 HA.out
  rw [hx, hr] at H1
  refine H1.mono ?_
  rintro e w3 ⟨rfl, -, hw⟩
  have HB3 : Hid (Below w.heap.size w w3) := hid (HB2.out.trans (hw.below w.heap.size HB2.out.size (fun k e => by rw [e]; exact HZ.out)))
  clear hw H1
  by_cases hz : r = 0
  · have hcase : ((1 : Int) ≤ x) ∧ ((x == c / 3) = true ∨ ((x == c / 3) = false ∧ (x == c / 3 + 1) = true)) ∧ c / 3 + 1 ≤ 9223372036854775807 ∧ 0 ≤ c := by
      unfold rateA at hx
      rw [hr, if_pos hz] at hx
      rw [hz] at hr
      obtain ⟨tn, pn, rfl, hpn, -⟩ := ref2_zero hr
      have h0 := tk_first cn sn tn
      unfold Wm.next at hx
      simp only [Int.toNat_natCast, Int.toNat_zero] at hx
      rw [h0] at hx
      have ho := HO.out
      have h4 := rate_cold cn sn ho.c1 ho.s1
      have h5 := rate_pos cn (sn * cn) (sn * cn) ho.c1
      have hcc := HC.out
      have hc2 : cn ≤ 1099511627776 := ho.c2
      have hx2 : x = (rateN cn (sn * cn) (sn * cn) : Nat) := hx.symm
      generalize rateN cn (sn * cn) (sn * cn) = n at *
      refine ⟨by omega, ?_, by omega, by omega⟩
      rcases h4 with h4 | h4
      · left; simp; omega
      · right; simp; omega
    obtain ⟨h1, h2, h3, h4⟩ := hcase
    obtain ⟨q, hq⟩ : ∃ q, c / 3 = q := ⟨_, rfl⟩
    rw [hq] at h2 h3
    have hq2 : Int.tdiv c 3 = q := by rw [← hq]; exact Int.tdiv_eq_ediv_of_nonneg h4
    have hq0 : 0 ≤ q := by omega
    have hq3 : wrap64 q = q := by unfold wrap64; omega
    have hq4 : wrap64 (q + 1) = q + 1 := by unfold wrap64; omega
    have hd : decide (1 ≤ x) = true := by simpa using h1
    clear hx hr HC HO HA HB2 HZ
    subst hz
    rcases h2 with h2 | ⟨h2, h5⟩
    · go_wp2_with fail
      go_ret
      exact ⟨rfl, HB3.out⟩
    · go_wp2_with fail
      go_ret
      exact ⟨rfl, HB3.out⟩
  · have h2 : r = 2 := by
      rw [← hr] at hz ⊢
      unfold ref2 at hz ⊢
      split
      · rename_i hh
        rw [if_pos hh] at hz
        simp only [Bool.and_eq_true, inW_iff] at hh
        exfalso
        apply hz
        rw [if_neg (by show ¬ t < ((0 : Nat) : Int); omega)]
      · rfl
    clear hx hr HC HO HA HB2 HZ hz
    subst h2
    go_wp2_with fail
    go_ret
    exact ⟨rfl, HB3.out⟩

theorem main {W : World} (a0 : Int) (w0 : (Lit.int .i64 a0).wf = true) (a1 : Int) (w1 : (Lit.int .i64 a1).wf = true) (a2 : Int) (w2 : (Lit.int .i64 a2).wf = true) :
    Calls Try.prog 6 #[.int .i64 a0, .int .i64 a1, .int .i64 a2] W fun e w' => e = .returned (.bool true) ∧ Below W.heap.size W w' := cold_core a0 a1 a2 W

end Go.Proofs.Ytamofanfgdjmnaa.WrmL
