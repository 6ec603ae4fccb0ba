/- The document's warm-up: the rate of so many tokens, the filling. -/
import Derived.Test.YtamofanfgdjmnaaWrrA
namespace Go.Proofs.Ytamofanfgdjmnaa.WrrB
set_option linter.unusedVariables false
open Go.ChangeShapes Go.WideShapes Go.ChangeAt Go.RowKit Base WrmP NumM NumC NumE NumA RefA RefB LawA WrmB WrmF WrmG Wri WrrA

theorem rrate_any (p : Nat) (m : Wm) (ho : m.Ok) (x : Nat) (hx : x ≤ m.G) (w : World) (h : RAt w p m) :
    Calls Try.prog 46 #[ptr p, .int .i64 x] w fun e w' => e = .returned (.int .i64 (rateN m.c m.G x : Nat)) ∧ Below w.heap.size w w' := by
  have hg := ho.g m
  have hw := wn_bd m.G
  have hc1 := ho.c1
  have hc2 := ho.c2
  have hrc := rate_le m.c m.G x hc1
  refine rrate_core p m.c x (wn m.G : Nat) (m.G : Nat) ((4 * (x - wn m.G) + m.G : Nat) : Int) ((m.G * m.c / (4 * (x - wn m.G) + m.G) : Nat) : Int) _ (divE ((m.G : Nat) * (m.c : Nat) : Int) ((4 * (x - wn m.G) + m.G : Nat) : Int) false) w h.cells.1 (hid fun w0 e => by subst e; exact RMarks_any p m ho w0 h) ?_
  by_cases h1 : x < wn m.G
  · left
    refine ⟨by simpa using h1, ?_⟩
    unfold rateN; rw [if_pos (.inl h1)]
  · right
    refine ⟨by simpa using h1, ?_⟩
    by_cases h2 : wn m.G = m.G
    · left
      refine ⟨by rw [h2]; simp, ?_⟩
      unfold rateN; rw [if_pos (.inr h2)]
    · right
      have e0 : rateN m.c m.G x = max (m.G * m.c / (4 * (x - wn m.G) + m.G)) 1 := by unfold rateN; rw [if_neg (by omega)]
      rw [e0] at hrc
      have hle : m.G * m.c / (4 * (x - wn m.G) + m.G) ≤ m.c := Nat.le_trans (Nat.le_max_left _ _) hrc
      refine ⟨by simp; omega, (wrap_is (by omega) (by omega)).1, (wrap_is (by omega) (by omega)).1, ?_, hid fun w0 => ?_, ?_⟩
      · rw [(wrap_is (by omega) (by omega)).1]; omega
      · have hd := divN_nat (m.G * m.c) (4 * (x - wn m.G) + m.G) (by omega) (by omega)
        have := muldiv_ref (m.G : Nat) (m.c : Nat) ((4 * (x - wn m.G) + m.G : Nat) : Int) false (by unfold Fits; omega) (by unfold Fits; omega) (by unfold Fits; omega) w0
        rw [← Int.natCast_mul, hd.1] at this
        rw [← Int.natCast_mul]
        exact this
      · rw [e0]
        by_cases h3 : m.G * m.c / (4 * (x - wn m.G) + m.G) < 1
        · left
          generalize m.G * m.c / (4 * (x - wn m.G) + m.G) = y at *
          exact ⟨by simp; omega, by omega⟩
        · right
          generalize m.G * m.c / (4 * (x - wn m.G) + m.G) = y at *
          exact ⟨by simp; omega, by omega⟩

set_option maxRecDepth 20000 in
set_option maxHeartbeats 4000000 in
theorem rfilled_core (p : Nat) (c tok f t past v g s r3 u z r : Int) (w : World) (c0 : w.cell? ⟨p, 0, none⟩ = some (.int .i64 c)) (c2 : w.cell? ⟨p, 2, none⟩ = some (.int .i64 tok)) (c3 : w.cell? ⟨p, 3, none⟩ = some (.int .i64 f))
    (HM : Hid (∀ w0 : World, w0 = w → Calls Try.prog 34 #[ptr p] w0 fun e w' => e = .returned (.tuple #[.int .i64 v, .int .i64 g]) ∧ Below w0.heap.size w0 w'))
    (hr0 : Int.tmod t 1000000 = r3) (hr1 : wrap64 (t - r3) = s) (hc0 : (c == 0) = false) (hcn : ¬ c = 0) (hq3 : Int.tdiv c 3 = z) (hwz : wrap64 z = z)
    (hr : ((s == f) = true ∧ r = tok) ∨ ((s == f) = false ∧ decide (u > g) = false ∧ decide (g < u) = false ∧ Hid (wrap64 (u - past) = u - past ∧ r = max (u - past) 0) ∧
      (decide (f < 0) = true ∧ u = g ∨ decide (f < 0) = false ∧
        (decide (tok < v) = false ∧ decide (past < z) = false ∧ u = tok ∨ (decide (tok < v) = true ∨ decide (tok < v) = false ∧ decide (past < z) = true) ∧ ∃ n k : Int, wrap64 (s - f) = s - f ∧ Int.tdiv (s - f) 1000000 = n ∧ wrap64 n = n ∧ wrap64 (g - tok) = g - tok ∧ Int.tdiv (g - tok) c = k ∧ wrap64 k = k ∧
          (decide (n > k) = true ∧ decide (k < n) = true ∧ u = g ∨ decide (n > k) = false ∧ decide (k < n) = false ∧ wrap64 (n * c) = n * c ∧ wrap64 (tok + n * c) = u))))) :
    Calls Try.prog 44 #[ptr p, .int .i64 t, .int .i64 past] w fun e w' => e = .returned (.tuple #[.int .i64 r, .int .i64 s]) ∧ Below w.heap.size w w' := by
  have HS := hid hr1
  go_enter Try.func44, Try.ntmps44
  rcases hr with ⟨h1, rfl⟩ | ⟨h1, h2, h2', HU, hr⟩
  · go_wp2_with fail
    go_ret2
    refine ⟨?_, Below.refl _ _⟩
    show Ending.returned (.tuple #[.int .i64 _, .int .i64 (wrap64 (t - r3))]) = _
    rw [HS.out]
  · have HC := hid hr
    clear hr
    go_wp2_with fail
    refine (HM.out _ rfl).mono ?_
    rintro e w1 ⟨rfl, hb1⟩
    have k0 : w1.cell? ⟨p, 0, none⟩ = some (.int .i64 c) := WrmA.kc hb1 c0
    have k2 : w1.cell? ⟨p, 2, none⟩ = some (.int .i64 tok) := WrmA.kc hb1 c2
    have k3 : w1.cell? ⟨p, 3, none⟩ = some (.int .i64 f) := WrmA.kc hb1 c3
    have HB1 := hid hb1
    clear hb1 c0 c2 c3 HM hr0
    have HUZ := HU.out.1
    have fin : ∀ b, decide (u - past < 0) = b → (b = true ∧ r = 0) ∨ (b = false ∧ r = u - past) := by
      rintro b hb
      have := HU.out.2
      cases b with
      | true => left; refine ⟨rfl, ?_⟩; have : u - past < 0 := by simpa using hb
                omega
      | false => right; refine ⟨rfl, ?_⟩; have : ¬ (u - past < 0) := by simpa using hb
                 omega
    obtain ⟨b, hb⟩ : ∃ b, decide (u - past < 0) = b := ⟨_, rfl⟩
    have HFI := hid (fin b hb)
    clear fin
    rcases HC.out with ⟨h3, rfl⟩ | ⟨h3, ⟨h4, h5, rfl⟩ | ⟨h4, n, k, e1, e2, e3, e4, e5, e6, h7⟩⟩
    · rcases HFI.out with ⟨rfl, hr0⟩ | ⟨rfl, hr0⟩
      · go_wp2_with fail
        go_ret2
        refine ⟨?_, HB1.out⟩
        show Ending.returned (.tuple #[.int .i64 _, .int .i64 s]) = _
        rw [hr0]
      · go_wp2_with fail
        go_ret2
        refine ⟨?_, HB1.out⟩
        show Ending.returned (.tuple #[.int .i64 _, .int .i64 s]) = _
        rw [HU.out.1, hr0]
    · rcases HFI.out with ⟨rfl, hr0⟩ | ⟨rfl, hr0⟩
      · go_wp2_with fail
        go_ret2
        refine ⟨?_, HB1.out⟩
        show Ending.returned (.tuple #[.int .i64 _, .int .i64 s]) = _
        rw [hr0]
      · go_wp2_with fail
        go_ret2
        refine ⟨?_, HB1.out⟩
        show Ending.returned (.tuple #[.int .i64 _, .int .i64 s]) = _
        rw [HU.out.1, hr0]
    · rcases h7 with ⟨h8, h9, rfl⟩ | ⟨h8, h9, e7, e8⟩
      · rcases h4 with h4 | ⟨h4, h5⟩
        · rcases HFI.out with ⟨rfl, hr0⟩ | ⟨rfl, hr0⟩
          · go_wp2_with fail
            go_ret2
            refine ⟨?_, HB1.out⟩
            show Ending.returned (.tuple #[.int .i64 _, .int .i64 s]) = _
            rw [hr0]
          · go_wp2_with fail
            go_ret2
            refine ⟨?_, HB1.out⟩
            show Ending.returned (.tuple #[.int .i64 _, .int .i64 s]) = _
            rw [HU.out.1, hr0]
        · rcases HFI.out with ⟨rfl, hr0⟩ | ⟨rfl, hr0⟩
          · go_wp2_with fail
            go_ret2
            refine ⟨?_, HB1.out⟩
            show Ending.returned (.tuple #[.int .i64 _, .int .i64 s]) = _
            rw [hr0]
          · go_wp2_with fail
            go_ret2
            refine ⟨?_, HB1.out⟩
            show Ending.returned (.tuple #[.int .i64 _, .int .i64 s]) = _
            rw [HU.out.1, hr0]
      · rcases h4 with h4 | ⟨h4, h5⟩
        · rcases HFI.out with ⟨rfl, hr0⟩ | ⟨rfl, hr0⟩
          · go_wp2_with fail
            go_ret2
            refine ⟨?_, HB1.out⟩
            show Ending.returned (.tuple #[.int .i64 _, .int .i64 s]) = _
            rw [hr0]
          · go_wp2_with fail
            go_ret2
            refine ⟨?_, HB1.out⟩
            show Ending.returned (.tuple #[.int .i64 _, .int .i64 s]) = _
            rw [HU.out.1, hr0]
        · rcases HFI.out with ⟨rfl, hr0⟩ | ⟨rfl, hr0⟩
          · go_wp2_with fail
            go_ret2
            refine ⟨?_, HB1.out⟩
            show Ending.returned (.tuple #[.int .i64 _, .int .i64 s]) = _
            rw [hr0]
          · go_wp2_with fail
            go_ret2
            refine ⟨?_, HB1.out⟩
            show Ending.returned (.tuple #[.int .i64 _, .int .i64 s]) = _
            rw [HU.out.1, hr0]

theorem rfilled_any (p : Nat) (m : Wm) (ho : m.Ok) (t past : Nat) (h1 : m.last ≤ t) (h2 : t ≤ 1152921504606846976) (hp : past ≤ 4611686018427387904) (w : World) (h : RAt w p m) :
    Calls Try.prog 44 #[ptr p, .int .i64 t, .int .i64 past] w fun e w' => e = .returned (.tuple #[.int .i64 (m.tk t past : Nat), .int .i64 (secOf t : Nat)]) ∧ Below w.heap.size w w' := by
  have hg := ho.g m
  have hw := wn_bd m.G
  have hc1 := ho.c1
  have hc2 := ho.c2
  have htk := ho.tok
  have hsl := ho.sec
  have hsd := ho.secd
  have hnb := ho.nb
  have hso := secOf_le t
  have hsm : secOf t % 1000000 = 0 := by unfold secOf; omega
  have hsle : m.sec ≤ secOf t := by unfold secOf; omega
  have hu : min (m.tok + m.come t past) m.G ≤ m.G := Nat.min_le_right _ _
  refine rfilled_core p m.c m.tok (seenZ m) t past (wn m.G : Nat) (m.G : Nat) (secOf t : Nat) ((t % 1000000 : Nat) : Int) ((min (m.tok + m.come t past) m.G : Nat) : Int) ((m.c / 3 : Nat) : Int) _ w h.cells.1 h.cells.2.2.1 h.cells.2.2.2.1 (hid fun w0 e => by subst e; exact RMarks_any p m ho w0 h)
    (Int.ofNat_tmod t 1000000).symm ?_ (by simp; omega) (by omega) (Int.ofNat_tdiv m.c 3).symm (wrap_is (by omega) (by omega)).1 ?_
  · rw [(wrap_is (by omega) (by omega)).1]; unfold secOf; omega
  unfold Wm.tk
  by_cases hb : m.bg = true ∧ m.sec = secOf t
  · left
    rw [if_pos hb]
    refine ⟨?_, rfl⟩
    unfold seenZ
    rw [if_pos hb.1, hb.2]
    simp
  · right
    rw [if_neg hb]
    refine ⟨?_, decide_eq_false (by omega), decide_eq_false (by omega), hid ⟨(wrap_is (by omega) (by omega)).1, by omega⟩, ?_⟩
    · unfold seenZ
      by_cases hbg : m.bg = true
      · rw [if_pos hbg]
        have : ¬ m.sec = secOf t := fun e => hb ⟨hbg, e⟩
        simp; omega
      · rw [if_neg hbg]; simp
    · unfold seenZ Wm.come
      by_cases hbg : m.bg = true
      · right
        have hne : ¬ m.sec = secOf t := fun e => hb ⟨hbg, e⟩
        rw [if_pos hbg, if_pos hbg]
        refine ⟨by simp, ?_⟩
        by_cases hcold : m.tok < wn m.G ∨ past < m.c / 3
        · right
          rw [if_pos hcold]
          have hk := Nat.div_le_self (m.G - m.tok) m.c
          have hd1 : (m.G - m.tok) / m.c < (secOf t - m.sec) / 1000000 ↔ m.G - m.tok < (secOf t - m.sec) / 1000000 * m.c := Nat.div_lt_iff_lt_mul hc1
          have hd2 : (secOf t - m.sec) / 1000000 ≤ (m.G - m.tok) / m.c ↔ (secOf t - m.sec) / 1000000 * m.c ≤ m.G - m.tok := Nat.le_div_iff_mul_le hc1
          have hcm : m.c * ((secOf t - m.sec) / 1000000) = (secOf t - m.sec) / 1000000 * m.c := Nat.mul_comm _ _
          rw [hcm]
          obtain ⟨q, hq⟩ : ∃ q, (secOf t - m.sec) / 1000000 = q := ⟨_, rfl⟩
          obtain ⟨kq, hkq⟩ : ∃ q, (m.G - m.tok) / m.c = q := ⟨_, rfl⟩
          have hqb : q ≤ 1152921504606846976 := by omega
          rw [hq]
          rw [hq, hkq] at hd1 hd2
          rw [hkq] at hk
          refine ⟨?_, (q : Int), (kq : Int), (wrap_is (by omega) (by omega)).1, ?_, (wrap_is (by omega) (by omega)).1, (wrap_is (by omega) (by omega)).1, ?_, (wrap_is (by omega) (by omega)).1, ?_⟩
          · by_cases h3 : m.tok < wn m.G
            · left; exact decide_eq_true (by omega)
            · right; exact ⟨decide_eq_false (by omega), decide_eq_true (by omega)⟩
          · rw [show ((secOf t : Nat) : Int) - ((m.sec : Nat) : Int) = ((secOf t - m.sec : Nat) : Int) by omega, ← hq]
            exact (Int.ofNat_tdiv _ 1000000).symm
          · rw [show ((m.G : Nat) : Int) - ((m.tok : Nat) : Int) = ((m.G - m.tok : Nat) : Int) by omega, ← hkq]
            exact (Int.ofNat_tdiv _ _).symm
          · by_cases hn : kq < q
            · left
              have := hd1.1 hn
              exact ⟨decide_eq_true (by omega), decide_eq_true (by omega), by omega⟩
            · right
              have := hd2.1 (by omega)
              have e : (q : Int) * ((m.c : Nat) : Int) = ((q * m.c : Nat) : Int) := by rw [Int.natCast_mul]
              rw [e]
              refine ⟨decide_eq_false (by omega), decide_eq_false (by omega), (wrap_is (by omega) (by omega)).1, ?_⟩
              rw [(wrap_is (by omega) (by omega)).1]
              omega
        · left
          rw [if_neg hcold]
          exact ⟨decide_eq_false (by omega), decide_eq_false (by omega), by omega⟩
      · left
        rw [if_neg hbg, if_neg hbg]
        have := hnb (by simpa using hbg)
        exact ⟨by simp, by omega⟩

end Go.Proofs.Ytamofanfgdjmnaa.WrrB
