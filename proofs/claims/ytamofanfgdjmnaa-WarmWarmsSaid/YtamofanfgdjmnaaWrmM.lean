/- WarmWarms. -/
import Derived.Test.YtamofanfgdjmnaaWrmK
namespace Go.Proofs.Ytamofanfgdjmnaa.WrmM
set_option linter.unusedVariables false
open Go.ChangeShapes Go.WideShapes Go.ChangeAt Go.RowKit Base WrmP NumM NumC NumE NumA WrmA WrmB WrmC WrmD WrmE WrmF WrmG WrmH WrmI WrmJ WrmK Wri

/-- used as much as it lets, behind k rounds -/
def Used (c s : Nat) (m : Wm) (past k : Nat) : Prop :=
  (k = 0 ∧ m = fresh c s ∧ past = 0) ∨
  (∃ j, k = j + 1 ∧ m.Ok ∧ m.c = c ∧ m.s = s ∧ m.bg = true ∧ m.sec = j * 1000000 ∧ m.last = j * 1000000 ∧ past = rateN c (s * c) m.tok ∧
    (wn (s * c) ≤ m.tok → way c (s * c) (m.tok - wn (s * c)) + j * (s * c * c) ≤ (2 * s + 2) * (s * c * c)))

theorem Used.ok {c s k past : Nat} {m : Wm} (hc : 3 ≤ c) (hc2 : c ≤ 1099511627776) (hs : 1 ≤ s) (hs2 : s ≤ 300) (h : Used c s m past k) : m.Ok ∧ past ≤ 1099511627776 ∧ m.last ≤ k * 1000000 := by
  rcases h with ⟨rfl, rfl, rfl⟩ | ⟨j, rfl, ho, h1, h2, h3, h4, h5, h6, h7⟩
  · exact ⟨fresh_ok _ _ (by omega) hc2 hs (by omega), by omega, by unfold fresh; simp⟩
  · have := rate_le c (s * c) m.tok (by omega)
    exact ⟨ho, by omega, by omega⟩

theorem Used.next {c s k past : Nat} {m : Wm} (hc : 3 ≤ c) (hc2 : c ≤ 1099511627776) (hs : 1 ≤ s) (hs2 : s ≤ 300) (hk : k ≤ 2 * s + 20) (h : Used c s m past k) :
    Used c s (m.fill (k * 1000000) past) (Wm.next m (k * 1000000) past) (k + 1) ∧ (2 * s + 4 ≤ k → Wm.next m (k * 1000000) past = c) := by
  obtain ⟨ho, hp, hl⟩ := h.ok hc hc2 hs hs2
  have hg : c ≤ s * c := by
    have : 1 * c ≤ s * c := Nat.mul_le_mul_right _ hs
    omega
  have hsec : secOf (k * 1000000) = k * 1000000 := by unfold secOf; omega
  have hok := fill_ok m ho (k * 1000000) past hl (by omega)
  rcases h with ⟨rfl, rfl, rfl⟩ | ⟨j, rfl, -, h1, h2, h3, h4, h5, h6, h7⟩
  · have ht : (fresh c s).tk 0 0 = s * c := by unfold Wm.tk Wm.come fresh Wm.G; simp
    refine ⟨.inr ⟨0, rfl, hok, rfl, rfl, rfl, hsec, rfl, rfl, fun _ => ?_⟩, fun hh => by omega⟩
    show way c (s * c) ((fresh c s).tk 0 0 - wn (s * c)) + 0 * (s * c * c) ≤ _
    rw [ht]
    have := way_start c (s * c)
    have e : (2 * s + 2) * (s * c * c) = 2 * (s * c * (s * c)) + 2 * (s * c * c) := by
      rw [Nat.add_mul, Nat.mul_assoc 2 s (s * c * c), Nat.mul_comm s (s * c * c), Nat.mul_assoc (s * c) c s, Nat.mul_comm c s]
    omega
  · have hG : m.G = s * c := by unfold Wm.G; rw [h1, h2]
    have hne : ¬ (m.bg = true ∧ m.sec = secOf ((j + 1) * 1000000)) := by rw [hsec, h4]; omega
    have htok := ho.tok
    rw [hG] at htok
    have hcold : wn (s * c) ≤ m.tok → m.tk ((j + 1) * 1000000) past = m.tok - past := by
      intro hw
      have h3' := rate_third c (s * c) m.tok (by omega) htok
      have hcome : m.come ((j + 1) * 1000000) past = 0 := by
        unfold Wm.come
        rw [if_pos h3, if_neg (by rw [hG, h1]; omega)]
      unfold Wm.tk
      rw [if_neg hne, hcome, hG]
      omega
    have hwarm : ¬ wn (s * c) ≤ m.tok → m.tk ((j + 1) * 1000000) past ≤ m.tok := by
      intro hw
      have hr : past = c := by rw [h6]; unfold rateN; rw [if_pos (.inl (by omega))]
      have hcome : m.come ((j + 1) * 1000000) past = c := by
        unfold Wm.come
        rw [if_pos h3, if_pos (.inl (by rw [hG]; omega)), hsec, h4, h1, show ((j + 1) * 1000000 - j * 1000000) / 1000000 = 1 by omega, Nat.mul_one]
      unfold Wm.tk
      rw [if_neg hne, hcome, hG, hr]
      omega
    have hway : wn (s * c) ≤ m.tk ((j + 1) * 1000000) past → way c (s * c) (m.tk ((j + 1) * 1000000) past - wn (s * c)) + (j + 1) * (s * c * c) ≤ (2 * s + 2) * (s * c * c) := by
      intro hw
      by_cases hcw : wn (s * c) ≤ m.tok
      · have e := hcold hcw
        have e7 := h7 hcw
        rw [e] at hw ⊢
        rw [h6] at hw ⊢
        have hst := way_step c (s * c) m.tok hc (by omega) hcw htok (by unfold wn; omega) hw
        have e8 : (j + 1) * (s * c * c) = j * (s * c * c) + s * c * c := by rw [Nat.add_mul, Nat.one_mul]
        omega
      · have := hwarm hcw
        omega
    refine ⟨.inr ⟨j + 1, rfl, hok, h1, h2, rfl, hsec, rfl, ?_, hway⟩, fun hh => ?_⟩
    · show rateN m.c m.G _ = rateN c (s * c) _
      rw [h1, hG]; rfl
    · show rateN m.c m.G _ = c
      rw [h1, hG]
      unfold rateN
      rw [if_pos]
      left
      rcases Nat.lt_or_ge (m.tk ((j + 1) * 1000000) past) (wn (s * c)) with e | e
      · exact e
      · exfalso
        have := hway e
        have h9 : (2 * s + 3) * (s * c * c) ≤ (j + 1) * (s * c * c) := Nat.mul_le_mul_right _ (by omega)
        have h10 : (2 * s + 3) * (s * c * c) = (2 * s + 2) * (s * c * c) + s * c * c := by rw [show 2 * s + 3 = (2 * s + 2) + 1 by omega, Nat.add_mul (2 * s + 2) 1, Nat.one_mul]
        have h11 : 1 ≤ s * c * c := Nat.mul_pos (by omega) (by omega)
        omega

end Go.Proofs.Ytamofanfgdjmnaa.WrmM
