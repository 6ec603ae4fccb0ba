/- Breakers: what a breaker's window keeps (pure). -/
import Derived.Test.YtcmklahbophclaaBreA
import Derived.Test.YtcmklahbophclaaWinN
import Derived.Test.YtcmklahbophclaaNumC
namespace Go.Proofs.Ytcmklahbophclaa.BreY
set_option linter.unusedVariables false
open WinM WinC WinD WinE WinH WinK WinN BreP BreA NumM NumC

structure WOk (B : Bk) : Prop where
  wid : B.win.width = B.r.width.toNat
  siz : B.win.size = 1
  last : ∃ l : Nat, B.win.last = l ∧ l ≤ B.last ∧ Tidy B.r.width.toNat B.win l
  few : ∀ x ∈ B.win.bs, x.c.errs ≤ B.n ∧ x.c.done ≤ B.n

structure Pu (B : Bk) : Prop where
  ok : B.Ok
  good : RuleGood B.r
  til : B.st = 1 → B.til = 0
  win : WOk B

theorem plusM_le' (a b : Int) : WinM.plusM a b ≤ a + b := by unfold WinM.plusM; split <;> omega

def one (bad : Bool) : Cnt := ⟨0, 0, 1, if bad then 1 else 0, 0, 0⟩
theorem one_right (bad : Bool) : (one bad).Right := by
  cases bad <;> (unfold one Cnt.Right Cnt.Fine InN; decide)

theorem few_note (b : Int) (bad : Bool) (l : List Bkt) (N : Nat) (h : ∀ x ∈ l, x.c.errs ≤ N ∧ x.c.done ≤ N) : ∀ x ∈ noteM b (one bad) l, x.c.errs ≤ (N + 1 : Nat) ∧ x.c.done ≤ (N + 1 : Nat) := by
  have h1 : (one bad).errs ≤ 1 := by cases bad <;> decide
  have h2 : (one bad).done = 1 := rfl
  have e0 : ∀ c : Cnt, c.errs ≤ N → c.done ≤ N → (joinM c (one bad)).errs ≤ (N + 1 : Nat) ∧ (joinM c (one bad)).done ≤ (N + 1 : Nat) := fun c a1 a2 => by
    have b1 := plusM_le' c.errs (one bad).errs
    have b2 := plusM_le' c.done (one bad).done
    exact ⟨by show WinM.plusM c.errs (one bad).errs ≤ _; omega, by show WinM.plusM c.done (one bad).done ≤ _; omega⟩
  have ez := e0 ⟨0, 0, 0, 0, 0, 0⟩ (by simp) (by simp)
  rcases nil_or_snoc l with rfl | ⟨t, y, rfl⟩
  · rw [noteM_nil]
    intro x hx
    obtain rfl := List.mem_singleton.1 hx
    exact ez
  · rw [noteM_snoc]
    have hy := h y (by simp)
    intro x hx
    have old : ∀ z, z ∈ t ∨ z = y → z.c.errs ≤ (N + 1 : Nat) ∧ z.c.done ≤ (N + 1 : Nat) := fun z hz => by
      have := h z (by simpa using hz)
      omega
    split at hx
    · rcases List.mem_append.1 hx with hx | hx
      · exact old x (.inl hx)
      · obtain rfl := List.mem_singleton.1 hx
        exact e0 _ hy.1 hy.2
    · rcases List.mem_append.1 hx with hx | hx
      · exact old x (by simpa using hx)
      · obtain rfl := List.mem_singleton.1 hx
        exact ez

theorem wok_len {B : Bk} (h : WOk B) (hg : RuleGood B.r) : B.win.bs.length ≤ 1 := by
  obtain ⟨l, -, -, ht⟩ := h.last
  have := ht.len (by rw [h.wid, h.siz, Nat.one_mul]) (by have := hg.wid0; omega)
  rwa [h.siz] at this
theorem wok_fine {B : Bk} (h : WOk B) : ∀ x ∈ B.win.bs, x.c.Fine := by
  obtain ⟨l, -, -, ht⟩ := h.last
  exact ht.fine

/-- an end that is counted -/
theorem wok_add {B : Bk} (h : WOk B) (hg : RuleGood B.r) (t : Int) (h0 : (B.last : Int) ≤ t) (bad : Bool) : WOk { B with last := t.toNat, n := B.n + 1, win := winA B.win t bad } := by
  obtain ⟨l, h1, h2, ht⟩ := h.last
  refine ⟨h.wid, h.siz, ⟨t.toNat, rfl, Nat.le_refl _, ?_⟩, ?_⟩
  · have := ht.add (at_ := t.toNat) (c := one bad) (by omega) (by rw [h.wid]; exact Nat.le_refl _) (one_right bad).1
    show Tidy B.r.width.toNat (addM B.win.width B.win t.toNat (one bad)) t.toNat
    rwa [h.wid]
  · exact few_note _ bad _ B.n fun x hx => h.few x (List.mem_filter.1 hx).1

theorem sum_few (l : List Bkt) (N : Nat) (hN : N ≤ 4611686018427387904) (hl : l.length ≤ 1) (hf : ∀ x ∈ l, x.c.Fine) (h : ∀ x ∈ l, x.c.errs ≤ N ∧ x.c.done ≤ N) :
    0 ≤ (sumM l).errs ∧ (sumM l).errs ≤ N ∧ 0 ≤ (sumM l).done ∧ (sumM l).done ≤ N := by
  match l, hl with
  | [], _ => exact ⟨Int.le_refl 0, by show (0 : Int) ≤ _; omega, Int.le_refl 0, by show (0 : Int) ≤ _; omega⟩
  | [x], _ =>
    have a := hf x (by simp)
    have b := h x (by simp)
    obtain ⟨-, -, a3, a4, -, -⟩ := a
    unfold InN at a3 a4
    have e1 : (sumM [x]).errs = WinM.plusM 0 x.c.errs := rfl
    have e2 : (sumM [x]).done = WinM.plusM 0 x.c.done := rfl
    rw [e1, e2, plusM_small (by omega), plusM_small (by omega)]
    omega

theorem winS_few {B : Bk} (h : WOk B) (hg : RuleGood B.r) (hn : B.n ≤ 10000000000000) (t : Int) :
    0 ≤ (winS B.win t).errs ∧ (winS B.win t).errs ≤ 10000000000000 ∧ 0 ≤ (winS B.win t).done ∧ (winS B.win t).done ≤ 10000000000000 := by
  have := sum_few (stays ((begN B.win.width t.toNat : Int) - B.win.width + B.win.width) B.win.bs) B.n (by omega) (Nat.le_trans (List.length_filter_le _ _) (wok_len h hg)) (fun x hx => wok_fine h x (List.mem_filter.1 hx).1) (fun x hx => h.few x (List.mem_filter.1 hx).1)
  unfold winS
  omega

theorem keep_cmp (x y : Int) (hx : 0 ≤ x) (hy : y ≤ 9223372036854775807) : decide (keep x < y) = decide (x < y) := by
  unfold keep
  by_cases h : Fits x
  · rw [if_pos h]
  · rw [if_neg h, if_neg (by omega)]
    unfold Fits at h
    rw [decide_eq_false (by omega), decide_eq_false (by omega)]

theorem wok_fresh (r : Rule) (hg : RuleGood r) : WOk (fresh r) :=
  ⟨rfl, rfl, ⟨0, rfl, Nat.le_refl _, Tidy.fresh _ _ _⟩, fun x hx => by cases hx⟩
theorem wok_other {B B' : Bk} (h : WOk B) (hr : B'.r = B.r) (hw : B'.win = B.win) (hl : B.last ≤ B'.last) (hn : B.n ≤ B'.n) : WOk B' := by
  obtain ⟨l, h1, h2, ht⟩ := h.last
  refine ⟨by rw [hr, hw]; exact h.wid, by rw [hw]; exact h.siz, ⟨l, by rw [hw]; exact h1, by omega, by rw [hr, hw]; exact ht⟩, fun x hx => ?_⟩
  rw [hw] at hx
  have := h.few x hx
  omega
theorem wok_anew {B B' : Bk} (hg : RuleGood B.r) (hr : B'.r = B.r) (hw : B'.win = freshW B.r) : WOk B' :=
  ⟨by rw [hr, hw]; rfl, by rw [hw]; rfl, ⟨0, by rw [hw]; rfl, Nat.zero_le _, by rw [hr, hw]; exact Tidy.fresh _ _ _⟩, fun x hx => by rw [hw] at hx; cases hx⟩

theorem fresh_pu (r : Rule) (hg : RuleGood r) : Pu (fresh r) := ⟨⟨.inl rfl, Nat.zero_le _, Nat.zero_le _, Nat.le_refl _⟩, hg, fun _ => rfl, wok_fresh r hg⟩
theorem enter_pu {B : Bk} (h : Pu B) (t : Int) : Pu (enterB B t) := by
  refine ⟨enterB_ok h.ok t, ?_, ?_, ?_⟩
  · unfold enterB
    (repeat' split) <;> exact h.good
  · unfold enterB
    split
    · split
      · intro h; cases h
      · exact h.til
    · exact h.til
  · unfold enterB
    split
    · rename_i hz
      obtain ⟨a, b, c, -⟩ := refT_zero hz
      split
      · exact wok_other h.win rfl rfl (by show B.last ≤ t.toNat; omega) (Nat.le_refl _)
      · exact wok_other h.win rfl rfl (by show B.last ≤ t.toNat; omega) (Nat.le_refl _)
    · exact h.win
theorem give_pu {B : Bk} (h : Pu B) (t : Int) : Pu (giveB B t) := by
  refine ⟨giveB_ok h.ok t, ?_, ?_, ?_⟩
  · unfold giveB
    (repeat' split) <;> exact h.good
  · unfold giveB
    split
    · intro h; cases h
    · exact h.til
  · unfold giveB
    split
    · rename_i hz
      have hz2 : refT B t 0 = 0 := by
        unfold refG at hz
        split at hz
        · rename_i h1; exact h1
        · rename_i h1; exact absurd hz h1
      obtain ⟨a, b, c, -⟩ := refT_zero hz2
      exact wok_other h.win rfl rfl (by show B.last ≤ t.toNat; omega) (Nat.le_refl _)
    · exact h.win

theorem done_pu {B : Bk} (h : Pu B) (t rt : Int) (f pr : Bool) : Pu (doneB B t rt f pr) := by
  refine ⟨doneB_ok h.ok t rt f pr, ?_, ?_, ?_⟩
  · unfold doneB countB tripB
    (repeat' split) <;> exact h.good
  · unfold doneB countB tripB
    split
    · split
      · split
        · intro h; cases h
        · intro _; rfl
      · split
        · split
          · intro h; cases h
          · exact h.til
        · exact h.til
    · exact h.til
  · unfold doneB
    split
    · rename_i hz
      obtain ⟨a, b, c, -⟩ := refT_zero (refD_zero hz).1
      have hl : B.last ≤ t.toNat := by omega
      split
      · split
        · exact wok_other h.win rfl rfl hl (Nat.le_succ _)
        · exact wok_anew h.good rfl rfl
      · split
        · have := wok_add h.win h.good t c (badB B rt f)
          unfold countB
          split
          · exact wok_other this rfl rfl (Nat.le_refl _) (Nat.le_refl _)
          · exact this
        · exact wok_other h.win rfl rfl hl (Nat.le_succ _)
    · exact h.win

end Go.Proofs.Ytcmklahbophclaa.BreY
