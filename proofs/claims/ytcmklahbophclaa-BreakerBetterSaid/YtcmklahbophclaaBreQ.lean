/- Breakers: with fewer bad ends (pure). -/
import Derived.Test.YtcmklahbophclaaBreA
namespace Go.Proofs.Ytcmklahbophclaa.BreQ
set_option linter.unusedVariables false
open WinM WinA WinB WinC WinD WinE WinF WinG WinH WinI WinJ WinK BreP BreA

/-- as many ends, and no fewer bad ones -/
def CL (c c' : Cnt) : Prop := c.done = c'.done ∧ 0 ≤ c'.errs ∧ c'.errs ≤ c.errs ∧ c.errs ≤ c.done
def BkL (x y : Bkt) : Prop := x.at_ = y.at_ ∧ CL x.c y.c
def LL : List Bkt → List Bkt → Prop
  | [], [] => True
  | x :: l, y :: l' => BkL x y ∧ LL l l'
  | _, _ => False

theorem CL_join {s s' c c' : Cnt} (h : CL s s') (h2 : CL c c') : CL (joinM s c) (joinM s' c') := by
  obtain ⟨a1, a2, a3, a4⟩ := h
  obtain ⟨b1, b2, b3, b4⟩ := h2
  unfold CL joinM WinM.plusM
  dsimp only
  (repeat' split) <;> exact ⟨by omega, by omega, by omega, by omega⟩
theorem CL_zero : CL ⟨0, 0, 0, 0, 0, 0⟩ ⟨0, 0, 0, 0, 0, 0⟩ := ⟨rfl, Int.le_refl _, Int.le_refl _, Int.le_refl _⟩
theorem LL_stays (lim : Int) : ∀ (l l' : List Bkt), LL l l' → LL (stays lim l) (stays lim l') := by
  intro l
  induction l with
  | nil => intro l' h; cases l' with | nil => exact h | cons => exact h.elim
  | cons x l ih =>
    intro l' h
    cases l' with
    | nil => exact h.elim
    | cons y l' =>
      obtain ⟨h1, h2⟩ := h
      have := ih l' h2
      unfold stays at this ⊢
      rw [List.filter_cons, List.filter_cons, h1.1]
      split
      · exact ⟨h1, this⟩
      · exact this
theorem LL_sum : ∀ (l l' : List Bkt) (s s' : Cnt), LL l l' → CL s s' → CL (l.foldl (fun s b => joinM s b.c) s) (l'.foldl (fun s b => joinM s b.c) s') := by
  intro l
  induction l with
  | nil => intro l' s s' h hs; cases l' with | nil => exact hs | cons => exact h.elim
  | cons x l ih =>
    intro l' s s' h hs
    cases l' with
    | nil => exact h.elim
    | cons y l' => exact ih l' _ _ h.2 (CL_join hs h.1.2)
theorem note_cons (b : Int) (c : Cnt) (x y : Bkt) (l : List Bkt) : noteM b c (x :: y :: l) = x :: noteM b c (y :: l) := by
  unfold noteM
  rw [List.getLast?_cons_cons]
  cases h : (y :: l).getLast? with
  | none => simp at h
  | some z =>
    dsimp only
    split
    · simp [List.dropLast]
    · rfl
theorem LL_note (b : Int) {c c' : Cnt} (hc : CL c c') : ∀ (l l' : List Bkt), LL l l' → LL (noteM b c l) (noteM b c' l') := by
  intro l
  induction l with
  | nil =>
    intro l' h
    cases l' with
    | nil => exact ⟨⟨rfl, CL_join CL_zero hc⟩, trivial⟩
    | cons => exact h.elim
  | cons x l ih =>
    intro l' h
    cases l' with
    | nil => exact h.elim
    | cons y l' =>
      obtain ⟨h1, h2⟩ := h
      cases l with
      | nil =>
        cases l' with
        | cons => exact h2.elim
        | nil =>
          unfold noteM
          simp only [List.getLast?_singleton, List.dropLast_singleton, List.nil_append]
          rw [h1.1]
          split
          · exact ⟨⟨rfl, CL_join h1.2 hc⟩, trivial⟩
          · exact ⟨h1, ⟨rfl, CL_join CL_zero hc⟩, trivial⟩
      | cons x2 l =>
        cases l' with
        | nil => exact h2.elim
        | cons y2 l' =>
          rw [note_cons, note_cons]
          exact ⟨h1, ih (y2 :: l') h2⟩

theorem over_mono {r : Rule} {c c' : Cnt} (h : CL c c') (ho : overB r c' = true) : overB r c = true := by
  obtain ⟨h1, h2, h3, h4⟩ := h
  unfold overB at ho ⊢
  rw [h1]
  split at ho
  · simp at ho
  · rename_i q
    rw [if_neg q]
    split at ho
    · rename_i q; rw [if_pos q]; simp at ho ⊢; omega
    · rename_i q
      rw [if_neg q]
      split at ho
      · rename_i q; rw [if_pos q]; simp at ho ⊢; omega
      · rename_i q; rw [if_neg q]; simp at ho ⊢; omega

/-- both closed, the second has seen fewer bad ends -/
structure BL (A B : Bk) : Prop where
  r : A.r = B.r
  a : A.st = 1
  b : B.st = 1
  last : A.last = B.last
  wid : A.win.width = B.win.width
  bs : LL A.win.bs B.win.bs

theorem winA_LL {W W' : Win} (hw : W.width = W'.width) (h : LL W.bs W'.bs) (t : Int) (b b' : Bool) (hb : b' = true → b = true) : (winA W t b).width = (winA W' t b').width ∧ LL (winA W t b).bs (winA W' t b').bs := by
  unfold winA addM
  dsimp only
  rw [hw]
  refine ⟨rfl, LL_note _ ?_ _ _ (LL_stays _ _ _ h)⟩
  cases b <;> cases b' <;> simp [CL] at hb ⊢
theorem winS_CL {W W' : Win} (hw : W.width = W'.width) (h : LL W.bs W'.bs) (t : Int) : CL (winS W t) (winS W' t) := by
  unfold winS sumM
  rw [hw]
  exact LL_sum _ _ _ _ (LL_stays _ _ _ h) CL_zero

theorem refD_closed (B : Bk) (t rt : Int) : refD B t rt false = refT B t rt := by
  unfold refD
  split
  · rename_i h; simp [h]
  · rfl

theorem done_closed {B : Bk} {t rt : Int} (f : Bool) (hz : refT B t rt = 0) (hs : B.st = 1) : doneB B t rt f false = countB { B with last := t.toNat, n := B.n + 1 } t (badB B rt f) := by
  unfold doneB
  rw [if_pos ((refD_closed B t rt).trans hz), if_neg (show ¬ (false = true) by decide), if_pos hs]
theorem done_no {B : Bk} {t rt : Int} (f : Bool) (hz : ¬ refT B t rt = 0) : doneB B t rt f false = B := by
  unfold doneB
  rw [if_neg (by rw [refD_closed]; exact hz)]

theorem better {A B : Bk} (h : BL A B) (t rt rt' : Int) (f f' : Bool) (hr : refT A t rt = refT A t rt') (hb : badB A rt' f' = true → badB A rt f = true) :
    refD B t rt' false = refD A t rt false ∧ ((doneB B t rt' f' false).st = 2 → (doneB A t rt f false).st = 2) ∧ ((doneB A t rt f false).st = 2 ∨ BL (doneB A t rt f false) (doneB B t rt' f' false)) := by
  obtain ⟨h1, h2, h3, h4, h5, h6⟩ := h
  have e : refT B t rt' = refT A t rt' := by unfold refT; rw [h4]
  rw [refD_closed, refD_closed, e, ← hr]
  refine ⟨rfl, ?_⟩
  by_cases hz : refT A t rt = 0
  · rw [done_closed f hz h2, done_closed f' (e.trans (hr.symm.trans hz)) h3]
    have hbad : badB B rt' f' = badB A rt' f' := by unfold badB; rw [h1]
    rw [hbad]
    obtain ⟨w1, w2⟩ := winA_LL h5 h6 t _ _ hb
    have ws := winS_CL w1 w2 t
    unfold countB
    dsimp only
    by_cases ho : overB A.r (winS (winA A.win t (badB A rt f)) t) = true
    · rw [if_pos ho]
      exact ⟨fun _ => rfl, .inl rfl⟩
    · have ho' : ¬ overB B.r (winS (winA B.win t (badB A rt' f')) t) = true := fun x => ho (over_mono (r := A.r) ws (h1 ▸ x))
      rw [if_neg ho, if_neg ho']
      exact ⟨fun x => absurd (h3.symm.trans x) (by decide), .inr ⟨h1, h2, h3, rfl, w1, w2⟩⟩
  · rw [done_no f hz, done_no f' (by rw [e, ← hr]; exact hz)]
    exact ⟨fun x => absurd (h3.symm.trans x) (by decide), .inr ⟨h1, h2, h3, h4, h5, h6⟩⟩

theorem fresh_BL (r : Rule) : BL (fresh r) (fresh r) := ⟨rfl, rfl, rfl, rfl, rfl, trivial⟩

end Go.Proofs.Ytcmklahbophclaa.BreQ
