/- Breakers: what a breaker is and how it goes on (pure). -/
import Derived.Test.YtcmklahbophclaaWinK
namespace Go.Proofs.Ytcmklahbophclaa.BreP
set_option linter.unusedVariables false
open WinM WinA WinB WinC WinD WinE WinF WinG WinH WinI WinJ WinK

structure Rule where
  nm : ByteArray
  g : Nat
  count : Int
  slow : Int
  least : Int
  width : Int
  rcv : Int

structure Bk where
  r : Rule
  st : Nat
  til : Nat
  trips : Nat
  last : Nat
  win : Win
  /-- how many ends were noted (no cell of its own) -/
  n : Nat

def inT (t : Int) : Bool := decide (0 ≤ t) && decide (t ≤ 1152921504606846976)
theorem inT_iff {t : Int} : inT t = true ↔ 0 ≤ t ∧ t ≤ 1152921504606846976 := by unfold inT; simp
/-- the error of times -/
def refT (B : Bk) (t rt : Int) : Int := if inT t && inT rt then (if t < B.last then 7 else 0) else 2
def passB (B : Bk) (t : Int) : Bool := decide (B.st = 1) || (decide (B.st = 2) && decide ((B.til : Int) ≤ t))
def badB (B : Bk) (rt : Int) (f : Bool) : Bool := if B.r.g = 0 then decide (B.r.slow < rt) else f
def plusM (t c : Int) : Nat := (min (t + c) 4611686018427387904).toNat
def tripB (B : Bk) (t : Int) : Bk := { B with st := 2, til := plusM t B.r.rcv, trips := B.trips + 1 }
/-- do the counts let it trip -/
def overB (r : Rule) (c : Cnt) : Bool :=
  if c.done < r.least then false else if r.g = 2 then decide (r.count < c.errs) else if r.count = 1000 then decide (c.errs = c.done) else decide (c.done * r.count < c.errs * 1000)
def freshW (r : Rule) : Win := ⟨r.width.toNat, 1, 0, []⟩
def fresh (r : Rule) : Bk := ⟨r, 1, 0, 0, 0, freshW r, 0⟩
def winS (W : Win) (t : Int) : Cnt := sumM (stays ((begN W.width t.toNat : Int) - W.width + W.width) W.bs)
def winA (W : Win) (t : Int) (bad : Bool) : Win := addM W.width W t.toNat ⟨0, 0, 1, if bad then 1 else 0, 0, 0⟩
/-- an end while it is closed -/
def countB (B : Bk) (t : Int) (bad : Bool) : Bk :=
  if overB B.r (winS (winA B.win t bad) t) then tripB { B with win := winA B.win t bad } t else { B with win := winA B.win t bad }

def refD (B : Bk) (t rt : Int) (pr : Bool) : Int := if refT B t rt = 0 then (if pr = true ∧ B.st ≠ 3 then 4 else 0) else refT B t rt
def doneB (B : Bk) (t rt : Int) (f pr : Bool) : Bk :=
  if refD B t rt pr = 0 then
    (if pr then (if badB B rt f then tripB { B with last := t.toNat, n := B.n + 1 } t else { B with last := t.toNat, n := B.n + 1, st := 1, til := 0, win := freshW B.r })
     else if B.st = 1 then countB { B with last := t.toNat, n := B.n + 1 } t (badB B rt f) else { B with last := t.toNat, n := B.n + 1 }) else B
def enterB (B : Bk) (t : Int) : Bk := if refT B t 0 = 0 then (if passB B t = true ∧ B.st = 2 then { B with last := t.toNat, st := 3 } else { B with last := t.toNat }) else B
def goesB (B : Bk) (t : Int) : Bool := decide (refT B t 0 = 0) && passB B t
def refG (B : Bk) (t : Int) : Int := if refT B t 0 = 0 then (if B.st ≠ 3 then 4 else 0) else refT B t 0
def giveB (B : Bk) (t : Int) : Bk := if refG B t = 0 then { B with last := t.toNat, st := 2 } else B

/-- a call: by its kind -/
def stepB (B : Bk) (kd t rt : Int) (f pr : Bool) : Bk := if kd = 0 then enterB B t else if kd = 1 then doneB B t rt f pr else if kd = 2 then giveB B t else B

structure Bk.Ok (B : Bk) : Prop where
  st : B.st = 1 ∨ B.st = 2 ∨ B.st = 3
  last : B.last ≤ 1152921504606846976
  til : B.til ≤ 4611686018427387904
  tr : B.trips ≤ B.n

theorem refT_zero {B : Bk} {t rt : Int} (h : refT B t rt = 0) : 0 ≤ t ∧ t ≤ 1152921504606846976 ∧ (B.last : Int) ≤ t ∧ 0 ≤ rt ∧ rt ≤ 1152921504606846976 := by
  unfold refT at h
  cases h1 : inT t <;> cases h2 : inT rt <;> simp [h1, h2] at h
  have a := inT_iff.1 h1
  have b := inT_iff.1 h2
  exact ⟨a.1, a.2, h, b.1, b.2⟩
theorem plusM_le (t c : Int) : plusM t c ≤ 4611686018427387904 := by unfold plusM; omega
theorem countB_ok {B : Bk} (h : B.Ok) (h2 : B.trips + 1 ≤ B.n) (t : Int) (b : Bool) : (countB B t b).Ok := by
  unfold countB
  split
  · exact ⟨.inr (.inl rfl), h.last, plusM_le _ _, h2⟩
  · exact ⟨h.st, h.last, h.til, h.tr⟩
theorem refD_zero {B : Bk} {t rt : Int} {pr : Bool} (h : refD B t rt pr = 0) : refT B t rt = 0 ∧ (pr = true → B.st = 3) := by
  unfold refD at h
  split at h
  · rename_i h1
    split at h
    · simp at h
    · rename_i h2
      exact ⟨h1, fun hp => Decidable.byContradiction fun h3 => h2 ⟨hp, h3⟩⟩
  · rename_i h1
    exact absurd h h1
theorem doneB_ok {B : Bk} (h : B.Ok) (t rt : Int) (f pr : Bool) : (doneB B t rt f pr).Ok := by
  have htr := h.tr
  unfold doneB
  split
  · rename_i hz
    obtain ⟨a, b, c, -, -⟩ := refT_zero (refD_zero hz).1
    have hl : t.toNat ≤ 1152921504606846976 := by omega
    split
    · split
      · exact ⟨.inr (.inl rfl), hl, plusM_le _ _, Nat.succ_le_succ htr⟩
      · exact ⟨.inl rfl, hl, Nat.zero_le _, Nat.le_succ_of_le htr⟩
    · split
      · exact countB_ok (B := { B with last := t.toNat, n := B.n + 1 }) ⟨h.st, hl, h.til, Nat.le_succ_of_le htr⟩ (Nat.succ_le_succ htr) t _
      · exact ⟨h.st, hl, h.til, Nat.le_succ_of_le htr⟩
  · exact h
theorem enterB_ok {B : Bk} (h : B.Ok) (t : Int) : (enterB B t).Ok := by
  unfold enterB
  split
  · rename_i hz
    obtain ⟨a, b, c, -, -⟩ := refT_zero hz
    have hl : t.toNat ≤ 1152921504606846976 := by omega
    split
    · exact ⟨.inr (.inr rfl), hl, h.til, h.tr⟩
    · exact ⟨h.st, hl, h.til, h.tr⟩
  · exact h
theorem giveB_ok {B : Bk} (h : B.Ok) (t : Int) : (giveB B t).Ok := by
  unfold giveB
  split
  · rename_i hz
    have hz2 : refT B t 0 = 0 := by
      unfold refG at hz
      split at hz
      · rename_i h1; exact h1
      · rename_i h1; exact absurd hz h1
    obtain ⟨a, b, c, -, -⟩ := refT_zero hz2
    have hl : t.toNat ≤ 1152921504606846976 := by omega
    exact ⟨.inr (.inl rfl), hl, h.til, h.tr⟩
  · exact h

/-- how many ends were noted grows by at most one -/
theorem n_le (B : Bk) (kd t rt : Int) (f pr : Bool) : B.n ≤ (stepB B kd t rt f pr).n ∧ (stepB B kd t rt f pr).n ≤ B.n + 1 := by
  unfold stepB
  split
  · unfold enterB; (repeat' split) <;> exact ⟨Nat.le_refl _, Nat.le_succ _⟩
  · split
    · unfold doneB countB tripB
      (repeat' split) <;> first | exact ⟨Nat.le_refl _, Nat.le_succ _⟩ | exact ⟨Nat.le_succ _, Nat.le_refl _⟩
    · split
      · unfold giveB; (repeat' split) <;> exact ⟨Nat.le_refl _, Nat.le_succ _⟩
      · exact ⟨Nat.le_refl _, Nat.le_succ _⟩
theorem doneB_n (B : Bk) (t rt : Int) (f pr : Bool) : B.n ≤ (doneB B t rt f pr).n ∧ (doneB B t rt f pr).n ≤ B.n + 1 := by
  have h := n_le B 1 t rt f pr
  unfold stepB at h
  rwa [if_neg (by decide), if_pos rfl] at h

/-- an end while it isn't closed, that is no probe's, changes the time that is noted, and no more -/
theorem done_still {B : Bk} (h : B.st ≠ 1) (t rt : Int) (f : Bool) : ∃ x y, doneB B t rt f false = { B with last := x, n := y } ∧ y ≤ B.n + 1 := by
  unfold doneB
  split
  · exact ⟨t.toNat, B.n + 1, by simp, Nat.le_refl _⟩
  · exact ⟨B.last, B.n, rfl, Nat.le_succ _⟩

end Go.Proofs.Ytcmklahbophclaa.BreP
