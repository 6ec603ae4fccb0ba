/- Plain mathematics of counts and windows: no Go in sight. -/
namespace Go.Proofs.Ytnloedhcginopaa.WinM

structure Cnt where
  pass : Int
  block : Int
  done : Int
  errs : Int
  rt : Int
  low : Int
deriving DecidableEq, Repr

def Cnt.zero : Cnt := ⟨0, 0, 0, 0, 0, 0⟩

/-- a number that counts may have -/
def InN (n : Int) : Prop := 0 ≤ n ∧ n ≤ 4611686018427387904
def Cnt.Fine (c : Cnt) : Prop := InN c.pass ∧ InN c.block ∧ InN c.done ∧ InN c.errs ∧ InN c.rt ∧ InN c.low
def Cnt.Right (c : Cnt) : Prop := c.Fine ∧ c.errs ≤ c.done ∧ c.low ≤ c.rt ∧ ¬ (c.done = 0 ∧ c.rt ≠ 0)

def plusM (a b : Int) : Int := if 4611686018427387904 < a + b then 4611686018427387904 else a + b
def leastM (a b : Cnt) : Int := if a.done = 0 then b.low else if b.done = 0 then a.low else min a.low b.low
def joinM (a b : Cnt) : Cnt := ⟨plusM a.pass b.pass, plusM a.block b.block, plusM a.done b.done, plusM a.errs b.errs, plusM a.rt b.rt, leastM a b⟩

theorem plusM_in {a b : Int} (ha : InN a) (hb : InN b) : InN (plusM a b) := by
  unfold plusM InN at *; split <;> omega
theorem leastM_in {a b : Cnt} (ha : a.Fine) (hb : b.Fine) : InN (leastM a b) := by
  unfold leastM
  split
  · exact hb.2.2.2.2.2
  · split
    · exact ha.2.2.2.2.2
    · have h1 := ha.2.2.2.2.2
      have h2 := hb.2.2.2.2.2
      unfold InN at *
      omega
theorem joinM_fine {a b : Cnt} (ha : a.Fine) (hb : b.Fine) : (joinM a b).Fine := by
  have hl := leastM_in ha hb
  obtain ⟨a1, a2, a3, a4, a5, _⟩ := ha
  obtain ⟨b1, b2, b3, b4, b5, _⟩ := hb
  exact ⟨plusM_in a1 b1, plusM_in a2 b2, plusM_in a3 b3, plusM_in a4 b4, plusM_in a5 b5, hl⟩

end Go.Proofs.Ytnloedhcginopaa.WinM
