/- The token bucket of a warm-up: plain mathematics, no Go in sight. -/
namespace Go.Proofs.Ytcmklahbophclaa.WrmP
set_option linter.unusedVariables false

structure Wm where
  c : Nat
  s : Nat
  tok : Nat
  sec : Nat
  last : Nat
  bg : Bool

def Wm.G (m : Wm) : Nat := m.s * m.c
def wn (g : Nat) : Nat := g - g / 2
def secOf (t : Nat) : Nat := t - t % 1000000

def Wm.come (m : Wm) (t past : Nat) : Nat :=
  if m.bg = true then (if m.tok < wn m.G ∨ past < m.c / 3 then m.c * ((secOf t - m.sec) / 1000000) else 0) else m.G

def Wm.tk (m : Wm) (t past : Nat) : Nat :=
  if m.bg = true ∧ m.sec = secOf t then m.tok else min (m.tok + m.come t past) m.G - past

/-- the rate of x tokens, of a count c and a greatest g -/
def rateN (c g x : Nat) : Nat := if x < wn g ∨ wn g = g then c else max (g * c / (4 * (x - wn g) + g)) 1

def Wm.fill (m : Wm) (t past : Nat) : Wm := { m with tok := m.tk t past, sec := secOf t, last := t, bg := true }
def Wm.rate (m : Wm) : Nat := rateN m.c m.G m.tok

def fresh (c s : Nat) : Wm := ⟨c, s, 0, 0, 0, false⟩

structure Wm.Ok (m : Wm) : Prop where
  c1 : 1 ≤ m.c
  c2 : m.c ≤ 1099511627776
  s1 : 1 ≤ m.s
  s2 : m.s ≤ 3600
  tok : m.tok ≤ m.G
  sec : m.sec ≤ m.last
  secd : m.sec % 1000000 = 0
  last : m.last ≤ 1152921504606846976
  nb : m.bg = false → m.tok = 0 ∧ m.sec = 0 ∧ m.last = 0

theorem Wm.Ok.g (m : Wm) (h : m.Ok) : m.c ≤ m.G ∧ m.G ≤ 3958241859993600 := by
  have h1 : 1 * m.c ≤ m.s * m.c := Nat.mul_le_mul_right _ h.s1
  have h2 : m.s * m.c ≤ 3600 * 1099511627776 := Nat.mul_le_mul h.s2 h.c2
  unfold Wm.G
  omega

theorem secOf_le (t : Nat) : secOf t ≤ t := by unfold secOf; omega

theorem tk_le (m : Wm) (h : m.Ok) (t past : Nat) : m.tk t past ≤ m.G := by
  unfold Wm.tk
  split
  · exact h.tok
  · have := Nat.min_le_right (m.tok + m.come t past) m.G
    omega

theorem fill_ok (m : Wm) (h : m.Ok) (t past : Nat) (h1 : m.last ≤ t) (h2 : t ≤ 1152921504606846976) : (m.fill t past).Ok :=
  ⟨h.c1, h.c2, h.s1, h.s2, tk_le m h t past, secOf_le t, by show secOf t % 1000000 = 0; unfold secOf; omega, h2, fun e => by cases e⟩

theorem fresh_ok (c s : Nat) (c1 : 1 ≤ c) (c2 : c ≤ 1099511627776) (s1 : 1 ≤ s) (s2 : s ≤ 3600) : (fresh c s).Ok :=
  ⟨c1, c2, s1, s2, Nat.zero_le _, Nat.le_refl _, rfl, by simp [fresh], fun _ => ⟨rfl, rfl, rfl⟩⟩

theorem wn_bd (g : Nat) : wn g ≤ g ∧ g ≤ wn g + g / 2 ∧ 2 * (g - wn g) ≤ g := by unfold wn; omega

theorem rate_le (c g x : Nat) (hc : 1 ≤ c) : rateN c g x ≤ c := by
  unfold rateN
  split
  · exact Nat.le_refl _
  · refine Nat.max_le.2 ⟨?_, hc⟩
    rcases Nat.eq_zero_or_pos g with e | e
    · subst e; simp
    · refine Nat.div_le_of_le_mul ?_
      refine Nat.mul_le_mul_right _ ?_
      omega

theorem rate_pos (c g x : Nat) (hc : 1 ≤ c) : 1 ≤ rateN c g x := by
  unfold rateN
  split
  · exact hc
  · exact Nat.le_max_right _ _

theorem third_le (c g x : Nat) (hg : 1 ≤ g) (hx : x ≤ g) : c / 3 ≤ g * c / (4 * (x - wn g) + g) := by
  have hw := wn_bd g
  rw [Nat.le_div_iff_mul_le (by omega)]
  have h1 : 4 * (x - wn g) + g ≤ 3 * g := by omega
  calc c / 3 * (4 * (x - wn g) + g) ≤ c / 3 * (3 * g) := Nat.mul_le_mul_left _ h1
    _ = (c / 3 * 3) * g := by rw [Nat.mul_assoc]
    _ ≤ c * g := Nat.mul_le_mul_right _ (Nat.div_mul_le_self c 3)
    _ = g * c := Nat.mul_comm _ _

theorem rate_third (c g x : Nat) (hg : 1 ≤ g) (hx : x ≤ g) : c / 3 ≤ rateN c g x := by
  unfold rateN
  split
  · omega
  · exact Nat.le_trans (third_le c g x hg hx) (Nat.le_max_left _ _)

theorem rate_anti (c g x y : Nat) (hc : 1 ≤ c) (hg : 1 ≤ g) (h : x ≤ y) : rateN c g y ≤ rateN c g x := by
  by_cases hx : x < wn g ∨ wn g = g
  · rw [show rateN c g x = c by unfold rateN; rw [if_pos hx]]
    exact rate_le c g y hc
  · have hy : ¬ (y < wn g ∨ wn g = g) := by omega
    unfold rateN
    rw [if_neg hx, if_neg hy]
    have : g * c / (4 * (y - wn g) + g) ≤ g * c / (4 * (x - wn g) + g) := Nat.div_le_div_left (by omega) (by omega)
    omega

/-- cold: a third of the count, or 1 more -/
theorem rate_cold (c s : Nat) (hc : 1 ≤ c) (hs : 1 ≤ s) : rateN c (s * c) (s * c) = c / 3 ∨ rateN c (s * c) (s * c) = c / 3 + 1 := by
  have hg : c ≤ s * c := by
    have : 1 * c ≤ s * c := Nat.mul_le_mul_right _ hs
    omega
  generalize s * c = g at *
  have h3 := rate_third c g g (by omega) (Nat.le_refl _)
  by_cases hw : g < wn g ∨ wn g = g
  · have h1 : c = 1 := by unfold wn at hw; omega
    subst h1
    right
    unfold rateN
    rw [if_pos hw]
  · have hlt : g * c / (4 * (g - wn g) + g) < c / 3 + 2 := by
      have hb : 2 ≤ g := by unfold wn at hw; omega
      rw [Nat.div_lt_iff_lt_mul (by omega)]
      have e : 4 * (g - wn g) + g ≥ 3 * g - 2 := by unfold wn; omega
      have hm : (c / 3 + 2) * (3 * g - 2) ≤ (c / 3 + 2) * (4 * (g - wn g) + g) := Nat.mul_le_mul_left _ e
      have h4 : c < 3 * (c / 3) + 3 := by omega
      have h5 : 3 * (c / 3) ≤ c := by omega
      generalize c / 3 = q at *
      have e2 : (q + 2) * (3 * g - 2) + (q + 2) * 2 = (q + 2) * (3 * g) := by rw [← Nat.mul_add, show 3 * g - 2 + 2 = 3 * g from by omega]
      have e3 : (q + 2) * (3 * g) = g * (3 * q + 2) + 4 * g := by
        rw [Nat.add_mul, Nat.mul_left_comm q 3 g, Nat.mul_add, Nat.mul_left_comm g 3 q, Nat.mul_comm q g]; omega
      have e4 : g * c ≤ g * (3 * q + 2) := Nat.mul_le_mul_left _ (by omega)
      omega
    unfold rateN at h3 ⊢
    rw [if_neg hw] at h3 ⊢
    omega

/-- what is left of the way to warmth: twice 2 x x + (g + 2 c) x -/
def way (c g x : Nat) : Nat := 2 * (2 * (x * x) + (g + 2 * c) * x)

/-- a cold round goes more than g c of the way -/
theorem way_step (c g x : Nat) (hc : 3 ≤ c) (hg : 1 ≤ g) (hx : wn g ≤ x) (hxg : x ≤ g) (hw : wn g ≠ g) (h : wn g ≤ x - rateN c g x) :
    way c g (x - rateN c g x - wn g) + g * c ≤ way c g (x - wn g) := by
  have hr : rateN c g x = max (g * c / (4 * (x - wn g) + g)) 1 := by unfold rateN; rw [if_neg (by omega)]
  have h1 := rate_le c g x (by omega)
  have h3 := third_le c g x hg hxg
  have hq1 : 1 ≤ g * c / (4 * (x - wn g) + g) := by omega
  have hrq : rateN c g x = g * c / (4 * (x - wn g) + g) := by rw [hr]; omega
  have hlt : g * c < (g * c / (4 * (x - wn g) + g) + 1) * (4 * (x - wn g) + g) := by
    have := Nat.lt_div_mul_add (a := g * c) (b := 4 * (x - wn g) + g) (by omega)
    rw [Nat.add_mul, Nat.one_mul]
    exact this
  rw [← hrq] at hlt hq1
  clear hr hrq h3
  have h0 : 1 ≤ wn g := by unfold wn; omega
  obtain ⟨r, hr⟩ : ∃ r, rateN c g x = r := ⟨_, rfl⟩
  rw [hr] at hlt hq1 h h1
  rw [hr]
  obtain ⟨y, hy⟩ : ∃ y, x - wn g = y + r := ⟨x - wn g - r, by omega⟩
  have hz : x - r - wn g = y := by omega
  rw [hz, hy]
  rw [hy] at hlt
  unfold way
  have hm : (r + 1) * (4 * (y + r) + g) ≤ (2 * r) * (4 * (y + r) + g) := Nat.mul_le_mul_right _ (by omega)
  have hrc : r * r ≤ c * r := Nat.mul_le_mul_right _ h1
  have e1 : (y + r) * (y + r) = y * y + 2 * (y * r) + r * r := by
    rw [Nat.add_mul, Nat.mul_add, Nat.mul_add, Nat.mul_comm r y]; omega
  have e2 : (2 * r) * (4 * (y + r) + g) = 8 * (y * r) + 8 * (r * r) + 2 * (g * r) := by
    rw [Nat.mul_add, Nat.mul_comm 4 (y + r), ← Nat.mul_assoc, Nat.mul_add, Nat.mul_assoc 2 r y, Nat.mul_assoc 2 r r, Nat.mul_assoc 2 r g, Nat.mul_comm r y, Nat.mul_comm r g, Nat.add_mul]; omega
  have e3 : (g + 2 * c) * (y + r) = g * y + g * r + 2 * (c * y) + 2 * (c * r) := by
    rw [Nat.add_mul, Nat.mul_add, Nat.mul_add, Nat.mul_assoc, Nat.mul_assoc]; omega
  have e4 : (g + 2 * c) * y = g * y + 2 * (c * y) := by
    rw [Nat.add_mul, Nat.mul_assoc]
  rw [e1, e3, e4]
  rw [e2] at hm
  omega

theorem way_start (c g : Nat) : way c g (g - wn g) ≤ 2 * (g * g) + 2 * (g * c) := by
  obtain ⟨x, hx⟩ : ∃ x, g - wn g = x := ⟨_, rfl⟩
  have h2 := (wn_bd g).2.2
  rw [hx] at *
  unfold way
  have e1 : 2 * x * (2 * x) ≤ g * g := Nat.mul_le_mul h2 h2
  have e2 : (g + 2 * c) * (2 * x) ≤ (g + 2 * c) * g := Nat.mul_le_mul_left _ h2
  have e3 : 2 * x * (2 * x) = 4 * (x * x) := by rw [Nat.mul_assoc, Nat.mul_left_comm x 2 x, ← Nat.mul_assoc]
  have e4 : (g + 2 * c) * (2 * x) = 2 * ((g + 2 * c) * x) := by rw [Nat.mul_left_comm]
  have e5 : (g + 2 * c) * g = g * g + 2 * (g * c) := by rw [Nat.add_mul, Nat.mul_assoc, Nat.mul_comm c g]
  omega

end Go.Proofs.Ytcmklahbophclaa.WrmP
