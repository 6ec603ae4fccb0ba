/- Samples of a load: rows of three numbers in memory; which error a row of them has; plain. -/
import Derived.Test.YthkpfjjcpifkcaaWri
namespace Go.Proofs.Ythkpfjjcpifkcaa.LoaA
open Go.ChangeShapes Go.WideShapes Go.ChangeAt Go.RowKit Base WldF Wri
set_option linter.unusedVariables false

/-- n rows of three numbers -/
def Sm (w : World) (a : Option Addr) (n : Nat) (F : Nat → Nat → Int) : Prop :=
  0 < n → ∃ g o, a = some ⟨g, o, none⟩ ∧ g < w.heap.size ∧ ∀ i, i < n → ∀ j, j < 3 → w.cell? ⟨g, o + i * 3 + j, none⟩ = some (.int .i64 (F i j))

theorem Sm.of_block {w w' : World} {a : Option Addr} {n : Nat} {F : Nat → Nat → Int} (h : Sm w a n F) (hs : w.heap.size ≤ w'.heap.size) (hb : ∀ g o, a = some ⟨g, o, none⟩ → w'.heap[g]? = w.heap[g]?) : Sm w' a n F := fun h0 => by
  obtain ⟨g, o, rfl, hg, hc⟩ := h h0
  exact ⟨g, o, rfl, Nat.lt_of_lt_of_le hg hs, fun i hi j hj => (World.cell?_of_block (a := ⟨g, o + i * 3 + j, none⟩) (hb g o rfl)).trans (hc i hi j hj)⟩
theorem Sm.below {w w' : World} {a : Option Addr} {n : Nat} {F : Nat → Nat → Int} (h : Sm w a n F) (hb : Below w.heap.size w w') : Sm w' a n F := fun h0 => by
  obtain ⟨g, o, rfl, hg, hc⟩ := h h0
  exact ⟨g, o, rfl, Nat.lt_of_lt_of_le hg hb.size, fun i hi j hj => (hb.cell (p := ⟨g, o + i * 3 + j, none⟩) hg).trans (hc i hi j hj)⟩
theorem Sm.congr {w : World} {a : Option Addr} {n : Nat} {F G : Nat → Nat → Int} (h : Sm w a n F) (e : ∀ i j, i < n → j < 3 → F i j = G i j) : Sm w a n G := fun h0 => by
  obtain ⟨g, o, ha, hg, hc⟩ := h h0
  exact ⟨g, o, ha, hg, fun i hi j hj => by rw [← e i j hi hj]; exact hc i hi j hj⟩

/-- the cells, one behind the other -/
def flat (F : Nat → Nat → Int) (n : Nat) : List Value := (List.range (n * 3)).map fun k => .int .i64 (F (k / 3) (k % 3))

theorem flat_len (F : Nat → Nat → Int) (n : Nat) : (flat F n).length = n * 3 := by simp [flat]
theorem flat_get (F : Nat → Nat → Int) (n k : Nat) (h : k < n * 3) : (flat F n)[k]? = some (.int .i64 (F (k / 3) (k % 3))) := by simp [flat, h]
theorem flat_one (F : Nat → Nat → Int) (n : Nat) : ∀ u ∈ flat F n, u.oneCell' = true := by
  intro u hu
  simp only [flat, List.mem_map] at hu
  obtain ⟨k, _, rfl⟩ := hu
  rfl

/-- G behind the first n of F -/
def cat (F : Nat → Nat → Int) (n : Nat) (G : Nat → Nat → Int) : Nat → Nat → Int := fun i j => if i < n then F i j else G (i - n) j

theorem flat_cat (F G : Nat → Nat → Int) (n m : Nat) : flat F n ++ flat G m = flat (cat F n G) (n + m) := by
  refine List.ext_getElem? fun k => ?_
  by_cases h : k < n * 3
  · rw [List.getElem?_append_left (by rw [flat_len]; exact h), flat_get _ _ _ h, flat_get _ _ _ (by omega)]
    unfold cat
    rw [if_pos (by omega)]
  · rw [List.getElem?_append_right (by rw [flat_len]; omega), flat_len]
    by_cases h2 : k < (n + m) * 3
    · rw [flat_get _ _ _ (by omega), flat_get _ _ _ h2]
      unfold cat
      rw [if_neg (by omega), show (k - n * 3) / 3 = k / 3 - n by omega, show (k - n * 3) % 3 = k % 3 by omega]
    · rw [List.getElem?_eq_none (by rw [flat_len]; omega), List.getElem?_eq_none (by rw [flat_len]; omega)]

theorem flat_succ (F : Nat → Nat → Int) (n : Nat) : flat F n ++ [.int .i64 (F n 0), .int .i64 (F n 1), .int .i64 (F n 2)] = flat F (n + 1) := by
  refine List.ext_getElem? fun k => ?_
  by_cases h : k < n * 3
  · rw [List.getElem?_append_left (by rw [flat_len]; exact h), flat_get _ _ _ h, flat_get _ _ _ (by omega)]
  · rw [List.getElem?_append_right (by rw [flat_len]; omega), flat_len]
    by_cases h2 : k < (n + 1) * 3
    · rw [flat_get _ _ _ h2]
      rcases (by omega : k = n * 3 ∨ k = n * 3 + 1 ∨ k = n * 3 + 2) with rfl | rfl | rfl
      · rw [show n * 3 - n * 3 = 0 by omega, show n * 3 / 3 = n by omega, show n * 3 % 3 = 0 by omega]; rfl
      · rw [show n * 3 + 1 - n * 3 = 1 by omega, show (n * 3 + 1) / 3 = n by omega, show (n * 3 + 1) % 3 = 1 by omega]; rfl
      · rw [show n * 3 + 2 - n * 3 = 2 by omega, show (n * 3 + 2) / 3 = n by omega, show (n * 3 + 2) % 3 = 2 by omega]; rfl
    · rw [List.getElem?_eq_none (by simp; omega), List.getElem?_eq_none (by rw [flat_len]; omega)]

theorem flat_congr {F G : Nat → Nat → Int} {n : Nat} (e : ∀ i j, i < n → j < 3 → F i j = G i j) : flat F n = flat G n := by
  refine List.map_congr_left fun k hk => ?_
  rw [List.mem_range] at hk
  rw [e _ _ (by omega) (by omega)]

/-- what a slice's cells say, as the laws on append want them -/
theorem Sm.news {w : World} {a : Option Addr} {n : Nat} {F : Nat → Nat → Int} (h : Sm w a n F) (h0 : 0 < n) : ∃ g o, a = some ⟨g, o, none⟩ ∧ g < w.heap.size ∧ ∀ k u, (flat F n)[k]? = some u → w.cell? ((⟨g, o, none⟩ : Addr).add k) = some u := by
  obtain ⟨g, o, ha, hg, hc⟩ := h h0
  refine ⟨g, o, ha, hg, fun k u hk => ?_⟩
  have hk3 : k < n * 3 := by
    have := (List.getElem?_eq_some_iff.1 hk).1
    rwa [flat_len] at this
  rw [flat_get _ _ _ hk3] at hk
  cases hk
  rw [Go.WideShapes.add_plain, ← hc (k / 3) (by omega) (k % 3) (by omega)]
  congr 2
  omega

/-- an owned list of rows -/
theorem Sm.owned {w : World} {B n : Nat} {e : TypeId} {v : Value} {F : Nat → Nat → Int} (h : w.ownsRow B e 3 v n (flat F n)) : ∃ a c, v = .slice a n c ∧ Sm w a n F ∧ (∀ g, v.ownBlock = some g → B ≤ g ∧ g < w.heap.size) ∧ (n = 0 → a = none ∨ ∃ g, a = some ⟨g, 0, none⟩) := by
  have hlt := h.lt
  obtain ⟨hl, h2⟩ := h
  rcases h2 with ⟨rfl, rfl⟩ | ⟨g, c, cur, rfl, hg, hh, hc, hm, hs, hcur⟩
  · exact ⟨none, 0, rfl, fun h => by omega, hlt, fun _ => .inl rfl⟩
  · refine ⟨_, _, rfl, fun h0 => ⟨g, 0, rfl, (hlt g rfl).2, fun i hi j hj => ?_⟩, hlt, fun _ => .inr ⟨g, rfl⟩⟩
    have h1 : (cur.toList.take (n * 3))[i * 3 + j]? = (flat F n)[i * 3 + j]? := by rw [hcur]
    rw [List.getElem?_take, if_pos (by omega), flat_get _ _ _ (by omega), show (i * 3 + j) / 3 = i by omega, show (i * 3 + j) % 3 = j by omega] at h1
    have e : cur[i * 3 + j]? = some (.int .i64 (F i j)) := by rw [← Array.getElem?_toList, h1]
    rw [show 0 + i * 3 + j = i * 3 + j by omega]
    simp [World.cell?, hh, e]

/-- may a sample be? -/
def okS (x y z : Int) : Bool := decide (0 ≤ x ∧ x ≤ 1152921504606846976) && (decide (0 ≤ y ∧ y ≤ 1099511627776) && decide (0 ≤ z ∧ z ≤ 1099511627776))

/-- the time ahead of sample i -/
def prev (L0 : Int) (F : Nat → Nat → Int) (i : Nat) : Int := if i = 0 then L0 else F (i - 1) 0

/-- what is wrong with sample i, put behind c ones -/
def bad (L0 : Int) (c : Nat) (F : Nat → Nat → Int) (i : Nat) : Int :=
  if okS (F i 0) (F i 1) (F i 2) = false then 2 else if F i 0 < prev L0 F i then 7 else if 4096 ≤ c + i then 3 else 0

/-- the first that is wrong -/
def first (b : Nat → Int) : Nat → Int
  | 0 => 0
  | n + 1 => if first b n = 0 then b n else first b n

theorem first_stay {b : Nat → Int} {i : Nat} (h : first b i ≠ 0) : ∀ n, i ≤ n → first b n = first b i
  | 0, hn => by rw [show i = 0 by omega]
  | n + 1, hn => by
    by_cases e : i = n + 1
    · rw [e]
    · have := first_stay h n (by omega)
      show (if first b n = 0 then b n else first b n) = _
      rw [if_neg (by rw [this]; exact h), this]

theorem first_zero {b : Nat → Int} : ∀ {n : Nat}, first b n = 0 → ∀ i, i < n → b i = 0
  | n + 1, h, i, hi => by
    unfold first at h
    split at h
    · rename_i h0
      by_cases e : i = n
      · rw [e]; exact h
      · exact first_zero h0 i (by omega)
    · rename_i h0; exact absurd h h0

theorem first_succ {b : Nat → Int} {n : Nat} (h : first b n = 0) : first b (n + 1) = b n := by unfold first; rw [if_pos h]

theorem first_at {b : Nat → Int} {i n : Nat} (h : first b i = 0) (hi : i < n) (hb : b i ≠ 0) : first b n = b i := by
  have h1 := first_succ h
  rw [first_stay (i := i + 1) (by rw [h1]; exact hb) n (by omega), h1]

theorem bad_ok {L0 : Int} {c : Nat} {F : Nat → Nat → Int} {i : Nat} (h : bad L0 c F i = 0) : okS (F i 0) (F i 1) (F i 2) = true ∧ prev L0 F i ≤ F i 0 ∧ c + i < 4096 := by
  unfold bad at h
  split at h
  · cases h
  · split at h
    · cases h
    · split at h
      · cases h
      · rename_i h1 h2 h3
        exact ⟨by simpa using h1, by omega, by omega⟩

/-- times that do not fall -/
def Rising (F : Nat → Nat → Int) (n : Nat) : Prop := ∀ i k, i ≤ k → k < n → F i 0 ≤ F k 0

theorem rising_of {F : Nat → Nat → Int} {n : Nat} (h : ∀ i, i + 1 < n → F i 0 ≤ F (i + 1) 0) : Rising F n := by
  intro i k hik
  induction k with
  | zero => intro _; rw [show i = 0 by omega]; exact Int.le_refl _
  | succ k ih =>
    intro hk
    by_cases e : i = k + 1
    · rw [e]; exact Int.le_refl _
    · have := ih (by omega) (by omega)
      have := h k hk
      omega

theorem first_rising {L0 : Int} {c : Nat} {F : Nat → Nat → Int} {n : Nat} (h : first (bad L0 c F) n = 0) : Rising F n := by
  refine rising_of fun i hi => ?_
  have := (bad_ok (first_zero h (i + 1) hi)).2.1
  unfold prev at this
  rwa [if_neg (by omega), show i + 1 - 1 = i by omega] at this

/-- the last time of n samples; 0 of none -/
def lastT (F : Nat → Nat → Int) (n : Nat) : Int := prev 0 F n

theorem rising_cat {c : Nat} {F G : Nat → Nat → Int} {n m : Nat} (hF : Rising F n) (h : first (bad (lastT F n) c G) m = 0) : Rising (cat F n G) (n + m) := by
  have hG := first_rising h
  refine rising_of fun i hi => ?_
  unfold cat
  by_cases h1 : i + 1 < n
  · rw [if_pos (by omega), if_pos h1]
    exact hF i (i + 1) (by omega) h1
  · by_cases h2 : i < n
    · rw [if_pos h2, if_neg h1, show i + 1 - n = 0 by omega]
      have := (bad_ok (first_zero h 0 (by omega))).2.1
      unfold prev lastT prev at this
      rw [if_pos rfl, if_neg (by omega)] at this
      rwa [show i = n - 1 by omega]
    · rw [if_neg h2, if_neg h1]
      exact hG (i - n) (i + 1 - n) (by omega) (by omega)

/-- how many are not later than a time: the first that is -/
def upTo (F : Nat → Nat → Int) (t : Int) : Nat → Nat
  | 0 => 0
  | n + 1 => if F n 0 ≤ t then n + 1 else upTo F t n

theorem upTo_le (F : Nat → Nat → Int) (t : Int) : ∀ n, upTo F t n ≤ n
  | 0 => Nat.le_refl _
  | n + 1 => by unfold upTo; split; exact Nat.le_refl _; have := upTo_le F t n; omega

theorem upTo_in {F : Nat → Nat → Int} {t : Int} : ∀ {n : Nat}, Rising F n → ∀ i, i < upTo F t n → F i 0 ≤ t
  | n + 1, h, i, hi => by
    unfold upTo at hi
    split at hi
    · rename_i h1
      have := h i n (by omega) (by omega)
      omega
    · exact upTo_in (fun i k hik hk => h i k hik (by omega)) i hi

theorem upTo_out {F : Nat → Nat → Int} {t : Int} : ∀ {n : Nat} (i : Nat), upTo F t n ≤ i → i < n → t < F i 0
  | n + 1, i, h, hi => by
    unfold upTo at h
    split at h
    · omega
    · rename_i h1
      by_cases e : i = n
      · rw [e]; omega
      · exact upTo_out i h (by omega)

end Go.Proofs.Ythkpfjjcpifkcaa.LoaA
