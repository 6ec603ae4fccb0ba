/- Sketches, apart from any memory: what was added, by buckets and columns. -/
import Derived.Test.YtnpldfacnmhemaaSkK
namespace Go.Proofs.Ytnpldfacnmhemaa.SkA
open Go.RowKit

/-- a number stays at the greatest -/
def sat (x : Nat) : Nat := min x 4611686018427387904
theorem sat_le (x : Nat) : sat x ≤ 4611686018427387904 := Nat.min_le_right _ _
theorem sat_mono {x y : Nat} (h : x ≤ y) : sat x ≤ sat y := by unfold sat; omega
theorem sat_add (x y : Nat) : sat (sat x + sat y) = sat (x + y) := by unfold sat; omega
theorem sat_add1 (x y : Nat) : sat (sat x + y) = sat (x + y) := by unfold sat; omega
theorem sat_zero : sat 0 = 0 := rfl
theorem sat_pos {x : Nat} : 0 < sat x ↔ 0 < x := by unfold sat; omega

/-- so much of a key, at a time -/
structure Note where
  t : Nat
  k : ByteArray
  n : Nat

def sumN (ns : List Note) (p : Note → Bool) : Nat := ((ns.filter p).map Note.n).sum

theorem sumN_nil (p : Note → Bool) : sumN [] p = 0 := rfl
theorem sumN_cons (x : Note) (r : List Note) (p : Note → Bool) : sumN (x :: r) p = (if p x then x.n else 0) + sumN r p := by
  unfold sumN
  rw [List.filter_cons]
  split <;> simp
theorem sumN_app (a b : List Note) (p : Note → Bool) : sumN (a ++ b) p = sumN a p + sumN b p := by
  unfold sumN; simp
theorem sumN_snoc (a : List Note) (x : Note) (p : Note → Bool) : sumN (a ++ [x]) p = sumN a p + (if p x then x.n else 0) := by
  rw [sumN_app, sumN_cons, sumN_nil, Nat.add_zero]
theorem sumN_le {ns : List Note} {p q : Note → Bool} (h : ∀ x ∈ ns, p x = true → q x = true) : sumN ns p ≤ sumN ns q := by
  induction ns with
  | nil => exact Nat.le_refl _
  | cons x r ih =>
    rw [sumN_cons, sumN_cons]
    have h1 := ih (fun y hy => h y (List.mem_cons_of_mem _ hy))
    have h2 := h x List.mem_cons_self
    cases hp : p x with
    | true => rw [h2 hp]; simp; exact h1
    | false => simp; omega
theorem sumN_same {ns : List Note} {p q : Note → Bool} (h : ∀ x ∈ ns, p x = q x ∨ x.n = 0) : sumN ns p = sumN ns q := by
  induction ns with
  | nil => rfl
  | cons x r ih =>
    rw [sumN_cons, sumN_cons, ih (fun y hy => h y (List.mem_cons_of_mem _ hy))]
    rcases h x List.mem_cons_self with e | e
    · rw [e]
    · rw [e]; simp
theorem sumN_zero {ns : List Note} {p : Note → Bool} (h : ∀ x ∈ ns, p x = true → x.n = 0) : sumN ns p = 0 := by
  rw [sumN_same (q := fun _ => false) (fun x hx => by
    cases hp : p x with
    | true => exact .inr (h x hx hp)
    | false => exact .inl rfl)]
  clear h
  induction ns with
  | nil => rfl
  | cons x r ih => rw [sumN_cons, ih]; rfl

/-- by buckets -/
theorem sumN_parts (b : Nat) (ns : List Note) (p : Note → Bool) : ∀ qs : List Nat, qs.Nodup → (qs.map fun q => sumN ns fun x => x.t / b == q && p x).sum = sumN ns fun x => decide (x.t / b ∈ qs) && p x
  | [], _ => by
    rw [sumN_zero (p := fun x => decide (x.t / b ∈ ([] : List Nat)) && p x) (fun x _ h => by simp at h)]
    rfl
  | q :: r, hn => by
    obtain ⟨h1, h2⟩ := List.nodup_cons.1 hn
    rw [List.map_cons, List.sum_cons, sumN_parts b ns p r h2]
    clear hn
    induction ns with
    | nil => rfl
    | cons x l ih =>
      rw [sumN_cons, sumN_cons, sumN_cons, ← ih]
      by_cases hq : x.t / b = q
      · have hr : x.t / b ∉ r := hq ▸ h1
        cases p x <;> simp [hq, h1] <;> omega
      · by_cases hr : x.t / b ∈ r <;> cases p x <;> simp [hq, hr] <;> omega

/-- a bucket of the window at a time -/
def inW (b B t q : Nat) : Bool := decide (t / b < q + B)

structure Inv (b B last : Nat) (ns : List Note) (qs : List Nat) : Prop where
  rise : qs.Pairwise (· < ·)
  win : ∀ q ∈ qs, q ≤ last / b ∧ last / b < q + B
  all : ∀ x ∈ ns, last / b < x.t / b + B → x.t / b ∉ qs → x.n = 0
  late : ∀ x ∈ ns, x.t ≤ last

variable {b B last t : Nat} {ns : List Note} {qs : List Nat}

theorem Inv.zero (b B : Nat) : Inv b B 0 [] [] := ⟨List.Pairwise.nil, fun _ h => by (cases h), fun _ h => by (cases h), fun _ h => by (cases h)⟩

/-- what is told of the buckets of a window is what was added in it -/
theorem Inv.sum (h : Inv b B last ns qs) (ht : last ≤ t) (p : Note → Bool) : ((qs.filter (inW b B t)).map fun q => sumN ns fun x => x.t / b == q && p x).sum = sumN ns fun x => inW b B t (x.t / b) && p x := by
  have hd : last / b ≤ t / b := Nat.div_le_div_right ht
  rw [sumN_parts b ns p _ ((h.rise.imp Nat.ne_of_lt).filter _)]
  refine sumN_same fun x hx => ?_
  by_cases hw : inW b B t (x.t / b) = true
  · by_cases hq : x.t / b ∈ qs
    · left; simp [List.mem_filter, hw, hq]
    · right
      exact h.all x hx (by have := of_decide_eq_true hw; omega) hq
  · left; simp [List.mem_filter, hw]

/-- what is left at a later time -/
theorem Inv.forget (h : Inv b B last ns qs) (ht : last ≤ t) : Inv b B t ns (qs.filter (inW b B t)) := by
  have hd : last / b ≤ t / b := Nat.div_le_div_right ht
  refine ⟨h.rise.filter _, fun q hq => ?_, fun x hx hw hq => ?_, fun x hx => Nat.le_trans (h.late x hx) ht⟩
  · obtain ⟨h1, h2⟩ := List.mem_filter.1 hq
    exact ⟨Nat.le_trans (h.win q h1).1 hd, of_decide_eq_true h2⟩
  · refine h.all x hx (by omega) (fun e => hq ?_)
    exact List.mem_filter.2 ⟨e, decide_eq_true hw⟩

/-- nothing more is noted but a number of nothing -/
theorem Inv.nought (h : Inv b B t ns qs) (k : ByteArray) : Inv b B t (ns ++ [⟨t, k, 0⟩]) qs :=
  ⟨h.rise, h.win, fun x hx => by
    rcases List.mem_append.1 hx with hx | hx
    · exact h.all x hx
    · rw [List.mem_singleton.1 hx]; exact fun _ _ => rfl, fun x hx => by
    rcases List.mem_append.1 hx with hx | hx
    · exact h.late x hx
    · rw [List.mem_singleton.1 hx]; exact Nat.le_refl _⟩

/-- more is noted in the last bucket -/
theorem Inv.there (h : Inv b B t ns qs) (hq : t / b ∈ qs) (k : ByteArray) (n : Nat) : Inv b B t (ns ++ [⟨t, k, n⟩]) qs :=
  ⟨h.rise, h.win, fun x hx => by
    rcases List.mem_append.1 hx with hx | hx
    · exact h.all x hx
    · rw [List.mem_singleton.1 hx]; exact fun _ e => absurd hq e, fun x hx => by
    rcases List.mem_append.1 hx with hx | hx
    · exact h.late x hx
    · rw [List.mem_singleton.1 hx]; exact Nat.le_refl _⟩

/-- a bucket more -/
theorem Inv.more (h : Inv b B t ns qs) (hq : t / b ∉ qs) (hB : 0 < B) : Inv b B t ns (qs ++ [t / b]) :=
  ⟨List.pairwise_append.2 ⟨h.rise, List.pairwise_singleton _ _, fun x hx y hy => by
      rw [List.mem_singleton.1 hy]
      have h1 := (h.win x hx).1
      have h2 : x ≠ t / b := fun e => hq (e ▸ hx)
      omega⟩, fun q hq => by
    rcases List.mem_append.1 hq with hq | hq
    · exact h.win q hq
    · rw [List.mem_singleton.1 hq]; omega, fun x hx hw hn => h.all x hx hw (fun e => hn (List.mem_append_left _ e)), h.late⟩

/-- it holds nothing yet -/
theorem Inv.new (h : Inv b B t ns qs) (hq : t / b ∉ qs) (hB : 0 < B) (p : Note → Bool) : (sumN ns fun x => x.t / b == t / b && p x) = 0 :=
  sumN_zero fun x hx hp => by
    have e : x.t / b = t / b := by
      cases hp2 : (x.t / b == t / b) with
      | true => simpa using hp2
      | false => rw [hp2] at hp; simp at hp
    exact h.all x hx (by omega) (e ▸ hq)

theorem last_is (h : Inv b B t ns qs) : (qs.getLast? = some (t / b)) ↔ t / b ∈ qs := by
  constructor
  · intro e; exact List.mem_of_getLast? e
  · intro hm
    obtain ⟨A, C, rfl⟩ := List.append_of_mem hm
    cases C with
    | nil => simp
    | cons c C =>
      have h1 := (List.pairwise_append.1 h.rise).2.1
      have h2 := (List.pairwise_cons.1 h1).1 c List.mem_cons_self
      have h3 := (h.win c (by simp)).1
      omega

theorem fold_sat (l : List Nat) (s : Nat) : l.foldl (fun a x => sat (a + sat x)) (sat s) = sat (s + l.sum) := by
  induction l generalizing s with
  | nil => simp
  | cons x r ih =>
    rw [List.foldl_cons, sat_add, ih, List.sum_cons, Nat.add_assoc]

/-- the least over rows -/
def least (rows : Nat) (f : Nat → Nat) : Nat := (List.range rows).foldl (fun m r => min m (f r)) 4611686018427387904
theorem least_succ (rows : Nat) (f : Nat → Nat) : least (rows + 1) f = min (least rows f) (f rows) := by
  unfold least
  rw [List.range_succ, List.foldl_append]
  rfl
theorem least_top (rows : Nat) (f : Nat → Nat) : least rows f ≤ 4611686018427387904 := by
  induction rows with
  | zero => exact Nat.le_refl _
  | succ n ih => rw [least_succ]; omega
theorem least_le {rows : Nat} {f : Nat → Nat} {r : Nat} (hr : r < rows) : least rows f ≤ f r := by
  induction rows with
  | zero => omega
  | succ n ih =>
    rw [least_succ]
    by_cases e : r = n
    · subst e; omega
    · have := ih (by omega); omega
theorem le_least {rows x : Nat} {f : Nat → Nat} (h : ∀ r, r < rows → x ≤ f r) (hx : x ≤ 4611686018427387904) : x ≤ least rows f := by
  induction rows with
  | zero => exact hx
  | succ n ih =>
    rw [least_succ]
    have := ih (fun r hr => h r (by omega))
    have := h n (by omega)
    omega

/-- where the window at a time begins -/
theorem first_iff (q w : Nat) (hb : 0 < b) (hw : w = b * B) : ((t - t % b : Nat) : Int) - (w : Int) + (b : Int) ≤ ((q * b : Nat) : Int) ↔ t / b < q + B := by
  subst hw
  have e1 : t - t % b = b * (t / b) := by have := Nat.div_add_mod t b; omega
  rw [e1]
  have key : (b * (t / b) + b ≤ q * b + b * B) ↔ t / b < q + B := by
    have e2 : b * (t / b) + b = b * (t / b + 1) := by rw [Nat.mul_add, Nat.mul_one]
    have e3 : q * b + b * B = b * (q + B) := by rw [Nat.mul_add, Nat.mul_comm q b]
    rw [e2, e3]
    constructor
    · intro h; exact Nat.lt_of_succ_le (Nat.le_of_mul_le_mul_left h hb)
    · intro h; exact Nat.mul_le_mul_left b h
  rw [← key]
  omega

end Go.Proofs.Ytnpldfacnmhemaa.SkA
