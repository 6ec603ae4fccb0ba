/- The document's Add. -/
import Derived.Test.YtbihelpnojjacaaGreatMap
import Derived.DeepKeys5
import Derived.Test.YtbihelpnojjacaaGreatWldG
import Derived.Deep.RegionHeld3
import Derived.BigQuiet
import Derived.Laws.BitsLemmas
import Derived.Lib.SliceRun
import Derived.Test.YtbihelpnojjacaaGreatWldA
import Derived.OwnWalk
import Derived.Maps.AppendAt
import Derived.Deep.QuietTactic
import Derived.Deep.RegionLaw
import Derived.Test.YtbihelpnojjacaaGreatOpn
import Derived.Deep.AppendLies

/- The places of a sketch as keys of maps. -/
namespace Go.Proofs.YtbihelpnojjacaaGreat.SkK
open Go.ChangeShapes Go.WideShapes Go.ChangeAt Go.RowKit Base Wri Map
open Go.Maps (Keyed)

theorem laid : laidOutB Tryz.prog = true := by kernel_rfl
theorem keyed : Keyed Tryz.prog 135 := Keyed.of_law (deep_law_gate laid (by decide +kernel) (by decide +kernel) (by kernel_rfl) (by kernel_rfl))

def pv (r c : Nat) : Value := .agg #[.int .i64 r, .int .i64 c]

theorem pv_inj {r c r' c' : Nat} (h : pv r c = pv r' c') : r = r' ∧ c = c' := by
  unfold pv at h
  simp at h
  omega

theorem kty : Tryz.prog.keyType 135 = true := by kernel_rfl

theorem cellsP : Tryz.prog.cellsOf 135 = 2 := by kernel_rfl
theorem cellsI : Tryz.prog.cellsOf 3 = 1 := by kernel_rfl

theorem lits_of (d : Nat) (r c : Int) (hr : (Lit.int .i64 r).wf = true) (hc : (Lit.int .i64 c).wf = true) : ∃ a, Tryz.prog.keyLits (d + 1 + 1) 135 [.int .i64 r, .int .i64 c] = some a := by
  unfold Program.keyLits
  rw [Tryz.underlying135]
  simp [cellsP, cellsI, Program.keyLits, Tryz.underlying3, hr, hc]

theorem key_of (r c : Nat) (hr : r < 8) (hc : c < 4096) : ∃ kl, keyOf Tryz.prog 135 (pv r c) = some kl := by
  have hp : 1 ≤ Tryz.prog.types.size := Nat.le_of_ble_eq_true (by kernel_rfl)
  obtain ⟨n, hn⟩ : ∃ n, Tryz.prog.types.size = n + 1 := ⟨Tryz.prog.types.size - 1, by omega⟩
  obtain ⟨a, ha⟩ := lits_of n r c (by simp [Lit.wf, IntKind.min, IntKind.max, IntKind.bits, IntKind.signed]; omega) (by simp [Lit.wf, IntKind.min, IntKind.max, IntKind.bits, IntKind.signed]; omega)
  unfold keyOf pv
  rw [Tryz.underlying135, kty]
  have h2 : Value.formed Tryz.prog 135 (.agg #[.int .i64 r, .int .i64 c]) = true := by simp [Value.formed, Tryz.underlying135, cellsP]
  have h3 : (Value.agg #[.int .i64 r, .int .i64 c]).cells.toList = [.int .i64 r, .int .i64 c] := rfl
  simp only [h2, h3, Bool.and_self, if_true]
  rw [hn, ha]
  exact ⟨_, rfl⟩

end Go.Proofs.YtbihelpnojjacaaGreat.SkK

/- Sketches, apart from any memory: what was added, by buckets and columns. -/
namespace Go.Proofs.YtbihelpnojjacaaGreat.SkA
open Go.RowKit

/-- a number stays at the greatest -/
def sat (x : Nat) : Nat := min x 4611686018427387904
theorem sat_le (x : Nat) : sat x ≤ 4611686018427387904 := Nat.min_le_right _ _
theorem sat_mono {x y : Nat} (h : x ≤ y) : sat x ≤ sat y := by unfold sat; omega
theorem sat_add (x y : Nat) : sat (sat x + sat y) = sat (x + y) := by unfold sat; omega
theorem sat_add1 (x y : Nat) : sat (sat x + y) = sat (x + y) := by unfold sat; omega
theorem sat_zero : sat 0 = 0 := rfl
theorem sat_pos {x : Nat} : 0 < sat x ↔ 0 < x := by unfold sat; omega

/-- so much of a key, at a time -/
structure Note where
  t : Nat
  k : ByteArray
  n : Nat

def sumN (ns : List Note) (p : Note → Bool) : Nat := ((ns.filter p).map Note.n).sum

theorem sumN_nil (p : Note → Bool) : sumN [] p = 0 := rfl
theorem sumN_cons (x : Note) (r : List Note) (p : Note → Bool) : sumN (x :: r) p = (if p x then x.n else 0) + sumN r p := by
  unfold sumN
  rw [List.filter_cons]
  split <;> simp
theorem sumN_app (a b : List Note) (p : Note → Bool) : sumN (a ++ b) p = sumN a p + sumN b p := by
  unfold sumN; simp
theorem sumN_snoc (a : List Note) (x : Note) (p : Note → Bool) : sumN (a ++ [x]) p = sumN a p + (if p x then x.n else 0) := by
  rw [sumN_app, sumN_cons, sumN_nil, Nat.add_zero]
theorem sumN_le {ns : List Note} {p q : Note → Bool} (h : ∀ x ∈ ns, p x = true → q x = true) : sumN ns p ≤ sumN ns q := by
  induction ns with
  | nil => exact Nat.le_refl _
  | cons x r ih =>
    rw [sumN_cons, sumN_cons]
    have h1 := ih (fun y hy => h y (List.mem_cons_of_mem _ hy))
    have h2 := h x List.mem_cons_self
    cases hp : p x with
    | true => rw [h2 hp]; simp; exact h1
    | false => simp; omega
theorem sumN_same {ns : List Note} {p q : Note → Bool} (h : ∀ x ∈ ns, p x = q x ∨ x.n = 0) : sumN ns p = sumN ns q := by
  induction ns with
  | nil => rfl
  | cons x r ih =>
    rw [sumN_cons, sumN_cons, ih (fun y hy => h y (List.mem_cons_of_mem _ hy))]
    rcases h x List.mem_cons_self with e | e
    · rw [e]
    · rw [e]; simp
theorem sumN_zero {ns : List Note} {p : Note → Bool} (h : ∀ x ∈ ns, p x = true → x.n = 0) : sumN ns p = 0 := by
  rw [sumN_same (q := fun _ => false) (fun x hx => by
    cases hp : p x with
    | true => exact .inr (h x hx hp)
    | false => exact .inl rfl)]
  clear h
  induction ns with
  | nil => rfl
  | cons x r ih => rw [sumN_cons, ih]; rfl

/-- by buckets -/
theorem sumN_parts (b : Nat) (ns : List Note) (p : Note → Bool) : ∀ qs : List Nat, qs.Nodup → (qs.map fun q => sumN ns fun x => x.t / b == q && p x).sum = sumN ns fun x => decide (x.t / b ∈ qs) && p x
  | [], _ => by
    rw [sumN_zero (p := fun x => decide (x.t / b ∈ ([] : List Nat)) && p x) (fun x _ h => by simp at h)]
    rfl
  | q :: r, hn => by
    obtain ⟨h1, h2⟩ := List.nodup_cons.1 hn
    rw [List.map_cons, List.sum_cons, sumN_parts b ns p r h2]
    clear hn
    induction ns with
    | nil => rfl
    | cons x l ih =>
      rw [sumN_cons, sumN_cons, sumN_cons, ← ih]
      by_cases hq : x.t / b = q
      · have hr : x.t / b ∉ r := hq ▸ h1
        cases p x <;> simp [hq, h1] <;> omega
      · by_cases hr : x.t / b ∈ r <;> cases p x <;> simp [hq, hr] <;> omega

/-- a bucket of the window at a time -/
def inW (b B t q : Nat) : Bool := decide (t / b < q + B)

structure Inv (b B last : Nat) (ns : List Note) (qs : List Nat) : Prop where
  rise : qs.Pairwise (· < ·)
  win : ∀ q ∈ qs, q ≤ last / b ∧ last / b < q + B
  all : ∀ x ∈ ns, last / b < x.t / b + B → x.t / b ∉ qs → x.n = 0
  late : ∀ x ∈ ns, x.t ≤ last

variable {b B last t : Nat} {ns : List Note} {qs : List Nat}

theorem Inv.zero (b B : Nat) : Inv b B 0 [] [] := ⟨List.Pairwise.nil, fun _ h => by (cases h), fun _ h => by (cases h), fun _ h => by (cases h)⟩

/-- what is told of the buckets of a window is what was added in it -/
theorem Inv.sum (h : Inv b B last ns qs) (ht : last ≤ t) (p : Note → Bool) : ((qs.filter (inW b B t)).map fun q => sumN ns fun x => x.t / b == q && p x).sum = sumN ns fun x => inW b B t (x.t / b) && p x := by
  have hd : last / b ≤ t / b := Nat.div_le_div_right ht
  rw [sumN_parts b ns p _ ((h.rise.imp Nat.ne_of_lt).filter _)]
  refine sumN_same fun x hx => ?_
  by_cases hw : inW b B t (x.t / b) = true
  · by_cases hq : x.t / b ∈ qs
    · left; simp [List.mem_filter, hw, hq]
    · right
      exact h.all x hx (by have := of_decide_eq_true hw; omega) hq
  · left; simp [List.mem_filter, hw]

/-- what is left at a later time -/
theorem Inv.forget (h : Inv b B last ns qs) (ht : last ≤ t) : Inv b B t ns (qs.filter (inW b B t)) := by
  have hd : last / b ≤ t / b := Nat.div_le_div_right ht
  refine ⟨h.rise.filter _, fun q hq => ?_, fun x hx hw hq => ?_, fun x hx => Nat.le_trans (h.late x hx) ht⟩
  · obtain ⟨h1, h2⟩ := List.mem_filter.1 hq
    exact ⟨Nat.le_trans (h.win q h1).1 hd, of_decide_eq_true h2⟩
  · refine h.all x hx (by omega) (fun e => hq ?_)
    exact List.mem_filter.2 ⟨e, decide_eq_true hw⟩

/-- nothing more is noted but a number of nothing -/
theorem Inv.nought (h : Inv b B t ns qs) (k : ByteArray) : Inv b B t (ns ++ [⟨t, k, 0⟩]) qs :=
  ⟨h.rise, h.win, fun x hx => by
    rcases List.mem_append.1 hx with hx | hx
    · exact h.all x hx
    · rw [List.mem_singleton.1 hx]; exact fun _ _ => rfl, fun x hx => by
    rcases List.mem_append.1 hx with hx | hx
    · exact h.late x hx
    · rw [List.mem_singleton.1 hx]; exact Nat.le_refl _⟩

/-- more is noted in the last bucket -/
theorem Inv.there (h : Inv b B t ns qs) (hq : t / b ∈ qs) (k : ByteArray) (n : Nat) : Inv b B t (ns ++ [⟨t, k, n⟩]) qs :=
  ⟨h.rise, h.win, fun x hx => by
    rcases List.mem_append.1 hx with hx | hx
    · exact h.all x hx
    · rw [List.mem_singleton.1 hx]; exact fun _ e => absurd hq e, fun x hx => by
    rcases List.mem_append.1 hx with hx | hx
    · exact h.late x hx
    · rw [List.mem_singleton.1 hx]; exact Nat.le_refl _⟩

/-- a bucket more -/
theorem Inv.more (h : Inv b B t ns qs) (hq : t / b ∉ qs) (hB : 0 < B) : Inv b B t ns (qs ++ [t / b]) :=
  ⟨List.pairwise_append.2 ⟨h.rise, List.pairwise_singleton _ _, fun x hx y hy => by
      rw [List.mem_singleton.1 hy]
      have h1 := (h.win x hx).1
      have h2 : x ≠ t / b := fun e => hq (e ▸ hx)
      omega⟩, fun q hq => by
    rcases List.mem_append.1 hq with hq | hq
    · exact h.win q hq
    · rw [List.mem_singleton.1 hq]; omega, fun x hx hw hn => h.all x hx hw (fun e => hn (List.mem_append_left _ e)), h.late⟩

/-- it holds nothing yet -/
theorem Inv.new (h : Inv b B t ns qs) (hq : t / b ∉ qs) (hB : 0 < B) (p : Note → Bool) : (sumN ns fun x => x.t / b == t / b && p x) = 0 :=
  sumN_zero fun x hx hp => by
    have e : x.t / b = t / b := by
      cases hp2 : (x.t / b == t / b) with
      | true => simpa using hp2
      | false => rw [hp2] at hp; simp at hp
    exact h.all x hx (by omega) (e ▸ hq)

theorem last_is (h : Inv b B t ns qs) : (qs.getLast? = some (t / b)) ↔ t / b ∈ qs := by
  constructor
  · intro e; exact List.mem_of_getLast? e
  · intro hm
    obtain ⟨A, C, rfl⟩ := List.append_of_mem hm
    cases C with
    | nil => simp
    | cons c C =>
      have h1 := (List.pairwise_append.1 h.rise).2.1
      have h2 := (List.pairwise_cons.1 h1).1 c List.mem_cons_self
      have h3 := (h.win c (by simp)).1
      omega

theorem fold_sat (l : List Nat) (s : Nat) : l.foldl (fun a x => sat (a + sat x)) (sat s) = sat (s + l.sum) := by
  induction l generalizing s with
  | nil => simp
  | cons x r ih =>
    rw [List.foldl_cons, sat_add, ih, List.sum_cons, Nat.add_assoc]

/-- the least over rows -/
def least (rows : Nat) (f : Nat → Nat) : Nat := (List.range rows).foldl (fun m r => min m (f r)) 4611686018427387904
theorem least_succ (rows : Nat) (f : Nat → Nat) : least (rows + 1) f = min (least rows f) (f rows) := by
  unfold least
  rw [List.range_succ, List.foldl_append]
  rfl
theorem least_top (rows : Nat) (f : Nat → Nat) : least rows f ≤ 4611686018427387904 := by
  induction rows with
  | zero => exact Nat.le_refl _
  | succ n ih => rw [least_succ]; omega
theorem least_le {rows : Nat} {f : Nat → Nat} {r : Nat} (hr : r < rows) : least rows f ≤ f r := by
  induction rows with
  | zero => omega
  | succ n ih =>
    rw [least_succ]
    by_cases e : r = n
    · subst e; omega
    · have := ih (by omega); omega
theorem le_least {rows x : Nat} {f : Nat → Nat} (h : ∀ r, r < rows → x ≤ f r) (hx : x ≤ 4611686018427387904) : x ≤ least rows f := by
  induction rows with
  | zero => exact hx
  | succ n ih =>
    rw [least_succ]
    have := ih (fun r hr => h r (by omega))
    have := h n (by omega)
    omega

/-- where the window at a time begins -/
theorem first_iff (q w : Nat) (hb : 0 < b) (hw : w = b * B) : ((t - t % b : Nat) : Int) - (w : Int) + (b : Int) ≤ ((q * b : Nat) : Int) ↔ t / b < q + B := by
  subst hw
  have e1 : t - t % b = b * (t / b) := by have := Nat.div_add_mod t b; omega
  rw [e1]
  have key : (b * (t / b) + b ≤ q * b + b * B) ↔ t / b < q + B := by
    have e2 : b * (t / b) + b = b * (t / b + 1) := by rw [Nat.mul_add, Nat.mul_one]
    have e3 : q * b + b * B = b * (q + B) := by rw [Nat.mul_add, Nat.mul_comm q b]
    rw [e2, e3]
    constructor
    · intro h; exact Nat.lt_of_succ_le (Nat.le_of_mul_le_mul_left h hb)
    · intro h; exact Nat.mul_le_mul_left b h
  rw [← key]
  omega

end Go.Proofs.YtbihelpnojjacaaGreat.SkA

/- Contracts of a sketch's small calls. -/
namespace Go.Proofs.YtbihelpnojjacaaGreat.SkB
open Go.ChangeShapes Go.WideShapes Go.ChangeAt Go.RowKit Base Wri SkA

/-- wrong for a count of tokens -/
def badC (n : Int) : Bool := decide (n < 0 ∨ 1099511627776 < n)

set_option maxHeartbeats 400000 in
theorem are1_any (n : Int) (w : World) :
    Calls Tryz.prog 135 #[.int .i64 n] w fun e w' => e = .returned (.bool (badC n)) ∧ w = w' := by
  by_cases h1 : n < 0
  · have e : badC n = true := by unfold badC; simp [h1]
    rw [e]; clear e
    go_enter Tryz.func135, Tryz.ntmps135
    go_wp2
    go_ret
    exact ⟨rfl, rfl⟩
  · have h1' : decide (n < 0) = false := by simpa using h1
    by_cases h2 : 1099511627776 < n
    · have e : badC n = true := by unfold badC; simp [h2]
      rw [e]; clear e h1
      go_enter Tryz.func135, Tryz.ntmps135
      go_wp2
      go_ret
      exact ⟨rfl, rfl⟩
    · have e : badC n = false := by unfold badC; simp; omega
      rw [e]; clear e h1
      have h2' : decide (1099511627776 < n) = false := by simpa using h2
      clear h2
      go_enter Tryz.func135, Tryz.ntmps135
      go_wp2
      go_ret
      exact ⟨rfl, rfl⟩

set_option maxRecDepth 20000 in
set_option maxHeartbeats 400000 in
theorem indexInts (g o n cap : Nat) (f : Nat → Int) (w : World) (hn : n ≤ 9223372036854775807) (HC : Hid (∀ i, i < n → w.cell? ⟨g, o + i, none⟩ = some (.int .i64 (f i)))) :
    Calls Tryz.prog 108 #[.slice (some ⟨g, o, none⟩) n cap, .func (Fn.func 135) #[] #[]] w fun e w' => w = w' ∧ ((∃ k : Nat, k < n ∧ e = .returned (.int .i64 k) ∧ badC (f k) = true) ∨ (e = .returned (.int .i64 (-1)) ∧ ∀ i, i < n → badC (f i) = false)) := by
  go_enter Tryz.func108, Tryz.ntmps108
  go_wp2
  go_loop [8] (fun i => ∃ k : Nat, k ≤ n ∧ i = .int .i64 k ∧ ∀ i, i < k → badC (f i) = false) (fun i => n - (intOf i).toNat)
  case atStart => exact ⟨0, Nat.zero_le _, rfl, fun i hi => by omega⟩
  case round =>
    obtain ⟨k, hk, rfl, hno⟩ := hrel
    have HNo := hid hno
    clear hno
    by_cases hlt : k < n
    · have hx := HC.out k hlt
      have HA := hid (are1_any (f k) w)
      obtain ⟨b, hb⟩ : ∃ b, badC (f k) = b := ⟨_, rfl⟩
      rw [hb] at HA
      have HBb := hid hb
      clear hb
      cases b with
      | true =>
        go_wp2_with fail
        refine HA.out.mono ?_
        rintro e w2 ⟨rfl, rfl⟩
        go_wp2
        go_ret
        exact ⟨rfl, .inl ⟨k, hlt, rfl, HBb.out⟩⟩
      | false =>
        go_wp2_with fail
        refine HA.out.mono ?_
        rintro e w2 ⟨rfl, rfl⟩
        go_wp2
        go_round
        case rel => exact ⟨k + 1, by omega, by go_num, fun i hi => by by_cases h : i = k; (subst h; exact HBb.out); exact HNo.out i (by omega)⟩
        case measure => simp [intOf]; omega
    · go_wp2
      go_ret
      exact ⟨rfl, .inr ⟨rfl, fun i hi => HNo.out i (by omega)⟩⟩

set_option maxHeartbeats 400000 in
theorem indexInts_none (a : Option Addr) (cap : Nat) (w : World) :
    Calls Tryz.prog 108 #[.slice a 0 cap, .func (Fn.func 135) #[] #[]] w fun e w' => e = .returned (.int .i64 (-1)) ∧ w = w' := by
  go_enter Tryz.func108, Tryz.ntmps108
  go_wp2
  go_loop [8] (fun i => i = .int .i64 0) (fun _ => 0)
  case atStart => rfl
  case round =>
    obtain rfl := hrel
    go_wp2
    go_ret
    exact ⟨rfl, rfl⟩

/-- a slice of ints, as a call's argument -/
def Ints (w : World) (a : Option Addr) (n : Nat) (f : Nat → Int) : Prop := 0 < n → ∃ g o, a = some ⟨g, o, none⟩ ∧ g < w.heap.size ∧ ∀ i, i < n → w.cell? ⟨g, o + i, none⟩ = some (.int .i64 (f i))

open Classical in
/-- all right for counts of tokens -/
noncomputable def goodC (f : Nat → Int) (n : Nat) : Bool := decide (∀ i, i < n → badC (f i) = false)

set_option maxHeartbeats 400000 in
theorem contains_core (v : Value) (b : Bool) (w : World) (HI : Hid (Calls Tryz.prog 108 #[v, .func (Fn.func 135) #[] #[]] w fun e w' => (∃ r : Int, e = .returned (.int .i64 r) ∧ decide (0 ≤ r) = b) ∧ w = w')) :
    Calls Tryz.prog 70 #[v, .func (Fn.func 135) #[] #[]] w fun e w' => e = .returned (.bool b) ∧ w = w' := by
  go_enter Tryz.func70, Tryz.ntmps70
  go_wp2_with fail
  refine HI.out.mono ?_
  rintro e w1 ⟨⟨r, rfl, hb⟩, rfl⟩
  go_wp2
  go_ret
  exact ⟨rfl, rfl⟩

set_option maxHeartbeats 400000 in
theorem are_core (v : Value) (b : Bool) (w : World) (HI : Hid (Calls Tryz.prog 70 #[v, .func (Fn.func 135) #[] #[]] w fun e w' => e = .returned (.bool b) ∧ w = w')) :
    Calls Tryz.prog 100 #[v] w fun e w' => e = .returned (.bool (!b)) ∧ w = w' := by
  go_enter Tryz.func100, Tryz.ntmps100
  go_wp2_with fail
  refine HI.out.mono ?_
  rintro e w1 ⟨rfl, rfl⟩
  go_wp2
  go_ret
  exact ⟨rfl, rfl⟩

theorem areCounts_any (a : Option Addr) (n cap : Nat) (f : Nat → Int) (w : World) (hn : n ≤ 9223372036854775807) (h : Ints w a n f) :
    Calls Tryz.prog 100 #[.slice a n cap] w fun e w' => e = .returned (.bool (goodC f n)) ∧ w = w' := by
  by_cases h0 : n = 0
  · subst h0
    have e : goodC f 0 = true := by unfold goodC; simp
    rw [e]
    exact are_core _ false w (hid (contains_core _ false w (hid ((indexInts_none a cap w).mono fun e w' h => ⟨⟨-1, h.1, by decide⟩, h.2⟩))))
  · obtain ⟨g, o, rfl, _, hc⟩ := h (by omega)
    have hi := indexInts g o n cap f w hn (hid hc)
    by_cases hb : ∀ i, i < n → badC (f i) = false
    · have e : goodC f n = true := by unfold goodC; simpa using hb
      rw [e]
      exact are_core _ false w (hid (contains_core _ false w (hid (hi.mono fun e w' h => by
        obtain ⟨rfl, ⟨k, hk, _, hbk⟩ | ⟨he, _⟩⟩ := h
        · rw [hb k hk] at hbk; cases hbk
        · exact ⟨⟨-1, he, by decide⟩, rfl⟩))))
    · have e : goodC f n = false := by unfold goodC; simpa using hb
      rw [e]
      exact are_core _ true w (hid (contains_core _ true w (hid (hi.mono fun e w' h => by
        obtain ⟨rfl, ⟨k, hk, he, hbk⟩ | ⟨_, hall⟩⟩ := h
        · exact ⟨⟨k, he, by simp⟩, rfl⟩
        · exact absurd hall hb))))


/-- is a number from 1 to a greatest one? -/
def inB (n most : Int) : Bool := decide (1 ≤ n ∧ n ≤ most)

set_option maxHeartbeats 400000 in
theorem within_any (n most : Int) (w : World) :
    Calls Tryz.prog 90 #[.int .i64 n, .int .i64 most] w fun e w' => e = .returned (.bool (inB n most)) ∧ w = w' := by
  have hd : inB n most = (decide (1 ≤ n) && decide (n ≤ most)) := by unfold inB; exact Bool.decide_and _ _
  rw [hd]
  clear hd
  by_cases h1 : 1 ≤ n
  · have e1 : decide (1 ≤ n) = true := by simpa using h1
    rw [e1]
    go_enter Tryz.func90, Tryz.ntmps90
    go_wp2
    go_ret
    exact ⟨by simp, rfl⟩
  · have e1 : decide (1 ≤ n) = false := by simpa using h1
    rw [e1]
    clear h1
    go_enter Tryz.func90, Tryz.ntmps90
    go_wp2
    go_ret
    exact ⟨by simp, rfl⟩

def szv (wd bk ro co : Int) : Value := .agg #[.int .i64 wd, .int .i64 bk, .int .i64 ro, .int .i64 co]
/-- the error of a size -/
def refZ (wd bk ro co : Int) : Int := if inB wd 1099511627776 && inB bk 60 && inB ro 8 && inB co 4096 then (if wd % bk = 0 then 0 else 6) else 2

set_option maxRecDepth 20000 in
set_option maxHeartbeats 1000000 in
theorem refused_any (wd bk ro co : Int) (w : World) :
    Calls Tryz.prog 56 #[szv wd bk ro co] w fun e w' => e = .returned (.int .i64 (refZ wd bk ro co)) ∧ Below w.heap.size w w' := by
  unfold refZ
  have h1 := fun w => within_any wd 1099511627776 w
  have h2 := fun w => within_any bk 60 w
  have h3 := fun w => within_any ro 8 w
  have h4 := fun w => within_any co 4096 w
  have hwd : inB wd 1099511627776 = true → inB bk 60 = true → 0 ≤ wd ∧ 1 ≤ bk := fun a b => by
    have := of_decide_eq_true a; have := of_decide_eq_true b; omega
  generalize inB wd 1099511627776 = b1 at *
  generalize inB bk 60 = b2 at *
  generalize inB ro 8 = b3 at *
  generalize inB co 4096 = b4 at *
  unfold szv
  cases b1 with
  | false =>
    clear h2 h3 h4 hwd
    go_enter Tryz.func56, Tryz.ntmps56
    go_wp2_with fail
    refine (h1 _).mono ?_
    rintro e w1 ⟨rfl, rfl⟩
    go_wp2_with fail
    go_ret
    exact ⟨rfl, (by repeat (first | (with_reducible exact Below.refl _ _) | (with_reducible refine Below.setCell ?_ (by first | (simp; done) | (simp; omega) | omega) _) | (with_reducible refine Below.alloc ?_ (by first | (simp; done) | (simp; omega) | omega) _) | (with_reducible refine Below.drew ?_) | (with_reducible refine below_drewN ?_ _)))⟩
  | true =>
    cases b2 with
    | false =>
      clear h3 h4 hwd
      go_enter Tryz.func56, Tryz.ntmps56
      go_wp2_with fail
      refine (h1 _).mono ?_
      rintro e w1 ⟨rfl, rfl⟩
      go_wp2_with fail
      refine (h2 _).mono ?_
      rintro e w1 ⟨rfl, rfl⟩
      go_wp2_with fail
      go_ret
      exact ⟨rfl, (by repeat (first | (with_reducible exact Below.refl _ _) | (with_reducible refine Below.setCell ?_ (by first | (simp; done) | (simp; omega) | omega) _) | (with_reducible refine Below.alloc ?_ (by first | (simp; done) | (simp; omega) | omega) _) | (with_reducible refine Below.drew ?_) | (with_reducible refine below_drewN ?_ _)))⟩
    | true =>
      cases b3 with
      | false =>
        clear h4 hwd
        go_enter Tryz.func56, Tryz.ntmps56
        go_wp2_with fail
        refine (h1 _).mono ?_
        rintro e w1 ⟨rfl, rfl⟩
        go_wp2_with fail
        refine (h2 _).mono ?_
        rintro e w1 ⟨rfl, rfl⟩
        go_wp2_with fail
        refine (h3 _).mono ?_
        rintro e w1 ⟨rfl, rfl⟩
        go_wp2_with fail
        go_ret
        exact ⟨rfl, (by repeat (first | (with_reducible exact Below.refl _ _) | (with_reducible refine Below.setCell ?_ (by first | (simp; done) | (simp; omega) | omega) _) | (with_reducible refine Below.alloc ?_ (by first | (simp; done) | (simp; omega) | omega) _) | (with_reducible refine Below.drew ?_) | (with_reducible refine below_drewN ?_ _)))⟩
      | true =>
        cases b4 with
        | false =>
          clear hwd
          go_enter Tryz.func56, Tryz.ntmps56
          go_wp2_with fail
          refine (h1 _).mono ?_
          rintro e w1 ⟨rfl, rfl⟩
          go_wp2_with fail
          refine (h2 _).mono ?_
          rintro e w1 ⟨rfl, rfl⟩
          go_wp2_with fail
          refine (h3 _).mono ?_
          rintro e w1 ⟨rfl, rfl⟩
          go_wp2_with fail
          refine (h4 _).mono ?_
          rintro e w1 ⟨rfl, rfl⟩
          go_wp2_with fail
          go_ret
          exact ⟨rfl, (by repeat (first | (with_reducible exact Below.refl _ _) | (with_reducible refine Below.setCell ?_ (by first | (simp; done) | (simp; omega) | omega) _) | (with_reducible refine Below.alloc ?_ (by first | (simp; done) | (simp; omega) | omega) _) | (with_reducible refine Below.drew ?_) | (with_reducible refine below_drewN ?_ _)))⟩
        | true =>
          obtain ⟨q1, q2⟩ := hwd rfl rfl
          obtain ⟨m, rfl⟩ : ∃ m : Nat, wd = m := ⟨wd.toNat, by omega⟩
          obtain ⟨k, rfl⟩ : ∃ k : Nat, bk = k := ⟨bk.toNat, by omega⟩
          have n1 : ((k : Int) == 0) = false := by simp; omega
          clear hwd q1
          by_cases hd : (m : Int) % (k : Int) = 0
          · have hd2 : ((m : Int) % (k : Int) == 0) = true := by simpa using hd
            have e : (if (true && true && true && true) = true then (if (m : Int) % (k : Int) = 0 then (0 : Int) else 6) else 2) = 0 := by simp [hd]
            rw [e]
            clear e hd
            go_enter Tryz.func56, Tryz.ntmps56
            go_wp2_with fail
            refine (h1 _).mono ?_
            rintro e w1 ⟨rfl, rfl⟩
            go_wp2_with fail
            refine (h2 _).mono ?_
            rintro e w1 ⟨rfl, rfl⟩
            go_wp2_with fail
            refine (h3 _).mono ?_
            rintro e w1 ⟨rfl, rfl⟩
            go_wp2_with fail
            refine (h4 _).mono ?_
            rintro e w1 ⟨rfl, rfl⟩
            go_wp2_with fail
            go_ret
            exact ⟨rfl, (by repeat (first | (with_reducible exact Below.refl _ _) | (with_reducible refine Below.setCell ?_ (by first | (simp; done) | (simp; omega) | omega) _) | (with_reducible refine Below.alloc ?_ (by first | (simp; done) | (simp; omega) | omega) _) | (with_reducible refine Below.drew ?_) | (with_reducible refine below_drewN ?_ _)))⟩
          · have hd2 : ((m : Int) % (k : Int) == 0) = false := by simpa using hd
            have e : (if (true && true && true && true) = true then (if (m : Int) % (k : Int) = 0 then (0 : Int) else 6) else 2) = 6 := by simp [hd]
            rw [e]
            clear e hd
            go_enter Tryz.func56, Tryz.ntmps56
            go_wp2_with fail
            refine (h1 _).mono ?_
            rintro e w1 ⟨rfl, rfl⟩
            go_wp2_with fail
            refine (h2 _).mono ?_
            rintro e w1 ⟨rfl, rfl⟩
            go_wp2_with fail
            refine (h3 _).mono ?_
            rintro e w1 ⟨rfl, rfl⟩
            go_wp2_with fail
            refine (h4 _).mono ?_
            rintro e w1 ⟨rfl, rfl⟩
            go_wp2_with fail
            go_ret
            exact ⟨rfl, (by repeat (first | (with_reducible exact Below.refl _ _) | (with_reducible refine Below.setCell ?_ (by first | (simp; done) | (simp; omega) | omega) _) | (with_reducible refine Below.alloc ?_ (by first | (simp; done) | (simp; omega) | omega) _) | (with_reducible refine Below.drew ?_) | (with_reducible refine below_drewN ?_ _)))⟩

/-- the error of a time -/
def refT (last at_ : Int) (may : Bool) : Int := if may = false ∨ at_ < 0 ∨ 1152921504606846976 < at_ then 2 else if at_ < last then 7 else 0

set_option maxHeartbeats 400000 in
theorem refuses_any (p : Nat) (last at_ : Int) (may : Bool) (w : World) (h : w.cell? ⟨p, 5, none⟩ = some (.int .i64 last)) :
    Calls Tryz.prog 99 #[.pointer (some ⟨p, 0, none⟩), .int .i64 at_, .bool may] w fun e w' => e = .returned (.int .i64 (refT last at_ may)) ∧ w = w' := by
  cases may with
  | false =>
    have e : refT last at_ false = 2 := by unfold refT; rw [if_pos (.inl rfl)]
    rw [e]; clear e
    go_enter Tryz.func99, Tryz.ntmps99
    go_wp2
    go_ret
    exact ⟨rfl, rfl⟩
  | true =>
    by_cases h1 : at_ < 0
    · have e : refT last at_ true = 2 := by unfold refT; rw [if_pos (.inr (.inl h1))]
      rw [e]; clear e
      go_enter Tryz.func99, Tryz.ntmps99
      go_wp2
      go_ret
      exact ⟨rfl, rfl⟩
    · have h1' : decide (at_ < 0) = false := by simpa using h1
      by_cases h2 : 1152921504606846976 < at_
      · have e : refT last at_ true = 2 := by unfold refT; rw [if_pos (.inr (.inr h2))]
        rw [e]; clear e h1
        go_enter Tryz.func99, Tryz.ntmps99
        go_wp2
        go_ret
        exact ⟨rfl, rfl⟩
      · have h2' : decide (1152921504606846976 < at_) = false := by simpa using h2
        by_cases h3 : at_ < last
        · have e : refT last at_ true = 7 := by unfold refT; rw [if_neg (by simp; omega), if_pos h3]
          rw [e]; clear e h1 h2
          go_enter Tryz.func99, Tryz.ntmps99
          go_wp2
          go_ret
          exact ⟨rfl, rfl⟩
        · have e : refT last at_ true = 0 := by unfold refT; rw [if_neg (by simp; omega), if_neg h3]
          rw [e]; clear e h1 h2
          have h3' : decide (at_ < last) = false := by simpa using h3
          clear h3
          go_enter Tryz.func99, Tryz.ntmps99
          go_wp2
          go_ret
          exact ⟨rfl, rfl⟩

theorem refuses_nil (at_ : Int) (may : Bool) (w : World) :
    Calls Tryz.prog 99 #[.pointer none, .int .i64 at_, .bool may] w fun e w' => e = .returned (.int .i64 1) ∧ w = w' := by
  go_enter Tryz.func99, Tryz.ntmps99
  go_wp2
  go_ret
  exact ⟨rfl, rfl⟩

end Go.Proofs.YtbihelpnojjacaaGreat.SkB

/- Contracts of a sketch's small calls: buckets' beginnings, sums, hashes. -/
namespace Go.Proofs.YtbihelpnojjacaaGreat.SkC
open Go.ChangeShapes Go.WideShapes Go.ChangeAt Go.RowKit Base Wri SkA SkB

theorem beg_eq (q a : Nat) : (a : Int) - (a : Int) % (q : Int) = ((a - a % q : Nat) : Int) := by
  have h : a % q ≤ a := Nat.mod_le _ _
  have e : ((a % q : Nat) : Int) = (a : Int) % (q : Int) := rfl
  rw [← e]
  omega

set_option maxHeartbeats 400000 in
theorem begin_any (wd bk ro co q t : Nat) (w : World) (hz : 0 < bk) (hq : wd / bk = q) (hq0 : 0 < q) (hz2 : wd ≤ 1099511627776) (ha : t ≤ 1152921504606846976) :
    Calls Tryz.prog 105 #[szv wd bk ro co, .int .i64 t] w fun e w' => e = .returned (.int .i64 ((t - t % q : Nat) : Int)) ∧ Below w.heap.size w w' := by
  have e1 : (wd : Int) / (bk : Int) = (q : Int) := by rw [← hq]; rfl
  have n1 : ((bk : Int) == 0) = false := by simp; omega
  have n2 : ((q : Int) == 0) = false := by simp; omega
  have q1 : q ≤ 1099511627776 := by rw [← hq]; exact Nat.le_trans (Nat.div_le_self _ _) hz2
  have m1 : (0 : Int) ≤ (t : Int) % (q : Int) := Int.emod_nonneg _ (by omega)
  have m2 : (t : Int) % (q : Int) ≤ t := Int.ofNat_le.2 (Nat.mod_le t q)
  have hB := hid (beg_eq q t)
  clear hq hz2
  unfold szv
  go_enter Tryz.func105, Tryz.ntmps105
  go_wp2_with fail
  go_ret
  exact ⟨by rw [← hB.out]; rfl, (by repeat (first | (with_reducible exact Below.refl _ _) | (with_reducible refine Below.setCell ?_ (by first | (simp; done) | (simp; omega) | omega) _) | (with_reducible refine Below.alloc ?_ (by first | (simp; done) | (simp; omega) | omega) _) | (with_reducible refine Below.drew ?_) | (with_reducible refine below_drewN ?_ _)))⟩

set_option maxRecDepth 20000 in
set_option maxHeartbeats 400000 in
theorem first_any (wd bk ro co q t : Nat) (w : World) (hz : 0 < bk) (hq : wd / bk = q) (hq0 : 0 < q) (hz2 : wd ≤ 1099511627776) (ha : t ≤ 1152921504606846976) :
    Calls Tryz.prog 102 #[szv wd bk ro co, .int .i64 t] w fun e w' => e = .returned (.int .i64 (((t - t % q : Nat) : Int) - wd + q)) ∧ Below w.heap.size w w' := by
  have e1 : (wd : Int) / (bk : Int) = (q : Int) := by rw [← hq]; rfl
  have n1 : ((bk : Int) == 0) = false := by simp; omega
  have q1 : q ≤ 1099511627776 := by rw [← hq]; exact Nat.le_trans (Nat.div_le_self _ _) hz2
  have b1 : t - t % q ≤ 1152921504606846976 := Nat.le_trans (Nat.sub_le _ _) ha
  have HQ := hid (fun w => begin_any wd bk ro co q t w hz hq hq0 hz2 ha)
  generalize t - t % q = b at *
  have x1 : IntKind.i64.wrap ((b : Int) - (wd : Int)) = (b : Int) - (wd : Int) := by rw [IntKind.wrap_i64]; omega
  have x3 : IntKind.i64.wrap (q : Int) = (q : Int) := by rw [IntKind.wrap_i64]; omega
  have x4 : IntKind.i64.wrap ((wd : Int) / (bk : Int)) = (q : Int) := by rw [e1]; exact x3
  have x5 : Int.tdiv (wd : Int) (bk : Int) = (q : Int) := by rw [← e1]; exact Int.ofNat_tdiv wd bk
  have x6 : IntKind.i64.wrap (Int.tdiv (wd : Int) (bk : Int)) = (q : Int) := by rw [x5]; exact x3
  have n3 : ¬ ((bk : Int) = 0) := by omega
  have n4 : ¬ (bk = 0) := by omega
  have x2 : IntKind.i64.wrap ((b : Int) - (wd : Int) + (q : Int)) = (b : Int) - (wd : Int) + (q : Int) := by rw [IntKind.wrap_i64]; omega
  clear hq
  unfold szv at *
  go_enter Tryz.func102, Tryz.ntmps102
  go_wp2_with fail
  go_region_held3 (fun w' => w'.cell? ⟨w.heap.size, 0, none⟩ = some (.int .i64 wd) ∧ w'.cell? ⟨w.heap.size, 1, none⟩ = some (.int .i64 bk) ∧ w'.cell? ⟨w.heap.size, 2, none⟩ = some (.int .i64 ro) ∧ w'.cell? ⟨w.heap.size, 3, none⟩ = some (.int .i64 co)) (first | assumption | go_keep)
    (first | (go_at_call 105; refine (HQ.out _).mono ?_; rintro e w3 ⟨rfl, hb3⟩
              have k0 : w3.cell? ⟨w.heap.size, 0, none⟩ = some (.int .i64 wd) := (hb3.cell (p := ⟨w.heap.size, 0, none⟩) (by simp)).trans (by go_cell)
              have k1 : w3.cell? ⟨w.heap.size, 1, none⟩ = some (.int .i64 bk) := (hb3.cell (p := ⟨w.heap.size, 1, none⟩) (by simp)).trans (by go_cell)
              have k2 : w3.cell? ⟨w.heap.size, 2, none⟩ = some (.int .i64 ro) := (hb3.cell (p := ⟨w.heap.size, 2, none⟩) (by simp)).trans (by go_cell)
              have k3 : w3.cell? ⟨w.heap.size, 3, none⟩ = some (.int .i64 co) := (hb3.cell (p := ⟨w.heap.size, 3, none⟩) (by simp)).trans (by go_cell)))
  all_goals
    go_wp2_with fail
    go_ret
    exact ⟨rfl, (((Below.refl w.heap.size w).alloc (Nat.le_refl _) _).drew).trans (hb3.mono (by show w.heap.size ≤ (w.alloc _).heap.size; simp))⟩

end Go.Proofs.YtbihelpnojjacaaGreat.SkC

/- Contracts of a sketch's small calls: sums that stay at the greatest, hashes, what a bucket tells. -/
namespace Go.Proofs.YtbihelpnojjacaaGreat.SkD
open Go.ChangeShapes Go.WideShapes Go.ChangeAt Go.RowKit Base Wri SkA SkB

def sumTo (f : Nat → Nat) : Nat → Nat
  | 0 => 0
  | k + 1 => sumTo f k + f k
theorem sumTo_le (f : Nat → Nat) {k n : Nat} (h : k ≤ n) : sumTo f k ≤ sumTo f n := by
  induction h with
  | refl => exact Nat.le_refl _
  | step _ ih => exact Nat.le_trans ih (Nat.le_add_right _ _)

set_option maxRecDepth 20000 in
set_option maxHeartbeats 400000 in
theorem plus_core (g o n cap : Nat) (f : Nat → Nat) (w : World) (hn : n ≤ 9223372036854775807) (HC : Hid (∀ i, i < n → w.cell? ⟨g, o + i, none⟩ = some (.int .i64 (f i)))) :
    Calls Tryz.prog 103 #[.slice (some ⟨g, o, none⟩) n cap] w fun e w' => e = .returned (.int .i64 (sat (sumTo f n))) ∧ w = w' := by
  go_enter Tryz.func103, Tryz.ntmps103
  go_wp2
  go_loop [3, 8] (fun s i => ∃ k : Nat, k ≤ n ∧ s = .int .i64 (sumTo f k) ∧ i = .int .i64 k ∧ sumTo f k ≤ 4611686018427387904) (fun _ i => n - (intOf i).toNat)
  case atStart => exact ⟨0, Nat.zero_le _, rfl, rfl, by simp [sumTo]⟩
  case round =>
    obtain ⟨k, hk, rfl, rfl, hle⟩ := hrel
    by_cases hlt : k < n
    · have hx := HC.out k hlt
      have hS : Hid (sumTo f (k + 1) = sumTo f k + f k) := hid rfl
      have hM := hid (sumTo_le f (show k + 1 ≤ n by omega))
      generalize sumTo f k = sk at *
      generalize f k = fk at *
      by_cases hg : 4611686018427387904 < sk + fk
      · have h1 : decide ((4611686018427387904 : Int) - (sk : Int) < (fk : Int)) = true := by simp; omega
        have hr : Hid (sat (sumTo f n) = 4611686018427387904) := hid (by have := hS.out; have := hM.out; unfold sat; omega)
        clear hg
        go_wp2
        go_ret
        exact ⟨by rw [hr.out]; rfl, rfl⟩
      · have h1 : decide ((4611686018427387904 : Int) - (sk : Int) < (fk : Int)) = false := by simp; omega
        have hg2 : sk + fk ≤ 4611686018427387904 := by omega
        clear hg
        go_wp2
        go_round
        case rel => exact ⟨k + 1, by omega, by rw [hS.out]; go_num, by go_num, by rw [hS.out]; exact hg2⟩
        case measure => simp [intOf]; omega
    · obtain rfl : k = n := by omega
      have hr : Hid (sat (sumTo f k) = sumTo f k) := hid (by unfold sat; omega)
      go_wp2
      go_ret
      exact ⟨by rw [hr.out]; rfl, rfl⟩

theorem plus_none (a : Option Addr) (cap : Nat) (w : World) :
    Calls Tryz.prog 103 #[.slice a 0 cap] w fun e w' => e = .returned (.int .i64 0) ∧ w = w' := by
  go_enter Tryz.func103, Tryz.ntmps103
  go_wp2
  go_loop [3, 8] (fun s i => s = .int .i64 0 ∧ i = .int .i64 0) (fun _ _ => 0)
  case atStart => exact ⟨rfl, rfl⟩
  case round =>
    obtain ⟨rfl, rfl⟩ := hrel
    go_wp2
    go_ret
    exact ⟨rfl, rfl⟩

theorem plus_any (a : Option Addr) (n cap : Nat) (f : Nat → Nat) (w : World) (hn : n ≤ 9223372036854775807) (h : Ints w a n (fun i => (f i : Int))) :
    Calls Tryz.prog 103 #[.slice a n cap] w fun e w' => e = .returned (.int .i64 (sat (sumTo f n))) ∧ w = w' := by
  by_cases h0 : n = 0
  · subst h0; exact plus_none a cap w
  · obtain ⟨g, o, rfl, _, hc⟩ := h (by omega)
    exact plus_core g o n cap f w hn (hid hc)

/-- of two numbers, in a list of their own -/
theorem plus_two (x y : Nat) (wq : World) (w : World) (hw : wq.heap = (w.alloc (.cells #[.int .i64 x, .int .i64 y] 3)).heap) :
    Calls Tryz.prog 103 #[.slice (some ⟨w.heap.size, 0, none⟩) 2 2] wq fun e w' => e = .returned (.int .i64 (sat (x + y))) ∧ wq = w' := by
  have hb : wq.heap[w.heap.size]? = some (.cells #[.int .i64 x, .int .i64 y] 3) := by rw [hw]; exact heap_alloc_new w _
  have := plus_core w.heap.size 0 2 2 (fun i => if i = 0 then x else y) wq (by omega) (hid fun i hi => by
    match i, hi with
    | 0, _ => simp [World.cell?, hb]
    | 1, _ => simp [World.cell?, hb])
  have e : sumTo (fun i => if i = 0 then x else y) 2 = x + y := by simp [sumTo]
  rw [e] at this
  exact this

def hstep (h : Nat) (b : UInt8) : Nat := (h ^^^ b.toNat) * 1099511628211 % 18446744073709551616
def hashTo (c : Nat) (s : ByteArray) (k : Nat) : Nat := (s.data.toList.take k).foldl hstep c
def hashN (s : ByteArray) : Nat := s.data.toList.foldl hstep 14695981039346656037

theorem hstep_lt (h : Nat) (b : UInt8) : hstep h b < 18446744073709551616 := Nat.mod_lt _ (by decide)
theorem hstep_eq (h : Nat) (hh : h < 18446744073709551616) (b : UInt8) : IntKind.u64.wrap (bits .xor .u64 (h : Int) (IntKind.u64.wrap (b.toNat : Int)) * 1099511628211) = (hstep h b : Nat) := by
  have hb : b.toNat < 256 := b.toNat_lt
  have e1 : IntKind.u64.wrap (b.toNat : Int) = (b.toNat : Int) := by rw [IntKind.wrap_u64]; omega
  rw [e1, bits_xor_u64_nat h b.toNat hh (by omega), IntKind.wrap_u64]
  unfold hstep
  rw [Int.natCast_emod, Int.natCast_mul]
  rfl
theorem fold_lt (l : List UInt8) (h : Nat) (hh : h < 18446744073709551616) : l.foldl hstep h < 18446744073709551616 := by
  induction l generalizing h with
  | nil => exact hh
  | cons x r ih => exact ih _ (hstep_lt _ _)
theorem hash_lt (s : ByteArray) : hashN s < 18446744073709551616 := fold_lt _ _ (by decide)
theorem foldl_step {β : Type} (f : Nat → β → Nat) (c : Nat) (l : List β) (k : Nat) (b : β) (h : l[k]? = some b) : (l.take (k + 1)).foldl f c = f ((l.take k).foldl f c) b := by
  rw [List.take_add_one, h, List.foldl_append]
  rfl
theorem hashTo_step (c : Nat) (s : ByteArray) (k : Nat) (h : k < s.size) : hashTo c s (k + 1) = hstep (hashTo c s k) s[k] := by
  refine foldl_step hstep c s.data.toList k s[k] ?_
  rw [List.getElem?_eq_getElem (by simpa using h)]
  rfl
theorem hashTo_succ (c : Nat) (hc : c < 18446744073709551616) (s : ByteArray) (k : Nat) (h : k < s.size) : ((hashTo c s (k + 1) : Nat) : Int) = IntKind.u64.wrap (bits .xor .u64 (hashTo c s k : Int) (IntKind.u64.wrap (s[k].toNat : Int)) * 1099511628211) := by
  have hl : hashTo c s k < 18446744073709551616 := fold_lt _ _ hc
  rw [hstep_eq _ hl, hashTo_step c s k h]
theorem hashTo_all (c : Nat) (s : ByteArray) : hashTo c s s.size = s.data.toList.foldl hstep c := by
  unfold hashTo
  have h : s.data.toList.length ≤ s.size := Nat.le_of_eq (by rw [Array.length_toList]; rfl)
  rw [List.take_of_length_le h]

set_option maxRecDepth 20000 in
set_option maxHeartbeats 400000 in
theorem hash_core (c : Nat) (HC0 : Hid ((14695981039346656037 : Int) = (c : Int))) (s : ByteArray) (HS : Hid (∀ k, (h : k < s.size) → ((hashTo c s (k + 1) : Nat) : Int) = IntKind.u64.wrap (bits .xor .u64 (hashTo c s k : Int) (IntKind.u64.wrap (s[k].toNat : Int)) * 1099511628211))) (w : World) (hs : s.size ≤ maxLen) :
    Calls Tryz.prog 138 #[.string s] w fun e w' => e = .returned (.int .u64 (s.data.toList.foldl hstep c : Nat)) ∧ w = w' := by
  unfold maxLen at hs
  go_enter Tryz.func138, Tryz.ntmps138
  go_wp2
  go_loop [3, 7] (fun h i => ∃ k : Nat, k ≤ s.size ∧ h = .int .u64 (hashTo c s k : Nat) ∧ i = .int .i64 k) (fun _ i => s.size - (intOf i).toNat)
  case atStart => exact ⟨0, Nat.zero_le _, by rw [HC0.out]; rfl, rfl⟩
  case round =>
    obtain ⟨k, hk, rfl, rfl⟩ := hrel
    by_cases hlt : k < s.size
    · have HE := hid (HS.out k hlt)
      obtain ⟨h, hh⟩ : ∃ h, hashTo c s k = h := ⟨_, rfl⟩
      rw [hh] at HE ⊢
      clear hh
      go_wp2
      exact ⟨⟨k + 1, by omega, by rw [HE.out], by go_num⟩, by simp [intOf]; omega⟩
    · obtain rfl : k = s.size := by omega
      rw [hashTo_all]
      go_wp2
      go_ret
      exact ⟨rfl, rfl⟩

theorem hash_any (s : ByteArray) (w : World) (hs : s.size ≤ maxLen) :
    Calls Tryz.prog 138 #[.string s] w fun e w' => e = .returned (.int .u64 (hashN s)) ∧ w = w' :=
  hash_core 14695981039346656037 (hid rfl) s (hid fun k h => hashTo_succ _ (by decide) s k h) w hs

set_option maxHeartbeats 400000 in
theorem forget1_any (a b lim : Int) (m : Value) (F : Nat) (w : World) (hF : F < w.heap.size) (h : w.cell? ⟨F, 0, none⟩ = some (.int .i64 lim)) :
    Calls Tryz.prog 137 #[.agg #[.int .i64 a, .int .i64 b, m], .pointer (some ⟨F, 0, none⟩)] w fun e w' => e = .returned (.bool (decide (a < lim))) ∧ Below w.heap.size w w' := by
  go_enter Tryz.func137, Tryz.ntmps137
  go_wp2
  go_ret
  exact ⟨rfl, (by repeat (first | (with_reducible exact Below.refl _ _) | (with_reducible refine Below.setCell ?_ (by first | (simp; done) | (simp; omega) | omega) _) | (with_reducible refine Below.alloc ?_ (by first | (simp; done) | (simp; omega) | omega) _) | (with_reducible refine Below.drew ?_) | (with_reducible refine below_drewN ?_ _)))⟩

set_option maxHeartbeats 400000 in
theorem estimate1_any (a b x : Int) (mb F : Nat) (r c : Nat) (w : World) (_hF : F < w.heap.size) (h0 : w.cell? ⟨F, 0, none⟩ = some (.int .i64 r)) (h1 : w.cell? ⟨F, 1, none⟩ = some (.int .i64 c))
    (hl : ∀ w1 : World, w1.heap[mb]? = w.heap[mb]? → (Instr.lookup 130 (.map (some mb)) (.agg #[.int .i64 r, .int .i64 c]) false).run Tryz.prog w1 = .ok (.int .i64 x) w1) (hmb : mb < w.heap.size) :
    Calls Tryz.prog 142 #[.agg #[.int .i64 a, .int .i64 b, .map (some mb)], .pointer (some ⟨F, 0, none⟩)] w fun e w' => e = .returned (.int .i64 x) ∧ Below w.heap.size w w' := by
  have hl1 := hl (w.alloc (.cells #[.int .i64 a, .int .i64 b, .map (some mb)] 132)) (Below.heap_alloc _ _ _ hmb)
  clear hl
  go_enter Tryz.func142, Tryz.ntmps142
  go_wp2
  go_ret
  exact ⟨rfl, (by repeat (first | (with_reducible exact Below.refl _ _) | (with_reducible refine Below.setCell ?_ (by first | (simp; done) | (simp; omega) | omega) _) | (with_reducible refine Below.alloc ?_ (by first | (simp; done) | (simp; omega) | omega) _) | (with_reducible refine Below.drew ?_) | (with_reducible refine below_drewN ?_ _)))⟩

end Go.Proofs.YtbihelpnojjacaaGreat.SkD

/- Rows of a sketch's buckets; IndexFunc and DeleteFunc over them. -/
namespace Go.Proofs.YtbihelpnojjacaaGreat.SkE
open Go.ChangeShapes Go.WideShapes Go.ChangeAt Go.RowKit Base Wri WldF WldG SkA SkB SkD

structure Bk where
  at_ : Int
  tot : Int
  mp : Nat

def bv (b : Bk) : List Value := [.int .i64 b.at_, .int .i64 b.tot, .map (some b.mp)]

/-- block g is a row of buckets, with room for cap of them; the first n are told by f -/
def IsBk (w : World) (g cap n : Nat) (f : Nat → Bk) : Prop :=
  ∃ cur, w.heap[g]? = some (.cells cur 132) ∧ cur.size = cap * 3 ∧ n ≤ cap ∧ cap ≤ maxLen ∧ ∀ i, i < n → ∀ j, j < 3 → cur[i * 3 + j]? = (bv (f i))[j]?

theorem IsBk.of_block {w w' : World} {g cap n : Nat} {f : Nat → Bk} (h : IsBk w g cap n f) (e : w'.heap[g]? = w.heap[g]?) : IsBk w' g cap n f := by
  obtain ⟨cur, h1, h2⟩ := h
  exact ⟨cur, e.trans h1, h2⟩
theorem IsBk.lt {w : World} {g cap n : Nat} {f : Nat → Bk} (h : IsBk w g cap n f) : g < w.heap.size := by
  obtain ⟨cur, h1, _⟩ := h
  exact (Array.getElem?_eq_some_iff.1 h1).1
theorem IsBk.below {w w' : World} {B g cap n : Nat} {f : Nat → Bk} (h : IsBk w g cap n f) (hb : Below B w w') (hg : g < B) : IsBk w' g cap n f := h.of_block (hb.block g hg)
theorem IsBk.le {w : World} {g cap n : Nat} {f : Nat → Bk} (h : IsBk w g cap n f) : n ≤ cap ∧ cap ≤ maxLen := by
  obtain ⟨_, _, _, h1, h2, _⟩ := h
  exact ⟨h1, h2⟩
theorem IsBk.cell {w : World} {g cap n : Nat} {f : Nat → Bk} (h : IsBk w g cap n f) (i : Nat) (hi : i < n) (j : Nat) (hj : j < 3) (v : Value) (hv : (bv (f i))[j]? = some v) : w.cell? ⟨g, i * 3 + j, none⟩ = some v := by
  obtain ⟨cur, h1, _, _, _, h5⟩ := h
  have := h5 i hi j hj
  rw [hv] at this
  simp [World.cell?, h1, this]
theorem IsBk.frozen {w : World} {g cap n : Nat} {f : Nat → Bk} (h : IsBk w g cap n f) (o : Nat) : w.frozen? ⟨g, o, none⟩ = false := by
  obtain ⟨cur, h1, _⟩ := h
  simp [World.frozen?, h1]
theorem IsBk.there {w : World} {g cap n : Nat} {f : Nat → Bk} (h : IsBk w g cap n f) (o : Nat) (ho : o < cap * 3) : (w.cell? ⟨g, o, none⟩).isSome = true := by
  obtain ⟨cur, h1, h2, _⟩ := h
  simp [World.cell?, h1, h2, ho]
theorem IsBk.at3 {w : World} {g cap n : Nat} {f : Nat → Bk} (h : IsBk w g cap n f) (i : Nat) (hi : i < n) : w.cell? ⟨g, i * 3, none⟩ = some (.int .i64 (f i).at_) ∧ w.cell? ⟨g, i * 3 + 1, none⟩ = some (.int .i64 (f i).tot) ∧ w.cell? ⟨g, i * 3 + 2, none⟩ = some (.map (some (f i).mp)) :=
  ⟨h.cell i hi 0 (by omega) _ rfl, h.cell i hi 1 (by omega) _ rfl, h.cell i hi 2 (by omega) _ rfl⟩
theorem IsBk.less {w : World} {g cap n m : Nat} {f : Nat → Bk} (h : IsBk w g cap n f) (hm : m ≤ n) : IsBk w g cap m f := by
  obtain ⟨cur, h1, h2, h3, h4, h5⟩ := h
  exact ⟨cur, h1, h2, by omega, h4, fun i hi => h5 i (by omega)⟩
theorem IsBk.congr {w : World} {g cap n : Nat} {f f' : Nat → Bk} (h : IsBk w g cap n f) (e : ∀ i, i < n → f i = f' i) : IsBk w g cap n f' := by
  obtain ⟨cur, h1, h2, h3, h4, h5⟩ := h
  exact ⟨cur, h1, h2, h3, h4, fun i hi j hj => by rw [← e i hi]; exact h5 i hi j hj⟩

/-- one cell behind the first n -/
theorem IsBk.set_past {w : World} {g cap n : Nat} {f : Nat → Bk} (h : IsBk w g cap n f) (o : Nat) (ho : n * 3 ≤ o) (v : Value) : IsBk (w.setCell ⟨g, o, none⟩ v) g cap n f := by
  obtain ⟨cur, h1, h2, h3, h4, h5⟩ := h
  refine ⟨cur.setIfInBounds o v, heap_setCell_same w g o cur _ v h1, by simpa using h2, h3, h4, fun i hi j hj => ?_⟩
  rw [Array.getElem?_setIfInBounds_ne (by omega)]
  exact h5 i hi j hj
theorem IsBk.sets_past {g cap n : Nat} {f : Nat → Bk} : ∀ (vs : List Value) (w : World) (o : Nat), IsBk w g cap n f → n * 3 ≤ o → IsBk (w.setCells g o vs) g cap n f
  | [], _, _, h, _ => h
  | v :: vs, w, o, h, ho => by
    show IsBk ((w.setCell ⟨g, o, none⟩ v).setCells g (o + 1) vs) g cap n f
    exact IsBk.sets_past vs _ _ (h.set_past o ho v) (by omega)

def put3 (w : World) (g o : Nat) (b : Bk) : World := ((w.setCell ⟨g, o, none⟩ (.int .i64 b.at_)).setCell ⟨g, o + 1, none⟩ (.int .i64 b.tot)).setCell ⟨g, o + 2, none⟩ (.map (some b.mp))

theorem IsBk.put3 {w : World} {g cap n : Nat} {f : Nat → Bk} (h : IsBk w g cap n f) (i : Nat) (hi : i < n) (b : Bk) : IsBk (put3 w g (i * 3) b) g cap n (fun k => if k = i then b else f k) := by
  obtain ⟨cur, h1, h2, h3, h4, h5⟩ := h
  have hz : i * 3 + 3 ≤ cur.size := by omega
  refine ⟨((cur.setIfInBounds (i * 3) (.int .i64 b.at_)).setIfInBounds (i * 3 + 1) (.int .i64 b.tot)).setIfInBounds (i * 3 + 2) (.map (some b.mp)), ?_, by simpa using h2, h3, h4, fun k hk j hj => ?_⟩
  · exact heap_setCell_same _ _ _ _ _ _ (heap_setCell_same _ _ _ _ _ _ (heap_setCell_same _ _ _ _ _ _ h1))
  · by_cases e : k = i
    · subst e
      dsimp only
      rw [if_pos rfl]
      match j, hj with
      | 0, _ => simp [Array.getElem?_setIfInBounds, bv]; omega
      | 1, _ => simp [Array.getElem?_setIfInBounds, bv]; omega
      | 2, _ => simp [Array.getElem?_setIfInBounds, bv]; omega
    · have n0 : i * 3 ≠ k * 3 + j := by omega
      have n1 : i * 3 + 1 ≠ k * 3 + j := by omega
      have n2 : i * 3 + 2 ≠ k * 3 + j := by omega
      dsimp only
      rw [if_neg e, ← h5 k hk j hj, Array.getElem?_setIfInBounds_ne n2, Array.getElem?_setIfInBounds_ne n1, Array.getElem?_setIfInBounds_ne n0]

/-- one bucket's total -/
theorem IsBk.putTot {w : World} {g cap n : Nat} {f : Nat → Bk} (h : IsBk w g cap n f) (i : Nat) (hi : i < n) (t : Int) : IsBk (w.setCell ⟨g, i * 3 + 1, none⟩ (.int .i64 t)) g cap n (fun k => if k = i then ⟨(f i).at_, t, (f i).mp⟩ else f k) := by
  obtain ⟨cur, h1, h2, h3, h4, h5⟩ := h
  have hz : i * 3 + 3 ≤ cur.size := by omega
  refine ⟨cur.setIfInBounds (i * 3 + 1) (.int .i64 t), heap_setCell_same _ _ _ _ _ _ h1, by simpa using h2, h3, h4, fun k hk j hj => ?_⟩
  by_cases e : k = i
  · subst e
    dsimp only
    rw [if_pos rfl]
    match j, hj with
    | 0, _ => rw [Array.getElem?_setIfInBounds_ne (by omega)]; exact h5 k hk 0 (by omega)
    | 1, _ => simp [Array.getElem?_setIfInBounds, bv]; omega
    | 2, _ => rw [Array.getElem?_setIfInBounds_ne (by omega)]; exact h5 k hk 2 (by omega)
  · dsimp only
    rw [if_neg e, ← h5 k hk j hj]
    rw [Array.getElem?_setIfInBounds_ne (show i * 3 + 1 ≠ k * 3 + j by omega)]

theorem Keeps.sets {b : Nat} {w : World} : ∀ (vs : List Value) (w' : World) (o : Nat), Keeps b w w' → Keeps b w (w'.setCells b o vs)
  | [], _, _, h => h
  | v :: vs, w', o, h => by
    show Keeps b w ((w'.setCell ⟨b, o, none⟩ v).setCells b (o + 1) vs)
    exact Keeps.sets vs _ _ (h.set o v)
theorem Keeps.put3 {b : Nat} {w w' : World} (h : Keeps b w w') (o : Nat) (x : Bk) : Keeps b w (put3 w' b o x) := ((h.set _ _).set _ _).set _ _

set_option maxRecDepth 20000 in
set_option maxHeartbeats 1000000 in
theorem indexBk (g cap n c F : Nat) (f : Nat → Bk) (lim : Int) (w : World) (hn : n ≤ 9223372036854775807) (hF : F < w.heap.size) (hl : w.cell? ⟨F, 0, none⟩ = some (.int .i64 lim)) (HB : Hid (IsBk w g cap n f)) :
    Calls Tryz.prog 156 #[.slice (some ⟨g, 0, none⟩) n c, .func (Fn.func 137) #[] #[.pointer (some ⟨F, 0, none⟩)]] w
      fun e w' => Below w.heap.size w w' ∧ ((∃ k : Nat, k < n ∧ e = .returned (.int .i64 k) ∧ (f k).at_ < lim ∧ ∀ i, i < k → lim ≤ (f i).at_) ∨ (e = .returned (.int .i64 (-1)) ∧ ∀ i, i < n → lim ≤ (f i).at_)) := by
  have HL := hid hl
  have HG := HB.out.lt
  go_enter Tryz.func156, Tryz.ntmps156
  go_wp2
  go_loopw [8] (fun i wr => ∃ k : Nat, k ≤ n ∧ i = .int .i64 k ∧ Below w.heap.size w wr ∧ ∀ i, i < k → lim ≤ (f i).at_) (fun i _ => n - (intOf i).toNat)
  case atStart => exact ⟨0, Nat.zero_le _, rfl, Below.refl _ _, fun i hi => by omega⟩
  case round =>
    obtain ⟨k, hk, rfl, hbel, hno⟩ := hrel
    have HBel := hid hbel
    have HNo := hid hno
    clear hno hl
    by_cases hlt : k < n
    · obtain ⟨c0, c1, c2⟩ := (HB.out.below hbel HG).at3 k hlt
      have hs := hbel.size
      have hl2 : wr.cell? ⟨F, 0, none⟩ = some (.int .i64 lim) := (hbel.cell (p := ⟨F, 0, none⟩) hF).trans HL.out
      clear hbel
      by_cases hq : (f k).at_ < lim
      · have HQ := hid hq
        have hd : decide ((f k).at_ < lim) = true := by simpa using hq
        clear hq
        go_wp2_with fail
        refine (forget1_any _ _ lim _ F _ (by omega) hl2).mono ?_
        rintro e w2 ⟨rfl, hb2⟩
        have HB2 : Hid (Below w.heap.size w w2) := hid (HBel.out.trans (hb2.mono hs))
        clear hb2 c0 c1 c2
        go_wp2
        go_ret
        exact ⟨HB2.out, .inl ⟨k, hlt, rfl, HQ.out, HNo.out⟩⟩
      · have HQ : Hid (lim ≤ (f k).at_) := hid (by omega)
        have hd : decide ((f k).at_ < lim) = false := by simpa using hq
        clear hq
        go_wp2_with fail
        refine (forget1_any _ _ lim _ F _ (by omega) hl2).mono ?_
        rintro e w2 ⟨rfl, hb2⟩
        have HB2 : Hid (Below w.heap.size w w2) := hid (HBel.out.trans (hb2.mono hs))
        clear hb2 c0 c1 c2
        go_wp2
        go_roundw
        case rel => exact ⟨k + 1, by omega, by go_num, HB2.out, fun i hi => by by_cases h : i = k; (subst h; exact HQ.out); exact HNo.out i (by omega)⟩
        case measure => simp [intOf]; omega
    · go_wp2
      go_ret
      exact ⟨HBel.out, .inr ⟨rfl, fun i hi => HNo.out i (by omega)⟩⟩

/-- the first n as a list -/
def toL (f : Nat → Bk) (n : Nat) : List Bk := (List.range n).map f
theorem toL_succ (f : Nat → Bk) (n : Nat) : toL f (n + 1) = toL f n ++ [f n] := by simp [toL, List.range_succ]
theorem toL_len (f : Nat → Bk) (n : Nat) : (toL f n).length = n := by simp [toL]
theorem toL_congr {f f' : Nat → Bk} {n : Nat} (h : ∀ i, i < n → f i = f' i) : toL f n = toL f' n := by
  unfold toL
  exact List.map_congr_left fun i hi => h i (List.mem_range.1 hi)
def stays (lim : Int) (l : List Bk) : List Bk := l.filter fun b => !decide (b.at_ < lim)
theorem stays_all {lim : Int} {f : Nat → Bk} {n : Nat} (h : ∀ i, i < n → lim ≤ (f i).at_) : stays lim (toL f n) = toL f n := by
  unfold stays toL
  rw [List.filter_eq_self]
  intro b hb
  obtain ⟨i, hi, rfl⟩ := List.mem_map.1 hb
  have := h i (List.mem_range.1 hi)
  simpa using this
theorem stays_yes {lim : Int} {f : Nat → Bk} {n : Nat} (h : lim ≤ (f n).at_) : stays lim (toL f (n + 1)) = stays lim (toL f n) ++ [f n] := by
  rw [toL_succ]; unfold stays; rw [List.filter_append]; congr 1; rw [List.filter_cons, if_pos (by simpa using h)]; rfl
theorem stays_no {lim : Int} {f : Nat → Bk} {n : Nat} (h : (f n).at_ < lim) : stays lim (toL f (n + 1)) = stays lim (toL f n) := by
  rw [toL_succ]; unfold stays; rw [List.filter_append, List.filter_cons, if_neg (by simpa using h)]; simp

def zs (n : Nat) : List Value := (Builtin.zeroCells #[Value.int .i64 0, .int .i64 0, .map none] n).toList
theorem zs_len (n : Nat) : (zs n).length = n * 3 := by
  unfold zs
  rw [Array.length_toList, size_zeroCells]
  rfl
theorem zs_one (n : Nat) : ∀ v ∈ zs n, v.oneCell' = true := by
  intro v hv
  unfold zs at hv
  simp [Builtin.zeroCells] at hv
  obtain ⟨i, hi, rfl⟩ := hv
  have : i % 3 < 3 := Nat.mod_lt _ (by omega)
  generalize i % 3 = r at *
  match r, this with
  | 0, _ => rfl
  | 1, _ => rfl
  | 2, _ => rfl

theorem run_clear3 (w : World) (ty : TypeId) (g o n c : Nat) (hn : 0 < n) (hc : ∀ j, j < n * 3 → (w.cell? ⟨g, o + j, none⟩).isSome = true) (hf : ∀ j, j < n * 3 → w.frozen? ⟨g, o + j, none⟩ = false) :
    (Builtin.clear_ #[115] ty #[.slice (some ⟨g, o, none⟩) n c]).run Tryz.prog w = .ok (.tuple #[]) (w.setCells g o (zs n)) := by
  have hzv : ∀ w, (zeroValue 132).run Tryz.prog w = .ok (.agg #[.int .i64 0, .int .i64 0, .map none]) w := fun _ => by kernel_rfl
  have hz : (Value.agg #[.int .i64 0, .int .i64 0, .map none]).cells = #[.int .i64 0, .int .i64 0, .map none] := rfl
  have hst := run_storeCells_cells (P := Tryz.prog) g o (zs n) 0 w (by rw [zs_len]; simpa using hc) (by rw [zs_len]; simpa using hf) (zs_one n)
  simp only [Nat.add_zero] at hst
  unfold zs at *
  obtain ⟨m, rfl⟩ : ∃ m, n = m + 1 := ⟨n - 1, by omega⟩
  simp [Builtin.clear_, run_underlying Tryz.underlying115, hzv, hz, hst]

def DelPost (g cap n : Nat) (f : Nat → Bk) (lim : Int) (w : World) (e : Ending) (w' : World) : Prop :=
  ∃ (m : Nat) (f' : Nat → Bk), e = .returned (.slice (some ⟨g, 0, none⟩) m cap) ∧ toL f' m = stays lim (toL f n) ∧ IsBk w' g cap m f' ∧ Keeps g w w'

set_option maxRecDepth 100000 in
set_option maxHeartbeats 2000000 in
theorem deleteBk (g cap n F : Nat) (f : Nat → Bk) (lim : Int) (w : World) (hn : n ≤ 9223372036854775807) (hcap : cap ≤ 9223372036854775807) (hF : F < w.heap.size) (hFg : F ≠ g) (hl : w.cell? ⟨F, 0, none⟩ = some (.int .i64 lim)) (HB : Hid (IsBk w g cap n f)) :
    Calls Tryz.prog 136 #[.slice (some ⟨g, 0, none⟩) n cap, .func (Fn.func 137) #[] #[.pointer (some ⟨F, 0, none⟩)]] w (DelPost g cap n f lim w) := by
  have HL := hid hl
  have HG := HB.out.lt
  have hncap := HB.out.le.1
  go_enter Tryz.func136, Tryz.ntmps136
  go_wp2_with fail
  refine (indexBk g cap n cap F f lim _ hn hF hl HB).mono ?_
  rintro e w1 ⟨hb1, ⟨k0, hk0, rfl, hyes, hno⟩ | ⟨rfl, hno⟩⟩
  · have HB1 := hid hb1
    have HYes := hid hyes
    have HNo := hid hno
    clear hb1 hyes hno hl
    have hkm : ((k0 : Int) == -1) = false := by simp
    go_wp2
    go_loopw [5, 6] (fun i j wr => ∃ (ii jj : Nat) (f' : Nat → Bk), i = .int .i64 ii ∧ j = .int .i64 jj ∧ ii < jj ∧ jj ≤ n ∧ IsBk wr g cap n f' ∧ toL f' ii = stays lim (toL f jj) ∧ (∀ k, jj ≤ k → k < n → f' k = f k) ∧ Keeps g w wr) (fun _ j _ => n - (intOf j).toNat)
    case atStart =>
      refine ⟨k0, k0 + 1, f, rfl, by go_num, by omega, by omega, HB.out.below HB1.out HG, ?_, fun _ _ _ => rfl, Keeps.belowOf HB1.out⟩
      rw [stays_no HYes.out, stays_all HNo.out]
    case round =>
      obtain ⟨ii, jj, f', rfl, rfl, hij, hjn, hbk, hst, hrest, hkeep⟩ := hrel
      have HBk := hid hbk
      have HSt := hid hst
      have HRest := hid hrest
      have HK := hid hkeep
      have hsz := hkeep.size
      have hFr : F < wr.heap.size := by omega
      have hl2 : wr.cell? ⟨F, 0, none⟩ = some (.int .i64 lim) := (hkeep.cell 0 hF hFg).trans HL.out
      clear hst hrest hkeep HYes HNo HB1
      by_cases hlt : jj < n
      · have hff := HRest.out jj (Nat.le_refl _) hlt
        obtain ⟨c0, c1, c2⟩ := hbk.at3 jj hlt
        rw [hff] at c0 c1 c2
        have HFF := hid hff
        clear hff hbk
        by_cases hq : (f jj).at_ < lim
        · have HQ := hid hq
          have hd : decide ((f jj).at_ < lim) = true := by simpa using hq
          clear hq
          go_wp2_with fail
          refine (forget1_any _ _ lim _ F _ (by simp; omega) (by go_cell)).mono ?_
          rintro e w2 ⟨rfl, hb2⟩
          have hs2 := hb2.size
          have hbw : Below wr.heap.size wr w2 := ((Below.refl _ _).alloc (Nat.le_refl _) _).trans (hb2.mono (by simp))
          have HBk2 := hid (HBk.out.below hbw (HBk.out.lt))
          have HK2 := hid (HK.out.trans (Keeps.belowOf hbw))
          clear hb2 hbw c0 c1 c2
          go_wp2
          go_roundw
          case rel => exact ⟨ii, jj + 1, f', rfl, by go_num, by omega, by omega, HBk2.out, by rw [stays_no HQ.out]; exact HSt.out, fun k h1 h2 => HRest.out k (by omega) h2, HK2.out⟩
          case measure => simp [intOf]; omega
        · have HQ : Hid (lim ≤ (f jj).at_) := hid (by omega)
          have hd : decide ((f jj).at_ < lim) = false := by simpa using hq
          clear hq
          go_wp2_with fail
          refine (forget1_any _ _ lim _ F _ (by simp; omega) (by go_cell)).mono ?_
          rintro e w2 ⟨rfl, hb2⟩
          obtain ⟨hc2, hf2⟩ := bcell hb2
          have d0 : w2.cell? ⟨wr.heap.size, 0, none⟩ = some (.int .i64 (f jj).at_) := by rw [hc2 _ _ (by simp)]; go_cell
          have d1 : w2.cell? ⟨wr.heap.size, 1, none⟩ = some (.int .i64 (f jj).tot) := by rw [hc2 _ _ (by simp)]; go_cell
          have d2 : w2.cell? ⟨wr.heap.size, 2, none⟩ = some (.map (some (f jj).mp)) := by rw [hc2 _ _ (by simp)]; go_cell
          have hbw : Below wr.heap.size wr w2 := ((Below.refl _ _).alloc (Nat.le_refl _) _).trans (hb2.mono (by simp))
          have hbk2 := HBk.out.below hbw (HBk.out.lt)
          have HK2 := hid (HK.out.trans (Keeps.belowOf hbw))
          obtain ⟨e0, e1, e2⟩ := hbk2.at3 ii (by omega)
          have z0 := hbk2.frozen (ii * 3)
          have z1 := hbk2.frozen (ii * 3 + 1)
          have z2 := hbk2.frozen (ii * 3 + 2)
          have HBk2 := hid hbk2
          clear hb2 hbw hc2 hf2 c0 c1 c2 hbk2
          go_wp2_with fail
          refine ⟨⟨ii + 1, jj + 1, fun k => if k = ii then f jj else f' k, by go_num, by go_num, by omega, by omega, HBk2.out.put3 ii (by omega) (f jj), ?_, ?_, Keeps.put3 HK2.out _ _⟩, by simp [intOf]; omega⟩
          · rw [stays_yes HQ.out, ← HSt.out, toL_succ, if_pos rfl]
            congr 1
            exact toL_congr fun i hi => if_neg (by omega)
          · intro k h1 h2
            dsimp only
            rw [if_neg (by omega)]
            exact HRest.out k (by omega) h2
      · obtain rfl : jj = n := by omega
        clear HRest
        have hcl : ∀ ty, (Builtin.clear_ #[115] ty #[.slice (some ⟨g, ii * 3, none⟩) (jj - ii) (cap - ii)]).run Tryz.prog wr = .ok (.tuple #[]) (wr.setCells g (ii * 3) (zs (jj - ii))) :=
          fun ty => run_clear3 wr ty g (ii * 3) (jj - ii) (cap - ii) (by omega) (fun j hj => hbk.there _ (by omega)) (fun j hj => hbk.frozen _)
        clear hbk
        go_wp2
        go_ret
        exact ⟨ii, f', rfl, HSt.out, (HBk.out.less (by omega)).sets_past _ _ _ (Nat.le_refl _), Keeps.sets _ _ _ HK.out⟩
  · have HB1 := hid hb1
    have HNo := hid hno
    clear hb1 hno hl
    go_wp2
    go_ret
    exact ⟨n, f, rfl, (stays_all HNo.out).symm, HB.out.below HB1.out HG, Keeps.belowOf HB1.out⟩

end Go.Proofs.YtbihelpnojjacaaGreat.SkE

/- The places of a key. -/
namespace Go.Proofs.YtbihelpnojjacaaGreat.SkF
open Go.ChangeShapes Go.WideShapes Go.ChangeAt Go.RowKit Base Wri WldA SkA SkB SkD

/-- block g is a row of places: one a row, the columns are told by f; the first k are there -/
def Pl (w : World) (g n k : Nat) (f : Nat → Nat) : Prop :=
  ∃ cur, w.heap[g]? = some (.cells cur 135) ∧ cur.size = n * 2 ∧ ∀ i, i < k → cur[i * 2]? = some (.int .i64 i) ∧ cur[i * 2 + 1]? = some (.int .i64 (f i))
theorem Pl.of_block {w w' : World} {g n k : Nat} {f : Nat → Nat} (h : Pl w g n k f) (e : w'.heap[g]? = w.heap[g]?) : Pl w' g n k f := by
  obtain ⟨cur, h1, h2⟩ := h
  exact ⟨cur, e.trans h1, h2⟩
theorem Pl.put {w : World} {g n k : Nat} {f : Nat → Nat} (h : Pl w g n k f) (hk : k < n) : Pl ((w.setCell ⟨g, k * 2, none⟩ (.int .i64 k)).setCell ⟨g, k * 2 + 1, none⟩ (.int .i64 (f k))) g n (k + 1) f := by
  obtain ⟨cur, h1, h2, h3⟩ := h
  refine ⟨(cur.setIfInBounds (k * 2) (.int .i64 k)).setIfInBounds (k * 2 + 1) (.int .i64 (f k)), heap_setCell_same _ _ _ _ _ _ (heap_setCell_same _ _ _ _ _ _ h1), by simpa using h2, fun i hi => ?_⟩
  by_cases e : i = k
  · subst e
    constructor
    · rw [Array.getElem?_setIfInBounds_ne (by omega)]; simp [Array.getElem?_setIfInBounds]; omega
    · simp [Array.getElem?_setIfInBounds]; omega
  · have n0 : k * 2 ≠ i * 2 := by omega
    have n1 : k * 2 + 1 ≠ i * 2 := by omega
    have n2 : k * 2 ≠ i * 2 + 1 := by omega
    have n3 : k * 2 + 1 ≠ i * 2 + 1 := by omega
    rw [Array.getElem?_setIfInBounds_ne n1, Array.getElem?_setIfInBounds_ne n0, Array.getElem?_setIfInBounds_ne n3, Array.getElem?_setIfInBounds_ne n2]
    exact h3 i (by omega)
theorem Pl.there {w : World} {g n k : Nat} {f : Nat → Nat} (h : Pl w g n k f) (o : Nat) (ho : o < n * 2) : ∃ u, w.cell? ⟨g, o, none⟩ = some u := by
  obtain ⟨cur, h1, h2, _⟩ := h
  exact ⟨cur[o]'(by omega), by simp [World.cell?, h1]⟩
theorem Pl.frozen {w : World} {g n k : Nat} {f : Nat → Nat} (h : Pl w g n k f) (o : Nat) : w.frozen? ⟨g, o, none⟩ = false := by
  obtain ⟨cur, h1, _⟩ := h
  simp [World.frozen?, h1]
theorem Pl.cells {w : World} {g n k : Nat} {f : Nat → Nat} (h : Pl w g n k f) (i : Nat) (hi : i < k) : w.cell? ⟨g, i * 2, none⟩ = some (.int .i64 i) ∧ w.cell? ⟨g, i * 2 + 1, none⟩ = some (.int .i64 (f i)) := by
  obtain ⟨cur, h1, _, h3⟩ := h
  obtain ⟨q1, q2⟩ := h3 i hi
  exact ⟨by simp [World.cell?, h1, q1], by simp [World.cell?, h1, q2]⟩
theorem Pl.lt {w : World} {g n k : Nat} {f : Nat → Nat} (h : Pl w g n k f) : g < w.heap.size := by
  obtain ⟨cur, h1, _⟩ := h
  exact (Array.getElem?_eq_some_iff.1 h1).1

theorem infoPl : (Tryz.prog.info? 135).map (fun i => (i.zero, i.size, i.bytes)) = some (some (.agg #[.int .i64 0, .int .i64 0]), 2, 16) := by kernel_rfl

theorem pl_made {w : World} {B g n : Nat} {xs : List Value} {f : Nat → Nat} (h : w.ownsRow B 135 2 (.slice (some ⟨g, 0, none⟩) n n) n xs) : Pl w g n 0 f := by
  rcases h.2 with ⟨h0, _⟩ | ⟨g2, cap, cur, hv, _, hh, _, _, hs, _⟩
  · cases h0
  · cases hv
    exact ⟨cur, hh, hs, fun i hi => by omega⟩

def baseN (s : ByteArray) (seed : Nat) : Nat := (hashN s + seed) % 18446744073709551616
def argN (b r : Nat) : Nat := (b + 11400714819323198485 * (r + 1)) % 18446744073709551616
/-- the column of a key in a row -/
def colN (seed cols r : Nat) (s : ByteArray) : Nat := mixN (argN (baseN s seed) r) % cols

theorem arg_core (C b k : Nat) : IntKind.u64.wrap ((b : Int) + IntKind.u64.wrap ((C : Int) * ((k : Int) + 1))) = (((b + C * (k + 1)) % 18446744073709551616 : Nat) : Int) := by
  rw [IntKind.wrap_u64, IntKind.wrap_u64, Int.natCast_emod, Int.natCast_add, Int.natCast_mul, Int.natCast_add, Int.add_emod_emod]
  rfl
theorem arg_eq (b k : Nat) : IntKind.u64.wrap ((b : Int) + IntKind.u64.wrap (11400714819323198485 * ((k : Int) + 1))) = (argN b k : Nat) := arg_core 11400714819323198485 b k
theorem arg_lt (b k : Nat) : argN b k < 18446744073709551616 := Nat.mod_lt _ (by decide)
theorem base_eq (s : ByteArray) (seed : Nat) : IntKind.u64.wrap ((hashN s : Int) + (seed : Int)) = (baseN s seed : Nat) := by
  unfold baseN
  rw [IntKind.wrap_u64, Int.natCast_emod]
  rfl

set_option maxRecDepth 20000 in
set_option maxHeartbeats 1000000 in
theorem places_any (p : Nat) (seed rows cols : Nat) (s : ByteArray) (w : World) (hs : s.size ≤ maxLen) (hr : 1 ≤ rows ∧ rows ≤ 8) (hc : 1 ≤ cols ∧ cols ≤ 4096)
    (c2 : w.cell? ⟨p, 2, none⟩ = some (.int .i64 rows)) (c3 : w.cell? ⟨p, 3, none⟩ = some (.int .i64 cols)) (c4 : w.cell? ⟨p, 4, none⟩ = some (.int .u64 seed)) :
    Calls Tryz.prog 107 #[.pointer (some ⟨p, 0, none⟩), .string s] w fun e w' => ∃ g, e = .returned (.slice (some ⟨g, 0, none⟩) rows rows) ∧ w.heap.size ≤ g ∧ Pl w' g rows rows (fun r => colN seed cols r s) ∧ Below w.heap.size w w' := by
  obtain ⟨i0, hi, hz0, hz1, hz2⟩ := info_parts infoPl
  have HH := hid (hash_any s w.drew hs)
  have HBa := hid (base_eq s seed)
  have hp := World.block_lt_of_cell? _ _ c2
  go_enter Tryz.func107, Tryz.ntmps107
  go_wp2_with fail
  go_region_held3 (fun w' => w'.cell? ⟨p, 4, none⟩ = some (.int .u64 seed)) (first | assumption | go_keep)
    (first | (go_at_call 138; refine HH.out.mono ?_; rintro e w3 ⟨rfl, rfl⟩))
  all_goals
    rw [HBa.out]
    clear HH HBa
    obtain ⟨b, hb⟩ : ∃ b, baseN s seed = b := ⟨_, rfl⟩
    rw [hb]
    have HCol : Hid (∀ r, colN seed cols r s = mixN (argN b r) % cols) := hid fun r => by unfold colN; rw [hb]
    clear hb
    have d2 : w.drew.cell? ⟨p, 2, none⟩ = some (.int .i64 rows) := c2
    have d3 : w.drew.cell? ⟨p, 3, none⟩ = some (.int .i64 cols) := c3
    have HBd : Hid (Below w.heap.size w w.drew) := hid (Below.refl _ w).drew
    generalize hwd : w.drew = wd at *
    have hsd : w.heap.size = wd.heap.size := by rw [← hwd]; rfl
    clear hwd
    go_wp2_with (at_make; refine wpList_make_full _ rfl _ _ 195 rfl wd.heap.size 135 i0 (.agg #[.int .i64 0, .int .i64 0]) 2 Tryz.underlying195 hi hz0 hz1 .i64 .i64 (rows : Int) (rows : Int) rows rfl rfl rfl rfl ?b2 ?b3 (Nat.le_refl _) ?_; rotate_left 2; intro w1 hown hgrow
                 have hp1 : p < wd.heap.size := by omega
                 have hbp := hgrow.block p hp1 (fun e => by cases e)
                 have f2 : w1.cell? ⟨p, 2, none⟩ = some (.int .i64 rows) := (World.cell?_of_block (a := ⟨p, 2, none⟩) hbp).trans d2
                 have f3 : w1.cell? ⟨p, 3, none⟩ = some (.int .i64 cols) := (World.cell?_of_block (a := ⟨p, 3, none⟩) hbp).trans d3
                 have HPl : Hid (Pl w1 wd.heap.size rows 0 (fun r => colN seed cols r s)) := hid (pl_made hown)
                 have HB1 : Hid (Below w.heap.size w w1) := hid (HBd.out.grown hgrow (by omega) (fun j e => by cases e))
                 clear hown hgrow hbp)
    case b2 => rw [hz2]; omega
    case b3 => unfold maxLen; omega
    have hgs := HPl.out.lt
    obtain ⟨g, hg⟩ : ∃ g, wd.heap.size = g := ⟨_, rfl⟩
    rw [hg] at HPl hgs ⊢
    have hgw : w.heap.size ≤ g := by omega
    have hpg : p ≠ g := by omega
    clear d2 d3 HBd
    go_loopw [27] (fun r wr => ∃ k : Nat, k ≤ rows ∧ r = .int .i64 k ∧ Pl wr g rows k (fun r => colN seed cols r s) ∧ Below w.heap.size w wr) (fun r _ => rows - (intOf r).toNat)
    case atStart => exact ⟨0, Nat.zero_le _, rfl, HPl.out, HB1.out⟩
    case round =>
      obtain ⟨k, hk, rfl, hpl, hB⟩ := hrel
      have HPk := hid hpl
      have HBk := hid hB
      have k2 : wr.cell? ⟨p, 2, none⟩ = some (.int .i64 rows) := (hB.cell (p := ⟨p, 2, none⟩) hp).trans c2
      have k3 : wr.cell? ⟨p, 3, none⟩ = some (.int .i64 cols) := (hB.cell (p := ⟨p, 3, none⟩) hp).trans c3
      clear hpl hB
      by_cases hlt : k < rows
      · obtain ⟨u0, hu0⟩ := HPk.out.there (k * 2) (by omega)
        obtain ⟨u1, hu1⟩ := HPk.out.there (k * 2 + 1) (by omega)
        have z0 := HPk.out.frozen (k * 2)
        have z1 := HPk.out.frozen (k * 2 + 1)
        have hgl := HPk.out.lt
        have HMx := hid (mix_look (argN b k) (arg_lt b k) wr)
        have HAr := hid (arg_eq b k)
        have HCk := hid (HCol.out k)
        go_wp2_with fail
        rw [HAr.out]
        refine HMx.out.mono ?_
        rintro e w3 ⟨rfl, rfl⟩
        clear HMx HAr
        obtain ⟨m, hm⟩ : ∃ m, mixN (argN b k) = m := ⟨_, rfl⟩
        rw [hm] at HCk ⊢
        clear hm
        have hc0 : ((cols : Int) == 0) = false := by simp; omega
        have hm1 : (0 : Int) ≤ (m : Int) % (cols : Int) := Int.emod_nonneg _ (by omega)
        have hm2 : (m : Int) % (cols : Int) < cols := Int.emod_lt_of_pos _ (by omega)
        obtain ⟨hc1, hc2⟩ := hc
        go_wp2_with fail
        go_roundw
        case rel =>
          have hput := HPk.out.put hlt
          rw [HCk.out] at hput
          exact ⟨k + 1, by omega, by go_num, hput, (HBk.out.setCell (p := ⟨g, k * 2, none⟩) hgw _).setCell (p := ⟨g, k * 2 + 1, none⟩) hgw _⟩
        case measure => simp [intOf]; omega
      · obtain rfl : k = rows := by omega
        go_wp2_with fail
        go_ret
        exact ⟨g, rfl, hgw, HPk.out, HBk.out⟩

end Go.Proofs.YtbihelpnojjacaaGreat.SkF

/- A sketch in memory; what it forgets. -/
namespace Go.Proofs.YtbihelpnojjacaaGreat.SkG
open Go.ChangeShapes Go.WideShapes Go.ChangeAt Go.RowKit Base Wri WldF WldG SkA SkB SkC SkD SkE SkF

/-- what a sketch is made of -/
structure Shp where
  wd : Nat
  bk : Nat
  ro : Nat
  co : Nat
  seed : Nat

def Holds (w : World) (go : Option Nat) (v : Value) (bs : List Bk) : Prop :=
  (go = none ∧ v = .slice none 0 0 ∧ bs = []) ∨
  ∃ g cap f, go = some g ∧ v = .slice (some ⟨g, 0, none⟩) bs.length cap ∧ IsBk w g cap bs.length f ∧ toL f bs.length = bs

def sv (X : Shp) (last : Int) (v : Value) : Array Value := #[.int .i64 X.wd, .int .i64 X.bk, .int .i64 X.ro, .int .i64 X.co, .int .u64 X.seed, .int .i64 last, v]

def IsSk (w : World) (p : Nat) (go : Option Nat) (X : Shp) (last : Int) (bs : List Bk) : Prop :=
  go ≠ some p ∧ ∃ v, w.heap[p]? = some (.cells (sv X last v) 117) ∧ Holds w go v bs

theorem Holds.of_block {w w' : World} {go : Option Nat} {v : Value} {bs : List Bk} (h : Holds w go v bs) (e : ∀ g, go = some g → w'.heap[g]? = w.heap[g]?) : Holds w' go v bs := by
  rcases h with h | ⟨g, cap, f, h1, h2, h3, h4⟩
  · exact .inl h
  · exact .inr ⟨g, cap, f, h1, h2, h3.of_block (e g h1), h4⟩
theorem Holds.lt {w : World} {go : Option Nat} {v : Value} {bs : List Bk} (h : Holds w go v bs) (g : Nat) (e : go = some g) : g < w.heap.size := by
  rcases h with ⟨h, _⟩ | ⟨g', cap, f, h1, h2, h3, h4⟩
  · rw [h] at e; cases e
  · rw [h1] at e; cases e; exact h3.lt
theorem IsSk.lt {w : World} {p : Nat} {go : Option Nat} {X : Shp} {last : Int} {bs : List Bk} (h : IsSk w p go X last bs) : p < w.heap.size := by
  obtain ⟨_, v, h1, _⟩ := h
  exact (Array.getElem?_eq_some_iff.1 h1).1
theorem IsSk.lt2 {w : World} {p : Nat} {go : Option Nat} {X : Shp} {last : Int} {bs : List Bk} (h : IsSk w p go X last bs) (g : Nat) (e : go = some g) : g < w.heap.size := by
  obtain ⟨_, v, _, h2⟩ := h
  exact h2.lt g e
theorem IsSk.keep {w w' : World} {p : Nat} {go : Option Nat} {X : Shp} {last : Int} {bs : List Bk} (h : IsSk w p go X last bs) (hk : ∀ k, (k = p ∨ go = some k) → w'.heap[k]? = w.heap[k]?) : IsSk w' p go X last bs := by
  obtain ⟨h0, v, h1, h2⟩ := h
  exact ⟨h0, v, (hk p (.inl rfl)).trans h1, h2.of_block fun g e => hk g (.inr e)⟩
theorem IsSk.below {w w' : World} {p : Nat} {go : Option Nat} {X : Shp} {last : Int} {bs : List Bk} (h : IsSk w p go X last bs) (hb : Below w.heap.size w w') : IsSk w' p go X last bs :=
  h.keep fun k hk => hb.block k (hk.elim (fun e => e ▸ h.lt) (fun e => h.lt2 k e))

theorem sv_cells {w : World} {p : Nat} {X : Shp} {last : Int} {v : Value} (h : w.heap[p]? = some (.cells (sv X last v) 117)) :
    w.cell? ⟨p, 0, none⟩ = some (.int .i64 X.wd) ∧ w.cell? ⟨p, 1, none⟩ = some (.int .i64 X.bk) ∧ w.cell? ⟨p, 2, none⟩ = some (.int .i64 X.ro) ∧ w.cell? ⟨p, 3, none⟩ = some (.int .i64 X.co) ∧
    w.cell? ⟨p, 4, none⟩ = some (.int .u64 X.seed) ∧ w.cell? ⟨p, 5, none⟩ = some (.int .i64 last) ∧ w.cell? ⟨p, 6, none⟩ = some v ∧ ∀ o, w.frozen? ⟨p, o, none⟩ = false := by
  unfold sv at h
  exact ⟨by simp [World.cell?, h], by simp [World.cell?, h], by simp [World.cell?, h], by simp [World.cell?, h], by simp [World.cell?, h], by simp [World.cell?, h], by simp [World.cell?, h], fun o => by simp [World.frozen?, h]⟩

theorem Wr.ofKeeps {b : Nat} {w w1 : World} (h : Keeps b w w1) : Wr (fun k => k = b) w w1 := Wr.ofGrown h (fun _ e => (Option.some.inj e).symm)

set_option maxHeartbeats 400000 in
theorem indexNil (F : Nat) (w : World) :
    Calls Tryz.prog 156 #[.slice none 0 0, .func (Fn.func 137) #[] #[.pointer (some ⟨F, 0, none⟩)]] w fun e w' => e = .returned (.int .i64 (-1)) ∧ w = w' := by
  go_enter Tryz.func156, Tryz.ntmps156
  go_wp2
  go_loop [8] (fun i => i = .int .i64 0) (fun _ => 0)
  case atStart => rfl
  case round =>
    obtain rfl := hrel
    go_wp2
    go_ret
    exact ⟨rfl, rfl⟩

set_option maxHeartbeats 400000 in
theorem deleteNil (F : Nat) (w : World) :
    Calls Tryz.prog 136 #[.slice none 0 0, .func (Fn.func 137) #[] #[.pointer (some ⟨F, 0, none⟩)]] w fun e w' => e = .returned (.slice none 0 0) ∧ w = w' := by
  go_enter Tryz.func136, Tryz.ntmps136
  go_wp2_with fail
  refine (indexNil F _).mono ?_
  rintro e w1 ⟨rfl, rfl⟩
  go_wp2
  go_ret
  exact ⟨rfl, rfl⟩

theorem delete_any (F : Nat) (go : Option Nat) (v : Value) (bs : List Bk) (lim : Int) (w : World) (h : Holds w go v bs) (hn : bs.length ≤ 9223372036854775807) (hF : F < w.heap.size) (hFg : go ≠ some F) (hl : w.cell? ⟨F, 0, none⟩ = some (.int .i64 lim)) :
    Calls Tryz.prog 136 #[v, .func (Fn.func 137) #[] #[.pointer (some ⟨F, 0, none⟩)]] w
      fun e w' => ∃ a n c, e = .returned (.slice a n c) ∧ Holds w' go (.slice a n c) (stays lim bs) ∧ Wr (fun k => go = some k) w w' := by
  rcases h with ⟨rfl, rfl, rfl⟩ | ⟨g, cap, f, rfl, rfl, hb, hf⟩
  · refine (deleteNil F w).mono ?_
    rintro e w' ⟨rfl, rfl⟩
    exact ⟨_, _, _, rfl, .inl ⟨rfl, rfl, rfl⟩, Wr.refl _ _⟩
  · have hc := hb.le
    unfold maxLen at hc
    refine (deleteBk g cap bs.length F f lim w hn (by omega) hF (fun e => hFg (by rw [e])) hl (hid hb)).mono ?_
    rintro e w' ⟨m, f', rfl, hst, hb', hk⟩
    have hlen : m = (stays lim bs).length := by rw [← hf, ← hst, toL_len]
    refine ⟨_, _, _, rfl, .inr ⟨g, cap, f', rfl, by rw [← hlen], by rw [← hlen]; exact hb', by rw [← hlen, hst, hf]⟩, (Wr.ofKeeps hk).mono fun k e => by rw [e]⟩

set_option maxRecDepth 20000 in
set_option maxHeartbeats 1000000 in
theorem forget_any (p : Nat) (go : Option Nat) (X : Shp) (last : Int) (bs : List Bk) (lim : Int) (w : World) (h : IsSk w p go X last bs) (hn : bs.length ≤ 9223372036854775807) :
    Calls Tryz.prog 101 #[.pointer (some ⟨p, 0, none⟩), .int .i64 lim] w
      fun e w' => e = .returned (.tuple #[]) ∧ IsSk w' p go X last (stays lim bs) ∧ Wr (fun k => k = p ∨ go = some k) w w' := by
  have hp := h.lt
  have HG2 := hid h.lt2
  have HW := hid h
  obtain ⟨_, v, h1, hv⟩ := h
  obtain ⟨-, -, -, -, -, -, c6, hfz⟩ := sv_cells h1
  have f6 := hfz 6
  have HV := hid hv
  have HBl := hid h1
  clear h1 hv hfz
  go_enter Tryz.func101, Tryz.ntmps101
  go_wp2_with fail
  refine (delete_any w.heap.size go v bs lim _ (HV.out.of_block fun g e => Below.heap_alloc _ _ _ (HG2.out g e)) hn (by simp) (fun e => by have := HG2.out _ e; omega) (by simp)).mono ?_
  rintro e w1 ⟨va, vn, vc, rfl, hv', hl⟩
  have hl2 : Wr (fun k => go = some k) w w1 := (Wr.ofBelow ((Below.refl _ w).alloc (Nat.le_refl _) _)).trans hl
  have hpg : ¬ go = some p := HW.out.1
  have hb : w1.heap[p]? = w.heap[p]? := hl2.block p hp hpg
  have k6 : w1.cell? ⟨p, 6, none⟩ = some v := (World.cell?_of_block (a := ⟨p, 6, none⟩) hb).trans c6
  have g6 : w1.frozen? ⟨p, 6, none⟩ = false := (World.frozen?_of_block (a := ⟨p, 6, none⟩) hb).trans f6
  have HL2 := hid hl2
  have HV' := hid hv'
  have HBk := hid (hb.trans HBl.out)
  clear hl hl2 hv' hb c6 f6
  go_wp2
  go_end0
  refine ⟨rfl, ⟨HW.out.1, .slice va vn vc, ?_, HV'.out.of_block fun g e => heap_setCell_other _ _ _ _ (fun e2 => HW.out.1 (by rw [e, e2]))⟩, (HL2.out.mono fun k e => .inr e).trans (Wr.set ⟨p, 6, none⟩ _ (.inl rfl))⟩
  exact heap_setCell_same _ _ _ _ _ _ HBk.out

end Go.Proofs.YtbihelpnojjacaaGreat.SkG

/- A sketch's bucket of a time: the last one, or a new one. -/
namespace Go.Proofs.YtbihelpnojjacaaGreat.SkH
open Go.ChangeShapes Go.WideShapes Go.ChangeAt Go.RowKit Base Wri WldF WldG SkA SkB SkC SkD SkE SkF SkG

theorem infoBk : (Tryz.prog.info? 132).map (fun i => (i.zero, i.size, i.bytes)) = some (some (.agg #[.int .i64 0, .int .i64 0, .map none]), 3, 24) := by kernel_rfl

/-- the row's cells, one behind the other -/
def flat (f : Nat → Bk) (n : Nat) : List Value := (toL f n).flatMap bv

theorem flat_succ (f : Nat → Bk) (n : Nat) : flat f (n + 1) = flat f n ++ bv (f n) := by unfold flat; rw [toL_succ, List.flatMap_append]; simp
theorem flat_len (f : Nat → Bk) (n : Nat) : (flat f n).length = n * 3 := by
  induction n with
  | zero => rfl
  | succ n ih => rw [flat_succ, List.length_append, ih]; simp [bv]; omega
theorem flat_get (f : Nat → Bk) (n i j : Nat) (hi : i < n) (hj : j < 3) : (flat f n)[i * 3 + j]? = (bv (f i))[j]? := by
  induction n with
  | zero => omega
  | succ n ih =>
    rw [flat_succ]
    by_cases h : i < n
    · rw [List.getElem?_append_left (by rw [flat_len]; omega)]; exact ih h
    · obtain rfl : i = n := by omega
      rw [List.getElem?_append_right (by rw [flat_len]; omega), flat_len]
      congr 1
      omega

theorem own_of_bk {w : World} {g cap n : Nat} {f : Nat → Bk} (h : IsBk w g cap n f) : w.ownsRow 0 132 3 (.slice (some ⟨g, 0, none⟩) n cap) n (flat f n) := by
  obtain ⟨cur, h1, h2, h3, h4, h5⟩ := h
  refine ⟨flat_len f n, .inr ⟨g, cap, cur, rfl, Nat.zero_le _, h1, h3, h4, h2, ?_⟩⟩
  apply List.ext_getElem?
  intro k
  by_cases hk : k < n * 3
  · have e : k = k / 3 * 3 + k % 3 := by omega
    rw [List.getElem?_take, if_pos hk, Array.getElem?_toList, e, flat_get f n (k / 3) (k % 3) (by omega) (by omega)]
    exact h5 (k / 3) (by omega) (k % 3) (by omega)
  · rw [List.getElem?_take, if_neg hk, List.getElem?_eq_none (by rw [flat_len]; omega)]

theorem bk_of_own {w : World} {base n : Nat} {v : Value} {f : Nat → Bk} (h : w.ownsRow base 132 3 v n (flat f n)) (hn : 0 < n) : ∃ g cap, v = .slice (some ⟨g, 0, none⟩) n cap ∧ IsBk w g cap n f := by
  obtain ⟨hl, h⟩ := h
  rcases h with ⟨_, h0⟩ | ⟨g, cap, cur, hv, hg, hh, hc, hm, hs, hcur⟩
  · omega
  · refine ⟨g, cap, hv, cur, hh, hs, hc, hm, fun i hi j hj => ?_⟩
    have h1 : (cur.toList.take (n * 3))[i * 3 + j]? = (flat f n)[i * 3 + j]? := by rw [hcur]
    rw [List.getElem?_take, if_pos (by omega), flat_get f n i j hi hj, Array.getElem?_toList] at h1
    exact h1

theorem flat_snoc (f : Nat → Bk) (n : Nat) (b : Bk) : flat f n ++ bv b = flat (fun k => if k = n then b else f k) (n + 1) := by
  rw [flat_succ, if_pos rfl]
  congr 1
  unfold flat
  rw [toL_congr fun i hi => ?_]
  rw [if_neg (by omega)]

theorem bk_of_own' {w : World} {base n : Nat} {v : Value} {f : Nat → Bk} {xs : List Value} (h : w.ownsRow base 132 3 v n xs) (hn : 0 < n) (e : xs = flat f n) : ∃ g cap, v = .slice (some ⟨g, 0, none⟩) n cap ∧ IsBk w g cap n f := by
  subst e; exact bk_of_own h hn

/-- a bucket of nothing is put behind the others, with a map of its own -/
def NewPost (p : Nat) (go : Option Nat) (X : Shp) (last : Int) (b : Int) (n : Nat) (f : Nat → Bk) (w : World) (e : Ending) (w' : World) : Prop :=
  ∃ g cap, e = .returned (.pointer (some ⟨g, n * 3, none⟩)) ∧ IsBk w' g cap (n + 1) (fun k => if k = n then ⟨b, 0, w.heap.size⟩ else f k) ∧
    w'.heap[p]? = some (.cells (sv X last (.slice (some ⟨g, 0, none⟩) (n + 1) cap)) 117) ∧ w'.heap[w.heap.size]? = some (.map #[] 0) ∧
    g ≠ p ∧ g ≠ w.heap.size ∧ (go = some g ∨ w.heap.size ≤ g) ∧ Wr (fun k => k = p ∨ go = some k) w w'

set_option maxRecDepth 20000 in
set_option maxHeartbeats 1000000 in
theorem bucket_nil (p : Nat) (a : Option Addr) (cap0 : Nat) (go : Option Nat) (X : Shp) (last : Int) (b : Int) (f : Nat → Bk) (w : World)
    (hw : w.heap[p]? = some (.cells (sv X last (Value.slice a 0 cap0)) 117)) (hgo : go ≠ some p) (hgl : ∀ g, go = some g → g < w.heap.size)
    (HO : Hid (w.ownsRow 0 132 3 (Value.slice a 0 cap0) 0 (flat f 0))) (HE : Hid ((Value.slice a 0 cap0).ownBlock = go)) :
    Calls Tryz.prog 104 #[.pointer (some ⟨p, 0, none⟩), .int .i64 b] w (NewPost p go X last b 0 f w) := by
  obtain ⟨i0, hi, hz0, hz1, hz2⟩ := info_parts infoBk
  have HWp := hid hw
  have HGo := hid hgo
  have HGl := hid hgl
  have hp : p < w.heap.size := (Array.getElem?_eq_some_iff.1 hw).1
  obtain ⟨-, -, -, -, -, -, c6, hfz⟩ := sv_cells hw
  have f6 := hfz 6
  have hown := hid (World.ownsRow.alloc (World.ownsRow.alloc HO.out (.map #[] 0)) (.cells #[.int .i64 b, .int .i64 0, .map (some w.heap.size)] 132))
  have hmp : Hid (w.heap.size < ((w.alloc (.map #[] 0)).alloc (.cells #[.int .i64 b, .int .i64 0, .map (some w.heap.size)] 132)).heap.size) := hid (by simp; omega)
  have hmm : Hid (((w.alloc (.map #[] 0)).alloc (.cells #[.int .i64 b, .int .i64 0, .map (some w.heap.size)] 132)).heap[w.heap.size]? = some (.map #[] 0)) := hid ((Below.heap_alloc _ _ _ (by simp)).trans (heap_alloc_new w _))
  have hmk : (Instr.makeMap 130 none).run Tryz.prog w = .ok (.map (some w.heap.size)) (w.alloc (.map #[] 0)) := run_makeMap _ _
  clear hw hgo hgl hfz
  go_enter Tryz.func104, Tryz.ntmps104
  go_wp2_with (at_builtin; refine wpList_append_own_at _ rfl _ _ 115 rfl 0 132 i0 (.agg #[.int .i64 0, .int .i64 0, .map none]) 3 24 Tryz.underlying115 hi hz0 hz1 hz2 rfl (by decide) (Value.slice a 0 cap0) _ _ rfl hown.out ⟨w.heap.size + 1, 0, none⟩ 1 1 [.int .i64 b, .int .i64 0, .map (some w.heap.size)] rfl ?c1 ?c2 ?c3 ?c4 ?c5 (Nat.zero_le _) ?_; rotate_left 5; intro v' w2 hown1 hgrow hnil hat
               obtain ⟨g, cap, rfl, hbk⟩ := bk_of_own' (f := fun k => if k = 0 then ⟨b, 0, w.heap.size⟩ else f k) hown1 (by omega) (flat_snoc f 0 ⟨b, 0, w.heap.size⟩)
               have HBK := hid hbk
               have HGR := hid hgrow
               have HAT := hid hat
               clear hown1 hgrow hnil hat hbk
               have hpb : w2.heap[p]? = w.heap[p]? := (HGR.out.block p (by simp; omega) (fun e => HGo.out (HE.out.symm.trans e.symm))).trans ((Below.heap_alloc _ _ _ (by simp; omega)).trans (Below.heap_alloc _ _ _ hp))
               have m6 : w2.cell? ⟨p, 6, none⟩ = some (Value.slice a 0 cap0) := (World.cell?_of_block (a := ⟨p, 6, none⟩) hpb).trans c6
               have n6 : w2.frozen? ⟨p, 6, none⟩ = false := (World.frozen?_of_block (a := ⟨p, 6, none⟩) hpb).trans f6
               have hw2 := hid hpb
               have hmw : Hid (w2.heap[w.heap.size]? = some (.map #[] 0)) := hid ((HGR.out.block w.heap.size hmp.out (fun e => by have := HGl.out w.heap.size (HE.out.symm.trans e.symm); omega)).trans hmm.out)
               clear hpb c6 f6)
  case c1 => rfl
  case c2 =>
    intro j u hj
    rw [Go.WideShapes.add_plain, Nat.zero_add]
    have := World.cell?_alloc_new (w.alloc (.map #[] 0)) (#[.int .i64 b, .int .i64 0, .map (some w.heap.size)] : Array Value) 132 j
    rw [World.size_alloc] at this
    exact this.trans (by simpa using hj)
  case c3 => intro u hu; simp at hu; rcases hu with rfl | rfl | rfl <;> rfl
  case c4 => unfold maxLen; omega
  case c5 => omega
  have hgp : g ≠ p := by
    rcases HAT.out with e | e
    · intro e2; subst e2; exact HGo.out (HE.out.symm.trans e.symm)
    · have e2 : g = ((w.alloc (.map #[] 0)).alloc (.cells #[.int .i64 b, .int .i64 0, .map (some w.heap.size)] 132)).heap.size := Option.some.inj e
      simp at e2
      omega
  have hgm : g ≠ w.heap.size := by
    rcases HAT.out with e | e
    · intro e2; have := HGl.out g (HE.out.symm.trans e.symm); omega
    · have e2 : g = ((w.alloc (.map #[] 0)).alloc (.cells #[.int .i64 b, .int .i64 0, .map (some w.heap.size)] 132)).heap.size := Option.some.inj e
      simp at e2
      omega
  have m6' : (w2.setCell ⟨p, 6, none⟩ (.slice (some ⟨g, 0, none⟩) (0 + 1) cap)).cell? ⟨p, 6, none⟩ = some (.slice (some ⟨g, 0, none⟩) (0 + 1) cap) := World.cell?_setCell_same _ _ _ m6
  have HM6 := hid (heap_setCell_same w2 p 6 _ _ (.slice (some ⟨g, 0, none⟩) (0 + 1) cap) (hw2.out.trans HWp.out))
  go_quiet (fail)
  go_wp2_with fail
  go_ret
  refine ⟨g, cap, rfl, HBK.out.of_block (heap_setCell_other _ _ _ _ (by simp; exact hgp)), HM6.out, (heap_setCell_other _ _ _ _ (by simp; omega)).trans hmw.out, hgp, hgm, ?_, ?_⟩
  · rcases HAT.out with e | e
    · exact .inl (HE.out.symm.trans e.symm)
    · right
      have e2 : g = ((w.alloc (.map #[] 0)).alloc (.cells #[.int .i64 b, .int .i64 0, .map (some w.heap.size)] 132)).heap.size := Option.some.inj e
      simp at e2
      omega
  · refine Wr.drewN (Wr.trans ?_ (Wr.set ⟨p, 6, none⟩ _ (.inl rfl))) _
    exact (Wr.ofBelow (((Below.refl _ w).alloc (Nat.le_refl _) _).alloc (by simp) _)).trans (Wr.ofGrown HGR.out (fun k e => .inr (HE.out.symm.trans e)))

set_option maxRecDepth 20000 in
set_option maxHeartbeats 1000000 in
theorem bucket_new (p : Nat) (g0 n : Nat) (x : Int) (cap0 : Nat) (go : Option Nat) (X : Shp) (last : Int) (b : Int) (f : Nat → Bk) (w : World)
    (hw : w.heap[p]? = some (.cells (sv X last (Value.slice (some ⟨g0, 0, none⟩) n cap0)) 117)) (hgo : go ≠ some p) (hgl : ∀ g, go = some g → g < w.heap.size)
    (HO : Hid (w.ownsRow 0 132 3 (Value.slice (some ⟨g0, 0, none⟩) n cap0) n (flat f n))) (HE : Hid ((Value.slice (some ⟨g0, 0, none⟩) n cap0).ownBlock = go)) (hn : 0 < n) (hn2 : n ≤ 1000) (hlast : w.cell? ⟨g0, (n - 1) * 3, none⟩ = some (.int .i64 x)) (hne : x ≠ b) :
    Calls Tryz.prog 104 #[.pointer (some ⟨p, 0, none⟩), .int .i64 b] w (NewPost p go X last b n f w) := by
  obtain ⟨i0, hi, hz0, hz1, hz2⟩ := info_parts infoBk
  have HWp := hid hw
  have HGo := hid hgo
  have HGl := hid hgl
  have hp : p < w.heap.size := (Array.getElem?_eq_some_iff.1 hw).1
  obtain ⟨-, -, -, -, -, -, c6, hfz⟩ := sv_cells hw
  have f6 := hfz 6
  have hown := hid (World.ownsRow.alloc (World.ownsRow.alloc HO.out (.map #[] 0)) (.cells #[.int .i64 b, .int .i64 0, .map (some w.heap.size)] 132))
  have hmp : Hid (w.heap.size < ((w.alloc (.map #[] 0)).alloc (.cells #[.int .i64 b, .int .i64 0, .map (some w.heap.size)] 132)).heap.size) := hid (by simp; omega)
  have hmm : Hid (((w.alloc (.map #[] 0)).alloc (.cells #[.int .i64 b, .int .i64 0, .map (some w.heap.size)] 132)).heap[w.heap.size]? = some (.map #[] 0)) := hid ((Below.heap_alloc _ _ _ (by simp)).trans (heap_alloc_new w _))
  have hmk : (Instr.makeMap 130 none).run Tryz.prog w = .ok (.map (some w.heap.size)) (w.alloc (.map #[] 0)) := run_makeMap _ _
  clear hw hgo hgl hfz
  have c0 := hlast
  have hne' : (x != b) = true := by simpa using hne
  have hn0 : ((n : Int) == 0) = false := by simp; omega
  clear hne
  go_enter Tryz.func104, Tryz.ntmps104
  go_wp2_with (at_builtin; refine wpList_append_own_at _ rfl _ _ 115 rfl 0 132 i0 (.agg #[.int .i64 0, .int .i64 0, .map none]) 3 24 Tryz.underlying115 hi hz0 hz1 hz2 rfl (by decide) (Value.slice (some ⟨g0, 0, none⟩) n cap0) _ _ rfl hown.out ⟨w.heap.size + 1, 0, none⟩ 1 1 [.int .i64 b, .int .i64 0, .map (some w.heap.size)] rfl ?c1 ?c2 ?c3 ?c4 ?c5 (Nat.zero_le _) ?_; rotate_left 5; intro v' w2 hown1 hgrow hnil hat
               obtain ⟨g, cap, rfl, hbk⟩ := bk_of_own' (f := fun k => if k = n then ⟨b, 0, w.heap.size⟩ else f k) hown1 (by omega) (flat_snoc f n ⟨b, 0, w.heap.size⟩)
               have HBK := hid hbk
               have HGR := hid hgrow
               have HAT := hid hat
               clear hown1 hgrow hnil hat hbk
               have hpb : w2.heap[p]? = w.heap[p]? := (HGR.out.block p (by simp; omega) (fun e => HGo.out (HE.out.symm.trans e.symm))).trans ((Below.heap_alloc _ _ _ (by simp; omega)).trans (Below.heap_alloc _ _ _ hp))
               have m6 : w2.cell? ⟨p, 6, none⟩ = some (Value.slice (some ⟨g0, 0, none⟩) n cap0) := (World.cell?_of_block (a := ⟨p, 6, none⟩) hpb).trans c6
               have n6 : w2.frozen? ⟨p, 6, none⟩ = false := (World.frozen?_of_block (a := ⟨p, 6, none⟩) hpb).trans f6
               have hw2 := hid hpb
               have hmw : Hid (w2.heap[w.heap.size]? = some (.map #[] 0)) := hid ((HGR.out.block w.heap.size hmp.out (fun e => by have := HGl.out w.heap.size (HE.out.symm.trans e.symm); omega)).trans hmm.out)
               clear hpb c6 f6)
  case c1 => rfl
  case c2 =>
    intro j u hj
    rw [Go.WideShapes.add_plain, Nat.zero_add]
    have := World.cell?_alloc_new (w.alloc (.map #[] 0)) (#[.int .i64 b, .int .i64 0, .map (some w.heap.size)] : Array Value) 132 j
    rw [World.size_alloc] at this
    exact this.trans (by simpa using hj)
  case c3 => intro u hu; simp at hu; rcases hu with rfl | rfl | rfl <;> rfl
  case c4 => unfold maxLen; omega
  case c5 => omega
  have hgp : g ≠ p := by
    rcases HAT.out with e | e
    · intro e2; subst e2; exact HGo.out (HE.out.symm.trans e.symm)
    · have e2 : g = ((w.alloc (.map #[] 0)).alloc (.cells #[.int .i64 b, .int .i64 0, .map (some w.heap.size)] 132)).heap.size := Option.some.inj e
      simp at e2
      omega
  have hgm : g ≠ w.heap.size := by
    rcases HAT.out with e | e
    · intro e2; have := HGl.out g (HE.out.symm.trans e.symm); omega
    · have e2 : g = ((w.alloc (.map #[] 0)).alloc (.cells #[.int .i64 b, .int .i64 0, .map (some w.heap.size)] 132)).heap.size := Option.some.inj e
      simp at e2
      omega
  have m6' : (w2.setCell ⟨p, 6, none⟩ (.slice (some ⟨g, 0, none⟩) (n + 1) cap)).cell? ⟨p, 6, none⟩ = some (.slice (some ⟨g, 0, none⟩) (n + 1) cap) := World.cell?_setCell_same _ _ _ m6
  have HM6 := hid (heap_setCell_same w2 p 6 _ _ (.slice (some ⟨g, 0, none⟩) (n + 1) cap) (hw2.out.trans HWp.out))
  go_quiet (fail)
  go_wp2_with fail
  go_ret
  refine ⟨g, cap, rfl, HBK.out.of_block (heap_setCell_other _ _ _ _ (by simp; exact hgp)), HM6.out, (heap_setCell_other _ _ _ _ (by simp; omega)).trans hmw.out, hgp, hgm, ?_, ?_⟩
  · rcases HAT.out with e | e
    · exact .inl (HE.out.symm.trans e.symm)
    · right
      have e2 : g = ((w.alloc (.map #[] 0)).alloc (.cells #[.int .i64 b, .int .i64 0, .map (some w.heap.size)] 132)).heap.size := Option.some.inj e
      simp at e2
      omega
  · refine Wr.drewN (Wr.trans ?_ (Wr.set ⟨p, 6, none⟩ _ (.inl rfl))) _
    exact (Wr.ofBelow (((Below.refl _ w).alloc (Nat.le_refl _) _).alloc (by simp) _)).trans (Wr.ofGrown HGR.out (fun k e => .inr (HE.out.symm.trans e)))

theorem bucket_same (p : Nat) (g0 n : Nat) (cap0 : Nat) (X : Shp) (last : Int) (b : Int) (w : World)
    (hw : w.heap[p]? = some (.cells (sv X last (.slice (some ⟨g0, 0, none⟩) n cap0)) 117)) (hn : 0 < n) (hn2 : n ≤ 1000) (hlast : w.cell? ⟨g0, (n - 1) * 3, none⟩ = some (.int .i64 b)) :
    Calls Tryz.prog 104 #[.pointer (some ⟨p, 0, none⟩), .int .i64 b] w fun e w' => e = .returned (.pointer (some ⟨g0, (n - 1) * 3, none⟩)) ∧ ∃ m, w.drewN m = w' := by
  obtain ⟨-, -, -, -, -, -, c6, -⟩ := sv_cells hw
  have c0 := hlast
  have hn0 : ((n : Int) == 0) = false := by simp; omega
  have hbb : (b != b) = false := by simp
  clear hw
  go_enter Tryz.func104, Tryz.ntmps104
  go_wp2_with fail
  go_quiet (fail)
  go_wp2_with fail
  go_ret
  exact ⟨rfl, _, rfl⟩

end Go.Proofs.YtbihelpnojjacaaGreat.SkH

/- A bucket's numbers: what is added to them. -/
namespace Go.Proofs.YtbihelpnojjacaaGreat.SkI
open Go.ChangeShapes Go.WideShapes Go.ChangeAt Go.RowKit Base Wri Map WldF WldG SkK SkA SkB SkC SkD SkE SkF SkG SkH

/-- block mb is a map of places: what stands at each, 0 where there is nothing -/
def Num (w : World) (mb : Nat) (m : Nat → Nat → Nat) : Prop :=
  ∃ F n, MapOf Tryz.prog 135 w mb F n ∧ ∀ r c, r < 8 → c < 4096 → F (pv r c) = some (.int .i64 (m r c)) ∨ (F (pv r c) = none ∧ m r c = 0)

variable {w w' : World} {mb : Nat} {m : Nat → Nat → Nat}

theorem Num.of_block (h : Num w mb m) (e : w'.heap[mb]? = w.heap[mb]?) : Num w' mb m := by
  obtain ⟨F, n, h1, h2⟩ := h
  exact ⟨F, n, h1.of_block e, h2⟩
theorem Num.lt (h : Num w mb m) : mb < w.heap.size := by
  obtain ⟨F, n, h1, _⟩ := h
  exact h1.lt
theorem Num.congr {m' : Nat → Nat → Nat} (h : Num w mb m) (e : ∀ r c, r < 8 → c < 4096 → m r c = m' r c) : Num w mb m' := by
  obtain ⟨F, n, h1, h2⟩ := h
  exact ⟨F, n, h1, fun r c hr hc => by rw [← e r c hr hc]; exact h2 r c hr hc⟩
theorem Num.none (h : w.heap[mb]? = some (.map #[] 0)) : Num w mb (fun _ _ => 0) :=
  ⟨fun _ => .none, 0, ⟨#[], 0, h, rfl, by simp, by simp, by simp, by simp, by simp⟩, fun _ _ _ _ => .inr ⟨rfl, rfl⟩⟩

theorem zeroI (w : World) : (zeroValue 3).run Tryz.prog w = .ok (.int .i64 0) w := by kernel_rfl

theorem Num.look (h : Num w mb m) (r c : Nat) (hr : r < 8) (hc : c < 4096) : (Instr.lookup 130 (.map (some mb)) (pv r c) false).run Tryz.prog w = .ok (.int .i64 (m r c)) w := by
  obtain ⟨F, n, h1, h2⟩ := h
  obtain ⟨kl, hkl⟩ := key_of r c hr hc
  have := h1.look false keyed Tryz.underlying130 (zeroI w) hkl
  rw [this]
  rcases h2 r c hr hc with e | ⟨e, e0⟩
  · rw [e]; rfl
  · rw [e, e0]; rfl

theorem Num.store (h : Num w mb m) (r c x : Nat) (hr : r < 8) (hc : c < 4096) :
    ∃ w', (Instr.mapUpdate 130 (.map (some mb)) (pv r c) (.int .i64 x)).run Tryz.prog w = .ok () w' ∧ Num w' mb (fun r' c' => if r' = r ∧ c' = c then x else m r' c') ∧ Wr (fun j => j = mb) w w' := by
  obtain ⟨F, n, h1, h2⟩ := h
  obtain ⟨kl, hkl⟩ := key_of r c hr hc
  obtain ⟨w', hrun, hM, hW⟩ := h1.store (val := .int .i64 x) keyed Tryz.underlying130 hkl
  refine ⟨w', hrun, ⟨_, _, hM, fun r' c' hr' hc' => ?_⟩, hW⟩
  by_cases e : r' = r ∧ c' = c
  · obtain ⟨rfl, rfl⟩ := e
    left
    rw [put_same]
    simp
  · rw [put_other (fun e2 => e (pv_inj e2))]
    simp only [if_neg e]
    exact h2 r' c' hr' hc'

/-- the numbers when k places are done -/
def upd (m : Nat → Nat → Nat) (col : Nat → Nat) (more k : Nat) (r c : Nat) : Nat := if r < k ∧ c = col r then sat (m r c + more) else m r c
theorem upd_zero (m : Nat → Nat → Nat) (col : Nat → Nat) (more : Nat) : upd m col more 0 = m := by
  funext r c
  unfold upd
  rw [if_neg (by omega)]
theorem upd_succ (m : Nat → Nat → Nat) (col : Nat → Nat) (more k : Nat) : upd m col more (k + 1) = fun r c => if r = k ∧ c = col k then sat (upd m col more k k (col k) + more) else upd m col more k r c := by
  funext r c
  by_cases e : r = k ∧ c = col k
  · obtain ⟨rfl, rfl⟩ := e
    simp [upd]
  · rw [if_neg e]
    unfold upd
    by_cases h : r < k ∧ c = col r
    · rw [if_pos h, if_pos ⟨by omega, h.2⟩]
    · rw [if_neg h, if_neg]
      rintro ⟨h1, h2⟩
      by_cases hk : r = k
      · subst hk; exact e ⟨rfl, h2⟩
      · exact h ⟨by omega, h2⟩

set_option maxRecDepth 20000 in
set_option maxHeartbeats 2000000 in
theorem add_any (g cap n i gp rows more : Nat) (f : Nat → Bk) (T : Nat) (col : Nat → Nat) (hb : IsBk w g cap n f) (hi : i < n) (hT : (f i).tot = (T : Int)) (hm : (f i).mp = mb) (hN : Num w mb m) (hp : Pl w gp rows rows col) (hr : rows ≤ 8) (hcol : ∀ r, r < rows → col r < 4096)
    (hd1 : mb ≠ g) (hd2 : mb ≠ gp) (hd3 : g ≠ gp) :
    Calls Tryz.prog 106 #[.pointer (some ⟨g, i * 3, none⟩), .int .i64 more, .slice (some ⟨gp, 0, none⟩) rows rows] w fun e w' =>
      e = .returned (.tuple #[]) ∧ IsBk w' g cap n (fun k => if k = i then ⟨(f i).at_, sat (T + more), mb⟩ else f k) ∧ Num w' mb (upd m col more rows) ∧ Wr (fun k => k = g ∨ k = mb) w w' := by
  obtain ⟨-, c1, c2⟩ := hb.at3 i hi
  have z1 := hb.frozen (i * 3 + 1)
  rw [hT] at c1
  rw [hm] at c2
  have HP := hid (plus_two T more (w.alloc (.cells #[.int .i64 T, .int .i64 more] 3)) w rfl)
  have hgl := hb.lt
  go_enter Tryz.func106, Tryz.ntmps106
  go_wp2_with fail
  refine HP.out.mono ?_
  rintro e w1 ⟨rfl, rfl⟩
  have hsz1 : (w.setCell ⟨g, i * 3 + 1, none⟩ (.int .i64 (sat (T + more) : Nat))).heap.size = w.heap.size := by simp [World.setCell]
  have hbs : Below (w.setCell ⟨g, i * 3 + 1, none⟩ (.int .i64 (sat (T + more) : Nat))).heap.size (w.setCell ⟨g, i * 3 + 1, none⟩ (.int .i64 (sat (T + more) : Nat))) ((w.setCell ⟨g, i * 3 + 1, none⟩ (.int .i64 (sat (T + more) : Nat))).alloc (.cells #[.int .i64 T, .int .i64 more] 3)) := (Below.refl _ _).alloc (Nat.le_refl _) _
  have HB1 : Hid (IsBk ((w.setCell ⟨g, i * 3 + 1, none⟩ (.int .i64 (sat (T + more) : Nat))).alloc (.cells #[.int .i64 T, .int .i64 more] 3)) g cap n (fun k => if k = i then ⟨(f i).at_, (sat (T + more) : Nat), (f i).mp⟩ else f k)) := hid ((hb.putTot i hi _).below hbs (by rw [hsz1]; exact hgl))
  have HN1 : Hid (Num ((w.setCell ⟨g, i * 3 + 1, none⟩ (.int .i64 (sat (T + more) : Nat))).alloc (.cells #[.int .i64 T, .int .i64 more] 3)) mb (upd m col more 0)) := hid (by
    rw [upd_zero]
    exact (hN.of_block (heap_setCell_other _ _ _ _ hd1)).of_block (hbs.block mb (by rw [hsz1]; exact hN.lt)))
  have HW1 : Hid (Wr (fun k => k = g ∨ k = mb) w ((w.setCell ⟨g, i * 3 + 1, none⟩ (.int .i64 (sat (T + more) : Nat))).alloc (.cells #[.int .i64 T, .int .i64 more] 3))) := hid ((Wr.set ⟨g, i * 3 + 1, none⟩ _ (.inl rfl)).trans (Wr.ofBelow hbs))
  have HPl := hid hp
  have HNm := hid hm
  have hgpl := hp.lt
  clear HP hb hN hp hT hbs hsz1
  rw [hm] at HB1
  clear hm
  go_wp2_with fail
  clear c1 c2 z1
  go_loopw [20] (fun j wr => ∃ k : Nat, k ≤ rows ∧ j = .int .i64 k ∧ IsBk wr g cap n (fun k => if k = i then ⟨(f i).at_, (sat (T + more) : Nat), mb⟩ else f k) ∧ Num wr mb (upd m col more k) ∧ Wr (fun k => k = g ∨ k = mb) w wr) (fun j _ => rows - (intOf j).toNat)
  case atStart => exact ⟨0, Nat.zero_le _, rfl, HB1.out, HN1.out, HW1.out⟩
  case round =>
    clear HB1 HN1 HW1
    obtain ⟨k, hk, rfl, hb, hN, hW⟩ := hrel
    have HB := hid hb
    have HN := hid hN
    have HW := hid hW
    by_cases hlt : k < rows
    · have hpw : Pl wr gp rows rows col := HPl.out.of_block (hW.block gp hgpl (fun e => e.elim (fun e => hd3 e.symm) (fun e => hd2 e.symm)))
      obtain ⟨k0, k1⟩ := hpw.cells k hlt
      obtain ⟨-, -, b2⟩ := hb.at3 i hi
      simp only [if_true] at b2
      have hgw := hb.lt
      have hmw := hN.lt
      have hgpw := hpw.lt
      have hcl := hcol k hlt
      obtain ⟨x, hx⟩ : ∃ x, upd m col more k k (col k) = x := ⟨_, rfl⟩
      have HX := hid hx
      obtain ⟨W1, hW1⟩ : ∃ W1, wr.alloc (.cells #[.int .i64 k, .int .i64 (col k)] 135) = W1 := ⟨_, rfl⟩
      have hbW : Below wr.heap.size wr W1 := by rw [← hW1]; exact (Below.refl _ wr).alloc (Nat.le_refl _) _
      have hN1 := hN.of_block (hbW.block mb hmw)
      have hl1 : (Instr.lookup 130 (.map (some mb)) (.agg #[.int .i64 k, .int .i64 (col k)]) false).run Tryz.prog W1.drew = .ok (.int .i64 (upd m col more k k (col k) : Nat)) W1.drew := Num.look (w := W1.drew) (hN1.of_block rfl) k (col k) (by omega) hcl
      rw [hx] at hl1
      have hs1 : W1.heap.size = wr.heap.size + 1 := by rw [← hW1]; simp
      have hB1 := HB.out.below hbW hgw
      have q2 := (hB1.at3 i hi).2.2
      simp only [if_true] at q2
      have hnp : W1.heap[wr.heap.size]? = some (.cells #[.int .i64 k, .int .i64 (col k)] 135) := by rw [← hW1]; exact heap_alloc_new wr _
      have q0 : W1.cell? ⟨wr.heap.size, 0, none⟩ = some (.int .i64 k) := by simp [World.cell?, hnp]
      have q1 : W1.cell? ⟨wr.heap.size, 1, none⟩ = some (.int .i64 (col k)) := by simp [World.cell?, hnp]
      have hbY : Below W1.heap.size W1 (W1.alloc (.cells #[.int .i64 x, .int .i64 more] 3)).drew := ((Below.refl _ W1).alloc (Nat.le_refl _) _).drew
      have hgW1 := hB1.lt
      have hmW1 := hN1.lt
      obtain ⟨w5, hrun, hN5, hW5⟩ := (hN1.of_block (hbY.block mb hmW1)).store k (col k) (sat (x + more)) (by omega) hcl
      have hrun5 : (Instr.mapUpdate 130 (.map (some mb)) (.agg #[.int .i64 k, .int .i64 (col k)]) (.int .i64 (sat (x + more) : Nat))).run Tryz.prog (W1.alloc (.cells #[.int .i64 x, .int .i64 more] 3)).drew = .ok () w5 := hrun
      have hsz5 : (W1.alloc (.cells #[.int .i64 x, .int .i64 more] 3)).drew.heap.size = W1.heap.size + 1 := by show (W1.alloc _).heap.size = _; simp
      have p2 : w5.cell? ⟨g, i * 3 + 2, none⟩ = some (.map (some mb)) := (hW5.cell (i * 3 + 2) (by omega) (fun e => hd1 e.symm)).trans ((hbY.cell (p := ⟨g, i * 3 + 2, none⟩) hgW1).trans q2)
      have p0 : w5.cell? ⟨wr.heap.size, 0, none⟩ = some (.int .i64 k) := (hW5.cell 0 (by omega) (fun e => by omega)).trans ((hbY.cell (p := ⟨wr.heap.size, 0, none⟩) (by show wr.heap.size < _; omega)).trans q0)
      have p1 : w5.cell? ⟨wr.heap.size, 1, none⟩ = some (.int .i64 (col k)) := (hW5.cell 1 (by omega) (fun e => by omega)).trans ((hbY.cell (p := ⟨wr.heap.size, 1, none⟩) (by show wr.heap.size < _; omega)).trans q1)
      have HPX := hid (plus_two x more (W1.alloc (.cells #[.int .i64 x, .int .i64 more] 3)).drew W1 rfl)
      have HEnd : Hid (IsBk w5 g cap n (fun k => if k = i then ⟨(f i).at_, (sat (T + more) : Nat), mb⟩ else f k) ∧ Num w5 mb (upd m col more (k + 1)) ∧ Wr (fun k => k = g ∨ k = mb) w w5) := hid ⟨hB1.of_block ((hW5.block g (by omega) (fun e => hd1 e.symm)).trans (hbY.block g hgW1)), by rw [upd_succ, hx]; exact hN5, ((HW.out.trans (Wr.ofBelow hbW)).trans (Wr.ofBelow hbY)).trans (hW5.mono (fun k e => .inr e))⟩
      have hlt1 : wr.heap.size < W1.heap.size := by omega
      clear hpw hb hN hW hx hN1 hB1 hbY hN5 hW5 hrun hbW hsz5 hs1 hnp
      go_wp2_with fail
      go_region_held3 (fun w' => w'.cell? ⟨g, i * 3 + 2, none⟩ = some (.map (some mb)) ∧ w'.cell? ⟨wr.heap.size, 0, none⟩ = some (.int .i64 k) ∧ w'.cell? ⟨wr.heap.size, 1, none⟩ = some (.int .i64 (col k))) (first | assumption | go_keep)
        (first | (go_at_call 103; refine HPX.out.mono ?_; rintro e w6 ⟨rfl, rfl⟩))
      all_goals
        clear hl1 hrun5 q0 q1 q2 p0 p1 p2 b2
        go_wp2_with fail
        go_roundw
        case rel => exact ⟨k + 1, by omega, by go_num, HEnd.out.1, HEnd.out.2.1, HEnd.out.2.2⟩
        case measure => simp [intOf]; omega
    · obtain rfl : k = rows := by omega
      clear hb hN hW
      go_wp2_with fail
      go_end0
      exact ⟨rfl, HB.out, HN.out, HW.out⟩

end Go.Proofs.YtbihelpnojjacaaGreat.SkI

/- A sketch's sums over a window. -/
namespace Go.Proofs.YtbihelpnojjacaaGreat.SkJ
open Go.ChangeShapes Go.WideShapes Go.ChangeAt Go.RowKit Base Wri Map WldF WldG SkK SkA SkB SkC SkD SkE SkF SkG SkH SkI

/-- what is told of the buckets from a time on, together -/
def sumK (first : Int) (f : Nat → Bk) (x : Nat → Nat) : Nat → Nat
  | 0 => 0
  | k + 1 => if first ≤ (f k).at_ then sat (sumK first f x k + x k) else sumK first f x k
theorem sumK_yes {first : Int} {f : Nat → Bk} {x : Nat → Nat} {k : Nat} (h : first ≤ (f k).at_) : sumK first f x (k + 1) = sat (sumK first f x k + x k) := if_pos h
theorem sumK_no {first : Int} {f : Nat → Bk} {x : Nat → Nat} {k : Nat} (h : ¬ first ≤ (f k).at_) : sumK first f x (k + 1) = sumK first f x k := if_neg h

set_option maxRecDepth 20000 in
set_option maxHeartbeats 2000000 in
theorem sum_est (p g cap n q t : Nat) (X : Shp) (last : Int) (f : Nat → Bk) (x : Nat → Nat) (F : Nat) (w : World) (HP : Hid (w.heap[p]? = some (.cells (sv X last (.slice (some ⟨g, 0, none⟩) n cap)) 117))) (HB : Hid (IsBk w g cap n f)) (hn : n ≤ 1000)
    (hz : 0 < X.bk) (hq : X.wd / X.bk = q) (hq0 : 0 < q) (hz2 : X.wd ≤ 1099511627776) (ha : t ≤ 1152921504606846976)
    (HC : Hid (∀ W i, Below w.heap.size w W → i < n → Calls Tryz.prog 142 #[.agg #[.int .i64 (f i).at_, .int .i64 (f i).tot, .map (some (f i).mp)], .pointer (some ⟨F, 0, none⟩)] W fun e w' => e = .returned (.int .i64 (x i)) ∧ Below W.heap.size W w')) :
    Calls Tryz.prog 141 #[.pointer (some ⟨p, 0, none⟩), .int .i64 t, .func (Fn.func 142) #[] #[.pointer (some ⟨F, 0, none⟩)]] w fun e w' => e = .returned (.int .i64 (sumK (((t - t % q : Nat) : Int) - X.wd + q) f x n)) ∧ Below w.heap.size w w' := by
  obtain ⟨c0, c1, c2, c3, -, -, c6, -⟩ := sv_cells HP.out
  have hp : p < w.heap.size := (Array.getElem?_eq_some_iff.1 HP.out).1
  have hgl := HB.out.lt
  have HF := hid (first_any X.wd X.bk X.ro X.co q t w hz hq hq0 hz2 ha)
  obtain ⟨fi, hfi⟩ : ∃ fi, ((t - t % q : Nat) : Int) - X.wd + q = fi := ⟨_, rfl⟩
  rw [hfi] at HF ⊢
  clear hfi hq hz2
  unfold szv at HF
  go_enter Tryz.func141, Tryz.ntmps141
  go_wp2_with fail
  refine HF.out.mono ?_
  rintro e w1 ⟨rfl, hb1⟩
  have k6 : w1.cell? ⟨p, 6, none⟩ = some (.slice (some ⟨g, 0, none⟩) n cap) := (hb1.cell (p := ⟨p, 6, none⟩) hp).trans c6
  have HB1 := hid hb1
  clear HF hb1 c0 c1 c2 c3 c6
  go_wp2_with fail
  clear k6
  go_loopw [8, 22] (fun s j wr => ∃ k : Nat, k ≤ n ∧ s = .int .i64 (sumK fi f x k) ∧ j = .int .i64 k ∧ Below w.heap.size w wr) (fun _ j _ => n - (intOf j).toNat)
  case atStart => exact ⟨0, Nat.zero_le _, rfl, rfl, HB1.out⟩
  case round =>
    clear HB1
    obtain ⟨k, hk, rfl, rfl, hb⟩ := hrel
    have HBl := hid hb
    by_cases hlt : k < n
    · obtain ⟨b0, b1, b2⟩ := (HB.out.below hb hgl).at3 k hlt
      have hgw : g < wr.heap.size := Nat.lt_of_lt_of_le hgl hb.size
      have hsw := hb.size
      obtain ⟨s, hs⟩ : ∃ s, sumK fi f x k = s := ⟨_, rfl⟩
      rw [hs]
      have HS := hid hs
      by_cases hc : fi ≤ (f k).at_
      · have HY : Hid (sumK fi f x (k + 1) = sat (s + x k)) := hid (by rw [sumK_yes hc, hs])
        have hd : decide (fi ≤ (f k).at_) = true := by simpa using hc
        have hd' : decide ((f k).at_ < fi) = false := by simp; omega
        have HCk := hid (fun W h => HC.out W k h hlt)
        clear hs hc hb
        go_wp2_with fail
        refine (HCk.out _ (HBl.out.trans (((Below.refl wr.heap.size wr).alloc (Nat.le_refl _) _).mono hsw))).mono ?_
        rintro e w2 ⟨rfl, hb2⟩
        have HB2 : Hid (Below w.heap.size w w2) := hid (HBl.out.trans ((((Below.refl wr.heap.size wr).alloc (Nat.le_refl _) _).trans (hb2.mono (by simp))).mono hsw))
        have HPl := hid (plus_two s (x k) (w2.alloc (.cells #[.int .i64 s, .int .i64 (x k)] 3)) w2 rfl)
        clear hb2 b0 b1 b2 HCk
        go_wp2_with fail
        refine HPl.out.mono ?_
        rintro e w3 ⟨rfl, rfl⟩
        have HB3 : Hid (Below w.heap.size w (w2.alloc (.cells #[.int .i64 s, .int .i64 (x k)] 3))) := hid (HB2.out.alloc HB2.out.size _)
        clear HPl
        go_wp2_with fail
        go_roundw
        case rel => exact ⟨k + 1, by omega, by rw [HY.out], by go_num, HB3.out⟩
        case measure => simp [intOf]; omega
      · have HY : Hid (sumK fi f x (k + 1) = s) := hid (by rw [sumK_no hc, hs])
        have hd : decide (fi ≤ (f k).at_) = false := by simpa using hc
        have hd' : decide ((f k).at_ < fi) = true := by simp; omega
        have HB3 := hid (HBl.out.alloc hsw (.cells #[.int .i64 (f k).at_, .int .i64 (f k).tot, .map (some (f k).mp)] 132))
        clear hs hc hb
        go_wp2_with fail
        go_roundw
        case rel => exact ⟨k + 1, by omega, by rw [HY.out], by go_num, HB3.out⟩
        case measure => simp [intOf]; omega
    · obtain rfl : k = n := by omega
      clear hb
      go_wp2_with fail
      go_ret
      exact ⟨rfl, HBl.out⟩

set_option maxRecDepth 20000 in
set_option maxHeartbeats 1000000 in
theorem nil_est (p q t : Nat) (X : Shp) (last : Int) (F : Nat) (w : World) (HP : Hid (w.heap[p]? = some (.cells (sv X last (.slice none 0 0)) 117)))
    (hz : 0 < X.bk) (hq : X.wd / X.bk = q) (hq0 : 0 < q) (hz2 : X.wd ≤ 1099511627776) (ha : t ≤ 1152921504606846976) :
    Calls Tryz.prog 141 #[.pointer (some ⟨p, 0, none⟩), .int .i64 t, .func (Fn.func 142) #[] #[.pointer (some ⟨F, 0, none⟩)]] w fun e w' => e = .returned (.int .i64 0) ∧ Below w.heap.size w w' := by
  obtain ⟨c0, c1, c2, c3, -, -, c6, -⟩ := sv_cells HP.out
  have hp : p < w.heap.size := (Array.getElem?_eq_some_iff.1 HP.out).1
  have HF := hid (first_any X.wd X.bk X.ro X.co q t w hz hq hq0 hz2 ha)
  obtain ⟨fi, hfi⟩ : ∃ fi, ((t - t % q : Nat) : Int) - X.wd + q = fi := ⟨_, rfl⟩
  rw [hfi] at HF
  clear hfi hq hz2
  unfold szv at HF
  go_enter Tryz.func141, Tryz.ntmps141
  go_wp2_with fail
  refine HF.out.mono ?_
  rintro e w1 ⟨rfl, hb1⟩
  have k6 : w1.cell? ⟨p, 6, none⟩ = some (.slice none 0 0) := (hb1.cell (p := ⟨p, 6, none⟩) hp).trans c6
  have HB1 := hid hb1
  clear HF hb1 c0 c1 c2 c3 c6
  go_wp2_with fail
  clear k6
  go_loopw [8, 22] (fun s j wr => s = .int .i64 0 ∧ j = .int .i64 0 ∧ w1 = wr) (fun _ _ _ => 0)
  case atStart => exact ⟨rfl, rfl, rfl⟩
  case round =>
    obtain ⟨rfl, rfl, rfl⟩ := hrel
    go_wp2_with fail
    go_ret
    exact ⟨rfl, HB1.out⟩

end Go.Proofs.YtbihelpnojjacaaGreat.SkJ

/- A sketch and all that was added to it. -/
namespace Go.Proofs.YtbihelpnojjacaaGreat.SkL
open Go.ChangeShapes Go.WideShapes Go.ChangeAt Go.RowKit Base Wri Map WldF WldG SkK SkA SkB SkC SkD SkE SkF SkG SkH SkI SkJ

/-- a size that may be -/
structure Ok (X : Shp) (q : Nat) : Prop where
  w1 : X.wd ≤ 1099511627776
  b1 : 0 < X.bk
  b2 : X.bk ≤ 60
  r1 : 1 ≤ X.ro
  r2 : X.ro ≤ 8
  c1 : 1 ≤ X.co
  c2 : X.co ≤ 4096
  qe : X.wd / X.bk = q
  we : X.wd = q * X.bk
  q0 : 0 < q

/-- what was added in a bucket; of a column of a row -/
def totB (q : Nat) (ns : List Note) (b : Nat) : Nat := sumN ns fun x => x.t / q == b
def cntB (q : Nat) (X : Shp) (ns : List Note) (b r c : Nat) : Nat := sumN ns fun x => x.t / q == b && colN X.seed X.co r x.k == c

/-- the number that stands at a place: of the sketch's rows alone -/
def numF (q : Nat) (X : Shp) (ns : List Note) (b r c : Nat) : Nat := if r < X.ro then sat (cntB q X ns b r c) else 0

def bsOf (q : Nat) (ns : List Note) (mpf : Nat → Nat) (qs : List Nat) : List Bk := qs.map fun b => ⟨((b * q : Nat) : Int), (sat (totB q ns b) : Nat), mpf b⟩

structure Full (w : World) (p : Nat) (go : Option Nat) (X : Shp) (q last : Nat) (ns : List Note) (qs : List Nat) (mpf : Nat → Nat) : Prop where
  ok : Ok X q
  sk : IsSk w p go X last (bsOf q ns mpf qs)
  nums : ∀ b ∈ qs, Num w (mpf b) (numF q X ns b)
  far : ∀ b ∈ qs, mpf b ≠ p ∧ go ≠ some (mpf b)
  inj : ∀ b ∈ qs, ∀ b' ∈ qs, mpf b = mpf b' → b = b'
  inv : Inv q X.bk last ns qs
  late : last ≤ 1152921504606846976

variable {w w' : World} {p q last t : Nat} {go : Option Nat} {X : Shp} {ns : List Note} {qs : List Nat} {mpf : Nat → Nat}

/-- where it lies -/
def Ft (p : Nat) (go : Option Nat) (qs : List Nat) (mpf : Nat → Nat) (k : Nat) : Prop := k = p ∨ go = some k ∨ ∃ b ∈ qs, mpf b = k

theorem Full.lt (h : Full w p go X q last ns qs mpf) {k : Nat} (hk : Ft p go qs mpf k) : k < w.heap.size := by
  rcases hk with rfl | hk | ⟨b, hb, rfl⟩
  · exact h.sk.lt
  · exact h.sk.lt2 k hk
  · exact (h.nums b hb).lt
theorem Full.keep (h : Full w p go X q last ns qs mpf) (hk : ∀ k, Ft p go qs mpf k → w'.heap[k]? = w.heap[k]?) : Full w' p go X q last ns qs mpf :=
  ⟨h.ok, h.sk.keep fun k e => hk k (e.elim .inl (fun e => .inr (.inl e))), fun b hb => (h.nums b hb).of_block (hk _ (.inr (.inr ⟨b, hb, rfl⟩))), h.far, h.inj, h.inv, h.late⟩
theorem Full.below (h : Full w p go X q last ns qs mpf) (hb : Below w.heap.size w w') : Full w' p go X q last ns qs mpf := h.keep fun k e => hb.block k (h.lt e)

theorem rise_len : ∀ (l : List Nat) (lo hi : Nat), l.Pairwise (· < ·) → (∀ x ∈ l, lo ≤ x ∧ x ≤ hi) → l.length ≤ hi + 1 - lo
  | [], _, _, _, _ => Nat.zero_le _
  | x :: r, lo, hi, h, hb => by
    obtain ⟨h1, h2⟩ := List.pairwise_cons.1 h
    have hx := hb x List.mem_cons_self
    have := rise_len r (x + 1) hi h2 (fun y hy => ⟨h1 y hy, (hb y (List.mem_cons_of_mem _ hy)).2⟩)
    rw [List.length_cons]
    omega
theorem Full.len (h : Full w p go X q last ns qs mpf) : qs.length ≤ 60 := by
  have h1 := rise_len qs (last / q + 1 - X.bk) (last / q) h.inv.rise (fun x hx => by have := h.inv.win x hx; omega)
  have := h.ok.b2
  omega
theorem bs_len (q : Nat) (ns : List Note) (mpf : Nat → Nat) (qs : List Nat) : (bsOf q ns mpf qs).length = qs.length := List.length_map _

theorem toL_get {f : Nat → Bk} {n : Nat} {l : List Bk} (h : toL f n = l) {i : Nat} (hi : i < n) : l[i]? = some (f i) := by
  rw [← h]
  simp [toL, hi]

/-- what is told of its buckets, together -/
theorem sumK_of (ho : Ok X q) {f : Nat → Bk} {n : Nat} (hf : toL f n = bsOf q ns mpf qs) (hn : n = qs.length) (y : Nat → Nat) (x : Nat → Nat) (hx : ∀ i, i < n → x i = sat (y (qs[i]?.getD 0))) :
    sumK (((t - t % q : Nat) : Int) - X.wd + q) f x n = sat (((qs.filter (inW q X.bk t)).map y).sum) := by
  have key : ∀ k, k ≤ n → sumK (((t - t % q : Nat) : Int) - X.wd + q) f x k = sat ((((qs.take k).filter (inW q X.bk t)).map y).sum) := by
    intro k
    induction k with
    | zero => intro _; rfl
    | succ k ih =>
      intro hk
      have hkq : k < qs.length := by omega
      have hq : qs[k]? = some qs[k] := List.getElem?_eq_getElem hkq
      have hfk : f k = ⟨((qs[k] * q : Nat) : Int), (sat (totB q ns qs[k]) : Nat), mpf qs[k]⟩ := by
        have h1 := toL_get hf (i := k) (by omega)
        unfold bsOf at h1
        rw [List.getElem?_map, hq] at h1
        exact (Option.some.inj h1).symm
      have hw : ((t - t % q : Nat) : Int) - X.wd + q ≤ (f k).at_ ↔ t / q < qs[k] + X.bk := by
        rw [hfk]
        exact first_iff qs[k] X.wd ho.q0 ho.we
      have ht : qs.take (k + 1) = qs.take k ++ [qs[k]] := by rw [List.take_add_one, hq]; rfl
      have hxk : x k = sat (y qs[k]) := by rw [hx k (by omega), hq]; rfl
      rw [ht, List.filter_append, List.map_append, List.sum_append]
      by_cases hin : t / q < qs[k] + X.bk
      · rw [sumK_yes (hw.2 hin), ih (by omega), hxk, sat_add]
        simp [inW, hin]
      · rw [sumK_no (fun h => hin (hw.1 h)), ih (by omega)]
        simp [inW, hin]
  rw [key n (Nat.le_refl _), hn, List.take_length]

/-- how much was added in the window at a time; of a key's columns -/
def totalN (q bk : Nat) (ns : List Note) (t : Nat) : Nat := sat (sumN ns fun x => inW q bk t (x.t / q))
def rowN (q : Nat) (X : Shp) (ns : List Note) (t r c : Nat) : Nat := sat (sumN ns fun x => inW q X.bk t (x.t / q) && colN X.seed X.co r x.k == c)
def estN (q : Nat) (X : Shp) (ns : List Note) (t : Nat) (s : ByteArray) : Nat := least X.ro fun r => rowN q X ns t r (colN X.seed X.co r s)

theorem Full.total (h : Full w p go X q last ns qs mpf) (ht : last ≤ t) : sat (((qs.filter (inW q X.bk t)).map (totB q ns)).sum) = totalN q X.bk ns t := by
  have := h.inv.sum ht (fun _ => true)
  simp only [Bool.and_true] at this
  unfold totalN totB
  rw [this]
theorem Full.row (h : Full w p go X q last ns qs mpf) (ht : last ≤ t) (r c : Nat) : sat (((qs.filter (inW q X.bk t)).map (fun b => cntB q X ns b r c)).sum) = rowN q X ns t r c := by
  have := h.inv.sum ht (fun x => colN X.seed X.co r x.k == c)
  unfold rowN cntB
  rw [this]

theorem row_sum (h : Full w p go X q last ns qs mpf) (ht : last ≤ t) (ht2 : t ≤ 1152921504606846976) (r c F : Nat) (hr : r < X.ro) (hc : c < 4096) (hF : F < w.heap.size) (hF0 : w.cell? ⟨F, 0, none⟩ = some (.int .i64 r)) (hF1 : w.cell? ⟨F, 1, none⟩ = some (.int .i64 c)) :
    Calls Tryz.prog 141 #[.pointer (some ⟨p, 0, none⟩), .int .i64 t, .func (Fn.func 142) #[] #[.pointer (some ⟨F, 0, none⟩)]] w fun e w' => e = .returned (.int .i64 (rowN q X ns t r c)) ∧ Below w.heap.size w w' := by
  obtain ⟨_, v, hp, hv⟩ := h.sk
  have ho := h.ok
  rw [← h.row ht r c]
  rcases hv with ⟨_, rfl, h0⟩ | ⟨g, cap, f, _, rfl, hb, hf⟩
  · have : qs = [] := by
      cases qs with
      | nil => rfl
      | cons a r => cases h0
    subst this
    exact nil_est p q t X last F w (hid hp) ho.b1 ho.qe ho.q0 ho.w1 ht2
  · have hl := h.len
    rw [bs_len] at hp hb hf
    have hs := sumK_of (t := t) ho hf rfl (fun b => cntB q X ns b r c) (fun i => sat (cntB q X ns (qs[i]?.getD 0) r c)) (fun _ _ => rfl)
    rw [← hs]
    refine sum_est p g cap qs.length q t X last f _ F w (hid hp) (hid hb) (by omega) ho.b1 ho.qe ho.q0 ho.w1 ht2 (hid fun W i hW hi => ?_)
    have h1 := toL_get hf hi
    unfold bsOf at h1
    rw [List.getElem?_map, List.getElem?_eq_getElem hi] at h1
    have h2 := (Option.some.inj h1).symm
    rw [h2, List.getElem?_eq_getElem hi]
    have hm : qs[i] ∈ qs := List.getElem_mem hi
    have hN := h.nums _ hm
    have hml := hN.lt
    refine estimate1_any _ _ _ (mpf qs[i]) F r c W (Nat.lt_of_lt_of_le hF hW.size) ((hW.cell (p := ⟨F, 0, none⟩) hF).trans hF0) ((hW.cell (p := ⟨F, 1, none⟩) hF).trans hF1) (fun w1 e1 => ?_) (Nat.lt_of_lt_of_le hml hW.size)
    have hl8 := ((hN.of_block (hW.block _ hml)).of_block e1).look r c (by have := ho.r2; omega) hc
    unfold numF at hl8
    rw [if_pos hr] at hl8
    exact hl8

end Go.Proofs.YtbihelpnojjacaaGreat.SkL

/- A sketch's Estimate, Total, New. -/
namespace Go.Proofs.YtbihelpnojjacaaGreat.SkM
open Go.ChangeShapes Go.WideShapes Go.ChangeAt Go.RowKit Base Wri Map WldF WldG SkK SkA SkB SkC SkD SkE SkF SkG SkH SkI SkJ SkL

variable {w w' : World} {p q last t : Nat} {go : Option Nat} {X : Shp} {ns : List Note} {qs : List Nat} {mpf : Nat → Nat}

set_option maxRecDepth 20000 in
set_option maxHeartbeats 1000000 in
theorem estimate_any (h : Full w p go X q last ns qs mpf) (ht : last ≤ t) (ht2 : t ≤ 1152921504606846976) (s : ByteArray) (hs : s.size ≤ maxLen) :
    Calls Tryz.prog 110 #[.pointer (some ⟨p, 0, none⟩), .int .i64 t, .string s] w fun e w' => e = .returned (.int .i64 (estN q X ns t s)) ∧ Below w.heap.size w w' := by
  obtain ⟨_, v, hp, _⟩ := h.sk
  obtain ⟨-, -, c2, c3, c4, -, -, -⟩ := sv_cells hp
  have HP := hid (places_any p X.seed X.ro X.co s w hs ⟨h.ok.r1, h.ok.r2⟩ ⟨h.ok.c1, h.ok.c2⟩ c2 c3 c4)
  have H := hid h
  have hr1 := h.ok.r2
  have hc1 := h.ok.c1
  have hc2 := h.ok.c2
  have hcol : ∀ r, colN X.seed X.co r s < 4096 := fun r => Nat.lt_of_lt_of_le (Nat.mod_lt _ (by omega)) hc2
  have HCol := hid hcol
  clear h hp c2 c3 c4 hcol hc1 hc2
  go_enter Tryz.func110, Tryz.ntmps110
  go_wp2_with fail
  refine HP.out.mono ?_
  rintro e w1 ⟨g, rfl, hg, hpl, hb1⟩
  have HPl := hid hpl
  have HB1 := hid hb1
  clear HP hpl hb1
  obtain ⟨ro, hro⟩ : ∃ ro, X.ro = ro := ⟨_, rfl⟩
  rw [hro] at HPl hr1 ⊢
  have HRo := hid hro
  clear hro
  go_wp2_with fail
  go_loopw [7, 14] (fun m j wr => ∃ k : Nat, k ≤ ro ∧ m = .int .i64 (least k (fun r => rowN q X ns t r (colN X.seed X.co r s)) : Nat) ∧ j = .int .i64 k ∧ Below w.heap.size w wr ∧ Pl wr g ro ro (fun r => colN X.seed X.co r s)) (fun _ j _ => ro - (intOf j).toNat)
  case atStart => exact ⟨0, Nat.zero_le _, rfl, rfl, HB1.out, HPl.out⟩
  case round =>
    clear HB1 HPl
    obtain ⟨k, hk, rfl, rfl, hb, hpl⟩ := hrel
    have HB := hid hb
    have HPl := hid hpl
    by_cases hlt : k < ro
    · obtain ⟨k0, k1⟩ := hpl.cells k hlt
      have hck := HCol.out k
      have hgw := hpl.lt
      have hsw := hb.size
      have hL : Hid (least (k + 1) (fun r => rowN q X ns t r (colN X.seed X.co r s)) = min (least k (fun r => rowN q X ns t r (colN X.seed X.co r s))) (rowN q X ns t k (colN X.seed X.co k s))) := hid (least_succ _ _)
      obtain ⟨c, hc⟩ : ∃ c, colN X.seed X.co k s = c := ⟨_, rfl⟩
      rw [hc] at k1 hck hL
      have hbx : Below w.heap.size w (wr.alloc (.cells #[.int .i64 k, .int .i64 c] 135)) := hb.alloc hsw _
      have hnp := heap_alloc_new wr (.cells #[.int .i64 k, .int .i64 c] 135)
      have HS := hid (row_sum (H.out.below hbx) ht ht2 k c wr.heap.size (by rw [HRo.out]; exact hlt) hck (by simp) (by unfold World.cell?; rw [hnp]; rfl) (by unfold World.cell?; rw [hnp]; rfl))
      obtain ⟨m, hm⟩ : ∃ m, least k (fun r => rowN q X ns t r (colN X.seed X.co r s)) = m := ⟨_, rfl⟩
      obtain ⟨y, hy⟩ : ∃ y, rowN q X ns t k c = y := ⟨_, rfl⟩
      rw [hm, hy] at hL
      rw [hy] at HS
      rw [hm]
      have HBx := hid hbx
      clear hc hm hy hbx hnp hb hpl
      go_wp2_with fail
      refine HS.out.mono ?_
      rintro e w2 ⟨rfl, hb2⟩
      have HB2 := hid (HBx.out.trans (hb2.mono (by simp; omega)))
      have HP2 : Hid (Pl w2 g ro ro (fun r => colN X.seed X.co r s)) := hid (HPl.out.of_block ((hb2.block g (by simp; omega)).trans (Below.heap_alloc _ _ _ hgw)))
      have hmin : Hid ((min (m : Int) (y : Int)) = ((min m y : Nat) : Int)) := hid (by omega)
      clear hb2 HS k0 k1
      go_wp2_with fail
      go_roundw
      case rel => exact ⟨k + 1, by omega, by rw [hL.out]; first | exact congrArg (Value.int .i64) hmin.out | (congr 1; omega), by go_num, HB2.out, HP2.out⟩
      case measure => simp [intOf]; omega
    · obtain rfl : k = ro := by omega
      clear hb hpl
      go_wp2_with fail
      go_ret
      refine ⟨?_, HB.out⟩
      unfold estN
      rw [HRo.out]
      rfl

set_option maxHeartbeats 1000000 in
theorem Estimate_yes (h : Full w p go X q last ns qs mpf) (ht : last ≤ t) (ht2 : t ≤ 1152921504606846976) (s : ByteArray) (hs : s.size ≤ maxLen) :
    Calls Tryz.prog 73 #[.pointer (some ⟨p, 0, none⟩), .int .i64 t, .string s] w fun e w' => e = .returned (.tuple #[.int .i64 (estN q X ns t s), .int .i64 0]) ∧ Below w.heap.size w w' := by
  obtain ⟨_, v, hp, _⟩ := h.sk
  obtain ⟨-, -, -, -, -, c5, -, -⟩ := sv_cells hp
  have HR := hid (refuses_any p last t true w c5)
  have e : refT last t true = 0 := by unfold refT; rw [if_neg (by simp; omega), if_neg (by omega)]
  rw [e] at HR
  have HE := hid (estimate_any h ht ht2 s hs)
  clear h hp c5 e
  go_enter Tryz.func73, Tryz.ntmps73
  go_wp2_with fail
  refine HR.out.mono ?_
  rintro e w1 ⟨rfl, rfl⟩
  go_wp2_with fail
  refine HE.out.mono ?_
  rintro e w1 ⟨rfl, hb⟩
  have HB := hid hb
  clear hb HE HR
  go_wp2_with fail
  go_ret2
  exact ⟨rfl, HB.out⟩

set_option maxRecDepth 20000 in
set_option maxHeartbeats 1000000 in
theorem New_yes (X : Shp) (q : Nat) (ho : Ok X q) (w : World) :
    Calls Tryz.prog 28 #[.int .i64 X.wd, .int .i64 X.bk, .int .i64 X.ro, .int .i64 X.co, .int .u64 X.seed] w fun e w' => ∃ p, e = .returned (.tuple #[.pointer (some ⟨p, 0, none⟩), .int .i64 0]) ∧ w.heap.size ≤ p ∧ Full w' p none X q 0 [] [] (fun _ => 0) ∧ Below w.heap.size w w' := by
  have hq := ho.we
  have HR := hid (refused_any X.wd X.bk X.ro X.co (w.alloc (.cells #[.int .i64 X.wd, .int .i64 X.bk, .int .i64 X.ro, .int .i64 X.co] 114)))
  have e : refZ X.wd X.bk X.ro X.co = 0 := by
    have h1 := ho.w1
    have h2 := ho.b1
    have h3 := ho.b2
    have h4 := ho.r1
    have h5 := ho.r2
    have h6 := ho.c1
    have h7 := ho.c2
    have h8 := ho.q0
    have hw : 1 ≤ X.wd := by rw [hq]; exact Nat.mul_pos h8 h2
    have hd : (X.wd : Int) % (X.bk : Int) = 0 := by
      rw [hq]
      exact Int.emod_eq_zero_of_dvd ⟨(q : Int), by rw [Int.natCast_mul, Int.mul_comm]⟩
    unfold refZ inB
    rw [if_pos (by simp; omega), if_pos hd]
  rw [e] at HR
  have HO := hid ho
  clear ho hq e
  unfold szv at HR
  go_enter Tryz.func28, Tryz.ntmps28
  go_wp2_with fail
  refine HR.out.mono ?_
  rintro e w1 ⟨rfl, hb1⟩
  have k0 : w1.cell? ⟨w.heap.size, 0, none⟩ = some (.int .i64 X.wd) := (hb1.cell (p := ⟨w.heap.size, 0, none⟩) (by simp)).trans (by go_cell)
  have k1 : w1.cell? ⟨w.heap.size, 1, none⟩ = some (.int .i64 X.bk) := (hb1.cell (p := ⟨w.heap.size, 1, none⟩) (by simp)).trans (by go_cell)
  have k2 : w1.cell? ⟨w.heap.size, 2, none⟩ = some (.int .i64 X.ro) := (hb1.cell (p := ⟨w.heap.size, 2, none⟩) (by simp)).trans (by go_cell)
  have k3 : w1.cell? ⟨w.heap.size, 3, none⟩ = some (.int .i64 X.co) := (hb1.cell (p := ⟨w.heap.size, 3, none⟩) (by simp)).trans (by go_cell)
  have HB1 : Hid (Below w.heap.size w w1) := hid (((Below.refl _ w).alloc (Nat.le_refl _) _).trans (hb1.mono (by simp)))
  clear hb1 HR
  go_wp2_with fail
  go_ret2
  refine ⟨w1.heap.size, rfl, HB1.out.size, ⟨HO.out, ⟨by simp, .slice none 0 0, ?_, .inl ⟨rfl, rfl, rfl⟩⟩, (fun _ h => by cases h), (fun _ h => by cases h), (fun _ h => by cases h), Inv.zero _ _, by omega⟩, HB1.out.alloc HB1.out.size _⟩
  exact heap_alloc_new w1 _

end Go.Proofs.YtbihelpnojjacaaGreat.SkM

/- A sketch's Add, by its steps. -/
namespace Go.Proofs.YtbihelpnojjacaaGreat.SkN
open Go.ChangeShapes Go.WideShapes Go.ChangeAt Go.RowKit Base Wri Map WldF WldG SkK SkA SkB SkC SkD SkE SkF SkG SkH SkI SkJ SkL SkM

variable {w w' : World} {p q last t : Nat} {go : Option Nat} {X : Shp} {ns : List Note} {qs : List Nat} {mpf : Nat → Nat}

theorem tot_snoc (q : Nat) (ns : List Note) (t : Nat) (s : ByteArray) (n b : Nat) : totB q (ns ++ [⟨t, s, n⟩]) b = totB q ns b + (if t / q = b then n else 0) := by
  unfold totB
  rw [sumN_snoc]
  simp
theorem cnt_snoc (q : Nat) (X : Shp) (ns : List Note) (t : Nat) (s : ByteArray) (n b r c : Nat) : cntB q X (ns ++ [⟨t, s, n⟩]) b r c = cntB q X ns b r c + (if t / q = b ∧ colN X.seed X.co r s = c then n else 0) := by
  unfold cntB
  rw [sumN_snoc]
  simp
theorem bs_app (q : Nat) (ns : List Note) (mpf : Nat → Nat) (A C : List Nat) : bsOf q ns mpf (A ++ C) = bsOf q ns mpf A ++ bsOf q ns mpf C := List.map_append
theorem bs_other (q : Nat) (ns : List Note) (mpf mpf' : Nat → Nat) (t : Nat) (s : ByteArray) (n : Nat) (A : List Nat) (h : t / q ∉ A) (hm : ∀ b ∈ A, mpf b = mpf' b) : bsOf q (ns ++ [⟨t, s, n⟩]) mpf' A = bsOf q ns mpf A := by
  unfold bsOf
  refine List.map_congr_left fun b hb => ?_
  have hne : ¬ t / q = b := fun e => h (by rw [e]; exact hb)
  rw [tot_snoc, if_neg hne, Nat.add_zero, hm b hb]
theorem bs_same (q : Nat) (ns : List Note) (mpf mpf' : Nat → Nat) (A : List Nat) (hm : ∀ b ∈ A, mpf b = mpf' b) : bsOf q ns mpf A = bsOf q ns mpf' A := by
  unfold bsOf
  refine List.map_congr_left fun b hb => ?_
  rw [hm b hb]

theorem stays_bs (ho : Ok X q) (ns : List Note) (mpf : Nat → Nat) (qs : List Nat) (t : Nat) : stays (((t - t % q : Nat) : Int) - X.wd + q) (bsOf q ns mpf qs) = bsOf q ns mpf (qs.filter (inW q X.bk t)) := by
  unfold bsOf stays
  rw [List.filter_map]
  congr 1
  refine List.filter_congr fun b _ => ?_
  have := first_iff (t := t) b X.wd ho.q0 ho.we
  simp only [Function.comp_apply, inW]
  by_cases h : t / q < b + X.bk
  · have := this.2 h
    simp only [h, decide_true]
    simp
    omega
  · have := mt this.1 h
    simp only [h, decide_false]
    simp
    omega

/-- the time is noted -/
theorem IsSk.late {bs : List Bk} {l : Int} (h : IsSk w p go X l bs) (t : Int) : IsSk (w.setCell ⟨p, 5, none⟩ (.int .i64 t)) p go X t bs := by
  obtain ⟨h0, v, h1, h2⟩ := h
  exact ⟨h0, v, heap_setCell_same _ _ _ _ _ _ h1, h2.of_block fun g e => heap_setCell_other _ _ _ _ (fun e2 => h0 (by rw [e, e2]))⟩

/-- behind forget -/
theorem Full.forgot (h : Full w p go X q last ns qs mpf) (ht : last ≤ t) (ht2 : t ≤ 1152921504606846976) (hsk : IsSk w' p go X t (stays (((t - t % q : Nat) : Int) - X.wd + q) (bsOf q ns mpf qs))) (hw : Wr (fun k => k = p ∨ go = some k) w w') : Full w' p go X q t ns (qs.filter (inW q X.bk t)) mpf := by
  have hsub : ∀ b ∈ qs.filter (inW q X.bk t), b ∈ qs := fun b hb => (List.mem_filter.1 hb).1
  rw [stays_bs h.ok] at hsk
  refine ⟨h.ok, hsk, fun b hb => (h.nums b (hsub b hb)).of_block (hw.block _ (h.nums b (hsub b hb)).lt (fun e => ?_)), fun b hb => h.far b (hsub b hb), fun b hb b' hb' => h.inj b (hsub b hb) b' (hsub b' hb'), h.inv.forget ht, ht2⟩
  exact e.elim (h.far b (hsub b hb)).1 (h.far b (hsub b hb)).2

/-- nothing was added -/
theorem Full.nought (h : Full w p go X q t ns qs mpf) (s : ByteArray) : Full w p go X q t (ns ++ [⟨t, s, 0⟩]) qs mpf := by
  have e1 : bsOf q (ns ++ [⟨t, s, 0⟩]) mpf qs = bsOf q ns mpf qs := by
    unfold bsOf
    refine List.map_congr_left fun b _ => ?_
    rw [tot_snoc]
    simp
  refine ⟨h.ok, by rw [e1]; exact h.sk, fun b hb => (h.nums b hb).congr fun r c _ _ => ?_, h.far, h.inj, h.inv.nought s, h.late⟩
  unfold numF
  rw [cnt_snoc]
  simp

theorem beg_mul (t q : Nat) : t - t % q = t / q * q := by
  have := Nat.div_add_mod t q
  rw [Nat.mul_comm] at this
  omega

/-- behind bucket -/
def BkPost (w : World) (p : Nat) (go : Option Nat) (X : Shp) (q t : Nat) (ns : List Note) (qs : List Nat) (mpf : Nat → Nat) (e : Ending) (w' : World) : Prop :=
  ∃ g A mpf', e = .returned (.pointer (some ⟨g, A.length * 3, none⟩)) ∧ t / q ∉ A ∧ Full w' p (some g) X q t ns (A ++ [t / q]) mpf' ∧ Wr (Ft p go qs mpf) w w' ∧ ∀ k, Ft p (some g) (A ++ [t / q]) mpf' k → Ft p go qs mpf k ∨ w.heap.size ≤ k

/-- a new bucket -/
theorem new_full (h : Full w p go X q t ns qs mpf) (hq : t / q ∉ qs) {f : Nat → Bk} (hf : toL f qs.length = bsOf q ns mpf qs) {e : Ending} (hp : NewPost p go X t ((t - t % q : Nat) : Int) qs.length f w e w') : BkPost w p go X q t ns qs mpf e w' := by
  obtain ⟨g, cap, he, hb, hpp, hmm, hgp, hgm, hgo, hw⟩ := hp
  have hne : ∀ b ∈ qs, b ≠ t / q := fun b hb e => hq (e ▸ hb)
  have hmpf : ∀ b ∈ qs, mpf b = (fun b => if b = t / q then w.heap.size else mpf b) b := fun b hb => (if_neg (hne b hb)).symm
  have hmp2 : ∀ b ∈ qs, (if b = t / q then w.heap.size else mpf b) = mpf b := fun b hb => if_neg (hne b hb)
  have hml : ∀ b ∈ qs, mpf b < w.heap.size := fun b hb => (h.nums b hb).lt
  have e0 : totB q ns (t / q) = 0 := by
    have := h.inv.new hq h.ok.b1 (fun _ => true)
    simpa [totB] using this
  have hbs : bsOf q ns (fun b => if b = t / q then w.heap.size else mpf b) (qs ++ [t / q]) = toL (fun k => if k = qs.length then ⟨((t - t % q : Nat) : Int), 0, w.heap.size⟩ else f k) (qs.length + 1) := by
    rw [bs_app, toL_succ, if_pos rfl, ← bs_same q ns mpf _ qs hmpf, ← hf]
    congr 1
    · exact toL_congr fun i hi => (if_neg (by omega)).symm
    · unfold bsOf
      rw [List.map_singleton, e0, beg_mul]
      simp [sat]
  refine ⟨g, qs, (fun b => if b = t / q then w.heap.size else mpf b), he, hq, ⟨h.ok, ⟨fun e => hgp (Option.some.inj e), _, hpp, .inr ⟨g, cap, (fun k => if k = qs.length then ⟨((t - t % q : Nat) : Int), 0, w.heap.size⟩ else f k), rfl, ?_, ?_, ?_⟩⟩, fun b hb' => ?_, fun b hb' => ?_, fun b hb1 b' hb2 => ?_, h.inv.more hq h.ok.b1, h.late⟩, hw.mono (fun k e => e.elim .inl (fun e => .inr (.inl e))), fun k hk => ?_⟩
  · rw [bs_len, List.length_append]; rfl
  · rw [bs_len, List.length_append]; exact hb
  · rw [bs_len, List.length_append, hbs]; rfl
  · rcases List.mem_append.1 hb' with hb' | hb'
    · show Num w' (if b = t / q then w.heap.size else mpf b) _
      rw [hmp2 b hb']
      exact (h.nums b hb').of_block (hw.block _ (hml b hb') (fun e => e.elim (h.far b hb').1 (h.far b hb').2))
    · rw [List.mem_singleton.1 hb']
      show Num w' (if t / q = t / q then w.heap.size else mpf (t / q)) _
      rw [if_pos rfl]
      refine (Num.none hmm).congr fun r c _ _ => ?_
      unfold numF
      have := h.inv.new hq h.ok.b1 (fun x => colN X.seed X.co r x.k == c)
      unfold cntB
      rw [this]
      split <;> rfl
  · rcases List.mem_append.1 hb' with hb' | hb'
    · show (if b = t / q then w.heap.size else mpf b) ≠ p ∧ some g ≠ some (if b = t / q then w.heap.size else mpf b)
      rw [hmp2 b hb']
      refine ⟨(h.far b hb').1, fun e => ?_⟩
      have e2 := Option.some.inj e
      rcases hgo with e3 | e3
      · exact (h.far b hb').2 (by rw [e3, e2])
      · have := hml b hb'; omega
    · rw [List.mem_singleton.1 hb']
      show (if t / q = t / q then w.heap.size else mpf (t / q)) ≠ p ∧ some g ≠ some (if t / q = t / q then w.heap.size else mpf (t / q))
      rw [if_pos rfl]
      have := h.sk.lt
      exact ⟨by omega, fun e => hgm (Option.some.inj e)⟩
  · show (if b = t / q then w.heap.size else mpf b) = (if b' = t / q then w.heap.size else mpf b') → b = b'
    rcases List.mem_append.1 hb1 with hb1 | hb1 <;> rcases List.mem_append.1 hb2 with hb2 | hb2
    · rw [hmp2 b hb1, hmp2 b' hb2]
      exact h.inj b hb1 b' hb2
    · rw [List.mem_singleton.1 hb2, hmp2 b hb1, if_pos rfl]
      intro e; have := hml b hb1; omega
    · rw [List.mem_singleton.1 hb1, hmp2 b' hb2, if_pos rfl]
      intro e; have := hml b' hb2; omega
    · rw [List.mem_singleton.1 hb1, List.mem_singleton.1 hb2]; exact fun _ => rfl
  · rcases hk with e | e | ⟨b, hb', e⟩
    · exact .inl (.inl e)
    · rcases hgo with e2 | e2
      · exact .inl (.inr (.inl (by rw [e2]; exact e)))
      · exact .inr (by rw [← Option.some.inj e]; exact e2)
    · have e : (if b = t / q then w.heap.size else mpf b) = k := e
      rcases List.mem_append.1 hb' with hb' | hb'
      · rw [hmp2 b hb'] at e
        exact .inl (.inr (.inr ⟨b, hb', e⟩))
      · rw [List.mem_singleton.1 hb', if_pos rfl] at e
        exact .inr (Nat.le_of_eq e)

end Go.Proofs.YtbihelpnojjacaaGreat.SkN

/- A sketch's Add. -/
namespace Go.Proofs.YtbihelpnojjacaaGreat.SkP
open Go.ChangeShapes Go.WideShapes Go.ChangeAt Go.RowKit Base Wri Map WldF WldG SkK SkA SkB SkC SkD SkE SkF SkG SkH SkI SkJ SkL SkM SkN

variable {w w' : World} {p q last t : Nat} {go : Option Nat} {X : Shp} {ns : List Note} {qs : List Nat} {mpf : Nat → Nat}

theorem bs_at {f : Nat → Bk} (h : toL f qs.length = bsOf q ns mpf qs) {i : Nat} (hi : i < qs.length) : f i = ⟨((qs[i] * q : Nat) : Int), (sat (totB q ns qs[i]) : Nat), mpf qs[i]⟩ := by
  have h1 := toL_get h hi
  unfold bsOf at h1
  rw [List.getElem?_map, List.getElem?_eq_getElem hi] at h1
  exact (Option.some.inj h1).symm

theorem bucket_full (h : Full w p go X q t ns qs mpf) :
    Calls Tryz.prog 104 #[.pointer (some ⟨p, 0, none⟩), .int .i64 ((t - t % q : Nat) : Int)] w (BkPost w p go X q t ns qs mpf) := by
  have hlt2 := h.sk.lt2
  have hlen := h.len
  obtain ⟨hgo, v, hp, hv⟩ := h.sk
  rcases hv with ⟨rfl, rfl, h0⟩ | ⟨g, cap, f, rfl, rfl, hb, hf⟩
  · have e0 : qs = [] := by
      cases qs with
      | nil => rfl
      | cons a r => cases h0
    subst e0
    exact (bucket_nil p none 0 none X t _ (fun _ => ⟨0, 0, 0⟩) w hp hgo hlt2 (hid ⟨rfl, .inl ⟨rfl, rfl⟩⟩) (hid rfl)).mono fun e w' hh => new_full (f := fun _ => ⟨0, 0, 0⟩) h (by simp) rfl hh
  · rw [bs_len] at hp hb hf
    by_cases hn : qs = []
    · subst hn
      exact (bucket_nil p (some ⟨g, 0, none⟩) cap (some g) X t _ f w hp hgo hlt2 (hid (own_of_bk hb)) (hid rfl)).mono fun e w' hh => new_full h (by simp) hf hh
    · have hn1 : 0 < qs.length := List.length_pos_iff.2 hn
      have hil : qs.length - 1 < qs.length := by omega
      have hfl := bs_at hf hil
      obtain ⟨c0, -, -⟩ := hb.at3 _ hil
      rw [hfl] at c0
      by_cases hin : t / q ∈ qs
      · have hla := (last_is h.inv).2 hin
        have hlast : qs[qs.length - 1] = t / q := by
          rw [List.getLast?_eq_getElem?, List.getElem?_eq_getElem hil] at hla
          exact Option.some.inj hla
        have hA : qs = qs.dropLast ++ [t / q] := by
          have := List.dropLast_concat_getLast hn
          rw [List.getLast_eq_getElem, hlast] at this
          exact this.symm
        rw [hlast, ← beg_mul] at c0
        refine (bucket_same p g qs.length cap X t _ w hp hn1 (by omega) c0).mono ?_
        rintro e w' ⟨he, m, rfl⟩
        have hdl : qs.dropLast.length = qs.length - 1 := List.length_dropLast
        refine ⟨g, qs.dropLast, mpf, by rw [hdl]; exact he, ?_, ?_, (Wr.refl _ w).drewN m, ?_⟩
        · intro hm
          have hr := h.inv.rise
          rw [hA] at hr
          have := (List.pairwise_append.1 hr).2.2 _ hm _ List.mem_cons_self
          omega
        · rw [← hA]; exact h.keep fun k _ => rfl
        · rw [← hA]; exact fun k hk => .inl hk
      · have hne : qs[qs.length - 1] ≠ t / q := fun e => hin (e ▸ List.getElem_mem hil)
        refine (bucket_new p g qs.length _ cap (some g) X t _ f w hp hgo hlt2 (hid (own_of_bk hb)) (hid rfl) hn1 (by omega) c0 (fun e => hne ?_)).mono fun e w' hh => new_full h hin hf hh
        have e2 : qs[qs.length - 1] * q = t - t % q := by
          have e1 : ((qs[qs.length - 1] * q : Nat) : Int) = ((t - t % q : Nat) : Int) := e
          exact Int.ofNat.inj e1
        rw [beg_mul] at e2
        exact Nat.eq_of_mul_eq_mul_right h.ok.q0 e2

theorem add_full {A : List Nat} {g gp N : Nat} {s : ByteArray} (h : Full w p (some g) X q t ns (A ++ [t / q]) mpf) (hA : t / q ∉ A) (hp : Pl w gp X.ro X.ro (fun r => colN X.seed X.co r s)) (hd : ¬ Ft p (some g) (A ++ [t / q]) mpf gp) :
    Calls Tryz.prog 106 #[.pointer (some ⟨g, A.length * 3, none⟩), .int .i64 (sat N : Nat), .slice (some ⟨gp, 0, none⟩) X.ro X.ro] w fun e w' =>
      e = .returned (.tuple #[]) ∧ Full w' p (some g) X q t (ns ++ [⟨t, s, N⟩]) (A ++ [t / q]) mpf ∧ Wr (Ft p (some g) (A ++ [t / q]) mpf) w w' := by
  obtain ⟨hgo, v, hpp, hv⟩ := h.sk
  have hlen : (A ++ [t / q]).length = A.length + 1 := by simp
  have hmem : t / q ∈ A ++ [t / q] := by simp
  rcases hv with ⟨h0, _⟩ | ⟨g', cap, f, h0, rfl, hb, hf⟩
  · cases h0
  · cases h0
    rw [bs_len] at hpp hb hf
    have hi : A.length < (A ++ [t / q]).length := by rw [hlen]; omega
    have hfi := bs_at hf hi
    have hget : (A ++ [t / q])[A.length] = t / q := by simp
    rw [hget] at hfi
    have hfar := h.far _ hmem
    have hcol : ∀ r, r < X.ro → colN X.seed X.co r s < 4096 := fun r _ => Nat.lt_of_lt_of_le (Nat.mod_lt _ (by have := h.ok.c1; omega)) h.ok.c2
    refine (add_any (mb := mpf (t / q)) (m := numF q X ns (t / q)) g cap (A ++ [t / q]).length A.length gp X.ro (sat N) f (sat (totB q ns (t / q))) (fun r => colN X.seed X.co r s) hb hi (by rw [hfi]) (by rw [hfi]) (h.nums _ hmem) hp h.ok.r2 hcol (fun e => hfar.2 (by rw [e])) (fun e => hd (.inr (.inr ⟨_, hmem, e⟩))) (fun e => hd (.inr (.inl (by rw [e]))))).mono ?_
    rintro e w' ⟨he, hb', hN', hw⟩
    rw [sat_add, hfi] at hb'
    have hpw : w'.heap[p]? = w.heap[p]? := hw.block p h.sk.lt (fun e => e.elim (fun e => hgo (by rw [e])) (fun e => hfar.1 e.symm))
    have hne : ∀ b ∈ A, b ≠ t / q := fun b hb e => hA (e ▸ hb)
    have hbs : toL (fun k => if k = A.length then ⟨((t / q * q : Nat) : Int), (sat (totB q ns (t / q) + N) : Nat), mpf (t / q)⟩ else f k) (A ++ [t / q]).length = bsOf q (ns ++ [⟨t, s, N⟩]) mpf (A ++ [t / q]) := by
      rw [hlen, toL_succ, if_pos rfl, bs_app, bs_other q ns mpf mpf t s N A hA (fun _ _ => rfl)]
      congr 1
      · have h1 : toL f (A.length + 1) = bsOf q ns mpf A ++ bsOf q ns mpf [t / q] := by rw [← bs_app, ← hf, hlen]
        rw [toL_succ] at h1
        have h2 := List.append_inj_left h1 (by rw [toL_len, bs_len])
        rw [← h2]
        exact toL_congr fun i hi => if_neg (by omega)
      · unfold bsOf
        rw [List.map_singleton, tot_snoc, if_pos rfl]
    refine ⟨he, ⟨h.ok, ⟨hgo, _, hpw.trans hpp, .inr ⟨g, cap, (fun k => if k = A.length then ⟨((t / q * q : Nat) : Int), (sat (totB q ns (t / q) + N) : Nat), mpf (t / q)⟩ else f k), rfl, by rw [bs_len], by rw [bs_len]; exact hb', by rw [bs_len]; exact hbs⟩⟩, fun b hbm => ?_, h.far, h.inj, h.inv.there hmem s N, h.late⟩, hw.mono (fun k e => e.elim (fun e => .inr (.inl (by rw [e]))) (fun e => .inr (.inr ⟨_, hmem, e.symm⟩)))⟩
    by_cases e : b = t / q
    · subst e
      refine hN'.congr fun r c _ _ => ?_
      unfold upd numF
      rw [cnt_snoc]
      by_cases hr : r < X.ro
      · rw [if_pos hr, if_pos hr]
        by_cases hc : c = colN X.seed X.co r s
        · rw [if_pos ⟨hr, hc⟩, if_pos ⟨rfl, hc.symm⟩, sat_add]
        · rw [if_neg (fun h => hc h.2), if_neg (fun h => hc h.2.symm), Nat.add_zero]
      · rw [if_neg (fun h => hr h.1), if_neg hr, if_neg hr]
    · refine ((h.nums b hbm).of_block (hw.block _ (h.nums b hbm).lt (fun e2 => ?_))).congr fun r c _ _ => ?_
      · rcases e2 with e2 | e2
        · exact (h.far b hbm).2 (by rw [e2])
        · exact e (h.inj b hbm _ hmem e2)
      · unfold numF
        have hcn : ¬ (t / q = b ∧ colN X.seed X.co r s = c) := fun hh => e hh.1.symm
        rw [cnt_snoc, if_neg hcn, Nat.add_zero]

end Go.Proofs.YtbihelpnojjacaaGreat.SkP

/- A sketch's Add, whole. -/
namespace Go.Proofs.YtbihelpnojjacaaGreat.SkQ
open Go.ChangeShapes Go.WideShapes Go.ChangeAt Go.RowKit Base Wri Map WldF WldG SkK SkA SkB SkC SkD SkE SkF SkG SkH SkI SkJ SkL SkM SkN SkP

variable {w w' : World} {p q last t : Nat} {go : Option Nat} {X : Shp} {ns : List Note} {qs : List Nat} {mpf : Nat → Nat}

/-- behind Add -/
def AddPost (w : World) (p : Nat) (go : Option Nat) (X : Shp) (q t : Nat) (ns' : List Note) (qs : List Nat) (mpf : Nat → Nat) (w' : World) : Prop :=
  ∃ go' qs' mpf', Full w' p go' X q t ns' qs' mpf' ∧ Wr (Ft p go qs mpf) w w' ∧ ∀ k, Ft p go' qs' mpf' k → Ft p go qs mpf k ∨ w.heap.size ≤ k

theorem ft_filter (f : Nat → Bool) {k : Nat} (h : Ft p go (qs.filter f) mpf k) : Ft p go qs mpf k := by
  rcases h with e | e | ⟨b, hb, e⟩
  · exact .inl e
  · exact .inr (.inl e)
  · exact .inr (.inr ⟨b, (List.mem_filter.1 hb).1, e⟩)

set_option maxRecDepth 20000 in
set_option maxHeartbeats 2000000 in
theorem Add_yes (h : Full w p go X q last ns qs mpf) (ht : last ≤ t) (ht2 : t ≤ 1152921504606846976) (s : ByteArray) (hs : s.size ≤ maxLen) (a : Option Addr) (n cap : Nat) (f : Nat → Nat) (hn : n ≤ 9223372036854775807) (hI : Ints w a n (fun i => (f i : Int))) (hgood : goodC (fun i => (f i : Int)) n = true)
    (hfar : 0 < n → ∀ g o, a = some ⟨g, o, none⟩ → ¬ Ft p go qs mpf g) :
    Calls Tryz.prog 69 #[.pointer (some ⟨p, 0, none⟩), .int .i64 t, .string s, .slice a n cap] w fun e w' => e = .returned (.int .i64 0) ∧ AddPost w p go X q t (ns ++ [⟨t, s, sumTo f n⟩]) qs mpf w' := by
  obtain ⟨_, v, hp, _⟩ := h.sk
  have hpl := h.sk.lt
  obtain ⟨c0, c1, c2, c3, -, c5, -, hfz⟩ := sv_cells hp
  have f5 := hfz 5
  have HA := hid (areCounts_any a n cap _ w hn hI)
  rw [hgood] at HA
  have HR := hid (refuses_any p last t true w c5)
  have e : refT last t true = 0 := by unfold refT; rw [if_neg (by simp; omega), if_neg (by omega)]
  rw [e] at HR
  have H := hid h
  have hok := h.ok
  obtain ⟨W1, hW1⟩ : ∃ W1, w.setCell ⟨p, 5, none⟩ (.int .i64 t) = W1 := ⟨_, rfl⟩
  have hk1 : IsSk W1 p go X t (bsOf q ns mpf qs) := hW1 ▸ IsSk.late h.sk t
  have hw1 : Wr (fun k => k = p ∨ go = some k) w W1 := hW1 ▸ Wr.set ⟨p, 5, none⟩ _ (.inl rfl)
  obtain ⟨_, v1, hp1, _⟩ := hk1
  obtain ⟨d0, d1, d2, d3, -, -, -, -⟩ := sv_cells hp1
  have HF := hid (first_any X.wd X.bk X.ro X.co q t W1 hok.b1 hok.qe hok.q0 hok.w1 ht2)
  obtain ⟨fi, hfi⟩ : ∃ fi, ((t - t % q : Nat) : Int) - X.wd + q = fi := ⟨_, rfl⟩
  rw [hfi] at HF
  have HFi := hid hfi
  have HK1 := hid (hW1 ▸ IsSk.late h.sk t : IsSk W1 p go X t (bsOf q ns mpf qs))
  have HW1 := hid hw1
  have HW1e := hid hW1
  have HI := hid (And.intro hI hfar)
  have hlen := h.len
  clear h hp hfz hI hgood e hok hp1 hfi hw1 hfar
  unfold szv at HF
  go_enter Tryz.func69, Tryz.ntmps69
  go_wp2_with fail
  refine HA.out.mono ?_
  rintro e w1 ⟨rfl, rfl⟩
  clear HA
  go_wp2_with fail
  refine HR.out.mono ?_
  rintro e w1 ⟨rfl, rfl⟩
  clear HR
  go_wp2_with fail
  refine HF.out.mono ?_
  rintro e w2 ⟨rfl, hb2⟩
  have hk2 := HK1.out.below hb2
  have HG := hid (forget_any p go X t _ fi w2 hk2 (by rw [bs_len]; omega))
  have HB2 := hid hb2
  clear HF hb2 hk2 d0 d1 d2 d3 c0 c1 c2 c3 c5 f5
  go_wp2_with fail
  refine HG.out.mono ?_
  rintro e w3 ⟨rfl, hk3, hw3⟩
  have hw03 : Wr (fun k => k = p ∨ go = some k) w w3 := (HW1.out.trans (Wr.ofBelow HB2.out)).trans hw3
  have hF3 : Full w3 p go X q t ns (qs.filter (inW q X.bk t)) mpf := SkN.Full.forgot H.out ht ht2 (by rw [HFi.out]; exact hk3) hw03
  have hfoot3 : ∀ k, (k = p ∨ go = some k) → Ft p go qs mpf k := fun k e => e.elim .inl (fun e => .inr (.inl e))
  have hI3 : Ints w3 a n (fun i => (f i : Int)) := fun h0 => by
    obtain ⟨g, o, e, hg, hc⟩ := HI.out.1 h0
    exact ⟨g, o, e, Nat.lt_of_lt_of_le hg hw03.size, fun i hi => (hw03.cell (o + i) hg (fun e2 => HI.out.2 h0 g o e (hfoot3 g e2))).trans (hc i hi)⟩
  have HPl := hid (plus_any a n cap f w3 hn hI3)
  have HF3 := hid hF3
  have HW3 := hid (hw03.mono hfoot3)
  clear HG hk3 hw3 hw03 hF3 hI3 hfoot3
  go_wp2_with fail
  refine HPl.out.mono ?_
  rintro e w3' ⟨rfl, rfl⟩
  clear HPl
  obtain ⟨N, hN⟩ : ∃ N, sumTo f n = N := ⟨_, rfl⟩
  rw [hN]
  have HN := hid hN
  clear hN
  by_cases h0 : N = 0
  · subst h0
    have e0 : sat 0 = 0 := rfl
    rw [e0]
    go_wp2_with fail
    go_ret
    refine ⟨rfl, go, qs.filter (inW q X.bk t), mpf, ?_, HW3.out, fun k hk => .inl (ft_filter _ hk)⟩
    rw [HN.out]
    exact SkN.Full.nought HF3.out s
  · have hpos : 0 < sat N := sat_pos.2 (by omega)
    have HMore := hid hpos
    obtain ⟨more, hmore⟩ : ∃ more, sat N = more := ⟨_, rfl⟩
    rw [hmore] at hpos ⊢
    have HMo := hid hmore
    obtain ⟨_, v3, hp3, _⟩ := HF3.out.sk
    obtain ⟨e0, e1, e2, e3, -, -, -, -⟩ := sv_cells hp3
    have hok := HF3.out.ok
    have HBe := hid (begin_any X.wd X.bk X.ro X.co q t w3 hok.b1 hok.qe hok.q0 hok.w1 ht2)
    unfold szv at HBe
    have hm1 : decide ((0 : Int) < (more : Int)) = true := by simp; omega
    clear hmore h0 hp3 hok
    go_wp2_with fail
    refine HBe.out.mono ?_
    rintro e w4 ⟨rfl, hb4⟩
    have hF4 := HF3.out.below hb4
    have HBu := hid (bucket_full hF4)
    have HF4 := hid hF4
    have HB4 := hid hb4
    clear HBe hb4 hF4 e0 e1 e2 e3
    go_wp2_with fail
    refine HBu.out.mono ?_
    rintro e w5 ⟨g, A, mpf', rfl, hA, hF5, hw5, hft5⟩
    have HF5 := hid hF5
    obtain ⟨_, v5, hp5, _⟩ := hF5.sk
    obtain ⟨-, -, g2, g3, g4, -, -, -⟩ := sv_cells hp5
    have HPc := hid (places_any p X.seed X.ro X.co s w5 hs ⟨hF5.ok.r1, hF5.ok.r2⟩ ⟨hF5.ok.c1, hF5.ok.c2⟩ g2 g3 g4)
    have HA := hid hA
    have HW5 : Hid (Wr (Ft p go qs mpf) w w5) := hid ((HW3.out.trans (Wr.ofBelow HB4.out)).trans (hw5.mono fun k hk => ft_filter _ hk))
    have HFt5 : Hid (∀ k, Ft p (some g) (A ++ [t / q]) mpf' k → Ft p go qs mpf k ∨ w.heap.size ≤ k) := hid fun k hk => (hft5 k hk).imp (ft_filter _) (fun e => Nat.le_trans (Nat.le_trans HW3.out.size HB4.out.size) e)
    clear HBu hp5 hF5 hw5 hft5 hA g2 g3 g4
    go_wp2_with fail
    refine HPc.out.mono ?_
    rintro e w6 ⟨gp, rfl, hgp, hpl6, hb6⟩
    have hF6 := HF5.out.below hb6
    have hd6 : ¬ Ft p (some g) (A ++ [t / q]) mpf' gp := fun hh => by have := HF5.out.lt hh; omega
    have HAd := hid (add_full (N := N) hF6 HA.out hpl6 hd6)
    rw [HMo.out] at HAd
    have HW6 : Hid (Wr (Ft p go qs mpf) w w6) := hid (HW5.out.trans (Wr.ofBelow hb6))
    clear HPc hgp hpl6 hb6 hF6 hd6
    go_wp2_with fail
    refine HAd.out.mono ?_
    rintro e w7 ⟨rfl, hF7, hw7⟩
    have HEnd : Hid (AddPost w p go X q t (ns ++ [⟨t, s, N⟩]) qs mpf w7) := hid ⟨some g, _, mpf', hF7, HW6.out.on hw7 HFt5.out, HFt5.out⟩
    clear HAd hF7 hw7
    go_wp2_with fail
    go_ret
    refine ⟨rfl, ?_⟩
    rw [HN.out]
    exact HEnd.out

set_option maxHeartbeats 1000000 in
theorem Add_no (h : w.cell? ⟨p, 5, none⟩ = some (.int .i64 last)) (tt : Int) (s : ByteArray) (a : Option Addr) (n cap : Nat) (f : Nat → Int) (hn : n ≤ 9223372036854775807) (hI : Ints w a n f) (r : Int) (hr : refT last tt (goodC f n) = r) (hr0 : r ≠ 0) :
    Calls Tryz.prog 69 #[.pointer (some ⟨p, 0, none⟩), .int .i64 tt, .string s, .slice a n cap] w fun e w' => e = .returned (.int .i64 r) ∧ w = w' := by
  have HA := hid (areCounts_any a n cap _ w hn hI)
  have HR := hid (refuses_any p last tt (goodC f n) w h)
  rw [hr] at HR
  generalize goodC f n = b at HA HR
  have hrb : (r != 0) = true := by simpa using hr0
  clear hr hI h
  go_enter Tryz.func69, Tryz.ntmps69
  go_wp2_with fail
  refine HA.out.mono ?_
  rintro e w1 ⟨rfl, rfl⟩
  go_wp2_with fail
  refine HR.out.mono ?_
  rintro e w1 ⟨rfl, rfl⟩
  go_wp2_with fail
  go_ret
  exact ⟨rfl, rfl⟩

end Go.Proofs.YtbihelpnojjacaaGreat.SkQ

/- What must be of a sketch whatever is asked; where there is none. -/
namespace Go.Proofs.YtbihelpnojjacaaGreat.SkR
open Go.ChangeShapes Go.WideShapes Go.ChangeAt Go.RowKit Base Wri Map WldF WldG SkK SkA SkB SkC SkD SkE SkF SkG SkH SkI SkJ SkL SkM SkN SkP SkQ

variable {w w' : World} {p q last t : Nat} {go : Option Nat} {X : Shp} {ns : List Note} {qs : List Nat} {mpf : Nat → Nat}

/-- a sketch that a call owns -/
structure Own (w0 w : World) (p : Nat) (go : Option Nat) (X : Shp) (q last : Nat) (ns : List Note) (qs : List Nat) (mpf : Nat → Nat) : Prop where
  full : Full w p go X q last ns qs mpf
  up : ∀ k, Ft p go qs mpf k → w0.heap.size ≤ k
  bel : Below w0.heap.size w0 w

theorem Own.below {w0 : World} (h : Own w0 w p go X q last ns qs mpf) (hb : Below w.heap.size w w') : Own w0 w' p go X q last ns qs mpf := ⟨h.full.below hb, h.up, h.bel.trans (hb.mono h.bel.size)⟩
theorem Own.added {w0 : World} {ns' : List Note} (h : Own w0 w p go X q last ns qs mpf) (ha : AddPost w p go X q t ns' qs mpf w') : ∃ go' qs' mpf', Own w0 w' p go' X q t ns' qs' mpf' := by
  obtain ⟨go', qs', mpf', h1, h2, h3⟩ := ha
  refine ⟨go', qs', mpf', h1, fun k hk => (h3 k hk).elim (h.up k) (fun e => Nat.le_trans h.bel.size e), h.bel.trans (h2.below _ h.bel.size h.up)⟩

def lX : Shp := ⟨1000000, 10, 2, 64, 1⟩
theorem lok : Ok lX 100000 := by constructor <;> decide
def lN : List Note := [⟨0, ⟨#[97]⟩, 3⟩]

theorem row_in (t r : Nat) (h : t / 100000 < 10) : rowN 100000 lX lN t r (colN lX.seed lX.co r ⟨#[97]⟩) = 3 := by
  have : inW 100000 lX.bk t 0 = true := decide_eq_true (by show t / 100000 < 0 + 10; omega)
  unfold rowN lN
  rw [sumN_cons, sumN_nil]
  simp [this, sat]
theorem row_out (t r : Nat) (h : 10 ≤ t / 100000) : rowN 100000 lX lN t r (colN lX.seed lX.co r ⟨#[97]⟩) = 0 := by
  have : inW 100000 lX.bk t 0 = false := decide_eq_false (by show ¬ t / 100000 < 0 + 10; omega)
  unfold rowN lN
  rw [sumN_cons, sumN_nil]
  simp [this, sat]
theorem est_in : estN 100000 lX lN 999999 ⟨#[97]⟩ = 3 := by
  unfold estN
  show least 2 _ = 3
  rw [least_succ, least_succ, row_in 999999 0 (by decide), row_in 999999 1 (by decide)]
  rfl
theorem est_out : estN 100000 lX lN 1000000 ⟨#[97]⟩ = 0 := by
  unfold estN
  show least 2 _ = 0
  rw [least_succ, least_succ, row_out 1000000 0 (by decide), row_out 1000000 1 (by decide)]
  rfl
theorem tot_in : totalN 100000 lX.bk lN 5 = 3 := by
  have : inW 100000 lX.bk 5 0 = true := by decide
  unfold totalN lN
  rw [sumN_cons, sumN_nil]
  simp [this, sat]

theorem hash_a : hashN ⟨#[97]⟩ = 12638187200555641996 := by decide +kernel

theorem good_two : goodC (fun i => (((fun i => if i = 0 then 1 else 2) i : Nat) : Int)) 2 = true := by
  unfold goodC
  rw [decide_eq_true_iff]
  intro i hi
  rcases (show i = 0 ∨ i = 1 by omega) with rfl | rfl <;> decide

end Go.Proofs.YtbihelpnojjacaaGreat.SkR

/- SketchNone. -/
namespace Go.Proofs.YtbihelpnojjacaaGreat.SkS
set_option linter.unusedVariables false
open Go.ChangeShapes Go.WideShapes Go.ChangeAt Go.RowKit Base Wri Map WldF WldG SkK SkA SkB SkC SkD SkE SkF SkG SkH SkI SkJ SkL SkM SkN SkP SkQ SkR

theorem one_int (w : World) : Ints (w.alloc (.cells #[.int .i64 1] 3)) (some ⟨w.heap.size, 0, none⟩) 1 (fun _ => 1) := fun _ => ⟨w.heap.size, 0, rfl, by simp, fun i hi => by
  have hnp := heap_alloc_new w (.cells #[.int .i64 1] 3)
  rcases (show i = 0 by omega) with rfl
  unfold World.cell?; rw [hnp]; rfl⟩

end Go.Proofs.YtbihelpnojjacaaGreat.SkS

/- What the laws of sketches open; a call of Add, whatever comes; New where the numbers may not be. -/
namespace Go.Proofs.YtbihelpnojjacaaGreat.SkT
open Go.ChangeShapes Go.WideShapes Go.ChangeAt Go.RowKit Go.Deep Base Wri Map WldG SkK SkA SkB SkC SkD SkE SkF SkG SkH SkI SkJ SkL SkM SkN SkP SkQ SkR Opn

variable {w w' w0 : World} {p q last t : Nat} {go : Option Nat} {X : Shp} {ns : List Note} {qs : List Nat} {mpf : Nat → Nat}

theorem inB_iff {x m : Int} (h : inB x m = true) : 1 ≤ x ∧ x ≤ m := by
  unfold inB at h
  simp at h
  exact h

theorem refZ_ok (wd bk ro co : Int) (sd : Nat) (h : refZ wd bk ro co = 0) : ∃ (X : Shp) (q : Nat), Ok X q ∧ wd = X.wd ∧ bk = X.bk ∧ ro = X.ro ∧ co = X.co ∧ X.seed = sd := by
  unfold refZ at h
  split at h
  · rename_i hb
    simp only [Bool.and_eq_true] at hb
    obtain ⟨⟨⟨h1, h2⟩, h3⟩, h4⟩ := hb
    have h1 := inB_iff h1
    have h2 := inB_iff h2
    have h3 := inB_iff h3
    have h4 := inB_iff h4
    split at h
    · rename_i hd
      obtain ⟨W, rfl⟩ : ∃ W : Nat, wd = W := ⟨wd.toNat, by omega⟩
      obtain ⟨B, rfl⟩ : ∃ B : Nat, bk = B := ⟨bk.toNat, by omega⟩
      obtain ⟨R, rfl⟩ : ∃ R : Nat, ro = R := ⟨ro.toNat, by omega⟩
      obtain ⟨C, rfl⟩ : ∃ C : Nat, co = C := ⟨co.toNat, by omega⟩
      have hd2 : W % B = 0 := by
        have : ((W % B : Nat) : Int) = 0 := by rw [Int.natCast_emod]; exact hd
        omega
      have hW : W = W / B * B := by
        have := Nat.div_add_mod W B
        rw [hd2, Nat.mul_comm] at this
        omega
      have hq : 0 < W / B := by
        rcases Nat.eq_zero_or_pos (W / B) with e | e
        · rw [e] at hW; omega
        · exact e
      exact ⟨⟨W, B, R, C, sd⟩, W / B, ⟨by dsimp only; omega, by dsimp only; omega, by dsimp only; omega, by dsimp only; omega, by dsimp only; omega, by dsimp only; omega, by dsimp only; omega, rfl, hW, hq⟩, rfl, rfl, rfl, rfl, rfl⟩
    · omega
  · omega

set_option maxRecDepth 20000 in
set_option maxHeartbeats 1000000 in
theorem New_no (wd bk ro co sd r : Int) (hr : refZ wd bk ro co = r) (h0 : r ≠ 0) (w : World) :
    Calls Tryz.prog 28 #[.int .i64 wd, .int .i64 bk, .int .i64 ro, .int .i64 co, .int .u64 sd] w fun e w' => e = .returned (.tuple #[.pointer none, .int .i64 r]) ∧ Below w.heap.size w w' := by
  have HR := hid (refused_any wd bk ro co (w.alloc (.cells #[.int .i64 wd, .int .i64 bk, .int .i64 ro, .int .i64 co] 114)))
  rw [hr] at HR
  have hrb : (r != 0) = true := by simpa using h0
  clear hr h0
  unfold szv at HR
  go_enter Tryz.func28, Tryz.ntmps28
  go_wp2_with fail
  refine HR.out.mono ?_
  rintro e w1 ⟨rfl, hb1⟩
  have HB1 : Hid (Below w.heap.size w w1) := hid (((Below.refl _ w).alloc (Nat.le_refl _) _).trans (hb1.mono (by simp)))
  clear hb1 HR
  go_wp2_with fail
  go_ret2
  exact ⟨rfl, HB1.out⟩

/-- whatever New says -/
theorem New_any (wd bk ro co : Int) (sd : Nat) (w : World) :
    Calls Tryz.prog 28 #[.int .i64 wd, .int .i64 bk, .int .i64 ro, .int .i64 co, .int .u64 sd] w fun e w' =>
      (refZ wd bk ro co = 0 ∧ ∃ (X : Shp) (q p : Nat), wd = X.wd ∧ bk = X.bk ∧ ro = X.ro ∧ co = X.co ∧ X.seed = sd ∧ e = .returned (.tuple #[.pointer (some ⟨p, 0, none⟩), .int .i64 0]) ∧ Own w w' p none X q 0 [] [] (fun _ => 0)) ∨
      (refZ wd bk ro co ≠ 0 ∧ e = .returned (.tuple #[.pointer none, .int .i64 (refZ wd bk ro co)]) ∧ Below w.heap.size w w') := by
  by_cases h : refZ wd bk ro co = 0
  · obtain ⟨X, q, ho, rfl, rfl, rfl, rfl, rfl⟩ := refZ_ok wd bk ro co sd h
    refine (New_yes X q ho w).mono ?_
    rintro e w1 ⟨p, rfl, hp, hf, hb⟩
    refine .inl ⟨h, X, q, p, rfl, rfl, rfl, rfl, rfl, rfl, hf, (fun k hk => by
      rcases hk with e | e | e
      · omega
      · cases e
      · rcases e with ⟨b, hb', _⟩; cases hb'), hb⟩
  · refine (New_no wd bk ro co sd _ rfl h w).mono ?_
    rintro e w1 ⟨rfl, hb⟩
    exact .inr ⟨h, rfl, hb⟩

theorem ints_below {a : Option Addr} {n : Nat} {f : Nat → Int} (h : Ints w a n f) (hb : Below w.heap.size w w') : Ints w' a n f := fun h0 => by
  obtain ⟨g, o, rfl, hg, hc⟩ := h h0
  exact ⟨g, o, rfl, Nat.lt_of_lt_of_le hg hb.size, fun i hi => (hb.cell (p := ⟨g, o + i, none⟩) hg).trans (hc i hi)⟩

theorem good_iff {f : Nat → Int} {n : Nat} : goodC f n = true ↔ ∀ i, i < n → 0 ≤ f i ∧ f i ≤ 1099511627776 := by
  unfold goodC badC
  rw [decide_eq_true_iff]
  refine ⟨fun h i hi => ?_, fun h i hi => ?_⟩
  · have := h i hi
    rw [decide_eq_false_iff_not] at this
    omega
  · have := h i hi
    rw [decide_eq_false_iff_not]
    omega

/-- what is kept behind an Add -/
noncomputable def lastA (last : Nat) (t : Int) (f : Nat → Int) (n : Nat) : Nat := if refT last t (goodC f n) = 0 then t.toNat else last
noncomputable def notesA (last : Nat) (ns : List Note) (t : Int) (s : ByteArray) (f : Nat → Int) (n : Nat) : List Note := if refT last t (goodC f n) = 0 then ns ++ [⟨t.toNat, s, SkD.sumTo (fun i => (f i).toNat) n⟩] else ns

theorem refT_zero {last : Nat} {t : Int} {b : Bool} (h : refT last t b = 0) : b = true ∧ 0 ≤ t ∧ t ≤ 1152921504606846976 ∧ (last : Int) ≤ t := by
  unfold refT at h
  split at h
  · omega
  · rename_i h1
    split at h
    · omega
    · cases b
      · simp at h1
      · exact ⟨rfl, by omega, by omega, by omega⟩

theorem Add_any (hO : Own w0 w p go X q last ns qs mpf) (t : Int) (s : ByteArray) (hs : s.size ≤ maxLen) (a : Option Addr) (n cap : Nat) (f : Nat → Int) (hn : n ≤ 9223372036854775807) (hI : Ints w0 a n f) :
    Calls Tryz.prog 69 #[.pointer (some ⟨p, 0, none⟩), .int .i64 t, .string s, .slice a n cap] w fun e w' =>
      e = .returned (.int .i64 (refT last t (goodC f n))) ∧ ∃ go' qs' mpf', Own w0 w' p go' X q (lastA last t f n) (notesA last ns t s f n) qs' mpf' := by
  have hI2 : Ints w a n f := ints_below hI hO.bel
  unfold lastA notesA
  by_cases h : refT last t (goodC f n) = 0
  · obtain ⟨hg, h1, h2, h3⟩ := refT_zero h
    rw [h, if_pos rfl, if_pos rfl]
    have hge := good_iff.1 hg
    have hg2 : goodC (fun i => (((fun i => (f i).toNat) i : Nat) : Int)) n = true := good_iff.2 fun i hi => by have := hge i hi; show 0 ≤ (((f i).toNat : Nat) : Int) ∧ (((f i).toNat : Nat) : Int) ≤ 1099511627776; omega
    have hI3 : Ints w a n (fun i => (((fun i => (f i).toNat) i : Nat) : Int)) := fun h0 => by
      obtain ⟨g, o, rfl, hgl, hc⟩ := hI2 h0
      refine ⟨g, o, rfl, hgl, fun i hi => ?_⟩
      have := hge i hi
      rw [hc i hi]
      show some (Value.int .i64 (f i)) = some (Value.int .i64 (((f i).toNat : Nat) : Int))
      rw [show (((f i).toNat : Nat) : Int) = f i by omega]
    have H := Add_yes hO.full (t := t.toNat) (by omega) (by omega) s hs a n cap (fun i => (f i).toNat) hn hI3 hg2 (fun h0 g o e hk => by
      obtain ⟨g2, o2, e2, hgl, _⟩ := hI h0
      rw [e] at e2; cases e2
      have := hO.up g hk; omega)
    rw [show ((t.toNat : Nat) : Int) = t by omega] at H
    refine H.mono ?_
    rintro e w1 ⟨rfl, ha⟩
    exact ⟨rfl, hO.added ha⟩
  · rw [if_neg h, if_neg h]
    obtain ⟨_, v, hp, _⟩ := hO.full.sk
    obtain ⟨-, -, -, -, -, c5, -, -⟩ := sv_cells hp
    refine (Add_no c5 t s a n cap f hn hI2 _ rfl h).mono ?_
    rintro e w1 ⟨rfl, rfl⟩
    exact ⟨rfl, go, qs, mpf, hO⟩

/-- a deed -/
structure Deed where
  kind : Int
  t : Int
  key : ByteArray
  a : Option Addr
  n : Nat
  cap : Nat
  f : Nat → Int

def dw (d : Deed) : Array Value := #[.int .i64 d.kind, .int .i64 d.t, .string d.key, .slice d.a d.n d.cap]

def Deeds (w : World) (a : Option Addr) (len : Nat) (D : Nat → Deed) : Prop :=
  len ≤ 9223372036854775807 ∧ (0 < len → ∃ p q, a = some ⟨p, q, none⟩ ∧ p < w.heap.size ∧ ∀ i, i < len → ∀ (j : Nat) v, (dw (D i))[j]? = some v → w.cell? ⟨p, q + i * 4 + j, none⟩ = some v) ∧
  ∀ i, i < len → (D i).key.size ≤ maxLen ∧ (D i).n ≤ 9223372036854775807 ∧ Ints w (D i).a (D i).n (D i).f

theorem deeds_below {a : Option Addr} {len : Nat} {D : Nat → Deed} (h : Deeds w a len D) (hb : Below w.heap.size w w') : Deeds w' a len D := by
  obtain ⟨h1, h2, h3⟩ := h
  refine ⟨h1, fun h0 => ?_, fun i hi => ⟨(h3 i hi).1, (h3 i hi).2.1, ints_below (h3 i hi).2.2 hb⟩⟩
  obtain ⟨p, q, rfl, hp, hc⟩ := h2 h0
  exact ⟨p, q, rfl, Nat.lt_of_lt_of_le hp hb.size, fun i hi j v hv => (hb.cell (p := ⟨p, q + i * 4 + j, none⟩) hp).trans (hc i hi j v hv)⟩

theorem ints_of {H : Type} {enc : TypeId × Value → H} {w : World} {base : Nat} {spare : Nat → Bool} {held : Bool} {k : Nat} {v : Value} {z : DataW H × List MemPlace}
    (h : DataW.trod enc Tryz.prog w base spare held k 105 [v] = some z) :
    ∃ (a : Option Addr) (n cap : Nat) (f : Nat → Int), v = .slice a n cap ∧ n ≤ 9223372036854775807 ∧ Ints w a n f := by
  rcases open_ints Tryz.underlying105 Tryz.underlying3 (by kernel_rfl) h with ⟨hn, _⟩ | ⟨a, l, c, zs, hcs, _, hl, hm, hz, _, hc, _⟩
  · simp at hn
    exact ⟨none, 0, 0, fun _ => 0, hn, by omega, fun h => by omega⟩
  · simp at hcs
    have hlz : l ≤ zs.length := by rw [hz]; split <;> omega
    unfold maxLen at hm
    refine ⟨some a, l, c, fun i => zs.getD i 0, hcs, by omega, fun h0 => ?_⟩
    obtain ⟨b, off, spot⟩ := a
    have h00 := hc 0 (by omega)
    have hspot : spot = none := by simpa [Addr.add] using World.cell?_spot h00
    subst hspot
    refine ⟨b, off, rfl, by have := World.block_lt_of_cell? _ _ h00; simpa [Addr.add] using this, fun i h => ?_⟩
    have := hc i (by omega)
    rwa [Go.WideShapes.add_plain] at this

theorem arg_at {H : Type} {enc : TypeId × Value → H} {P : Program} {w : World} {base : Nat} {spare : Nat → Bool} {held : Bool} {e : TypeId} {fs : Array Field} {n : Nat} {cs : List Value} {y : DataW H × List MemPlace} (he : P.underlying e = some (.struct fs)) (hone : oneCellFields P fs = true) (hC : P.cellsOf e = fs.size)
    (ht : DataW.trod enc P w base spare held n e cs = some y) (j : Nat) (f : Field) (hj : fs[j]? = some f) :
    ∃ v z k, cs[j]? = some v ∧ DataW.trod enc P w base spare held k f.type [v] = some z := by
  obtain ⟨xs, k, _, _, hlen, hxl, hg⟩ := DataW.trod_struct he ht
  obtain ⟨o1, o2⟩ := hone_of hone j f hj
  have hjs : j < fs.size := (Array.getElem?_eq_some_iff.1 hj).1
  have hjc : j < cs.length := by omega
  have hg := hg j f hj
  rw [o1, o2, List.drop_eq_getElem_cons hjc] at hg
  simp only [List.take_succ_cons, List.take_zero] at hg
  obtain ⟨z, hz⟩ : ∃ z, xs[j]? = some z := ⟨xs[j]'(by omega), List.getElem?_eq_getElem (by omega)⟩
  exact ⟨cs[j], z, k, List.getElem?_eq_getElem hjc, by rw [hg, hz]⟩

end Go.Proofs.YtbihelpnojjacaaGreat.SkT

/- The document's sketch: hash, column, window, sums. -/
namespace Go.Proofs.YtbihelpnojjacaaGreat.SruA
open Go.ChangeShapes Go.WideShapes Go.ChangeAt Go.RowKit Go.Deep Base Wri Map WldA WldF WldG SkK SkA SkB SkC SkD SkE SkF SkG SkH SkI SkJ SkL SkM SkN SkP SkQ SkR SkS SkT
set_option linter.unusedVariables false

set_option maxRecDepth 20000 in
set_option maxHeartbeats 400000 in
theorem rhash_core (c : Nat) (HC0 : Hid ((14695981039346656037 : Int) = (c : Int))) (s : ByteArray) (HS : Hid (∀ k, (h : k < s.size) → ((hashTo c s (k + 1) : Nat) : Int) = IntKind.u64.wrap (bits .xor .u64 (hashTo c s k : Int) (IntKind.u64.wrap (s[k].toNat : Int)) * 1099511628211))) (w : World) (hs : s.size ≤ maxLen) :
    Calls Tryz.prog 143 #[.string s] w fun e w' => e = .returned (.int .u64 (s.data.toList.foldl hstep c : Nat)) ∧ w = w' := by
  unfold maxLen at hs
  go_enter Tryz.func143, Tryz.ntmps143
  go_wp2
  go_loop [3, 4] (fun h i => ∃ k : Nat, k ≤ s.size ∧ h = .int .u64 (hashTo c s k : Nat) ∧ i = .int .i64 k) (fun _ i => s.size - (intOf i).toNat)
  case atStart => exact ⟨0, Nat.zero_le _, by rw [HC0.out]; rfl, rfl⟩
  case round =>
    obtain ⟨k, hk, rfl, rfl⟩ := hrel
    by_cases hlt : k < s.size
    · have HE := hid (HS.out k hlt)
      obtain ⟨h, hh⟩ : ∃ h, hashTo c s k = h := ⟨_, rfl⟩
      rw [hh] at HE ⊢
      clear hh
      go_wp2
      exact ⟨⟨k + 1, by omega, by rw [HE.out], by go_num⟩, by simp [intOf]; omega⟩
    · obtain rfl : k = s.size := by omega
      rw [hashTo_all]
      go_wp2
      go_ret
      exact ⟨rfl, rfl⟩

theorem rhash_any (s : ByteArray) (w : World) (hs : s.size ≤ maxLen) :
    Calls Tryz.prog 143 #[.string s] w fun e w' => e = .returned (.int .u64 (hashN s)) ∧ w = w' :=
  rhash_core 14695981039346656037 (hid rfl) s (hid fun k h => hashTo_succ _ (by decide) s k h) w hs

set_option maxHeartbeats 400000 in
theorem rmix_look (x : Nat) (hx : x < 18446744073709551616) (w : World) :
    Calls Tryz.prog 144 #[.int .u64 x] w fun e w' => e = .returned (.int .u64 (mixN x)) ∧ w = w' := by
  have e := mix_eq x hx
  clear hx
  go_enter Tryz.func144, Tryz.ntmps144
  go_wp2
  go_ret
  exact ⟨rfl, rfl⟩

theorem ret_bool {a b : Bool} (h : a = b) : Ending.returned (.bool a) = .returned (.bool b) := by rw [h]
theorem ret_int {k : IntKind} {a b : Int} (h : a = b) : Ending.returned (.int k a) = .returned (.int k b) := by rw [h]
theorem col_eq (y cols : Nat) (hc : 1 ≤ cols ∧ cols ≤ 4096) : wrap64 ((y : Int) % (cols : Int)) = ((y % cols : Nat) : Int) := by
  have h0 : y % cols < cols := Nat.mod_lt _ (by omega)
  have e : (y : Int) % (cols : Int) = ((y % cols : Nat) : Int) := rfl
  rw [e]
  generalize y % cols = r at *
  unfold wrap64
  omega

theorem sum_core (C b d k : Nat) (hb : b < 18446744073709551616) (hd : d < 18446744073709551616) : IntKind.u64.wrap (IntKind.u64.wrap ((b : Int) + (d : Int)) + IntKind.u64.wrap ((C : Int) * ((k : Int) + 1))) = (((((b + d) % 18446744073709551616) + C * (k + 1)) % 18446744073709551616 : Nat) : Int) := by
  rw [IntKind.wrap_u64, IntKind.wrap_u64, IntKind.wrap_u64, Int.natCast_emod, Int.natCast_add, Int.natCast_mul, Int.natCast_add, Int.natCast_emod, Int.natCast_add, Int.emod_add_emod, Int.add_emod_emod]
  exact (Int.emod_add_emod ..).symm

theorem rsum_eq (s : ByteArray) (seed r : Nat) (hs : seed < 18446744073709551616) : IntKind.u64.wrap (IntKind.u64.wrap ((hashN s : Int) + (seed : Int)) + IntKind.u64.wrap (11400714819323198485 * ((r : Int) + 1))) = ((argN (baseN s seed) r : Nat) : Int) := sum_core 11400714819323198485 (hashN s) seed r (hash_lt s) hs

set_option maxRecDepth 20000 in
set_option maxHeartbeats 1000000 in
theorem column_core (p seed r cols : Nat) (s : ByteArray) (w : World) (hs : s.size ≤ maxLen) (hr : r ≤ 8) (hc : 1 ≤ cols ∧ cols ≤ 4096) (hseed : seed < 18446744073709551616)
    (c3 : w.cell? ⟨p, 3, none⟩ = some (.int .i64 cols)) (c4 : w.cell? ⟨p, 4, none⟩ = some (.int .u64 seed)) :
    Calls Tryz.prog 112 #[.pointer (some ⟨p, 0, none⟩), .int .i64 r, .string s] w fun e w' => e = .returned (.int .i64 (colN seed cols r s)) ∧ ∃ m, w.drewN m = w' := by
  have HH := hid (fun w => rhash_any s w hs)
  have HM := hid (fun w => rmix_look (argN (baseN s seed) r) (arg_lt _ _) w)
  have HE := hid (rsum_eq s seed r hseed)
  have HC : Hid (colN seed cols r s = mixN (argN (baseN s seed) r) % cols) := hid rfl
  generalize argN (baseN s seed) r = x at *
  generalize hashN s = h at *
  go_enter Tryz.func112, Tryz.ntmps112
  go_wp2_with fail
  go_quiet ((go_at_call 143; exact Calls.quiet_of_same ((HH.out _).mono fun _ _ h => ⟨h.1, h.2.symm⟩)))
  rw [HE.out]
  have k3 : (w.drewN nq).cell? ⟨p, 3, none⟩ = some (.int .i64 cols) := c3
  have HD : Hid (∃ m, w.drewN m = w.drewN nq) := hid ⟨nq, rfl⟩
  clear HE HH c3 c4
  obtain ⟨y, hy⟩ : ∃ y, mixN x = y := ⟨_, rfl⟩
  rw [hy] at HM HC
  clear hy
  have hwe : ∀ z : Nat, (z : Int) % (cols : Int) = ((z % cols : Nat) : Int) := fun z => rfl
  have hyc : y % cols < cols := Nat.mod_lt _ (by omega)
  have HYC := hid hyc
  generalize w.drewN nq = wd at *
  clear hwe hyc
  go_wp2_with fail
  go_quiet ((go_at_call 144; exact Calls.quiet_of_same ((HM.out _).mono fun _ _ h => ⟨h.1, h.2.symm⟩)))
  go_wp2_with fail
  go_ret
  refine ⟨?_, by obtain ⟨m, hm⟩ := HD.out; exact ⟨m + nq, by rw [← hm, World.drewN_drewN]⟩⟩
  rw [HC.out, ← col_eq y cols hc]
  rfl

set_option maxRecDepth 20000 in
set_option maxHeartbeats 1000000 in
theorem in_any (p q wd bk t at_ : Nat) (w : World) (hb : 1 ≤ bk ∧ bk ≤ 60) (hq : 0 < q) (hw : wd = q * bk) (hwm : wd ≤ 1099511627776) (ht : t ≤ 1152921504606846976) (ha : at_ ≤ 1152921504606846976)
    (c0 : w.cell? ⟨p, 0, none⟩ = some (.int .i64 wd)) (c1 : w.cell? ⟨p, 1, none⟩ = some (.int .i64 bk)) :
    Calls Tryz.prog 113 #[.pointer (some ⟨p, 0, none⟩), .int .i64 t, .int .i64 at_] w fun e w' => e = .returned (.bool (decide (t / q ≤ at_ / q) && inW q bk at_ (t / q))) ∧ ∃ m, w.drewN m = w' := by
  have hqe : (wd : Int) / (bk : Int) = (q : Int) := by
    have : wd / bk = q := by rw [hw]; exact Nat.mul_div_cancel _ (by omega)
    omega
  obtain ⟨u, hu⟩ : ∃ u, t / q = u := ⟨_, rfl⟩
  obtain ⟨v, hv⟩ : ∃ v, at_ / q = v := ⟨_, rfl⟩
  have hue : (t : Int) / (q : Int) = (u : Int) := by rw [← hu]; rfl
  have hve : (at_ : Int) / (q : Int) = (v : Int) := by rw [← hv]; rfl
  have hul : u ≤ 1152921504606846976 := by rw [← hu]; exact Nat.le_trans (Nat.div_le_self _ _) ht
  have hvl : v ≤ 1152921504606846976 := by rw [← hv]; exact Nat.le_trans (Nat.div_le_self _ _) ha
  have HW : Hid (inW q bk at_ u = decide (v < u + bk)) := hid (by unfold inW; rw [hv])
  rw [hu, hv, HW.out]
  have hqm : q ≤ 1099511627776 := by
    have : q * 1 ≤ q * bk := Nat.mul_le_mul_left _ (by omega)
    omega
  clear hu hv hw
  have hbk0 : ¬ ((bk : Int) = 0) := by omega
  have hq0 : ¬ ((q : Int) = 0) := by omega
  by_cases h1 : u ≤ v
  · have d1 : decide ((u : Int) ≤ (v : Int)) = true := by simp; omega
    rw [decide_eq_true h1, Bool.true_and]
    go_enter Tryz.func113, Tryz.ntmps113
    go_wp2_with fail
    go_quiet (fail)
    have k1 : (w.drewN nq).cell? ⟨p, 1, none⟩ = some (.int .i64 bk) := c1
    have HD : Hid (∃ m, w.drewN m = w.drewN nq) := hid ⟨nq, rfl⟩
    clear c0 c1
    generalize w.drewN nq = wd at *
    go_wp2_with fail
    go_quiet (fail)
    go_wp2_with fail
    go_ret
    refine ⟨?_, by obtain ⟨m, hm⟩ := HD.out; exact ⟨m + _, by rw [← hm, World.drewN_drewN]⟩⟩
    refine ret_bool ?_
    rw [Bool.eq_iff_iff]
    simp
    omega
  · have d1 : decide ((u : Int) ≤ (v : Int)) = false := by simp; omega
    rw [decide_eq_false h1, Bool.false_and]
    go_enter Tryz.func113, Tryz.ntmps113
    go_wp2_with fail
    go_quiet (fail)
    have k1 : (w.drewN nq).cell? ⟨p, 1, none⟩ = some (.int .i64 bk) := c1
    have HD : Hid (∃ m, w.drewN m = w.drewN nq) := hid ⟨nq, rfl⟩
    clear c0 c1
    generalize w.drewN nq = wd at *
    go_wp2_with fail
    go_quiet (fail)
    go_wp2_with fail
    go_ret
    refine ⟨?_, by obtain ⟨m, hm⟩ := HD.out; exact ⟨m + _, by rw [← hm, World.drewN_drewN]⟩⟩
    rfl

set_option maxHeartbeats 400000 in
theorem plus2_any (a b : Nat) (w : World) (ha : a ≤ 4611686018427387904) (hb : b ≤ 4611686018427387904) :
    Calls Tryz.prog 114 #[.int .i64 a, .int .i64 b] w fun e w' => e = .returned (.int .i64 (sat (a + b) : Nat)) ∧ w = w' := by
  by_cases h : 4611686018427387904 < a + b
  · have hd : decide ((4611686018427387904 : Int) - (a : Int) < (b : Int)) = true := by simp; omega
    have HE : Hid (sat (a + b) = 4611686018427387904) := hid (by unfold sat; omega)
    go_enter Tryz.func114, Tryz.ntmps114
    go_wp2
    go_ret
    exact ⟨by rw [HE.out]; rfl, rfl⟩
  · have hd : decide ((4611686018427387904 : Int) - (a : Int) < (b : Int)) = false := by simp; omega
    have HE : Hid (sat (a + b) = a + b) := hid (by unfold sat; omega)
    go_enter Tryz.func114, Tryz.ntmps114
    go_wp2
    go_ret
    exact ⟨by rw [HE.out]; rfl, rfl⟩

set_option maxHeartbeats 400000 in
theorem isTimeRef_dec (n : Int) (b : Bool) (h : decide (0 ≤ n ∧ n ≤ 1152921504606846976) = b) (w : World) :
    Calls Tryz.prog 116 #[.int .i64 n] w fun e w' => e = .returned (.bool b) ∧ w = w' := by
  subst h
  by_cases h0 : 0 ≤ n
  · by_cases h1 : n ≤ 1152921504606846976
    · rw [decide_eq_true ⟨h0, h1⟩]
      go_enter Tryz.func116, Tryz.ntmps116
      go_wp2
      go_ret
      exact ⟨rfl, rfl⟩
    · have h2 : decide (n ≤ 1152921504606846976) = false := by simp; omega
      rw [decide_eq_false (fun h => h1 h.2)]
      clear h1
      go_enter Tryz.func116, Tryz.ntmps116
      go_wp2
      go_ret
      exact ⟨rfl, rfl⟩
  · have h2 : decide (0 ≤ n) = false := by simp; omega
    rw [decide_eq_false (fun h => h0 h.1)]
    clear h0
    go_enter Tryz.func116, Tryz.ntmps116
    go_wp2
    go_ret
    exact ⟨rfl, rfl⟩

set_option maxHeartbeats 400000 in
theorem wrong_any (p : Nat) (last t : Int) (w : World) (c6 : w.cell? ⟨p, 6, none⟩ = some (.int .i64 last)) :
    Calls Tryz.prog 83 #[.pointer (some ⟨p, 0, none⟩), .int .i64 t] w fun e w' => e = .returned (.int .i64 (refT last t true)) ∧ w = w' := by
  by_cases h0 : 0 ≤ t ∧ t ≤ 1152921504606846976
  · have HT := hid (isTimeRef_dec t true (decide_eq_true h0))
    by_cases h1 : t < last
    · have HE : Hid (refT last t true = 7) := hid (by unfold refT; rw [if_neg (by simp; omega), if_pos h1])
      clear h0
      go_enter Tryz.func83, Tryz.ntmps83
      go_wp2_with fail
      refine (HT.out _).mono ?_
      rintro e w1 ⟨rfl, rfl⟩
      go_wp2_with fail
      go_ret
      exact ⟨by rw [HE.out]; rfl, rfl⟩
    · have HE : Hid (refT last t true = 0) := hid (by unfold refT; rw [if_neg (by simp; omega), if_neg h1])
      have hd : decide (t < last) = false := by simp; omega
      clear h0
      go_enter Tryz.func83, Tryz.ntmps83
      go_wp2_with fail
      refine (HT.out _).mono ?_
      rintro e w1 ⟨rfl, rfl⟩
      go_wp2_with fail
      go_ret
      exact ⟨by rw [HE.out]; rfl, rfl⟩
  · have HT := hid (isTimeRef_dec t false (decide_eq_false h0))
    have HE : Hid (refT last t true = 2) := hid (by unfold refT; rw [if_pos (by simp; omega)])
    clear h0
    go_enter Tryz.func83, Tryz.ntmps83
    go_wp2_with fail
    refine (HT.out _).mono ?_
    rintro e w1 ⟨rfl, rfl⟩
    go_wp2_with fail
    go_ret
    exact ⟨by rw [HE.out]; rfl, rfl⟩

end Go.Proofs.YtbihelpnojjacaaGreat.SruA

/- The document's sketch in memory; New, Estimate, Total. -/
namespace Go.Proofs.YtbihelpnojjacaaGreat.SruB
open Go.ChangeShapes Go.WideShapes Go.ChangeAt Go.RowKit Go.Deep Base Wri Map WldA WldF WldG SkK SkA SkB SkC SkD SkE SkF SkG SkH SkI SkJ SkL SkM SkN SkP SkQ SkR SkS SkT SruA
set_option linter.unusedVariables false

/-- the cells of notes, one behind the other -/
def cellsR (rs : List Note) : List Value := rs.flatMap fun x => [.int .i64 x.t, .int .i64 x.n, .string x.k]

theorem cellsR_len (rs : List Note) : (cellsR rs).length = rs.length * 3 := by
  induction rs with
  | nil => rfl
  | cons x r ih => unfold cellsR at *; rw [List.flatMap_cons, List.length_append, ih]; simp; omega
theorem cellsR_app (a b : List Note) : cellsR (a ++ b) = cellsR a ++ cellsR b := List.flatMap_append
theorem cellsR_one (rs : List Note) : ∀ u ∈ cellsR rs, u.oneCell' = true := by
  intro u hu
  unfold cellsR at hu
  obtain ⟨x, _, hx⟩ := List.mem_flatMap.1 hu
  simp only [List.mem_cons, List.not_mem_nil, or_false] at hx
  rcases hx with rfl | rfl | rfl <;> rfl
theorem cellsR_get (rs : List Note) (i : Nat) (hi : i < rs.length) : (cellsR rs)[i * 3]? = some (.int .i64 (rs[i].t)) ∧ (cellsR rs)[i * 3 + 1]? = some (.int .i64 (rs[i].n)) ∧ (cellsR rs)[i * 3 + 2]? = some (.string rs[i].k) := by
  have e : rs = rs.take i ++ rs[i] :: rs.drop (i + 1) := by rw [List.getElem_cons_drop, List.take_append_drop]
  have hl : (cellsR (rs.take i)).length = i * 3 := by rw [cellsR_len, List.length_take]; congr 1; omega
  have e2 : cellsR rs = cellsR (rs.take i) ++ ([.int .i64 (rs[i].t), .int .i64 (rs[i].n), .string rs[i].k] ++ cellsR (rs.drop (i + 1))) := by
    conv => lhs; rw [e]
    rw [cellsR_app]
    rfl
  rw [e2]
  refine ⟨?_, ?_, ?_⟩
  · rw [List.getElem?_append_right (by omega), hl, show i * 3 - i * 3 = 0 by omega]; rfl
  · rw [List.getElem?_append_right (by omega), hl, show i * 3 + 1 - i * 3 = 1 by omega]; rfl
  · rw [List.getElem?_append_right (by omega), hl, show i * 3 + 2 - i * 3 = 2 by omega]; rfl

/-- the document's sketch in block b: what was added, note by note -/
structure IsRS (w : World) (b B : Nat) (X : Shp) (q last : Nat) (rv : Value) (rs : List Note) : Prop where
  ok : Ok X q
  seed : X.seed < 18446744073709551616
  c0 : w.cell? ⟨b, 0, none⟩ = some (.int .i64 X.wd)
  c1 : w.cell? ⟨b, 1, none⟩ = some (.int .i64 X.bk)
  c2 : w.cell? ⟨b, 2, none⟩ = some (.int .i64 X.ro)
  c3 : w.cell? ⟨b, 3, none⟩ = some (.int .i64 X.co)
  c4 : w.cell? ⟨b, 4, none⟩ = some (.int .u64 X.seed)
  c5 : w.cell? ⟨b, 5, none⟩ = some rv
  c6 : w.cell? ⟨b, 6, none⟩ = some (.int .i64 last)
  f5 : w.frozen? ⟨b, 5, none⟩ = false
  f6 : w.frozen? ⟨b, 6, none⟩ = false
  own : w.ownsRow B 171 3 rv rs.length (cellsR rs)
  off : ∀ g, rv.ownBlock = some g → g ≠ b
  late : last ≤ 1152921504606846976
  all : ∀ x ∈ rs, x.t ≤ last ∧ x.n ≤ 1099511627776 ∧ x.k.size ≤ maxLen
  few : rs.length ≤ 2000000

variable {w w' : World} {b B : Nat} {X : Shp} {q last t : Nat} {rv : Value} {rs : List Note}

theorem IsRS.lt (h : IsRS w b B X q last rv rs) : b < w.heap.size := World.block_lt_of_cell? _ _ h.c5

theorem IsRS.keep (h : IsRS w b B X q last rv rs) (h1 : w'.heap[b]? = w.heap[b]?) (h2 : ∀ g, rv.ownBlock = some g → w'.heap[g]? = w.heap[g]?) : IsRS w' b B X q last rv rs :=
  ⟨h.ok, h.seed, (World.cell?_of_block (a := ⟨b, 0, none⟩) h1).trans h.c0, (World.cell?_of_block (a := ⟨b, 1, none⟩) h1).trans h.c1, (World.cell?_of_block (a := ⟨b, 2, none⟩) h1).trans h.c2, (World.cell?_of_block (a := ⟨b, 3, none⟩) h1).trans h.c3, (World.cell?_of_block (a := ⟨b, 4, none⟩) h1).trans h.c4, (World.cell?_of_block (a := ⟨b, 5, none⟩) h1).trans h.c5, (World.cell?_of_block (a := ⟨b, 6, none⟩) h1).trans h.c6,
    (World.frozen?_of_block (a := ⟨b, 5, none⟩) h1).trans h.f5, (World.frozen?_of_block (a := ⟨b, 6, none⟩) h1).trans h.f6, owns_keep h.own h2, h.off, h.late, h.all, h.few⟩

theorem IsRS.below (h : IsRS w b B X q last rv rs) (hb : Below w.heap.size w w') : IsRS w' b B X q last rv rs := h.keep (hb.block b h.lt) (fun g hg => hb.block g (h.own.lt g hg).2)
theorem IsRS.wr {R : Nat → Prop} (h : IsRS w b B X q last rv rs) (hw : Wr R w w') (hr : ¬ R b) (hg : ∀ g, rv.ownBlock = some g → ¬ R g) : IsRS w' b B X q last rv rs := h.keep (hw.block b h.lt hr) (fun g e => hw.block g (h.own.lt g e).2 (hg g e))

/-- note i lies there -/
theorem IsRS.note (h : IsRS w b B X q last rv rs) {i : Nat} (hi : i < rs.length) : ∃ g c, rv = .slice (some ⟨g, 0, none⟩) rs.length c ∧ g < w.heap.size ∧ w.cell? ⟨g, i * 3, none⟩ = some (.int .i64 rs[i].t) ∧ w.cell? ⟨g, i * 3 + 1, none⟩ = some (.int .i64 rs[i].n) ∧ w.cell? ⟨g, i * 3 + 2, none⟩ = some (.string rs[i].k) := by
  obtain ⟨g, c, rfl, _, hg⟩ := World.ownsRow.form h.own (by omega)
  obtain ⟨e0, e1, e2⟩ := cellsR_get rs i hi
  exact ⟨g, c, rfl, hg, (World.ownsRow.cellAt h.own _ (by omega)).trans e0, (World.ownsRow.cellAt h.own _ (by omega)).trans e1, (World.ownsRow.cellAt h.own _ (by omega)).trans e2⟩

/-- the sum over the first k notes of those that p picks -/
def sumK (rs : List Note) (p : Note → Bool) (k : Nat) : Nat := sumN (rs.take k) p

theorem sumK_succ {rs : List Note} {p : Note → Bool} {k : Nat} (h : k < rs.length) : sumK rs p (k + 1) = sumK rs p k + (if p rs[k] then rs[k].n else 0) := by
  unfold sumK
  rw [List.take_succ_eq_append_getElem h, sumN_snoc]
theorem sumK_all (rs : List Note) (p : Note → Bool) : sumK rs p rs.length = sumN rs p := by
  unfold sumK
  rw [List.take_of_length_le (Nat.le_refl _)]

theorem sat_step (a n : Nat) (c : Bool) : sat (a + if c then n else 0) = if c then sat (sat a + n) else sat a := by
  cases c
  · simp
  · simp only [if_true]; rw [sat_add1]

/-- the notes of the window at a time -/
def winP (q bk t : Nat) (x : Note) : Bool := decide (x.t / q ≤ t / q) && inW q bk t (x.t / q)

theorem win_sum (h : IsRS w b B X q last rv rs) (ht : last ≤ t) (p : Note → Bool) : sumN rs (fun x => winP q X.bk t x && p x) = sumN rs fun x => inW q X.bk t (x.t / q) && p x := by
  refine sumN_same fun x hx => .inl ?_
  have := (h.all x hx).1
  unfold winP
  rw [decide_eq_true (Nat.div_le_div_right (by omega)), Bool.true_and]

/-- what a row tells of a key -/
def inRow (q : Nat) (X : Shp) (t r c : Nat) (x : Note) : Bool := winP q X.bk t x && colN X.seed X.co r x.k == c

theorem least_min (n : Nat) (f : Nat → Nat) : (if f n < least n f then f n else least n f) = least (n + 1) f := by
  rw [least_succ]
  split <;> omega

set_option maxRecDepth 20000 in
set_option maxHeartbeats 4000000 in
theorem restimate_yes (h : IsRS w b B X q last rv rs) (ht : last ≤ t) (ht2 : t ≤ 1152921504606846976) (s : ByteArray) (hs : s.size ≤ maxLen) :
    Calls Tryz.prog 75 #[.pointer (some ⟨b, 0, none⟩), .int .i64 t, .string s] w fun e w' => e = .returned (.tuple #[.int .i64 (estN q X rs t s), .int .i64 0]) ∧ Below w.heap.size w w' := by
  have HH := hid h
  have HW := hid (wrong_any b last t w h.c6)
  have e0 : refT last t true = 0 := by unfold refT; rw [if_neg (by simp; omega), if_neg (by omega)]
  rw [e0] at HW
  have hb := h.lt
  have HF : Hid (∀ r c, sat (sumK rs (inRow q X t r c) rs.length) = rowN q X rs t r c) := hid (fun r c => by
    rw [sumK_all]; unfold rowN inRow
    rw [win_sum h ht (fun x => colN X.seed X.co r x.k == c)])
  have HE : Hid (least X.ro (fun r => rowN q X rs t r (colN X.seed X.co r s)) = estN q X rs t s) := hid rfl
  obtain ⟨fr, hfr⟩ : ∃ fr : Nat → Nat, (fun r => rowN q X rs t r (colN X.seed X.co r s)) = fr := ⟨_, rfl⟩
  have HFR : Hid (∀ r, rowN q X rs t r (colN X.seed X.co r s) = fr r) := hid (fun r => by rw [← hfr])
  rw [hfr] at HE
  obtain ⟨va, vc, rfl⟩ := owns_shape h.own
  have hfew := h.few
  have hro := h.ok.r2
  clear h e0 hfr
  go_enter Tryz.func75, Tryz.ntmps75
  go_wp2_with fail
  refine HW.out.mono ?_
  rintro e w1 ⟨rfl, rfl⟩
  go_wp2_with fail
  go_loopw [9, 10, 11, 12, 13] (fun l r c s i wr => ∃ k : Nat, k ≤ X.ro ∧ r = .int .i64 k ∧ l = .int .i64 (least k fr : Nat) ∧ Below w.heap.size w wr) (fun _ r _ _ _ _ => X.ro - (intOf r).toNat)
  case atStart => exact ⟨0, Nat.zero_le _, rfl, rfl, Below.refl _ _⟩
  case round =>
    obtain ⟨r, hr, rfl, rfl, hbel⟩ := hrel
    have HBO := hid hbel
    have HRO := hid (HH.out.below hbel)
    clear hbel
    have c2 := HRO.out.c2
    by_cases hlr : r < X.ro
    · have HCOL := hid (column_core b X.seed r X.co s wr hs (by omega) ⟨HH.out.ok.c1, HH.out.ok.c2⟩ HH.out.seed HRO.out.c3 HRO.out.c4)
      have HFr := hid (HFR.out r)
      have HFc := hid (HF.out r (colN X.seed X.co r s))
      obtain ⟨cc, hcc⟩ : ∃ cc, colN X.seed X.co r s = cc := ⟨_, rfl⟩
      rw [hcc] at HCOL HFr HFc
      have hlm := hid (least_min r fr)
      have hll := least_top r fr
      have hr1 : (r : Int) < (X.ro : Int) := by omega
      obtain ⟨lv, hlv⟩ : ∃ lv, least r fr = lv := ⟨_, rfl⟩
      rw [hlv] at hlm hll ⊢
      clear hcc hlv
      go_wp2_with fail
      refine HCOL.out.mono ?_
      rintro e w2 ⟨rfl, m0, hw2⟩
      have HB2 : Hid (Below w.heap.size w w2) := hid (by rw [← hw2]; exact below_drewN HBO.out _)
      clear hw2 HRO HBO HCOL c2
      go_wp2_with fail
      generalize wr = wz at *
      go_loopw [12, 13] (fun s i wr => ∃ k : Nat, k ≤ rs.length ∧ i = .int .i64 k ∧ s = .int .i64 (sat (sumK rs (inRow q X t r cc) k) : Nat) ∧ Below w.heap.size w wr) (fun _ i _ => rs.length - (intOf i).toNat)
      case atStart => exact ⟨0, Nat.zero_le _, rfl, rfl, HB2.out⟩
      case round =>
        obtain ⟨k, hk, rfl, rfl, hbel⟩ := hrel
        have HB := hid hbel
        have HR := hid (HH.out.below hbel)
        clear hbel HB2
        have c5 := HR.out.c5
        by_cases hlt : k < rs.length
        · obtain ⟨g, c, e, hg, n0, n1, n2⟩ := HR.out.note hlt
          cases e
          have HIN := hid (in_any b q X.wd X.bk rs[k].t t wr ⟨HH.out.ok.b1, HH.out.ok.b2⟩ HH.out.ok.q0 HH.out.ok.we HH.out.ok.w1 (by have := (HH.out.all rs[k] (List.getElem_mem hlt)).1; have := HH.out.late; omega) ht2 HR.out.c0 HR.out.c1)
          have HCK : Hid (∀ m, Calls Tryz.prog 112 #[.pointer (some ⟨b, 0, none⟩), .int .i64 r, .string rs[k].k] (wr.drewN m) fun e w' => e = .returned (.int .i64 (colN X.seed X.co r rs[k].k)) ∧ ∃ m2, (wr.drewN m).drewN m2 = w') := hid (fun m => column_core b X.seed r X.co rs[k].k (wr.drewN m) (HH.out.all rs[k] (List.getElem_mem hlt)).2.2 (by omega) ⟨HH.out.ok.c1, HH.out.ok.c2⟩ HH.out.seed HR.out.c3 HR.out.c4)
          have HS : Hid (sat (sumK rs (inRow q X t r cc) (k + 1)) = if inRow q X t r cc rs[k] then sat (sat (sumK rs (inRow q X t r cc) k) + rs[k].n) else sat (sumK rs (inRow q X t r cc) k)) := hid (by rw [sumK_succ hlt, sat_step])
          have hsm := (HH.out.all rs[k] (List.getElem_mem hlt)).2.1
          have hsl := sat_le (sumK rs (inRow q X t r cc) k)
          obtain ⟨sv, hsv⟩ : ∃ sv, sat (sumK rs (inRow q X t r cc) k) = sv := ⟨_, rfl⟩
          obtain ⟨pb, hpb⟩ : ∃ pb, winP q X.bk t rs[k] = pb := ⟨_, rfl⟩
          obtain ⟨ck, hck⟩ : ∃ ck, colN X.seed X.co r rs[k].k = ck := ⟨_, rfl⟩
          have hin : inRow q X t r cc rs[k] = (pb && (ck == cc)) := by unfold inRow; rw [hpb, hck]
          rw [hsv] at hsl HS ⊢
          rw [hin] at HS
          rw [hck] at HCK
          unfold winP at hpb
          rw [hpb] at HIN
          obtain ⟨nt, hnt⟩ : ∃ nt, rs[k].t = nt := ⟨_, rfl⟩
          obtain ⟨nn, hnn⟩ : ∃ nn, rs[k].n = nn := ⟨_, rfl⟩
          obtain ⟨nk, hnk⟩ : ∃ nk, rs[k].k = nk := ⟨_, rfl⟩
          rw [hnt] at n0 HIN
          rw [hnn] at n1 hsm HS
          rw [hnk] at n2 HCK
          have HPL := hid (fun w => plus2_any sv nn w hsl (by omega))
          have hk1 : (k : Int) < (rs.length : Int) := by omega
          clear hsv hpb hnt hnn hnk hck hin
          cases pb
          · go_wp2_with fail
            refine HIN.out.mono ?_
            rintro e w2 ⟨rfl, m, rfl⟩
            go_wp2_with fail
            go_roundw
            case rel => exact ⟨k + 1, by omega, by go_num, by rw [HS.out]; rfl, below_drewN HB.out _⟩
            case measure => simp [intOf]; omega
          · by_cases hceq : ck = cc
            · have hce : ((ck : Int) == (cc : Int)) = true := by rw [hceq]; simp
              have hce2 : (ck == cc) = true := by simpa using hceq
              rw [hce2] at HS
              clear hce2
              go_wp2_with fail
              refine HIN.out.mono ?_
              rintro e w2 ⟨rfl, m, rfl⟩
              go_wp2_with fail
              refine (HCK.out m).mono ?_
              rintro e w2 ⟨rfl, m2, rfl⟩
              subst hceq
              go_wp2_with fail
              refine (HPL.out _).mono ?_
              rintro e w3 ⟨rfl, rfl⟩
              go_wp2_with fail
              go_roundw
              case rel => exact ⟨k + 1, by omega, by go_num, by rw [HS.out]; rfl, below_drewN HB.out _⟩
              case measure => simp [intOf]; omega
            · have hce : decide ((ck : Int) = (cc : Int)) = false := by simp; omega
              have hce3 : ((ck : Int) == (cc : Int)) = false := by simp; omega
              have hce2 : (ck == cc) = false := by simpa using hceq
              rw [hce2] at HS
              clear hce2
              go_wp2_with fail
              refine HIN.out.mono ?_
              rintro e w2 ⟨rfl, m, rfl⟩
              go_wp2_with fail
              refine (HCK.out m).mono ?_
              rintro e w2 ⟨rfl, m2, rfl⟩
              go_wp2_with fail
              go_roundw
              case rel => exact ⟨k + 1, by omega, by go_num, by rw [HS.out]; rfl, below_drewN HB.out _⟩
              case measure => simp [intOf]; omega
        · obtain rfl : k = rs.length := by omega
          rw [HFc.out, HFr.out]
          have HLM := hid hlm.out
          obtain ⟨fv, hfv⟩ : ∃ fv, fr r = fv := ⟨_, rfl⟩
          rw [hfv] at HLM ⊢
          clear hfv
          by_cases hlf : fv < lv
          · have hd : decide ((fv : Int) < (lv : Int)) = true := by simp; omega
            rw [if_pos hlf] at HLM
            go_wp2_with fail
            go_roundw
            case rel => exact ⟨r + 1, by omega, by go_num, by rw [← HLM.out], HB.out⟩
            case measure => simp [intOf]; omega
          · have hd : decide ((fv : Int) < (lv : Int)) = false := by simp; omega
            rw [if_neg hlf] at HLM
            go_wp2_with fail
            go_roundw
            case rel => exact ⟨r + 1, by omega, by go_num, by rw [← HLM.out], HB.out⟩
            case measure => simp [intOf]; omega
    · obtain rfl : r = X.ro := by omega
      go_wp2_with fail
      go_ret2
      exact ⟨by rw [← HE.out]; rfl, HBO.out⟩

set_option maxHeartbeats 400000 in
theorem restimate_no (tt : Int) (r : Int) (s : ByteArray) (l0 : Int) (h6 : w.cell? ⟨b, 6, none⟩ = some (.int .i64 l0)) (hr : refT l0 tt true = r) (hr0 : r ≠ 0) :
    Calls Tryz.prog 75 #[.pointer (some ⟨b, 0, none⟩), .int .i64 tt, .string s] w fun e w' => e = .returned (.tuple #[.int .i64 0, .int .i64 r]) ∧ w = w' := by
  have HW := hid (wrong_any b l0 tt w h6)
  rw [hr] at HW
  have hd : (r != 0) = true := by simpa using hr0
  have hd2 : (r == 0) = false := by simpa using hr0
  clear hr hr0 h6
  go_enter Tryz.func75, Tryz.ntmps75
  go_wp2_with fail
  refine HW.out.mono ?_
  rintro e w1 ⟨rfl, rfl⟩
  go_wp2_with fail
  go_ret2
  exact ⟨rfl, rfl⟩


theorem refZ_two {wd bk ro co : Int} (h : ¬ (inB wd 1099511627776 = true ∧ inB bk 60 = true ∧ inB ro 8 = true ∧ inB co 4096 = true)) : refZ wd bk ro co = 2 := by
  unfold refZ
  rw [if_neg]
  intro e
  simp only [Bool.and_eq_true] at e
  exact h ⟨e.1.1.1, e.1.1.2, e.1.2, e.2⟩

theorem inB_of {n m : Int} (h1 : 1 ≤ n) (h2 : n ≤ m) : inB n m = true := by unfold inB; simp; omega
theorem inB_not {n m : Int} (h : n < 1 ∨ m < n) : ¬ inB n m = true := by unfold inB; simp; omega

set_option maxRecDepth 20000 in
set_option maxHeartbeats 400000 in
theorem rnew_wd0 (wd bk ro co : Int) (sd : Nat) (w : World)  (hx : wd < 1) :
    Calls Tryz.prog 31 #[.int .i64 wd, .int .i64 bk, .int .i64 ro, .int .i64 co, .int .u64 sd] w fun e w' => e = .returned (.tuple #[.pointer none, .int .i64 2]) ∧ w = w' := by
  have awd : decide (wd < 1) = true := by simp; omega
  go_enter Tryz.func31, Tryz.ntmps31
  go_wp2_with fail
  go_ret2
  exact ⟨rfl, rfl⟩

set_option maxRecDepth 20000 in
set_option maxHeartbeats 400000 in
theorem rnew_wd1 (wd bk ro co : Int) (sd : Nat) (w : World)  (hx : 1099511627776 < wd) :
    Calls Tryz.prog 31 #[.int .i64 wd, .int .i64 bk, .int .i64 ro, .int .i64 co, .int .u64 sd] w fun e w' => e = .returned (.tuple #[.pointer none, .int .i64 2]) ∧ w = w' := by
  have awd : decide (wd < 1) = false := by simp; omega
  have bwd : decide (1099511627776 < wd) = true := by simp; omega
  go_enter Tryz.func31, Tryz.ntmps31
  go_wp2_with fail
  go_ret2
  exact ⟨rfl, rfl⟩

set_option maxRecDepth 20000 in
set_option maxHeartbeats 400000 in
theorem rnew_bk0 (wd bk ro co : Int) (sd : Nat) (w : World) (lwd : 1 ≤ wd) (uwd : wd ≤ 1099511627776) (hx : bk < 1) :
    Calls Tryz.prog 31 #[.int .i64 wd, .int .i64 bk, .int .i64 ro, .int .i64 co, .int .u64 sd] w fun e w' => e = .returned (.tuple #[.pointer none, .int .i64 2]) ∧ w = w' := by
  have awd : decide (wd < 1) = false := by simp; omega
  have bwd : decide (1099511627776 < wd) = false := by simp; omega
  have abk : decide (bk < 1) = true := by simp; omega
  go_enter Tryz.func31, Tryz.ntmps31
  go_wp2_with fail
  go_ret2
  exact ⟨rfl, rfl⟩

set_option maxRecDepth 20000 in
set_option maxHeartbeats 400000 in
theorem rnew_bk1 (wd bk ro co : Int) (sd : Nat) (w : World) (lwd : 1 ≤ wd) (uwd : wd ≤ 1099511627776) (hx : 60 < bk) :
    Calls Tryz.prog 31 #[.int .i64 wd, .int .i64 bk, .int .i64 ro, .int .i64 co, .int .u64 sd] w fun e w' => e = .returned (.tuple #[.pointer none, .int .i64 2]) ∧ w = w' := by
  have awd : decide (wd < 1) = false := by simp; omega
  have bwd : decide (1099511627776 < wd) = false := by simp; omega
  have abk : decide (bk < 1) = false := by simp; omega
  have bbk : decide (60 < bk) = true := by simp; omega
  go_enter Tryz.func31, Tryz.ntmps31
  go_wp2_with fail
  go_ret2
  exact ⟨rfl, rfl⟩

set_option maxRecDepth 20000 in
set_option maxHeartbeats 400000 in
theorem rnew_ro0 (wd bk ro co : Int) (sd : Nat) (w : World) (lwd : 1 ≤ wd) (uwd : wd ≤ 1099511627776) (lbk : 1 ≤ bk) (ubk : bk ≤ 60) (hx : ro < 1) :
    Calls Tryz.prog 31 #[.int .i64 wd, .int .i64 bk, .int .i64 ro, .int .i64 co, .int .u64 sd] w fun e w' => e = .returned (.tuple #[.pointer none, .int .i64 2]) ∧ w = w' := by
  have awd : decide (wd < 1) = false := by simp; omega
  have bwd : decide (1099511627776 < wd) = false := by simp; omega
  have abk : decide (bk < 1) = false := by simp; omega
  have bbk : decide (60 < bk) = false := by simp; omega
  have aro : decide (ro < 1) = true := by simp; omega
  go_enter Tryz.func31, Tryz.ntmps31
  go_wp2_with fail
  go_ret2
  exact ⟨rfl, rfl⟩

set_option maxRecDepth 20000 in
set_option maxHeartbeats 400000 in
theorem rnew_ro1 (wd bk ro co : Int) (sd : Nat) (w : World) (lwd : 1 ≤ wd) (uwd : wd ≤ 1099511627776) (lbk : 1 ≤ bk) (ubk : bk ≤ 60) (hx : 8 < ro) :
    Calls Tryz.prog 31 #[.int .i64 wd, .int .i64 bk, .int .i64 ro, .int .i64 co, .int .u64 sd] w fun e w' => e = .returned (.tuple #[.pointer none, .int .i64 2]) ∧ w = w' := by
  have awd : decide (wd < 1) = false := by simp; omega
  have bwd : decide (1099511627776 < wd) = false := by simp; omega
  have abk : decide (bk < 1) = false := by simp; omega
  have bbk : decide (60 < bk) = false := by simp; omega
  have aro : decide (ro < 1) = false := by simp; omega
  have bro : decide (8 < ro) = true := by simp; omega
  go_enter Tryz.func31, Tryz.ntmps31
  go_wp2_with fail
  go_ret2
  exact ⟨rfl, rfl⟩

set_option maxRecDepth 20000 in
set_option maxHeartbeats 400000 in
theorem rnew_co0 (wd bk ro co : Int) (sd : Nat) (w : World) (lwd : 1 ≤ wd) (uwd : wd ≤ 1099511627776) (lbk : 1 ≤ bk) (ubk : bk ≤ 60) (lro : 1 ≤ ro) (uro : ro ≤ 8) (hx : co < 1) :
    Calls Tryz.prog 31 #[.int .i64 wd, .int .i64 bk, .int .i64 ro, .int .i64 co, .int .u64 sd] w fun e w' => e = .returned (.tuple #[.pointer none, .int .i64 2]) ∧ w = w' := by
  have awd : decide (wd < 1) = false := by simp; omega
  have bwd : decide (1099511627776 < wd) = false := by simp; omega
  have abk : decide (bk < 1) = false := by simp; omega
  have bbk : decide (60 < bk) = false := by simp; omega
  have aro : decide (ro < 1) = false := by simp; omega
  have bro : decide (8 < ro) = false := by simp; omega
  have aco : decide (co < 1) = true := by simp; omega
  go_enter Tryz.func31, Tryz.ntmps31
  go_wp2_with fail
  go_ret2
  exact ⟨rfl, rfl⟩

set_option maxRecDepth 20000 in
set_option maxHeartbeats 400000 in
theorem rnew_co1 (wd bk ro co : Int) (sd : Nat) (w : World) (lwd : 1 ≤ wd) (uwd : wd ≤ 1099511627776) (lbk : 1 ≤ bk) (ubk : bk ≤ 60) (lro : 1 ≤ ro) (uro : ro ≤ 8) (hx : 4096 < co) :
    Calls Tryz.prog 31 #[.int .i64 wd, .int .i64 bk, .int .i64 ro, .int .i64 co, .int .u64 sd] w fun e w' => e = .returned (.tuple #[.pointer none, .int .i64 2]) ∧ w = w' := by
  have awd : decide (wd < 1) = false := by simp; omega
  have bwd : decide (1099511627776 < wd) = false := by simp; omega
  have abk : decide (bk < 1) = false := by simp; omega
  have bbk : decide (60 < bk) = false := by simp; omega
  have aro : decide (ro < 1) = false := by simp; omega
  have bro : decide (8 < ro) = false := by simp; omega
  have aco : decide (co < 1) = false := by simp; omega
  have bco : decide (4096 < co) = true := by simp; omega
  go_enter Tryz.func31, Tryz.ntmps31
  go_wp2_with fail
  go_ret2
  exact ⟨rfl, rfl⟩

set_option maxRecDepth 20000 in
set_option maxHeartbeats 400000 in
theorem rnew_form (wd bk ro co : Int) (sd : Nat) (w : World) (lwd : 1 ≤ wd) (uwd : wd ≤ 1099511627776) (lbk : 1 ≤ bk) (ubk : bk ≤ 60) (lro : 1 ≤ ro) (uro : ro ≤ 8) (lco : 1 ≤ co) (uco : co ≤ 4096) (hm : wd % bk ≠ 0) :
    Calls Tryz.prog 31 #[.int .i64 wd, .int .i64 bk, .int .i64 ro, .int .i64 co, .int .u64 sd] w fun e w' => e = .returned (.tuple #[.pointer none, .int .i64 6]) ∧ w = w' := by
  have awd : decide (wd < 1) = false := by simp; omega
  have bwd : decide (1099511627776 < wd) = false := by simp; omega
  have abk : decide (bk < 1) = false := by simp; omega
  have bbk : decide (60 < bk) = false := by simp; omega
  have aro : decide (ro < 1) = false := by simp; omega
  have bro : decide (8 < ro) = false := by simp; omega
  have aco : decide (co < 1) = false := by simp; omega
  have bco : decide (4096 < co) = false := by simp; omega
  obtain ⟨r, hr⟩ : ∃ r, wd % bk = r := ⟨_, rfl⟩
  have hr0 : (r == 0) = false := by rw [← hr]; simpa using hm
  have hr1 : (r != 0) = true := by rw [← hr]; simpa using hm
  have hr2 : 0 ≤ r ∧ r < bk := by rw [← hr]; exact ⟨Int.emod_nonneg _ (by omega), Int.emod_lt_of_pos _ (by omega)⟩
  obtain ⟨hr3, hr4⟩ := hr2
  clear hm
  go_enter Tryz.func31, Tryz.ntmps31
  go_wp2_with fail
  go_ret2
  exact ⟨rfl, rfl⟩

set_option maxRecDepth 20000 in
set_option maxHeartbeats 400000 in
theorem rnew_ok (wd bk ro co : Int) (sd : Nat) (w : World) (lwd : 1 ≤ wd) (uwd : wd ≤ 1099511627776) (lbk : 1 ≤ bk) (ubk : bk ≤ 60) (lro : 1 ≤ ro) (uro : ro ≤ 8) (lco : 1 ≤ co) (uco : co ≤ 4096) (hm : wd % bk = 0) :
    Calls Tryz.prog 31 #[.int .i64 wd, .int .i64 bk, .int .i64 ro, .int .i64 co, .int .u64 sd] w fun e w' => e = .returned (.tuple #[.pointer (some ⟨w.heap.size, 0, none⟩), .int .i64 0]) ∧ w.alloc (.cells #[.int .i64 wd, .int .i64 bk, .int .i64 ro, .int .i64 co, .int .u64 sd, .slice none 0 0, .int .i64 0] 125) = w' := by
  have awd : decide (wd < 1) = false := by simp; omega
  have bwd : decide (1099511627776 < wd) = false := by simp; omega
  have abk : decide (bk < 1) = false := by simp; omega
  have bbk : decide (60 < bk) = false := by simp; omega
  have aro : decide (ro < 1) = false := by simp; omega
  have bro : decide (8 < ro) = false := by simp; omega
  have aco : decide (co < 1) = false := by simp; omega
  have bco : decide (4096 < co) = false := by simp; omega
  go_enter Tryz.func31, Tryz.ntmps31
  go_wp2_with fail
  go_ret2
  exact ⟨rfl, rfl⟩

/-- New, whatever comes -/
theorem rnew_any (wd bk ro co : Int) (sd : Nat) (w : World) (hsd : sd < 18446744073709551616) :
    Calls Tryz.prog 31 #[.int .i64 wd, .int .i64 bk, .int .i64 ro, .int .i64 co, .int .u64 sd] w fun e w' =>
      (refZ wd bk ro co ≠ 0 → e = .returned (.tuple #[.pointer none, .int .i64 (refZ wd bk ro co)]) ∧ Below w.heap.size w w') ∧
      (refZ wd bk ro co = 0 → e = .returned (.tuple #[.pointer (some ⟨w.heap.size, 0, none⟩), .int .i64 0]) ∧ Below w.heap.size w w' ∧ ∀ (X : Shp) (q : Nat), Ok X q → wd = X.wd → bk = X.bk → ro = X.ro → co = X.co → X.seed = sd → IsRS w' w.heap.size w.heap.size X q 0 (.slice none 0 0) []) := by
  have bad : ∀ {e : Ending} {w' : World} {r : Int}, refZ wd bk ro co = r → r ≠ 0 → (e = .returned (.tuple #[.pointer none, .int .i64 r]) ∧ w = w') → (refZ wd bk ro co ≠ 0 → e = .returned (.tuple #[.pointer none, .int .i64 (refZ wd bk ro co)]) ∧ Below w.heap.size w w') ∧
      (refZ wd bk ro co = 0 → e = .returned (.tuple #[.pointer (some ⟨w.heap.size, 0, none⟩), .int .i64 0]) ∧ Below w.heap.size w w' ∧ ∀ (X : Shp) (q : Nat), Ok X q → wd = X.wd → bk = X.bk → ro = X.ro → co = X.co → X.seed = sd → IsRS w' w.heap.size w.heap.size X q 0 (.slice none 0 0) []) := by
    rintro e w' r hr h0 ⟨h1, rfl⟩
    exact ⟨fun _ => ⟨by rw [hr]; exact h1, Below.refl _ _⟩, fun h => absurd (hr.symm.trans h) h0⟩
  by_cases lwd : 1 ≤ wd
  case neg => exact (rnew_wd0 wd bk ro co sd w  (by omega)).mono fun e w' h => bad (refZ_two (fun e => inB_not (.inl (by omega)) e.1)) (by decide) h
  by_cases uwd : wd ≤ 1099511627776
  case neg => exact (rnew_wd1 wd bk ro co sd w  (by omega)).mono fun e w' h => bad (refZ_two (fun e => inB_not (.inr (by omega)) e.1)) (by decide) h
  by_cases lbk : 1 ≤ bk
  case neg => exact (rnew_bk0 wd bk ro co sd w lwd uwd (by omega)).mono fun e w' h => bad (refZ_two (fun e => inB_not (.inl (by omega)) e.2.1)) (by decide) h
  by_cases ubk : bk ≤ 60
  case neg => exact (rnew_bk1 wd bk ro co sd w lwd uwd (by omega)).mono fun e w' h => bad (refZ_two (fun e => inB_not (.inr (by omega)) e.2.1)) (by decide) h
  by_cases lro : 1 ≤ ro
  case neg => exact (rnew_ro0 wd bk ro co sd w lwd uwd lbk ubk (by omega)).mono fun e w' h => bad (refZ_two (fun e => inB_not (.inl (by omega)) e.2.2.1)) (by decide) h
  by_cases uro : ro ≤ 8
  case neg => exact (rnew_ro1 wd bk ro co sd w lwd uwd lbk ubk (by omega)).mono fun e w' h => bad (refZ_two (fun e => inB_not (.inr (by omega)) e.2.2.1)) (by decide) h
  by_cases lco : 1 ≤ co
  case neg => exact (rnew_co0 wd bk ro co sd w lwd uwd lbk ubk lro uro (by omega)).mono fun e w' h => bad (refZ_two (fun e => inB_not (.inl (by omega)) e.2.2.2)) (by decide) h
  by_cases uco : co ≤ 4096
  case neg => exact (rnew_co1 wd bk ro co sd w lwd uwd lbk ubk lro uro (by omega)).mono fun e w' h => bad (refZ_two (fun e => inB_not (.inr (by omega)) e.2.2.2)) (by decide) h
  have hz : refZ wd bk ro co = if wd % bk = 0 then 0 else 6 := by
    unfold refZ
    rw [inB_of lwd uwd, inB_of lbk ubk, inB_of lro uro, inB_of lco uco]
    simp
  by_cases hm : wd % bk = 0
  · rw [if_pos hm] at hz
    refine (rnew_ok wd bk ro co sd w lwd uwd lbk ubk lro uro lco uco hm).mono ?_
    rintro e w' ⟨rfl, rfl⟩
    refine ⟨fun h => absurd hz h, fun _ => ⟨rfl, (Below.refl _ w).alloc (Nat.le_refl _) _, fun X q ho e1 e2 e3 e4 e5 => ?_⟩⟩
    subst e1 e2 e3 e4 e5
    exact ⟨ho, hsd, by go_cell, by go_cell, by go_cell, by go_cell, by go_cell, by go_cell, by go_cell, by go_cell, by go_cell, ⟨rfl, .inl ⟨rfl, rfl⟩⟩, (fun g hg => by cases hg), by omega, (fun x hx => by cases hx), by simp⟩
  · rw [if_neg hm] at hz
    exact (rnew_form wd bk ro co sd w lwd uwd lbk ubk lro uro lco uco hm).mono fun e w' h => bad hz (by decide) h

end Go.Proofs.YtbihelpnojjacaaGreat.SruB

namespace Go.Proofs.YtbihelpnojjacaaGreat.SruC
open Go.ChangeShapes Go.WideShapes Go.ChangeAt Go.RowKit Go.Deep Base Wri Map WldA WldF WldG SkK SkA SkB SkC SkD SkE SkF SkG SkH SkI SkJ SkL SkM SkN SkP SkQ SkR SkS SkT SruA SruB
set_option linter.unusedVariables false

theorem infoNote : (Tryz.prog.info? 171).map (fun i => (i.zero, i.size, i.bytes)) = some (some (.agg #[.int .i64 0, .int .i64 0, .string ⟨#[]⟩]), 3, 32) := by kernel_rfl

/-- the notes of one Add -/
def newR (t : Nat) (s : ByteArray) (f : Nat → Int) (n : Nat) : List Note := (List.range n).map fun i => ⟨t, s, (f i).toNat⟩

theorem newR_len (t : Nat) (s : ByteArray) (f : Nat → Int) (n : Nat) : (newR t s f n).length = n := by simp [newR]
theorem newR_succ (t : Nat) (s : ByteArray) (f : Nat → Int) (n : Nat) : newR t s f (n + 1) = newR t s f n ++ [⟨t, s, (f n).toNat⟩] := by simp [newR, List.range_succ]

variable {w w' : World} {b B : Nat} {X : Shp} {q last t : Nat} {rv : Value} {rs : List Note}

/-- k notes more -/
structure More (w : World) (b B : Nat) (rv : Value) (rs : List Note) (t : Nat) (s : ByteArray) (f : Nat → Int) (k : Nat) (v : Value) (wr : World) : Prop where
  c5 : wr.cell? ⟨b, 5, none⟩ = some v
  f5 : wr.frozen? ⟨b, 5, none⟩ = false
  own : wr.ownsRow B 171 3 v (rs.length + k) (cellsR (rs ++ newR t s f k))
  off : ∀ g, v.ownBlock = some g → g ≠ b ∧ (rv.ownBlock = some g ∨ w.heap.size ≤ g)
  wrote : Wr (fun j => j = b ∨ rv.ownBlock = some j) w wr
  rest : ∀ j, j ≠ 5 → wr.cell? ⟨b, j, none⟩ = w.cell? ⟨b, j, none⟩ ∧ wr.frozen? ⟨b, j, none⟩ = w.frozen? ⟨b, j, none⟩

def RAddPost (w : World) (b B : Nat) (X : Shp) (q last : Nat) (rv : Value) (rs : List Note) (tt : Int) (s : ByteArray) (f : Nat → Int) (n : Nat) (e : Ending) (w' : World) : Prop :=
  e = .returned (.int .i64 (refT last tt (goodC f n))) ∧ (refT last tt (goodC f n) ≠ 0 → Below w.heap.size w w') ∧
    (refT last tt (goodC f n) = 0 → ∃ rv', IsRS w' b B X q tt.toNat rv' (rs ++ newR tt.toNat s f n) ∧ (∀ g, rv'.ownBlock = some g → rv.ownBlock = some g ∨ w.heap.size ≤ g) ∧ Wr (fun j => j = b ∨ rv.ownBlock = some j) w w')

theorem good_take {f : Nat → Int} {n : Nat} : goodC f n = false → ∃ i, i < n ∧ (f i < 0 ∨ 1099511627776 < f i) := by
  intro h
  refine Classical.byContradiction fun hn => ?_
  have : goodC f n = true := good_iff.2 fun i hi => ⟨by
    refine Classical.byContradiction fun h2 => hn ⟨i, hi, .inl (by omega)⟩, by
    refine Classical.byContradiction fun h2 => hn ⟨i, hi, .inr (by omega)⟩⟩
  rw [h] at this
  cases this

set_option maxRecDepth 20000 in
set_option maxHeartbeats 2000000 in
theorem radd_no (h : IsRS w b B X q last rv rs) (tt : Int) (s : ByteArray) (a : Option Addr) (n cap : Nat) (f : Nat → Int) (hn : n ≤ 9223372036854775807) (hI : Ints w a n f) (r : Int) (hr : refT last tt (goodC f n) = r) (h0 : r ≠ 0) :
    Calls Tryz.prog 51 #[.pointer (some ⟨b, 0, none⟩), .int .i64 tt, .string s, .slice a n cap] w fun e w' => e = .returned (.int .i64 r) ∧ w = w' := by
  have HI := hid hI
  have HW := hid (wrong_any b last tt w h.c6)
  have hd : (r != 0) = true := by simpa using h0
  have hd2 : (r == 0) = false := by simpa using h0
  have HB : Hid (goodC f n = false → r = 2) := hid (fun e => by rw [← hr, e]; unfold refT; rw [if_pos (.inl rfl)])
  have HT : Hid (goodC f n = true → refT last tt true = r) := hid (fun e => by rw [← hr, e])
  clear hr h0 hI h
  go_enter Tryz.func51, Tryz.ntmps51
  go_wp2_with fail
  go_loop [9] (fun i => ∃ k : Nat, k ≤ n ∧ i = .int .i64 k ∧ ∀ j, j < k → 0 ≤ f j ∧ f j ≤ 1099511627776) (fun i => n - (intOf i).toNat)
  case atStart => exact ⟨0, Nat.zero_le _, rfl, fun j hj => by omega⟩
  case round =>
    obtain ⟨k, hk, rfl, hgo⟩ := hrel
    have HG := hid hgo
    clear hgo
    by_cases hlt : k < n
    · obtain ⟨g, o, rfl, hg, hc⟩ := HI.out (by omega)
      have c0 := hc k hlt
      have HX : Hid (∀ x, f k = x → 0 ≤ x → x ≤ 1099511627776 → ∀ j, j < k + 1 → 0 ≤ f j ∧ f j ≤ 1099511627776) := hid (fun x hx h1 h2 j hj => by
        by_cases e : j = k
        · subst e; omega
        · exact HG.out j (by omega))
      have HBD : Hid (∀ x, f k = x → (x < 0 ∨ 1099511627776 < x) → r = 2) := hid (fun x hx h1 => HB.out (by
        cases e : goodC f n
        · rfl
        · have := good_iff.1 e k hlt; omega))
      clear hc
      obtain ⟨x, hx⟩ : ∃ x, f k = x := ⟨_, rfl⟩
      rw [hx] at c0
      have HXX := hid hx
      have hk1 : (k : Int) < (n : Int) := by omega
      clear hx
      by_cases h1 : x < 0
      · have h2 := HBD.out x HXX.out (.inl h1)
        subst h2
        go_wp2_with fail
        go_ret
        exact ⟨rfl, rfl⟩
      · have hd1 : decide (x < 0) = false := by simp; omega
        by_cases h3 : 1099511627776 < x
        · have h2 := HBD.out x HXX.out (.inr h3)
          subst h2
          go_wp2_with fail
          go_ret
          exact ⟨rfl, rfl⟩
        · have hd3 : decide (1099511627776 < x) = false := by simp; omega
          have HN := hid (HX.out x HXX.out (by omega) (by omega))
          clear HX HBD
          go_wp2_with fail
          go_round
          case rel => exact ⟨k + 1, by omega, by go_num, HN.out⟩
          case measure => simp [intOf]; omega
    · obtain rfl : k = n := by omega
      have hg : goodC f k = true := good_iff.2 HG.out
      rw [HT.out hg] at HW
      clear hg
      go_wp2_with fail
      refine HW.out.mono ?_
      rintro e w1 ⟨rfl, rfl⟩
      go_wp2_with fail
      go_ret
      exact ⟨rfl, rfl⟩

theorem More.step {s : ByteArray} {f : Nat → Int} {m x g6 c6 : Nat} {va : Option Addr} {vc : Nat} {wr w6 : World} {o : Obj} (hb : b < w.heap.size) (h : More w b B rv rs t s f m (.slice va (rs.length + m) vc) wr) (hx : rs ++ newR t s f (m + 1) = (rs ++ newR t s f m) ++ [⟨t, s, x⟩])
    (hown : w6.ownsRow B 171 3 (.slice (some ⟨g6, 0, none⟩) (rs.length + m + 1) c6) (rs.length + m + 1) (cellsR (rs ++ newR t s f m) ++ [.int .i64 t, .int .i64 x, .string s])) (hgr : (wr.alloc o).drew.grownBy w6 (Value.slice va (rs.length + m) vc).ownBlock)
    (hat : (Value.slice va (rs.length + m) vc).ownBlock = some g6 ∨ g6 = wr.heap.size + 1) : More w b B rv rs t s f (m + 1) (.slice (some ⟨g6, 0, none⟩) (rs.length + m + 1) c6) (w6.setCell ⟨b, 5, none⟩ (.slice (some ⟨g6, 0, none⟩) (rs.length + m + 1) c6)) := by
  have hs := h.wrote.size
  have hal : Below wr.heap.size wr (wr.alloc o).drew := ((Below.refl _ wr).alloc (Nat.le_refl _) _).drew
  have hals := hal.size
  have e6 : w6.heap[b]? = wr.heap[b]? := (hgr.block b (by omega) (fun e => (h.off b e.symm).1 rfl)).trans (hal.block b (by omega))
  have hg6 : ∀ g, (Value.slice (some ⟨g6, 0, none⟩) (rs.length + m + 1) c6).ownBlock = some g → g ≠ b ∧ (rv.ownBlock = some g ∨ w.heap.size ≤ g) := fun g hg => by
    have e : g6 = g := Option.some.inj hg
    rw [← e]
    rcases hat with h1 | h1
    · exact h.off g6 h1
    · exact ⟨by omega, .inr (by omega)⟩
  refine ⟨World.cell?_setCell_same _ _ _ ((World.cell?_of_block (a := ⟨b, 5, none⟩) e6).trans h.c5), by rw [World.frozen?_setCell]; exact (World.frozen?_of_block (a := ⟨b, 5, none⟩) e6).trans h.f5, ?_, hg6, ?_, fun j hj => ⟨?_, ?_⟩⟩
  · rw [hx, cellsR_app]
    refine owns_keep hown (fun g hg => (grown_set w6 ⟨b, 5, none⟩ _).block g (hown.lt g hg).2 (fun e => ?_))
    exact (hg6 g hg).1 (Option.some.inj e)
  · refine Wr.on (Wr.on (Wr.on h.wrote (Wr.ofBelow (R := fun _ => False) hal) (fun k e => e.elim)) (Wr.ofGrown hgr (R := fun k => (Value.slice va (rs.length + m) vc).ownBlock = some k) (fun k e => e)) (fun k e => ?_)) (Wr.set (R := fun k => k = b) ⟨b, 5, none⟩ _ rfl) (fun k e => .inl (.inl e))
    rcases (h.off k e).2 with h1 | h1
    · exact .inl (.inr h1)
    · exact .inr h1
  · rw [World.cell?_setCell_other _ _ _ _ (by intro e2; cases e2; exact hj rfl)]
    exact (World.cell?_of_block (a := ⟨b, j, none⟩) e6).trans (h.rest j hj).1
  · rw [World.frozen?_setCell]
    exact (World.frozen?_of_block (a := ⟨b, j, none⟩) e6).trans (h.rest j hj).2

theorem More.done {s : ByteArray} {f : Nat → Int} {n : Nat} {v : Value} {wr : World} (hS : IsRS w b B X q last rv rs) (h : More w b B rv rs t s f n v wr) (ht : last ≤ t) (ht2 : t ≤ 1152921504606846976) (hs : s.size ≤ maxLen) (hf : ∀ i, i < n → 0 ≤ f i ∧ f i ≤ 1099511627776) (hfew : rs.length + n ≤ 2000000) :
    IsRS (wr.setCell ⟨b, 6, none⟩ (.int .i64 t)) b B X q t v (rs ++ newR t s f n) := by
  have o : ∀ j, j ≠ 6 → (wr.setCell ⟨b, 6, none⟩ (.int .i64 t)).cell? ⟨b, j, none⟩ = wr.cell? ⟨b, j, none⟩ := fun j hj => World.cell?_setCell_other _ _ _ _ (by intro e2; cases e2; exact hj rfl)
  refine ⟨hS.ok, hS.seed, (o 0 (by omega)).trans ((h.rest 0 (by omega)).1.trans hS.c0), (o 1 (by omega)).trans ((h.rest 1 (by omega)).1.trans hS.c1), (o 2 (by omega)).trans ((h.rest 2 (by omega)).1.trans hS.c2), (o 3 (by omega)).trans ((h.rest 3 (by omega)).1.trans hS.c3), (o 4 (by omega)).trans ((h.rest 4 (by omega)).1.trans hS.c4), (o 5 (by omega)).trans h.c5,
    World.cell?_setCell_same _ _ _ ((h.rest 6 (by omega)).1.trans hS.c6), by rw [World.frozen?_setCell]; exact h.f5, by rw [World.frozen?_setCell]; exact (h.rest 6 (by omega)).2.trans hS.f6, ?_, fun g hg => (h.off g hg).1, ht2, fun x hx => ?_, by rw [List.length_append, newR_len]; exact hfew⟩
  · rw [List.length_append, newR_len]
    refine owns_keep h.own (fun g hg => (grown_set wr ⟨b, 6, none⟩ _).block g (h.own.lt g hg).2 (fun e => (h.off g hg).1 (Option.some.inj e)))
  · rcases List.mem_append.1 hx with hx | hx
    · have := hS.all x hx
      exact ⟨by omega, this.2⟩
    · unfold newR at hx
      obtain ⟨i, hi, rfl⟩ := List.mem_map.1 hx
      have := hf i (List.mem_range.1 hi)
      exact ⟨Nat.le_refl _, by dsimp only; omega, hs⟩

set_option maxRecDepth 20000 in
set_option maxHeartbeats 4000000 in
theorem radd_yes (h : IsRS w b B X q last rv rs) (hB : B ≤ w.heap.size) (t : Nat) (ht : last ≤ t) (ht2 : t ≤ 1152921504606846976) (s : ByteArray) (hs : s.size ≤ maxLen) (a : Option Addr) (n cap : Nat) (f : Nat → Int) (hfew : rs.length + n ≤ 2000000) (hI : Ints w a n f) (hgood : goodC f n = true) (hoff : ∀ g o, a = some ⟨g, o, none⟩ → 0 < n → g ≠ b ∧ rv.ownBlock ≠ some g) :
    Calls Tryz.prog 51 #[.pointer (some ⟨b, 0, none⟩), .int .i64 t, .string s, .slice a n cap] w fun e w' => e = .returned (.int .i64 0) ∧ ∃ rv', IsRS w' b B X q t rv' (rs ++ newR t s f n) ∧ (∀ g, rv'.ownBlock = some g → rv.ownBlock = some g ∨ w.heap.size ≤ g) ∧ Wr (fun j => j = b ∨ rv.ownBlock = some j) w w' := by
  obtain ⟨i0, hi, hz0, hz1, hz2⟩ := info_parts infoNote
  have HH := hid h
  have HI := hid hI
  have HW := hid (wrong_any b last t w h.c6)
  have e0 : refT last t true = 0 := by unfold refT; rw [if_neg (by simp; omega), if_neg (by omega)]
  rw [e0] at HW
  have HG := hid (good_iff.1 hgood)
  have HOF := hid hoff
  have hb := h.lt
  clear hI h hgood e0 hoff
  go_enter Tryz.func51, Tryz.ntmps51
  go_wp2_with fail
  go_loop [9] (fun i => ∃ k : Nat, k ≤ n ∧ i = .int .i64 k) (fun i => n - (intOf i).toNat)
  case atStart => exact ⟨0, Nat.zero_le _, rfl⟩
  case round =>
    obtain ⟨k, hk, rfl⟩ := hrel
    by_cases hlt : k < n
    · obtain ⟨g, o, rfl, hg, hc⟩ := HI.out (by omega)
      have c0 := hc k hlt
      have hgk := HG.out k hlt
      generalize f k = x at c0 hgk
      have hd1 : decide (x < 0) = false := by simp; omega
      have hd3 : decide (1099511627776 < x) = false := by simp; omega
      have hk1 : (k : Int) < (n : Int) := by omega
      clear hc
      go_wp2_with fail
      go_round
      case rel => exact ⟨k + 1, by omega, by go_num⟩
      case measure => simp [intOf]; omega
    · obtain rfl : k = n := by omega
      go_wp2_with fail
      refine HW.out.mono ?_
      rintro e w1 ⟨rfl, rfl⟩
      go_wp2_with fail
      go_loopw [11] (fun i wr => ∃ (m : Nat) (v : Value), m ≤ k ∧ i = .int .i64 m ∧ More w b B rv rs t s f m v wr) (fun i _ => k - (intOf i).toNat)
      case atStart => exact ⟨0, rv, Nat.zero_le _, rfl, ⟨HH.out.c5, HH.out.f5, by rw [show newR t s f 0 = [] from rfl, List.append_nil]; exact HH.out.own, fun g hg => ⟨HH.out.off g hg, .inl hg⟩, Wr.refl _ _, fun j _ => ⟨rfl, rfl⟩⟩⟩
      case round =>
        obtain ⟨m, v, hm, rfl, hM⟩ := hrel
        obtain ⟨va, vc, rfl⟩ := owns_shape hM.own
        have HM := hid hM
        clear hM
        have c5 := HM.out.c5
        have hws := HM.out.wrote.size
        by_cases hlt : m < k
        · obtain ⟨g, o, rfl, hg, hc⟩ := HI.out (by omega)
          have hne := HOF.out g o rfl (by omega)
          have cm : wr.cell? ⟨g, o + m, none⟩ = some (.int .i64 (f m)) := (HM.out.wrote.cell (o + m) hg (fun e => e.elim hne.1 hne.2)).trans (hc m hlt)
          have hfm := HG.out m hlt
          have HNW : Hid (rs ++ newR t s f (m + 1) = (rs ++ newR t s f m) ++ [⟨t, s, (f m).toNat⟩]) := hid (by rw [newR_succ, List.append_assoc])
          obtain ⟨x, hx⟩ : ∃ x, (f m).toNat = x := ⟨_, rfl⟩
          have hfx : f m = (x : Int) := by omega
          rw [hfx] at cm
          rw [hx] at HNW
          have hxm : x ≤ 1099511627776 := by omega
          clear hx hc hfx
          have hm1 : (m : Int) < (k : Int) := by omega
          have hownP : (wr.alloc (.cells #[.int .i64 t, .int .i64 x, .string s] 171)).drew.ownsRow B 171 3 (.slice va (rs.length + m) vc) (rs.length + m) (cellsR (rs ++ newR t s f m)) := World.ownsRow.alloc HM.out.own _
          have hbr : b < wr.heap.size := by omega
          go_wp2_with fail
          go_region_law
            ((refine step_append_lies _ (by rfl) _ _ 123 (by rfl) B 171 i0 (.agg #[.int .i64 0, .int .i64 0, .string ⟨#[]⟩]) 3 32 Tryz.underlying123 hi hz0 hz1 hz2 rfl (by decide) (.slice va (rs.length + m) vc) (rs.length + m) (cellsR (rs ++ newR t s f m)) (by rfl) hownP ⟨wr.heap.size, 0, none⟩ 1 1 [.int .i64 t, .int .i64 x, .string s] (by rfl) rfl (fun j u hu => by
               rw [Go.WideShapes.add_plain, Nat.zero_add]
               have hnn := heap_alloc_new wr (.cells #[.int .i64 t, .int .i64 x, .string s] 171)
               show World.cell? (wr.alloc _) _ = _
               unfold World.cell?
               rw [hnn]
               simpa using hu) (by intro u hu; simp at hu; rcases hu with rfl | rfl | rfl <;> rfl) (by decide) (by unfold maxLen; omega) (by omega) (by show B ≤ (wr.alloc _).heap.size; simp; omega) (wr.heap.size + 1) (by show (wr.alloc _).heap.size = _; simp) ?_; intro g6 c6 w6 hown6 hgr6 hat6 hlt6
              have e6 : w6.heap[b]? = wr.heap[b]? := (hgr6.block b (by show b < (wr.alloc _).heap.size; simp; omega) (fun e => (HM.out.off b e.symm).1 rfl)).trans (Below.heap_alloc wr _ b hbr)
              have q0 : w6.cell? ⟨b, 5, none⟩ = some (.slice va (rs.length + m) vc) := (World.cell?_of_block (a := ⟨b, 5, none⟩) e6).trans c5
              have qf : w6.frozen? ⟨b, 5, none⟩ = false := (World.frozen?_of_block (a := ⟨b, 5, none⟩) e6).trans HM.out.f5
              have HO6 := hid hown6
              have HG6 := hid hgr6
              have HA6 := hid hat6
              clear hown6 hgr6 hat6 hlt6 e6 hownP))
          all_goals
            go_wp2_with fail
            exact ⟨⟨m + 1, _, by omega, by go_num, More.step hb HM.out HNW.out HO6.out HG6.out HA6.out⟩, by simp [intOf]; omega⟩
        · obtain rfl : m = k := by omega
          have c6 := (HM.out.rest 6 (by omega)).1.trans HH.out.c6
          have f6 := (HM.out.rest 6 (by omega)).2.trans HH.out.f6
          have HD := hid (More.done HH.out HM.out ht ht2 hs HG.out hfew)
          go_wp2_with fail
          go_ret
          exact ⟨rfl, _, HD.out, fun g hg => (HM.out.off g hg).2, HM.out.wrote.trans (Wr.set (R := fun j => j = b ∨ rv.ownBlock = some j) ⟨b, 6, none⟩ _ (.inl rfl))⟩

end Go.Proofs.YtbihelpnojjacaaGreat.SruC
