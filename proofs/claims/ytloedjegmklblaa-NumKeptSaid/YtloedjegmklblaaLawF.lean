/- The walk of NumKept: it returns true for every list and two numbers. -/
import Derived.Test.YtloedjegmklblaaLawE
namespace Go.Proofs.Ytloedjegmklblaa.LawF
open Go.ChangeShapes Go.WideShapes Go.ChangeAt Go.RowKit Base NumM NumA NumB NumC NumD NumE RefA RefB RefC RefD RefE LawA LawB LawE DivB

theorem floor_bd (n c : Int) (hc : 0 < c) : rdiv n c false * c ≤ n ∧ n < (rdiv n c false + 1) * c := by
  unfold rdiv mend neg
  have e1 : decide (c < 0) = false := decide_eq_false (by omega)
  rw [e1]
  have hd : n.natAbs / c.natAbs * c.natAbs + n.natAbs % c.natAbs = n.natAbs := Nat.div_add_mod' _ _
  have hm : n.natAbs % c.natAbs < c.natAbs := Nat.mod_lt _ (by omega)
  have e : ((n.natAbs / c.natAbs * c.natAbs : Nat) : Int) = ((n.natAbs / c.natAbs : Nat) : Int) * c := by
    rw [Int.natCast_mul]; congr 1; omega
  generalize n.natAbs / c.natAbs * c.natAbs = P at *
  generalize n.natAbs % c.natAbs = r at *
  generalize ((n.natAbs / c.natAbs : Nat) : Int) = q at *
  by_cases h : n < 0
  · by_cases hr : r = 0
    · simp [h, hr]
      rw [Int.neg_mul, Int.add_mul, Int.neg_mul, Int.one_mul]; omega
    · simp [h, hr]
      rw [Int.neg_mul, Int.add_mul, Int.add_mul, Int.neg_mul, Int.add_mul, Int.one_mul]; omega
  · simp [h]
    rw [Int.add_mul, Int.one_mul]; omega

theorem fold_ge (m : Int) : ∀ (l : List Int) (s : Int), (∀ x ∈ l, m + 1 ≤ x) → s + (m + 1) * l.length ≤ l.foldl (· + ·) s
  | [], s, _ => by simp
  | x :: l, s, h => by
    have ih := fold_ge m l (s + x) (fun y hy => h y (List.mem_cons_of_mem _ hy))
    have hx := h x (List.mem_cons_self ..)
    simp only [List.foldl_cons, List.length_cons]
    have e : (m + 1) * ((l.length + 1 : Nat) : Int) = (m + 1) * l.length + (m + 1) := by rw [Int.natCast_add, Int.mul_add]; simp
    rw [e]; omega

theorem fold_le (m : Int) : ∀ (l : List Int) (s : Int), (∀ x ∈ l, x ≤ m - 1) → l.foldl (· + ·) s ≤ s + (m - 1) * l.length
  | [], s, _ => by simp
  | x :: l, s, h => by
    have ih := fold_le m l (s + x) (fun y hy => h y (List.mem_cons_of_mem _ hy))
    have hx := h x (List.mem_cons_self ..)
    simp only [List.foldl_cons, List.length_cons]
    have e : (m - 1) * ((l.length + 1 : Nat) : Int) = (m - 1) * l.length + (m - 1) := by rw [Int.natCast_add, Int.mul_add]; simp
    rw [e]; omega

def anyLe (l : List Int) (m : Int) : Bool := l.any fun x => decide (x ≤ m)
def anyGe (l : List Int) (m : Int) : Bool := l.any fun x => decide (m ≤ x)

theorem mean_between {xs : List Int} (h : ∀ x ∈ xs, Fits x) (h0 : 0 < xs.length) :
    anyLe xs (rdiv (sumL xs) xs.length false) = true ∧ anyGe xs (rdiv (sumL xs) xs.length false) = true ∧ Fits (rdiv (sumL xs) xs.length false) := by
  have hf := floor_bd (sumL xs) xs.length (by omega)
  generalize rdiv (sumL xs) xs.length false = m at *
  have a1 : anyLe xs m = true := by
    by_cases hh : anyLe xs m = true
    · exact hh
    · exfalso
      have hall : ∀ x ∈ xs, m + 1 ≤ x := by
        intro x hx
        unfold anyLe at hh
        rw [List.any_eq_true] at hh
        by_cases hxm : x ≤ m
        · exact absurd ⟨x, hx, decide_eq_true hxm⟩ hh
        · omega
      have := fold_ge m xs 0 hall
      unfold sumL at hf
      omega
  have a2 : anyGe xs m = true := by
    by_cases hh : anyGe xs m = true
    · exact hh
    · exfalso
      have hall : ∀ x ∈ xs, x ≤ m - 1 := by
        intro x hx
        unfold anyGe at hh
        rw [List.any_eq_true] at hh
        by_cases hxm : m ≤ x
        · exact absurd ⟨x, hx, decide_eq_true hxm⟩ hh
        · omega
      have := fold_le m xs 0 hall
      unfold sumL at hf
      have e : (m - 1) * (xs.length : Int) = m * xs.length - xs.length := by rw [Int.sub_mul, Int.one_mul]
      rw [e] at this
      omega
  refine ⟨a1, a2, ?_⟩
  unfold anyLe at a1; unfold anyGe at a2
  rw [List.any_eq_true] at a1 a2
  obtain ⟨x, hx, hxm⟩ := a1
  obtain ⟨y, hy, hym⟩ := a2
  have fx := h x hx; have fy := h y hy
  have := of_decide_eq_true hxm; have := of_decide_eq_true hym
  unfold Fits at *
  omega

theorem any_snoc_le (l : List Int) (x m : Int) : anyLe (l ++ [x]) m = (anyLe l m || decide (x ≤ m)) := by simp [anyLe]
theorem any_snoc_ge (l : List Int) (x m : Int) : anyGe (l ++ [x]) m = (anyGe l m || decide (m ≤ x)) := by simp [anyGe]

theorem keep_of {n : Int} (h : Fits n) : keep n = n := by unfold keep; rw [if_pos h]

/-- what Mean of a list that is not empty answers -/
theorem mean_ok {xs : List Int} (h : ∀ x ∈ xs, Fits x) (h0 : 0 < xs.length) :
    divN (sumL xs) xs.length false = rdiv (sumL xs) xs.length false ∧ divE (sumL xs) xs.length false = 0 := by
  have hm := (mean_between h h0).2.2
  unfold divN divE tellN tellE
  have hne : ¬ ((xs.length : Int) = 0) := by omega
  rw [if_neg hne, if_neg hne, if_pos hm, if_pos hm]
  exact ⟨rfl, rfl⟩

/-- sums and products that can be held are not changed -/
theorem kept_cases (a b : Int) (ha : Fits a) :
    ((tellE (a + b) == 0) = false ∨ ((tellE (a + b) == 0) = true ∧ keep (keep a + b) = tellN (a + b))) ∧
    ((tellE (a * b) == 0) = false ∨ ((tellE (a * b) == 0) = true ∧ keep (a * b) = tellN (a * b))) := by
  rw [keep_of ha]
  unfold tellE tellN
  constructor
  · by_cases h : Fits (a + b)
    · right; rw [if_pos h, if_pos h, keep_of h]; exact ⟨rfl, rfl⟩
    · left; rw [if_neg h]; rfl
  · by_cases h : Fits (a * b)
    · right; rw [if_pos h, if_pos h, keep_of h]; exact ⟨rfl, rfl⟩
    · left; rw [if_neg h]; rfl

/-- all that is asked ahead of the loop -/
structure Ctr (a b s es t et ps : Int) : Prop where
  ha : ∀ w, Calls Try.prog 15 #[.int .i64 a, .int .i64 b] w fun e w' => e = .returned (.tuple #[.int .i64 s, .int .i64 es]) ∧ Below w.heap.size w w'
  hm : ∀ w, Calls Try.prog 21 #[.int .i64 a, .int .i64 b] w fun e w' => e = .returned (.tuple #[.int .i64 t, .int .i64 et]) ∧ Below w.heap.size w w'
  hp : ∀ w p, p < w.heap.size → w.cell? ⟨p, 0, none⟩ = some (.int .i64 a) → w.cell? ⟨p, 1, none⟩ = some (.int .i64 b) → Calls Try.prog 31 #[.slice (some ⟨p, 0, none⟩) 2 2] w fun e w' => e = .returned (.int .i64 ps) ∧ Below w.heap.size w w'
  ht : ∀ w, (et == 0) = true → Calls Try.prog 35 #[.int .i64 a, .int .i64 b] w fun e w' => e = .returned (.int .i64 t) ∧ Below w.heap.size w w'

/-- what the loop keeps -/
def KRel (len : Nat) (xs : List Int) (m : Int) (u o i : Value) : Prop :=
  ∃ k : Nat, k ≤ len ∧ i = .int .i64 k ∧ u = .bool (anyLe (xs.take k) m) ∧ o = .bool (anyGe (xs.take k) m)

set_option maxRecDepth 100000 in
set_option maxHeartbeats 4000000 in
theorem kept_core (a b s es t et ps m : Int) (p q len cap : Nat) (xs : List Int) (w : World) (hlen : len ≤ 9223372036854775807) (h0 : 0 < len) (hp : p < w.heap.size) (HL : Hid (xs.length = len))
    (HC : Hid (∀ i, i < len → w.cell? ⟨p, q + i, none⟩ = some (.int .i64 (xs.getD i 0)))) (HK : Hid (Ctr a b s es t et ps))
    (HM : Hid (∀ w, p < w.heap.size → (∀ i, i < len → w.cell? ⟨p, q + i, none⟩ = some (.int .i64 (xs.getD i 0))) → Calls Try.prog 29 #[.slice (some ⟨p, q, none⟩) len cap] w fun e w' => e = .returned (.tuple #[.int .i64 m, .int .i64 0]) ∧ Below w.heap.size w w'))
    (c1 : (es == 0) = false ∨ ((es == 0) = true ∧ ps = s)) (c2 : (et == 0) = false ∨ (et == 0) = true) (HU : Hid (anyLe xs m = true)) (HO : Hid (anyGe xs m = true)) :
    Calls Try.prog 8 #[.slice (some ⟨p, q, none⟩) len cap, .int .i64 a, .int .i64 b] w fun e w' => e = .returned (.bool true) ∧ Below w.heap.size w w' := by
  have hl0 : ((len : Int) == 0) = false := by rw [beq_eq_false_iff_ne]; omega
  have H0 := hid h0
  clear h0
  go_enter Try.func8, Try.ntmps8
  go_wp2_with fail
  refine (HK.out.ha _).mono ?_
  rintro e w1 ⟨rfl, hb1⟩
  go_wp2_with fail
  refine (HK.out.hm _).mono ?_
  rintro e w2 ⟨rfl, hb2⟩
  have B2 : Hid (Below w.heap.size w w2) := hid (hb1.trans (hb2.mono hb1.size))
  clear hb1 hb2
  go_upto_region 3 with fail
  go_cut [48] (fun s48 wx => s48 = .bool false ∧ Below w.heap.size w wx)
  case first =>
    rcases c1 with c1 | ⟨c1, rfl⟩ <;> rcases c2 with c2 | c2
    all_goals
      have HT2 : Hid (∀ w, (et == 0) = true → Calls Try.prog 35 #[.int .i64 a, .int .i64 b] w fun e w' => e = .returned (.int .i64 t) ∧ Below w.heap.size w w') := hid HK.out.ht
      have C2 := hid c2
      go_wp2_with (first | (go_at_call 31; refine (HK.out.hp _ _ ?q1 ?q2 ?q3).mono ?_; rotate_left 3; rintro e w3 ⟨rfl, hb3⟩) | (go_at_call 35; refine (HT2.out _ C2.out).mono ?_; rintro e w4 ⟨rfl, hb4⟩))
      all_goals first
        | (go_simp; done)
        | (simp; done)
        | (go_meet; refine ⟨rfl, ?_⟩; have z0 := B2.out.size; have b2 := B2.out; (try (have z3 := hb3.size; simp at z3)); exact (by repeat (first | (with_reducible exact Below.refl _ _) | (with_reducible refine Below.setCell ?_ (by first | (simp; done) | (simp; omega) | omega) _) | (with_reducible refine Below.alloc ?_ (by first | (simp; done) | (simp; omega) | omega) _) | (with_reducible refine Below.drew ?_) | (with_reducible exact hb4) | (with_reducible exact hb3) | (with_reducible exact b2) | (with_reducible refine Below.trans ?_ (Below.mono hb4 (by first | (simp; done) | (simp; omega) | omega))) | (with_reducible refine Below.trans ?_ (Below.mono hb3 (by first | (simp; done) | (simp; omega) | omega))) | (with_reducible refine Below.trans ?_ (Below.mono b2 (by first | (simp; done) | (simp; omega) | omega))))))
  case rest =>
    obtain ⟨rfl, hbel⟩ := hcut
    have B3 := hid hbel
    clear hbel c1 c2 B2
    go_wp2_with fail
    refine (HM.out _ ?_ ?_).mono ?_
    · exact Nat.lt_of_lt_of_le hp B3.out.size
    · intro i hi
      exact (B3.out.cell (p := ⟨p, q + i, none⟩) hp).trans (HC.out i hi)
    rintro e w3 ⟨rfl, hb3⟩
    have B4 : Hid (Below w.heap.size w w3) := hid (B3.out.trans (hb3.mono B3.out.size))
    have HC3 : Hid (∀ i, i < len → w3.cell? ⟨p, q + i, none⟩ = some (.int .i64 (xs.getD i 0))) := hid fun i hi => (B4.out.cell (p := ⟨p, q + i, none⟩) hp).trans (HC.out i hi)
    clear hb3 B3
    go_wp2_with fail
    go_loop [13, 14, 15] (fun u o i => KRel len xs m u o i) (fun _ _ i => len - (intOf i).toNat)
    case atStart => exact ⟨0, Nat.zero_le _, rfl, rfl, rfl⟩
    case round =>
      obtain ⟨k, hk, rfl, rfl, rfl⟩ := hrel
      by_cases hlt : k < len
      · have hx := HC3.out k hlt
        have HS := take_snoc xs k (by rw [HL.out]; exact hlt)
        have HU2 : Hid (anyLe (xs.take (k + 1)) m = (anyLe (xs.take k) m || decide (xs.getD k 0 ≤ m))) := hid (by rw [HS, any_snoc_le])
        have HO2 : Hid (anyGe (xs.take (k + 1)) m = (anyGe (xs.take k) m || decide (m ≤ xs.getD k 0))) := hid (by rw [HS, any_snoc_ge])
        clear HS
        generalize xs.getD k 0 = x at *
        generalize anyLe (xs.take k) m = b1 at *
        generalize anyGe (xs.take k) m = b2 at *
        cases b1 <;> cases b2
        all_goals
          go_wp2
          all_goals
            go_round
            case rel => exact ⟨k + 1, by omega, by go_num, by rw [HU2.out]; simp, by rw [HO2.out]; simp⟩
            case measure => simp [intOf]; omega
      · have hE : xs.take k = xs := List.take_of_length_le (by rw [HL.out]; omega)
        rw [hE, HU.out, HO.out]
        clear hE
        go_wp2_with (go_at_call 17; refine (live_any _).mono ?_; rintro e w4 ⟨rfl, hb4⟩)
        go_ret
        have b4 := B4.out
        have z4 := b4.size
        exact ⟨rfl, (by repeat (first | (with_reducible exact Below.refl _ _) | (with_reducible refine Below.setCell ?_ (by first | (simp; done) | (simp; omega) | omega) _) | (with_reducible refine Below.alloc ?_ (by first | (simp; done) | (simp; omega) | omega) _) | (with_reducible refine Below.drew ?_) | (with_reducible exact hb4) | (with_reducible exact b4) | (with_reducible refine Below.trans ?_ (Below.mono hb4 (by first | (simp; done) | (simp; omega) | omega))) | (with_reducible refine Below.trans ?_ (Below.mono b4 (by first | (simp; done) | (simp; omega) | omega)))))⟩

set_option maxRecDepth 100000 in
set_option maxHeartbeats 2000000 in
theorem kept_empty (a b s es t et ps : Int) (a1 : Option Addr) (cap : Nat) (w : World) (HK : Hid (Ctr a b s es t et ps))
    (c1 : (es == 0) = false ∨ ((es == 0) = true ∧ ps = s)) (c2 : (et == 0) = false ∨ (et == 0) = true) :
    Calls Try.prog 8 #[.slice a1 0 cap, .int .i64 a, .int .i64 b] w fun e w' => e = .returned (.bool true) ∧ Below w.heap.size w w' := by
  go_enter Try.func8, Try.ntmps8
  go_wp2_with fail
  refine (HK.out.ha _).mono ?_
  rintro e w1 ⟨rfl, hb1⟩
  go_wp2_with fail
  refine (HK.out.hm _).mono ?_
  rintro e w2 ⟨rfl, hb2⟩
  have B2 : Hid (Below w.heap.size w w2) := hid (hb1.trans (hb2.mono hb1.size))
  clear hb1 hb2
  go_upto_region 3 with fail
  go_cut [48] (fun s48 wx => s48 = .bool false ∧ Below w.heap.size w wx)
  case first =>
    rcases c1 with c1 | ⟨c1, rfl⟩ <;> rcases c2 with c2 | c2
    all_goals
      have HT2 : Hid (∀ w, (et == 0) = true → Calls Try.prog 35 #[.int .i64 a, .int .i64 b] w fun e w' => e = .returned (.int .i64 t) ∧ Below w.heap.size w w') := hid HK.out.ht
      have C2 := hid c2
      go_wp2_with (first | (go_at_call 31; refine (HK.out.hp _ _ ?q1 ?q2 ?q3).mono ?_; rotate_left 3; rintro e w3 ⟨rfl, hb3⟩) | (go_at_call 35; refine (HT2.out _ C2.out).mono ?_; rintro e w4 ⟨rfl, hb4⟩))
      all_goals first
        | (go_simp; done)
        | (simp; done)
        | (go_meet; refine ⟨rfl, ?_⟩; have z0 := B2.out.size; have b2 := B2.out; (try (have z3 := hb3.size; simp at z3)); exact (by repeat (first | (with_reducible exact Below.refl _ _) | (with_reducible refine Below.setCell ?_ (by first | (simp; done) | (simp; omega) | omega) _) | (with_reducible refine Below.alloc ?_ (by first | (simp; done) | (simp; omega) | omega) _) | (with_reducible refine Below.drew ?_) | (with_reducible exact hb4) | (with_reducible exact hb3) | (with_reducible exact b2) | (with_reducible refine Below.trans ?_ (Below.mono hb4 (by first | (simp; done) | (simp; omega) | omega))) | (with_reducible refine Below.trans ?_ (Below.mono hb3 (by first | (simp; done) | (simp; omega) | omega))) | (with_reducible refine Below.trans ?_ (Below.mono b2 (by first | (simp; done) | (simp; omega) | omega))))))
  case rest =>
    obtain ⟨rfl, hbel⟩ := hcut
    have B3 := hid hbel
    clear hbel c1 c2 B2
    go_wp2_with fail
    refine (mean_empty a1 cap _).mono ?_
    rintro e w3 ⟨rfl, hb3⟩
    go_wp2_with (go_at_call 17; refine (live_any _).mono ?_; rintro e w4 ⟨rfl, hb4⟩)
    go_ret
    have b3 := B3.out
    have z3 := hb3.size
    have z4 := b3.size
    exact ⟨rfl, (by repeat (first | (with_reducible exact Below.refl _ _) | (with_reducible refine Below.setCell ?_ (by first | (simp; done) | (simp; omega) | omega) _) | (with_reducible refine Below.alloc ?_ (by first | (simp; done) | (simp; omega) | omega) _) | (with_reducible refine Below.drew ?_) | (with_reducible exact hb4) | (with_reducible exact hb3) | (with_reducible exact b3) | (with_reducible refine Below.trans ?_ (Below.mono hb4 (by first | (simp; done) | (simp; omega) | omega))) | (with_reducible refine Below.trans ?_ (Below.mono hb3 (by first | (simp; done) | (simp; omega) | omega))) | (with_reducible refine Below.trans ?_ (Below.mono b3 (by first | (simp; done) | (simp; omega) | omega)))))⟩

theorem ctr_of {a b : Int} (ha : Fits a) (hb : Fits b) : Ctr a b (tellN (a + b)) (tellE (a + b)) (tellN (a * b)) (tellE (a * b)) (keep (keep a + b)) where
  ha := fun w => add_any a b ha hb w
  hm := fun w => mul_any a b ha hb w
  hp := fun w p hp c0 c1 => plus_two a b ha hb w p hp c0 c1
  ht := fun w h => by
    have e : keep (a * b) = tellN (a * b) := by
      rcases (kept_cases a b ha).2 with h2 | h2
      · rw [h] at h2; exact absurd h2 (by decide)
      · exact h2.2
    have := times_any a b ha hb w
    rw [e] at this
    exact this

theorem keptAll (a0 : Option Addr) (len0 cap0 : Nat) (z0 : List Int) (a1 a2 : Int) (w : World) (w0 : IsRow .i64 w a0 len0 cap0 z0) (w1 : (Lit.int .i64 a1).wf = true) (w2 : (Lit.int .i64 a2).wf = true) :
    Calls Try.prog 8 #[.slice a0 len0 cap0, .int .i64 a1, .int .i64 a2] w fun e w' => e = .returned (.bool true) ∧ Below w.heap.size w w' := by
  have ha : Fits a1 := Go.bounds_i64 w1
  have hb : Fits a2 := Go.bounds_i64 w2
  have hk := kept_cases a1 a2 ha
  have c2 : (tellE (a1 * a2) == 0) = false ∨ (tellE (a1 * a2) == 0) = true := by
    rcases hk.2 with h | h
    · exact .inl h
    · exact .inr h.1
  by_cases h0 : len0 = 0
  · subst h0
    exact kept_empty a1 a2 _ _ _ _ _ a0 cap0 w (hid (ctr_of ha hb)) hk.1 c2
  · obtain ⟨p, q, rfl, hp, hl, hz, hc, hw⟩ := w0.at (by omega)
    have hlen : (z0.take len0).length = len0 := by rw [List.length_take]; omega
    have hx : ∀ x ∈ z0.take len0, Fits x := fun x hx => Go.bounds_i64 (hw x (List.mem_of_mem_take hx))
    have hpos : 0 < (z0.take len0).length := by omega
    have hm := mean_between hx hpos
    have hok := mean_ok hx hpos
    rw [hlen] at hm hok
    refine kept_core a1 a2 _ _ _ _ _ (rdiv (sumL (z0.take len0)) len0 false) p q len0 cap0 (z0.take len0) w hl (by omega) hp (hid hlen) (hid hc) (hid (ctr_of ha hb)) (hid fun w hp hc => ?_) hk.1 c2 (hid hm.1) (hid hm.2.1)
    have := mean_list p q len0 cap0 (z0.take len0) w hl (by omega) hp (hid hlen) (hid hc) (hid hx)
    rw [hok.1, hok.2] at this
    exact this

end Go.Proofs.Ytloedjegmklblaa.LawF
