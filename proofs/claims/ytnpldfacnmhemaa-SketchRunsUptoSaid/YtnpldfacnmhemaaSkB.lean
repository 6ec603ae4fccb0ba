/- Contracts of a sketch's small calls. -/
import Derived.Test.YtnpldfacnmhemaaSkA
import Derived.Test.YtnpldfacnmhemaaWldG
namespace Go.Proofs.Ytnpldfacnmhemaa.SkB
open Go.ChangeShapes Go.WideShapes Go.ChangeAt Go.RowKit Base Wri SkA

/-- wrong for a count of tokens -/
def badC (n : Int) : Bool := decide (n < 0 ∨ 1099511627776 < n)

set_option maxHeartbeats 400000 in
theorem are1_any (n : Int) (w : World) :
    Calls Try.prog 68 #[.int .i64 n] w fun e w' => e = .returned (.bool (badC n)) ∧ w = w' := by
  by_cases h1 : n < 0
  · have e : badC n = true := by unfold badC; simp [h1]
    rw [e]; clear e
    go_enter Try.func68, Try.ntmps68
    go_wp2
    go_ret
    exact ⟨rfl, rfl⟩
  · have h1' : decide (n < 0) = false := by simpa using h1
    by_cases h2 : 1099511627776 < n
    · have e : badC n = true := by unfold badC; simp [h2]
      rw [e]; clear e h1
      go_enter Try.func68, Try.ntmps68
      go_wp2
      go_ret
      exact ⟨rfl, rfl⟩
    · have e : badC n = false := by unfold badC; simp; omega
      rw [e]; clear e h1
      have h2' : decide (1099511627776 < n) = false := by simpa using h2
      clear h2
      go_enter Try.func68, Try.ntmps68
      go_wp2
      go_ret
      exact ⟨rfl, rfl⟩

set_option maxRecDepth 20000 in
set_option maxHeartbeats 400000 in
theorem indexInts (g o n cap : Nat) (f : Nat → Int) (w : World) (hn : n ≤ 9223372036854775807) (HC : Hid (∀ i, i < n → w.cell? ⟨g, o + i, none⟩ = some (.int .i64 (f i)))) :
    Calls Try.prog 79 #[.slice (some ⟨g, o, none⟩) n cap, .func (Fn.func 68) #[] #[]] w fun e w' => w = w' ∧ ((∃ k : Nat, k < n ∧ e = .returned (.int .i64 k) ∧ badC (f k) = true) ∨ (e = .returned (.int .i64 (-1)) ∧ ∀ i, i < n → badC (f i) = false)) := by
  go_enter Try.func79, Try.ntmps79
  go_wp2
  go_loop [8] (fun i => ∃ k : Nat, k ≤ n ∧ i = .int .i64 k ∧ ∀ i, i < k → badC (f i) = false) (fun i => n - (intOf i).toNat)
  case atStart => exact ⟨0, Nat.zero_le _, rfl, fun i hi => by omega⟩
  case round =>
    obtain ⟨k, hk, rfl, hno⟩ := hrel
    have HNo := hid hno
    clear hno
    by_cases hlt : k < n
    · have hx := HC.out k hlt
      have HA := hid (are1_any (f k) w)
      obtain ⟨b, hb⟩ : ∃ b, badC (f k) = b := ⟨_, rfl⟩
      rw [hb] at HA
      have HBb := hid hb
      clear hb
      cases b with
      | true =>
        go_wp2_with fail
        refine HA.out.mono ?_
        rintro e w2 ⟨rfl, rfl⟩
        go_wp2
        go_ret
        exact ⟨rfl, .inl ⟨k, hlt, rfl, HBb.out⟩⟩
      | false =>
        go_wp2_with fail
        refine HA.out.mono ?_
        rintro e w2 ⟨rfl, rfl⟩
        go_wp2
        go_round
        case rel => exact ⟨k + 1, by omega, by go_num, fun i hi => by by_cases h : i = k; (subst h; exact HBb.out); exact HNo.out i (by omega)⟩
        case measure => simp [intOf]; omega
    · go_wp2
      go_ret
      exact ⟨rfl, .inr ⟨rfl, fun i hi => HNo.out i (by omega)⟩⟩

set_option maxHeartbeats 400000 in
theorem indexInts_none (a : Option Addr) (cap : Nat) (w : World) :
    Calls Try.prog 79 #[.slice a 0 cap, .func (Fn.func 68) #[] #[]] w fun e w' => e = .returned (.int .i64 (-1)) ∧ w = w' := by
  go_enter Try.func79, Try.ntmps79
  go_wp2
  go_loop [8] (fun i => i = .int .i64 0) (fun _ => 0)
  case atStart => rfl
  case round =>
    obtain rfl := hrel
    go_wp2
    go_ret
    exact ⟨rfl, rfl⟩

/-- a slice of ints, as a call's argument -/
def Ints (w : World) (a : Option Addr) (n : Nat) (f : Nat → Int) : Prop := 0 < n → ∃ g o, a = some ⟨g, o, none⟩ ∧ g < w.heap.size ∧ ∀ i, i < n → w.cell? ⟨g, o + i, none⟩ = some (.int .i64 (f i))

open Classical in
/-- all right for counts of tokens -/
noncomputable def goodC (f : Nat → Int) (n : Nat) : Bool := decide (∀ i, i < n → badC (f i) = false)

set_option maxHeartbeats 400000 in
theorem contains_core (v : Value) (b : Bool) (w : World) (HI : Hid (Calls Try.prog 79 #[v, .func (Fn.func 68) #[] #[]] w fun e w' => (∃ r : Int, e = .returned (.int .i64 r) ∧ decide (0 ≤ r) = b) ∧ w = w')) :
    Calls Try.prog 67 #[v, .func (Fn.func 68) #[] #[]] w fun e w' => e = .returned (.bool b) ∧ w = w' := by
  go_enter Try.func67, Try.ntmps67
  go_wp2_with fail
  refine HI.out.mono ?_
  rintro e w1 ⟨⟨r, rfl, hb⟩, rfl⟩
  go_wp2
  go_ret
  exact ⟨rfl, rfl⟩

set_option maxHeartbeats 400000 in
theorem are_core (v : Value) (b : Bool) (w : World) (HI : Hid (Calls Try.prog 67 #[v, .func (Fn.func 68) #[] #[]] w fun e w' => e = .returned (.bool b) ∧ w = w')) :
    Calls Try.prog 33 #[v] w fun e w' => e = .returned (.bool (!b)) ∧ w = w' := by
  go_enter Try.func33, Try.ntmps33
  go_wp2_with fail
  refine HI.out.mono ?_
  rintro e w1 ⟨rfl, rfl⟩
  go_wp2
  go_ret
  exact ⟨rfl, rfl⟩

theorem areCounts_any (a : Option Addr) (n cap : Nat) (f : Nat → Int) (w : World) (hn : n ≤ 9223372036854775807) (h : Ints w a n f) :
    Calls Try.prog 33 #[.slice a n cap] w fun e w' => e = .returned (.bool (goodC f n)) ∧ w = w' := by
  by_cases h0 : n = 0
  · subst h0
    have e : goodC f 0 = true := by unfold goodC; simp
    rw [e]
    exact are_core _ false w (hid (contains_core _ false w (hid ((indexInts_none a cap w).mono fun e w' h => ⟨⟨-1, h.1, by decide⟩, h.2⟩))))
  · obtain ⟨g, o, rfl, _, hc⟩ := h (by omega)
    have hi := indexInts g o n cap f w hn (hid hc)
    by_cases hb : ∀ i, i < n → badC (f i) = false
    · have e : goodC f n = true := by unfold goodC; simpa using hb
      rw [e]
      exact are_core _ false w (hid (contains_core _ false w (hid (hi.mono fun e w' h => by
        obtain ⟨rfl, ⟨k, hk, _, hbk⟩ | ⟨he, _⟩⟩ := h
        · rw [hb k hk] at hbk; cases hbk
        · exact ⟨⟨-1, he, by decide⟩, rfl⟩))))
    · have e : goodC f n = false := by unfold goodC; simpa using hb
      rw [e]
      exact are_core _ true w (hid (contains_core _ true w (hid (hi.mono fun e w' h => by
        obtain ⟨rfl, ⟨k, hk, he, hbk⟩ | ⟨_, hall⟩⟩ := h
        · exact ⟨⟨k, he, by simp⟩, rfl⟩
        · exact absurd hall hb))))


/-- is a number from 1 to a greatest one? -/
def inB (n most : Int) : Bool := decide (1 ≤ n ∧ n ≤ most)

set_option maxHeartbeats 400000 in
theorem within_any (n most : Int) (w : World) :
    Calls Try.prog 63 #[.int .i64 n, .int .i64 most] w fun e w' => e = .returned (.bool (inB n most)) ∧ w = w' := by
  have hd : inB n most = (decide (1 ≤ n) && decide (n ≤ most)) := by unfold inB; exact Bool.decide_and _ _
  rw [hd]
  clear hd
  by_cases h1 : 1 ≤ n
  · have e1 : decide (1 ≤ n) = true := by simpa using h1
    rw [e1]
    go_enter Try.func63, Try.ntmps63
    go_wp2
    go_ret
    exact ⟨by simp, rfl⟩
  · have e1 : decide (1 ≤ n) = false := by simpa using h1
    rw [e1]
    clear h1
    go_enter Try.func63, Try.ntmps63
    go_wp2
    go_ret
    exact ⟨by simp, rfl⟩

def szv (wd bk ro co : Int) : Value := .agg #[.int .i64 wd, .int .i64 bk, .int .i64 ro, .int .i64 co]
/-- the error of a size -/
def refZ (wd bk ro co : Int) : Int := if inB wd 1099511627776 && inB bk 60 && inB ro 8 && inB co 4096 then (if wd % bk = 0 then 0 else 6) else 2

set_option maxRecDepth 20000 in
set_option maxHeartbeats 1000000 in
theorem refused_any (wd bk ro co : Int) (w : World) :
    Calls Try.prog 27 #[szv wd bk ro co] w fun e w' => e = .returned (.int .i64 (refZ wd bk ro co)) ∧ Below w.heap.size w w' := by
  unfold refZ
  have h1 := fun w => within_any wd 1099511627776 w
  have h2 := fun w => within_any bk 60 w
  have h3 := fun w => within_any ro 8 w
  have h4 := fun w => within_any co 4096 w
  have hwd : inB wd 1099511627776 = true → inB bk 60 = true → 0 ≤ wd ∧ 1 ≤ bk := fun a b => by
    have := of_decide_eq_true a; have := of_decide_eq_true b; omega
  generalize inB wd 1099511627776 = b1 at *
  generalize inB bk 60 = b2 at *
  generalize inB ro 8 = b3 at *
  generalize inB co 4096 = b4 at *
  unfold szv
  cases b1 with
  | false =>
    clear h2 h3 h4 hwd
    go_enter Try.func27, Try.ntmps27
    go_wp2_with fail
    refine (h1 _).mono ?_
    rintro e w1 ⟨rfl, rfl⟩
    go_wp2_with fail
    go_ret
    exact ⟨rfl, (by repeat (first | (with_reducible exact Below.refl _ _) | (with_reducible refine Below.setCell ?_ (by first | (simp; done) | (simp; omega) | omega) _) | (with_reducible refine Below.alloc ?_ (by first | (simp; done) | (simp; omega) | omega) _) | (with_reducible refine Below.drew ?_) | (with_reducible refine below_drewN ?_ _)))⟩
  | true =>
    cases b2 with
    | false =>
      clear h3 h4 hwd
      go_enter Try.func27, Try.ntmps27
      go_wp2_with fail
      refine (h1 _).mono ?_
      rintro e w1 ⟨rfl, rfl⟩
      go_wp2_with fail
      refine (h2 _).mono ?_
      rintro e w1 ⟨rfl, rfl⟩
      go_wp2_with fail
      go_ret
      exact ⟨rfl, (by repeat (first | (with_reducible exact Below.refl _ _) | (with_reducible refine Below.setCell ?_ (by first | (simp; done) | (simp; omega) | omega) _) | (with_reducible refine Below.alloc ?_ (by first | (simp; done) | (simp; omega) | omega) _) | (with_reducible refine Below.drew ?_) | (with_reducible refine below_drewN ?_ _)))⟩
    | true =>
      cases b3 with
      | false =>
        clear h4 hwd
        go_enter Try.func27, Try.ntmps27
        go_wp2_with fail
        refine (h1 _).mono ?_
        rintro e w1 ⟨rfl, rfl⟩
        go_wp2_with fail
        refine (h2 _).mono ?_
        rintro e w1 ⟨rfl, rfl⟩
        go_wp2_with fail
        refine (h3 _).mono ?_
        rintro e w1 ⟨rfl, rfl⟩
        go_wp2_with fail
        go_ret
        exact ⟨rfl, (by repeat (first | (with_reducible exact Below.refl _ _) | (with_reducible refine Below.setCell ?_ (by first | (simp; done) | (simp; omega) | omega) _) | (with_reducible refine Below.alloc ?_ (by first | (simp; done) | (simp; omega) | omega) _) | (with_reducible refine Below.drew ?_) | (with_reducible refine below_drewN ?_ _)))⟩
      | true =>
        cases b4 with
        | false =>
          clear hwd
          go_enter Try.func27, Try.ntmps27
          go_wp2_with fail
          refine (h1 _).mono ?_
          rintro e w1 ⟨rfl, rfl⟩
          go_wp2_with fail
          refine (h2 _).mono ?_
          rintro e w1 ⟨rfl, rfl⟩
          go_wp2_with fail
          refine (h3 _).mono ?_
          rintro e w1 ⟨rfl, rfl⟩
          go_wp2_with fail
          refine (h4 _).mono ?_
          rintro e w1 ⟨rfl, rfl⟩
          go_wp2_with fail
          go_ret
          exact ⟨rfl, (by repeat (first | (with_reducible exact Below.refl _ _) | (with_reducible refine Below.setCell ?_ (by first | (simp; done) | (simp; omega) | omega) _) | (with_reducible refine Below.alloc ?_ (by first | (simp; done) | (simp; omega) | omega) _) | (with_reducible refine Below.drew ?_) | (with_reducible refine below_drewN ?_ _)))⟩
        | true =>
          obtain ⟨q1, q2⟩ := hwd rfl rfl
          obtain ⟨m, rfl⟩ : ∃ m : Nat, wd = m := ⟨wd.toNat, by omega⟩
          obtain ⟨k, rfl⟩ : ∃ k : Nat, bk = k := ⟨bk.toNat, by omega⟩
          have n1 : ((k : Int) == 0) = false := by simp; omega
          clear hwd q1
          by_cases hd : (m : Int) % (k : Int) = 0
          · have hd2 : ((m : Int) % (k : Int) == 0) = true := by simpa using hd
            have e : (if (true && true && true && true) = true then (if (m : Int) % (k : Int) = 0 then (0 : Int) else 6) else 2) = 0 := by simp [hd]
            rw [e]
            clear e hd
            go_enter Try.func27, Try.ntmps27
            go_wp2_with fail
            refine (h1 _).mono ?_
            rintro e w1 ⟨rfl, rfl⟩
            go_wp2_with fail
            refine (h2 _).mono ?_
            rintro e w1 ⟨rfl, rfl⟩
            go_wp2_with fail
            refine (h3 _).mono ?_
            rintro e w1 ⟨rfl, rfl⟩
            go_wp2_with fail
            refine (h4 _).mono ?_
            rintro e w1 ⟨rfl, rfl⟩
            go_wp2_with fail
            go_ret
            exact ⟨rfl, (by repeat (first | (with_reducible exact Below.refl _ _) | (with_reducible refine Below.setCell ?_ (by first | (simp; done) | (simp; omega) | omega) _) | (with_reducible refine Below.alloc ?_ (by first | (simp; done) | (simp; omega) | omega) _) | (with_reducible refine Below.drew ?_) | (with_reducible refine below_drewN ?_ _)))⟩
          · have hd2 : ((m : Int) % (k : Int) == 0) = false := by simpa using hd
            have e : (if (true && true && true && true) = true then (if (m : Int) % (k : Int) = 0 then (0 : Int) else 6) else 2) = 6 := by simp [hd]
            rw [e]
            clear e hd
            go_enter Try.func27, Try.ntmps27
            go_wp2_with fail
            refine (h1 _).mono ?_
            rintro e w1 ⟨rfl, rfl⟩
            go_wp2_with fail
            refine (h2 _).mono ?_
            rintro e w1 ⟨rfl, rfl⟩
            go_wp2_with fail
            refine (h3 _).mono ?_
            rintro e w1 ⟨rfl, rfl⟩
            go_wp2_with fail
            refine (h4 _).mono ?_
            rintro e w1 ⟨rfl, rfl⟩
            go_wp2_with fail
            go_ret
            exact ⟨rfl, (by repeat (first | (with_reducible exact Below.refl _ _) | (with_reducible refine Below.setCell ?_ (by first | (simp; done) | (simp; omega) | omega) _) | (with_reducible refine Below.alloc ?_ (by first | (simp; done) | (simp; omega) | omega) _) | (with_reducible refine Below.drew ?_) | (with_reducible refine below_drewN ?_ _)))⟩

/-- the error of a time -/
def refT (last at_ : Int) (may : Bool) : Int := if may = false ∨ at_ < 0 ∨ 1152921504606846976 < at_ then 2 else if at_ < last then 7 else 0

set_option maxHeartbeats 400000 in
theorem refuses_any (p : Nat) (last at_ : Int) (may : Bool) (w : World) (h : w.cell? ⟨p, 5, none⟩ = some (.int .i64 last)) :
    Calls Try.prog 32 #[.pointer (some ⟨p, 0, none⟩), .int .i64 at_, .bool may] w fun e w' => e = .returned (.int .i64 (refT last at_ may)) ∧ w = w' := by
  cases may with
  | false =>
    have e : refT last at_ false = 2 := by unfold refT; rw [if_pos (.inl rfl)]
    rw [e]; clear e
    go_enter Try.func32, Try.ntmps32
    go_wp2
    go_ret
    exact ⟨rfl, rfl⟩
  | true =>
    by_cases h1 : at_ < 0
    · have e : refT last at_ true = 2 := by unfold refT; rw [if_pos (.inr (.inl h1))]
      rw [e]; clear e
      go_enter Try.func32, Try.ntmps32
      go_wp2
      go_ret
      exact ⟨rfl, rfl⟩
    · have h1' : decide (at_ < 0) = false := by simpa using h1
      by_cases h2 : 1152921504606846976 < at_
      · have e : refT last at_ true = 2 := by unfold refT; rw [if_pos (.inr (.inr h2))]
        rw [e]; clear e h1
        go_enter Try.func32, Try.ntmps32
        go_wp2
        go_ret
        exact ⟨rfl, rfl⟩
      · have h2' : decide (1152921504606846976 < at_) = false := by simpa using h2
        by_cases h3 : at_ < last
        · have e : refT last at_ true = 7 := by unfold refT; rw [if_neg (by simp; omega), if_pos h3]
          rw [e]; clear e h1 h2
          go_enter Try.func32, Try.ntmps32
          go_wp2
          go_ret
          exact ⟨rfl, rfl⟩
        · have e : refT last at_ true = 0 := by unfold refT; rw [if_neg (by simp; omega), if_neg h3]
          rw [e]; clear e h1 h2
          have h3' : decide (at_ < last) = false := by simpa using h3
          clear h3
          go_enter Try.func32, Try.ntmps32
          go_wp2
          go_ret
          exact ⟨rfl, rfl⟩

theorem refuses_nil (at_ : Int) (may : Bool) (w : World) :
    Calls Try.prog 32 #[.pointer none, .int .i64 at_, .bool may] w fun e w' => e = .returned (.int .i64 1) ∧ w = w' := by
  go_enter Try.func32, Try.ntmps32
  go_wp2
  go_ret
  exact ⟨rfl, rfl⟩

end Go.Proofs.Ytnpldfacnmhemaa.SkB
