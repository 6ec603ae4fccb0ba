/- Contracts of a node's small parts: isTime, areCounts, flight, Last, the windows. -/
import Derived.Test.YtnloedhcginopaaWinL
namespace Go.Proofs.Ytnloedhcginopaa.StaA
open Go.ChangeShapes Go.WideShapes Go.ChangeAt Go.RowKit Base WinM WinA WinB WinC WinD WinE WinF WinG WinH WinI WinJ WinK WinL WldF WldG

def isT (n : Int) : Bool := decide (0 ≤ n ∧ n ≤ 1152921504606846976)

set_option maxHeartbeats 400000 in
theorem isTime_any (n : Int) (w : World) :
    Calls Try.prog 58 #[.int .i64 n] w fun e w' => e = .returned (.bool (isT n)) ∧ w = w' := by
  by_cases h1 : 0 ≤ n
  · by_cases h2 : n ≤ 1152921504606846976
    · have e : isT n = true := by unfold isT; simp [h1, h2]
      rw [e]; clear e
      go_enter Try.func58, Try.ntmps58
      go_wp2
      go_ret
      exact ⟨rfl, rfl⟩
    · have e : isT n = false := by unfold isT; simp; omega
      rw [e]; clear e
      have h2' : decide (n ≤ 1152921504606846976) = false := by simpa using h2
      clear h2
      go_enter Try.func58, Try.ntmps58
      go_wp2
      go_ret
      exact ⟨rfl, rfl⟩
  · have e : isT n = false := by unfold isT; simp; omega
    rw [e]; clear e
    have h1' : decide (0 ≤ n) = false := by simpa using h1
    clear h1
    go_enter Try.func58, Try.ntmps58
    go_wp2
    go_ret
    exact ⟨rfl, rfl⟩

/-- wrong for a count of tokens -/
def badC (n : Int) : Bool := decide (n < 1 ∨ 1099511627776 < n)

set_option maxHeartbeats 400000 in
theorem are1_any (n : Int) (w : World) :
    Calls Try.prog 67 #[.int .i64 n] w fun e w' => e = .returned (.bool (badC n)) ∧ w = w' := by
  by_cases h1 : n < 1
  · have e : badC n = true := by unfold badC; simp [h1]
    rw [e]; clear e
    go_enter Try.func67, Try.ntmps67
    go_wp2
    go_ret
    exact ⟨rfl, rfl⟩
  · have h1' : decide (n < 1) = false := by simpa using h1
    by_cases h2 : 1099511627776 < n
    · have e : badC n = true := by unfold badC; simp [h2]
      rw [e]; clear e h1
      go_enter Try.func67, Try.ntmps67
      go_wp2
      go_ret
      exact ⟨rfl, rfl⟩
    · have e : badC n = false := by unfold badC; simp; omega
      rw [e]; clear e h1
      have h2' : decide (1099511627776 < n) = false := by simpa using h2
      clear h2
      go_enter Try.func67, Try.ntmps67
      go_wp2
      go_ret
      exact ⟨rfl, rfl⟩

set_option maxRecDepth 20000 in
set_option maxHeartbeats 400000 in
theorem indexInts (g o n cap : Nat) (f : Nat → Int) (w : World) (hn : n ≤ 9223372036854775807) (HC : Hid (∀ i, i < n → w.cell? ⟨g, o + i, none⟩ = some (.int .i64 (f i)))) :
    Calls Try.prog 78 #[.slice (some ⟨g, o, none⟩) n cap, .func (Fn.func 67) #[] #[]] w fun e w' => w = w' ∧ ((∃ k : Nat, k < n ∧ e = .returned (.int .i64 k) ∧ badC (f k) = true) ∨ (e = .returned (.int .i64 (-1)) ∧ ∀ i, i < n → badC (f i) = false)) := by
  go_enter Try.func78, Try.ntmps78
  go_wp2
  go_loop [8] (fun i => ∃ k : Nat, k ≤ n ∧ i = .int .i64 k ∧ ∀ i, i < k → badC (f i) = false) (fun i => n - (intOf i).toNat)
  case atStart => exact ⟨0, Nat.zero_le _, rfl, fun i hi => by omega⟩
  case round =>
    obtain ⟨k, hk, rfl, hno⟩ := hrel
    have HNo := hid hno
    clear hno
    by_cases hlt : k < n
    · have hx := HC.out k hlt
      have HA := hid (are1_any (f k) w)
      obtain ⟨b, hb⟩ : ∃ b, badC (f k) = b := ⟨_, rfl⟩
      rw [hb] at HA
      have HBb := hid hb
      clear hb
      cases b with
      | true =>
        go_wp2_with fail
        refine HA.out.mono ?_
        rintro e w2 ⟨rfl, rfl⟩
        go_wp2
        go_ret
        exact ⟨rfl, .inl ⟨k, hlt, rfl, HBb.out⟩⟩
      | false =>
        go_wp2_with fail
        refine HA.out.mono ?_
        rintro e w2 ⟨rfl, rfl⟩
        go_wp2
        go_round
        case rel => exact ⟨k + 1, by omega, by go_num, fun i hi => by by_cases h : i = k; (subst h; exact HBb.out); exact HNo.out i (by omega)⟩
        case measure => simp [intOf]; omega
    · go_wp2
      go_ret
      exact ⟨rfl, .inr ⟨rfl, fun i hi => HNo.out i (by omega)⟩⟩

set_option maxHeartbeats 400000 in
theorem indexInts_none (a : Option Addr) (cap : Nat) (w : World) :
    Calls Try.prog 78 #[.slice a 0 cap, .func (Fn.func 67) #[] #[]] w fun e w' => e = .returned (.int .i64 (-1)) ∧ w = w' := by
  go_enter Try.func78, Try.ntmps78
  go_wp2
  go_loop [8] (fun i => i = .int .i64 0) (fun _ => 0)
  case atStart => rfl
  case round =>
    obtain rfl := hrel
    go_wp2
    go_ret
    exact ⟨rfl, rfl⟩

/-- a slice of ints, as a call's argument -/
def Ints (w : World) (a : Option Addr) (n : Nat) (f : Nat → Int) : Prop := 0 < n → ∃ g o, a = some ⟨g, o, none⟩ ∧ g < w.heap.size ∧ ∀ i, i < n → w.cell? ⟨g, o + i, none⟩ = some (.int .i64 (f i))

open Classical in
/-- all right for counts of tokens -/
noncomputable def goodC (f : Nat → Int) (n : Nat) : Bool := decide (∀ i, i < n → badC (f i) = false)

set_option maxHeartbeats 400000 in
theorem contains_core (v : Value) (b : Bool) (w : World) (HI : Hid (Calls Try.prog 78 #[v, .func (Fn.func 67) #[] #[]] w fun e w' => (∃ r : Int, e = .returned (.int .i64 r) ∧ decide (0 ≤ r) = b) ∧ w = w')) :
    Calls Try.prog 66 #[v, .func (Fn.func 67) #[] #[]] w fun e w' => e = .returned (.bool b) ∧ w = w' := by
  go_enter Try.func66, Try.ntmps66
  go_wp2_with fail
  refine HI.out.mono ?_
  rintro e w1 ⟨⟨r, rfl, hb⟩, rfl⟩
  go_wp2
  go_ret
  exact ⟨rfl, rfl⟩

set_option maxHeartbeats 400000 in
theorem are_core (v : Value) (b : Bool) (w : World) (HI : Hid (Calls Try.prog 66 #[v, .func (Fn.func 67) #[] #[]] w fun e w' => e = .returned (.bool b) ∧ w = w')) :
    Calls Try.prog 46 #[v] w fun e w' => e = .returned (.bool (!b)) ∧ w = w' := by
  go_enter Try.func46, Try.ntmps46
  go_wp2_with fail
  refine HI.out.mono ?_
  rintro e w1 ⟨rfl, rfl⟩
  go_wp2
  go_ret
  exact ⟨rfl, rfl⟩

theorem areCounts_any (a : Option Addr) (n cap : Nat) (f : Nat → Int) (w : World) (hn : n ≤ 9223372036854775807) (h : Ints w a n f) :
    Calls Try.prog 46 #[.slice a n cap] w fun e w' => e = .returned (.bool (goodC f n)) ∧ w = w' := by
  by_cases h0 : n = 0
  · subst h0
    have e : goodC f 0 = true := by unfold goodC; simp
    rw [e]
    exact are_core _ false w (hid (contains_core _ false w (hid ((indexInts_none a cap w).mono fun e w' h => ⟨⟨-1, h.1, by decide⟩, h.2⟩))))
  · obtain ⟨g, o, rfl, _, hc⟩ := h (by omega)
    have hi := indexInts g o n cap f w hn (hid hc)
    by_cases hb : ∀ i, i < n → badC (f i) = false
    · have e : goodC f n = true := by unfold goodC; simpa using hb
      rw [e]
      exact are_core _ false w (hid (contains_core _ false w (hid (hi.mono fun e w' h => by
        obtain ⟨rfl, ⟨k, hk, _, hbk⟩ | ⟨he, _⟩⟩ := h
        · rw [hb k hk] at hbk; cases hbk
        · exact ⟨⟨-1, he, by decide⟩, rfl⟩))))
    · have e : goodC f n = false := by unfold goodC; simpa using hb
      rw [e]
      exact are_core _ true w (hid (contains_core _ true w (hid (hi.mono fun e w' h => by
        obtain ⟨rfl, ⟨k, hk, he, hbk⟩ | ⟨_, hall⟩⟩ := h
        · exact ⟨⟨k, he, by simp⟩, rfl⟩
        · exact absurd hall hb))))

set_option maxHeartbeats 400000 in
theorem holds_any (b : Nat) (n k : Int) (w : World) (h : w.cell? ⟨b, 0, none⟩ = some (.int .i64 n)) (hn : 0 ≤ n ∧ n ≤ 4096) :
    Calls Try.prog 47 #[.pointer (some ⟨b, 0, none⟩), .int .i64 k] w fun e w' => e = .returned (.bool (decide (k ≤ 4096 - n))) ∧ w = w' := by
  obtain ⟨n1, n2⟩ := hn
  go_enter Try.func47, Try.ntmps47
  go_wp2
  go_ret
  exact ⟨rfl, rfl⟩

set_option maxHeartbeats 400000 in
theorem come_any (b : Nat) (n k : Int) (w : World) (h : w.cell? ⟨b, 0, none⟩ = some (.int .i64 n)) (hf : w.frozen? ⟨b, 0, none⟩ = false) (hn : 0 ≤ n ∧ n ≤ 4096) (hk : 0 ≤ k ∧ k ≤ 4096) :
    Calls Try.prog 48 #[.pointer (some ⟨b, 0, none⟩), .int .i64 k] w fun e w' => e = .returned (.tuple #[]) ∧ w.setCell ⟨b, 0, none⟩ (.int .i64 (n + k)) = w' := by
  obtain ⟨n1, n2⟩ := hn
  obtain ⟨k1, k2⟩ := hk
  go_enter Try.func48, Try.ntmps48
  go_wp2
  go_end0
  exact ⟨rfl, rfl⟩

set_option maxHeartbeats 400000 in
theorem empty_any (b : Nat) (n : Int) (w : World) (h : w.cell? ⟨b, 0, none⟩ = some (.int .i64 n)) :
    Calls Try.prog 59 #[.pointer (some ⟨b, 0, none⟩)] w fun e w' => e = .returned (.bool (n == 0)) ∧ w = w' := by
  go_enter Try.func59, Try.ntmps59
  go_wp2
  go_ret
  exact ⟨rfl, rfl⟩

set_option maxHeartbeats 400000 in
theorem leave_any (b : Nat) (n : Int) (w : World) (h : w.cell? ⟨b, 0, none⟩ = some (.int .i64 n)) (hf : w.frozen? ⟨b, 0, none⟩ = false) (hn : 0 ≤ n ∧ n ≤ 4096) :
    Calls Try.prog 60 #[.pointer (some ⟨b, 0, none⟩)] w fun e w' => e = .returned (.tuple #[]) ∧ w.setCell ⟨b, 0, none⟩ (.int .i64 (n - 1)) = w' := by
  obtain ⟨n1, n2⟩ := hn
  go_enter Try.func60, Try.ntmps60
  go_wp2
  go_end0
  exact ⟨rfl, rfl⟩

set_option maxHeartbeats 400000 in
theorem flight_any (b : Nat) (n : Int) (w : World) (h : w.cell? ⟨b, 0, none⟩ = some (.int .i64 n)) :
    Calls Try.prog 32 #[.pointer (some ⟨b, 0, none⟩)] w fun e w' => e = .returned (.int .i64 n) ∧ w = w' := by
  go_enter Try.func32, Try.ntmps32
  go_wp2
  go_ret
  exact ⟨rfl, rfl⟩

set_option maxHeartbeats 400000 in
theorem second_any (b p : Nat) (w : World) (h : w.cell? ⟨b, 1, none⟩ = some (.pointer (some ⟨p, 0, none⟩))) :
    Calls Try.prog 70 #[.pointer (some ⟨b, 0, none⟩)] w fun e w' => e = .returned (.pointer (some ⟨p, 0, none⟩)) ∧ w = w' := by
  go_enter Try.func70, Try.ntmps70
  go_wp2
  go_ret
  exact ⟨rfl, rfl⟩

set_option maxHeartbeats 400000 in
theorem wlast_any (p : Nat) (t : Int) (w : World) (h : w.cell? ⟨p, 2, none⟩ = some (.int .i64 t)) :
    Calls Try.prog 77 #[.pointer (some ⟨p, 0, none⟩)] w fun e w' => e = .returned (.int .i64 t) ∧ w = w' := by
  go_enter Try.func77, Try.ntmps77
  go_wp2
  go_ret
  exact ⟨rfl, rfl⟩

set_option maxHeartbeats 400000 in
theorem last_any (b p : Nat) (t : Int) (w : World) (h : w.cell? ⟨b, 1, none⟩ = some (.pointer (some ⟨p, 0, none⟩))) (h2 : w.cell? ⟨p, 2, none⟩ = some (.int .i64 t)) :
    Calls Try.prog 65 #[.pointer (some ⟨b, 0, none⟩)] w fun e w' => e = .returned (.int .i64 t) ∧ w = w' := by
  go_enter Try.func65, Try.ntmps65
  go_wp2_with fail
  refine (second_any b p _ h).mono ?_
  rintro e w1 ⟨rfl, rfl⟩
  go_wp2_with fail
  refine (wlast_any p t _ h2).mono ?_
  rintro e w1 ⟨rfl, rfl⟩
  go_wp2
  go_ret
  exact ⟨rfl, rfl⟩

/-- a node's error -/
def nrefM (last at_ : Int) (ok : Bool) : Int := if ok = true ∧ isT at_ = true then (if at_ < last then 7 else 0) else 2

set_option maxHeartbeats 400000 in
theorem nrefuses_any (b p : Nat) (t at_ : Int) (ok : Bool) (w : World) (h : w.cell? ⟨b, 1, none⟩ = some (.pointer (some ⟨p, 0, none⟩))) (h2 : w.cell? ⟨p, 2, none⟩ = some (.int .i64 t)) :
    Calls Try.prog 45 #[.pointer (some ⟨b, 0, none⟩), .int .i64 at_, .bool ok] w fun e w' => e = .returned (.int .i64 (nrefM t at_ ok)) ∧ w = w' := by
  have HT := hid (isTime_any at_ w)
  have HL := hid (last_any b p t w h h2)
  clear h h2
  cases ok with
  | false =>
    have e : nrefM t at_ false = 2 := by unfold nrefM; simp
    rw [e]; clear e
    go_enter Try.func45, Try.ntmps45
    go_wp2
    go_ret
    exact ⟨rfl, rfl⟩
  | true =>
    obtain ⟨r, hr⟩ : ∃ r, isT at_ = r := ⟨_, rfl⟩
    rw [hr] at HT
    cases r with
    | false =>
      have e : nrefM t at_ true = 2 := by unfold nrefM; simp [hr]
      rw [e]; clear e hr
      go_enter Try.func45, Try.ntmps45
      go_wp2_with fail
      refine HT.out.mono ?_
      rintro e w1 ⟨rfl, rfl⟩
      go_wp2
      go_ret
      exact ⟨rfl, rfl⟩
    | true =>
      by_cases h3 : at_ < t
      · have e : nrefM t at_ true = 7 := by unfold nrefM; simp [hr, h3]
        rw [e]; clear e hr
        go_enter Try.func45, Try.ntmps45
        go_wp2_with fail
        refine HT.out.mono ?_
        rintro e w1 ⟨rfl, rfl⟩
        go_wp2_with fail
        refine HL.out.mono ?_
        rintro e w1 ⟨rfl, rfl⟩
        go_wp2
        go_ret
        exact ⟨rfl, rfl⟩
      · have e : nrefM t at_ true = 0 := by unfold nrefM; simp [hr, h3]
        rw [e]; clear e hr
        have h3' : decide (at_ < t) = false := by simpa using h3
        clear h3
        go_enter Try.func45, Try.ntmps45
        go_wp2_with fail
        refine HT.out.mono ?_
        rintro e w1 ⟨rfl, rfl⟩
        go_wp2_with fail
        refine HL.out.mono ?_
        rintro e w1 ⟨rfl, rfl⟩
        go_wp2
        go_ret
        exact ⟨rfl, rfl⟩

set_option maxHeartbeats 400000 in
theorem winNew_any (wd sz q : Nat) (w : World) (hz : 0 < sz) (hs : sz ≤ 60) (hq : 0 < q) (hw : wd ≤ 1099511627776) (hd : wd = sz * q) :
    Calls Try.prog 75 #[.int .i64 wd, .int .i64 sz] w fun e w' => e = .returned (.tuple #[.pointer (some ⟨w.heap.size, 0, none⟩), .int .i64 0]) ∧ w.alloc (.cells #[.int .i64 wd, .int .i64 sz, .int .i64 0, .slice none 0 0] 112) = w' := by
  have h1 : 1 ≤ wd := by rw [hd]; exact Nat.mul_pos hz hq
  have h2 : (wd : Int) % (sz : Int) = 0 := by rw [hd]; simp
  have n1 : ((sz : Int) == 0) = false := by simp; omega
  clear hd
  go_enter Try.func75, Try.ntmps75
  go_wp2
  go_ret2
  exact ⟨rfl, rfl⟩

end Go.Proofs.Ytnloedhcginopaa.StaA
