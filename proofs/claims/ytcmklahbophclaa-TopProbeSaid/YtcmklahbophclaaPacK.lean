/- Pacing: a pace in memory, its inner calls (pacing). -/
import Derived.Test.YtcmklahbophclaaPacP
import Derived.Test.YtcmklahbophclaaWri
import Derived.Deep.RegionHeld3
namespace Go.Proofs.Ytcmklahbophclaa.PacM
set_option linter.unusedVariables false
open Go.ChangeShapes Go.WideShapes Go.ChangeAt Go.RowKit Base NumM NumA NumE WrmA Wri PacP

abbrev ptr (p : Nat) : Value := .pointer (some ⟨p, 0, none⟩)
/-- the document's order -/
def pv (m : Pc) : Array Value := #[.int .i64 m.count, .int .i64 m.queue, .int .i64 m.noted, .int .i64 m.next, .bool m.some]
/-- the program's order -/
def pm (m : Pc) : Array Value := #[.int .i64 m.next, .bool m.some, .int .i64 m.count, .int .i64 m.queue, .int .i64 m.noted]
/-- the pace m lies in block p -/
def At (w : World) (p : Nat) (m : Pc) : Prop := w.heap[p]? = some (.cells (pm m) 100)
theorem At.lt {w : World} {p : Nat} {m : Pc} (h : At w p m) : p < w.heap.size := (Array.getElem?_eq_some_iff.1 h).1
theorem At.cells {w : World} {p : Nat} {m : Pc} (h : At w p m) : w.cell? ⟨p, 0, none⟩ = some (.int .i64 m.next) ∧ w.cell? ⟨p, 1, none⟩ = some (.bool m.some) ∧ w.cell? ⟨p, 2, none⟩ = some (.int .i64 m.count) ∧ w.cell? ⟨p, 3, none⟩ = some (.int .i64 m.queue) ∧
    w.cell? ⟨p, 4, none⟩ = some (.int .i64 m.noted) ∧ ∀ o, w.frozen? ⟨p, o, none⟩ = false := by
  unfold At pm at h
  exact ⟨by simp [World.cell?, h], by simp [World.cell?, h], by simp [World.cell?, h], by simp [World.cell?, h], by simp [World.cell?, h], fun o => by simp [World.frozen?, h]⟩
theorem At.below {w w' : World} {B p : Nat} {m : Pc} (h : At w p m) (hb : Below B w w') (hp : p < B) : At w' p m := (hb.block p hp).trans h
theorem At.wr {R : Nat → Prop} {w w' : World} {p : Nat} {m : Pc} (h : At w p m) (hb : Wr R w w') (hr : ¬ R p) : At w' p m := (hb.block p h.lt hr).trans h

set_option maxHeartbeats 400000 in
theorem within_any (n a b : Int) (w : World) :
    Calls Try.prog 47 #[.int .i64 n, .int .i64 a, .int .i64 b] w fun e w' => e = .returned (.bool (inW n a b)) ∧ w = w' := by
  unfold inW
  by_cases h0 : a ≤ n
  · by_cases h1 : n ≤ b
    · rw [decide_eq_true h0, decide_eq_true h1]
      go_enter Try.func47, Try.ntmps47
      go_wp2
      go_ret
      exact ⟨rfl, rfl⟩
    · rw [decide_eq_true h0, decide_eq_false h1]
      go_enter Try.func47, Try.ntmps47
      go_wp2
      go_ret
      exact ⟨rfl, rfl⟩
  · rw [decide_eq_false h0]
    go_enter Try.func47, Try.ntmps47
    go_wp2
    go_ret
    exact ⟨rfl, rfl⟩

set_option maxHeartbeats 1000000 in
theorem cost_core (n r c : Int) (b1 b2 : Bool) (w : World) (H1 : Hid (∀ w : World, Calls Try.prog 47 #[.int .i64 n, .int .i64 1, .int .i64 1099511627776] w fun e w' => e = .returned (.bool b1) ∧ w = w')) (H2 : Hid (∀ w : World, Calls Try.prog 47 #[.int .i64 r, .int .i64 1, .int .i64 1099511627776] w fun e w' => e = .returned (.bool b2) ∧ w = w'))
    (hr : (b1 = false ∨ b2 = false) ∧ c = 0 ∨ b1 = true ∧ b2 = true ∧ Hid (∀ w : World, Calls Try.prog 97 #[.int .i64 n, .int .i64 1000000, .int .i64 r, .bool true] w fun e w' => e = .returned (.tuple #[.int .i64 c, .int .i64 0]) ∧ Below w.heap.size w w')) :
    Calls Try.prog 72 #[.int .i64 n, .int .i64 r] w fun e w' => e = .returned (.tuple #[.int .i64 c, .int .i64 (if b1 && b2 then 0 else 2)]) ∧ Below w.heap.size w w' := by
  go_enter Try.func72, Try.ntmps72
  rcases hr with ⟨h, rfl⟩ | ⟨rfl, rfl, HM⟩
  · cases b1
    · go_wp2_with fail
      refine (H1.out _).mono ?_
      rintro e w1 ⟨rfl, rfl⟩
      go_wp2_with fail
      go_ret2
      exact ⟨rfl, Below.refl _ _⟩
    · obtain rfl : b2 = false := by simpa using h
      clear h
      go_wp2_with fail
      refine (H1.out _).mono ?_
      rintro e w1 ⟨rfl, rfl⟩
      go_wp2_with fail
      refine (H2.out _).mono ?_
      rintro e w1 ⟨rfl, rfl⟩
      go_wp2_with fail
      go_ret2
      exact ⟨rfl, Below.refl _ _⟩
  · go_wp2_with fail
    refine (H1.out _).mono ?_
    rintro e w1 ⟨rfl, rfl⟩
    go_wp2_with fail
    refine (H2.out _).mono ?_
    rintro e w1 ⟨rfl, rfl⟩
    go_wp2_with fail
    refine (HM.out _).mono ?_
    rintro e w1 ⟨rfl, hb⟩
    have HB := hid hb
    clear hb
    go_wp2_with fail
    go_ret2
    exact ⟨rfl, HB.out⟩

theorem cost_any (n r : Int) (w : World) :
    Calls Try.prog 72 #[.int .i64 n, .int .i64 r] w fun e w' => e = .returned (.tuple #[.int .i64 (costA n r), .int .i64 (refC n r)]) ∧ Below w.heap.size w w' := by
  refine cost_core n r (costA n r) (tokB n) (tokB r) w (hid (within_any n 1 1099511627776)) (hid (within_any r 1 1099511627776)) ?_
  unfold costA
  cases h1 : tokB n
  · exact .inl ⟨.inl rfl, rfl⟩
  · cases h2 : tokB r
    · exact .inl ⟨.inr rfl, rfl⟩
    · right
      obtain ⟨a1, a2⟩ := tokB_iff.1 h1
      obtain ⟨b1, b2⟩ := tokB_iff.1 h2
      refine ⟨rfl, rfl, hid fun w => ?_⟩
      have hle : n.toNat * 1000000 / r.toNat ≤ n.toNat * 1000000 := Nat.div_le_self _ _
      obtain ⟨d1, d2⟩ := divN_up (n.toNat * 1000000) r.toNat (by omega) (by omega)
      have hm := muldiv_any n 1000000 r true (by unfold Fits; omega) (by unfold Fits; omega) (by unfold Fits; omega) w
      rw [show n * 1000000 = ((n.toNat * 1000000 : Nat) : Int) by omega, show r = ((r.toNat : Nat) : Int) by omega, d1, d2] at hm
      rw [show ((r.toNat : Nat) : Int) = r by omega] at hm
      exact hm

set_option maxHeartbeats 1000000 in
theorem turn_any (p : Nat) (t cs nx z : Int) (sm : Bool) (w : World) (c0 : w.cell? ⟨p, 0, none⟩ = some (.int .i64 nx)) (c1 : w.cell? ⟨p, 1, none⟩ = some (.bool sm)) (hr : sm = false ∧ z = t ∨ sm = true ∧ wrap64 (nx + cs) = nx + cs ∧ z = max t (nx + cs)) :
    Calls Try.prog 73 #[ptr p, .int .i64 t, .int .i64 cs] w fun e w' => e = .returned (.int .i64 z) ∧ Below w.heap.size w w' := by
  go_enter Try.func73, Try.ntmps73
  rcases hr with ⟨rfl, rfl⟩ | ⟨rfl, hw, rfl⟩
  · go_wp2_with fail
    go_ret
    exact ⟨rfl, Below.refl _ _⟩
  · go_wp2_with fail
    go_ret
    exact ⟨by first | rfl | simp [Int.max_def, Int.max_comm], Below.refl _ _⟩

set_option maxHeartbeats 1000000 in
theorem take_any (p : Nat) (z : Int) (w : World) (f0 : w.frozen? ⟨p, 0, none⟩ = false) (f1 : w.frozen? ⟨p, 1, none⟩ = false) (x0 : ∃ v, w.cell? ⟨p, 0, none⟩ = some v) (x1 : ∃ v, w.cell? ⟨p, 1, none⟩ = some v) :
    Calls Try.prog 74 #[ptr p, .int .i64 z] w fun e w' => e = .returned (.tuple #[]) ∧ (w.setCell ⟨p, 0, none⟩ (.int .i64 z)).setCell ⟨p, 1, none⟩ (.bool true) = w' := by
  obtain ⟨v0, x0⟩ := x0
  obtain ⟨v1, x1⟩ := x1
  go_enter Try.func74, Try.ntmps74
  go_wp2_with fail
  go_end0
  exact ⟨rfl, rfl⟩

set_option maxHeartbeats 1000000 in
theorem note_any (p : Nat) (t z : Int) (g : Bool) (w w2 : World) (f0 : w.frozen? ⟨p, 0, none⟩ = false) (f1 : w.frozen? ⟨p, 1, none⟩ = false) (f4 : w.frozen? ⟨p, 4, none⟩ = false) (x0 : ∃ v, w.cell? ⟨p, 0, none⟩ = some v) (x1 : ∃ v, w.cell? ⟨p, 1, none⟩ = some v) (x4 : ∃ v, w.cell? ⟨p, 4, none⟩ = some v)
    (hr : g = false ∧ w.setCell ⟨p, 4, none⟩ (.int .i64 t) = w2 ∨ g = true ∧ ((w.setCell ⟨p, 4, none⟩ (.int .i64 t)).setCell ⟨p, 0, none⟩ (.int .i64 z)).setCell ⟨p, 1, none⟩ (.bool true) = w2) :
    Calls Try.prog 51 #[ptr p, .int .i64 t, .int .i64 z, .bool g] w fun e w' => e = .returned (.tuple #[]) ∧ w2 = w' := by
  obtain ⟨v4, x4⟩ := x4
  obtain ⟨v0, x0⟩ := x0
  obtain ⟨v1, x1⟩ := x1
  rcases hr with ⟨rfl, rfl⟩ | ⟨rfl, rfl⟩
  · go_enter Try.func51, Try.ntmps51
    go_wp2_with fail
    go_end0
    exact ⟨rfl, rfl⟩
  · have HT := hid (take_any p z (w.setCell ⟨p, 4, none⟩ (.int .i64 t)) (by simpa using f0) (by simpa using f1) ⟨v0, by go_cell⟩ ⟨v1, by go_cell⟩)
    go_enter Try.func51, Try.ntmps51
    go_wp2_with fail
    refine HT.out.mono ?_
    rintro e w3 ⟨rfl, rfl⟩
    go_wp2_with fail
    go_end0
    exact ⟨rfl, rfl⟩

set_option maxRecDepth 20000 in
set_option maxHeartbeats 4000000 in
theorem ask_go (p bp bt : Nat) (t n r c q nt nx cs ec u z er : Int) (sm g h b : Bool) (w : World) (Q : World → Prop) (c0 : w.cell? ⟨p, 0, none⟩ = some (.int .i64 nx)) (c1 : w.cell? ⟨p, 1, none⟩ = some (.bool sm)) (c2 : w.cell? ⟨p, 2, none⟩ = some (.int .i64 c)) (c3 : w.cell? ⟨p, 3, none⟩ = some (.int .i64 q)) (c4 : w.cell? ⟨p, 4, none⟩ = some (.int .i64 nt))
    (HR : Hid (Calls Try.prog 49 #[.pointer (some ⟨bp, 0, none⟩)] w fun e w' => e = .returned (.int .i64 r) ∧ w = w'))
    (HC : Hid (∀ w : World, Calls Try.prog 72 #[.int .i64 n, .int .i64 r] w fun e w' => e = .returned (.tuple #[.int .i64 cs, .int .i64 ec]) ∧ Below w.heap.size w w'))
    (HW : Hid (∀ w : World, Calls Try.prog 47 #[.int .i64 t, .int .i64 0, .int .i64 1152921504606846976] w fun e w' => e = .returned (.bool b) ∧ w = w'))
    (HT : Hid (∀ wx : World, Below w.heap.size w wx → Calls Try.prog 73 #[ptr p, .int .i64 t, .int .i64 cs] wx fun e w' => e = .returned (.int .i64 u) ∧ Below wx.heap.size wx w'))
    (HN : Hid (er = 0 → ∀ wx : World, Below w.heap.size w wx → Calls Try.prog 50 #[.int .i64 u, .bool h, .pointer (some ⟨bp, 0, none⟩), .pointer (some ⟨bt, 0, none⟩)] wx fun e w' => e = .returned (.tuple #[]) ∧ Q w'))
    (HQ : Hid (er ≠ 0 → ∀ wx : World, Below w.heap.size w wx → Q wx))
    (hr : z = 0 ∧ g = false ∧ er = 2 ∧ ec = 2 ∨ z = 0 ∧ g = false ∧ er = 2 ∧ ec = 0 ∧ b = false ∨ z = 0 ∧ g = false ∧ er = 7 ∧ ec = 0 ∧ b = true ∧ decide (t < nt) = true ∨
      er = 0 ∧ ec = 0 ∧ b = true ∧ decide (t < nt) = false ∧ wrap64 (u - t) = u - t ∧ decide (u - t ≤ q) = h ∧ (h = false ∧ g = false ∧ z = 0 ∨ h = true ∧ g = true ∧ z = u - t)) :
    Calls Try.prog 48 #[ptr p, .int .i64 t, .int .i64 n, .func (Fn.func 49) #[] #[.pointer (some ⟨bp, 0, none⟩)], .func (Fn.func 50) #[] #[.pointer (some ⟨bp, 0, none⟩), .pointer (some ⟨bt, 0, none⟩)]] w fun e w' => e = .returned (.tuple #[.int .i64 z, .bool g, .int .i64 er]) ∧ Q w' := by
  go_enter Try.func48, Try.ntmps48
  go_wp2_with fail
  refine HR.out.mono ?_
  rintro e w1 ⟨rfl, rfl⟩
  go_wp2_with fail
  refine (HC.out _).mono ?_
  rintro e w2 ⟨rfl, hb⟩
  have HB := hid hb
  have c3' : w2.cell? ⟨p, 3, none⟩ = some (.int .i64 q) := kc hb c3
  have c4' : w2.cell? ⟨p, 4, none⟩ = some (.int .i64 nt) := kc hb c4
  clear hb HR HC c0 c1 c2 c3 c4
  rcases hr with ⟨rfl, rfl, rfl, rfl⟩ | ⟨rfl, rfl, rfl, rfl, rfl⟩ | ⟨rfl, rfl, rfl, rfl, rfl, h1⟩ | ⟨rfl, rfl, rfl, h1, hw, h2, hr⟩
  · go_wp2_with fail
    go_ret3
    exact ⟨rfl, HQ.out (by decide) _ HB.out⟩
  · go_wp2_with fail
    refine (HW.out _).mono ?_
    rintro e w3 ⟨rfl, rfl⟩
    go_wp2_with fail
    go_ret3
    exact ⟨rfl, HQ.out (by decide) _ HB.out⟩
  · go_wp2_with fail
    refine (HW.out _).mono ?_
    rintro e w3 ⟨rfl, rfl⟩
    go_wp2_with fail
    go_ret3
    exact ⟨rfl, HQ.out (by decide) _ HB.out⟩
  · go_wp2_with fail
    refine (HW.out _).mono ?_
    rintro e w3 ⟨rfl, rfl⟩
    go_wp2_with fail
    refine (HT.out _ HB.out).mono ?_
    rintro e w4 ⟨rfl, hb⟩
    have HB4 : Hid (Below w.heap.size w w4) := hid (HB.out.trans (hb.mono HB.out.size))
    have c3'' : w4.cell? ⟨p, 3, none⟩ = some (.int .i64 q) := kc hb c3'
    clear hb c3' c4'
    rcases hr with ⟨rfl, rfl, rfl⟩ | ⟨rfl, rfl, rfl⟩
    · go_wp2_with fail
      refine (HN.out (by trivial) _ HB4.out).mono ?_
      rintro e w5 ⟨rfl, hq⟩
      have HQ5 := hid hq
      clear hq
      go_wp2_with fail
      go_ret3
      exact ⟨rfl, HQ5.out⟩
    · go_wp2_with fail
      refine (HN.out (by trivial) _ HB4.out).mono ?_
      rintro e w5 ⟨rfl, hq⟩
      have HQ5 := hid hq
      clear hq
      go_wp2_with fail
      go_ret3
      exact ⟨rfl, HQ5.out⟩

end Go.Proofs.Ytcmklahbophclaa.PacM
