/- Pacing: a pace in memory, its calls (spillwayref13). -/
import Derived.Test.YtcnfgngkejjecaaPacP
import Derived.Test.YtcnfgngkejjecaaWri
import Derived.Test.YtcnfgngkejjecaaPacM
import Derived.Test.YtcnfgngkejjecaaLawA
import Derived.Deep.RegionHeld3
namespace Go.Proofs.Ytcnfgngkejjecaa.PacA
set_option linter.unusedVariables false
open Go.ChangeShapes Go.WideShapes Go.ChangeAt Go.RowKit Base NumM NumA NumE WrmA Wri PacP PacM

/-- the pace m lies in block p -/
def RAt (w : World) (p : Nat) (m : Pc) : Prop := w.heap[p]? = some (.cells (pv m) 51)
theorem RAt.lt {w : World} {p : Nat} {m : Pc} (h : RAt w p m) : p < w.heap.size := (Array.getElem?_eq_some_iff.1 h).1
theorem RAt.cells {w : World} {p : Nat} {m : Pc} (h : RAt w p m) : w.cell? ⟨p, 0, none⟩ = some (.int .i64 m.count) ∧ w.cell? ⟨p, 1, none⟩ = some (.int .i64 m.queue) ∧ w.cell? ⟨p, 2, none⟩ = some (.int .i64 m.noted) ∧ w.cell? ⟨p, 3, none⟩ = some (.int .i64 m.next) ∧
    w.cell? ⟨p, 4, none⟩ = some (.bool m.some) ∧ ∀ o, w.frozen? ⟨p, o, none⟩ = false := by
  unfold RAt pv at h
  exact ⟨by simp [World.cell?, h], by simp [World.cell?, h], by simp [World.cell?, h], by simp [World.cell?, h], by simp [World.cell?, h], fun o => by simp [World.frozen?, h]⟩
theorem RAt.below {w w' : World} {B p : Nat} {m : Pc} (h : RAt w p m) (hb : Below B w w') (hp : p < B) : RAt w' p m := (hb.block p hp).trans h
theorem RAt.wr {R : Nat → Prop} {w w' : World} {p : Nat} {m : Pc} (h : RAt w p m) (hb : Wr R w w') (hr : ¬ R p) : RAt w' p m := (hb.block p h.lt hr).trans h

set_option maxHeartbeats 400000 in
theorem tokens_any (n : Int) (w : World) :
    Calls Try.prog 20 #[.int .i64 n] w fun e w' => e = .returned (.bool (tokB n)) ∧ w = w' := by
  unfold tokB inW
  by_cases h0 : 1 ≤ n
  · by_cases h1 : n ≤ 1099511627776
    · rw [decide_eq_true h0, decide_eq_true h1]
      go_enter Try.func20, Try.ntmps20
      go_wp2
      go_ret
      exact ⟨rfl, rfl⟩
    · rw [decide_eq_true h0, decide_eq_false h1]
      go_enter Try.func20, Try.ntmps20
      go_wp2
      go_ret
      exact ⟨rfl, rfl⟩
  · rw [decide_eq_false h0]
    go_enter Try.func20, Try.ntmps20
    go_wp2
    go_ret
    exact ⟨rfl, rfl⟩

set_option maxHeartbeats 1000000 in
theorem cost_core (n r c : Int) (b1 b2 : Bool) (w : World) (H1 : Hid (∀ w : World, Calls Try.prog 20 #[.int .i64 n] w fun e w' => e = .returned (.bool b1) ∧ w = w')) (H2 : Hid (∀ w : World, Calls Try.prog 20 #[.int .i64 r] w fun e w' => e = .returned (.bool b2) ∧ w = w'))
    (hr : (b1 = false ∨ b2 = false) ∧ c = 0 ∨ b1 = true ∧ b2 = true ∧ Hid (∀ w : World, Calls Try.prog 22 #[.int .i64 n, .int .i64 1000000, .int .i64 r, .bool true] w fun e w' => e = .returned (.tuple #[.int .i64 c, .int .i64 0]) ∧ Below w.heap.size w w')) :
    Calls Try.prog 13 #[.int .i64 n, .int .i64 r] w fun e w' => e = .returned (.tuple #[.int .i64 c, .int .i64 (if b1 && b2 then 0 else 2)]) ∧ Below w.heap.size w w' := by
  go_enter Try.func13, Try.ntmps13
  rcases hr with ⟨h, rfl⟩ | ⟨rfl, rfl, HM⟩
  · cases b1
    · go_wp2_with fail
      refine (H1.out _).mono ?_
      rintro e w1 ⟨rfl, rfl⟩
      go_wp2_with fail
      go_ret2
      exact ⟨rfl, Below.refl _ _⟩
    · obtain rfl : b2 = false := by simpa using h
      clear h
      go_wp2_with fail
      refine (H1.out _).mono ?_
      rintro e w1 ⟨rfl, rfl⟩
      go_wp2_with fail
      refine (H2.out _).mono ?_
      rintro e w1 ⟨rfl, rfl⟩
      go_wp2_with fail
      go_ret2
      exact ⟨rfl, Below.refl _ _⟩
  · go_wp2_with fail
    refine (H1.out _).mono ?_
    rintro e w1 ⟨rfl, rfl⟩
    go_wp2_with fail
    refine (H2.out _).mono ?_
    rintro e w1 ⟨rfl, rfl⟩
    go_wp2_with fail
    refine (HM.out _).mono ?_
    rintro e w1 ⟨rfl, hb⟩
    have HB := hid hb
    clear hb
    go_wp2_with fail
    go_ret2
    exact ⟨rfl, HB.out⟩

theorem cost_any (n r : Int) (w : World) :
    Calls Try.prog 13 #[.int .i64 n, .int .i64 r] w fun e w' => e = .returned (.tuple #[.int .i64 (costA n r), .int .i64 (refC n r)]) ∧ Below w.heap.size w w' := by
  refine cost_core n r (costA n r) (tokB n) (tokB r) w (hid (tokens_any n)) (hid (tokens_any r)) ?_
  unfold costA
  cases h1 : tokB n
  · exact .inl ⟨.inl rfl, rfl⟩
  · cases h2 : tokB r
    · exact .inl ⟨.inr rfl, rfl⟩
    · right
      obtain ⟨a1, a2⟩ := tokB_iff.1 h1
      obtain ⟨b1, b2⟩ := tokB_iff.1 h2
      refine ⟨rfl, rfl, hid fun w => ?_⟩
      have hle : n.toNat * 1000000 / r.toNat ≤ n.toNat * 1000000 := Nat.div_le_self _ _
      obtain ⟨d1, d2⟩ := divN_up (n.toNat * 1000000) r.toNat (by omega) (by omega)
      have hm := LawA.muldiv_ref n 1000000 r true (by unfold Fits; omega) (by unfold Fits; omega) (by unfold Fits; omega) w
      rw [show n * 1000000 = ((n.toNat * 1000000 : Nat) : Int) by omega, show r = ((r.toNat : Nat) : Int) by omega, d1, d2] at hm
      rw [show ((r.toNat : Nat) : Int) = r by omega] at hm
      exact hm

set_option maxHeartbeats 400000 in
theorem wait_nil (t n r : Int) (w : World) :
    Calls Try.prog 40 #[.pointer none, .int .i64 t, .int .i64 n, .int .i64 r] w fun e w' => e = .returned (.tuple #[.int .i64 0, .bool false, .int .i64 1]) ∧ Below w.heap.size w w' := by
  go_enter Try.func40, Try.ntmps40
  go_wp2_with fail
  go_ret3
  exact ⟨rfl, Below.refl _ _⟩

set_option maxRecDepth 20000 in
set_option maxHeartbeats 2000000 in
theorem wait_bad (p : Nat) (t n r : Int) (b1 b2 : Bool) (w : World) (H1 : Hid (∀ w : World, Calls Try.prog 20 #[.int .i64 n] w fun e w' => e = .returned (.bool b1) ∧ w = w')) (H2 : Hid (∀ w : World, Calls Try.prog 20 #[.int .i64 r] w fun e w' => e = .returned (.bool b2) ∧ w = w'))
    (hr : decide (t < 0) = true ∨ decide (t < 0) = false ∧ (decide (1152921504606846976 < t) = true ∨ decide (1152921504606846976 < t) = false ∧ (b1 = false ∨ b1 = true ∧ b2 = false))) :
    Calls Try.prog 40 #[ptr p, .int .i64 t, .int .i64 n, .int .i64 r] w fun e w' => e = .returned (.tuple #[.int .i64 0, .bool false, .int .i64 2]) ∧ Below w.heap.size w w' := by
  go_enter Try.func40, Try.ntmps40
  rcases hr with h1 | ⟨h1, h2 | ⟨h2, rfl | ⟨rfl, rfl⟩⟩⟩
  · go_wp2_with fail
    go_ret3
    exact ⟨rfl, Below.refl _ _⟩
  · go_wp2_with fail
    go_ret3
    exact ⟨rfl, Below.refl _ _⟩
  · go_wp2_with fail
    refine (H1.out _).mono ?_
    rintro e w1 ⟨rfl, rfl⟩
    go_wp2_with fail
    go_ret3
    exact ⟨rfl, Below.refl _ _⟩
  · go_wp2_with fail
    refine (H1.out _).mono ?_
    rintro e w1 ⟨rfl, rfl⟩
    go_wp2_with fail
    refine (H2.out _).mono ?_
    rintro e w1 ⟨rfl, rfl⟩
    go_wp2_with fail
    go_ret3
    exact ⟨rfl, Below.refl _ _⟩

set_option maxRecDepth 20000 in
set_option maxHeartbeats 4000000 in
theorem wait_core (p : Nat) (t n r c q nt nx cs ec z : Int) (sm g : Bool) (er : Int) (w : World) (c0 : w.cell? ⟨p, 0, none⟩ = some (.int .i64 c)) (c1 : w.cell? ⟨p, 1, none⟩ = some (.int .i64 q)) (c2 : w.cell? ⟨p, 2, none⟩ = some (.int .i64 nt)) (c3 : w.cell? ⟨p, 3, none⟩ = some (.int .i64 nx)) (c4 : w.cell? ⟨p, 4, none⟩ = some (.bool sm)) (H1 : Hid (∀ w : World, Calls Try.prog 20 #[.int .i64 n] w fun e w' => e = .returned (.bool true) ∧ w = w')) (H2 : Hid (∀ w : World, Calls Try.prog 20 #[.int .i64 r] w fun e w' => e = .returned (.bool true) ∧ w = w'))
    (HC : Hid (∀ w : World, Calls Try.prog 13 #[.int .i64 n, .int .i64 r] w fun e w' => e = .returned (.tuple #[.int .i64 cs, .int .i64 ec]) ∧ Below w.heap.size w w')) (h1 : decide (t < 0) = false) (h2 : decide (1152921504606846976 < t) = false)
    (hr : decide (t < nt) = true ∧ z = 0 ∧ g = false ∧ er = 7 ∨ decide (t < nt) = false ∧ er = 0 ∧ (sm = false ∧ z = 0 ∧ g = true ∨ sm = true ∧ wrap64 (nx + cs) = nx + cs ∧ (decide (nx + cs ≤ t) = true ∧ z = 0 ∧ g = true ∨
      decide (nx + cs ≤ t) = false ∧ wrap64 (nx + cs - t) = nx + cs - t ∧ (decide (nx + cs - t ≤ q) = true ∧ g = true ∧ z = nx + cs - t ∨ decide (nx + cs - t ≤ q) = false ∧ g = false ∧ z = 0)))) :
    Calls Try.prog 40 #[ptr p, .int .i64 t, .int .i64 n, .int .i64 r] w fun e w' => e = .returned (.tuple #[.int .i64 z, .bool g, .int .i64 er]) ∧ Below w.heap.size w w' := by
  go_enter Try.func40, Try.ntmps40
  go_wp2_with fail
  refine (H1.out _).mono ?_
  rintro e w1 ⟨rfl, rfl⟩
  go_wp2_with fail
  refine (H2.out _).mono ?_
  rintro e w1 ⟨rfl, rfl⟩
  rcases hr with ⟨h3, rfl, rfl, rfl⟩ | ⟨h3, rfl, hr⟩
  · go_wp2_with fail
    go_ret3
    exact ⟨rfl, Below.refl _ _⟩
  go_wp2_with fail
  refine (HC.out _).mono ?_
  rintro e w2 ⟨rfl, hb⟩
  have c1' : w2.cell? ⟨p, 1, none⟩ = some (.int .i64 q) := kc hb c1
  have c3' : w2.cell? ⟨p, 3, none⟩ = some (.int .i64 nx) := kc hb c3
  have c4' : w2.cell? ⟨p, 4, none⟩ = some (.bool sm) := kc hb c4
  have HB := hid hb
  clear hb c0 c1 c2 c3 c4 H1 H2 HC
  rcases hr with ⟨rfl, rfl, rfl⟩ | ⟨rfl, hw, ⟨h4, rfl, rfl⟩ | ⟨h4, hy, ⟨h5, rfl, rfl⟩ | ⟨h5, rfl, rfl⟩⟩⟩
  · go_wp2_with fail
    go_ret3
    exact ⟨rfl, HB.out⟩
  · go_wp2_with fail
    go_ret3
    exact ⟨rfl, HB.out⟩
  · go_wp2_with fail
    go_ret3
    refine ⟨?_, HB.out⟩
    show Ending.returned (.tuple #[.int .i64 (wrap64 (nx + cs - t)), .bool true, .int .i64 0]) = _
    rw [hy]
  · go_wp2_with fail
    go_ret3
    exact ⟨rfl, HB.out⟩

theorem wait_any (p : Nat) (m : Pc) (ho : m.Ok) (t n r : Int) (w : World) (h : RAt w p m) :
    Calls Try.prog 40 #[ptr p, .int .i64 t, .int .i64 n, .int .i64 r] w fun e w' => e = .returned (.tuple #[.int .i64 (wA m t n r), .bool (gA m t n r), .int .i64 (refW m t n r)]) ∧ Below w.heap.size w w' := by
  by_cases hbad : (inW t 0 1152921504606846976 && tokB n && tokB r) = false
  · have e0 : refW m t n r = 2 := by unfold refW; rw [hbad]; simp
    have e1 : wA m t n r = 0 := by unfold wA; rw [e0]; simp
    have e2 : gA m t n r = false := by unfold gA; rw [e0]; simp
    rw [e0, e1, e2]
    refine wait_bad p t n r (tokB n) (tokB r) w (hid (tokens_any n)) (hid (tokens_any r)) ?_
    by_cases a : t < 0
    · exact .inl (decide_eq_true a)
    · refine .inr ⟨decide_eq_false a, ?_⟩
      by_cases b : 1152921504606846976 < t
      · exact .inl (decide_eq_true b)
      · refine .inr ⟨decide_eq_false b, ?_⟩
        rw [inW_iff.2 ⟨by omega, by omega⟩] at hbad
        cases h1 : tokB n
        · exact .inl rfl
        · rw [h1] at hbad
          exact .inr ⟨rfl, by simpa using hbad⟩
  · simp only [Bool.not_eq_false, Bool.and_eq_true] at hbad
    obtain ⟨⟨h1, h2⟩, h3⟩ := hbad
    obtain ⟨a1, a2⟩ := inW_iff.1 h1
    obtain ⟨b1, b2⟩ := tokB_iff.1 h2
    obtain ⟨d1, d2⟩ := tokB_iff.1 h3
    obtain ⟨c0, c1, c2, c3, c4, -⟩ := h.cells
    have ec : costA n r = (costN n.toNat r.toNat : Nat) := by unfold costA; rw [h2, h3]; rfl
    have er : refW m t n r = if t < m.noted then 7 else 0 := by unfold refW; rw [h1, h2, h3]; rfl
    have hcn := costN_le n.toNat r.toNat (by omega) (by omega)
    refine wait_core p t n r m.count m.queue m.noted m.next (costA n r) (refC n r) _ m.some _ _ w c0 c1 c2 c3 c4 (hid fun w => by rw [← h2]; exact tokens_any n w) (hid fun w => by rw [← h3]; exact tokens_any r w) (hid (cost_any n r)) (decide_eq_false (by omega)) (decide_eq_false (by omega)) ?_
    unfold wA gA
    rw [ec]
    by_cases hb : t < m.noted
    · rw [if_pos hb] at er
      left
      rw [er]
      exact ⟨decide_eq_true hb, by simp, by simp, rfl⟩
    · rw [if_neg hb] at er
      right
      refine ⟨decide_eq_false hb, er, ?_⟩
      rw [er]
      have hnx := ho.next
      unfold waitN goesB
      generalize costN n.toNat r.toNat = k at *
      cases hs : m.some
      · left; simp
      · right
        refine ⟨rfl, by unfold wrap64; omega, ?_⟩
        by_cases h4 : (m.next : Int) + (k : Nat) ≤ t
        · left
          refine ⟨decide_eq_true h4, ?_, ?_⟩
          · simp; intro _; omega
          · simp; omega
        · right
          refine ⟨decide_eq_false h4, by unfold wrap64; omega, ?_⟩
          by_cases h5 : (m.next : Int) + (k : Nat) - t ≤ m.queue
          · left
            have h6 : m.next + k ≤ t.toNat + m.queue := by omega
            refine ⟨decide_eq_true h5, ?_, ?_⟩
            · simp [h6]
            · simp [h6]; omega
          · right
            have h6 : ¬ m.next + k ≤ t.toNat + m.queue := by omega
            refine ⟨decide_eq_false h5, ?_, ?_⟩
            · simp [h6]
            · simp [h6]

set_option maxHeartbeats 400000 in
theorem look_nil (t n : Int) (w : World) :
    Calls Try.prog 23 #[.pointer none, .int .i64 t, .int .i64 n] w fun e w' => e = .returned (.tuple #[.int .i64 0, .bool false, .int .i64 1]) ∧ Below w.heap.size w w' := by
  go_enter Try.func23, Try.ntmps23
  go_wp2_with fail
  go_ret3
  exact ⟨rfl, Below.refl _ _⟩

set_option maxHeartbeats 1000000 in
theorem look_core (p : Nat) (t n c z er : Int) (g : Bool) (w : World) (c0 : w.cell? ⟨p, 0, none⟩ = some (.int .i64 c))
    (H : Hid (Calls Try.prog 40 #[ptr p, .int .i64 t, .int .i64 n, .int .i64 c] w fun e w' => e = .returned (.tuple #[.int .i64 z, .bool g, .int .i64 er]) ∧ Below w.heap.size w w')) :
    Calls Try.prog 23 #[ptr p, .int .i64 t, .int .i64 n] w fun e w' => e = .returned (.tuple #[.int .i64 z, .bool g, .int .i64 er]) ∧ Below w.heap.size w w' := by
  go_enter Try.func23, Try.ntmps23
  go_wp2_with fail
  refine H.out.mono ?_
  rintro e w2 ⟨rfl, hb⟩
  have HB := hid hb
  clear hb
  go_wp2_with fail
  go_ret3
  exact ⟨rfl, HB.out⟩

theorem Look_any (p : Nat) (m : Pc) (ho : m.Ok) (t n : Int) (w : World) (h : RAt w p m) :
    Calls Try.prog 23 #[ptr p, .int .i64 t, .int .i64 n] w fun e w' => e = .returned (.tuple #[.int .i64 (wA m t n m.count), .bool (gA m t n m.count), .int .i64 (refW m t n m.count)]) ∧ Below w.heap.size w w' :=
  look_core p t n m.count _ _ _ w h.cells.1 (hid (wait_any p m ho t n m.count w h))

set_option maxHeartbeats 400000 in
theorem at_nil (t n r : Int) (w : World) :
    Calls Try.prog 25 #[.pointer none, .int .i64 t, .int .i64 n, .int .i64 r] w fun e w' => e = .returned (.tuple #[.int .i64 0, .bool false, .int .i64 1]) ∧ Below w.heap.size w w' := by
  go_enter Try.func25, Try.ntmps25
  go_wp2_with fail
  refine (wait_nil t n r w).mono ?_
  rintro e w2 ⟨rfl, hb⟩
  have HB := hid hb
  clear hb
  go_wp2_with fail
  go_ret3
  exact ⟨rfl, HB.out⟩

set_option maxRecDepth 20000 in
set_option maxHeartbeats 2000000 in
theorem at_core (p : Nat) (t n r z er s : Int) (g : Bool) (w : World) (Q : World → Prop) (hlt : p < w.heap.size)
    (hfz : ∀ w', Below w.heap.size w w' → w'.frozen? ⟨p, 2, none⟩ = false ∧ w'.frozen? ⟨p, 3, none⟩ = false ∧ w'.frozen? ⟨p, 4, none⟩ = false ∧ (∃ v, w'.cell? ⟨p, 2, none⟩ = some v) ∧ (∃ v, w'.cell? ⟨p, 3, none⟩ = some v) ∧ (∃ v, w'.cell? ⟨p, 4, none⟩ = some v))
    (H : Hid (Calls Try.prog 40 #[ptr p, .int .i64 t, .int .i64 n, .int .i64 r] w fun e w' => e = .returned (.tuple #[.int .i64 z, .bool g, .int .i64 er]) ∧ Below w.heap.size w w'))
    (hr : (er == 0) = false ∧ z = 0 ∧ g = false ∧ Hid (∀ w', Below w.heap.size w w' → Q w') ∨ (er == 0) = true ∧ er = 0 ∧ (g = false ∧ Hid (∀ w', Below w.heap.size w w' → Q (w'.setCell ⟨p, 2, none⟩ (.int .i64 t))) ∨
      g = true ∧ wrap64 (t + z) = s ∧ Hid (∀ w', Below w.heap.size w w' → Q (((w'.setCell ⟨p, 2, none⟩ (.int .i64 t)).setCell ⟨p, 3, none⟩ (.int .i64 s)).setCell ⟨p, 4, none⟩ (.bool true))))) :
    Calls Try.prog 25 #[ptr p, .int .i64 t, .int .i64 n, .int .i64 r] w fun e w' => e = .returned (.tuple #[.int .i64 z, .bool g, .int .i64 er]) ∧ Q w' := by
  go_enter Try.func25, Try.ntmps25
  go_wp2_with fail
  refine H.out.mono ?_
  rintro e w2 ⟨rfl, hb⟩
  obtain ⟨f2, f3, f4, ⟨v2, x2⟩, ⟨v3, x3⟩, ⟨v4, x4⟩⟩ := hfz w2 hb
  have HB := hid hb
  clear hb hfz H
  rcases hr with ⟨h1, rfl, rfl, HQ⟩ | ⟨h1, rfl, ⟨rfl, HQ⟩ | ⟨rfl, hs, HQ⟩⟩
  · go_wp2_with fail
    go_ret3
    exact ⟨rfl, HQ.out _ HB.out⟩
  · go_wp2_with fail
    go_ret3
    exact ⟨rfl, HQ.out _ HB.out⟩
  · go_wp2_with fail
    go_ret3
    exact ⟨rfl, HQ.out _ HB.out⟩

theorem At_any (p : Nat) (m : Pc) (ho : m.Ok) (t n r : Int) (w : World) (h : RAt w p m) :
    Calls Try.prog 25 #[ptr p, .int .i64 t, .int .i64 n, .int .i64 r] w fun e w' => e = .returned (.tuple #[.int .i64 (wA m t n r), .bool (gA m t n r), .int .i64 (refW m t n r)]) ∧ RAt w' p (stepA m t n r) ∧ Wr (fun k => k = p) w w' := by
  refine at_core p t n r _ _ (t + wA m t n r) _ w (fun w' => RAt w' p (stepA m t n r) ∧ Wr (fun k => k = p) w w') h.lt (fun w' hb => ?_) (hid (wait_any p m ho t n r w h)) ?_
  · obtain ⟨c0, c1, c2, c3, c4, hf⟩ := (h.below hb h.lt).cells
    exact ⟨hf 2, hf 3, hf 4, ⟨_, c2⟩, ⟨_, c3⟩, ⟨_, c4⟩⟩
  unfold wA gA stepA
  by_cases hz : refW m t n r = 0
  · right
    obtain ⟨tn, nn, rn, rfl, rfl, rfl, h1, h2, h3, h4, h5, h6⟩ := refW_zero hz
    have hw := waitN_le m tn nn rn
    have hq := ho.q
    rw [hz]
    refine ⟨rfl, rfl, ?_⟩
    simp only [Int.toNat_natCast, if_true, decide_true, Bool.true_and]
    cases hg : goesB m tn nn rn
    · left
      refine ⟨rfl, hid fun w' hb => ⟨?_, (Wr.ofBelow hb).trans (Wr.set (R := fun k => k = p) ⟨p, 2, none⟩ _ rfl)⟩⟩
      have := heap_setCell_same _ _ 2 _ _ (.int .i64 (tn : Nat)) (h.below hb h.lt)
      unfold RAt
      rw [this]
      simp [pv]
    · right
      refine ⟨rfl, by unfold wrap64; omega, hid fun w' hb => ⟨?_, (((Wr.ofBelow hb).trans (Wr.set (R := fun k => k = p) ⟨p, 2, none⟩ _ rfl)).trans (Wr.set (R := fun k => k = p) ⟨p, 3, none⟩ _ rfl)).trans (Wr.set (R := fun k => k = p) ⟨p, 4, none⟩ _ rfl)⟩⟩
      have := heap_setCell_same _ _ 4 _ _ (.bool true) (heap_setCell_same _ _ 3 _ _ (.int .i64 ((tn : Nat) + (waitN m tn nn rn : Nat))) (heap_setCell_same _ _ 2 _ _ (.int .i64 (tn : Nat)) (h.below hb h.lt)))
      unfold RAt
      rw [this]
      simp [pv]
  · left
    simp only [hz, if_false, decide_false, Bool.false_and]
    exact ⟨by simpa using hz, trivial, trivial, hid fun w' hb => ⟨h.below hb h.lt, Wr.ofBelow hb⟩⟩

set_option maxHeartbeats 400000 in
theorem go_nil (t n : Int) (w : World) :
    Calls Try.prog 24 #[.pointer none, .int .i64 t, .int .i64 n] w fun e w' => e = .returned (.tuple #[.int .i64 0, .bool false, .int .i64 1]) ∧ Below w.heap.size w w' := by
  go_enter Try.func24, Try.ntmps24
  go_wp2_with fail
  go_ret3
  exact ⟨rfl, Below.refl _ _⟩

set_option maxHeartbeats 1000000 in
theorem go_core (p : Nat) (t n c z er : Int) (g : Bool) (w : World) (Q : World → Prop) (c0 : w.cell? ⟨p, 0, none⟩ = some (.int .i64 c))
    (H : Hid (Calls Try.prog 25 #[ptr p, .int .i64 t, .int .i64 n, .int .i64 c] w fun e w' => e = .returned (.tuple #[.int .i64 z, .bool g, .int .i64 er]) ∧ Q w')) :
    Calls Try.prog 24 #[ptr p, .int .i64 t, .int .i64 n] w fun e w' => e = .returned (.tuple #[.int .i64 z, .bool g, .int .i64 er]) ∧ Q w' := by
  go_enter Try.func24, Try.ntmps24
  go_wp2_with fail
  refine H.out.mono ?_
  rintro e w2 ⟨rfl, hb⟩
  have HB := hid hb
  clear hb
  go_wp2_with fail
  go_ret3
  exact ⟨rfl, HB.out⟩

theorem Go_any (p : Nat) (m : Pc) (ho : m.Ok) (t n : Int) (w : World) (h : RAt w p m) :
    Calls Try.prog 24 #[ptr p, .int .i64 t, .int .i64 n] w fun e w' => e = .returned (.tuple #[.int .i64 (wA m t n m.count), .bool (gA m t n m.count), .int .i64 (refW m t n m.count)]) ∧ RAt w' p (stepA m t n m.count) ∧ Wr (fun k => k = p) w w' :=
  go_core p t n m.count _ _ _ w _ h.cells.1 (hid (At_any p m ho t n m.count w h))

set_option maxHeartbeats 400000 in
theorem next_nil (w : World) :
    Calls Try.prog 26 #[.pointer none] w fun e w' => e = .returned (.tuple #[.int .i64 0, .bool false]) ∧ Below w.heap.size w w' := by
  go_enter Try.func26, Try.ntmps26
  go_wp2_with fail
  go_ret2
  exact ⟨rfl, Below.refl _ _⟩

set_option maxHeartbeats 400000 in
theorem next_core (p : Nat) (x y : Int) (sm : Bool) (w : World) (c3 : w.cell? ⟨p, 3, none⟩ = some (.int .i64 x)) (c4 : w.cell? ⟨p, 4, none⟩ = some (.bool sm)) (hx : sm = false ∧ y = 0 ∨ sm = true ∧ y = x) :
    Calls Try.prog 26 #[ptr p] w fun e w' => e = .returned (.tuple #[.int .i64 y, .bool sm]) ∧ Below w.heap.size w w' := by
  go_enter Try.func26, Try.ntmps26
  rcases hx with ⟨rfl, rfl⟩ | ⟨rfl, rfl⟩
  · go_wp2_with fail
    go_ret2
    exact ⟨rfl, Below.refl _ _⟩
  · go_wp2_with fail
    go_ret2
    exact ⟨rfl, Below.refl _ _⟩

theorem Next_any (p : Nat) (m : Pc) (ho : m.Ok) (w : World) (h : RAt w p m) :
    Calls Try.prog 26 #[ptr p] w fun e w' => e = .returned (.tuple #[.int .i64 m.next, .bool m.some]) ∧ Below w.heap.size w w' := by
  obtain ⟨c0, c1, c2, c3, c4, -⟩ := h.cells
  refine next_core p m.next m.next m.some w c3 c4 ?_
  cases hs : m.some
  · exact .inl ⟨rfl, by rw [ho.none hs]; rfl⟩
  · exact .inr ⟨rfl, rfl⟩

set_option maxHeartbeats 400000 in
theorem fork_nil (w : World) :
    Calls Try.prog 11 #[.pointer none] w fun e w' => e = .returned (.pointer none) ∧ Below w.heap.size w w' := by
  go_enter Try.func11, Try.ntmps11
  go_wp2_with fail
  go_ret
  exact ⟨rfl, Below.refl _ _⟩

set_option maxRecDepth 20000 in
set_option maxHeartbeats 1000000 in
theorem fork_core (p : Nat) (c q nt nx : Int) (sm : Bool) (w : World) (c0 : w.cell? ⟨p, 0, none⟩ = some (.int .i64 c)) (c1 : w.cell? ⟨p, 1, none⟩ = some (.int .i64 q)) (c2 : w.cell? ⟨p, 2, none⟩ = some (.int .i64 nt)) (c3 : w.cell? ⟨p, 3, none⟩ = some (.int .i64 nx)) (c4 : w.cell? ⟨p, 4, none⟩ = some (.bool sm)) :
    Calls Try.prog 11 #[ptr p] w fun e w' => e = .returned (ptr w.heap.size) ∧ w'.heap[w.heap.size]? = some (.cells #[.int .i64 c, .int .i64 q, .int .i64 nt, .int .i64 nx, .bool sm] 51) ∧ Below w.heap.size w w' := by
  go_enter Try.func11, Try.ntmps11
  go_wp2_with fail
  go_ret
  exact ⟨rfl, heap_alloc_new _ _, (Below.refl _ _).alloc (Nat.le_refl _) _⟩

theorem Fork_any (p : Nat) (m : Pc) (w : World) (h : RAt w p m) :
    Calls Try.prog 11 #[ptr p] w fun e w' => e = .returned (ptr w.heap.size) ∧ RAt w' w.heap.size m ∧ Below w.heap.size w w' := by
  obtain ⟨c0, c1, c2, c3, c4, -⟩ := h.cells
  exact fork_core p _ _ _ _ _ w c0 c1 c2 c3 c4

set_option maxRecDepth 20000 in
set_option maxHeartbeats 1000000 in
theorem new_call (c q : Int) (b : Bool) (w : World) (H1 : Hid (∀ w : World, Calls Try.prog 20 #[.int .i64 c] w fun e w' => e = .returned (.bool b) ∧ w = w')) :
    Calls Try.prog 8 #[.int .i64 c, .int .i64 q] w fun e w' => (b = true ∧ 0 ≤ q ∧ q ≤ 3600000000 ∧ e = .returned (.tuple #[ptr w.heap.size, .int .i64 0]) ∧ w.alloc (.cells #[.int .i64 c, .int .i64 q, .int .i64 0, .int .i64 0, .bool false] 51) = w') ∨ ((b = false ∨ ¬ (0 ≤ q ∧ q ≤ 3600000000)) ∧ e = .returned (.tuple #[.pointer none, .int .i64 2]) ∧ w = w') := by
  by_cases h1 : q < 0
  · have d1 := decide_eq_true h1
    cases b
    · go_enter Try.func8, Try.ntmps8
      go_wp2_with fail
      refine (H1.out _).mono ?_
      rintro e w1 ⟨rfl, rfl⟩
      go_wp2_with fail
      go_ret2
      exact .inr ⟨.inl (by first | exact trivial | rfl), rfl, rfl⟩
    · go_enter Try.func8, Try.ntmps8
      go_wp2_with fail
      refine (H1.out _).mono ?_
      rintro e w1 ⟨rfl, rfl⟩
      go_wp2_with fail
      go_ret2
      exact .inr ⟨.inr (by omega), rfl, rfl⟩
  · have d1 := decide_eq_false h1
    by_cases h2 : 3600000000 < q
    · have d2 := decide_eq_true h2
      cases b
      · go_enter Try.func8, Try.ntmps8
        go_wp2_with fail
        refine (H1.out _).mono ?_
        rintro e w1 ⟨rfl, rfl⟩
        go_wp2_with fail
        go_ret2
        exact .inr ⟨.inl (by first | exact trivial | rfl), rfl, rfl⟩
      · go_enter Try.func8, Try.ntmps8
        go_wp2_with fail
        refine (H1.out _).mono ?_
        rintro e w1 ⟨rfl, rfl⟩
        go_wp2_with fail
        go_ret2
        exact .inr ⟨.inr (by omega), rfl, rfl⟩
    · have d2 := decide_eq_false h2
      cases b
      · go_enter Try.func8, Try.ntmps8
        go_wp2_with fail
        refine (H1.out _).mono ?_
        rintro e w1 ⟨rfl, rfl⟩
        go_wp2_with fail
        go_ret2
        exact .inr ⟨.inl (by first | exact trivial | rfl), rfl, rfl⟩
      · go_enter Try.func8, Try.ntmps8
        go_wp2_with fail
        refine (H1.out _).mono ?_
        rintro e w1 ⟨rfl, rfl⟩
        go_wp2_with fail
        go_ret2
        exact .inl ⟨by first | exact trivial | rfl, by omega, by omega, rfl, rfl⟩

theorem New_any (c q : Int) (w : World) :
    Calls Try.prog 8 #[.int .i64 c, .int .i64 q] w fun e w' =>
      (∃ cn qn : Nat, c = cn ∧ q = qn ∧ (fresh cn qn).Ok ∧ e = .returned (.tuple #[ptr w.heap.size, .int .i64 0]) ∧ RAt w' w.heap.size (fresh cn qn) ∧ Below w.heap.size w w') ∨
      ((tokB c && inW q 0 3600000000) = false ∧ e = .returned (.tuple #[.pointer none, .int .i64 2]) ∧ w = w') := by
  refine (new_call c q (tokB c) w (hid (tokens_any c))).mono ?_
  rintro e w' (⟨h1, h2, h3, rfl, rfl⟩ | ⟨h1, rfl, rfl⟩)
  · left
    obtain ⟨a1, a2⟩ := tokB_iff.1 h1
    refine ⟨c.toNat, q.toNat, by omega, by omega, fresh_ok _ _ (by omega) (by omega) (by omega), rfl, ?_, (Below.refl _ _).alloc (Nat.le_refl _) _⟩
    have := heap_alloc_new w (.cells (pv (fresh c.toNat q.toNat)) 51)
    unfold RAt
    rw [← this]
    unfold pv fresh
    rw [show ((c.toNat : Nat) : Int) = c by omega, show ((q.toNat : Nat) : Int) = q by omega]
    rfl
  · right
    refine ⟨?_, rfl, rfl⟩
    rcases h1 with h | h
    · rw [h]; rfl
    · have : inW q 0 3600000000 = false := by
        cases h2 : inW q 0 3600000000
        · rfl
        · exact absurd (inW_iff.1 h2) h
      rw [this]; simp

end Go.Proofs.Ytcnfgngkejjecaa.PacA
