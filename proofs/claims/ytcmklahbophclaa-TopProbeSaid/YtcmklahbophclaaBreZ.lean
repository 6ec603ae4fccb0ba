/- Breakers: the program's own in memory, its calls but Done. -/
import Derived.Test.YtcmklahbophclaaBreU
import Derived.Test.YtcmklahbophclaaBreW
import Derived.Test.YtcmklahbophclaaBreY
import Derived.Test.YtcmklahbophclaaBreR
namespace Go.Proofs.Ytcmklahbophclaa.BreZ
set_option linter.unusedVariables false
open Go.ChangeShapes Go.WideShapes Go.ChangeAt Go.RowKit Base WinM WinA WinB WinC WinE WinH WinI WinK BreP BreA BreV BreU BreW BreY

/-- a breaker's cells; q: its window -/
def bv (B : Bk) (q : Nat) : Array Value := #[.int .u8 B.st, .int .i64 B.til, .string B.r.nm, .int .u8 B.r.g, .int .i64 B.r.count, .int .i64 B.r.slow, .int .i64 B.r.least, .int .i64 B.r.width, .int .i64 B.r.rcv, .pointer (some ⟨q, 0, none⟩), .int .i64 B.trips, .int .i64 B.last]
def Row (w : World) (p q : Nat) (B : Bk) : Prop := w.heap[p]? = some (.cells (bv B q) 84)

theorem Row.lt {w : World} {p q : Nat} {B : Bk} (h : Row w p q B) : p < w.heap.size := (Array.getElem?_eq_some_iff.1 h).1
theorem Row.cell {w : World} {p q : Nat} {B : Bk} (h : Row w p q B) (i : Nat) (v : Value) (hv : (bv B q)[i]? = some v) : w.cell? ⟨p, i, none⟩ = some v := by
  unfold Row at h
  simp [World.cell?, h, hv]
theorem Row.fr {w : World} {p q : Nat} {B : Bk} (h : Row w p q B) (o : Nat) : w.frozen? ⟨p, o, none⟩ = false := by
  unfold Row at h
  simp [World.frozen?, h]
theorem Row.lets {R : Nat → Prop} {w w' : World} {p q : Nat} {B : Bk} (h : Row w p q B) (hl : Lets R w w') (hr : ¬ R p) : Row w' p q B := (hl.block p h.lt hr).trans h
theorem Row.below {w w' : World} {p q : Nat} {B : Bk} (h : Row w p q B) (hb : Below w.heap.size w w') : Row w' p q B := h.lets (R := fun _ => False) (Lets.ofBelow hb) (fun h => h)
theorem Row.set {w : World} {p q : Nat} {B : Bk} (h : Row w p q B) (i : Nat) (v : Value) {B' : Bk} {q' : Nat} (hv : (bv B q).setIfInBounds i v = bv B' q') : Row (w.setCell ⟨p, i, none⟩ v) p q' B' := by
  unfold Row at *
  rw [heap_setCell_same _ _ _ _ _ _ h, hv]

/-- in memory: its block p, its window's q, its buckets' go -/
def Iv : Inv := fun w p H B => ∃ q go, Row w p q B ∧ IsWin w q go B.win ∧ q ≠ p ∧ go ≠ some p ∧ Pu B ∧ ∀ k, H k ↔ (k = p ∨ k = q ∨ go = some k)

theorem iv_keep {w w' : World} {p : Nat} {H R : Nat → Prop} {B : Bk} (h : Iv w p H B) (hl : Lets R w w') (hr : ∀ k, H k → ¬ R k) : Iv w' p H B := by
  obtain ⟨q, go, h1, h2, h3, h4, h5, h6⟩ := h
  exact ⟨q, go, h1.lets hl (hr p ((h6 p).2 (.inl rfl))), h2.keep hl (hr q ((h6 q).2 (.inr (.inl rfl)))) (fun g hg => hr g ((h6 g).2 (.inr (.inr hg)))), h3, h4, h5, h6⟩
theorem iv_lt {w : World} {p : Nat} {H : Nat → Prop} {B : Bk} (h : Iv w p H B) : ∀ k, H k → k < w.heap.size := by
  obtain ⟨q, go, h1, h2, h3, h4, h5, h6⟩ := h
  intro k hk
  rcases (h6 k).1 hk with rfl | rfl | hg
  · exact h1.lt
  · exact h2.lt
  · exact h2.lt2 k hg
/-- only its own block was written -/
theorem iv_row {w w' : World} {p : Nat} {H : Nat → Prop} {B B' : Bk} (h : Iv w p H B) (hl : Lets (fun k => k = p) w w') (hr : ∀ q, Row w p q B → Row w' p q B') (hw : B'.win = B.win) (hp : Pu B') : Moved Iv w w' p H B' := by
  obtain ⟨q, go, h1, h2, h3, h4, h5, h6⟩ := h
  refine ⟨H, ⟨q, go, hr q h1, ?_, h3, h4, hp, h6⟩, fun k hk => .inl hk, hl.mono fun k hk => (h6 k).2 (.inl hk)⟩
  rw [hw]
  exact h2.keep hl h3 (fun g hg e => by subst e; exact h4 hg)

set_option maxHeartbeats 400000 in
theorem state_core (p : Nat) (st : Int) (w : World) (k0 : w.cell? ⟨p, 0, none⟩ = some (.int .u8 st)) :
    Calls Try.prog 15 #[ptr p] w fun e w' => e = .returned (.int .u8 st) ∧ Below w.heap.size w w' := by
  go_enter Try.func15, Try.ntmps15
  go_wp2_with fail
  go_ret
  exact ⟨rfl, Below.refl _ _⟩

set_option maxHeartbeats 400000 in
theorem trips_core (p : Nat) (tr : Int) (w : World) (k0 : w.cell? ⟨p, 10, none⟩ = some (.int .i64 tr)) :
    Calls Try.prog 21 #[ptr p] w fun e w' => e = .returned (.int .i64 tr) ∧ Below w.heap.size w w' := by
  go_enter Try.func21, Try.ntmps21
  go_wp2_with fail
  go_ret
  exact ⟨rfl, Below.refl _ _⟩

set_option maxHeartbeats 400000 in
theorem last_core (p : Nat) (la : Int) (w : World) (k0 : w.cell? ⟨p, 11, none⟩ = some (.int .i64 la)) :
    Calls Try.prog 24 #[ptr p] w fun e w' => e = .returned (.int .i64 la) ∧ Below w.heap.size w w' := by
  go_enter Try.func24, Try.ntmps24
  go_wp2_with fail
  go_ret
  exact ⟨rfl, Below.refl _ _⟩

set_option maxHeartbeats 1000000 in
theorem until_core (p : Nat) (st til : Int) (b : Bool) (w : World) (k0 : w.cell? ⟨p, 0, none⟩ = some (.int .u8 st)) (k1 : w.cell? ⟨p, 1, none⟩ = some (.int .i64 til)) (hb : (st != 1) = b) :
    Calls Try.prog 16 #[ptr p] w fun e w' => e = .returned (.tuple #[.int .i64 til, .bool b]) ∧ Below w.heap.size w w' := by
  go_enter Try.func16, Try.ntmps16
  go_wp2_with fail
  go_quiet (fail)
  go_wp2_with fail
  go_ret2
  exact ⟨by subst hb; rfl, by first | exact (Below.refl _ _).drew | exact below_drewN (Below.refl _ _) _⟩

set_option maxHeartbeats 1000000 in
theorem look_core (p : Nat) (t st til z : Int) (b r : Bool) (w : World) (k0 : w.cell? ⟨p, 0, none⟩ = some (.int .u8 st)) (k1 : w.cell? ⟨p, 1, none⟩ = some (.int .i64 til))
    (HR : Hid (Calls Try.prog 39 #[ptr p, .int .i64 t, .slice none 0 0] w fun e w' => e = .returned (.int .i64 z) ∧ w = w'))
    (HL : Hid (∀ w : World, Calls Try.prog 44 #[.agg #[.int .u8 st, .int .i64 til], .int .i64 t] w fun e w' => e = .returned (.bool b) ∧ Below w.heap.size w w'))
    (hr : (z == 0) = false ∧ r = false ∨ z = 0 ∧ r = b) :
    Calls Try.prog 22 #[ptr p, .int .i64 t] w fun e w' => e = .returned (.tuple #[.bool r, .int .i64 z]) ∧ Below w.heap.size w w' := by
  go_enter Try.func22, Try.ntmps22
  go_wp2_with fail
  refine HR.out.mono ?_
  rintro e w2 ⟨rfl, rfl⟩
  rcases hr with ⟨h1, rfl⟩ | ⟨rfl, rfl⟩
  · go_wp2_with fail
    go_ret2
    exact ⟨rfl, Below.refl _ _⟩
  · go_wp2_with fail
    refine (HL.out _).mono ?_
    rintro e w3 ⟨rfl, hb⟩
    have HB := hid hb
    clear hb
    go_wp2_with fail
    go_ret2
    exact ⟨rfl, HB.out⟩

set_option maxRecDepth 20000 in
set_option maxHeartbeats 1000000 in
theorem enter_core (p : Nat) (t z st : Int) (b pr : Bool) (w : World) (Q : World → Prop) (k0 : w.cell? ⟨p, 0, none⟩ = some (.int .u8 st)) (k11 : ∃ v, w.cell? ⟨p, 11, none⟩ = some v) (f0 : w.frozen? ⟨p, 0, none⟩ = false) (f11 : w.frozen? ⟨p, 11, none⟩ = false)
    (HL : Hid (Calls Try.prog 22 #[ptr p, .int .i64 t] w fun e w' => e = .returned (.tuple #[.bool b, .int .i64 z]) ∧ Below w.heap.size w w'))
    (hr : (z == 0) = false ∧ b = false ∧ pr = false ∧ Hid (∀ wx, Below w.heap.size w wx → Q wx) ∨
      z = 0 ∧ (pr = false ∧ (b = false ∨ b = true ∧ (st == 2) = false) ∧ Hid (∀ wx, Below w.heap.size w wx → Q (wx.setCell ⟨p, 11, none⟩ (.int .i64 t))) ∨
        pr = true ∧ b = true ∧ st = 2 ∧ Hid (∀ wx, Below w.heap.size w wx → Q ((wx.setCell ⟨p, 11, none⟩ (.int .i64 t)).setCell ⟨p, 0, none⟩ (.int .u8 3))))) :
    Calls Try.prog 17 #[ptr p, .int .i64 t] w fun e w' => e = .returned (.tuple #[.bool b, .bool pr, .int .i64 z]) ∧ Q w' := by
  obtain ⟨v11, k11⟩ := k11
  have hp := World.block_lt_of_cell? _ _ k0
  go_enter Try.func17, Try.ntmps17
  go_wp2_with fail
  refine HL.out.mono ?_
  rintro e w2 ⟨rfl, hb⟩
  have j0 := kc hb k0
  have j11 := kc hb k11
  have g0 : w2.frozen? ⟨p, 0, none⟩ = false := (hb.frozen (p := ⟨p, 0, none⟩) hp).trans f0
  have g11 : w2.frozen? ⟨p, 11, none⟩ = false := (hb.frozen (p := ⟨p, 11, none⟩) hp).trans f11
  have HB := hid hb
  clear hb k0 k11 f0 f11 HL
  rcases hr with ⟨h1, rfl, rfl, HQ⟩ | ⟨rfl, ⟨rfl, rfl | ⟨rfl, h2⟩, HQ⟩ | ⟨rfl, rfl, rfl, HQ⟩⟩
  · go_wp2_with fail
    go_ret3
    exact ⟨rfl, HQ.out _ HB.out⟩
  · go_wp2_with fail
    go_ret3
    exact ⟨rfl, HQ.out _ HB.out⟩
  · go_wp2_with fail
    go_ret3
    exact ⟨rfl, HQ.out _ HB.out⟩
  · go_wp2_with fail
    go_ret3
    exact ⟨rfl, HQ.out _ HB.out⟩

set_option maxRecDepth 20000 in
set_option maxHeartbeats 1000000 in
theorem give_core (p : Nat) (t z st y : Int) (w : World) (Q : World → Prop) (k0 : w.cell? ⟨p, 0, none⟩ = some (.int .u8 st)) (k11 : ∃ v, w.cell? ⟨p, 11, none⟩ = some v) (f0 : w.frozen? ⟨p, 0, none⟩ = false) (f11 : w.frozen? ⟨p, 11, none⟩ = false)
    (HR : Hid (Calls Try.prog 39 #[ptr p, .int .i64 t, .slice none 0 0] w fun e w' => e = .returned (.int .i64 z) ∧ w = w'))
    (hr : (z == 0) = false ∧ y = z ∧ Q w ∨ z = 0 ∧ ((st == 3) = false ∧ y = 4 ∧ Q w ∨ st = 3 ∧ y = 0 ∧ Q ((w.setCell ⟨p, 11, none⟩ (.int .i64 t)).setCell ⟨p, 0, none⟩ (.int .u8 2)))) :
    Calls Try.prog 19 #[ptr p, .int .i64 t] w fun e w' => e = .returned (.int .i64 y) ∧ Q w' := by
  obtain ⟨v11, k11⟩ := k11
  go_enter Try.func19, Try.ntmps19
  go_wp2_with fail
  refine HR.out.mono ?_
  rintro e w2 ⟨rfl, rfl⟩
  rcases hr with ⟨h1, rfl, hq⟩ | ⟨rfl, ⟨h1, rfl, hq⟩ | ⟨rfl, rfl, hq⟩⟩
  · have HQ := hid hq
    clear hq
    go_wp2_with fail
    go_ret
    exact ⟨rfl, HQ.out⟩
  · have HQ := hid hq
    clear hq
    go_wp2_with fail
    go_ret
    exact ⟨rfl, HQ.out⟩
  · have HQ := hid hq
    clear hq
    go_wp2_with fail
    go_ret
    exact ⟨rfl, HQ.out⟩

end Go.Proofs.Ytcmklahbophclaa.BreZ
