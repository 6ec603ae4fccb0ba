/- All calls of a warm-up, whatever comes. -/
import Derived.Test.YtamofanfgdjmnaaWrmH
namespace Go.Proofs.Ytamofanfgdjmnaa.WrmI
set_option linter.unusedVariables false
open Go.ChangeShapes Go.WideShapes Go.ChangeAt Go.RowKit Base WrmP NumM NumC NumE NumA WrmA WrmB WrmC WrmD WrmE WrmF WrmG WrmH Wri

theorem fill_any (p : Nat) (m : Wm) (ho : m.Ok) (t past : Nat) (h1 : m.last ≤ t) (h2 : t ≤ 1152921504606846976) (hp : past ≤ 4611686018427387904) (w : World) (h : At w p m) :
    Calls Try.prog 40 #[ptr p, .int .i64 t, .int .i64 past] w fun e w' => e = .returned (.tuple #[]) ∧ At w' p (m.fill t past) ∧ Wr (fun k => k = p) w w' := by
  obtain ⟨c0, c1, c2, c3, c4, c5, cf⟩ := h.cells
  refine (fill_core p m.c m.s m.tok m.sec m.last t past (m.tk t past : Nat) (secOf t : Nat) m.bg w c0 c1 c2 c3 c4 c5 cf (hid fun w => filled_any m ho t past h1 h2 hp w)).mono ?_
  rintro e w' ⟨rfl, w1, hb, rfl⟩
  have ha : At w1 p m := h.below hb h.lt
  refine ⟨rfl, At.fills (m' := m.fill t past) ha rfl rfl, ?_⟩
  have s1 : Wr (fun k => k = p) w w1 := Wr.ofBelow hb
  have s2 := s1.trans (Wr.set (R := fun k => k = p) (w := w1) ⟨p, 2, none⟩ (.int .i64 (m.tk t past : Nat)) rfl)
  have s3 := s2.trans (Wr.set (R := fun k => k = p) ⟨p, 3, none⟩ (.int .i64 (secOf t : Nat)) rfl)
  have s4 := s3.trans (Wr.set (R := fun k => k = p) ⟨p, 4, none⟩ (.bool true) rfl)
  exact s4.trans (Wr.set (R := fun k => k = p) ⟨p, 5, none⟩ (.int .i64 t) rfl)

theorem inW_iff {n a b : Int} : inW n a b = true ↔ a ≤ n ∧ n ≤ b := by unfold inW; simp

theorem ref2_zero {last : Nat} {t past : Int} (h : ref2 last t past = 0) : (∃ tn pn : Nat, t = tn ∧ past = pn ∧ last ≤ tn ∧ tn ≤ 1152921504606846976 ∧ pn ≤ 4611686018427387904) := by
  unfold ref2 at h
  split at h
  · rename_i hx
    simp only [Bool.and_eq_true, inW_iff] at hx
    split at h
    · omega
    · exact ⟨t.toNat, past.toNat, by omega, by omega, by omega, by omega, by omega⟩
  · omega

theorem ref4_zero {last : Nat} {t past now n : Int} (h : ref4 last t past now n = 0) : (∃ tn pn : Nat, t = tn ∧ past = pn ∧ last ≤ tn ∧ tn ≤ 1152921504606846976 ∧ pn ≤ 4611686018427387904) ∧ 0 ≤ now ∧ now ≤ 4611686018427387904 ∧ 1 ≤ n ∧ n ≤ 1099511627776 := by
  unfold ref4 WrmG.ask at h
  split at h
  · rename_i hx
    simp only [Bool.and_eq_true, inW_iff] at hx
    split at h
    · omega
    · exact ⟨⟨t.toNat, past.toNat, by omega, by omega, by omega, by omega, by omega⟩, by omega, by omega, by omega, by omega⟩
  · omega

def rateA (m : Wm) (t past : Int) : Int := if ref2 m.last t past = 0 then (Wm.next m t.toNat past.toNat : Nat) else 0
def fillA (m : Wm) (t past : Int) : Wm := if ref2 m.last t past = 0 then m.fill t.toNat past.toNat else m
def lookA (m : Wm) (t past now n : Int) : Bool := if ref4 m.last t past now n = 0 then decide (now + n ≤ (Wm.next m t.toNat past.toNat : Nat)) else false
def takeA (m : Wm) (t past now n : Int) : Wm := if ref4 m.last t past now n = 0 then m.fill t.toNat past.toNat else m

theorem fillA_ok (m : Wm) (h : m.Ok) (t past : Int) : (fillA m t past).Ok := by
  unfold fillA
  split
  · rename_i hz
    obtain ⟨tn, pn, rfl, rfl, h1, h2, h3⟩ := ref2_zero hz
    exact fill_ok m h _ _ (by simpa using h1) (by simpa using h2)
  · exact h
theorem takeA_ok (m : Wm) (h : m.Ok) (t past now n : Int) : (takeA m t past now n).Ok := by
  unfold takeA
  split
  · rename_i hz
    obtain ⟨⟨tn, pn, rfl, rfl, h1, h2, h3⟩, _⟩ := ref4_zero hz
    exact fill_ok m h _ _ (by simpa using h1) (by simpa using h2)
  · exact h

set_option maxHeartbeats 1000000 in
theorem rate_call (p : Nat) (t past r x : Int) (w : World) (HR : Hid (∀ w0 : World, w0 = w → Calls Try.prog 39 #[ptr p, .int .i64 t, .int .i64 past, .slice none 0 0] w0 fun e w' => e = .returned (.int .i64 r) ∧ w0 = w'))
    (hr : ((r != 0) = true ∧ x = 0) ∨ ((r != 0) = false ∧ r = 0 ∧ Hid (Calls Try.prog 42 #[ptr p, .int .i64 t, .int .i64 past] w fun e w' => e = .returned (.int .i64 x) ∧ Below w.heap.size w w'))) :
    Calls Try.prog 24 #[ptr p, .int .i64 t, .int .i64 past] w fun e w' => e = .returned (.tuple #[.int .i64 x, .int .i64 r]) ∧ Below w.heap.size w w' := by
  go_enter Try.func24, Try.ntmps24
  go_wp2_with fail
  refine (HR.out _ rfl).mono ?_
  rintro e w1 ⟨rfl, rfl⟩
  rcases hr with ⟨h1, rfl⟩ | ⟨h1, rfl, HB⟩
  · go_wp2_with fail
    go_ret2
    exact ⟨rfl, Below.refl _ _⟩
  · go_wp2_with fail
    refine HB.out.mono ?_
    rintro e w2 ⟨rfl, hb⟩
    have HB2 := hid hb
    clear hb HB
    go_wp2_with fail
    go_ret2
    exact ⟨rfl, HB2.out⟩

theorem Rate_any (p : Nat) (m : Wm) (ho : m.Ok) (t past : Int) (w : World) (h : At w p m) :
    Calls Try.prog 24 #[ptr p, .int .i64 t, .int .i64 past] w fun e w' => e = .returned (.tuple #[.int .i64 (rateA m t past), .int .i64 (ref2 m.last t past)]) ∧ Below w.heap.size w w' := by
  refine rate_call p t past _ _ w (hid fun w0 e => by subst e; exact refuses_none p t past m.last w0 h.cells.2.2.2.2.2.1) ?_
  unfold rateA
  by_cases hz : ref2 m.last t past = 0
  · right
    rw [hz]
    obtain ⟨tn, pn, rfl, rfl, h1, h2, h3⟩ := ref2_zero hz
    exact ⟨rfl, rfl, hid (rateBy_any p m ho tn pn h1 h2 h3 w h)⟩
  · left
    rw [if_neg hz]
    exact ⟨by simpa using hz, rfl⟩

set_option maxHeartbeats 2000000 in
theorem fill_call (p : Nat) (t past r x c s tk : Int) (w : World) (Q : World → Prop)
    (HR : Hid (∀ w0 : World, w0 = w → Calls Try.prog 39 #[ptr p, .int .i64 t, .int .i64 past, .slice none 0 0] w0 fun e w' => e = .returned (.int .i64 r) ∧ w0 = w'))
    (hr : ((r != 0) = true ∧ x = 0 ∧ Hid (Q w)) ∨ ((r != 0) = false ∧ r = 0 ∧ Hid (Calls Try.prog 40 #[ptr p, .int .i64 t, .int .i64 past] w fun e w' => e = .returned (.tuple #[]) ∧ w'.cell? ⟨p, 0, none⟩ = some (.int .i64 c) ∧ w'.cell? ⟨p, 1, none⟩ = some (.int .i64 s) ∧ w'.cell? ⟨p, 2, none⟩ = some (.int .i64 tk) ∧ Hid (∀ w2, Below w'.heap.size w' w2 → Q w2)) ∧
      Hid (Ans 41 #[.agg #[.int .i64 c, .int .i64 s], .int .i64 tk] (.int .i64 x)))) :
    Calls Try.prog 22 #[ptr p, .int .i64 t, .int .i64 past] w fun e w' => e = .returned (.tuple #[.int .i64 x, .int .i64 r]) ∧ Q w' := by
  go_enter Try.func22, Try.ntmps22
  go_wp2_with fail
  refine (HR.out _ rfl).mono ?_
  rintro e w1 ⟨rfl, rfl⟩
  rcases hr with ⟨h1, rfl, HQ⟩ | ⟨h1, rfl, HB, HX⟩
  · go_wp2_with fail
    go_ret2
    exact ⟨rfl, HQ.out⟩
  · go_wp2_with fail
    refine HB.out.mono ?_
    rintro e wz ⟨rfl, c0, c1, c2, HQ⟩
    clear HB
    have kb : Below wz.heap.size wz wz.drew := (Below.refl wz.heap.size wz).drew
    go_wp2_with fail
    go_region_held3 (fun w' => w'.cell? ⟨p, 0, none⟩ = some (.int .i64 c) ∧ w'.cell? ⟨p, 1, none⟩ = some (.int .i64 s) ∧ w'.cell? ⟨p, 2, none⟩ = some (.int .i64 tk)) (first | assumption | go_keep)
      (first
           | (go_at_call 41; refine (HX.out _).mono ?_; rintro e w3 ⟨rfl, hb3⟩
              have c0 : w3.cell? ⟨p, 0, none⟩ = some (.int .i64 c) := kc hb3 (by first | assumption | go_cell)
              have c1 : w3.cell? ⟨p, 1, none⟩ = some (.int .i64 s) := kc hb3 (by first | assumption | go_cell)
              have c2 : w3.cell? ⟨p, 2, none⟩ = some (.int .i64 tk) := kc hb3 (by first | assumption | go_cell)
              have kb : Below wz.heap.size wz w3 := bl (by assumption) hb3))
    all_goals
      go_wp2_with fail
      go_ret2
      exact ⟨rfl, HQ.out _ (by assumption)⟩

theorem Fill_any (p : Nat) (m : Wm) (ho : m.Ok) (t past : Int) (w : World) (h : At w p m) :
    Calls Try.prog 22 #[ptr p, .int .i64 t, .int .i64 past] w fun e w' => e = .returned (.tuple #[.int .i64 (rateA m t past), .int .i64 (ref2 m.last t past)]) ∧ At w' p (fillA m t past) ∧ Wr (fun k => k = p) w w' := by
  refine fill_call p t past _ _ m.c m.s (m.tk t.toNat past.toNat : Nat) w (fun w' => At w' p (fillA m t past) ∧ Wr (fun k => k = p) w w') (hid fun w0 e => by subst e; exact refuses_none p t past m.last w0 h.cells.2.2.2.2.2.1) ?_
  unfold rateA fillA
  by_cases hz : ref2 m.last t past = 0
  · right
    simp only [hz, if_true]
    obtain ⟨tn, pn, rfl, rfl, h1, h2, h3⟩ := ref2_zero hz
    refine ⟨rfl, trivial, hid ((fill_any p m ho tn pn h1 h2 h3 w h).mono ?_), hid fun w => rate_next m ho tn pn w⟩
    rintro e w' ⟨rfl, ha, hw⟩
    obtain ⟨c0, c1, c2, -⟩ := ha.cells
    exact ⟨rfl, c0, c1, c2, hid fun w2 hb => ⟨ha.below hb ha.lt, hw.trans (Wr.ofBelow hb)⟩⟩
  · left
    simp only [hz, if_false]
    exact ⟨by simpa using hz, trivial, hid ⟨h, Wr.refl _ _⟩⟩

end Go.Proofs.Ytamofanfgdjmnaa.WrmI
