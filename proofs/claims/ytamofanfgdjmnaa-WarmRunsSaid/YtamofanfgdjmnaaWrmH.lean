/- Calls of a warm-up: the rate by a filling, a filling. -/
import Derived.Test.YtamofanfgdjmnaaWrmG
namespace Go.Proofs.Ytamofanfgdjmnaa.WrmH
set_option linter.unusedVariables false
open Go.ChangeShapes Go.WideShapes Go.ChangeAt Go.RowKit Base WrmP NumM NumC NumE NumA WrmA WrmB WrmC WrmD WrmE WrmF WrmG Wri

/-- the rate that filling would tell -/
def Wm.next (m : Wm) (t past : Nat) : Nat := rateN m.c m.G (m.tk t past)

theorem rate_next (m : Wm) (h : m.Ok) (t past : Nat) (w : World) :
    Calls Try.prog 41 #[.agg #[.int .i64 m.c, .int .i64 m.s], .int .i64 (m.tk t past : Nat)] w fun e w' => e = .returned (.int .i64 (Wm.next m t past : Nat)) ∧ Below w.heap.size w w' :=
  rate_any m.c m.s (m.tk t past) h.c1 h.c2 h.s1 (by have := h.g m; unfold Wm.G at this; omega) (tk_le m h t past) w

set_option maxRecDepth 20000 in
set_option maxHeartbeats 2000000 in
theorem rateBy_core (p : Nat) (c s tok sec last t past tk z r : Int) (bg : Bool) (w : World)
    (c0 : w.cell? ⟨p, 0, none⟩ = some (.int .i64 c)) (c1 : w.cell? ⟨p, 1, none⟩ = some (.int .i64 s)) (c2 : w.cell? ⟨p, 2, none⟩ = some (.int .i64 tok)) (c3 : w.cell? ⟨p, 3, none⟩ = some (.int .i64 sec)) (c4 : w.cell? ⟨p, 4, none⟩ = some (.bool bg))
    (HF : Hid (Ans 48 #[.agg #[.int .i64 tok, .int .i64 sec, .bool bg], .agg #[.int .i64 c, .int .i64 s], .int .i64 t, .int .i64 past] (.agg #[.int .i64 tk, .int .i64 z, .bool true])))
    (HR : Hid (Ans 41 #[.agg #[.int .i64 c, .int .i64 s], .int .i64 tk] (.int .i64 r))) :
    Calls Try.prog 42 #[ptr p, .int .i64 t, .int .i64 past] w fun e w' => e = .returned (.int .i64 r) ∧ Below w.heap.size w w' := by
  have kb : Below w.heap.size w w.drew := (Below.refl w.heap.size w).drew
  have hfd : ∀ w, Sem.run Try.prog (Instr.field 70 (.agg #[.int .i64 tk, .int .i64 z, .bool true]) 0) w = .ok (.int .i64 tk) w := fun w => by first | rfl | (go_simp; done) | (simp [Instr.field, go_sem]; done) | (trace_state; fail)
  go_enter Try.func42, Try.ntmps42
  go_wp2_with fail
  go_region_held3 (fun w' => w'.cell? ⟨p, 0, none⟩ = some (.int .i64 c) ∧ w'.cell? ⟨p, 1, none⟩ = some (.int .i64 s) ∧ w'.cell? ⟨p, 2, none⟩ = some (.int .i64 tok) ∧ w'.cell? ⟨p, 3, none⟩ = some (.int .i64 sec) ∧ w'.cell? ⟨p, 4, none⟩ = some (.bool bg)) (first | assumption | go_keep)
    (first
           | (go_at_call 48; refine (HF.out _).mono ?_; rintro e w3 ⟨rfl, hb3⟩
              have c0 : w3.cell? ⟨p, 0, none⟩ = some (.int .i64 c) := kc hb3 (by first | assumption | go_cell)
              have c1 : w3.cell? ⟨p, 1, none⟩ = some (.int .i64 s) := kc hb3 (by first | assumption | go_cell)
              have c2 : w3.cell? ⟨p, 2, none⟩ = some (.int .i64 tok) := kc hb3 (by first | assumption | go_cell)
              have c3 : w3.cell? ⟨p, 3, none⟩ = some (.int .i64 sec) := kc hb3 (by first | assumption | go_cell)
              have c4 : w3.cell? ⟨p, 4, none⟩ = some (.bool bg) := kc hb3 (by first | assumption | go_cell)
              have kb : Below w.heap.size w w3 := bl (by assumption) hb3)
           | (go_at_call 41; refine (HR.out _).mono ?_; rintro e w3 ⟨rfl, hb3⟩
              have c0 : w3.cell? ⟨p, 0, none⟩ = some (.int .i64 c) := kc hb3 (by first | assumption | go_cell)
              have c1 : w3.cell? ⟨p, 1, none⟩ = some (.int .i64 s) := kc hb3 (by first | assumption | go_cell)
              have c2 : w3.cell? ⟨p, 2, none⟩ = some (.int .i64 tok) := kc hb3 (by first | assumption | go_cell)
              have c3 : w3.cell? ⟨p, 3, none⟩ = some (.int .i64 sec) := kc hb3 (by first | assumption | go_cell)
              have c4 : w3.cell? ⟨p, 4, none⟩ = some (.bool bg) := kc hb3 (by first | assumption | go_cell)
              have kb : Below w.heap.size w w3 := bl (by assumption) hb3))
  all_goals
    go_wp2_with fail
    go_ret
    exact ⟨rfl, by assumption⟩

theorem rateBy_any (p : Nat) (m : Wm) (ho : m.Ok) (t past : Nat) (h1 : m.last ≤ t) (h2 : t ≤ 1152921504606846976) (hp : past ≤ 4611686018427387904) (w : World) (h : At w p m) :
    Calls Try.prog 42 #[ptr p, .int .i64 t, .int .i64 past] w fun e w' => e = .returned (.int .i64 (Wm.next m t past : Nat)) ∧ Below w.heap.size w w' := by
  obtain ⟨c0, c1, c2, c3, c4, c5, -⟩ := h.cells
  exact rateBy_core p m.c m.s m.tok m.sec m.last t past (m.tk t past : Nat) (secOf t : Nat) _ m.bg w c0 c1 c2 c3 c4 (hid fun w => filled_any m ho t past h1 h2 hp w) (hid fun w => rate_next m ho t past w)

set_option maxRecDepth 20000 in
set_option maxHeartbeats 2000000 in
theorem fill_core (p : Nat) (c s tok sec last t past tk z : Int) (bg : Bool) (w : World)
    (c0 : w.cell? ⟨p, 0, none⟩ = some (.int .i64 c)) (c1 : w.cell? ⟨p, 1, none⟩ = some (.int .i64 s)) (c2 : w.cell? ⟨p, 2, none⟩ = some (.int .i64 tok)) (c3 : w.cell? ⟨p, 3, none⟩ = some (.int .i64 sec)) (c4 : w.cell? ⟨p, 4, none⟩ = some (.bool bg)) (c5 : w.cell? ⟨p, 5, none⟩ = some (.int .i64 last)) (cf : ∀ o, w.frozen? ⟨p, o, none⟩ = false)
    (HF : Hid (Ans 48 #[.agg #[.int .i64 tok, .int .i64 sec, .bool bg], .agg #[.int .i64 c, .int .i64 s], .int .i64 t, .int .i64 past] (.agg #[.int .i64 tk, .int .i64 z, .bool true]))) :
    Calls Try.prog 40 #[ptr p, .int .i64 t, .int .i64 past] w fun e w' => e = .returned (.tuple #[]) ∧ ∃ w1, Below w.heap.size w w1 ∧ (((w1.setCell ⟨p, 2, none⟩ (.int .i64 tk)).setCell ⟨p, 3, none⟩ (.int .i64 z)).setCell ⟨p, 4, none⟩ (.bool true)).setCell ⟨p, 5, none⟩ (.int .i64 t) = w' := by
  have kb : Below w.heap.size w w.drew := (Below.refl w.heap.size w).drew
  have c3' : w.drew.cell? ⟨p, 3, none⟩ = some (.int .i64 sec) := c3
  have c4' : w.drew.cell? ⟨p, 4, none⟩ = some (.bool bg) := c4
  have c5' : w.drew.cell? ⟨p, 5, none⟩ = some (.int .i64 last) := c5
  go_enter Try.func40, Try.ntmps40
  go_wp2_with fail
  go_region_with (first
           | (go_at_call 48; refine (HF.out _).mono ?_; rintro e w3 ⟨rfl, hb3⟩
              have d2 : w3.cell? ⟨p, 2, none⟩ = some (.int .i64 tok) := kc hb3 (by first | assumption | go_cell)
              have d3 : w3.cell? ⟨p, 3, none⟩ = some (.int .i64 sec) := kc hb3 (by first | assumption | go_cell)
              have d4 : w3.cell? ⟨p, 4, none⟩ = some (.bool bg) := kc hb3 (by first | assumption | go_cell)
              have d5 : w3.cell? ⟨p, 5, none⟩ = some (.int .i64 last) := kc hb3 (by first | assumption | go_cell)
              have df : ∀ o, w3.frozen? ⟨p, o, none⟩ = false := fun o => (hb3.frozen (p := ⟨p, o, none⟩) (show p < _ from World.block_lt_of_cell? _ _ c2)).trans (cf o)
              have kb : Below w.heap.size w w3 := bl (by assumption) hb3))
  all_goals
    go_wp2_with fail
    go_end0
    exact ⟨rfl, _, by assumption, rfl⟩

end Go.Proofs.Ytamofanfgdjmnaa.WrmH
