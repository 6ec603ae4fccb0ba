/- A pool: what comes, and how it is filled. -/
import Derived.Test.YtamofanfgdjmnaaWrmB
namespace Go.Proofs.Ytamofanfgdjmnaa.WrmC
set_option linter.unusedVariables false
open Go.ChangeShapes Go.WideShapes Go.ChangeAt Go.RowKit Base WrmP NumM NumC NumE NumA WrmA WrmB

set_option maxRecDepth 20000 in
set_option maxHeartbeats 1000000 in
theorem coming_core (tok sec c s v g th second past r : Int) (bg : Bool) (w : World)
    (HW : Hid (Ans 37 #[.agg #[.int .i64 c, .int .i64 s]] (.int .i64 v)))
    (HG : Hid (Ans 38 #[.agg #[.int .i64 c, .int .i64 s]] (.int .i64 g)))
    (HT : Hid (∀ w, Calls Try.prog 35 #[.int .i64 c] w fun e w' => e = .returned (.int .i64 th) ∧ w = w'))
    (HR : (bg = false ∧ r = g) ∨ (bg = true ∧ ∃ b1 b2 : Bool, decide (tok < v) = b1 ∧ decide (past < th) = b2 ∧ ((b1 = false ∧ b2 = false ∧ r = 0) ∨ ((b1 = true ∨ b2 = true) ∧ ∃ d q, wrap64 (second - sec) = d ∧ 0 ≤ d ∧ d / 1000000 = q ∧ Int.tdiv d 1000000 = q ∧ wrap64 q = q ∧
      Hid (Ans 64 #[.int .i64 c, .int .i64 q] (.int .i64 r)))))) :
    Calls Try.prog 56 #[.agg #[.int .i64 tok, .int .i64 sec, .bool bg], .agg #[.int .i64 c, .int .i64 s], .int .i64 second, .int .i64 past] w fun e w' => e = .returned (.int .i64 r) ∧ Below w.heap.size w w' := by
  have kb : Below w.heap.size w ((w.alloc (.cells #[.int .i64 tok, .int .i64 sec, .bool bg] 70)).alloc (.cells #[.int .i64 c, .int .i64 s] 68)) := ((Below.refl w.heap.size w).alloc (Nat.le_refl _) _).alloc (by simp) _
  have p0 : ((w.alloc (.cells #[.int .i64 tok, .int .i64 sec, .bool bg] 70)).alloc (.cells #[.int .i64 c, .int .i64 s] 68)).cell? ⟨w.heap.size, 0, none⟩ = some (.int .i64 tok) := by go_cell
  have p1 : ((w.alloc (.cells #[.int .i64 tok, .int .i64 sec, .bool bg] 70)).alloc (.cells #[.int .i64 c, .int .i64 s] 68)).cell? ⟨w.heap.size, 1, none⟩ = some (.int .i64 sec) := by go_cell
  have p2 : ((w.alloc (.cells #[.int .i64 tok, .int .i64 sec, .bool bg] 70)).alloc (.cells #[.int .i64 c, .int .i64 s] 68)).cell? ⟨w.heap.size, 2, none⟩ = some (.bool bg) := by go_cell
  have r0 : ((w.alloc (.cells #[.int .i64 tok, .int .i64 sec, .bool bg] 70)).alloc (.cells #[.int .i64 c, .int .i64 s] 68)).cell? ⟨w.heap.size + 1, 0, none⟩ = some (.int .i64 c) := by go_cell
  have r1 : ((w.alloc (.cells #[.int .i64 tok, .int .i64 sec, .bool bg] 70)).alloc (.cells #[.int .i64 c, .int .i64 s] 68)).cell? ⟨w.heap.size + 1, 1, none⟩ = some (.int .i64 s) := by go_cell
  have HRR := hid HR
  clear HR
  go_enter Try.func56, Try.ntmps56
  go_upto_region 1 with fail
  generalize ((w.alloc (.cells #[.int .i64 tok, .int .i64 sec, .bool bg] 70)).alloc (.cells #[.int .i64 c, .int .i64 s] 68)) = wz at *
  rcases HRR.out with ⟨rfl, rfl⟩ | ⟨rfl, b1, b2, h1, h2, hr⟩
  · go_wp2_with fail
    refine (HG.out _).mono ?_
    rintro e w3 ⟨rfl, hb3⟩
    have KB := hid (bl kb hb3)
    clear hb3
    go_wp2_with fail
    go_ret
    exact ⟨rfl, KB.out⟩
  · have HR2 := hid hr
    clear hr HRR HG
    cases b1 with
    | true =>
      go_upto_region 3 with fail
      first
        | (go_region_with
            (first
               | (go_at_call 37; refine (HW.out _).mono ?_; rintro e w3 ⟨rfl, hb3⟩
                  have p0 : w3.cell? ⟨w.heap.size, 0, none⟩ = some (.int .i64 tok) := kc hb3 (by first | assumption | go_cell)
                  have p1 : w3.cell? ⟨w.heap.size, 1, none⟩ = some (.int .i64 sec) := kc hb3 (by first | assumption | go_cell)
                  have r0 : w3.cell? ⟨w.heap.size + 1, 0, none⟩ = some (.int .i64 c) := kc hb3 (by first | assumption | go_cell)
                  have r1 : w3.cell? ⟨w.heap.size + 1, 1, none⟩ = some (.int .i64 s) := kc hb3 (by first | assumption | go_cell)
                  have kb : Below w.heap.size w w3 := bl (by first | assumption | exact (Below.drew (by assumption))) hb3)))
        | fail
      all_goals
        have KB := hid kb
        clear kb HW
        rcases HR2.out with ⟨h3, _, _⟩ | ⟨_, d, q, e1, e2, e3, e4, e5, HM⟩
        · cases h3
        go_wp2_with fail
        go_at_call 64
        refine (HM.out _).mono ?_
        rintro e w4 ⟨rfl, hb4⟩
        have KB2 : Hid (Below w.heap.size w w4) := hid (bl KB.out hb4)
        clear hb4 KB e1 e2 e3 e4 e5
        go_wp2_with fail
        go_ret
        exact ⟨rfl, KB2.out⟩
    | false =>
      go_upto_region 3 with fail
      cases b2
      all_goals
        go_region_held3 (fun w' => w'.cell? ⟨w.heap.size, 0, none⟩ = some (.int .i64 tok) ∧ w'.cell? ⟨w.heap.size, 1, none⟩ = some (.int .i64 sec) ∧ w'.cell? ⟨w.heap.size + 1, 0, none⟩ = some (.int .i64 c) ∧ w'.cell? ⟨w.heap.size + 1, 1, none⟩ = some (.int .i64 s)) (first | assumption | go_keep)
            (first
               | (go_at_call 37; refine (HW.out _).mono ?_; rintro e w3 ⟨rfl, hb3⟩
                  have p0 : w3.cell? ⟨w.heap.size, 0, none⟩ = some (.int .i64 tok) := kc hb3 (by first | assumption | go_cell)
                  have p1 : w3.cell? ⟨w.heap.size, 1, none⟩ = some (.int .i64 sec) := kc hb3 (by first | assumption | go_cell)
                  have r0 : w3.cell? ⟨w.heap.size + 1, 0, none⟩ = some (.int .i64 c) := kc hb3 (by first | assumption | go_cell)
                  have r1 : w3.cell? ⟨w.heap.size + 1, 1, none⟩ = some (.int .i64 s) := kc hb3 (by first | assumption | go_cell)
                  have kb : Below w.heap.size w w3 := bl (by first | assumption | exact (Below.drew (by assumption))) hb3)
               | (go_at_call 35; refine (HT.out _).mono ?_; rintro e w5 ⟨rfl, rfl⟩))
      all_goals
        have KB := hid kb
        clear kb HW HT
      · all_goals
          rcases HR2.out with ⟨_, _, rfl⟩ | ⟨h3, _⟩
          · go_wp2_with fail
            go_ret
            exact ⟨rfl, KB.out⟩
          · rcases h3 with h3 | h3 <;> cases h3
      · all_goals
          rcases HR2.out with ⟨_, h3, _⟩ | ⟨_, d, q, e1, e2, e3, e4, e5, HM⟩
          · cases h3
          go_wp2_with fail
          go_at_call 64
          refine (HM.out _).mono ?_
          rintro e w4 ⟨rfl, hb4⟩
          have KB2 : Hid (Below w.heap.size w w4) := hid (bl KB.out hb4)
          clear hb4 KB e1 e2 e3 e4 e5
          go_wp2_with fail
          go_ret
          exact ⟨rfl, KB2.out⟩

end Go.Proofs.Ytamofanfgdjmnaa.WrmC
