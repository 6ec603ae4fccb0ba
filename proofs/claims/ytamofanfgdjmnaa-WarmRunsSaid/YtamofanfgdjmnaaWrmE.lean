/- How a pool is filled: the walk. -/
import Derived.Test.YtamofanfgdjmnaaWrmD
namespace Go.Proofs.Ytamofanfgdjmnaa.WrmE
set_option linter.unusedVariables false
open Go.ChangeShapes Go.WideShapes Go.ChangeAt Go.RowKit Base WrmP NumM NumC NumE NumA WrmA WrmB WrmC WrmD

theorem kf {w1 w2 : World} {p : Nat} {v : Value} (h2 : Below w1.heap.size w1 w2) (h : w1.cell? ⟨p, 0, none⟩ = some v) (hf : ∀ o, w1.frozen? ⟨p, o, none⟩ = false) (o : Nat) : w2.frozen? ⟨p, o, none⟩ = false :=
  (h2.frozen (p := ⟨p, o, none⟩) (show p < w1.heap.size from World.block_lt_of_cell? w1 ⟨p, 0, none⟩ h)).trans (hf o)

set_option maxRecDepth 20000 in
set_option maxHeartbeats 1000000 in
theorem filled_core (tok sec c s t past tm second g ck : Int) (r : Value) (bg : Bool) (w : World) (ht0 : 0 ≤ t) (m1 : t % 1000000 = tm) (m2 : Int.tmod t 1000000 = tm) (m3 : wrap64 tm = tm) (m4 : wrap64 (t - tm) = second)
    (HF : Hid (Fits tok ∧ Fits ck))
    (HC : Hid (Ans 56 #[.agg #[.int .i64 tok, .int .i64 sec, .bool bg], .agg #[.int .i64 c, .int .i64 s], .int .i64 second, .int .i64 past] (.int .i64 ck)))
    (HG : Hid (Ans 38 #[.agg #[.int .i64 c, .int .i64 s]] (.int .i64 g)))
    (HR : (bg = true ∧ (sec == second) = true ∧ r = .agg #[.int .i64 tok, .int .i64 sec, .bool bg]) ∨ ((bg = false ∨ (bg = true ∧ (sec == second) = false)) ∧ ∃ x y z, keep (keep tok + ck) = x ∧ wrap64 (min x g - past) = y ∧ max y 0 = z ∧ r = .agg #[.int .i64 z, .int .i64 second, .bool true])) :
    Calls Try.prog 48 #[.agg #[.int .i64 tok, .int .i64 sec, .bool bg], .agg #[.int .i64 c, .int .i64 s], .int .i64 t, .int .i64 past] w fun e w' => e = .returned r ∧ Below w.heap.size w w' := by
  have kb : Below w.heap.size w (((w.alloc (.cells #[.int .i64 tok, .int .i64 sec, .bool bg] 70)).alloc (.cells #[.int .i64 c, .int .i64 s] 68)).alloc (.cells #[.int .i64 0, .int .i64 0, .bool false] 70)) := ((((Below.refl w.heap.size w).alloc (Nat.le_refl _) _).alloc (by simp) _).alloc (by simp; omega) _)
  have p0 : (((w.alloc (.cells #[.int .i64 tok, .int .i64 sec, .bool bg] 70)).alloc (.cells #[.int .i64 c, .int .i64 s] 68)).alloc (.cells #[.int .i64 0, .int .i64 0, .bool false] 70)).cell? ⟨w.heap.size, 0, none⟩ = some (.int .i64 tok) := by go_cell
  have p1 : (((w.alloc (.cells #[.int .i64 tok, .int .i64 sec, .bool bg] 70)).alloc (.cells #[.int .i64 c, .int .i64 s] 68)).alloc (.cells #[.int .i64 0, .int .i64 0, .bool false] 70)).cell? ⟨w.heap.size, 1, none⟩ = some (.int .i64 sec) := by go_cell
  have p2 : (((w.alloc (.cells #[.int .i64 tok, .int .i64 sec, .bool bg] 70)).alloc (.cells #[.int .i64 c, .int .i64 s] 68)).alloc (.cells #[.int .i64 0, .int .i64 0, .bool false] 70)).cell? ⟨w.heap.size, 2, none⟩ = some (.bool bg) := by go_cell
  have r0 : (((w.alloc (.cells #[.int .i64 tok, .int .i64 sec, .bool bg] 70)).alloc (.cells #[.int .i64 c, .int .i64 s] 68)).alloc (.cells #[.int .i64 0, .int .i64 0, .bool false] 70)).cell? ⟨w.heap.size + 1, 0, none⟩ = some (.int .i64 c) := by go_cell
  have r1 : (((w.alloc (.cells #[.int .i64 tok, .int .i64 sec, .bool bg] 70)).alloc (.cells #[.int .i64 c, .int .i64 s] 68)).alloc (.cells #[.int .i64 0, .int .i64 0, .bool false] 70)).cell? ⟨w.heap.size + 1, 1, none⟩ = some (.int .i64 s) := by go_cell
  have z0 : (((w.alloc (.cells #[.int .i64 tok, .int .i64 sec, .bool bg] 70)).alloc (.cells #[.int .i64 c, .int .i64 s] 68)).alloc (.cells #[.int .i64 0, .int .i64 0, .bool false] 70)).cell? ⟨w.heap.size + 2, 0, none⟩ = some (.int .i64 0) := by go_cell
  have z1 : (((w.alloc (.cells #[.int .i64 tok, .int .i64 sec, .bool bg] 70)).alloc (.cells #[.int .i64 c, .int .i64 s] 68)).alloc (.cells #[.int .i64 0, .int .i64 0, .bool false] 70)).cell? ⟨w.heap.size + 2, 1, none⟩ = some (.int .i64 0) := by go_cell
  have z2 : (((w.alloc (.cells #[.int .i64 tok, .int .i64 sec, .bool bg] 70)).alloc (.cells #[.int .i64 c, .int .i64 s] 68)).alloc (.cells #[.int .i64 0, .int .i64 0, .bool false] 70)).cell? ⟨w.heap.size + 2, 2, none⟩ = some (.bool false) := by go_cell
  have zf : ∀ o, (((w.alloc (.cells #[.int .i64 tok, .int .i64 sec, .bool bg] 70)).alloc (.cells #[.int .i64 c, .int .i64 s] 68)).alloc (.cells #[.int .i64 0, .int .i64 0, .bool false] 70)).frozen? ⟨w.heap.size + 2, o, none⟩ = false := fun o => by go_cell
  have zs : w.heap.size + 3 ≤ (((w.alloc (.cells #[.int .i64 tok, .int .i64 sec, .bool bg] 70)).alloc (.cells #[.int .i64 c, .int .i64 s] 68)).alloc (.cells #[.int .i64 0, .int .i64 0, .bool false] 70)).heap.size := by simp
  have HRR := hid HR
  clear HR
  go_enter Try.func48, Try.ntmps48
  go_upto_region 1 with fail
  generalize (((w.alloc (.cells #[.int .i64 tok, .int .i64 sec, .bool bg] 70)).alloc (.cells #[.int .i64 c, .int .i64 s] 68)).alloc (.cells #[.int .i64 0, .int .i64 0, .bool false] 70)) = wz at *
  rcases HRR.out with ⟨rfl, h2, rfl⟩ | ⟨h1, x, y, z, e1, e2, e3, rfl⟩
  · go_wp2_with fail
    exact bodyPost_ret (v := .agg #[.int .i64 tok, .int .i64 sec, .bool true]) (by simp [results, Try.results48, go_sem, *]) rfl ⟨rfl, (by repeat (first | (with_reducible exact Below.refl _ _) | (with_reducible refine Below.setCell ?_ (by first | (simp; done) | (simp; omega) | omega) _) | (with_reducible refine Below.alloc ?_ (by first | (simp; done) | (simp; omega) | omega) _) | (with_reducible refine Below.drew ?_) | (with_reducible refine below_drewN ?_ _) | (with_reducible exact kb) | (with_reducible refine Below.trans ?_ (Below.mono kb (by first | (simp; done) | (simp; omega) | omega)))))⟩
  · rcases h1 with rfl | ⟨rfl, h1⟩
    · go_upto_region 4 with fail
      go_region_held3 (fun w' => w'.cell? ⟨w.heap.size, 0, none⟩ = some (.int .i64 tok) ∧ w'.cell? ⟨w.heap.size, 1, none⟩ = some (.int .i64 sec) ∧ w'.cell? ⟨w.heap.size, 2, none⟩ = some (.bool false) ∧ w'.cell? ⟨w.heap.size + 1, 0, none⟩ = some (.int .i64 c) ∧ w'.cell? ⟨w.heap.size + 1, 1, none⟩ = some (.int .i64 s)) (first | assumption | go_keep)
        (first
           | (go_at_call 56; refine (HC.out _).mono ?_; rintro e w3 ⟨rfl, hb3⟩
              have p0 : w3.cell? ⟨w.heap.size, 0, none⟩ = some (.int .i64 tok) := kc hb3 (by first | assumption | go_cell | exact kc ((Below.refl _ _).alloc (Nat.le_refl _) _) (by assumption))
              have p1 : w3.cell? ⟨w.heap.size, 1, none⟩ = some (.int .i64 sec) := kc hb3 (by first | assumption | go_cell | exact kc ((Below.refl _ _).alloc (Nat.le_refl _) _) (by assumption))
              have p2 : w3.cell? ⟨w.heap.size, 2, none⟩ = some (.bool false) := kc hb3 (by first | assumption | go_cell | exact kc ((Below.refl _ _).alloc (Nat.le_refl _) _) (by assumption))
              have r0 : w3.cell? ⟨w.heap.size + 1, 0, none⟩ = some (.int .i64 c) := kc hb3 (by first | assumption | go_cell | exact kc ((Below.refl _ _).alloc (Nat.le_refl _) _) (by assumption))
              have r1 : w3.cell? ⟨w.heap.size + 1, 1, none⟩ = some (.int .i64 s) := kc hb3 (by first | assumption | go_cell | exact kc ((Below.refl _ _).alloc (Nat.le_refl _) _) (by assumption))
              have z0 : w3.cell? ⟨w.heap.size + 2, 0, none⟩ = some (.int .i64 0) := kc hb3 (by first | assumption | go_cell | exact kc ((Below.refl _ _).alloc (Nat.le_refl _) _) (by assumption))
              have z1 : w3.cell? ⟨w.heap.size + 2, 1, none⟩ = some (.int .i64 0) := kc hb3 (by first | assumption | go_cell | exact kc ((Below.refl _ _).alloc (Nat.le_refl _) _) (by assumption))
              have z2 : w3.cell? ⟨w.heap.size + 2, 2, none⟩ = some (.bool false) := kc hb3 (by first | assumption | go_cell | exact kc ((Below.refl _ _).alloc (Nat.le_refl _) _) (by assumption))
              have zf : ∀ o, w3.frozen? ⟨w.heap.size + 2, o, none⟩ = false := kf (v := .int .i64 0) hb3 (by first | assumption | go_cell | exact kc ((Below.refl _ _).alloc (Nat.le_refl _) _) (by assumption)) (by first | assumption | exact zf | (intro o; go_cell; done) | exact kf (v := .int .i64 0) ((Below.refl _ _).alloc (Nat.le_refl _) _) (by assumption) (by assumption))
              have kb : Below w.heap.size w w3 := bl (by first | assumption | exact Below.drew (by assumption) | exact Below.alloc (by assumption) (Below.size (w := w) (by assumption)) _) hb3)
           | (go_at_call 38; refine (HG.out _).mono ?_; rintro e w3 ⟨rfl, hb3⟩
              have p0 : w3.cell? ⟨w.heap.size, 0, none⟩ = some (.int .i64 tok) := kc hb3 (by first | assumption | go_cell | exact kc ((Below.refl _ _).alloc (Nat.le_refl _) _) (by assumption))
              have p1 : w3.cell? ⟨w.heap.size, 1, none⟩ = some (.int .i64 sec) := kc hb3 (by first | assumption | go_cell | exact kc ((Below.refl _ _).alloc (Nat.le_refl _) _) (by assumption))
              have p2 : w3.cell? ⟨w.heap.size, 2, none⟩ = some (.bool false) := kc hb3 (by first | assumption | go_cell | exact kc ((Below.refl _ _).alloc (Nat.le_refl _) _) (by assumption))
              have r0 : w3.cell? ⟨w.heap.size + 1, 0, none⟩ = some (.int .i64 c) := kc hb3 (by first | assumption | go_cell | exact kc ((Below.refl _ _).alloc (Nat.le_refl _) _) (by assumption))
              have r1 : w3.cell? ⟨w.heap.size + 1, 1, none⟩ = some (.int .i64 s) := kc hb3 (by first | assumption | go_cell | exact kc ((Below.refl _ _).alloc (Nat.le_refl _) _) (by assumption))
              have z0 : w3.cell? ⟨w.heap.size + 2, 0, none⟩ = some (.int .i64 0) := kc hb3 (by first | assumption | go_cell | exact kc ((Below.refl _ _).alloc (Nat.le_refl _) _) (by assumption))
              have z1 : w3.cell? ⟨w.heap.size + 2, 1, none⟩ = some (.int .i64 0) := kc hb3 (by first | assumption | go_cell | exact kc ((Below.refl _ _).alloc (Nat.le_refl _) _) (by assumption))
              have z2 : w3.cell? ⟨w.heap.size + 2, 2, none⟩ = some (.bool false) := kc hb3 (by first | assumption | go_cell | exact kc ((Below.refl _ _).alloc (Nat.le_refl _) _) (by assumption))
              have zf : ∀ o, w3.frozen? ⟨w.heap.size + 2, o, none⟩ = false := kf (v := .int .i64 0) hb3 (by first | assumption | go_cell | exact kc ((Below.refl _ _).alloc (Nat.le_refl _) _) (by assumption)) (by first | assumption | exact zf | (intro o; go_cell; done) | exact kf (v := .int .i64 0) ((Below.refl _ _).alloc (Nat.le_refl _) _) (by assumption) (by assumption))
              have kb : Below w.heap.size w w3 := bl (by first | assumption | exact Below.drew (by assumption) | exact Below.alloc (by assumption) (Below.size (w := w) (by assumption)) _) hb3)
           | (go_at_call 55; refine (plus_two tok ck HF.out.1 HF.out.2 _ _ (by first | assumption | go_cell | exact kc hb3 (by go_cell)) (by first | assumption | go_cell | exact kc hb3 (by go_cell))).mono ?_; rintro e w3 ⟨rfl, hb3⟩
              have p0 : w3.cell? ⟨w.heap.size, 0, none⟩ = some (.int .i64 tok) := kc hb3 (by first | assumption | go_cell | exact kc ((Below.refl _ _).alloc (Nat.le_refl _) _) (by assumption))
              have p1 : w3.cell? ⟨w.heap.size, 1, none⟩ = some (.int .i64 sec) := kc hb3 (by first | assumption | go_cell | exact kc ((Below.refl _ _).alloc (Nat.le_refl _) _) (by assumption))
              have p2 : w3.cell? ⟨w.heap.size, 2, none⟩ = some (.bool false) := kc hb3 (by first | assumption | go_cell | exact kc ((Below.refl _ _).alloc (Nat.le_refl _) _) (by assumption))
              have r0 : w3.cell? ⟨w.heap.size + 1, 0, none⟩ = some (.int .i64 c) := kc hb3 (by first | assumption | go_cell | exact kc ((Below.refl _ _).alloc (Nat.le_refl _) _) (by assumption))
              have r1 : w3.cell? ⟨w.heap.size + 1, 1, none⟩ = some (.int .i64 s) := kc hb3 (by first | assumption | go_cell | exact kc ((Below.refl _ _).alloc (Nat.le_refl _) _) (by assumption))
              have z0 : w3.cell? ⟨w.heap.size + 2, 0, none⟩ = some (.int .i64 0) := kc hb3 (by first | assumption | go_cell | exact kc ((Below.refl _ _).alloc (Nat.le_refl _) _) (by assumption))
              have z1 : w3.cell? ⟨w.heap.size + 2, 1, none⟩ = some (.int .i64 0) := kc hb3 (by first | assumption | go_cell | exact kc ((Below.refl _ _).alloc (Nat.le_refl _) _) (by assumption))
              have z2 : w3.cell? ⟨w.heap.size + 2, 2, none⟩ = some (.bool false) := kc hb3 (by first | assumption | go_cell | exact kc ((Below.refl _ _).alloc (Nat.le_refl _) _) (by assumption))
              have zf : ∀ o, w3.frozen? ⟨w.heap.size + 2, o, none⟩ = false := kf (v := .int .i64 0) hb3 (by first | assumption | go_cell | exact kc ((Below.refl _ _).alloc (Nat.le_refl _) _) (by assumption)) (by first | assumption | exact zf | (intro o; go_cell; done) | exact kf (v := .int .i64 0) ((Below.refl _ _).alloc (Nat.le_refl _) _) (by assumption) (by assumption))
              have kb : Below w.heap.size w w3 := bl (by first | assumption | exact Below.drew (by assumption) | exact Below.alloc (by assumption) (Below.size (w := w) (by assumption)) _) hb3))
      all_goals
        have KB := hid kb
        clear kb HC HG HF e1
        go_wp2_with fail
        exact bodyPost_ret (v := .agg #[.int .i64 z, .int .i64 second, .bool true]) (by simp [results, Try.results48, go_sem, *]) rfl ⟨rfl, (by repeat (first | (with_reducible exact Below.refl _ _) | (with_reducible refine Below.setCell ?_ (by first | (simp; done) | (simp; omega) | omega) _) | (with_reducible refine Below.alloc ?_ (by first | (simp; done) | (simp; omega) | omega) _) | (with_reducible refine Below.drew ?_) | (with_reducible refine below_drewN ?_ _) | (with_reducible exact KB.out) | (with_reducible refine Below.trans ?_ (Below.mono KB.out (by first | (simp; done) | (simp; omega) | omega)))))⟩
    · go_upto_region 4 with fail
      go_region_held3 (fun w' => w'.cell? ⟨w.heap.size, 0, none⟩ = some (.int .i64 tok) ∧ w'.cell? ⟨w.heap.size, 1, none⟩ = some (.int .i64 sec) ∧ w'.cell? ⟨w.heap.size, 2, none⟩ = some (.bool true) ∧ w'.cell? ⟨w.heap.size + 1, 0, none⟩ = some (.int .i64 c) ∧ w'.cell? ⟨w.heap.size + 1, 1, none⟩ = some (.int .i64 s)) (first | assumption | go_keep)
        (first
           | (go_at_call 56; refine (HC.out _).mono ?_; rintro e w3 ⟨rfl, hb3⟩
              have p0 : w3.cell? ⟨w.heap.size, 0, none⟩ = some (.int .i64 tok) := kc hb3 (by first | assumption | go_cell | exact kc ((Below.refl _ _).alloc (Nat.le_refl _) _) (by assumption))
              have p1 : w3.cell? ⟨w.heap.size, 1, none⟩ = some (.int .i64 sec) := kc hb3 (by first | assumption | go_cell | exact kc ((Below.refl _ _).alloc (Nat.le_refl _) _) (by assumption))
              have p2 : w3.cell? ⟨w.heap.size, 2, none⟩ = some (.bool true) := kc hb3 (by first | assumption | go_cell | exact kc ((Below.refl _ _).alloc (Nat.le_refl _) _) (by assumption))
              have r0 : w3.cell? ⟨w.heap.size + 1, 0, none⟩ = some (.int .i64 c) := kc hb3 (by first | assumption | go_cell | exact kc ((Below.refl _ _).alloc (Nat.le_refl _) _) (by assumption))
              have r1 : w3.cell? ⟨w.heap.size + 1, 1, none⟩ = some (.int .i64 s) := kc hb3 (by first | assumption | go_cell | exact kc ((Below.refl _ _).alloc (Nat.le_refl _) _) (by assumption))
              have z0 : w3.cell? ⟨w.heap.size + 2, 0, none⟩ = some (.int .i64 0) := kc hb3 (by first | assumption | go_cell | exact kc ((Below.refl _ _).alloc (Nat.le_refl _) _) (by assumption))
              have z1 : w3.cell? ⟨w.heap.size + 2, 1, none⟩ = some (.int .i64 0) := kc hb3 (by first | assumption | go_cell | exact kc ((Below.refl _ _).alloc (Nat.le_refl _) _) (by assumption))
              have z2 : w3.cell? ⟨w.heap.size + 2, 2, none⟩ = some (.bool false) := kc hb3 (by first | assumption | go_cell | exact kc ((Below.refl _ _).alloc (Nat.le_refl _) _) (by assumption))
              have zf : ∀ o, w3.frozen? ⟨w.heap.size + 2, o, none⟩ = false := kf (v := .int .i64 0) hb3 (by first | assumption | go_cell | exact kc ((Below.refl _ _).alloc (Nat.le_refl _) _) (by assumption)) (by first | assumption | exact zf | (intro o; go_cell; done) | exact kf (v := .int .i64 0) ((Below.refl _ _).alloc (Nat.le_refl _) _) (by assumption) (by assumption))
              have kb : Below w.heap.size w w3 := bl (by first | assumption | exact Below.drew (by assumption) | exact Below.alloc (by assumption) (Below.size (w := w) (by assumption)) _) hb3)
           | (go_at_call 38; refine (HG.out _).mono ?_; rintro e w3 ⟨rfl, hb3⟩
              have p0 : w3.cell? ⟨w.heap.size, 0, none⟩ = some (.int .i64 tok) := kc hb3 (by first | assumption | go_cell | exact kc ((Below.refl _ _).alloc (Nat.le_refl _) _) (by assumption))
              have p1 : w3.cell? ⟨w.heap.size, 1, none⟩ = some (.int .i64 sec) := kc hb3 (by first | assumption | go_cell | exact kc ((Below.refl _ _).alloc (Nat.le_refl _) _) (by assumption))
              have p2 : w3.cell? ⟨w.heap.size, 2, none⟩ = some (.bool true) := kc hb3 (by first | assumption | go_cell | exact kc ((Below.refl _ _).alloc (Nat.le_refl _) _) (by assumption))
              have r0 : w3.cell? ⟨w.heap.size + 1, 0, none⟩ = some (.int .i64 c) := kc hb3 (by first | assumption | go_cell | exact kc ((Below.refl _ _).alloc (Nat.le_refl _) _) (by assumption))
              have r1 : w3.cell? ⟨w.heap.size + 1, 1, none⟩ = some (.int .i64 s) := kc hb3 (by first | assumption | go_cell | exact kc ((Below.refl _ _).alloc (Nat.le_refl _) _) (by assumption))
              have z0 : w3.cell? ⟨w.heap.size + 2, 0, none⟩ = some (.int .i64 0) := kc hb3 (by first | assumption | go_cell | exact kc ((Below.refl _ _).alloc (Nat.le_refl _) _) (by assumption))
              have z1 : w3.cell? ⟨w.heap.size + 2, 1, none⟩ = some (.int .i64 0) := kc hb3 (by first | assumption | go_cell | exact kc ((Below.refl _ _).alloc (Nat.le_refl _) _) (by assumption))
              have z2 : w3.cell? ⟨w.heap.size + 2, 2, none⟩ = some (.bool false) := kc hb3 (by first | assumption | go_cell | exact kc ((Below.refl _ _).alloc (Nat.le_refl _) _) (by assumption))
              have zf : ∀ o, w3.frozen? ⟨w.heap.size + 2, o, none⟩ = false := kf (v := .int .i64 0) hb3 (by first | assumption | go_cell | exact kc ((Below.refl _ _).alloc (Nat.le_refl _) _) (by assumption)) (by first | assumption | exact zf | (intro o; go_cell; done) | exact kf (v := .int .i64 0) ((Below.refl _ _).alloc (Nat.le_refl _) _) (by assumption) (by assumption))
              have kb : Below w.heap.size w w3 := bl (by first | assumption | exact Below.drew (by assumption) | exact Below.alloc (by assumption) (Below.size (w := w) (by assumption)) _) hb3)
           | (go_at_call 55; refine (plus_two tok ck HF.out.1 HF.out.2 _ _ (by first | assumption | go_cell | exact kc hb3 (by go_cell)) (by first | assumption | go_cell | exact kc hb3 (by go_cell))).mono ?_; rintro e w3 ⟨rfl, hb3⟩
              have p0 : w3.cell? ⟨w.heap.size, 0, none⟩ = some (.int .i64 tok) := kc hb3 (by first | assumption | go_cell | exact kc ((Below.refl _ _).alloc (Nat.le_refl _) _) (by assumption))
              have p1 : w3.cell? ⟨w.heap.size, 1, none⟩ = some (.int .i64 sec) := kc hb3 (by first | assumption | go_cell | exact kc ((Below.refl _ _).alloc (Nat.le_refl _) _) (by assumption))
              have p2 : w3.cell? ⟨w.heap.size, 2, none⟩ = some (.bool true) := kc hb3 (by first | assumption | go_cell | exact kc ((Below.refl _ _).alloc (Nat.le_refl _) _) (by assumption))
              have r0 : w3.cell? ⟨w.heap.size + 1, 0, none⟩ = some (.int .i64 c) := kc hb3 (by first | assumption | go_cell | exact kc ((Below.refl _ _).alloc (Nat.le_refl _) _) (by assumption))
              have r1 : w3.cell? ⟨w.heap.size + 1, 1, none⟩ = some (.int .i64 s) := kc hb3 (by first | assumption | go_cell | exact kc ((Below.refl _ _).alloc (Nat.le_refl _) _) (by assumption))
              have z0 : w3.cell? ⟨w.heap.size + 2, 0, none⟩ = some (.int .i64 0) := kc hb3 (by first | assumption | go_cell | exact kc ((Below.refl _ _).alloc (Nat.le_refl _) _) (by assumption))
              have z1 : w3.cell? ⟨w.heap.size + 2, 1, none⟩ = some (.int .i64 0) := kc hb3 (by first | assumption | go_cell | exact kc ((Below.refl _ _).alloc (Nat.le_refl _) _) (by assumption))
              have z2 : w3.cell? ⟨w.heap.size + 2, 2, none⟩ = some (.bool false) := kc hb3 (by first | assumption | go_cell | exact kc ((Below.refl _ _).alloc (Nat.le_refl _) _) (by assumption))
              have zf : ∀ o, w3.frozen? ⟨w.heap.size + 2, o, none⟩ = false := kf (v := .int .i64 0) hb3 (by first | assumption | go_cell | exact kc ((Below.refl _ _).alloc (Nat.le_refl _) _) (by assumption)) (by first | assumption | exact zf | (intro o; go_cell; done) | exact kf (v := .int .i64 0) ((Below.refl _ _).alloc (Nat.le_refl _) _) (by assumption) (by assumption))
              have kb : Below w.heap.size w w3 := bl (by first | assumption | exact Below.drew (by assumption) | exact Below.alloc (by assumption) (Below.size (w := w) (by assumption)) _) hb3))
      all_goals
        have KB := hid kb
        clear kb HC HG HF e1
        go_wp2_with fail
        exact bodyPost_ret (v := .agg #[.int .i64 z, .int .i64 second, .bool true]) (by simp [results, Try.results48, go_sem, *]) rfl ⟨rfl, (by repeat (first | (with_reducible exact Below.refl _ _) | (with_reducible refine Below.setCell ?_ (by first | (simp; done) | (simp; omega) | omega) _) | (with_reducible refine Below.alloc ?_ (by first | (simp; done) | (simp; omega) | omega) _) | (with_reducible refine Below.drew ?_) | (with_reducible refine below_drewN ?_ _) | (with_reducible exact KB.out) | (with_reducible refine Below.trans ?_ (Below.mono KB.out (by first | (simp; done) | (simp; omega) | omega)))))⟩

end Go.Proofs.Ytamofanfgdjmnaa.WrmE
