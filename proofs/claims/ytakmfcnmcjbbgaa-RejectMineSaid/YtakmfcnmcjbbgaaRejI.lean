/- RejectPasses. -/
import Derived.Test.YtakmfcnmcjbbgaaRejH
import Derived.Deep.RegionHeld3
namespace Go.Proofs.Ytakmfcnmcjbbgaa.RejI
set_option linter.unusedVariables false
open Go.ChangeShapes Go.WideShapes Go.ChangeAt Go.RowKit Base RejA RejB RejD RejE RejF RejG RejH Pas Txt NumM NumA

theorem bl {w w1 w2 : World} (h : Below w.heap.size w w1) (h2 : Below w1.heap.size w1 w2) : Below w.heap.size w w2 := h.trans (h2.mono h.size)
theorem kc {w1 w2 : World} {p o : Nat} {v : Value} (h2 : Below w1.heap.size w1 w2) (h : w1.cell? ⟨p, o, none⟩ = some v) : w2.cell? ⟨p, o, none⟩ = some v :=
  (h2.cell (p := ⟨p, o, none⟩) (World.block_lt_of_cell? _ _ h)).trans h

set_option maxRecDepth 20000 in
set_option maxHeartbeats 4000000 in
theorem passes_core (res org : ByteArray) (thr : Bool) (cnt strat : Int) (ref : ByteArray) (shape warm queue : Int) (clus : Bool) (id_ : Int) (fall : Bool) (xp xf xc : Int) (hp : Fits xp) (hc : Fits xc) (w : World) :
    Calls Try.prog 4 #[.agg #[.string res, .string org, .bool thr, .int .i64 cnt, .int .u8 strat, .string ref, .int .u8 shape, .int .i64 warm, .int .i64 queue, .bool clus, .int .i64 id_, .bool fall], .agg #[.int .i64 xp, .int .i64 xf, .int .i64 xc]] w fun e w' => e = .returned (.bool true) ∧ Below w.heap.size w w' := by
  have HP := hid (fun w => Passes_any res org thr cnt strat ref shape warm queue clus id_ fall xp xf xc hp hc w)
  have HQ := hid (fun w => RPasses_any res org thr cnt strat ref shape warm queue clus id_ fall xp xf xc hp hc w)
  generalize passF thr cnt xp xf xc = b at *
  have hbb : (b == b) = true := by simp
  have kb : Below w.heap.size w ((w.alloc (.cells #[.string res, .string org, .bool thr, .int .i64 cnt, .int .u8 strat, .string ref, .int .u8 shape, .int .i64 warm, .int .i64 queue, .bool clus, .int .i64 id_, .bool fall] 25)).alloc (.cells #[.int .i64 xp, .int .i64 xf, .int .i64 xc] 37)).drew := (((Below.refl w.heap.size w).alloc (Nat.le_refl _) _).alloc (by simp) _).drew
  clear hp hc
  go_enter Try.func4, Try.ntmps4
  go_wp2_with fail
  go_region_held3 (fun w' => w'.cell? ⟨w.heap.size, 0, none⟩ = some (.string res) ∧ w'.cell? ⟨w.heap.size, 1, none⟩ = some (.string org) ∧ w'.cell? ⟨w.heap.size, 2, none⟩ = some (.bool thr) ∧ w'.cell? ⟨w.heap.size, 3, none⟩ = some (.int .i64 cnt) ∧ w'.cell? ⟨w.heap.size, 4, none⟩ = some (.int .u8 strat) ∧ w'.cell? ⟨w.heap.size, 5, none⟩ = some (.string ref) ∧ w'.cell? ⟨w.heap.size, 6, none⟩ = some (.int .u8 shape) ∧ w'.cell? ⟨w.heap.size, 7, none⟩ = some (.int .i64 warm) ∧ w'.cell? ⟨w.heap.size, 8, none⟩ = some (.int .i64 queue) ∧ w'.cell? ⟨w.heap.size, 9, none⟩ = some (.bool clus) ∧ w'.cell? ⟨w.heap.size, 10, none⟩ = some (.int .i64 id_) ∧ w'.cell? ⟨w.heap.size, 11, none⟩ = some (.bool fall) ∧ w'.cell? ⟨w.heap.size + 1, 0, none⟩ = some (.int .i64 xp) ∧ w'.cell? ⟨w.heap.size + 1, 1, none⟩ = some (.int .i64 xf) ∧ w'.cell? ⟨w.heap.size + 1, 2, none⟩ = some (.int .i64 xc)) (first | assumption | go_keep)
    (first
           | (go_at_call 10; refine (live_any _).mono ?_; rintro e w3 ⟨rfl, hb3⟩
              have p0 : w3.cell? ⟨w.heap.size, 0, none⟩ = some (.string res) := kc hb3 (by first | assumption | go_cell)
              have p1 : w3.cell? ⟨w.heap.size, 1, none⟩ = some (.string org) := kc hb3 (by first | assumption | go_cell)
              have p2 : w3.cell? ⟨w.heap.size, 2, none⟩ = some (.bool thr) := kc hb3 (by first | assumption | go_cell)
              have p3 : w3.cell? ⟨w.heap.size, 3, none⟩ = some (.int .i64 cnt) := kc hb3 (by first | assumption | go_cell)
              have p4 : w3.cell? ⟨w.heap.size, 4, none⟩ = some (.int .u8 strat) := kc hb3 (by first | assumption | go_cell)
              have p5 : w3.cell? ⟨w.heap.size, 5, none⟩ = some (.string ref) := kc hb3 (by first | assumption | go_cell)
              have p6 : w3.cell? ⟨w.heap.size, 6, none⟩ = some (.int .u8 shape) := kc hb3 (by first | assumption | go_cell)
              have p7 : w3.cell? ⟨w.heap.size, 7, none⟩ = some (.int .i64 warm) := kc hb3 (by first | assumption | go_cell)
              have p8 : w3.cell? ⟨w.heap.size, 8, none⟩ = some (.int .i64 queue) := kc hb3 (by first | assumption | go_cell)
              have p9 : w3.cell? ⟨w.heap.size, 9, none⟩ = some (.bool clus) := kc hb3 (by first | assumption | go_cell)
              have p10 : w3.cell? ⟨w.heap.size, 10, none⟩ = some (.int .i64 id_) := kc hb3 (by first | assumption | go_cell)
              have p11 : w3.cell? ⟨w.heap.size, 11, none⟩ = some (.bool fall) := kc hb3 (by first | assumption | go_cell)
              have q0 : w3.cell? ⟨w.heap.size + 1, 0, none⟩ = some (.int .i64 xp) := kc hb3 (by first | assumption | go_cell)
              have q1 : w3.cell? ⟨w.heap.size + 1, 1, none⟩ = some (.int .i64 xf) := kc hb3 (by first | assumption | go_cell)
              have q2 : w3.cell? ⟨w.heap.size + 1, 2, none⟩ = some (.int .i64 xc) := kc hb3 (by first | assumption | go_cell)
              have kb : Below w.heap.size w w3 := bl (by first | assumption | exact (Below.drew (by assumption))) hb3)
           | (go_at_call 11; refine (HP.out _).mono ?_; rintro e w3 ⟨rfl, hb3⟩
              have p0 : w3.cell? ⟨w.heap.size, 0, none⟩ = some (.string res) := kc hb3 (by first | assumption | go_cell)
              have p1 : w3.cell? ⟨w.heap.size, 1, none⟩ = some (.string org) := kc hb3 (by first | assumption | go_cell)
              have p2 : w3.cell? ⟨w.heap.size, 2, none⟩ = some (.bool thr) := kc hb3 (by first | assumption | go_cell)
              have p3 : w3.cell? ⟨w.heap.size, 3, none⟩ = some (.int .i64 cnt) := kc hb3 (by first | assumption | go_cell)
              have p4 : w3.cell? ⟨w.heap.size, 4, none⟩ = some (.int .u8 strat) := kc hb3 (by first | assumption | go_cell)
              have p5 : w3.cell? ⟨w.heap.size, 5, none⟩ = some (.string ref) := kc hb3 (by first | assumption | go_cell)
              have p6 : w3.cell? ⟨w.heap.size, 6, none⟩ = some (.int .u8 shape) := kc hb3 (by first | assumption | go_cell)
              have p7 : w3.cell? ⟨w.heap.size, 7, none⟩ = some (.int .i64 warm) := kc hb3 (by first | assumption | go_cell)
              have p8 : w3.cell? ⟨w.heap.size, 8, none⟩ = some (.int .i64 queue) := kc hb3 (by first | assumption | go_cell)
              have p9 : w3.cell? ⟨w.heap.size, 9, none⟩ = some (.bool clus) := kc hb3 (by first | assumption | go_cell)
              have p10 : w3.cell? ⟨w.heap.size, 10, none⟩ = some (.int .i64 id_) := kc hb3 (by first | assumption | go_cell)
              have p11 : w3.cell? ⟨w.heap.size, 11, none⟩ = some (.bool fall) := kc hb3 (by first | assumption | go_cell)
              have q0 : w3.cell? ⟨w.heap.size + 1, 0, none⟩ = some (.int .i64 xp) := kc hb3 (by first | assumption | go_cell)
              have q1 : w3.cell? ⟨w.heap.size + 1, 1, none⟩ = some (.int .i64 xf) := kc hb3 (by first | assumption | go_cell)
              have q2 : w3.cell? ⟨w.heap.size + 1, 2, none⟩ = some (.int .i64 xc) := kc hb3 (by first | assumption | go_cell)
              have kb : Below w.heap.size w w3 := bl (by first | assumption | exact (Below.drew (by assumption))) hb3)
           | (go_at_call 12; refine (HQ.out _).mono ?_; rintro e w3 ⟨rfl, hb3⟩
              have p0 : w3.cell? ⟨w.heap.size, 0, none⟩ = some (.string res) := kc hb3 (by first | assumption | go_cell)
              have p1 : w3.cell? ⟨w.heap.size, 1, none⟩ = some (.string org) := kc hb3 (by first | assumption | go_cell)
              have p2 : w3.cell? ⟨w.heap.size, 2, none⟩ = some (.bool thr) := kc hb3 (by first | assumption | go_cell)
              have p3 : w3.cell? ⟨w.heap.size, 3, none⟩ = some (.int .i64 cnt) := kc hb3 (by first | assumption | go_cell)
              have p4 : w3.cell? ⟨w.heap.size, 4, none⟩ = some (.int .u8 strat) := kc hb3 (by first | assumption | go_cell)
              have p5 : w3.cell? ⟨w.heap.size, 5, none⟩ = some (.string ref) := kc hb3 (by first | assumption | go_cell)
              have p6 : w3.cell? ⟨w.heap.size, 6, none⟩ = some (.int .u8 shape) := kc hb3 (by first | assumption | go_cell)
              have p7 : w3.cell? ⟨w.heap.size, 7, none⟩ = some (.int .i64 warm) := kc hb3 (by first | assumption | go_cell)
              have p8 : w3.cell? ⟨w.heap.size, 8, none⟩ = some (.int .i64 queue) := kc hb3 (by first | assumption | go_cell)
              have p9 : w3.cell? ⟨w.heap.size, 9, none⟩ = some (.bool clus) := kc hb3 (by first | assumption | go_cell)
              have p10 : w3.cell? ⟨w.heap.size, 10, none⟩ = some (.int .i64 id_) := kc hb3 (by first | assumption | go_cell)
              have p11 : w3.cell? ⟨w.heap.size, 11, none⟩ = some (.bool fall) := kc hb3 (by first | assumption | go_cell)
              have q0 : w3.cell? ⟨w.heap.size + 1, 0, none⟩ = some (.int .i64 xp) := kc hb3 (by first | assumption | go_cell)
              have q1 : w3.cell? ⟨w.heap.size + 1, 1, none⟩ = some (.int .i64 xf) := kc hb3 (by first | assumption | go_cell)
              have q2 : w3.cell? ⟨w.heap.size + 1, 2, none⟩ = some (.int .i64 xc) := kc hb3 (by first | assumption | go_cell)
              have kb : Below w.heap.size w w3 := bl (by first | assumption | exact (Below.drew (by assumption))) hb3))
  all_goals
    have KB := hid kb
    clear kb HP HQ
    go_wp2_with fail
    go_ret
    exact ⟨by first | rfl | simp, KB.out⟩

theorem wf_fits {n : Int} (h : (Lit.int .i64 n).wf = true) : Fits n := Go.bounds_i64 h

theorem main {W : World} (F : Flow) (f1 : F.res.size ≤ maxLen) (f2 : F.org.size ≤ maxLen) (f3 : F.ref.size ≤ maxLen) (f4 : (Lit.int .i64 F.cnt).wf = true) (x y z : Int) (w0 : (Lit.int .i64 x).wf = true) (w1 : (Lit.int .i64 y).wf = true) (w2 : (Lit.int .i64 z).wf = true) :
    Calls Try.prog 4 #[.agg (fv F), .agg #[.int .i64 x, .int .i64 y, .int .i64 z]] W fun e w' => e = .returned (.bool true) ∧ Below W.heap.size W w' := by
  obtain ⟨res, org, thr, cnt, strat, ref, shape, warm, queue, clus, id_, fall⟩ := F
  exact passes_core res org thr cnt strat ref shape warm queue clus id_ fall x y z (wf_fits w0) (wf_fits w2) W

end Go.Proofs.Ytakmfcnmcjbbgaa.RejI
