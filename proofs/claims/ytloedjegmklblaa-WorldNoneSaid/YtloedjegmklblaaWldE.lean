/- The walk of WorldNone. -/
import Derived.Test.YtloedjegmklblaaWldD
import Derived.Laws.StructEq
namespace Go.Proofs.Ytloedjegmklblaa.WldE
open Go.ChangeShapes Go.WideShapes Go.ChangeAt Go.RowKit Base ClkM Clk WldA WldB WldC WldD

set_option maxHeartbeats 400000 in
theorem at_nil (n : Int) (w : World) :
    Calls Try.prog 70 #[.pointer none, .int .i64 n] w fun e w' => e = .returned (.agg #[.int .i64 0, .int .i64 0, .int .i64 0]) ∧ Below w.heap.size w w' := by
  go_enter Try.func70, Try.ntmps70
  go_wp2_with fail
  refine bodyPost_ret (v := .agg #[.int .i64 0, .int .i64 0, .int .i64 0]) (by simp [results, Try.results70, go_sem]) rfl ⟨rfl, ?_⟩
  exact (by repeat (first | (with_reducible exact Below.refl _ _) | (with_reducible refine Below.setCell ?_ (by first | (simp; done) | (simp; omega) | omega) _) | (with_reducible refine Below.alloc ?_ (by first | (simp; done) | (simp; omega) | omega) _) | (with_reducible refine Below.drew ?_) | (with_reducible refine below_drewN ?_ _)))

set_option maxRecDepth 20000 in
set_option maxHeartbeats 1000000 in
theorem none_walk (n : Int) (w : World) :
    Calls Try.prog 14 #[.int .i64 n] w fun e w' => e = .returned (.bool true) ∧ Below w.heap.size w w' := by
  go_enter Try.func14, Try.ntmps14
  go_wp2_with (first | (go_at_call 39; refine (live_look _).mono ?_; rintro e w1 ⟨rfl, hb1⟩) | (go_at_call 70; refine (at_nil n _).mono ?_; rintro e w2 ⟨rfl, hb2⟩) | go_in)
  go_ret
  have hs := hb1.size
  simp only [World.size_alloc] at hs
  exact ⟨rfl, (((Below.refl w.heap.size w).alloc (Nat.le_refl _) _).trans (hb1.mono (by simp))).trans (hb2.mono (by omega))⟩

theorem noneAll (n : Int) (_ : (Lit.int .i64 n).wf = true) (w : World) :
    Calls Try.prog 14 #[.int .i64 n] w fun e w' => e = .returned (.bool true) ∧ Below w.heap.size w w' := none_walk n w

end Go.Proofs.Ytloedjegmklblaa.WldE
