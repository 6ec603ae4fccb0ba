/- Contract of Most; errors of Sum and Most. -/
import Derived.Test.YtnloedhcginopaaWinK
import Derived.Sort.QuietIn
namespace Go.Proofs.Ytnloedhcginopaa.WinL
open Go.ChangeShapes Go.WideShapes Go.ChangeAt Go.RowKit Base WinM WinA WinB WinC WinD WinE WinF WinG WinH WinI WinJ WinK WldF WldG
open Go.Shelf

set_option maxHeartbeats 400000 in
theorem sum_no (p : Nat) (last at_ : Int) (w : World) (h : w.cell? ⟨p, 2, none⟩ = some (.int .i64 last)) (hr : refM last at_ ≠ 0) :
    Calls Try.prog 71 #[.pointer (some ⟨p, 0, none⟩), .int .i64 at_] w fun e w' => e = .returned (.tuple #[cv ⟨0, 0, 0, 0, 0, 0⟩, .int .i64 (refM last at_)]) ∧ Below w.heap.size w w' := by
  have hp := World.block_lt_of_cell? _ _ h
  have HR := hid (refuses_any p last at_ (w.alloc (.cells #[.int .i64 0, .int .i64 0, .int .i64 0, .int .i64 0, .int .i64 0, .int .i64 0] 32)) (by go_cell))
  generalize refM last at_ = r at *
  have hr' : (r != 0) = true := by simpa using hr
  clear hr h
  go_enter Try.func71, Try.ntmps71
  go_wp2_with fail
  refine HR.out.mono ?_
  rintro e w1 ⟨rfl, rfl⟩
  go_wp2
  refine bodyPost_ret (v := .tuple #[cv ⟨0, 0, 0, 0, 0, 0⟩, .int .i64 r]) (by simp [results, Try.results71, go_sem, cv]) rfl ⟨rfl, ?_⟩
  exact (by repeat (first | (with_reducible exact Below.refl _ _) | (with_reducible refine Below.setCell ?_ (by first | (simp; done) | (simp; omega) | omega) _) | (with_reducible refine Below.alloc ?_ (by first | (simp; done) | (simp; omega) | omega) _) | (with_reducible refine Below.drew ?_) | (with_reducible refine below_drewN ?_ _)))

attribute [local go_sem] Oper.semAt_some

/-- the greatest pass of buckets -/
def maxF (l : List FB) : Int := l.foldl (fun m b => max m b.1.c.pass) 0
theorem maxF_snoc (l : List FB) (x : FB) : maxF (l ++ [x]) = max (maxF l) x.1.c.pass := by simp [maxF]
/-- .. but of that one that begins at b, and of those behind it -/
def mostM (b : Int) (l : List Bkt) : Int := (l.takeWhile fun x => !decide (x.at_ = b)).foldl (fun m x => max m x.c.pass) 0

theorem foldl_max_map (l : List FB) (m : Int) : (l.map (·.1)).foldl (fun m x => max m x.c.pass) m = l.foldl (fun m b => max m b.1.c.pass) m := by rw [List.foldl_map]
theorem takeWhile_part {b : Int} (l : List FB) (rest : List Bkt) (h : ∀ y ∈ l, y.1.at_ ≠ b) : (l.map (·.1) ++ rest).takeWhile (fun x => !decide (x.at_ = b)) = l.map (·.1) ++ rest.takeWhile (fun x => !decide (x.at_ = b)) := by
  induction l with
  | nil => rfl
  | cons y l ih =>
    have := h y (by simp)
    simp only [List.map_cons, List.cons_append]
    rw [List.takeWhile_cons, if_pos (by simpa using this), ih (fun z hz => h z (by simp [hz]))]
theorem mostM_all {b : Int} {l : List FB} (h : ∀ y ∈ l, y.1.at_ ≠ b) : mostM b (l.map (·.1)) = maxF l := by
  have := takeWhile_part l [] h
  simp only [List.append_nil] at this
  unfold mostM maxF
  rw [this]
  simp only [List.takeWhile_nil, List.append_nil]
  exact foldl_max_map l 0
theorem mostM_part {b : Int} {l : List FB} {x : FB} {rest : List Bkt} (h : ∀ y ∈ l, y.1.at_ ≠ b) (hx : x.1.at_ = b) : mostM b (l.map (·.1) ++ ([x].map (·.1) ++ rest)) = maxF l := by
  unfold mostM maxF
  rw [takeWhile_part l _ h]
  simp only [List.map_cons, List.map_nil, List.singleton_append]
  rw [List.takeWhile_cons, if_neg (by simpa using hx), List.append_nil]
  exact foldl_max_map l 0

end Go.Proofs.Ytnloedhcginopaa.WinL
