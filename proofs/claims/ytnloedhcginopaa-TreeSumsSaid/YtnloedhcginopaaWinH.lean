/- Contract of Add, of one more. -/
import Derived.Test.YtnloedhcginopaaWinG
namespace Go.Proofs.Ytnloedhcginopaa.WinH
open Go.ChangeShapes Go.WideShapes Go.ChangeAt Go.RowKit Base WinM WinA WinB WinC WinD WinE WinF WinG WldF WldG

set_option maxRecDepth 20000 in
set_option maxHeartbeats 1000000 in
theorem indexRight (g o cap : Nat) (c : Cnt) (w : World) (hg : g < w.heap.size) (hc : c.Right) (H : Hid (At6 w g o c)) :
    Calls Try.prog 91 #[.slice (some ⟨g, o, none⟩) 1 cap, .func (Fn.func 72) #[] #[]] w fun e w' => e = .returned (.int .i64 (-1)) ∧ Below w.heap.size w w' := by
  have HR := hid hc
  clear hc
  go_enter Try.func91, Try.ntmps91
  go_wp2
  go_loopw [8] (fun i wr => ∃ k : Nat, k ≤ 1 ∧ i = .int .i64 k ∧ Below w.heap.size w wr) (fun i _ => 1 - (intOf i).toNat)
  case atStart => exact ⟨0, by omega, rfl, Below.refl _ _⟩
  case round =>
    obtain ⟨k, hk, rfl, hbel⟩ := hrel
    have HB := hid hbel
    match k, hk with
    | 0, _ =>
      obtain ⟨k1, k2, k3, k4, k5, k6⟩ := H.out
      rw [← hbel.cell (p := ⟨g, o, none⟩) hg] at k1
      rw [← hbel.cell (p := ⟨g, o + 1, none⟩) hg] at k2
      rw [← hbel.cell (p := ⟨g, o + 2, none⟩) hg] at k3
      rw [← hbel.cell (p := ⟨g, o + 3, none⟩) hg] at k4
      rw [← hbel.cell (p := ⟨g, o + 4, none⟩) hg] at k5
      rw [← hbel.cell (p := ⟨g, o + 5, none⟩) hg] at k6
      have hs := hbel.size
      clear hbel
      go_wp2_with fail
      refine (wrong_no c.pass c.block c.done c.errs c.rt c.low HR.out _).mono ?_
      rintro e w2 ⟨rfl, rfl⟩
      go_wp2
      go_roundw
      case rel => exact ⟨1, by omega, by go_num, HB.out.alloc hs _⟩
      case measure => simp [intOf]
    | 1, _ =>
      clear hbel
      go_wp2
      go_ret
      exact ⟨rfl, HB.out⟩

set_option maxHeartbeats 400000 in
theorem containsRight (g o cap : Nat) (c : Cnt) (w : World) (hg : g < w.heap.size) (hc : c.Right) (H : Hid (At6 w g o c)) :
    Calls Try.prog 80 #[.slice (some ⟨g, o, none⟩) 1 cap, .func (Fn.func 72) #[] #[]] w fun e w' => e = .returned (.bool false) ∧ Below w.heap.size w w' := by
  have HI := hid (indexRight g o cap c w hg hc H)
  clear hc H
  go_enter Try.func80, Try.ntmps80
  go_wp2_with fail
  refine HI.out.mono ?_
  rintro e w1 ⟨rfl, hb⟩
  have HB := hid hb
  clear hb HI
  go_wp2
  go_ret
  exact ⟨rfl, HB.out⟩

set_option maxHeartbeats 400000 in
theorem add_no (p : Nat) (last at_ : Int) (v : Value) (w : World) (h : w.cell? ⟨p, 2, none⟩ = some (.int .i64 last)) (hr : refM last at_ ≠ 0) :
    Calls Try.prog 68 #[.pointer (some ⟨p, 0, none⟩), .int .i64 at_, v] w fun e w' => e = .returned (.int .i64 (refM last at_)) ∧ w = w' := by
  have HR := hid (refuses_any p last at_ w h)
  generalize refM last at_ = r at *
  have hr' : (r != 0) = true := by simpa using hr
  clear hr h
  go_enter Try.func68, Try.ntmps68
  go_wp2_with fail
  refine HR.out.mono ?_
  rintro e w1 ⟨rfl, rfl⟩
  go_wp2
  go_ret
  exact ⟨rfl, rfl⟩

/-- counts noted in the bucket that begins at b -/
def noteM (b : Int) (c : Cnt) (l : List Bkt) : List Bkt :=
  match l.getLast? with
  | some x => if x.at_ = b then l.dropLast ++ [⟨b, joinM x.c c⟩] else l ++ [⟨b, joinM ⟨0, 0, 0, 0, 0, 0⟩ c⟩]
  | none => [⟨b, joinM ⟨0, 0, 0, 0, 0, 0⟩ c⟩]

/-- a window behind counts noted at a time; q: a bucket's width -/
def addM (q : Nat) (s : Win) (at_ : Nat) (c : Cnt) : Win :=
  { s with last := at_, bs := noteM (begN q at_) c (stays ((begN q at_ : Int) - s.width + q) s.bs) }

theorem noteM_nil (b : Int) (c : Cnt) : noteM b c [] = [⟨b, joinM ⟨0, 0, 0, 0, 0, 0⟩ c⟩] := rfl
theorem toL_last (f : Nat → Bkt) (m : Nat) : (toL f (m + 1)).getLast? = some (f m) := by rw [toL_succ]; simp
theorem toL_drop (f : Nat → Bkt) (m : Nat) : (toL f (m + 1)).dropLast = toL f m := by rw [toL_succ]; simp
theorem noteM_same (b : Int) (c : Cnt) (f : Nat → Bkt) (m : Nat) (h : (f m).at_ = b) : noteM b c (toL f (m + 1)) = toL f m ++ [⟨b, joinM (f m).c c⟩] := by
  unfold noteM; rw [toL_last, toL_drop]; dsimp only; rw [if_pos h]
theorem noteM_new (b : Int) (c : Cnt) (f : Nat → Bkt) (m : Nat) (h : (f m).at_ ≠ b) : noteM b c (toL f (m + 1)) = toL f (m + 1) ++ [⟨b, joinM ⟨0, 0, 0, 0, 0, 0⟩ c⟩] := by
  unfold noteM; rw [toL_last]; dsimp only; rw [if_neg h]

theorem IsWin.setLast {w : World} {p : Nat} {go : Option Nat} {s : Win} (h : IsWin w p go s) (t : Int) : IsWin (w.setCell ⟨p, 2, none⟩ (.int .i64 t)) p go { s with last := t } := by
  obtain ⟨h0, v, h1, h2⟩ := h
  exact ⟨h0, v, heap_setCell_same _ _ _ _ _ _ h1, h2.of_block fun g e => heap_setCell_other _ _ _ _ (fun e2 => h0 (by rw [e, e2]))⟩

theorem IsWin.drewN {w : World} {p : Nat} {go : Option Nat} {s : Win} (h : IsWin w p go s) (n : Nat) : IsWin (w.drewN n) p go s := h

theorem zero_fine : (Cnt.mk 0 0 0 0 0 0).Fine := by unfold Cnt.Fine InN; decide

/-- what bucket leaves: the place where counts are noted, all told -/
theorem bucket_all (p : Nat) (go : Option Nat) (s : Win) (b : Int) (w : World) (h : IsWin w p go s) (hn : s.bs.length ≤ 1000) (hfine : ∀ x ∈ s.bs, x.c.Fine) :
    Calls Try.prog 83 #[.pointer (some ⟨p, 0, none⟩), .int .i64 b] w fun e w' => ∃ (g cap k : Nat) (f : Nat → Bkt), e = .returned (.pointer (some ⟨g, k * 7, none⟩)) ∧ IsBk w' g cap (k + 1) f ∧ (f k).c.Fine ∧ (f k).at_ = b ∧
      w'.heap[p]? = some (.cells #[.int .i64 s.width, .int .i64 s.size, .int .i64 s.last, .slice (some ⟨g, 0, none⟩) (k + 1) cap] 112) ∧ g ≠ p ∧ (go = some g ∨ w.heap.size ≤ g) ∧ Lets (fun k => k = p ∨ go = some k) w w' ∧
      ∀ c, noteM b c s.bs = toL f k ++ [⟨b, joinM (f k).c c⟩] := by
  have hgl := h.lt2
  obtain ⟨h0, v, h1, hv⟩ := h
  rcases hv with ⟨rfl, rfl, hbs⟩ | ⟨g, cap, f, rfl, rfl, hb, hf⟩
  · refine (bucket_nil p none 0 none s b (fun _ => ⟨0, ⟨0, 0, 0, 0, 0, 0⟩⟩) w h1 h0 hgl (hid ⟨rfl, .inl ⟨rfl, rfl⟩⟩) (hid rfl)).mono ?_
    rintro e w' ⟨g, cap, rfl, hb, hw, hgp, hg, hl⟩
    refine ⟨g, cap, 0, _, rfl, hb, ?_, rfl, hw, hgp, hg, hl, fun c => ?_⟩
    · simp only [if_true]; exact zero_fine
    · rw [hbs]; simp [noteM, toL]
  · generalize hm : s.bs.length = n at *
    by_cases hn0 : n = 0
    · subst hn0
      have hbs : s.bs = [] := List.length_eq_zero_iff.1 hm
      have hown := own_of_bk hb
      refine (bucket_nil p (some ⟨g, 0, none⟩) cap (some g) s b f w h1 h0 hgl (hid hown) (hid rfl)).mono ?_
      rintro e w' ⟨g', cap', rfl, hb', hw, hgp, hg, hl⟩
      refine ⟨g', cap', 0, _, rfl, hb', ?_, rfl, hw, hgp, hg, hl, fun c => ?_⟩
      · simp only [if_true]; exact zero_fine
      · rw [hbs]; simp [noteM, toL]
    · obtain ⟨m, rfl⟩ : ∃ m, n = m + 1 := ⟨n - 1, by omega⟩
      have hlast : w.cell? ⟨g, (m + 1 - 1) * 7, none⟩ = some (.int .i64 (f m).at_) := (hb.at6 m (by omega)).1
      by_cases hx : (f m).at_ = b
      · rw [hx] at hlast
        refine (bucket_same p g (m + 1) cap _ _ _ b w h1 (by omega) hn hlast).mono ?_
        rintro e w' ⟨rfl, k, rfl⟩
        refine ⟨g, cap, m, f, rfl, hb, hfine _ (by rw [← hf, toL_succ]; simp), hx, h1, fun e => h0 (by rw [e]), .inl rfl, (Lets.refl _ _).drewN _, fun c => ?_⟩
        rw [← hf, noteM_same b c f m hx]
      · refine (bucket_new p g (m + 1) (f m).at_ cap (some g) s b f w h1 h0 hgl (hid (own_of_bk hb)) (hid rfl) (by omega) hn hlast hx).mono ?_
        rintro e w' ⟨g', cap', rfl, hb', hw, hgp, hg, hl⟩
        refine ⟨g', cap', m + 1, _, rfl, hb', ?_, by simp, hw, hgp, hg, hl, fun c => ?_⟩
        · simp only [if_true]; exact zero_fine
        · rw [← hf, noteM_new b c f m hx]
          simp only [if_true]
          congr 1
          exact toL_congr fun i hi => by rw [if_neg (by omega)]

end Go.Proofs.Ytnloedhcginopaa.WinH
