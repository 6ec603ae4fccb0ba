/- Rows of system rules: lists that come in, handed in with marked room behind them. -/
import Derived.Test.YtoilakjlnflpbaaGuaH
import Derived.Test.YtoilakjlnflpbaaMem
import Derived.Test.YtoilakjlnflpbaaOpn
namespace Go.Proofs.Ytoilakjlnflpbaa.GurA
open Go.ChangeShapes Go.WideShapes Go.ChangeAt Go.RowKit Go.Deep Base Opn WldF WldG Mem
set_option linter.unusedVariables false

/-- n rows of m ints each -/
def RowsI (w : World) (a : Option Addr) (n m : Nat) (F : Nat → Nat → Int) : Prop :=
  (0 < n → ∃ g o, a = some ⟨g, o, none⟩ ∧ g < w.heap.size ∧ ∀ i, i < n → ∀ j, j < m → w.cell? ⟨g, o + i * m + j, none⟩ = some (.int .i64 (F i j))) ∧ ∀ i j, -9223372036854775808 ≤ F i j ∧ F i j ≤ 9223372036854775807

theorem RowsI.below {w w' : World} {a : Option Addr} {n m : Nat} {F : Nat → Nat → Int} (h : RowsI w a n m F) (hb : Below w.heap.size w w') : RowsI w' a n m F := by
  refine ⟨fun h0 => ?_, h.2⟩
  obtain ⟨g, o, rfl, hg, hc⟩ := h.1 h0
  exact ⟨g, o, rfl, Nat.lt_of_lt_of_le hg hb.size, fun i hi j hj => (hb.cell (p := ⟨g, o + i * m + j, none⟩) hg).trans (hc i hi j hj)⟩

/-- rules, and the marks behind them -/
def mark5 (n : Nat) (F : Nat → Nat → Int) : Nat → Int := fun j => if j < n * 5 then F (j / 5) (j % 5) else if j % 5 = 0 then -700 - ((j / 5 : Nat) : Int) + n else 0
theorem mark5_in {n k j : Nat} {F : Nat → Nat → Int} (hk : k < n) (hj : j < 5) : mark5 n F (k * 5 + j) = F k j := by
  unfold mark5
  rw [if_pos (by omega), show (k * 5 + j) / 5 = k by omega, show (k * 5 + j) % 5 = j by omega]
theorem mark5_out0 {n k : Nat} {F : Nat → Nat → Int} (hk : n ≤ k) : mark5 n F (k * 5) = -700 - (k : Int) + n := by
  unfold mark5
  rw [if_neg (by omega), if_pos (by omega), show k * 5 / 5 = k by omega]
theorem mark5_out {n k j : Nat} {F : Nat → Nat → Int} (hk : n ≤ k) (h0 : 0 < j) (hj : j < 5) : mark5 n F (k * 5 + j) = 0 := by
  unfold mark5
  rw [if_neg (by omega), if_neg (by omega)]

theorem fill5 {w : World} {g N k : Nat} {G : Nat → Int} (h : Row w g N (fillF (k * 5) G)) (hk : k * 5 + 5 ≤ N) {x0 x1 x2 x3 x4 : Int}
    (e0 : G (k * 5) = x0) (e1 : G (k * 5 + 1) = x1) (e2 : G (k * 5 + 2) = x2) (e3 : G (k * 5 + 3) = x3) (e4 : G (k * 5 + 4) = x4) :
    Row (((((w.setCell ⟨g, k * 5, none⟩ (.int .i64 x0)).setCell ⟨g, k * 5 + 1, none⟩ (.int .i64 x1)).setCell ⟨g, k * 5 + 2, none⟩ (.int .i64 x2)).setCell ⟨g, k * 5 + 3, none⟩ (.int .i64 x3)).setCell ⟨g, k * 5 + 4, none⟩ (.int .i64 x4)) g N (fillF ((k + 1) * 5) G) := by
  subst e0 e1 e2 e3 e4
  have h := h.set (k * 5) (by omega) (G (k * 5))
  rw [fillF_set] at h
  have h := h.set (k * 5 + 1) (by omega) (G (k * 5 + 1))
  rw [fillF_set] at h
  have h := h.set (k * 5 + 2) (by omega) (G (k * 5 + 2))
  rw [fillF_set] at h
  have h := h.set (k * 5 + 3) (by omega) (G (k * 5 + 3))
  rw [fillF_set] at h
  have h := h.set (k * 5 + 4) (by omega) (G (k * 5 + 4))
  rw [fillF_set] at h
  rw [show (k + 1) * 5 = k * 5 + 4 + 1 by omega]
  exact h

theorem infoSys : (Try.prog.info? 38).map (fun i => (i.zero, i.size, i.bytes)) = some (some (.agg #[.int .i64 0, .int .i64 0, .int .i64 0, .int .i64 0, .int .i64 0]), 5, 40) := by kernel_rfl

theorem Row.owned5 {w : World} {base g n cap : Nat} {e : TypeId} {xs : List Value} {f : Nat → Int} (h : w.ownsRow base e 5 (.slice (some ⟨g, 0, none⟩) n cap) n xs) (hx : ∀ j, j < n * 5 → xs[j]? = some (.int .i64 (f j))) : Row w g (n * 5) f := by
  obtain ⟨hl, h⟩ := h
  rcases h with ⟨h0, _⟩ | ⟨g', cap', cur, hv, hg, hh, hc, hm, hs, hcur⟩
  · cases h0
  · cases hv
    intro j hj
    have e : cur[j]? = some (.int .i64 (f j)) := by
      have h1 : (cur.toList.take (n * 5))[j]? = xs[j]? := by rw [hcur]
      rw [List.getElem?_take, if_pos (by omega), hx j hj] at h1
      rw [← Array.getElem?_toList, h1]
    exact ⟨by simp [World.cell?, hh, e], by simp [World.frozen?, hh]⟩

theorem made5 (m j : Nat) (hj : j < m) : (madeCells (Value.agg #[Value.int IntKind.i64 0, Value.int IntKind.i64 0, Value.int IntKind.i64 0, Value.int IntKind.i64 0, Value.int IntKind.i64 0]).cells m).toList[j]? = some (Value.int IntKind.i64 0) := by
  simp only [madeCells, Value.cells]
  rcases (by omega : j % 5 = 0 ∨ j % 5 = 1 ∨ j % 5 = 2 ∨ j % 5 = 3 ∨ j % 5 = 4) with e | e | e | e | e <;> simp [hj, e]

set_option maxRecDepth 20000 in
set_option maxHeartbeats 2000000 in
theorem hand_sys (a : Option Addr) (n cap : Nat) (F : Nat → Nat → Int) (w : World) (hn : n ≤ 4000000000000) (hin : RowsI w a n 5 F) :
    Calls Try.prog 8 #[.slice a n cap] w fun e w' => e = .returned (.slice (some ⟨w.heap.size, 0, none⟩) n (n + 9)) ∧ Row w' w.heap.size ((n + 9) * 5) (mark5 n F) ∧ Below w.heap.size w w' ∧ w.heap.size < w'.heap.size := by
  obtain ⟨i0, hi, hz0, hz1, hz2⟩ := info_parts infoSys
  have HI := hid hin.1
  clear hin
  go_enter Try.func8, Try.ntmps8
  go_wp2_with (at_make; refine wpList_make_full _ rfl _ _ 22 rfl w.heap.size 38 i0 (.agg #[.int .i64 0, .int .i64 0, .int .i64 0, .int .i64 0, .int .i64 0]) 5 Try.underlying22 hi hz0 hz1 .i64 .i64 ((n : Int) + 9) ((n : Int) + 9) (n + 9) rfl rfl (by omega) (by omega) ?b2 ?b3 (Nat.le_refl _) ?_; rotate_left 2; intro w1 hown hgrow)
  case b2 => rw [hz2]; omega
  case b3 => unfold maxLen; omega
  have HB1 : Hid (Below w.heap.size w w1) := hid ((Below.refl _ _).grown hgrow (Nat.le_refl _) (fun _ e => by cases e))
  have HR1 : Hid (Row w1 w.heap.size ((n + 9) * 5) (fillF (0 * 5) (mark5 n F))) := hid (Row.owned5 hown (fun j hj => by rw [made5 _ _ hj]; simp [fillF]))
  have hs1 : w.heap.size < w1.heap.size := (hown.lt w.heap.size rfl).2
  clear hown hgrow
  obtain ⟨B, hB⟩ : ∃ B, w.heap.size = B := ⟨_, rfl⟩
  rw [hB] at HB1 HR1 hs1 ⊢
  go_loopw [4] (fun i wr => ∃ k : Nat, k ≤ n ∧ i = .int .i64 k ∧ Row wr B ((n + 9) * 5) (fillF (k * 5) (mark5 n F)) ∧ Below B w wr ∧ B < wr.heap.size) (fun i _ => n - (intOf i).toNat)
  case atStart => exact ⟨0, Nat.zero_le _, rfl, HR1.out, HB1.out, hs1⟩
  case round =>
    obtain ⟨k, hk, rfl, hrow, hbel, hsz⟩ := hrel
    have HR := hid hrow
    have HB := hid hbel
    clear hrow hbel
    by_cases hlt : k < n
    · obtain ⟨g, o, rfl, hg, hc⟩ := HI.out (by omega)
      have c0 : wr.cell? ⟨g, o + k * 5, none⟩ = some (.int .i64 (F k 0)) := (HB.out.cell (p := ⟨g, o + k * 5 + 0, none⟩) (by show g < B; omega)).trans (hc k hlt 0 (by omega))
      have c1 : wr.cell? ⟨g, o + k * 5 + 1, none⟩ = some (.int .i64 (F k 1)) := (HB.out.cell (p := ⟨g, o + k * 5 + 1, none⟩) (by show g < B; omega)).trans (hc k hlt 1 (by omega))
      have c2 : wr.cell? ⟨g, o + k * 5 + 2, none⟩ = some (.int .i64 (F k 2)) := (HB.out.cell (p := ⟨g, o + k * 5 + 2, none⟩) (by show g < B; omega)).trans (hc k hlt 2 (by omega))
      have c3 : wr.cell? ⟨g, o + k * 5 + 3, none⟩ = some (.int .i64 (F k 3)) := (HB.out.cell (p := ⟨g, o + k * 5 + 3, none⟩) (by show g < B; omega)).trans (hc k hlt 3 (by omega))
      have c4 : wr.cell? ⟨g, o + k * 5 + 4, none⟩ = some (.int .i64 (F k 4)) := (HB.out.cell (p := ⟨g, o + k * 5 + 4, none⟩) (by show g < B; omega)).trans (hc k hlt 4 (by omega))
      have d0 := (HR.out (k * 5) (by omega)).1
      have f0 := (HR.out (k * 5) (by omega)).2
      have d1 := (HR.out (k * 5 + 1) (by omega)).1
      have f1 := (HR.out (k * 5 + 1) (by omega)).2
      have d2 := (HR.out (k * 5 + 2) (by omega)).1
      have f2 := (HR.out (k * 5 + 2) (by omega)).2
      have d3 := (HR.out (k * 5 + 3) (by omega)).1
      have f3 := (HR.out (k * 5 + 3) (by omega)).2
      have d4 := (HR.out (k * 5 + 4) (by omega)).1
      have f4 := (HR.out (k * 5 + 4) (by omega)).2
      have hgs : g < wr.heap.size := by omega
      have HN := hid (fill5 HR.out (by omega) (mark5_in (j := 0) hlt (by omega)) (mark5_in hlt (by omega)) (mark5_in hlt (by omega)) (mark5_in hlt (by omega)) (mark5_in hlt (by omega)))
      have HB2 := hid (Below.setCell (p := ⟨B, k * 5 + 4, none⟩) (Below.setCell (p := ⟨B, k * 5 + 3, none⟩) (Below.setCell (p := ⟨B, k * 5 + 2, none⟩) (Below.setCell (p := ⟨B, k * 5 + 1, none⟩) (Below.setCell (p := ⟨B, k * 5, none⟩) (HB.out) (Nat.le_refl _) (.int .i64 (F k 0))) (Nat.le_refl _) (.int .i64 (F k 1))) (Nat.le_refl _) (.int .i64 (F k 2))) (Nat.le_refl _) (.int .i64 (F k 3))) (Nat.le_refl _) (.int .i64 (F k 4)))
      clear hc
      generalize F k 0 = x0 at *
      generalize F k 1 = x1 at *
      generalize F k 2 = x2 at *
      generalize F k 3 = x3 at *
      generalize F k 4 = x4 at *
      generalize fillF (k * 5) _ (k * 5) = y0 at *
      generalize fillF (k * 5) _ (k * 5 + 1) = y1 at *
      generalize fillF (k * 5) _ (k * 5 + 2) = y2 at *
      generalize fillF (k * 5) _ (k * 5 + 3) = y3 at *
      generalize fillF (k * 5) _ (k * 5 + 4) = y4 at *
      go_wp2_with fail
      go_roundw
      case rel => exact ⟨k + 1, by omega, by go_num, HN.out, HB2.out, by simpa using hsz⟩
      case measure => simp [intOf]; omega
    · obtain rfl : k = n := by omega
      go_wp2_with fail
      go_loopw [5] (fun i wr => ∃ m : Nat, m ≤ k + 9 ∧ i = .int .i64 m ∧ k ≤ m ∧ Row wr B ((k + 9) * 5) (fillF (m * 5) (mark5 k F)) ∧ Below B w wr ∧ B < wr.heap.size) (fun i _ => (k + 9) - (intOf i).toNat)
      case atStart => exact ⟨k, by omega, rfl, Nat.le_refl _, HR.out, HB.out, hsz⟩
      case round =>
        obtain ⟨m, hm, rfl, hkm, hrow, hbel, hsz2⟩ := hrel
        have HR3 := hid hrow
        have HB3 := hid hbel
        clear hrow hbel
        by_cases hml : m < k + 9
        · have d0 := (HR3.out (m * 5) (by omega)).1
          have f0 := (HR3.out (m * 5) (by omega)).2
          have d1 := (HR3.out (m * 5 + 1) (by omega)).1
          have f1 := (HR3.out (m * 5 + 1) (by omega)).2
          have d2 := (HR3.out (m * 5 + 2) (by omega)).1
          have f2 := (HR3.out (m * 5 + 2) (by omega)).2
          have d3 := (HR3.out (m * 5 + 3) (by omega)).1
          have f3 := (HR3.out (m * 5 + 3) (by omega)).2
          have d4 := (HR3.out (m * 5 + 4) (by omega)).1
          have f4 := (HR3.out (m * 5 + 4) (by omega)).2
          have HN := hid (fill5 HR3.out (by omega) (mark5_out0 hkm) (mark5_out hkm (by omega) (by omega)) (mark5_out hkm (by omega) (by omega)) (mark5_out hkm (by omega) (by omega)) (mark5_out hkm (by omega) (by omega)))
          have HB4 := hid (Below.setCell (p := ⟨B, m * 5 + 4, none⟩) (Below.setCell (p := ⟨B, m * 5 + 3, none⟩) (Below.setCell (p := ⟨B, m * 5 + 2, none⟩) (Below.setCell (p := ⟨B, m * 5 + 1, none⟩) (Below.setCell (p := ⟨B, m * 5, none⟩) (HB3.out) (Nat.le_refl _) (.int .i64 (-700 - (m : Int) + k))) (Nat.le_refl _) (.int .i64 0)) (Nat.le_refl _) (.int .i64 0)) (Nat.le_refl _) (.int .i64 0)) (Nat.le_refl _) (.int .i64 0))
          generalize fillF (m * 5) _ (m * 5) = y0 at *
          generalize fillF (m * 5) _ (m * 5 + 1) = y1 at *
          generalize fillF (m * 5) _ (m * 5 + 2) = y2 at *
          generalize fillF (m * 5) _ (m * 5 + 3) = y3 at *
          generalize fillF (m * 5) _ (m * 5 + 4) = y4 at *
          go_wp2_with fail
          go_roundw
          case rel => exact ⟨m + 1, by omega, by go_num, by omega, HN.out, HB4.out, by simpa using hsz2⟩
          case measure => simp [intOf]; omega
        · obtain rfl : m = k + 9 := by omega
          go_wp2_with fail
          go_ret
          subst hB
          exact ⟨rfl, HR3.out.congr (fun j hj => by simp [fillF, hj]), HB3.out, hsz2⟩

set_option maxRecDepth 20000 in
set_option maxHeartbeats 1000000 in
theorem ssys_core (g q g' q' n cap cap' : Nat) (F : Nat → Nat → Int) (w : World) (hn : n ≤ 9223372036854775807)
    (H : Hid (∀ i, i < n → ∀ j, j < 5 → w.cell? ⟨g, q + i * 5 + j, none⟩ = some (.int .i64 (F i j)))) (H' : Hid (∀ i, i < n → ∀ j, j < 5 → w.cell? ⟨g', q' + i * 5 + j, none⟩ = some (.int .i64 (F i j)))) :
    Calls Try.prog 36 #[.slice (some ⟨g, q, none⟩) n cap, .slice (some ⟨g', q', none⟩) n cap'] w fun e w' => e = .returned (.bool true) ∧ ∃ m, w.drewN m = w' := by
  go_enter Try.func36, Try.ntmps36
  go_wp2
  go_loopw [5] (fun i wr => ∃ k m : Nat, k ≤ n ∧ i = .int .i64 k ∧ w.drewN m = wr) (fun i _ => n - (intOf i).toNat)
  case atStart => exact ⟨0, 0, Nat.zero_le _, rfl, rfl⟩
  case round =>
    obtain ⟨k, m, hk, rfl, hwr⟩ := hrel
    by_cases hlt : k < n
    · have h1 := H.out k hlt
      have h2 := H'.out k hlt
      have c0 : wr.cell? ⟨g, q + k * 5, none⟩ = some (.int .i64 (F k 0)) := by rw [← hwr]; exact h1 0 (by omega)
      have c1 : wr.cell? ⟨g, q + k * 5 + 1, none⟩ = some (.int .i64 (F k 1)) := by rw [← hwr]; exact h1 1 (by omega)
      have c2 : wr.cell? ⟨g, q + k * 5 + 2, none⟩ = some (.int .i64 (F k 2)) := by rw [← hwr]; exact h1 2 (by omega)
      have c3 : wr.cell? ⟨g, q + k * 5 + 3, none⟩ = some (.int .i64 (F k 3)) := by rw [← hwr]; exact h1 3 (by omega)
      have c4 : wr.cell? ⟨g, q + k * 5 + 4, none⟩ = some (.int .i64 (F k 4)) := by rw [← hwr]; exact h1 4 (by omega)
      have d0 : wr.cell? ⟨g', q' + k * 5, none⟩ = some (.int .i64 (F k 0)) := by rw [← hwr]; exact h2 0 (by omega)
      have d1 : wr.cell? ⟨g', q' + k * 5 + 1, none⟩ = some (.int .i64 (F k 1)) := by rw [← hwr]; exact h2 1 (by omega)
      have d2 : wr.cell? ⟨g', q' + k * 5 + 2, none⟩ = some (.int .i64 (F k 2)) := by rw [← hwr]; exact h2 2 (by omega)
      have d3 : wr.cell? ⟨g', q' + k * 5 + 3, none⟩ = some (.int .i64 (F k 3)) := by rw [← hwr]; exact h2 3 (by omega)
      have d4 : wr.cell? ⟨g', q' + k * 5 + 4, none⟩ = some (.int .i64 (F k 4)) := by rw [← hwr]; exact h2 4 (by omega)
      have HW := hid hwr
      clear hwr h1 h2
      generalize F k 0 = x0 at *
      generalize F k 1 = x1 at *
      generalize F k 2 = x2 at *
      generalize F k 3 = x3 at *
      generalize F k 4 = x4 at *
      go_wp2_with fail
      go_quiet (fail)
      go_wp2_with fail
      go_roundw
      case rel => exact ⟨k + 1, m + _, by omega, by go_num, by rw [← HW.out, World.drewN_drewN]⟩
      case measure => simp [intOf]; omega
    · go_wp2
      go_ret
      exact ⟨rfl, m, hwr⟩

end Go.Proofs.Ytoilakjlnflpbaa.GurA
