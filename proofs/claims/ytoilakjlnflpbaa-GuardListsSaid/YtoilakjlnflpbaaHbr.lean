/- Breaks: handed in with marked room behind them, the same, kept. -/
import Derived.Test.YtoilakjlnflpbaaVrw
import Derived.OwnWalk
import Derived.BigQuiet
namespace Go.Proofs.Ytoilakjlnflpbaa.Hbr
open Go.ChangeShapes Go.WideShapes Go.ChangeAt Go.RowKit Base Vrw
set_option linter.unusedVariables false

structure R where
  f0 : ByteArray
  f1 : Nat
  f2 : Int
  f3 : Int
  f4 : Int
  f5 : Int
  f6 : Int
def rv (x : R) : List Value := [.string x.f0, .int .u8 (x.f1 : Nat), .int .i64 x.f2, .int .i64 x.f3, .int .i64 x.f4, .int .i64 x.f5, .int .i64 x.f6]
def zs : List Value := [.string ⟨#[]⟩, .int .u8 0, .int .i64 0, .int .i64 0, .int .i64 0, .int .i64 0, .int .i64 0]

/-- n of them in a row -/
def VA (w : World) (a : Option Addr) (n : Nat) (L : Nat → R) : Prop :=
  0 < n → ∃ g o, a = some ⟨g, o, none⟩ ∧ g < w.heap.size ∧ ∀ i, i < n → ∀ (j : Nat) v, (rv (L i))[j]? = some v → w.cell? ⟨g, o + i * 7 + j, none⟩ = some v
theorem VA.below {w w' : World} {a : Option Addr} {n : Nat} {L : Nat → R} (h : VA w a n L) (hb : Below w.heap.size w w') : VA w' a n L := fun h0 => by
  obtain ⟨g, o, rfl, hg, hc⟩ := h h0
  exact ⟨g, o, rfl, Nat.lt_of_lt_of_le hg hb.size, fun i hi j v hv => (hb.cell (p := ⟨g, o + i * 7 + j, none⟩) hg).trans (hc i hi j v hv)⟩

/-- they, and the marks behind them -/
def mk (n : Nat) (L : Nat → R) : Nat → Value := fun j => if j < n * 7 then (rv (L (j / 7))).getD (j % 7) (.bool false) else if j % 7 = 2 then .int .i64 (-700 - ((j / 7 : Nat) : Int) + n) else zs.getD (j % 7) (.bool false)
theorem mk_in {n k j : Nat} {L : Nat → R} {v : Value} (hk : k < n) (hj : j < 7) (hv : (rv (L k))[j]? = some v) : mk n L (k * 7 + j) = v := by
  unfold mk
  rw [if_pos (by omega), show (k * 7 + j) / 7 = k by omega, show (k * 7 + j) % 7 = j by omega]
  simp [List.getD, hv]
theorem mk_pos {n k : Nat} {L : Nat → R} (hk : n ≤ k) : mk n L (k * 7 + 2) = .int .i64 (-700 - (k : Int) + n) := by
  unfold mk
  rw [if_neg (by omega), if_pos (by omega), show (k * 7 + 2) / 7 = k by omega]
theorem mk_out {n k j : Nat} {L : Nat → R} {v : Value} (hk : n ≤ k) (hj : j < 7) (hp : j ≠ 2) (hv : zs[j]? = some v) : mk n L (k * 7 + j) = v := by
  unfold mk
  rw [if_neg (by omega), if_neg (by omega), show (k * 7 + j) % 7 = j by omega]
  simp [List.getD, hv]

def zf : Nat → Value := fun j => zs.getD (j % 7) (.bool false)

theorem fillR {w : World} {g N k : Nat} {G : Nat → Value} (h : VRow w g N (fillV zf (k * 7) G)) (hk : k * 7 + 7 ≤ N) {x0 x1 x2 x3 x4 x5 x6 : Value}
    (e0 : G (k * 7) = x0) (e1 : G (k * 7 + 1) = x1) (e2 : G (k * 7 + 2) = x2) (e3 : G (k * 7 + 3) = x3) (e4 : G (k * 7 + 4) = x4) (e5 : G (k * 7 + 5) = x5) (e6 : G (k * 7 + 6) = x6) :
    VRow ((((((((w).setCell ⟨g, k * 7, none⟩ x0).setCell ⟨g, k * 7 + 1, none⟩ x1).setCell ⟨g, k * 7 + 2, none⟩ x2).setCell ⟨g, k * 7 + 3, none⟩ x3).setCell ⟨g, k * 7 + 4, none⟩ x4).setCell ⟨g, k * 7 + 5, none⟩ x5).setCell ⟨g, k * 7 + 6, none⟩ x6) g N (fillV zf ((k + 1) * 7) G) := by
  subst e0 e1 e2 e3 e4 e5 e6
  have h := h.set (k * 7) (by omega) (G (k * 7))
  rw [fillV_set] at h
  have h := h.set (k * 7 + 1) (by omega) (G (k * 7 + 1))
  rw [fillV_set] at h
  have h := h.set (k * 7 + 2) (by omega) (G (k * 7 + 2))
  rw [fillV_set] at h
  have h := h.set (k * 7 + 3) (by omega) (G (k * 7 + 3))
  rw [fillV_set] at h
  have h := h.set (k * 7 + 4) (by omega) (G (k * 7 + 4))
  rw [fillV_set] at h
  have h := h.set (k * 7 + 5) (by omega) (G (k * 7 + 5))
  rw [fillV_set] at h
  have h := h.set (k * 7 + 6) (by omega) (G (k * 7 + 6))
  rw [fillV_set] at h
  rw [show (k + 1) * 7 = k * 7 + 6 + 1 by omega]
  exact h

theorem infoR : (Try.prog.info? 107).map (fun i => (i.zero, i.size, i.bytes)) = some (some (.agg #[.string ⟨#[]⟩, .int .u8 0, .int .i64 0, .int .i64 0, .int .i64 0, .int .i64 0, .int .i64 0]), 7, 64) := by kernel_rfl

theorem madeR (m j : Nat) (hj : j < m) : (madeCells (Value.agg #[.string ⟨#[]⟩, .int .u8 0, .int .i64 0, .int .i64 0, .int .i64 0, .int .i64 0, .int .i64 0]).cells m).toList[j]? = some (zf j) := by
  simp only [madeCells, Value.cells]
  unfold zf zs
  rcases (by omega : j % 7 = 0 ∨ j % 7 = 1 ∨ j % 7 = 2 ∨ j % 7 = 3 ∨ j % 7 = 4 ∨ j % 7 = 5 ∨ j % 7 = 6) with e | e | e | e | e | e | e <;> simp [hj, e]

set_option maxRecDepth 20000 in
set_option maxHeartbeats 4000000 in
theorem hand (a : Option Addr) (n cap : Nat) (L : Nat → R) (w : World) (hn : n ≤ 2199023255553) (HI : Hid (VA w a n L)) :
    Calls Try.prog 43 #[.slice a n cap] w fun e w' => e = .returned (.slice (some ⟨w.heap.size, 0, none⟩) n (n + 9)) ∧ VRow w' w.heap.size ((n + 9) * 7) (mk n L) ∧ Below w.heap.size w w' ∧ w.heap.size < w'.heap.size := by
  obtain ⟨i0, hi, hz0, hz1, hz2⟩ := info_parts infoR
  go_enter Try.func43, Try.ntmps43
  go_wp2_with (at_make; refine wpList_make_full _ rfl _ _ 47 rfl w.heap.size 107 i0 (.agg #[.string ⟨#[]⟩, .int .u8 0, .int .i64 0, .int .i64 0, .int .i64 0, .int .i64 0, .int .i64 0]) 7 Try.underlying47 hi hz0 hz1 .i64 .i64 ((n : Int) + 9) ((n : Int) + 9) (n + 9) rfl rfl (by omega) (by omega) ?b2 ?b3 (Nat.le_refl _) ?_; rotate_left 2; intro w1 hown hgrow)
  case b2 => rw [hz2]; omega
  case b3 => unfold maxLen; omega
  have HB1 : Hid (Below w.heap.size w w1) := hid ((Below.refl _ _).grown hgrow (Nat.le_refl _) (fun _ e => by cases e))
  have HR1 : Hid (VRow w1 w.heap.size ((n + 9) * 7) (fillV zf (0 * 7) (mk n L))) := hid (VRow.owned hown (fun j hj => by rw [madeR _ _ hj]; simp [fillV]))
  have hs1 : w.heap.size < w1.heap.size := (hown.lt w.heap.size rfl).2
  clear hown hgrow
  obtain ⟨B, hB⟩ : ∃ B, w.heap.size = B := ⟨_, rfl⟩
  have HIw := hid hB
  rw [hB] at HB1 HR1 hs1 ⊢
  go_loopw [4] (fun i wr => ∃ k : Nat, k ≤ n ∧ i = .int .i64 k ∧ VRow wr B ((n + 9) * 7) (fillV zf (k * 7) (mk n L)) ∧ Below B w wr ∧ B < wr.heap.size) (fun i _ => n - (intOf i).toNat)
  case atStart => exact ⟨0, Nat.zero_le _, rfl, HR1.out, HB1.out, hs1⟩
  case round =>
    obtain ⟨k, hk, rfl, hrow, hbel, hsz⟩ := hrel
    have HR := hid hrow
    have HB := hid hbel
    clear hrow hbel
    by_cases hlt : k < n
    · obtain ⟨g, o, rfl, hg, hc⟩ := HI.out (by omega)
      have c0 : wr.cell? ⟨g, o + k * 7, none⟩ = some (.string (L k).f0) := (HB.out.cell (p := ⟨g, o + k * 7 + 0, none⟩) (by show g < B; omega)).trans (hc k hlt 0 _ rfl)
      have c1 : wr.cell? ⟨g, o + k * 7 + 1, none⟩ = some (.int .u8 ((L k).f1 : Nat)) := (HB.out.cell (p := ⟨g, o + k * 7 + 1, none⟩) (by show g < B; omega)).trans (hc k hlt 1 _ rfl)
      have c2 : wr.cell? ⟨g, o + k * 7 + 2, none⟩ = some (.int .i64 (L k).f2) := (HB.out.cell (p := ⟨g, o + k * 7 + 2, none⟩) (by show g < B; omega)).trans (hc k hlt 2 _ rfl)
      have c3 : wr.cell? ⟨g, o + k * 7 + 3, none⟩ = some (.int .i64 (L k).f3) := (HB.out.cell (p := ⟨g, o + k * 7 + 3, none⟩) (by show g < B; omega)).trans (hc k hlt 3 _ rfl)
      have c4 : wr.cell? ⟨g, o + k * 7 + 4, none⟩ = some (.int .i64 (L k).f4) := (HB.out.cell (p := ⟨g, o + k * 7 + 4, none⟩) (by show g < B; omega)).trans (hc k hlt 4 _ rfl)
      have c5 : wr.cell? ⟨g, o + k * 7 + 5, none⟩ = some (.int .i64 (L k).f5) := (HB.out.cell (p := ⟨g, o + k * 7 + 5, none⟩) (by show g < B; omega)).trans (hc k hlt 5 _ rfl)
      have c6 : wr.cell? ⟨g, o + k * 7 + 6, none⟩ = some (.int .i64 (L k).f6) := (HB.out.cell (p := ⟨g, o + k * 7 + 6, none⟩) (by show g < B; omega)).trans (hc k hlt 6 _ rfl)
      have d0 := (HR.out (k * 7) (by omega)).1
      have g0 := (HR.out (k * 7) (by omega)).2
      have d1 := (HR.out (k * 7 + 1) (by omega)).1
      have g1 := (HR.out (k * 7 + 1) (by omega)).2
      have d2 := (HR.out (k * 7 + 2) (by omega)).1
      have g2 := (HR.out (k * 7 + 2) (by omega)).2
      have d3 := (HR.out (k * 7 + 3) (by omega)).1
      have g3 := (HR.out (k * 7 + 3) (by omega)).2
      have d4 := (HR.out (k * 7 + 4) (by omega)).1
      have g4 := (HR.out (k * 7 + 4) (by omega)).2
      have d5 := (HR.out (k * 7 + 5) (by omega)).1
      have g5 := (HR.out (k * 7 + 5) (by omega)).2
      have d6 := (HR.out (k * 7 + 6) (by omega)).1
      have g6 := (HR.out (k * 7 + 6) (by omega)).2
      have hgs : g < wr.heap.size := by omega
      have HN := hid (fillR HR.out (by omega) (mk_in (j := 0) hlt (by omega) rfl) (mk_in hlt (by omega) rfl) (mk_in hlt (by omega) rfl) (mk_in hlt (by omega) rfl) (mk_in hlt (by omega) rfl) (mk_in hlt (by omega) rfl) (mk_in hlt (by omega) rfl))
      have HB2 := hid (Below.setCell (p := ⟨B, k * 7 + 6, none⟩) (Below.setCell (p := ⟨B, k * 7 + 5, none⟩) (Below.setCell (p := ⟨B, k * 7 + 4, none⟩) (Below.setCell (p := ⟨B, k * 7 + 3, none⟩) (Below.setCell (p := ⟨B, k * 7 + 2, none⟩) (Below.setCell (p := ⟨B, k * 7 + 1, none⟩) (Below.setCell (p := ⟨B, k * 7, none⟩) (HB.out) (Nat.le_refl _) (.string (L k).f0)) (Nat.le_refl _) (.int .u8 ((L k).f1 : Nat))) (Nat.le_refl _) (.int .i64 (L k).f2)) (Nat.le_refl _) (.int .i64 (L k).f3)) (Nat.le_refl _) (.int .i64 (L k).f4)) (Nat.le_refl _) (.int .i64 (L k).f5)) (Nat.le_refl _) (.int .i64 (L k).f6))
      clear hc
      generalize (L k).f0 = x0 at *
      generalize (L k).f1 = x1 at *
      generalize (L k).f2 = x2 at *
      generalize (L k).f3 = x3 at *
      generalize (L k).f4 = x4 at *
      generalize (L k).f5 = x5 at *
      generalize (L k).f6 = x6 at *
      generalize fillV zf (k * 7) _ (k * 7) = y0 at *
      generalize fillV zf (k * 7) _ (k * 7 + 1) = y1 at *
      generalize fillV zf (k * 7) _ (k * 7 + 2) = y2 at *
      generalize fillV zf (k * 7) _ (k * 7 + 3) = y3 at *
      generalize fillV zf (k * 7) _ (k * 7 + 4) = y4 at *
      generalize fillV zf (k * 7) _ (k * 7 + 5) = y5 at *
      generalize fillV zf (k * 7) _ (k * 7 + 6) = y6 at *
      go_wp2_with fail
      go_roundw
      case rel => exact ⟨k + 1, by omega, by go_num, HN.out, HB2.out, by simpa using hsz⟩
      case measure => simp [intOf]; omega
    · obtain rfl : k = n := by omega
      go_wp2_with fail
      go_loopw [5] (fun i wr => ∃ m : Nat, m ≤ k + 9 ∧ i = .int .i64 m ∧ k ≤ m ∧ VRow wr B ((k + 9) * 7) (fillV zf (m * 7) (mk k L)) ∧ Below B w wr ∧ B < wr.heap.size) (fun i _ => (k + 9) - (intOf i).toNat)
      case atStart => exact ⟨k, by omega, rfl, Nat.le_refl _, HR.out, HB.out, hsz⟩
      case round =>
        obtain ⟨m, hm, rfl, hkm, hrow, hbel, hsz2⟩ := hrel
        have HR3 := hid hrow
        have HB3 := hid hbel
        clear hrow hbel
        by_cases hml : m < k + 9
        · have d0 := (HR3.out (m * 7) (by omega)).1
          have g0 := (HR3.out (m * 7) (by omega)).2
          have d1 := (HR3.out (m * 7 + 1) (by omega)).1
          have g1 := (HR3.out (m * 7 + 1) (by omega)).2
          have d2 := (HR3.out (m * 7 + 2) (by omega)).1
          have g2 := (HR3.out (m * 7 + 2) (by omega)).2
          have d3 := (HR3.out (m * 7 + 3) (by omega)).1
          have g3 := (HR3.out (m * 7 + 3) (by omega)).2
          have d4 := (HR3.out (m * 7 + 4) (by omega)).1
          have g4 := (HR3.out (m * 7 + 4) (by omega)).2
          have d5 := (HR3.out (m * 7 + 5) (by omega)).1
          have g5 := (HR3.out (m * 7 + 5) (by omega)).2
          have d6 := (HR3.out (m * 7 + 6) (by omega)).1
          have g6 := (HR3.out (m * 7 + 6) (by omega)).2
          have HN := hid (fillR HR3.out (by omega) (mk_out (j := 0) hkm (by omega) (by omega) rfl) (mk_out (j := 1) hkm (by omega) (by omega) rfl) (mk_pos hkm) (mk_out (j := 3) hkm (by omega) (by omega) rfl) (mk_out (j := 4) hkm (by omega) (by omega) rfl) (mk_out (j := 5) hkm (by omega) (by omega) rfl) (mk_out (j := 6) hkm (by omega) (by omega) rfl))
          have HB4 := hid (Below.setCell (p := ⟨B, m * 7 + 6, none⟩) (Below.setCell (p := ⟨B, m * 7 + 5, none⟩) (Below.setCell (p := ⟨B, m * 7 + 4, none⟩) (Below.setCell (p := ⟨B, m * 7 + 3, none⟩) (Below.setCell (p := ⟨B, m * 7 + 2, none⟩) (Below.setCell (p := ⟨B, m * 7 + 1, none⟩) (Below.setCell (p := ⟨B, m * 7, none⟩) (HB3.out) (Nat.le_refl _) (.string ⟨#[]⟩)) (Nat.le_refl _) (.int .u8 0)) (Nat.le_refl _) (.int .i64 (-700 - (m : Int) + k))) (Nat.le_refl _) (.int .i64 0)) (Nat.le_refl _) (.int .i64 0)) (Nat.le_refl _) (.int .i64 0)) (Nat.le_refl _) (.int .i64 0))
          generalize fillV zf (m * 7) _ (m * 7) = y0 at *
          generalize fillV zf (m * 7) _ (m * 7 + 1) = y1 at *
          generalize fillV zf (m * 7) _ (m * 7 + 2) = y2 at *
          generalize fillV zf (m * 7) _ (m * 7 + 3) = y3 at *
          generalize fillV zf (m * 7) _ (m * 7 + 4) = y4 at *
          generalize fillV zf (m * 7) _ (m * 7 + 5) = y5 at *
          generalize fillV zf (m * 7) _ (m * 7 + 6) = y6 at *
          go_wp2_with fail
          go_roundw
          case rel => exact ⟨m + 1, by omega, by go_num, by omega, HN.out, HB4.out, by simpa using hsz2⟩
          case measure => simp [intOf]; omega
        · obtain rfl : m = k + 9 := by omega
          go_wp2_with fail
          go_ret
          subst hB
          exact ⟨rfl, HR3.out.congr (fun j hj => by simp [fillV, hj]), HB3.out, hsz2⟩

set_option maxHeartbeats 400000 in
theorem same_none (a a' : Option Addr) (cap cap' : Nat) (w : World) :
    Calls Try.prog 70 #[.slice a 0 cap, .slice a' 0 cap'] w fun e w' => e = .returned (.bool true) ∧ ∃ m, w.drewN m = w' := by
  go_enter Try.func70, Try.ntmps70
  go_wp2
  go_loop [5] (fun i => i = .int .i64 0) (fun i => 0)
  case atStart => rfl
  case round =>
    obtain rfl := hrel
    go_wp2
    go_ret
    exact ⟨rfl, 0, rfl⟩

set_option maxRecDepth 20000 in
set_option maxHeartbeats 2000000 in
theorem same_core (g q g' q' n cap cap' : Nat) (L : Nat → R) (w : World) (hn : n ≤ 9223372036854775807)
    (H : Hid (∀ i, i < n → ∀ (j : Nat) v, (rv (L i))[j]? = some v → w.cell? ⟨g, q + i * 7 + j, none⟩ = some v)) (H' : Hid (∀ i, i < n → ∀ (j : Nat) v, (rv (L i))[j]? = some v → w.cell? ⟨g', q' + i * 7 + j, none⟩ = some v)) :
    Calls Try.prog 70 #[.slice (some ⟨g, q, none⟩) n cap, .slice (some ⟨g', q', none⟩) n cap'] w fun e w' => e = .returned (.bool true) ∧ ∃ m, w.drewN m = w' := by
  go_enter Try.func70, Try.ntmps70
  go_wp2
  go_loopw [5] (fun i wr => ∃ k m : Nat, k ≤ n ∧ i = .int .i64 k ∧ w.drewN m = wr) (fun i _ => n - (intOf i).toNat)
  case atStart => exact ⟨0, 0, Nat.zero_le _, rfl, rfl⟩
  case round =>
    obtain ⟨k, m, hk, rfl, hwr⟩ := hrel
    by_cases hlt : k < n
    · have h1 := H.out k hlt
      have h2 := H'.out k hlt
      have c0 : wr.cell? ⟨g, q + k * 7, none⟩ = some (.string (L k).f0) := by rw [← hwr]; exact h1 0 _ rfl
      have c1 : wr.cell? ⟨g, q + k * 7 + 1, none⟩ = some (.int .u8 ((L k).f1 : Nat)) := by rw [← hwr]; exact h1 1 _ rfl
      have c2 : wr.cell? ⟨g, q + k * 7 + 2, none⟩ = some (.int .i64 (L k).f2) := by rw [← hwr]; exact h1 2 _ rfl
      have c3 : wr.cell? ⟨g, q + k * 7 + 3, none⟩ = some (.int .i64 (L k).f3) := by rw [← hwr]; exact h1 3 _ rfl
      have c4 : wr.cell? ⟨g, q + k * 7 + 4, none⟩ = some (.int .i64 (L k).f4) := by rw [← hwr]; exact h1 4 _ rfl
      have c5 : wr.cell? ⟨g, q + k * 7 + 5, none⟩ = some (.int .i64 (L k).f5) := by rw [← hwr]; exact h1 5 _ rfl
      have c6 : wr.cell? ⟨g, q + k * 7 + 6, none⟩ = some (.int .i64 (L k).f6) := by rw [← hwr]; exact h1 6 _ rfl
      have d0 : wr.cell? ⟨g', q' + k * 7, none⟩ = some (.string (L k).f0) := by rw [← hwr]; exact h2 0 _ rfl
      have d1 : wr.cell? ⟨g', q' + k * 7 + 1, none⟩ = some (.int .u8 ((L k).f1 : Nat)) := by rw [← hwr]; exact h2 1 _ rfl
      have d2 : wr.cell? ⟨g', q' + k * 7 + 2, none⟩ = some (.int .i64 (L k).f2) := by rw [← hwr]; exact h2 2 _ rfl
      have d3 : wr.cell? ⟨g', q' + k * 7 + 3, none⟩ = some (.int .i64 (L k).f3) := by rw [← hwr]; exact h2 3 _ rfl
      have d4 : wr.cell? ⟨g', q' + k * 7 + 4, none⟩ = some (.int .i64 (L k).f4) := by rw [← hwr]; exact h2 4 _ rfl
      have d5 : wr.cell? ⟨g', q' + k * 7 + 5, none⟩ = some (.int .i64 (L k).f5) := by rw [← hwr]; exact h2 5 _ rfl
      have d6 : wr.cell? ⟨g', q' + k * 7 + 6, none⟩ = some (.int .i64 (L k).f6) := by rw [← hwr]; exact h2 6 _ rfl
      have HW := hid hwr
      clear hwr h1 h2
      generalize (L k).f0 = x0 at *
      generalize (L k).f1 = x1 at *
      generalize (L k).f2 = x2 at *
      generalize (L k).f3 = x3 at *
      generalize (L k).f4 = x4 at *
      generalize (L k).f5 = x5 at *
      generalize (L k).f6 = x6 at *
      go_wp2_with fail
      go_quiet (fail)
      go_wp2_with fail
      go_roundw
      case rel => exact ⟨k + 1, m + _, by omega, by go_num, by rw [← HW.out, World.drewN_drewN]⟩
      case measure => simp [intOf]; omega
    · go_wp2
      go_ret
      exact ⟨rfl, m, hwr⟩

theorem same_any (a : Option Addr) (g n N cap cap' : Nat) (L : Nat → R) (w : World) (hn : n ≤ 9223372036854775807) (hN : n * 7 ≤ N) (hr : VRow w g N (mk n L)) (h' : VA w a n L) :
    Calls Try.prog 70 #[.slice (some ⟨g, 0, none⟩) n cap, .slice a n cap'] w fun e w' => e = .returned (.bool true) ∧ ∃ m, w.drewN m = w' := by
  by_cases h0 : n = 0
  · subst h0; exact same_none _ a cap cap' w
  · obtain ⟨g', o', rfl, _, hr'⟩ := h' (by omega)
    refine same_core g 0 g' o' n cap cap' L w hn (hid fun i hi j v hv => ?_) (hid hr')
    have hj : j < 7 := (List.getElem?_eq_some_iff.1 hv).1
    rw [show 0 + i * 7 + j = i * 7 + j by omega, ← mk_in (L := L) hi hj hv]
    exact (hr (i * 7 + j) (by omega)).1

set_option maxRecDepth 20000 in
set_option maxHeartbeats 2000000 in
theorem kept (a : Option Addr) (g n cap : Nat) (L : Nat → R) (w : World) (hn : n ≤ 2199023255553) (hin : VA w a n L) (hr : VRow w g ((n + 9) * 7) (mk n L)) :
    Calls Try.prog 53 #[.slice (some ⟨g, 0, none⟩) n (n + 9), .slice a n cap] w fun e w' => e = .returned (.bool true) ∧ ∃ m, w.drewN m = w' := by
  have HS := hid (same_any a g n ((n + 9) * 7) (n + 9) cap L w (by omega) (by omega) hr hin)
  have HR := hid hr
  clear hr hin
  go_enter Try.func53, Try.ntmps53
  go_wp2_with fail
  refine HS.out.mono ?_
  rintro e w1 ⟨rfl, m1, hw1⟩
  clear HS
  go_wp2_with fail
  go_loopw [6] (fun i wr => ∃ k m : Nat, k ≤ n + 9 ∧ n ≤ k ∧ i = .int .i64 k ∧ w.drewN m = wr) (fun i _ => n + 9 - (intOf i).toNat)
  case atStart => exact ⟨n, m1, by omega, Nat.le_refl _, rfl, hw1⟩
  case round =>
    obtain ⟨k, m, hk, hnk, rfl, hwr⟩ := hrel
    by_cases hlt : k < n + 9
    · have hq : ∀ j, j < 7 → wr.cell? ⟨g, k * 7 + j, none⟩ = some (mk n L (k * 7 + j)) := fun j hj => by rw [← hwr]; exact (HR.out (k * 7 + j) (by omega)).1
      have h0 : wr.cell? ⟨g, k * 7, none⟩ = some (.string ⟨#[]⟩) := by rw [← mk_out (L := L) (j := 0) hnk (by omega) (by omega) (show zs[0]? = some _ from rfl)]; exact hq 0 (by omega)
      have h1 : wr.cell? ⟨g, k * 7 + 1, none⟩ = some (.int .u8 0) := by rw [← mk_out (L := L) (j := 1) hnk (by omega) (by omega) (show zs[1]? = some _ from rfl)]; exact hq 1 (by omega)
      have h2 : wr.cell? ⟨g, k * 7 + 2, none⟩ = some (.int .i64 (-700 - (k : Int) + n)) := by rw [← mk_pos (L := L) hnk]; exact hq 2 (by omega)
      have h3 : wr.cell? ⟨g, k * 7 + 3, none⟩ = some (.int .i64 0) := by rw [← mk_out (L := L) (j := 3) hnk (by omega) (by omega) (show zs[3]? = some _ from rfl)]; exact hq 3 (by omega)
      have h4 : wr.cell? ⟨g, k * 7 + 4, none⟩ = some (.int .i64 0) := by rw [← mk_out (L := L) (j := 4) hnk (by omega) (by omega) (show zs[4]? = some _ from rfl)]; exact hq 4 (by omega)
      have h5 : wr.cell? ⟨g, k * 7 + 5, none⟩ = some (.int .i64 0) := by rw [← mk_out (L := L) (j := 5) hnk (by omega) (by omega) (show zs[5]? = some _ from rfl)]; exact hq 5 (by omega)
      have h6 : wr.cell? ⟨g, k * 7 + 6, none⟩ = some (.int .i64 0) := by rw [← mk_out (L := L) (j := 6) hnk (by omega) (by omega) (show zs[6]? = some _ from rfl)]; exact hq 6 (by omega)
      have HW := hid hwr
      clear hwr hw1 hq
      go_wp2_with fail
      go_roundw
      case rel => exact ⟨k + 1, m, by omega, by omega, by go_num, HW.out⟩
      case measure => simp [intOf]; omega
    · go_wp2
      go_ret
      exact ⟨rfl, m, hwr⟩

end Go.Proofs.Ytoilakjlnflpbaa.Hbr
