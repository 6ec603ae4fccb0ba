/- Flows: handed in with marked room behind them, the same, kept. -/
import Derived.Test.YtoilakjlnflpbaaVrw
import Derived.OwnWalk
import Derived.BigQuiet
namespace Go.Proofs.Ytoilakjlnflpbaa.Hfl
open Go.ChangeShapes Go.WideShapes Go.ChangeAt Go.RowKit Base Vrw
set_option linter.unusedVariables false

structure R where
  f0 : ByteArray
  f1 : ByteArray
  f2 : Bool
  f3 : Int
  f4 : Nat
  f5 : ByteArray
  f6 : Nat
  f7 : Int
  f8 : Int
  f9 : Bool
  f10 : Int
  f11 : Bool
def rv (x : R) : List Value := [.string x.f0, .string x.f1, .bool x.f2, .int .i64 x.f3, .int .u8 (x.f4 : Nat), .string x.f5, .int .u8 (x.f6 : Nat), .int .i64 x.f7, .int .i64 x.f8, .bool x.f9, .int .i64 x.f10, .bool x.f11]
def zs : List Value := [.string ⟨#[]⟩, .string ⟨#[]⟩, .bool false, .int .i64 0, .int .u8 0, .string ⟨#[]⟩, .int .u8 0, .int .i64 0, .int .i64 0, .bool false, .int .i64 0, .bool false]

/-- n of them in a row -/
def VA (w : World) (a : Option Addr) (n : Nat) (L : Nat → R) : Prop :=
  0 < n → ∃ g o, a = some ⟨g, o, none⟩ ∧ g < w.heap.size ∧ ∀ i, i < n → ∀ (j : Nat) v, (rv (L i))[j]? = some v → w.cell? ⟨g, o + i * 12 + j, none⟩ = some v
theorem VA.below {w w' : World} {a : Option Addr} {n : Nat} {L : Nat → R} (h : VA w a n L) (hb : Below w.heap.size w w') : VA w' a n L := fun h0 => by
  obtain ⟨g, o, rfl, hg, hc⟩ := h h0
  exact ⟨g, o, rfl, Nat.lt_of_lt_of_le hg hb.size, fun i hi j v hv => (hb.cell (p := ⟨g, o + i * 12 + j, none⟩) hg).trans (hc i hi j v hv)⟩

/-- they, and the marks behind them -/
def mk (n : Nat) (L : Nat → R) : Nat → Value := fun j => if j < n * 12 then (rv (L (j / 12))).getD (j % 12) (.bool false) else if j % 12 = 3 then .int .i64 (-700 - ((j / 12 : Nat) : Int) + n) else zs.getD (j % 12) (.bool false)
theorem mk_in {n k j : Nat} {L : Nat → R} {v : Value} (hk : k < n) (hj : j < 12) (hv : (rv (L k))[j]? = some v) : mk n L (k * 12 + j) = v := by
  unfold mk
  rw [if_pos (by omega), show (k * 12 + j) / 12 = k by omega, show (k * 12 + j) % 12 = j by omega]
  simp [List.getD, hv]
theorem mk_pos {n k : Nat} {L : Nat → R} (hk : n ≤ k) : mk n L (k * 12 + 3) = .int .i64 (-700 - (k : Int) + n) := by
  unfold mk
  rw [if_neg (by omega), if_pos (by omega), show (k * 12 + 3) / 12 = k by omega]
theorem mk_out {n k j : Nat} {L : Nat → R} {v : Value} (hk : n ≤ k) (hj : j < 12) (hp : j ≠ 3) (hv : zs[j]? = some v) : mk n L (k * 12 + j) = v := by
  unfold mk
  rw [if_neg (by omega), if_neg (by omega), show (k * 12 + j) % 12 = j by omega]
  simp [List.getD, hv]

def zf : Nat → Value := fun j => zs.getD (j % 12) (.bool false)

theorem fillR {w : World} {g N k : Nat} {G : Nat → Value} (h : VRow w g N (fillV zf (k * 12) G)) (hk : k * 12 + 12 ≤ N) {x0 x1 x2 x3 x4 x5 x6 x7 x8 x9 x10 x11 : Value}
    (e0 : G (k * 12) = x0) (e1 : G (k * 12 + 1) = x1) (e2 : G (k * 12 + 2) = x2) (e3 : G (k * 12 + 3) = x3) (e4 : G (k * 12 + 4) = x4) (e5 : G (k * 12 + 5) = x5) (e6 : G (k * 12 + 6) = x6) (e7 : G (k * 12 + 7) = x7) (e8 : G (k * 12 + 8) = x8) (e9 : G (k * 12 + 9) = x9) (e10 : G (k * 12 + 10) = x10) (e11 : G (k * 12 + 11) = x11) :
    VRow (((((((((((((w).setCell ⟨g, k * 12, none⟩ x0).setCell ⟨g, k * 12 + 1, none⟩ x1).setCell ⟨g, k * 12 + 2, none⟩ x2).setCell ⟨g, k * 12 + 3, none⟩ x3).setCell ⟨g, k * 12 + 4, none⟩ x4).setCell ⟨g, k * 12 + 5, none⟩ x5).setCell ⟨g, k * 12 + 6, none⟩ x6).setCell ⟨g, k * 12 + 7, none⟩ x7).setCell ⟨g, k * 12 + 8, none⟩ x8).setCell ⟨g, k * 12 + 9, none⟩ x9).setCell ⟨g, k * 12 + 10, none⟩ x10).setCell ⟨g, k * 12 + 11, none⟩ x11) g N (fillV zf ((k + 1) * 12) G) := by
  subst e0 e1 e2 e3 e4 e5 e6 e7 e8 e9 e10 e11
  have h := h.set (k * 12) (by omega) (G (k * 12))
  rw [fillV_set] at h
  have h := h.set (k * 12 + 1) (by omega) (G (k * 12 + 1))
  rw [fillV_set] at h
  have h := h.set (k * 12 + 2) (by omega) (G (k * 12 + 2))
  rw [fillV_set] at h
  have h := h.set (k * 12 + 3) (by omega) (G (k * 12 + 3))
  rw [fillV_set] at h
  have h := h.set (k * 12 + 4) (by omega) (G (k * 12 + 4))
  rw [fillV_set] at h
  have h := h.set (k * 12 + 5) (by omega) (G (k * 12 + 5))
  rw [fillV_set] at h
  have h := h.set (k * 12 + 6) (by omega) (G (k * 12 + 6))
  rw [fillV_set] at h
  have h := h.set (k * 12 + 7) (by omega) (G (k * 12 + 7))
  rw [fillV_set] at h
  have h := h.set (k * 12 + 8) (by omega) (G (k * 12 + 8))
  rw [fillV_set] at h
  have h := h.set (k * 12 + 9) (by omega) (G (k * 12 + 9))
  rw [fillV_set] at h
  have h := h.set (k * 12 + 10) (by omega) (G (k * 12 + 10))
  rw [fillV_set] at h
  have h := h.set (k * 12 + 11) (by omega) (G (k * 12 + 11))
  rw [fillV_set] at h
  rw [show (k + 1) * 12 = k * 12 + 11 + 1 by omega]
  exact h

theorem infoR : (Try.prog.info? 104).map (fun i => (i.zero, i.size, i.bytes)) = some (some (.agg #[.string ⟨#[]⟩, .string ⟨#[]⟩, .bool false, .int .i64 0, .int .u8 0, .string ⟨#[]⟩, .int .u8 0, .int .i64 0, .int .i64 0, .bool false, .int .i64 0, .bool false]), 12, 120) := by kernel_rfl

theorem madeR (m j : Nat) (hj : j < m) : (madeCells (Value.agg #[.string ⟨#[]⟩, .string ⟨#[]⟩, .bool false, .int .i64 0, .int .u8 0, .string ⟨#[]⟩, .int .u8 0, .int .i64 0, .int .i64 0, .bool false, .int .i64 0, .bool false]).cells m).toList[j]? = some (zf j) := by
  simp only [madeCells, Value.cells]
  unfold zf zs
  rcases (by omega : j % 12 = 0 ∨ j % 12 = 1 ∨ j % 12 = 2 ∨ j % 12 = 3 ∨ j % 12 = 4 ∨ j % 12 = 5 ∨ j % 12 = 6 ∨ j % 12 = 7 ∨ j % 12 = 8 ∨ j % 12 = 9 ∨ j % 12 = 10 ∨ j % 12 = 11) with e | e | e | e | e | e | e | e | e | e | e | e <;> simp [hj, e]

set_option maxRecDepth 20000 in
set_option maxHeartbeats 4000000 in
theorem hand (a : Option Addr) (n cap : Nat) (L : Nat → R) (w : World) (hn : n ≤ 1172812402962) (HI : Hid (VA w a n L)) :
    Calls Try.prog 42 #[.slice a n cap] w fun e w' => e = .returned (.slice (some ⟨w.heap.size, 0, none⟩) n (n + 9)) ∧ VRow w' w.heap.size ((n + 9) * 12) (mk n L) ∧ Below w.heap.size w w' ∧ w.heap.size < w'.heap.size := by
  obtain ⟨i0, hi, hz0, hz1, hz2⟩ := info_parts infoR
  go_enter Try.func42, Try.ntmps42
  go_wp2_with (at_make; refine wpList_make_full _ rfl _ _ 46 rfl w.heap.size 104 i0 (.agg #[.string ⟨#[]⟩, .string ⟨#[]⟩, .bool false, .int .i64 0, .int .u8 0, .string ⟨#[]⟩, .int .u8 0, .int .i64 0, .int .i64 0, .bool false, .int .i64 0, .bool false]) 12 Try.underlying46 hi hz0 hz1 .i64 .i64 ((n : Int) + 9) ((n : Int) + 9) (n + 9) rfl rfl (by omega) (by omega) ?b2 ?b3 (Nat.le_refl _) ?_; rotate_left 2; intro w1 hown hgrow)
  case b2 => rw [hz2]; omega
  case b3 => unfold maxLen; omega
  have HB1 : Hid (Below w.heap.size w w1) := hid ((Below.refl _ _).grown hgrow (Nat.le_refl _) (fun _ e => by cases e))
  have HR1 : Hid (VRow w1 w.heap.size ((n + 9) * 12) (fillV zf (0 * 12) (mk n L))) := hid (VRow.owned hown (fun j hj => by rw [madeR _ _ hj]; simp [fillV]))
  have hs1 : w.heap.size < w1.heap.size := (hown.lt w.heap.size rfl).2
  clear hown hgrow
  obtain ⟨B, hB⟩ : ∃ B, w.heap.size = B := ⟨_, rfl⟩
  have HIw := hid hB
  rw [hB] at HB1 HR1 hs1 ⊢
  go_loopw [4] (fun i wr => ∃ k : Nat, k ≤ n ∧ i = .int .i64 k ∧ VRow wr B ((n + 9) * 12) (fillV zf (k * 12) (mk n L)) ∧ Below B w wr ∧ B < wr.heap.size) (fun i _ => n - (intOf i).toNat)
  case atStart => exact ⟨0, Nat.zero_le _, rfl, HR1.out, HB1.out, hs1⟩
  case round =>
    obtain ⟨k, hk, rfl, hrow, hbel, hsz⟩ := hrel
    have HR := hid hrow
    have HB := hid hbel
    clear hrow hbel
    by_cases hlt : k < n
    · obtain ⟨g, o, rfl, hg, hc⟩ := HI.out (by omega)
      have c0 : wr.cell? ⟨g, o + k * 12, none⟩ = some (.string (L k).f0) := (HB.out.cell (p := ⟨g, o + k * 12 + 0, none⟩) (by show g < B; omega)).trans (hc k hlt 0 _ rfl)
      have c1 : wr.cell? ⟨g, o + k * 12 + 1, none⟩ = some (.string (L k).f1) := (HB.out.cell (p := ⟨g, o + k * 12 + 1, none⟩) (by show g < B; omega)).trans (hc k hlt 1 _ rfl)
      have c2 : wr.cell? ⟨g, o + k * 12 + 2, none⟩ = some (.bool (L k).f2) := (HB.out.cell (p := ⟨g, o + k * 12 + 2, none⟩) (by show g < B; omega)).trans (hc k hlt 2 _ rfl)
      have c3 : wr.cell? ⟨g, o + k * 12 + 3, none⟩ = some (.int .i64 (L k).f3) := (HB.out.cell (p := ⟨g, o + k * 12 + 3, none⟩) (by show g < B; omega)).trans (hc k hlt 3 _ rfl)
      have c4 : wr.cell? ⟨g, o + k * 12 + 4, none⟩ = some (.int .u8 ((L k).f4 : Nat)) := (HB.out.cell (p := ⟨g, o + k * 12 + 4, none⟩) (by show g < B; omega)).trans (hc k hlt 4 _ rfl)
      have c5 : wr.cell? ⟨g, o + k * 12 + 5, none⟩ = some (.string (L k).f5) := (HB.out.cell (p := ⟨g, o + k * 12 + 5, none⟩) (by show g < B; omega)).trans (hc k hlt 5 _ rfl)
      have c6 : wr.cell? ⟨g, o + k * 12 + 6, none⟩ = some (.int .u8 ((L k).f6 : Nat)) := (HB.out.cell (p := ⟨g, o + k * 12 + 6, none⟩) (by show g < B; omega)).trans (hc k hlt 6 _ rfl)
      have c7 : wr.cell? ⟨g, o + k * 12 + 7, none⟩ = some (.int .i64 (L k).f7) := (HB.out.cell (p := ⟨g, o + k * 12 + 7, none⟩) (by show g < B; omega)).trans (hc k hlt 7 _ rfl)
      have c8 : wr.cell? ⟨g, o + k * 12 + 8, none⟩ = some (.int .i64 (L k).f8) := (HB.out.cell (p := ⟨g, o + k * 12 + 8, none⟩) (by show g < B; omega)).trans (hc k hlt 8 _ rfl)
      have c9 : wr.cell? ⟨g, o + k * 12 + 9, none⟩ = some (.bool (L k).f9) := (HB.out.cell (p := ⟨g, o + k * 12 + 9, none⟩) (by show g < B; omega)).trans (hc k hlt 9 _ rfl)
      have c10 : wr.cell? ⟨g, o + k * 12 + 10, none⟩ = some (.int .i64 (L k).f10) := (HB.out.cell (p := ⟨g, o + k * 12 + 10, none⟩) (by show g < B; omega)).trans (hc k hlt 10 _ rfl)
      have c11 : wr.cell? ⟨g, o + k * 12 + 11, none⟩ = some (.bool (L k).f11) := (HB.out.cell (p := ⟨g, o + k * 12 + 11, none⟩) (by show g < B; omega)).trans (hc k hlt 11 _ rfl)
      have d0 := (HR.out (k * 12) (by omega)).1
      have g0 := (HR.out (k * 12) (by omega)).2
      have d1 := (HR.out (k * 12 + 1) (by omega)).1
      have g1 := (HR.out (k * 12 + 1) (by omega)).2
      have d2 := (HR.out (k * 12 + 2) (by omega)).1
      have g2 := (HR.out (k * 12 + 2) (by omega)).2
      have d3 := (HR.out (k * 12 + 3) (by omega)).1
      have g3 := (HR.out (k * 12 + 3) (by omega)).2
      have d4 := (HR.out (k * 12 + 4) (by omega)).1
      have g4 := (HR.out (k * 12 + 4) (by omega)).2
      have d5 := (HR.out (k * 12 + 5) (by omega)).1
      have g5 := (HR.out (k * 12 + 5) (by omega)).2
      have d6 := (HR.out (k * 12 + 6) (by omega)).1
      have g6 := (HR.out (k * 12 + 6) (by omega)).2
      have d7 := (HR.out (k * 12 + 7) (by omega)).1
      have g7 := (HR.out (k * 12 + 7) (by omega)).2
      have d8 := (HR.out (k * 12 + 8) (by omega)).1
      have g8 := (HR.out (k * 12 + 8) (by omega)).2
      have d9 := (HR.out (k * 12 + 9) (by omega)).1
      have g9 := (HR.out (k * 12 + 9) (by omega)).2
      have d10 := (HR.out (k * 12 + 10) (by omega)).1
      have g10 := (HR.out (k * 12 + 10) (by omega)).2
      have d11 := (HR.out (k * 12 + 11) (by omega)).1
      have g11 := (HR.out (k * 12 + 11) (by omega)).2
      have hgs : g < wr.heap.size := by omega
      have HN := hid (fillR HR.out (by omega) (mk_in (j := 0) hlt (by omega) rfl) (mk_in hlt (by omega) rfl) (mk_in hlt (by omega) rfl) (mk_in hlt (by omega) rfl) (mk_in hlt (by omega) rfl) (mk_in hlt (by omega) rfl) (mk_in hlt (by omega) rfl) (mk_in hlt (by omega) rfl) (mk_in hlt (by omega) rfl) (mk_in hlt (by omega) rfl) (mk_in hlt (by omega) rfl) (mk_in hlt (by omega) rfl))
      have HB2 := hid (Below.setCell (p := ⟨B, k * 12 + 11, none⟩) (Below.setCell (p := ⟨B, k * 12 + 10, none⟩) (Below.setCell (p := ⟨B, k * 12 + 9, none⟩) (Below.setCell (p := ⟨B, k * 12 + 8, none⟩) (Below.setCell (p := ⟨B, k * 12 + 7, none⟩) (Below.setCell (p := ⟨B, k * 12 + 6, none⟩) (Below.setCell (p := ⟨B, k * 12 + 5, none⟩) (Below.setCell (p := ⟨B, k * 12 + 4, none⟩) (Below.setCell (p := ⟨B, k * 12 + 3, none⟩) (Below.setCell (p := ⟨B, k * 12 + 2, none⟩) (Below.setCell (p := ⟨B, k * 12 + 1, none⟩) (Below.setCell (p := ⟨B, k * 12, none⟩) (HB.out) (Nat.le_refl _) (.string (L k).f0)) (Nat.le_refl _) (.string (L k).f1)) (Nat.le_refl _) (.bool (L k).f2)) (Nat.le_refl _) (.int .i64 (L k).f3)) (Nat.le_refl _) (.int .u8 ((L k).f4 : Nat))) (Nat.le_refl _) (.string (L k).f5)) (Nat.le_refl _) (.int .u8 ((L k).f6 : Nat))) (Nat.le_refl _) (.int .i64 (L k).f7)) (Nat.le_refl _) (.int .i64 (L k).f8)) (Nat.le_refl _) (.bool (L k).f9)) (Nat.le_refl _) (.int .i64 (L k).f10)) (Nat.le_refl _) (.bool (L k).f11))
      clear hc
      generalize (L k).f0 = x0 at *
      generalize (L k).f1 = x1 at *
      generalize (L k).f2 = x2 at *
      generalize (L k).f3 = x3 at *
      generalize (L k).f4 = x4 at *
      generalize (L k).f5 = x5 at *
      generalize (L k).f6 = x6 at *
      generalize (L k).f7 = x7 at *
      generalize (L k).f8 = x8 at *
      generalize (L k).f9 = x9 at *
      generalize (L k).f10 = x10 at *
      generalize (L k).f11 = x11 at *
      generalize fillV zf (k * 12) _ (k * 12) = y0 at *
      generalize fillV zf (k * 12) _ (k * 12 + 1) = y1 at *
      generalize fillV zf (k * 12) _ (k * 12 + 2) = y2 at *
      generalize fillV zf (k * 12) _ (k * 12 + 3) = y3 at *
      generalize fillV zf (k * 12) _ (k * 12 + 4) = y4 at *
      generalize fillV zf (k * 12) _ (k * 12 + 5) = y5 at *
      generalize fillV zf (k * 12) _ (k * 12 + 6) = y6 at *
      generalize fillV zf (k * 12) _ (k * 12 + 7) = y7 at *
      generalize fillV zf (k * 12) _ (k * 12 + 8) = y8 at *
      generalize fillV zf (k * 12) _ (k * 12 + 9) = y9 at *
      generalize fillV zf (k * 12) _ (k * 12 + 10) = y10 at *
      generalize fillV zf (k * 12) _ (k * 12 + 11) = y11 at *
      go_wp2_with fail
      go_roundw
      case rel => exact ⟨k + 1, by omega, by go_num, HN.out, HB2.out, by simpa using hsz⟩
      case measure => simp [intOf]; omega
    · obtain rfl : k = n := by omega
      go_wp2_with fail
      go_loopw [5] (fun i wr => ∃ m : Nat, m ≤ k + 9 ∧ i = .int .i64 m ∧ k ≤ m ∧ VRow wr B ((k + 9) * 12) (fillV zf (m * 12) (mk k L)) ∧ Below B w wr ∧ B < wr.heap.size) (fun i _ => (k + 9) - (intOf i).toNat)
      case atStart => exact ⟨k, by omega, rfl, Nat.le_refl _, HR.out, HB.out, hsz⟩
      case round =>
        obtain ⟨m, hm, rfl, hkm, hrow, hbel, hsz2⟩ := hrel
        have HR3 := hid hrow
        have HB3 := hid hbel
        clear hrow hbel
        by_cases hml : m < k + 9
        · have d0 := (HR3.out (m * 12) (by omega)).1
          have g0 := (HR3.out (m * 12) (by omega)).2
          have d1 := (HR3.out (m * 12 + 1) (by omega)).1
          have g1 := (HR3.out (m * 12 + 1) (by omega)).2
          have d2 := (HR3.out (m * 12 + 2) (by omega)).1
          have g2 := (HR3.out (m * 12 + 2) (by omega)).2
          have d3 := (HR3.out (m * 12 + 3) (by omega)).1
          have g3 := (HR3.out (m * 12 + 3) (by omega)).2
          have d4 := (HR3.out (m * 12 + 4) (by omega)).1
          have g4 := (HR3.out (m * 12 + 4) (by omega)).2
          have d5 := (HR3.out (m * 12 + 5) (by omega)).1
          have g5 := (HR3.out (m * 12 + 5) (by omega)).2
          have d6 := (HR3.out (m * 12 + 6) (by omega)).1
          have g6 := (HR3.out (m * 12 + 6) (by omega)).2
          have d7 := (HR3.out (m * 12 + 7) (by omega)).1
          have g7 := (HR3.out (m * 12 + 7) (by omega)).2
          have d8 := (HR3.out (m * 12 + 8) (by omega)).1
          have g8 := (HR3.out (m * 12 + 8) (by omega)).2
          have d9 := (HR3.out (m * 12 + 9) (by omega)).1
          have g9 := (HR3.out (m * 12 + 9) (by omega)).2
          have d10 := (HR3.out (m * 12 + 10) (by omega)).1
          have g10 := (HR3.out (m * 12 + 10) (by omega)).2
          have d11 := (HR3.out (m * 12 + 11) (by omega)).1
          have g11 := (HR3.out (m * 12 + 11) (by omega)).2
          have HN := hid (fillR HR3.out (by omega) (mk_out (j := 0) hkm (by omega) (by omega) rfl) (mk_out (j := 1) hkm (by omega) (by omega) rfl) (mk_out (j := 2) hkm (by omega) (by omega) rfl) (mk_pos hkm) (mk_out (j := 4) hkm (by omega) (by omega) rfl) (mk_out (j := 5) hkm (by omega) (by omega) rfl) (mk_out (j := 6) hkm (by omega) (by omega) rfl) (mk_out (j := 7) hkm (by omega) (by omega) rfl) (mk_out (j := 8) hkm (by omega) (by omega) rfl) (mk_out (j := 9) hkm (by omega) (by omega) rfl) (mk_out (j := 10) hkm (by omega) (by omega) rfl) (mk_out (j := 11) hkm (by omega) (by omega) rfl))
          have HB4 := hid (Below.setCell (p := ⟨B, m * 12 + 11, none⟩) (Below.setCell (p := ⟨B, m * 12 + 10, none⟩) (Below.setCell (p := ⟨B, m * 12 + 9, none⟩) (Below.setCell (p := ⟨B, m * 12 + 8, none⟩) (Below.setCell (p := ⟨B, m * 12 + 7, none⟩) (Below.setCell (p := ⟨B, m * 12 + 6, none⟩) (Below.setCell (p := ⟨B, m * 12 + 5, none⟩) (Below.setCell (p := ⟨B, m * 12 + 4, none⟩) (Below.setCell (p := ⟨B, m * 12 + 3, none⟩) (Below.setCell (p := ⟨B, m * 12 + 2, none⟩) (Below.setCell (p := ⟨B, m * 12 + 1, none⟩) (Below.setCell (p := ⟨B, m * 12, none⟩) (HB3.out) (Nat.le_refl _) (.string ⟨#[]⟩)) (Nat.le_refl _) (.string ⟨#[]⟩)) (Nat.le_refl _) (.bool false)) (Nat.le_refl _) (.int .i64 (-700 - (m : Int) + k))) (Nat.le_refl _) (.int .u8 0)) (Nat.le_refl _) (.string ⟨#[]⟩)) (Nat.le_refl _) (.int .u8 0)) (Nat.le_refl _) (.int .i64 0)) (Nat.le_refl _) (.int .i64 0)) (Nat.le_refl _) (.bool false)) (Nat.le_refl _) (.int .i64 0)) (Nat.le_refl _) (.bool false))
          generalize fillV zf (m * 12) _ (m * 12) = y0 at *
          generalize fillV zf (m * 12) _ (m * 12 + 1) = y1 at *
          generalize fillV zf (m * 12) _ (m * 12 + 2) = y2 at *
          generalize fillV zf (m * 12) _ (m * 12 + 3) = y3 at *
          generalize fillV zf (m * 12) _ (m * 12 + 4) = y4 at *
          generalize fillV zf (m * 12) _ (m * 12 + 5) = y5 at *
          generalize fillV zf (m * 12) _ (m * 12 + 6) = y6 at *
          generalize fillV zf (m * 12) _ (m * 12 + 7) = y7 at *
          generalize fillV zf (m * 12) _ (m * 12 + 8) = y8 at *
          generalize fillV zf (m * 12) _ (m * 12 + 9) = y9 at *
          generalize fillV zf (m * 12) _ (m * 12 + 10) = y10 at *
          generalize fillV zf (m * 12) _ (m * 12 + 11) = y11 at *
          go_wp2_with fail
          go_roundw
          case rel => exact ⟨m + 1, by omega, by go_num, by omega, HN.out, HB4.out, by simpa using hsz2⟩
          case measure => simp [intOf]; omega
        · obtain rfl : m = k + 9 := by omega
          go_wp2_with fail
          go_ret
          subst hB
          exact ⟨rfl, HR3.out.congr (fun j hj => by simp [fillV, hj]), HB3.out, hsz2⟩

set_option maxHeartbeats 400000 in
theorem same_none (a a' : Option Addr) (cap cap' : Nat) (w : World) :
    Calls Try.prog 69 #[.slice a 0 cap, .slice a' 0 cap'] w fun e w' => e = .returned (.bool true) ∧ ∃ m, w.drewN m = w' := by
  go_enter Try.func69, Try.ntmps69
  go_wp2
  go_loop [5] (fun i => i = .int .i64 0) (fun i => 0)
  case atStart => rfl
  case round =>
    obtain rfl := hrel
    go_wp2
    go_ret
    exact ⟨rfl, 0, rfl⟩

set_option maxRecDepth 20000 in
set_option maxHeartbeats 2000000 in
theorem same_core (g q g' q' n cap cap' : Nat) (L : Nat → R) (w : World) (hn : n ≤ 9223372036854775807)
    (H : Hid (∀ i, i < n → ∀ (j : Nat) v, (rv (L i))[j]? = some v → w.cell? ⟨g, q + i * 12 + j, none⟩ = some v)) (H' : Hid (∀ i, i < n → ∀ (j : Nat) v, (rv (L i))[j]? = some v → w.cell? ⟨g', q' + i * 12 + j, none⟩ = some v)) :
    Calls Try.prog 69 #[.slice (some ⟨g, q, none⟩) n cap, .slice (some ⟨g', q', none⟩) n cap'] w fun e w' => e = .returned (.bool true) ∧ ∃ m, w.drewN m = w' := by
  go_enter Try.func69, Try.ntmps69
  go_wp2
  go_loopw [5] (fun i wr => ∃ k m : Nat, k ≤ n ∧ i = .int .i64 k ∧ w.drewN m = wr) (fun i _ => n - (intOf i).toNat)
  case atStart => exact ⟨0, 0, Nat.zero_le _, rfl, rfl⟩
  case round =>
    obtain ⟨k, m, hk, rfl, hwr⟩ := hrel
    by_cases hlt : k < n
    · have h1 := H.out k hlt
      have h2 := H'.out k hlt
      have c0 : wr.cell? ⟨g, q + k * 12, none⟩ = some (.string (L k).f0) := by rw [← hwr]; exact h1 0 _ rfl
      have c1 : wr.cell? ⟨g, q + k * 12 + 1, none⟩ = some (.string (L k).f1) := by rw [← hwr]; exact h1 1 _ rfl
      have c2 : wr.cell? ⟨g, q + k * 12 + 2, none⟩ = some (.bool (L k).f2) := by rw [← hwr]; exact h1 2 _ rfl
      have c3 : wr.cell? ⟨g, q + k * 12 + 3, none⟩ = some (.int .i64 (L k).f3) := by rw [← hwr]; exact h1 3 _ rfl
      have c4 : wr.cell? ⟨g, q + k * 12 + 4, none⟩ = some (.int .u8 ((L k).f4 : Nat)) := by rw [← hwr]; exact h1 4 _ rfl
      have c5 : wr.cell? ⟨g, q + k * 12 + 5, none⟩ = some (.string (L k).f5) := by rw [← hwr]; exact h1 5 _ rfl
      have c6 : wr.cell? ⟨g, q + k * 12 + 6, none⟩ = some (.int .u8 ((L k).f6 : Nat)) := by rw [← hwr]; exact h1 6 _ rfl
      have c7 : wr.cell? ⟨g, q + k * 12 + 7, none⟩ = some (.int .i64 (L k).f7) := by rw [← hwr]; exact h1 7 _ rfl
      have c8 : wr.cell? ⟨g, q + k * 12 + 8, none⟩ = some (.int .i64 (L k).f8) := by rw [← hwr]; exact h1 8 _ rfl
      have c9 : wr.cell? ⟨g, q + k * 12 + 9, none⟩ = some (.bool (L k).f9) := by rw [← hwr]; exact h1 9 _ rfl
      have c10 : wr.cell? ⟨g, q + k * 12 + 10, none⟩ = some (.int .i64 (L k).f10) := by rw [← hwr]; exact h1 10 _ rfl
      have c11 : wr.cell? ⟨g, q + k * 12 + 11, none⟩ = some (.bool (L k).f11) := by rw [← hwr]; exact h1 11 _ rfl
      have d0 : wr.cell? ⟨g', q' + k * 12, none⟩ = some (.string (L k).f0) := by rw [← hwr]; exact h2 0 _ rfl
      have d1 : wr.cell? ⟨g', q' + k * 12 + 1, none⟩ = some (.string (L k).f1) := by rw [← hwr]; exact h2 1 _ rfl
      have d2 : wr.cell? ⟨g', q' + k * 12 + 2, none⟩ = some (.bool (L k).f2) := by rw [← hwr]; exact h2 2 _ rfl
      have d3 : wr.cell? ⟨g', q' + k * 12 + 3, none⟩ = some (.int .i64 (L k).f3) := by rw [← hwr]; exact h2 3 _ rfl
      have d4 : wr.cell? ⟨g', q' + k * 12 + 4, none⟩ = some (.int .u8 ((L k).f4 : Nat)) := by rw [← hwr]; exact h2 4 _ rfl
      have d5 : wr.cell? ⟨g', q' + k * 12 + 5, none⟩ = some (.string (L k).f5) := by rw [← hwr]; exact h2 5 _ rfl
      have d6 : wr.cell? ⟨g', q' + k * 12 + 6, none⟩ = some (.int .u8 ((L k).f6 : Nat)) := by rw [← hwr]; exact h2 6 _ rfl
      have d7 : wr.cell? ⟨g', q' + k * 12 + 7, none⟩ = some (.int .i64 (L k).f7) := by rw [← hwr]; exact h2 7 _ rfl
      have d8 : wr.cell? ⟨g', q' + k * 12 + 8, none⟩ = some (.int .i64 (L k).f8) := by rw [← hwr]; exact h2 8 _ rfl
      have d9 : wr.cell? ⟨g', q' + k * 12 + 9, none⟩ = some (.bool (L k).f9) := by rw [← hwr]; exact h2 9 _ rfl
      have d10 : wr.cell? ⟨g', q' + k * 12 + 10, none⟩ = some (.int .i64 (L k).f10) := by rw [← hwr]; exact h2 10 _ rfl
      have d11 : wr.cell? ⟨g', q' + k * 12 + 11, none⟩ = some (.bool (L k).f11) := by rw [← hwr]; exact h2 11 _ rfl
      have HW := hid hwr
      clear hwr h1 h2
      generalize (L k).f0 = x0 at *
      generalize (L k).f1 = x1 at *
      generalize (L k).f2 = x2 at *
      generalize (L k).f3 = x3 at *
      generalize (L k).f4 = x4 at *
      generalize (L k).f5 = x5 at *
      generalize (L k).f6 = x6 at *
      generalize (L k).f7 = x7 at *
      generalize (L k).f8 = x8 at *
      generalize (L k).f9 = x9 at *
      generalize (L k).f10 = x10 at *
      generalize (L k).f11 = x11 at *
      go_wp2_with fail
      go_quiet (fail)
      go_wp2_with fail
      go_roundw
      case rel => exact ⟨k + 1, m + _, by omega, by go_num, by rw [← HW.out, World.drewN_drewN]⟩
      case measure => simp [intOf]; omega
    · go_wp2
      go_ret
      exact ⟨rfl, m, hwr⟩

theorem same_any (a : Option Addr) (g n N cap cap' : Nat) (L : Nat → R) (w : World) (hn : n ≤ 9223372036854775807) (hN : n * 12 ≤ N) (hr : VRow w g N (mk n L)) (h' : VA w a n L) :
    Calls Try.prog 69 #[.slice (some ⟨g, 0, none⟩) n cap, .slice a n cap'] w fun e w' => e = .returned (.bool true) ∧ ∃ m, w.drewN m = w' := by
  by_cases h0 : n = 0
  · subst h0; exact same_none _ a cap cap' w
  · obtain ⟨g', o', rfl, _, hr'⟩ := h' (by omega)
    refine same_core g 0 g' o' n cap cap' L w hn (hid fun i hi j v hv => ?_) (hid hr')
    have hj : j < 12 := (List.getElem?_eq_some_iff.1 hv).1
    rw [show 0 + i * 12 + j = i * 12 + j by omega, ← mk_in (L := L) hi hj hv]
    exact (hr (i * 12 + j) (by omega)).1

set_option maxRecDepth 20000 in
set_option maxHeartbeats 2000000 in
theorem kept (a : Option Addr) (g n cap : Nat) (L : Nat → R) (w : World) (hn : n ≤ 1172812402962) (hin : VA w a n L) (hr : VRow w g ((n + 9) * 12) (mk n L)) :
    Calls Try.prog 52 #[.slice (some ⟨g, 0, none⟩) n (n + 9), .slice a n cap] w fun e w' => e = .returned (.bool true) ∧ ∃ m, w.drewN m = w' := by
  have HS := hid (same_any a g n ((n + 9) * 12) (n + 9) cap L w (by omega) (by omega) hr hin)
  have HR := hid hr
  clear hr hin
  go_enter Try.func52, Try.ntmps52
  go_wp2_with fail
  refine HS.out.mono ?_
  rintro e w1 ⟨rfl, m1, hw1⟩
  clear HS
  go_wp2_with fail
  go_loopw [6] (fun i wr => ∃ k m : Nat, k ≤ n + 9 ∧ n ≤ k ∧ i = .int .i64 k ∧ w.drewN m = wr) (fun i _ => n + 9 - (intOf i).toNat)
  case atStart => exact ⟨n, m1, by omega, Nat.le_refl _, rfl, hw1⟩
  case round =>
    obtain ⟨k, m, hk, hnk, rfl, hwr⟩ := hrel
    by_cases hlt : k < n + 9
    · have hq : ∀ j, j < 12 → wr.cell? ⟨g, k * 12 + j, none⟩ = some (mk n L (k * 12 + j)) := fun j hj => by rw [← hwr]; exact (HR.out (k * 12 + j) (by omega)).1
      have h0 : wr.cell? ⟨g, k * 12, none⟩ = some (.string ⟨#[]⟩) := by rw [← mk_out (L := L) (j := 0) hnk (by omega) (by omega) (show zs[0]? = some _ from rfl)]; exact hq 0 (by omega)
      have h1 : wr.cell? ⟨g, k * 12 + 1, none⟩ = some (.string ⟨#[]⟩) := by rw [← mk_out (L := L) (j := 1) hnk (by omega) (by omega) (show zs[1]? = some _ from rfl)]; exact hq 1 (by omega)
      have h2 : wr.cell? ⟨g, k * 12 + 2, none⟩ = some (.bool false) := by rw [← mk_out (L := L) (j := 2) hnk (by omega) (by omega) (show zs[2]? = some _ from rfl)]; exact hq 2 (by omega)
      have h3 : wr.cell? ⟨g, k * 12 + 3, none⟩ = some (.int .i64 (-700 - (k : Int) + n)) := by rw [← mk_pos (L := L) hnk]; exact hq 3 (by omega)
      have h4 : wr.cell? ⟨g, k * 12 + 4, none⟩ = some (.int .u8 0) := by rw [← mk_out (L := L) (j := 4) hnk (by omega) (by omega) (show zs[4]? = some _ from rfl)]; exact hq 4 (by omega)
      have h5 : wr.cell? ⟨g, k * 12 + 5, none⟩ = some (.string ⟨#[]⟩) := by rw [← mk_out (L := L) (j := 5) hnk (by omega) (by omega) (show zs[5]? = some _ from rfl)]; exact hq 5 (by omega)
      have h6 : wr.cell? ⟨g, k * 12 + 6, none⟩ = some (.int .u8 0) := by rw [← mk_out (L := L) (j := 6) hnk (by omega) (by omega) (show zs[6]? = some _ from rfl)]; exact hq 6 (by omega)
      have h7 : wr.cell? ⟨g, k * 12 + 7, none⟩ = some (.int .i64 0) := by rw [← mk_out (L := L) (j := 7) hnk (by omega) (by omega) (show zs[7]? = some _ from rfl)]; exact hq 7 (by omega)
      have h8 : wr.cell? ⟨g, k * 12 + 8, none⟩ = some (.int .i64 0) := by rw [← mk_out (L := L) (j := 8) hnk (by omega) (by omega) (show zs[8]? = some _ from rfl)]; exact hq 8 (by omega)
      have h9 : wr.cell? ⟨g, k * 12 + 9, none⟩ = some (.bool false) := by rw [← mk_out (L := L) (j := 9) hnk (by omega) (by omega) (show zs[9]? = some _ from rfl)]; exact hq 9 (by omega)
      have h10 : wr.cell? ⟨g, k * 12 + 10, none⟩ = some (.int .i64 0) := by rw [← mk_out (L := L) (j := 10) hnk (by omega) (by omega) (show zs[10]? = some _ from rfl)]; exact hq 10 (by omega)
      have h11 : wr.cell? ⟨g, k * 12 + 11, none⟩ = some (.bool false) := by rw [← mk_out (L := L) (j := 11) hnk (by omega) (by omega) (show zs[11]? = some _ from rfl)]; exact hq 11 (by omega)
      have HW := hid hwr
      clear hwr hw1 hq
      go_wp2_with fail
      go_roundw
      case rel => exact ⟨k + 1, m, by omega, by omega, by go_num, HW.out⟩
      case measure => simp [intOf]; omega
    · go_wp2
      go_ret
      exact ⟨rfl, m, hwr⟩

end Go.Proofs.Ytoilakjlnflpbaa.Hfl
