/- The document's NewLoad, At. -/
import Derived.Test.YthkpfjjcpifkcaaLoaF
namespace Go.Proofs.Ythkpfjjcpifkcaa.LoaG
open Go.ChangeShapes Go.WideShapes Go.ChangeAt Go.RowKit Base ClkM Clk WldB WldF Wri LoaA LoaB LoaC LoaD LoaE LoaF
set_option linter.unusedVariables false

def RNewPost (m : Nat) (G : Nat → Nat → Int) (w : World) (e : Ending) (w' : World) : Prop :=
  (first (bad 0 0 G) m ≠ 0 ∧ e = .returned (.tuple #[.pointer none, .int .i64 (first (bad 0 0 G) m)]) ∧ Below w.heap.size w w') ∨
  (first (bad 0 0 G) m = 0 ∧ e = .returned (.tuple #[.pointer (some ⟨w.heap.size, 0, none⟩), .int .i64 0]) ∧ (∃ v, IsRef w' w.heap.size w.heap.size v m G) ∧ Below w.heap.size w w')

theorem owns_base {w : World} {B B' : Nat} {e : TypeId} {sz n : Nat} {v : Value} {xs : List Value} (h : w.ownsRow B e sz v n xs) (hb : B' ≤ B) : w.ownsRow B' e sz v n xs := by
  obtain ⟨h1, h2⟩ := h
  refine ⟨h1, ?_⟩
  rcases h2 with hn | ⟨g, cap, cur, rfl, hg, rest⟩
  · exact .inl hn
  · exact .inr ⟨g, cap, cur, rfl, by omega, rest⟩

set_option maxRecDepth 20000 in
set_option maxHeartbeats 1000000 in
theorem rnew_any (m mcap : Nat) (sa : Option Addr) (G : Nat → Nat → Int) (w : World) (hm : m ≤ 5864062014805) (hG : Sm w sa m G) :
    Calls Try.prog 16 #[.slice sa m mcap] w (RNewPost m G w) := by
  have HL : Hid (IsRef (w.alloc (.cells #[.slice none 0 0] 62)) w.heap.size w.heap.size (.slice none 0 0) 0 G) := hid ⟨by go_cell, by go_cell, ⟨rfl, .inl ⟨rfl, rfl⟩⟩, fun g hg => by cases hg⟩
  have HB : Hid (Below w.heap.size w (w.alloc (.cells #[.slice none 0 0] 62))) := hid ((Below.refl _ w).alloc (Nat.le_refl _) _)
  have HA := hid (radd_core w.heap.size w.heap.size 0 m 0 mcap none sa G G _ (by omega) hm HL (hid (hG.below HB.out)))
  have hs : w.heap.size ≤ (w.alloc (.cells #[.slice none 0 0] 62)).heap.size := by simp
  clear hG
  go_enter Try.func16, Try.ntmps16
  go_wp2_with fail
  refine HA.out.mono ?_
  rintro e w1 ⟨rfl, hbad, hok⟩
  have e0 : lastT G 0 = 0 := rfl
  rw [e0] at hbad hok ⊢
  rw [cat_zero, Nat.zero_add] at hok
  have HBAD := hid hbad
  have HOK := hid hok
  clear hbad hok e0
  obtain ⟨r, hr⟩ : ∃ r, first (bad 0 0 G) m = r := ⟨_, rfl⟩
  have HR := hid hr
  rw [hr] at HBAD HOK ⊢
  clear hr
  by_cases h0 : r = 0
  · subst h0
    obtain ⟨v, h1, h3⟩ := HOK.out rfl
    have H1 := hid h1
    have H3 := hid h3
    clear HOK HBAD h1 h3
    go_wp2_with fail
    go_ret2
    have h1 := H1.out
    have h3 := H3.out
    exact .inr ⟨HR.out, rfl, ⟨v, h1.cell, h1.frz, owns_base h1.own hs, h1.off⟩, Below.trans HB.out (h3.below _ hs (fun k hk => by subst hk; exact Nat.le_refl _))⟩
  · have hd : (r == 0) = false := by simpa using h0
    have hd2 : (r != 0) = true := by simpa using h0
    have HB9 := hid (HBAD.out h0)
    have H0 := hid h0
    clear h0
    go_wp2_with fail
    go_ret2
    exact .inl ⟨by rw [HR.out]; exact H0.out, by rw [HR.out]; rfl, Below.trans HB.out (HB9.out.mono hs)⟩

theorem atF_succ (F : Nat → Nat → Int) (k : Nat) (t : Int) (j : Nat) : atF F (k + 1) t j = if F k 0 ≤ t then F k j else atF F k t j := by
  unfold atF
  show (if (if F k 0 ≤ t then k + 1 else upTo F t k) = 0 then 0 else F ((if F k 0 ≤ t then k + 1 else upTo F t k) - 1) j) = _
  by_cases h : F k 0 ≤ t
  · simp [h]
  · simp [h]

/-- three numbers that can be written -/
def Three (w : World) (p : Nat) (f : Nat → Int) : Prop := ∀ j, j < 3 → w.cell? ⟨p, j, none⟩ = some (.int .i64 (f j)) ∧ w.frozen? ⟨p, j, none⟩ = false

set_option maxRecDepth 20000 in
set_option maxHeartbeats 2000000 in
theorem rat_core (b n cap : Nat) (va : Option Addr) (F : Nat → Nat → Int) (t : Int) (w : World) (hn : n ≤ 9223372036854775807) (hb : b < w.heap.size) (hc : Hid (w.cell? ⟨b, 0, none⟩ = some (.slice va n cap))) (HS : Hid (Sm w va n F)) :
    Calls Try.prog 23 #[.pointer (some ⟨b, 0, none⟩), .int .i64 t] w fun e w' => e = .returned (.agg #[.int .i64 (atF F n t 0), .int .i64 (atF F n t 1), .int .i64 (atF F n t 2)]) ∧ Below w.heap.size w w' := by
  go_enter Try.func23, Try.ntmps23
  go_wp2_with fail
  go_loopw [6] (fun i wr => ∃ k : Nat, k ≤ n ∧ i = .int .i64 k ∧ Three wr (w.heap.size + 1) (atF F k t) ∧ Three wr w.heap.size (fun _ => 0) ∧ Below w.heap.size w wr ∧ w.heap.size + 2 ≤ wr.heap.size) (fun i _ => n - (intOf i).toNat)
  case atStart =>
    refine ⟨0, Nat.zero_le _, rfl, fun j hj => ?_, fun j hj => ?_, (by repeat (first | (with_reducible exact Below.refl _ _) | (with_reducible refine Below.setCell ?_ (by first | (simp; done) | (simp; omega) | omega) _) | (with_reducible refine Below.alloc ?_ (by first | (simp; done) | (simp; omega) | omega) _) | (with_reducible refine Below.drew ?_) | (with_reducible refine below_drewN ?_ _))), by simp⟩
    · rcases (by omega : j = 0 ∨ j = 1 ∨ j = 2) with rfl | rfl | rfl <;> exact ⟨by show _ = some (Value.int .i64 0); go_cell, by go_cell⟩
    · rcases (by omega : j = 0 ∨ j = 1 ∨ j = 2) with rfl | rfl | rfl <;> exact ⟨by go_cell, by go_cell⟩
  case round =>
    obtain ⟨k, hk, rfl, h3, h4, hbel, hsz⟩ := hrel
    have H3 := hid h3
    have H4 := hid h4
    have HB := hid hbel
    clear h3 h4 hbel
    have hcb : wr.cell? ⟨b, 0, none⟩ = some (.slice va n cap) := (HB.out.cell (p := ⟨b, 0, none⟩) hb).trans hc.out
    by_cases hlt : k < n
    · obtain ⟨g, o, rfl, hg, hcc⟩ := HS.out (by omega)
      have c0 : wr.cell? ⟨g, o + k * 3, none⟩ = some (.int .i64 (F k 0)) := (HB.out.cell (p := ⟨g, o + k * 3 + 0, none⟩) hg).trans (hcc k hlt 0 (by omega))
      have c1 : wr.cell? ⟨g, o + k * 3 + 1, none⟩ = some (.int .i64 (F k 1)) := (HB.out.cell (p := ⟨g, o + k * 3 + 1, none⟩) hg).trans (hcc k hlt 1 (by omega))
      have c2 : wr.cell? ⟨g, o + k * 3 + 2, none⟩ = some (.int .i64 (F k 2)) := (HB.out.cell (p := ⟨g, o + k * 3 + 2, none⟩) hg).trans (hcc k hlt 2 (by omega))
      clear hcc
      have HT := hid (atF_succ F k t)
      have hk1 : (k : Int) < (n : Int) := by omega
      obtain ⟨x, hx⟩ : ∃ x, F k 0 = x := ⟨_, rfl⟩
      rw [hx] at c0 HT
      have HX := hid hx
      clear hx
      generalize hy : F k 1 = y at *
      have HY := hid hy
      clear hy
      generalize hz : F k 2 = z at *
      have HZ := hid hz
      clear hz
      by_cases hxt : x ≤ t
      · obtain ⟨z0, f0⟩ := H3.out 0 (by omega)
        obtain ⟨z1, f1⟩ := H3.out 1 (by omega)
        obtain ⟨z2, f2⟩ := H3.out 2 (by omega)
        generalize atF F k t 0 = p0 at z0
        generalize atF F k t 1 = p1 at z1
        generalize atF F k t 2 = p2 at z2
        have HN : Hid (Three (((wr.setCell ⟨w.heap.size + 1, 0, none⟩ (.int .i64 x)).setCell ⟨w.heap.size + 1, 1, none⟩ (.int .i64 y)).setCell ⟨w.heap.size + 1, 2, none⟩ (.int .i64 z)) (w.heap.size + 1) (atF F (k + 1) t)) := hid (fun j hj => by
          rw [HT.out, if_pos hxt, World.frozen?_setCell, World.frozen?_setCell, World.frozen?_setCell]
          rcases (by omega : j = 0 ∨ j = 1 ∨ j = 2) with rfl | rfl | rfl
          · refine ⟨?_, f0⟩
            rw [World.cell?_setCell_other _ _ _ _ (by simp), World.cell?_setCell_other _ _ _ _ (by simp), World.cell?_setCell_same _ _ _ z0, HX.out]
          · refine ⟨?_, f1⟩
            rw [World.cell?_setCell_other _ _ _ _ (by simp), World.cell?_setCell_same _ _ _ ((World.cell?_setCell_other _ _ _ _ (by simp)).trans z1), HY.out]
          · refine ⟨?_, f2⟩
            rw [World.cell?_setCell_same _ _ _ ((World.cell?_setCell_other _ _ _ _ (by simp)).trans ((World.cell?_setCell_other _ _ _ _ (by simp)).trans z2)), HZ.out])
        have HN4 : Hid (Three (((wr.setCell ⟨w.heap.size + 1, 0, none⟩ (.int .i64 x)).setCell ⟨w.heap.size + 1, 1, none⟩ (.int .i64 y)).setCell ⟨w.heap.size + 1, 2, none⟩ (.int .i64 z)) w.heap.size (fun _ => 0)) := hid (fun j hj => by
          rw [World.frozen?_setCell, World.frozen?_setCell, World.frozen?_setCell, World.cell?_setCell_other _ _ _ _ (by simp), World.cell?_setCell_other _ _ _ _ (by simp), World.cell?_setCell_other _ _ _ _ (by simp)]
          exact H4.out j hj)
        go_wp2_with fail
        exact ⟨⟨k + 1, by omega, by go_num, HN.out, HN4.out, ((HB.out.setCell (by simp) _).setCell (by simp) _).setCell (by simp) _, by simpa using hsz⟩, by simp [intOf]; omega⟩
      · have hd : decide (x ≤ t) = false := by simp; omega
        go_wp2_with fail
        go_roundw
        case rel => exact ⟨k + 1, by omega, by go_num, fun j hj => by rw [HT.out, if_neg hxt]; exact H3.out j hj, H4.out, HB.out, hsz⟩
        case measure => simp [intOf]; omega
    · obtain rfl : k = n := by omega
      obtain ⟨z0, f0⟩ := H3.out 0 (by omega)
      obtain ⟨z1, f1⟩ := H3.out 1 (by omega)
      obtain ⟨z2, f2⟩ := H3.out 2 (by omega)
      obtain ⟨y0, g0⟩ := H4.out 0 (by omega)
      obtain ⟨y1, g1⟩ := H4.out 1 (by omega)
      obtain ⟨y2, g2⟩ := H4.out 2 (by omega)
      obtain ⟨p0, hp0⟩ : ∃ p0, atF F k t 0 = p0 := ⟨_, rfl⟩
      obtain ⟨p1, hp1⟩ : ∃ p1, atF F k t 1 = p1 := ⟨_, rfl⟩
      obtain ⟨p2, hp2⟩ : ∃ p2, atF F k t 2 = p2 := ⟨_, rfl⟩
      rw [hp0] at z0
      rw [hp1] at z1
      rw [hp2] at z2
      have HP0 := hid hp0
      have HP1 := hid hp1
      have HP2 := hid hp2
      clear hp0 hp1 hp2
      have s0 : (wr.setCell ⟨w.heap.size, 0, none⟩ (.int .i64 p0)).cell? ⟨w.heap.size, 0, none⟩ = some (.int .i64 p0) := World.cell?_setCell_same _ _ _ y0
      have s1 : ((wr.setCell ⟨w.heap.size, 0, none⟩ (.int .i64 p0)).setCell ⟨w.heap.size, 1, none⟩ (.int .i64 p1)).cell? ⟨w.heap.size, 1, none⟩ = some (.int .i64 p1) := World.cell?_setCell_same _ _ _ ((World.cell?_setCell_other _ _ _ _ (by simp)).trans y1)
      have s2 : (((wr.setCell ⟨w.heap.size, 0, none⟩ (.int .i64 p0)).setCell ⟨w.heap.size, 1, none⟩ (.int .i64 p1)).setCell ⟨w.heap.size, 2, none⟩ (.int .i64 p2)).cell? ⟨w.heap.size, 2, none⟩ = some (.int .i64 p2) := World.cell?_setCell_same _ _ _ ((World.cell?_setCell_other _ _ _ _ (by simp)).trans ((World.cell?_setCell_other _ _ _ _ (by simp)).trans y2))
      go_wp2_with fail
      refine bodyPost_ret (v := .agg #[.int .i64 p0, .int .i64 p1, .int .i64 p2]) (by simp [results, Try.results23, go_sem, s0, s1, s2]) rfl ⟨by rw [HP0.out, HP1.out, HP2.out], ?_⟩
      exact (by repeat (first | (with_reducible exact Below.refl _ _) | (with_reducible refine Below.setCell ?_ (by first | (simp; done) | (simp; omega) | omega) _) | (with_reducible refine Below.alloc ?_ (by first | (simp; done) | (simp; omega) | omega) _) | (with_reducible refine Below.drew ?_) | (with_reducible refine below_drewN ?_ _) | (with_reducible exact HB.out) | (with_reducible refine Below.trans ?_ (Below.mono HB.out (by first | (simp; done) | (simp; omega) | omega)))))

end Go.Proofs.Ythkpfjjcpifkcaa.LoaG
