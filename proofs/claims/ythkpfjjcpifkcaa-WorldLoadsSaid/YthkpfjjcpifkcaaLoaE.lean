/- The program's NewLoad, Fork, Samples, At. -/
import Derived.Test.YthkpfjjcpifkcaaLoaD
namespace Go.Proofs.Ythkpfjjcpifkcaa.LoaE
open Go.ChangeShapes Go.WideShapes Go.ChangeAt Go.RowKit Base ClkM Clk WldB WldF Wri LoaA LoaB LoaC LoaD
set_option linter.unusedVariables false

theorem cat_zero (F G : Nat → Nat → Int) : cat F 0 G = G := by
  funext i j
  unfold cat
  rw [if_neg (by omega), Nat.sub_zero]

def NewPost (m : Nat) (G : Nat → Nat → Int) (w : World) (e : Ending) (w' : World) : Prop :=
  (first (bad 0 0 G) m ≠ 0 ∧ e = .returned (.tuple #[.pointer none, .int .i64 (first (bad 0 0 G) m)]) ∧ Below w.heap.size w w') ∨
  (first (bad 0 0 G) m = 0 ∧ e = .returned (.tuple #[.pointer (some ⟨w.heap.size, 0, none⟩), .int .i64 0]) ∧ (∃ v, IsLoad w' w.heap.size w.heap.size v m G) ∧ Below w.heap.size w w')

set_option maxRecDepth 20000 in
set_option maxHeartbeats 1000000 in
theorem newLoad_any (m : Nat) (sv : Value) (B2 : Nat) (G : Nat → Nat → Int) (w : World) (hm : m ≤ 5864062014805) (HG : Has w B2 sv m G) :
    Calls Try.prog 15 #[sv] w (NewPost m G w) := by
  have HL : Hid (IsLoad (w.alloc (.cells #[.slice none 0 0] 112)) w.heap.size w.heap.size (.slice none 0 0) 0 G) := hid ⟨by go_cell, by go_cell, Has.none _ _ _, fun g hg => by cases hg⟩
  have HA := hid (add_any w.heap.size w.heap.size 0 m _ sv B2 G G _ (by omega) hm HL.out (Has.below HG ((Below.refl _ w).alloc (Nat.le_refl _) _)) (Nat.le_refl _))
  have HB : Hid (Below w.heap.size w (w.alloc (.cells #[.slice none 0 0] 112))) := hid ((Below.refl _ w).alloc (Nat.le_refl _) _)
  have hs : w.heap.size ≤ (w.alloc (.cells #[.slice none 0 0] 112)).heap.size := by simp
  obtain ⟨va, vc, rfl⟩ := owns_shape HG.own
  clear HG
  go_enter Try.func15, Try.ntmps15
  go_wp2_with fail
  refine HA.out.mono ?_
  rintro e w1 ⟨rfl, hbad, hok⟩
  have e0 : lastT G 0 = 0 := rfl
  rw [e0] at hbad hok ⊢
  rw [cat_zero, Nat.zero_add] at hok
  have HBAD := hid hbad
  have HOK := hid hok
  clear hbad hok e0
  obtain ⟨r, hr⟩ : ∃ r, first (bad 0 0 G) m = r := ⟨_, rfl⟩
  have HR := hid hr
  rw [hr] at HBAD HOK ⊢
  clear hr
  by_cases h0 : r = 0
  · subst h0
    obtain ⟨v, h1, h2, h3⟩ := HOK.out rfl
    have H1 := hid h1
    have H3 := hid h3
    clear HOK HBAD h1 h2 h3
    go_wp2_with fail
    go_ret2
    have h1 := H1.out
    have h3 := H3.out
    exact .inr ⟨HR.out, rfl, ⟨v, h1⟩, Below.trans HB.out (h3.below _ hs (fun k hk => by rcases hk with rfl | hk; exact Nat.le_refl _; cases hk))⟩
  · have hd : (r == 0) = false := by simpa using h0
    have hd2 : (r != 0) = true := by simpa using h0
    have HB9 := hid (HBAD.out h0)
    have H0 := hid h0
    clear h0
    go_wp2_with fail
    go_ret2
    exact .inl ⟨by rw [HR.out]; exact H0.out, by rw [HR.out]; rfl, Below.trans HB.out (HB9.out.mono hs)⟩

set_option maxRecDepth 20000 in
set_option maxHeartbeats 1000000 in
theorem fork_any (b B n : Nat) (v : Value) (F : Nat → Nat → Int) (w : World) (hn : n ≤ 4096) (h : IsLoad w b B v n F) :
    Calls Try.prog 17 #[.pointer (some ⟨b, 0, none⟩)] w fun e w' => ∃ c v', e = .returned (.pointer (some ⟨c, 0, none⟩)) ∧ w.heap.size ≤ c ∧ IsLoad w' c w.heap.size v' n F ∧ Below w.heap.size w w' := by
  have HC := hid (clone_any v B n F w hn h.has)
  have hc := h.cell
  obtain ⟨va, vc, rfl⟩ := owns_shape h.has.own
  clear h
  go_enter Try.func17, Try.ntmps17
  go_wp2_with fail
  refine HC.out.mono ?_
  rintro e w1 ⟨v', rfl, hH, hb⟩
  have HH := hid hH
  have HB := hid hb
  have hs := hb.size
  obtain ⟨va2, vc2, rfl⟩ := owns_shape hH.own
  clear hH hb
  go_wp2_with fail
  go_ret
  refine ⟨_, _, rfl, hs, ⟨by go_cell, by go_cell, Has.below HH.out ((Below.refl _ w1).alloc (Nat.le_refl _) _), fun g hg => by have := (HH.out.own.lt g hg).2; omega⟩, HB.out.alloc hs _⟩

set_option maxRecDepth 20000 in
set_option maxHeartbeats 1000000 in
theorem samples_of (b B n : Nat) (v : Value) (F : Nat → Nat → Int) (w : World) (hn : n ≤ 4096) (h : IsLoad w b B v n F) :
    Calls Try.prog 21 #[.pointer (some ⟨b, 0, none⟩)] w fun e w' => ∃ v', e = .returned v' ∧ Has w' w.heap.size v' n F ∧ Below w.heap.size w w' := by
  have HC := hid (clone_any v B n F w hn h.has)
  have hc := h.cell
  obtain ⟨va, vc, rfl⟩ := owns_shape h.has.own
  clear h
  go_enter Try.func21, Try.ntmps21
  go_wp2_with fail
  refine HC.out.mono ?_
  rintro e w1 ⟨v', rfl, hH, hb⟩
  have HH := hid hH
  have HB := hid hb
  obtain ⟨va2, vc2, rfl⟩ := owns_shape hH.own
  clear hH hb
  go_wp2_with fail
  go_ret
  exact ⟨_, rfl, HH.out, HB.out⟩

set_option maxHeartbeats 400000 in
theorem later_any (f1 f2 b g n cap i : Nat) (x at_ : Int) (w : World) (hi : i < n) (h0 : w.cell? ⟨f1, 0, none⟩ = some (.pointer (some ⟨b, 0, none⟩))) (ha : w.cell? ⟨f2, 0, none⟩ = some (.int .i64 at_)) (h1 : w.cell? ⟨b, 0, none⟩ = some (.slice (some ⟨g, 0, none⟩) n cap)) (h2 : w.cell? ⟨g, i * 3, none⟩ = some (.int .i64 x)) :
    Calls Try.prog 53 #[.int .i64 i, .pointer (some ⟨f1, 0, none⟩), .pointer (some ⟨f2, 0, none⟩)] w fun e w' => e = .returned (.bool (decide (at_ < x))) ∧ ∃ n, w.drewN n = w' := by
  have hi1 : (i : Int) < (n : Int) := by omega
  go_enter Try.func53, Try.ntmps53
  go_wp2_with fail
  go_quiet (fail)
  go_wp2_with fail
  go_ret
  exact ⟨rfl, _, rfl⟩

theorem half_eq (i j : Nat) (hi : i ≤ 4096) (hj : j ≤ 4096) : ((i : Int) + j) / 2 = (((i + j) / 2 : Nat) : Int) := by omega

set_option maxRecDepth 20000 in
set_option maxHeartbeats 1000000 in
theorem search_any (f1 f2 b g n cap : Nat) (F : Nat → Nat → Int) (at_ : Int) (w : World) (hn : n ≤ 4096) (hF : Hid (Rising F n)) (h0 : Hid (w.cell? ⟨f1, 0, none⟩ = some (.pointer (some ⟨b, 0, none⟩)))) (ha : Hid (w.cell? ⟨f2, 0, none⟩ = some (.int .i64 at_))) (h1 : Hid (w.cell? ⟨b, 0, none⟩ = some (.slice (some ⟨g, 0, none⟩) n cap))) (h2 : Hid (∀ i, i < n → w.cell? ⟨g, i * 3, none⟩ = some (.int .i64 (F i 0)))) :
    Calls Try.prog 52 #[.int .i64 n, .func (Fn.func 53) #[] #[.pointer (some ⟨f1, 0, none⟩), .pointer (some ⟨f2, 0, none⟩)]] w fun e w' => e = .returned (.int .i64 (upTo F at_ n : Nat)) ∧ ∃ n, w.drewN n = w' := by
  have HU := hid (upTo_le F at_ n)
  obtain ⟨r, hr⟩ : ∃ r, upTo F at_ n = r := ⟨_, rfl⟩
  have HR := hid hr
  rw [hr] at HU ⊢
  clear hr
  go_enter Try.func52, Try.ntmps52
  go_wp2_with fail
  go_loopw [5, 6] (fun i j wr => (∃ n, w.drewN n = wr) ∧ ∃ x y : Nat, x ≤ r ∧ r ≤ y ∧ y ≤ n ∧ i = .int .i64 x ∧ j = .int .i64 y) (fun i j _ => (intOf j - intOf i).toNat)
  case atStart => exact ⟨⟨0, rfl⟩, 0, n, Nat.zero_le _, HU.out, Nat.le_refl _, rfl, rfl⟩
  case round =>
    obtain ⟨⟨m, rfl⟩, x, y, hx, hy, hyn, rfl, rfl⟩ := hrel
    by_cases hlt : x < y
    · have hd : decide ((x : Int) < (y : Int)) = true := by simp; omega
      obtain ⟨h, hh⟩ : ∃ h : Nat, ((x : Int) + (y : Int)) / 2 = (h : Int) := ⟨(x + y) / 2, by omega⟩
      have hxh : x ≤ h := by omega
      have hhy : h < y := by omega
      have hx4 : x ≤ 4096 := by omega
      have hy4 : y ≤ 4096 := by omega
      by_cases hhr : h < r
      · have hle : decide (at_ < F h 0) = false := by
          have := upTo_in hF.out h (by rw [HR.out]; exact hhr)
          simp; omega
        have HC := hid (later_any f1 f2 b g n cap h (F h 0) at_ (w.drewN m) (by omega) h0.out ha.out h1.out (h2.out h (by omega)))
        rw [hle] at HC
        clear hle
        go_wp2_with fail
        refine HC.out.mono ?_
        rintro e w1 ⟨rfl, m2, rfl⟩
        go_wp2
        go_roundw
        case rel => exact ⟨⟨_, rfl⟩, h + 1, y, by omega, by omega, by omega, by go_num, rfl⟩
        case measure => simp [intOf]; omega
      · have hle : decide (at_ < F h 0) = true := by
          have := upTo_out (F := F) (t := at_) (n := n) h (by rw [HR.out]; omega) (by omega)
          simp; omega
        have HC := hid (later_any f1 f2 b g n cap h (F h 0) at_ (w.drewN m) (by omega) h0.out ha.out h1.out (h2.out h (by omega)))
        rw [hle] at HC
        clear hle
        go_wp2_with fail
        refine HC.out.mono ?_
        rintro e w1 ⟨rfl, m2, rfl⟩
        go_wp2
        go_roundw
        case rel => exact ⟨⟨_, rfl⟩, x, h, by omega, by omega, by omega, rfl, rfl⟩
        case measure => simp [intOf]; omega
    · obtain rfl : x = y := by omega
      obtain rfl : x = r := by omega
      go_wp2_with fail
      go_ret
      exact ⟨rfl, _, rfl⟩

set_option maxRecDepth 20000 in
set_option maxHeartbeats 1000000 in
theorem search_zero (f : Value) (w : World) :
    Calls Try.prog 52 #[.int .i64 0, f] w fun e w' => e = .returned (.int .i64 0) ∧ w = w' := by
  go_enter Try.func52, Try.ntmps52
  go_wp2_with fail
  go_loop [5, 6] (fun i j => i = .int .i64 0 ∧ j = .int .i64 0) (fun i j => 0)
  case atStart => exact ⟨rfl, rfl⟩
  case round =>
    obtain ⟨rfl, rfl⟩ := hrel
    go_wp2
    go_ret
    exact ⟨rfl, rfl⟩

set_option maxRecDepth 20000 in
set_option maxHeartbeats 1000000 in
theorem at_none (b : Nat) (at_ : Int) (w : World) (hb : b < w.heap.size) (hc : w.cell? ⟨b, 0, none⟩ = some (.slice none 0 0)) :
    Calls Try.prog 22 #[.pointer (some ⟨b, 0, none⟩), .int .i64 at_] w fun e w' => e = .returned (.agg #[.int .i64 0, .int .i64 0, .int .i64 0]) ∧ Below w.heap.size w w' := by
  have hb1 : b < w.heap.size + 1 := by omega
  have hb2 : b < w.heap.size + 1 + 1 := by omega
  go_enter Try.func22, Try.ntmps22
  go_wp2_with fail
  refine (search_zero _ _).mono ?_
  rintro e w1 ⟨rfl, rfl⟩
  go_wp2_with fail
  refine bodyPost_ret (v := .agg #[.int .i64 0, .int .i64 0, .int .i64 0]) (by simp [results, Try.results22, go_sem]) rfl ⟨rfl, ?_⟩
  exact (by repeat (first | (with_reducible exact Below.refl _ _) | (with_reducible refine Below.setCell ?_ (by first | (simp; done) | (simp; omega) | omega) _) | (with_reducible refine Below.alloc ?_ (by first | (simp; done) | (simp; omega) | omega) _) | (with_reducible refine Below.drew ?_) | (with_reducible refine below_drewN ?_ _)))

set_option maxRecDepth 20000 in
set_option maxHeartbeats 1000000 in
theorem at_first (b g n cap : Nat) (F : Nat → Nat → Int) (at_ : Int) (w : World) (hn : n ≤ 4096) (hF : Hid (Rising F n)) (hb : b < w.heap.size) (hg : g < w.heap.size) (hc : w.cell? ⟨b, 0, none⟩ = some (.slice (some ⟨g, 0, none⟩) n cap)) (h2 : Hid (∀ i, i < n → w.cell? ⟨g, i * 3, none⟩ = some (.int .i64 (F i 0)))) (hk : Hid (upTo F at_ n = 0)) :
    Calls Try.prog 22 #[.pointer (some ⟨b, 0, none⟩), .int .i64 at_] w fun e w' => e = .returned (.agg #[.int .i64 0, .int .i64 0, .int .i64 0]) ∧ Below w.heap.size w w' := by
  have hb1 : b < w.heap.size + 1 := by omega
  have hb2 : b < w.heap.size + 1 + 1 := by omega
  have hg1 : g < w.heap.size + 1 := by omega
  have hg2 : g < w.heap.size + 1 + 1 := by omega
  go_enter Try.func22, Try.ntmps22
  go_wp2_with fail
  refine (search_any w.heap.size (w.heap.size + 1) b g n cap F at_ _ hn hF (hid (by go_cell)) (hid (by go_cell)) (hid (by go_cell)) (hid fun i hi => ?hx)).mono ?_
  case hx =>
    have hx := h2.out i hi
    go_cell
  rw [hk.out]
  rintro e w1 ⟨rfl, m, rfl⟩
  go_wp2_with fail
  refine bodyPost_ret (v := .agg #[.int .i64 0, .int .i64 0, .int .i64 0]) (by simp [results, Try.results22, go_sem]) rfl ⟨rfl, ?_⟩
  exact (by repeat (first | (with_reducible exact Below.refl _ _) | (with_reducible refine Below.setCell ?_ (by first | (simp; done) | (simp; omega) | omega) _) | (with_reducible refine Below.alloc ?_ (by first | (simp; done) | (simp; omega) | omega) _) | (with_reducible refine Below.drew ?_) | (with_reducible refine below_drewN ?_ _)))

set_option maxRecDepth 20000 in
set_option maxHeartbeats 1000000 in
theorem at_some (b g n cap k : Nat) (F : Nat → Nat → Int) (x y z at_ : Int) (w : World) (hn : n ≤ 4096) (hF : Hid (Rising F n)) (hb : b < w.heap.size) (hg : g < w.heap.size) (hc : w.cell? ⟨b, 0, none⟩ = some (.slice (some ⟨g, 0, none⟩) n cap)) (h2 : Hid (∀ i, i < n → w.cell? ⟨g, i * 3, none⟩ = some (.int .i64 (F i 0)))) (hk : Hid (upTo F at_ n = k + 1)) (hkn : k < n)
    (c0 : w.cell? ⟨g, k * 3, none⟩ = some (.int .i64 x)) (c1 : w.cell? ⟨g, k * 3 + 1, none⟩ = some (.int .i64 y)) (c2 : w.cell? ⟨g, k * 3 + 2, none⟩ = some (.int .i64 z)) :
    Calls Try.prog 22 #[.pointer (some ⟨b, 0, none⟩), .int .i64 at_] w fun e w' => e = .returned (.agg #[.int .i64 x, .int .i64 y, .int .i64 z]) ∧ Below w.heap.size w w' := by
  have hb1 : b < w.heap.size + 1 := by omega
  have hb2 : b < w.heap.size + 1 + 1 := by omega
  have hg1 : g < w.heap.size + 1 := by omega
  have hg2 : g < w.heap.size + 1 + 1 := by omega
  have hd : ((k : Int) + 1 == 0) = false := by simp; omega
  have hkn2 : (k : Int) < (n : Int) := by omega
  go_enter Try.func22, Try.ntmps22
  go_wp2_with fail
  refine (search_any w.heap.size (w.heap.size + 1) b g n cap F at_ _ hn hF (hid (by go_cell)) (hid (by go_cell)) (hid (by go_cell)) (hid fun i hi => ?hx)).mono ?_
  case hx =>
    have hx := h2.out i hi
    go_cell
  rw [hk.out]
  rintro e w1 ⟨rfl, m, rfl⟩
  go_wp2_with fail
  refine bodyPost_ret (v := .agg #[.int .i64 x, .int .i64 y, .int .i64 z]) (by simp [results, Try.results22, go_sem]) rfl ⟨rfl, ?_⟩
  exact (by repeat (first | (with_reducible exact Below.refl _ _) | (with_reducible refine Below.setCell ?_ (by first | (simp; done) | (simp; omega) | omega) _) | (with_reducible refine Below.alloc ?_ (by first | (simp; done) | (simp; omega) | omega) _) | (with_reducible refine Below.drew ?_) | (with_reducible refine below_drewN ?_ _)))

/-- what is so at a time -/
def atF (F : Nat → Nat → Int) (n : Nat) (t : Int) (j : Nat) : Int := if upTo F t n = 0 then 0 else F (upTo F t n - 1) j

theorem at_any (b B n : Nat) (v : Value) (F : Nat → Nat → Int) (t : Int) (w : World) (hn : n ≤ 4096) (hF : Rising F n) (h : IsLoad w b B v n F) :
    Calls Try.prog 22 #[.pointer (some ⟨b, 0, none⟩), .int .i64 t] w fun e w' => e = .returned (.agg #[.int .i64 (atF F n t 0), .int .i64 (atF F n t 1), .int .i64 (atF F n t 2)]) ∧ Below w.heap.size w w' := by
  have hc := h.cell
  have hb := h.lt
  unfold atF
  by_cases h0 : n = 0
  · subst h0
    have e := h.has.nil rfl
    subst e
    exact at_none b t w hb hc
  · obtain ⟨g, c2, e, _, hg⟩ := World.ownsRow.form h.has.own (by omega)
    subst e
    have hcell : ∀ i, i < n → ∀ j, j < 3 → w.cell? ⟨g, i * 3 + j, none⟩ = some (.int .i64 (F i j)) := fun i hi j hj => by
      rw [World.ownsRow.cellAt h.has.own (i * 3 + j) (by omega), flat_get _ _ _ (by omega), show (i * 3 + j) / 3 = i by omega, show (i * 3 + j) % 3 = j by omega]
    have H2 : Hid (∀ i, i < n → w.cell? ⟨g, i * 3, none⟩ = some (.int .i64 (F i 0))) := hid (fun i hi => hcell i hi 0 (by omega))
    have hle := upTo_le F t n
    by_cases hk : upTo F t n = 0
    · simp only [hk, if_true]
      exact at_first b g n c2 F t w hn (hid hF) hb hg hc H2 (hid hk)
    · obtain ⟨k, hk2⟩ : ∃ k, upTo F t n = k + 1 := ⟨upTo F t n - 1, by omega⟩
      rw [if_neg (show ¬ upTo F t n = 0 from hk), if_neg (show ¬ upTo F t n = 0 from hk), if_neg (show ¬ upTo F t n = 0 from hk), hk2, Nat.add_sub_cancel]
      exact at_some b g n c2 k F _ _ _ t w hn (hid hF) hb hg hc H2 (hid hk2) (by omega) (hcell k (by omega) 0 (by omega)) (hcell k (by omega) 1 (by omega)) (hcell k (by omega) 2 (by omega))

end Go.Proofs.Ythkpfjjcpifkcaa.LoaE
