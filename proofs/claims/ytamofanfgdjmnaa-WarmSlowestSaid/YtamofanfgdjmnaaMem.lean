/- Contracts of HandInts, KeptInts and SameInts: numbers handed in with marked room behind them. -/
import Derived.Test.YtamofanfgdjmnaaWldG
import Derived.OwnWalk
namespace Go.Proofs.Ytamofanfgdjmnaa.Mem
open Go.ChangeShapes Go.WideShapes Go.ChangeAt Go.RowKit Base WldF WldG

/-- numbers, and the marks behind them -/
def markF (n : Nat) (f : Nat → Int) : Nat → Int := fun j => if j < n then f j else -700 - (j : Int) + n
/-- made places, the first k of them filled -/
def fillF (k : Nat) (g : Nat → Int) : Nat → Int := fun j => if j < k then g j else 0

theorem fillF_set (k : Nat) (g : Nat → Int) : (fun j => if j = k then g k else fillF k g j) = fillF (k + 1) g := by
  funext j
  unfold fillF
  by_cases h : j = k
  · subst h; simp
  · by_cases h2 : j < k
    · simp [h, h2, Nat.lt_succ_of_lt h2]
    · simp [h, h2]; omega

/-- a list of ints that lies somewhere -/
def IntsAt (w : World) (a : Option Addr) (n : Nat) (f : Nat → Int) : Prop := 0 < n → ∃ g o, a = some ⟨g, o, none⟩ ∧ g < w.heap.size ∧ ∀ i, i < n → w.cell? ⟨g, o + i, none⟩ = some (.int .i64 (f i))

theorem IntsAt.congr {w : World} {a : Option Addr} {n : Nat} {f f' : Nat → Int} (h : IntsAt w a n f) (e : ∀ i, i < n → f i = f' i) : IntsAt w a n f' := fun h0 => by
  obtain ⟨g, o, ha, hg, hc⟩ := h h0
  exact ⟨g, o, ha, hg, fun i hi => by rw [← e i hi]; exact hc i hi⟩

theorem IntsAt.below {w w' : World} {a : Option Addr} {n : Nat} {f : Nat → Int} (h : IntsAt w a n f) (hb : Below w.heap.size w w') : IntsAt w' a n f := fun h0 => by
  obtain ⟨g, o, ha, hg, hc⟩ := h h0
  exact ⟨g, o, ha, Nat.lt_of_lt_of_le hg hb.size, fun i hi => (hb.cell (p := ⟨g, o + i, none⟩) hg).trans (hc i hi)⟩

set_option maxRecDepth 20000 in
set_option maxHeartbeats 1000000 in
theorem hand_any (a : Option Addr) (n cap : Nat) (f : Nat → Int) (w : World) (hn : n ≤ 17592186044416) (hin : IntsAt w a n f) :
    Calls Try.prog 17 #[.slice a n cap] w fun e w' => e = .returned (.slice (some ⟨w.heap.size, 0, none⟩) n (n + 9)) ∧ Row w' w.heap.size (n + 9) (markF n f) ∧ Below w.heap.size w w' ∧ w.heap.size < w'.heap.size := by
  obtain ⟨i0, hi, hz0, hz1, hz2⟩ := info_parts infoInt
  have HI := hid hin
  clear hin
  go_enter Try.func17, Try.ntmps17
  go_wp2_with (at_make; refine wpList_make_full _ rfl _ _ 40 rfl w.heap.size 3 i0 (.int .i64 0) 1 Try.underlying40 hi hz0 hz1 .i64 .i64 ((n : Int) + 9) ((n : Int) + 9) (n + 9) rfl rfl (by omega) (by omega) ?b2 ?b3 (Nat.le_refl _) ?_; rotate_left 2; intro w1 hown hgrow)
  case b2 => rw [hz2]; omega
  case b3 => unfold maxLen; omega
  have HB1 : Hid (Below w.heap.size w w1) := hid ((Below.refl _ _).grown hgrow (Nat.le_refl _) (fun _ e => by cases e))
  have HR1 : Hid (Row w1 w.heap.size (n + 9) (fillF 0 (markF n f))) := hid (Row.owned hown (fun j hj => by simp [madeCells, Value.cells, hj, fillF, Nat.mod_one]))
  have hs1 : w.heap.size < w1.heap.size := (hown.lt w.heap.size rfl).2
  clear hown hgrow
  obtain ⟨B, hB⟩ : ∃ B, w.heap.size = B := ⟨_, rfl⟩
  rw [hB] at HB1 HR1 hs1 ⊢
  go_loopw [4] (fun i wr => ∃ k : Nat, k ≤ n ∧ i = .int .i64 k ∧ Row wr B (n + 9) (fillF k (markF n f)) ∧ Below B w wr ∧ B < wr.heap.size) (fun i _ => n - (intOf i).toNat)
  case atStart => exact ⟨0, Nat.zero_le _, rfl, HR1.out, HB1.out, hs1⟩
  case round =>
    obtain ⟨k, hk, rfl, hrow, hbel, hsz⟩ := hrel
    have HR := hid hrow
    have HB := hid hbel
    clear hrow hbel
    by_cases hlt : k < n
    · obtain ⟨g, o, rfl, hg, hc⟩ := HI.out (by omega)
      have h1 : wr.cell? ⟨g, o + k, none⟩ = some (.int .i64 (markF n f k)) := by
        have := (HB.out.cell (p := ⟨g, o + k, none⟩) (by show g < B; omega)).trans (hc k hlt)
        rw [this]; simp [markF, hlt]
      have h2 := (HR.out k (by omega)).1
      have h3 := (HR.out k (by omega)).2
      have hgs : g < wr.heap.size := by omega
      have HN := hid (HR.out.set k (by omega) (markF n f k))
      rw [fillF_set] at HN
      have HB2 := hid (HB.out.setCell (p := ⟨B, k, none⟩) (by first | exact Nat.le_refl _ | omega) (.int .i64 (markF n f k)))
      clear hc
      generalize markF n f k = u at *
      generalize fillF k _ k = v at *
      go_wp2_with fail
      go_roundw
      case rel => exact ⟨k + 1, by omega, by go_num, HN.out, HB2.out, by simpa using hsz⟩
      case measure => simp [intOf]; omega
    · obtain rfl : k = n := by omega
      go_wp2_with fail
      go_loopw [5] (fun i wr => ∃ m : Nat, m ≤ k + 9 ∧ i = .int .i64 m ∧ k ≤ m ∧ Row wr B (k + 9) (fillF m (markF k f)) ∧ Below B w wr ∧ B < wr.heap.size) (fun i _ => (k + 9) - (intOf i).toNat)
      case atStart => exact ⟨k, by omega, rfl, Nat.le_refl _, HR.out, HB.out, hsz⟩
      case round =>
        obtain ⟨m, hm, rfl, hkm, hrow, hbel, hsz2⟩ := hrel
        have HR3 := hid hrow
        have HB3 := hid hbel
        clear hrow hbel
        by_cases hml : m < k + 9
        · have h2 := (HR3.out m (by omega)).1
          have h3 := (HR3.out m (by omega)).2
          have HN := hid (HR3.out.set m (by omega) (markF k f m))
          rw [fillF_set] at HN
          have HB4 := hid (HB3.out.setCell (p := ⟨B, m, none⟩) (Nat.le_refl _) (.int .i64 (markF k f m)))
          have hmk : markF k f m = -700 - (m : Int) + k := by simp only [markF]; rw [if_neg (by omega)]
          rw [hmk] at HN HB4
          clear hmk
          generalize fillF m _ m = v at *
          go_wp2_with fail
          go_roundw
          case rel => exact ⟨m + 1, by omega, by go_num, by omega, HN.out, HB4.out, by simpa using hsz2⟩
          case measure => simp [intOf]; omega
        · obtain rfl : m = k + 9 := by omega
          go_wp2_with fail
          go_ret
          subst hB
          exact ⟨rfl, HR3.out.congr (fun j hj => by simp [fillF, hj]), HB3.out, hsz2⟩

set_option maxRecDepth 20000 in
set_option maxHeartbeats 400000 in
theorem same_core (g q g' q' n cap cap' : Nat) (f : Nat → Int) (w : World) (hn : n ≤ 9223372036854775807)
    (H : Hid (∀ j, j < n → w.cell? ⟨g, q + j, none⟩ = some (.int .i64 (f j)))) (H' : Hid (∀ j, j < n → w.cell? ⟨g', q' + j, none⟩ = some (.int .i64 (f j)))) :
    Calls Try.prog 36 #[.slice (some ⟨g, q, none⟩) n cap, .slice (some ⟨g', q', none⟩) n cap'] w fun e w' => e = .returned (.bool true) ∧ ∃ m, w.drewN m = w' := by
  go_enter Try.func36, Try.ntmps36
  go_wp2
  go_loopw [5] (fun i wr => ∃ k m : Nat, k ≤ n ∧ i = .int .i64 k ∧ w.drewN m = wr) (fun i _ => n - (intOf i).toNat)
  case atStart => exact ⟨0, 0, Nat.zero_le _, rfl, rfl⟩
  case round =>
    obtain ⟨k, m, hk, rfl, hwr⟩ := hrel
    by_cases hlt : k < n
    · have h1 : wr.cell? ⟨g, q + k, none⟩ = some (.int .i64 (f k)) := by rw [← hwr]; exact H.out k hlt
      have h2 : wr.cell? ⟨g', q' + k, none⟩ = some (.int .i64 (f k)) := by rw [← hwr]; exact H'.out k hlt
      have HW := hid hwr
      clear hwr
      generalize f k = x at *
      go_wp2_with fail
      go_quiet (fail)
      go_wp2
      go_roundw
      case rel => exact ⟨k + 1, m + _, by omega, by go_num, by rw [← HW.out, World.drewN_drewN]⟩
      case measure => simp [intOf]; omega
    · go_wp2
      go_ret
      exact ⟨rfl, m, hwr⟩

set_option maxHeartbeats 400000 in
theorem same_none (a a' : Option Addr) (cap cap' : Nat) (w : World) :
    Calls Try.prog 36 #[.slice a 0 cap, .slice a' 0 cap'] w fun e w' => e = .returned (.bool true) ∧ ∃ m, w.drewN m = w' := by
  go_enter Try.func36, Try.ntmps36
  go_wp2
  go_loop [5] (fun i => i = .int .i64 0) (fun i => 0)
  case atStart => rfl
  case round =>
    obtain rfl := hrel
    go_wp2
    go_ret
    exact ⟨rfl, 0, rfl⟩

theorem same_any (a a' : Option Addr) (n cap cap' : Nat) (f : Nat → Int) (w : World) (hn : n ≤ 9223372036854775807) (h : IntsAt w a n f) (h' : IntsAt w a' n f) :
    Calls Try.prog 36 #[.slice a n cap, .slice a' n cap'] w fun e w' => e = .returned (.bool true) ∧ ∃ m, w.drewN m = w' := by
  by_cases h0 : n = 0
  · subst h0; exact same_none a a' cap cap' w
  · obtain ⟨g, o, rfl, _, hr⟩ := h (by omega)
    obtain ⟨g', o', rfl, _, hr'⟩ := h' (by omega)
    exact same_core g o g' o' n cap cap' f w hn (hid hr) (hid hr')

theorem Row.intsAt {w : World} {g n : Nat} {f : Nat → Int} (h : Row w g n f) (hg : g < w.heap.size) (m : Nat) (hm : m ≤ n) : IntsAt w (some ⟨g, 0, none⟩) m f := fun _ => ⟨g, 0, rfl, hg, fun i hi => by rw [Nat.zero_add]; exact (h i (by omega)).1⟩

set_option maxRecDepth 20000 in
set_option maxHeartbeats 1000000 in
theorem kept_any (a : Option Addr) (g n cap : Nat) (f : Nat → Int) (w : World) (hn : n ≤ 17592186044416) (hg : g < w.heap.size) (hin : IntsAt w a n f) (hr : Row w g (n + 9) (markF n f)) :
    Calls Try.prog 20 #[.slice (some ⟨g, 0, none⟩) n (n + 9), .slice a n cap] w fun e w' => e = .returned (.bool true) ∧ ∃ m, w.drewN m = w' := by
  have HS := hid (same_any (some ⟨g, 0, none⟩) a n (n + 9) cap f w (by omega) (IntsAt.congr (Row.intsAt hr hg n (by omega)) (fun i hi => by simp [markF, hi])) hin)
  have HR := hid hr
  clear hr hin
  go_enter Try.func20, Try.ntmps20
  go_wp2_with fail
  refine HS.out.mono ?_
  rintro e w1 ⟨rfl, m1, hw1⟩
  clear HS
  go_wp2_with fail
  go_loopw [6] (fun i wr => ∃ k m : Nat, k ≤ n + 9 ∧ n ≤ k ∧ i = .int .i64 k ∧ w.drewN m = wr) (fun i _ => n + 9 - (intOf i).toNat)
  case atStart => exact ⟨n, m1, by omega, Nat.le_refl _, rfl, hw1⟩
  case round =>
    obtain ⟨k, m, hk, hnk, rfl, hwr⟩ := hrel
    by_cases hlt : k < n + 9
    · have h1 : wr.cell? ⟨g, k, none⟩ = some (.int .i64 (-700 - (k : Int) + n)) := by
        rw [← hwr]
        have := (HR.out k hlt).1
        simp only [markF] at this
        rw [if_neg (by omega)] at this
        exact this
      have HW := hid hwr
      clear hwr hw1
      go_wp2_with fail
      go_roundw
      case rel => exact ⟨k + 1, m, by omega, by omega, by go_num, HW.out⟩
      case measure => simp [intOf]; omega
    · go_wp2
      go_ret
      exact ⟨rfl, m, hwr⟩

end Go.Proofs.Ytamofanfgdjmnaa.Mem
