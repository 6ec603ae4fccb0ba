/- The walk of TopClock: it returns true for every time and ticks. -/
import Derived.Test.YtloedjegmklblabClk
import Derived.Test.YtloedjegmklblabNumA
namespace Go.Proofs.Ytloedjegmklblab.TopClockW
open Go.ChangeShapes Go.WideShapes Go.ChangeAt Go.RowKit Base ClkM Clk NumM NumA

set_option maxHeartbeats 400000 in
theorem within_mid (n lo hi : Int) (h1 : lo ≤ n) (h2 : n ≤ hi) (w : World) :
    Calls Try.prog 8 #[.int .i64 n, .int .i64 lo, .int .i64 hi] w fun e w' => e = .returned (.int .i64 n) ∧ w = w' := by
  go_enter Try.func8, Try.ntmps8
  go_wp2
  go_ret
  exact ⟨rfl, rfl⟩

set_option maxHeartbeats 400000 in
theorem walk_out (at_ : Int) (sv : Value) (h : ¬ IsT at_) (w : World) :
    Calls Try.prog 3 #[.int .i64 at_, sv] w fun e w' => e = .returned (.bool true) ∧ Below w.heap.size w w' := by
  have H : Hid (¬ IsT at_) := hid h
  by_cases h0 : at_ < 0
  · clear h
    go_enter Try.func3, Try.ntmps3
    go_wp2_with (go_at_call 4; refine (newClock_no at_ H.out _).mono ?_; rintro e w1 ⟨rfl, rfl⟩)
    go_ret
    exact ⟨rfl, Below.refl _ _⟩
  · have h1 : decide (at_ < 0) = false := by simpa using h0
    have h2 : 1152921504606846976 < at_ := by unfold IsT at h; omega
    clear h h0
    go_enter Try.func3, Try.ntmps3
    go_wp2_with (go_at_call 4; refine (newClock_no at_ H.out _).mono ?_; rintro e w1 ⟨rfl, rfl⟩)
    go_ret
    exact ⟨rfl, Below.refl _ _⟩

theorem isT_fits {n : Int} (h : IsT n) : Fits n := by unfold IsT at h; unfold Fits; omega

theorem tell_yes {n : Int} (h : Fits n) : tellN n = n ∧ tellE n = 0 := by unfold tellN tellE; rw [if_pos h, if_pos h]; exact ⟨rfl, rfl⟩
theorem tell_no {n : Int} (h : ¬ Fits n) : tellN n = 0 ∧ tellE n = 8 := by unfold tellN tellE; rw [if_neg h, if_neg h]; exact ⟨rfl, rfl⟩
theorem tick_one_yes {n x : Int} (h : 0 ≤ x ∧ n + x ≤ 1152921504606846976) : tickF n [x] = some (n + x) := by unfold tickF; rw [if_pos h]; rfl
theorem tick_one_no {n x : Int} (h : ¬ (0 ≤ x ∧ n + x ≤ 1152921504606846976)) : tickF n [x] = none := by unfold tickF; rw [if_neg h]
theorem cases4 {n x : Int} (hn : IsT n) (hx : Fits x) :
    (0 ≤ x ∧ n + x ≤ 1152921504606846976 ∧ tickF n [x] = some (n + x) ∧ tellN (n + x) = n + x ∧ tellE (n + x) = 0) ∨
    (tickF n [x] = none ∧ ((x < 0 ∧ tellN (n + x) = n + x ∧ tellE (n + x) = 0) ∨ (0 ≤ x ∧ 1152921504606846976 < n + x ∧ tellN (n + x) = n + x ∧ tellE (n + x) = 0) ∨ (tellN (n + x) = 0 ∧ tellE (n + x) = 8))) := by
  by_cases h : 0 ≤ x ∧ n + x ≤ 1152921504606846976
  · exact .inl ⟨h.1, h.2, tick_one_yes h, tell_yes (by unfold IsT at hn; unfold Fits; omega)⟩
  · refine .inr ⟨tick_one_no h, ?_⟩
    by_cases h0 : x < 0
    · exact .inl ⟨h0, tell_yes (by unfold IsT at hn; unfold Fits at *; omega)⟩
    · by_cases hf : Fits (n + x)
      · exact .inr (.inl ⟨by omega, by omega, tell_yes hf⟩)
      · exact .inr (.inr (tell_no hf))

/-- the loop's relation -/
def Rel (w : World) (len : Nat) (t i : Value) (wr : World) : Prop :=
  ∃ (k : Nat) (n : Int), k ≤ len ∧ i = .int .i64 k ∧ t = .int .i64 n ∧ IsT n ∧ wr.cell? ⟨w.heap.size, 0, none⟩ = some (.int .i64 n) ∧ wr.frozen? ⟨w.heap.size, 0, none⟩ = false ∧ Below w.heap.size w wr ∧ w.heap.size < wr.heap.size

set_option maxRecDepth 100000 in
set_option maxHeartbeats 1000000 in
theorem walk_in (s : Int) (p q len cap : Nat) (xs : List Int) (w : World) (h : IsT s)
    (_hlen : len ≤ 9223372036854775807) (hp : p < w.heap.size) (HC : Hid (∀ i, i < len → w.cell? ⟨p, q + i, none⟩ = some (.int .i64 (xs.getD i 0)))) (HX : Hid (∀ i, Fits (xs.getD i 0))) :
    Calls Try.prog 3 #[.int .i64 s, .slice (some ⟨p, q, none⟩) len cap] w fun e w' => e = .returned (.bool true) ∧ Below w.heap.size w w' := by
  have H : Hid (IsT s) := hid h
  clear h
  go_enter Try.func3, Try.ntmps3
  go_wp2_with (go_at_call 4; refine (newClock_yes s H.out _).mono ?_; rintro e w1 ⟨rfl, rfl⟩)
  go_loopw [7, 8] (Rel w len) (fun _ i _ => len - (intOf i).toNat)
  case atStart => exact ⟨0, s, Nat.zero_le _, rfl, rfl, H.out, by simp, by simp, (Below.refl _ _).alloc (Nat.le_refl _) _, by simp⟩
  case round =>
    obtain ⟨k, n, hk, rfl, rfl, hn, hcell, hfr, hbel, hsz⟩ := hrel
    have HN : Hid (IsT n) := hid hn
    have HB : Hid (Below w.heap.size w _) := hid hbel
    have n1 := hn.1
    have n2 := hn.2
    clear hn hbel
    by_cases hlt : k < len
    · by_cases h100 : k < 100
      · have hx : _ = some (Value.int .i64 (xs.getD k 0)) := (HB.out.cell (p := ⟨p, q + k, none⟩) hp).trans (HC.out k hlt)
        have HF : Hid (Fits (xs.getD k 0)) := hid (HX.out k)
        have hz : p < wr.heap.size := by omega
        generalize xs.getD k 0 = x at *
        go_wp2_with fail
        refine (add_any n x (isT_fits HN.out) HF.out _).mono ?_
        rintro e w1 ⟨rfl, hb1⟩
        obtain ⟨hc1, hf1⟩ := bcell hb1
        have hz1 := hb1.size
        have hz2 : w.heap.size < w1.heap.size := by omega
        have hz3 : p < w1.heap.size := by omega
        have hone : ∀ i, i < 1 → (w1.alloc (.cells #[.int .i64 x] 3)).cell? ⟨w1.heap.size, 0 + i, none⟩ = some (.int .i64 ([x].getD i 0)) := by
          intro i hi
          obtain rfl : i = 0 := by omega
          simp
        have HO := hid hone
        clear hone
        rcases cases4 HN.out HF.out with ⟨g1, g2, ht, hN, hE⟩ | ⟨ht, hcs⟩
        · have HT := hid ht
          clear ht
          have HZ : Hid (IsT (n + x)) := hid ⟨by omega, g2⟩
          generalize tellE (n + x) = E at *
          subst hE
          generalize tellN (n + x) = M at *
          subst hN
          have b1 : 0 ≤ n + x := by omega
          have HTk := hid (tick_core w.heap.size n w1.heap.size 0 1 1 [x] (w1.alloc (.cells #[.int .i64 x] 3)) (by go_simp) (by go_simp) (by omega) (hid rfl) HO HN)
          rw [HT.out] at HTk
          go_wp2_with fail
          refine HTk.out.mono ?_
          rintro e w2 ⟨rfl, rfl⟩
          go_wp2_with fail
          refine (now_any w.heap.size (n + x) _ ?_).mono ?_
          · clear HTk; go_simp
          rintro e w3 ⟨rfl, rfl⟩
          go_wp2_with fail
          refine (within_mid (n + x) 0 1152921504606846976 b1 g2 _).mono ?_
          rintro e w3 ⟨rfl, rfl⟩
          go_wp2
          exact ⟨⟨k + 1, n + x, by omega, by go_num, rfl, HZ.out, by go_simp, by go_simp, by have hb := HB.out; exact (by repeat (first | (with_reducible exact Below.refl _ _) | (with_reducible refine Below.setCell ?_ (by first | (simp; done) | (simp; omega) | omega) _) | (with_reducible refine Below.alloc ?_ (by first | (simp; done) | (simp; omega) | omega) _) | (with_reducible refine Below.drew ?_) | (with_reducible refine Below.trans ?_ (Below.mono hb1 (by first | (simp; done) | (simp; omega) | omega))) | (with_reducible refine Below.trans ?_ (Below.mono hb (by first | (simp; done) | (simp; omega) | omega))))), by simp; omega⟩, by simp [intOf]; omega⟩
        · have HT := hid ht
          clear ht
          rcases hcs with ⟨g1, hN, hE⟩ | ⟨g1, g2, hN, hE⟩ | ⟨hN, hE⟩
          · generalize tellE (n + x) = E at *
            subst hE
            generalize tellN (n + x) = M at *
            subst hN
            have g3 : decide (0 ≤ x) = false := by simpa using g1
            have HTk := hid (tick_core w.heap.size n w1.heap.size 0 1 1 [x] (w1.alloc (.cells #[.int .i64 x] 3)) (by go_simp) (by go_simp) (by omega) (hid rfl) HO HN)
            rw [HT.out] at HTk
            go_wp2_with fail
            refine HTk.out.mono ?_
            rintro e w2 ⟨rfl, rfl⟩
            go_wp2_with fail
            refine (now_any w.heap.size n _ ?_).mono ?_
            · clear HTk; go_simp
            rintro e w3 ⟨rfl, rfl⟩
            go_wp2_with fail
            refine (within_mid n 0 1152921504606846976 n1 n2 _).mono ?_
            rintro e w3 ⟨rfl, rfl⟩
            go_wp2
            exact ⟨⟨k + 1, n, by omega, by go_num, rfl, HN.out, by go_simp, by go_simp, by have hb := HB.out; exact (by repeat (first | (with_reducible exact Below.refl _ _) | (with_reducible refine Below.setCell ?_ (by first | (simp; done) | (simp; omega) | omega) _) | (with_reducible refine Below.alloc ?_ (by first | (simp; done) | (simp; omega) | omega) _) | (with_reducible refine Below.drew ?_) | (with_reducible refine Below.trans ?_ (Below.mono hb1 (by first | (simp; done) | (simp; omega) | omega))) | (with_reducible refine Below.trans ?_ (Below.mono hb (by first | (simp; done) | (simp; omega) | omega))))), by simp; omega⟩, by simp [intOf]; omega⟩
          · generalize tellE (n + x) = E at *
            subst hE
            generalize tellN (n + x) = M at *
            subst hN
            have g3 : decide (n + x ≤ 1152921504606846976) = false := by simpa using g2
            have HTk := hid (tick_core w.heap.size n w1.heap.size 0 1 1 [x] (w1.alloc (.cells #[.int .i64 x] 3)) (by go_simp) (by go_simp) (by omega) (hid rfl) HO HN)
            rw [HT.out] at HTk
            go_wp2_with fail
            refine HTk.out.mono ?_
            rintro e w2 ⟨rfl, rfl⟩
            go_wp2_with fail
            refine (now_any w.heap.size n _ ?_).mono ?_
            · clear HTk; go_simp
            rintro e w3 ⟨rfl, rfl⟩
            go_wp2_with fail
            refine (within_mid n 0 1152921504606846976 n1 n2 _).mono ?_
            rintro e w3 ⟨rfl, rfl⟩
            go_wp2
            exact ⟨⟨k + 1, n, by omega, by go_num, rfl, HN.out, by go_simp, by go_simp, by have hb := HB.out; exact (by repeat (first | (with_reducible exact Below.refl _ _) | (with_reducible refine Below.setCell ?_ (by first | (simp; done) | (simp; omega) | omega) _) | (with_reducible refine Below.alloc ?_ (by first | (simp; done) | (simp; omega) | omega) _) | (with_reducible refine Below.drew ?_) | (with_reducible refine Below.trans ?_ (Below.mono hb1 (by first | (simp; done) | (simp; omega) | omega))) | (with_reducible refine Below.trans ?_ (Below.mono hb (by first | (simp; done) | (simp; omega) | omega))))), by simp; omega⟩, by simp [intOf]; omega⟩
          · generalize tellE (n + x) = E at *
            subst hE
            generalize tellN (n + x) = M at *
            subst hN
            have HTk := hid (tick_core w.heap.size n w1.heap.size 0 1 1 [x] (w1.alloc (.cells #[.int .i64 x] 3)) (by go_simp) (by go_simp) (by omega) (hid rfl) HO HN)
            rw [HT.out] at HTk
            go_wp2_with fail
            refine HTk.out.mono ?_
            rintro e w2 ⟨rfl, rfl⟩
            go_wp2_with fail
            refine (now_any w.heap.size n _ ?_).mono ?_
            · clear HTk; go_simp
            rintro e w3 ⟨rfl, rfl⟩
            go_wp2_with fail
            refine (within_mid n 0 1152921504606846976 n1 n2 _).mono ?_
            rintro e w3 ⟨rfl, rfl⟩
            go_wp2
            exact ⟨⟨k + 1, n, by omega, by go_num, rfl, HN.out, by go_simp, by go_simp, by have hb := HB.out; exact (by repeat (first | (with_reducible exact Below.refl _ _) | (with_reducible refine Below.setCell ?_ (by first | (simp; done) | (simp; omega) | omega) _) | (with_reducible refine Below.alloc ?_ (by first | (simp; done) | (simp; omega) | omega) _) | (with_reducible refine Below.drew ?_) | (with_reducible refine Below.trans ?_ (Below.mono hb1 (by first | (simp; done) | (simp; omega) | omega))) | (with_reducible refine Below.trans ?_ (Below.mono hb (by first | (simp; done) | (simp; omega) | omega))))), by simp; omega⟩, by simp [intOf]; omega⟩
      · have h100' : decide ((k : Int) < 100) = false := by simp; omega
        go_wp2_with (go_at_call 7; refine (now_any w.heap.size n _ hcell).mono ?_; rintro e w1 ⟨rfl, rfl⟩)
        go_ret
        exact ⟨rfl, HB.out⟩
    · go_wp2_with (go_at_call 7; refine (now_any w.heap.size n _ hcell).mono ?_; rintro e w1 ⟨rfl, rfl⟩)
      go_ret
      exact ⟨rfl, HB.out⟩

set_option maxRecDepth 100000 in
set_option maxHeartbeats 1000000 in
theorem walk_nil (s : Int) (a1 : Option Addr) (cap1 : Nat) (w : World) (h : IsT s) :
    Calls Try.prog 3 #[.int .i64 s, .slice a1 0 cap1] w fun e w' => e = .returned (.bool true) ∧ Below w.heap.size w w' := by
  have H : Hid (IsT s) := hid h
  clear h
  go_enter Try.func3, Try.ntmps3
  go_wp2_with (go_at_call 4; refine (newClock_yes s H.out _).mono ?_; rintro e w1 ⟨rfl, rfl⟩)
  go_loopw [7, 8] (Rel w 0) (fun _ i _ => 0 - (intOf i).toNat)
  case atStart => exact ⟨0, s, Nat.zero_le _, rfl, rfl, H.out, by simp, by simp, (Below.refl _ _).alloc (Nat.le_refl _) _, by simp⟩
  case round =>
    obtain ⟨k, n, hk, rfl, rfl, hn, hcell, hfr, hbel, hsz⟩ := hrel
    obtain rfl : k = 0 := by omega
    have HB : Hid (Below w.heap.size w _) := hid hbel
    clear hn hbel
    go_wp2_with (go_at_call 7; refine (now_any w.heap.size n _ hcell).mono ?_; rintro e w1 ⟨rfl, rfl⟩)
    go_ret
    exact ⟨rfl, HB.out⟩

theorem walkAll (a0 : Int) (a1 : Option Addr) (len1 cap1 : Nat) (z1 : List Int) (w : World) (_w0 : (Lit.int .i64 a0).wf = true) (w1 : IsRow .i64 w a1 len1 cap1 z1) :
    Calls Try.prog 3 #[.int .i64 a0, .slice a1 len1 cap1] w fun e w' => e = .returned (.bool true) ∧ Below w.heap.size w w' := by
  by_cases h : IsT a0
  · by_cases h0 : len1 = 0
    · subst h0
      exact walk_nil a0 a1 cap1 w h
    · obtain ⟨p, q, rfl, hp, hl, hz, hc, hw⟩ := w1.at (by omega)
      exact walk_in a0 p q len1 cap1 (z1.take len1) w h hl hp (hid hc) (hid fun i => wf_getD hw i len1)
  · exact walk_out a0 _ h w

end Go.Proofs.Ytloedjegmklblab.TopClockW
