/- A sketch's sums over a window. -/
import Derived.Test.YtnpldfacnmhemaaSkI
namespace Go.Proofs.Ytnpldfacnmhemaa.SkJ
open Go.ChangeShapes Go.WideShapes Go.ChangeAt Go.RowKit Base Wri Map WldF WldG SkK SkA SkB SkC SkD SkE SkF SkG SkH SkI

/-- what is told of the buckets from a time on, together -/
def sumK (first : Int) (f : Nat → Bk) (x : Nat → Nat) : Nat → Nat
  | 0 => 0
  | k + 1 => if first ≤ (f k).at_ then sat (sumK first f x k + x k) else sumK first f x k
theorem sumK_yes {first : Int} {f : Nat → Bk} {x : Nat → Nat} {k : Nat} (h : first ≤ (f k).at_) : sumK first f x (k + 1) = sat (sumK first f x k + x k) := if_pos h
theorem sumK_no {first : Int} {f : Nat → Bk} {x : Nat → Nat} {k : Nat} (h : ¬ first ≤ (f k).at_) : sumK first f x (k + 1) = sumK first f x k := if_neg h

set_option maxRecDepth 20000 in
set_option maxHeartbeats 2000000 in
theorem sum_tot (p g cap n q t : Nat) (X : Shp) (last : Int) (f : Nat → Bk) (x : Nat → Nat) (w : World) (HP : Hid (w.heap[p]? = some (.cells (sv X last (.slice (some ⟨g, 0, none⟩) n cap)) 83))) (HB : Hid (IsBk w g cap n f)) (hn : n ≤ 1000)
    (hz : 0 < X.bk) (hq : X.wd / X.bk = q) (hq0 : 0 < q) (hz2 : X.wd ≤ 1099511627776) (ha : t ≤ 1152921504606846976)
    (HC : Hid (∀ W i, Below w.heap.size w W → i < n → Calls Try.prog 65 #[.agg #[.int .i64 (f i).at_, .int .i64 (f i).tot, .map (some (f i).mp)]] W fun e w' => e = .returned (.int .i64 (x i)) ∧ Below W.heap.size W w')) :
    Calls Try.prog 64 #[.pointer (some ⟨p, 0, none⟩), .int .i64 t, .func (Fn.func 65) #[] #[]] w fun e w' => e = .returned (.int .i64 (sumK (((t - t % q : Nat) : Int) - X.wd + q) f x n)) ∧ Below w.heap.size w w' := by
  obtain ⟨c0, c1, c2, c3, -, -, c6, -⟩ := sv_cells HP.out
  have hp : p < w.heap.size := (Array.getElem?_eq_some_iff.1 HP.out).1
  have hgl := HB.out.lt
  have HF := hid (first_any X.wd X.bk X.ro X.co q t w hz hq hq0 hz2 ha)
  obtain ⟨fi, hfi⟩ : ∃ fi, ((t - t % q : Nat) : Int) - X.wd + q = fi := ⟨_, rfl⟩
  rw [hfi] at HF ⊢
  clear hfi hq hz2
  unfold szv at HF
  go_enter Try.func64, Try.ntmps64
  go_wp2_with fail
  refine HF.out.mono ?_
  rintro e w1 ⟨rfl, hb1⟩
  have k6 : w1.cell? ⟨p, 6, none⟩ = some (.slice (some ⟨g, 0, none⟩) n cap) := (hb1.cell (p := ⟨p, 6, none⟩) hp).trans c6
  have HB1 := hid hb1
  clear HF hb1 c0 c1 c2 c3 c6
  go_wp2_with fail
  clear k6
  go_loopw [8, 22] (fun s j wr => ∃ k : Nat, k ≤ n ∧ s = .int .i64 (sumK fi f x k) ∧ j = .int .i64 k ∧ Below w.heap.size w wr) (fun _ j _ => n - (intOf j).toNat)
  case atStart => exact ⟨0, Nat.zero_le _, rfl, rfl, HB1.out⟩
  case round =>
    clear HB1
    obtain ⟨k, hk, rfl, rfl, hb⟩ := hrel
    have HBl := hid hb
    by_cases hlt : k < n
    · obtain ⟨b0, b1, b2⟩ := (HB.out.below hb hgl).at3 k hlt
      have hgw : g < wr.heap.size := Nat.lt_of_lt_of_le hgl hb.size
      have hsw := hb.size
      obtain ⟨s, hs⟩ : ∃ s, sumK fi f x k = s := ⟨_, rfl⟩
      rw [hs]
      have HS := hid hs
      by_cases hc : fi ≤ (f k).at_
      · have HY : Hid (sumK fi f x (k + 1) = sat (s + x k)) := hid (by rw [sumK_yes hc, hs])
        have hd : decide (fi ≤ (f k).at_) = true := by simpa using hc
        have hd' : decide ((f k).at_ < fi) = false := by simp; omega
        have HCk := hid (fun W h => HC.out W k h hlt)
        clear hs hc hb
        go_wp2_with fail
        refine (HCk.out _ (HBl.out.trans (((Below.refl wr.heap.size wr).alloc (Nat.le_refl _) _).mono hsw))).mono ?_
        rintro e w2 ⟨rfl, hb2⟩
        have HB2 : Hid (Below w.heap.size w w2) := hid (HBl.out.trans ((((Below.refl wr.heap.size wr).alloc (Nat.le_refl _) _).trans (hb2.mono (by simp))).mono hsw))
        have HPl := hid (plus_two s (x k) (w2.alloc (.cells #[.int .i64 s, .int .i64 (x k)] 3)) w2 rfl)
        clear hb2 b0 b1 b2 HCk
        go_wp2_with fail
        refine HPl.out.mono ?_
        rintro e w3 ⟨rfl, rfl⟩
        have HB3 : Hid (Below w.heap.size w (w2.alloc (.cells #[.int .i64 s, .int .i64 (x k)] 3))) := hid (HB2.out.alloc HB2.out.size _)
        clear HPl
        go_wp2_with fail
        go_roundw
        case rel => exact ⟨k + 1, by omega, by rw [HY.out], by go_num, HB3.out⟩
        case measure => simp [intOf]; omega
      · have HY : Hid (sumK fi f x (k + 1) = s) := hid (by rw [sumK_no hc, hs])
        have hd : decide (fi ≤ (f k).at_) = false := by simpa using hc
        have hd' : decide ((f k).at_ < fi) = true := by simp; omega
        have HB3 := hid (HBl.out.alloc hsw (.cells #[.int .i64 (f k).at_, .int .i64 (f k).tot, .map (some (f k).mp)] 88))
        clear hs hc hb
        go_wp2_with fail
        go_roundw
        case rel => exact ⟨k + 1, by omega, by rw [HY.out], by go_num, HB3.out⟩
        case measure => simp [intOf]; omega
    · obtain rfl : k = n := by omega
      clear hb
      go_wp2_with fail
      go_ret
      exact ⟨rfl, HBl.out⟩

set_option maxRecDepth 20000 in
set_option maxHeartbeats 2000000 in
theorem sum_est (p g cap n q t : Nat) (X : Shp) (last : Int) (f : Nat → Bk) (x : Nat → Nat) (F : Nat) (w : World) (HP : Hid (w.heap[p]? = some (.cells (sv X last (.slice (some ⟨g, 0, none⟩) n cap)) 83))) (HB : Hid (IsBk w g cap n f)) (hn : n ≤ 1000)
    (hz : 0 < X.bk) (hq : X.wd / X.bk = q) (hq0 : 0 < q) (hz2 : X.wd ≤ 1099511627776) (ha : t ≤ 1152921504606846976)
    (HC : Hid (∀ W i, Below w.heap.size w W → i < n → Calls Try.prog 75 #[.agg #[.int .i64 (f i).at_, .int .i64 (f i).tot, .map (some (f i).mp)], .pointer (some ⟨F, 0, none⟩)] W fun e w' => e = .returned (.int .i64 (x i)) ∧ Below W.heap.size W w')) :
    Calls Try.prog 64 #[.pointer (some ⟨p, 0, none⟩), .int .i64 t, .func (Fn.func 75) #[] #[.pointer (some ⟨F, 0, none⟩)]] w fun e w' => e = .returned (.int .i64 (sumK (((t - t % q : Nat) : Int) - X.wd + q) f x n)) ∧ Below w.heap.size w w' := by
  obtain ⟨c0, c1, c2, c3, -, -, c6, -⟩ := sv_cells HP.out
  have hp : p < w.heap.size := (Array.getElem?_eq_some_iff.1 HP.out).1
  have hgl := HB.out.lt
  have HF := hid (first_any X.wd X.bk X.ro X.co q t w hz hq hq0 hz2 ha)
  obtain ⟨fi, hfi⟩ : ∃ fi, ((t - t % q : Nat) : Int) - X.wd + q = fi := ⟨_, rfl⟩
  rw [hfi] at HF ⊢
  clear hfi hq hz2
  unfold szv at HF
  go_enter Try.func64, Try.ntmps64
  go_wp2_with fail
  refine HF.out.mono ?_
  rintro e w1 ⟨rfl, hb1⟩
  have k6 : w1.cell? ⟨p, 6, none⟩ = some (.slice (some ⟨g, 0, none⟩) n cap) := (hb1.cell (p := ⟨p, 6, none⟩) hp).trans c6
  have HB1 := hid hb1
  clear HF hb1 c0 c1 c2 c3 c6
  go_wp2_with fail
  clear k6
  go_loopw [8, 22] (fun s j wr => ∃ k : Nat, k ≤ n ∧ s = .int .i64 (sumK fi f x k) ∧ j = .int .i64 k ∧ Below w.heap.size w wr) (fun _ j _ => n - (intOf j).toNat)
  case atStart => exact ⟨0, Nat.zero_le _, rfl, rfl, HB1.out⟩
  case round =>
    clear HB1
    obtain ⟨k, hk, rfl, rfl, hb⟩ := hrel
    have HBl := hid hb
    by_cases hlt : k < n
    · obtain ⟨b0, b1, b2⟩ := (HB.out.below hb hgl).at3 k hlt
      have hgw : g < wr.heap.size := Nat.lt_of_lt_of_le hgl hb.size
      have hsw := hb.size
      obtain ⟨s, hs⟩ : ∃ s, sumK fi f x k = s := ⟨_, rfl⟩
      rw [hs]
      have HS := hid hs
      by_cases hc : fi ≤ (f k).at_
      · have HY : Hid (sumK fi f x (k + 1) = sat (s + x k)) := hid (by rw [sumK_yes hc, hs])
        have hd : decide (fi ≤ (f k).at_) = true := by simpa using hc
        have hd' : decide ((f k).at_ < fi) = false := by simp; omega
        have HCk := hid (fun W h => HC.out W k h hlt)
        clear hs hc hb
        go_wp2_with fail
        refine (HCk.out _ (HBl.out.trans (((Below.refl wr.heap.size wr).alloc (Nat.le_refl _) _).mono hsw))).mono ?_
        rintro e w2 ⟨rfl, hb2⟩
        have HB2 : Hid (Below w.heap.size w w2) := hid (HBl.out.trans ((((Below.refl wr.heap.size wr).alloc (Nat.le_refl _) _).trans (hb2.mono (by simp))).mono hsw))
        have HPl := hid (plus_two s (x k) (w2.alloc (.cells #[.int .i64 s, .int .i64 (x k)] 3)) w2 rfl)
        clear hb2 b0 b1 b2 HCk
        go_wp2_with fail
        refine HPl.out.mono ?_
        rintro e w3 ⟨rfl, rfl⟩
        have HB3 : Hid (Below w.heap.size w (w2.alloc (.cells #[.int .i64 s, .int .i64 (x k)] 3))) := hid (HB2.out.alloc HB2.out.size _)
        clear HPl
        go_wp2_with fail
        go_roundw
        case rel => exact ⟨k + 1, by omega, by rw [HY.out], by go_num, HB3.out⟩
        case measure => simp [intOf]; omega
      · have HY : Hid (sumK fi f x (k + 1) = s) := hid (by rw [sumK_no hc, hs])
        have hd : decide (fi ≤ (f k).at_) = false := by simpa using hc
        have hd' : decide ((f k).at_ < fi) = true := by simp; omega
        have HB3 := hid (HBl.out.alloc hsw (.cells #[.int .i64 (f k).at_, .int .i64 (f k).tot, .map (some (f k).mp)] 88))
        clear hs hc hb
        go_wp2_with fail
        go_roundw
        case rel => exact ⟨k + 1, by omega, by rw [HY.out], by go_num, HB3.out⟩
        case measure => simp [intOf]; omega
    · obtain rfl : k = n := by omega
      clear hb
      go_wp2_with fail
      go_ret
      exact ⟨rfl, HBl.out⟩

set_option maxRecDepth 20000 in
set_option maxHeartbeats 1000000 in
theorem nil_tot (p q t : Nat) (X : Shp) (last : Int) (w : World) (HP : Hid (w.heap[p]? = some (.cells (sv X last (.slice none 0 0)) 83)))
    (hz : 0 < X.bk) (hq : X.wd / X.bk = q) (hq0 : 0 < q) (hz2 : X.wd ≤ 1099511627776) (ha : t ≤ 1152921504606846976) :
    Calls Try.prog 64 #[.pointer (some ⟨p, 0, none⟩), .int .i64 t, .func (Fn.func 65) #[] #[]] w fun e w' => e = .returned (.int .i64 0) ∧ Below w.heap.size w w' := by
  obtain ⟨c0, c1, c2, c3, -, -, c6, -⟩ := sv_cells HP.out
  have hp : p < w.heap.size := (Array.getElem?_eq_some_iff.1 HP.out).1
  have HF := hid (first_any X.wd X.bk X.ro X.co q t w hz hq hq0 hz2 ha)
  obtain ⟨fi, hfi⟩ : ∃ fi, ((t - t % q : Nat) : Int) - X.wd + q = fi := ⟨_, rfl⟩
  rw [hfi] at HF
  clear hfi hq hz2
  unfold szv at HF
  go_enter Try.func64, Try.ntmps64
  go_wp2_with fail
  refine HF.out.mono ?_
  rintro e w1 ⟨rfl, hb1⟩
  have k6 : w1.cell? ⟨p, 6, none⟩ = some (.slice none 0 0) := (hb1.cell (p := ⟨p, 6, none⟩) hp).trans c6
  have HB1 := hid hb1
  clear HF hb1 c0 c1 c2 c3 c6
  go_wp2_with fail
  clear k6
  go_loopw [8, 22] (fun s j wr => s = .int .i64 0 ∧ j = .int .i64 0 ∧ w1 = wr) (fun _ _ _ => 0)
  case atStart => exact ⟨rfl, rfl, rfl⟩
  case round =>
    obtain ⟨rfl, rfl, rfl⟩ := hrel
    go_wp2_with fail
    go_ret
    exact ⟨rfl, HB1.out⟩

set_option maxRecDepth 20000 in
set_option maxHeartbeats 1000000 in
theorem nil_est (p q t : Nat) (X : Shp) (last : Int) (F : Nat) (w : World) (HP : Hid (w.heap[p]? = some (.cells (sv X last (.slice none 0 0)) 83)))
    (hz : 0 < X.bk) (hq : X.wd / X.bk = q) (hq0 : 0 < q) (hz2 : X.wd ≤ 1099511627776) (ha : t ≤ 1152921504606846976) :
    Calls Try.prog 64 #[.pointer (some ⟨p, 0, none⟩), .int .i64 t, .func (Fn.func 75) #[] #[.pointer (some ⟨F, 0, none⟩)]] w fun e w' => e = .returned (.int .i64 0) ∧ Below w.heap.size w w' := by
  obtain ⟨c0, c1, c2, c3, -, -, c6, -⟩ := sv_cells HP.out
  have hp : p < w.heap.size := (Array.getElem?_eq_some_iff.1 HP.out).1
  have HF := hid (first_any X.wd X.bk X.ro X.co q t w hz hq hq0 hz2 ha)
  obtain ⟨fi, hfi⟩ : ∃ fi, ((t - t % q : Nat) : Int) - X.wd + q = fi := ⟨_, rfl⟩
  rw [hfi] at HF
  clear hfi hq hz2
  unfold szv at HF
  go_enter Try.func64, Try.ntmps64
  go_wp2_with fail
  refine HF.out.mono ?_
  rintro e w1 ⟨rfl, hb1⟩
  have k6 : w1.cell? ⟨p, 6, none⟩ = some (.slice none 0 0) := (hb1.cell (p := ⟨p, 6, none⟩) hp).trans c6
  have HB1 := hid hb1
  clear HF hb1 c0 c1 c2 c3 c6
  go_wp2_with fail
  clear k6
  go_loopw [8, 22] (fun s j wr => s = .int .i64 0 ∧ j = .int .i64 0 ∧ w1 = wr) (fun _ _ _ => 0)
  case atStart => exact ⟨rfl, rfl, rfl⟩
  case round =>
    obtain ⟨rfl, rfl, rfl⟩ := hrel
    go_wp2_with fail
    go_ret
    exact ⟨rfl, HB1.out⟩

end Go.Proofs.Ytnpldfacnmhemaa.SkJ
