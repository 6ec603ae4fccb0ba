/- Requests and answers as bytes: the document's. -/
import Derived.Test.YthmcfnbnafdkeaaPrtD
namespace Go.Proofs.Ythmcfnbnafdkeaa.PrtE
open Go.ChangeShapes Go.WideShapes Go.ChangeAt Go.RowKit Base Wri FrmP FrmA FrmD FrmE FrmF FrmR FrmX FrmL FrmC2 FrmK FrmK2 RulA PrtA PrtB PrtC PrtR PrtN PrtD
set_option linter.unusedVariables false
set_option linter.unusedSimpArgs false

theorem grow_bel {B : Nat} {wa W W' : World} {x : Value} {n : Nat} {xs : List Value} (h : Below B wa W) (hB : B ≤ wa.heap.size) (hown : W.ownsRow B 5 1 x n xs) (hg : W.grownBy W' x.ownBlock) : Below B wa W' := Below.grown h hg (Nat.le_trans hB h.size) (fun g e => (hown.lt g e).1)
theorem own_bel {B : Nat} {W W' : World} {x : Value} {n : Nat} {xs : List Value} (hown : W.ownsRow B 5 1 x n xs) (h : Below W.heap.size W W') : W'.ownsRow B 5 1 x n xs := owns_keep hown (fun g e => h.block g (hown.lt g e).2)
theorem lit1_own (w : World) (x : Int) : (w.alloc (.cells #[.int .u8 x] 5)).ownsRow w.heap.size 5 1 (.slice (some ⟨w.heap.size, 0, none⟩) 1 1) 1 [.int .u8 x] :=
  ⟨rfl, .inr ⟨_, 1, _, rfl, Nat.le_refl _, heap_alloc_new _ _, Nat.le_refl _, by unfold maxLen; omega, rfl, rfl⟩⟩
theorem own_news {W : World} {B : Nat} {a : Option Addr} {c n : Nat} {xs : List Value} (h : W.ownsRow B 5 1 (.slice a (n + 1) c) (n + 1) xs) : ∃ g, a = some ⟨g, 0, none⟩ ∧ ∀ j u, xs[j]? = some u → W.cell? ((⟨g, 0, none⟩ : Addr).add j) = some u := by
  rcases h.2 with ⟨_, h0⟩ | ⟨g, cap, cur, e, _⟩
  · omega
  · injection e with e1 _ _
    subst e1
    exact ⟨g, rfl, h.cells rfl⟩

set_option maxRecDepth 20000 in
set_option maxHeartbeats 4000000 in
theorem ranswer_core (id flow count token want : Nat) (w : World) (h1 : id < 2147483648) (h2 : flow ≤ 1099511627776) (h3 : count ≤ 1099511627776) (h4 : token < 2147483648) (h5 : want < 256)
    (HR : Hid (∀ w, Calls Try.prog 36 #[.agg #[.int .i64 (id : Nat), .int .u8 (want : Nat), .int .i64 (flow : Nat), .int .i64 (count : Nat), .int .i64 (token : Nat)]] w fun e w' => e = .returned (.bool true) ∧ Below w.heap.size w w')) :
    Calls Try.prog 30 #[.agg #[.int .i64 (id : Nat), .int .u8 (want : Nat), .int .i64 (flow : Nat), .int .i64 (count : Nat), .int .i64 (token : Nat)]] w fun e w' => ∃ va vc, e = .returned (.tuple #[.slice va 33 vc, .int .i64 0]) ∧ w'.ownsRow w.heap.size 5 1 (.slice va 33 vc) 33 (([UInt8.ofNat want] ++ encs [id, flow, count, token]).map bv) ∧ Below w.heap.size w w' := by
  obtain ⟨i0, hi, hz0, hz1, hz2⟩ := info_parts infoU8'
  have HEI := hid eight_any
  go_enter Try.func30, Try.ntmps30
  obtain ⟨wa, hwa⟩ : ∃ wa, w.alloc (.cells #[.int .i64 (id : Nat), .int .u8 (want : Nat), .int .i64 (flow : Nat), .int .i64 (count : Nat), .int .i64 (token : Nat)] 54) = wa := ⟨_, rfl⟩
  obtain ⟨A, hA⟩ : ∃ A, w.heap.size = A := ⟨_, rfl⟩
  have hblk : wa.heap[A]? = some (.cells #[.int .i64 (id : Nat), .int .u8 (want : Nat), .int .i64 (flow : Nat), .int .i64 (count : Nat), .int .i64 (token : Nat)] 54 (0, 0)) := by rw [← hwa, ← hA]; exact heap_alloc_new _ _
  have hAs : A < wa.heap.size := (Array.getElem?_eq_some_iff.1 hblk).1
  have HWA : Hid (Below w.heap.size w wa ∧ w.heap.size ≤ wa.heap.size) := hid (by rw [← hwa]; exact ⟨(Below.refl _ _).alloc (Nat.le_refl _) _, by simp⟩)
  have HKK : Hid (∀ wx, Below wa.heap.size wa wx → wx.heap[A]? = some (.cells #[.int .i64 (id : Nat), .int .u8 (want : Nat), .int .i64 (flow : Nat), .int .i64 (count : Nat), .int .i64 (token : Nat)] 54 (0, 0))) := hid (fun wx hb => (hb.block A hAs).trans hblk)
  have c0 : wa.cell? ⟨A, 0, none⟩ = some (.int .i64 (id : Nat)) := by simp [World.cell?, hblk]
  have c1 : wa.cell? ⟨A, 1, none⟩ = some (.int .u8 (want : Nat)) := by simp [World.cell?, hblk]
  have c2 : wa.cell? ⟨A, 2, none⟩ = some (.int .i64 (flow : Nat)) := by simp [World.cell?, hblk]
  have c3 : wa.cell? ⟨A, 3, none⟩ = some (.int .i64 (count : Nat)) := by simp [World.cell?, hblk]
  have c4 : wa.cell? ⟨A, 4, none⟩ = some (.int .i64 (token : Nat)) := by simp [World.cell?, hblk]
  go_wp2_with fail
  try rw [hwa]
  try rw [hA]
  clear hwa hA hblk
  refine (HR.out _).mono ?_
  rintro e w1 ⟨rfl, hb1⟩
  have HB1 := hid hb1
  have hk1 := HKK.out w1 hb1
  have d0 : w1.cell? ⟨A, 0, none⟩ = some (.int .i64 (id : Nat)) := by simp [World.cell?, hk1]
  have d1 : w1.cell? ⟨A, 1, none⟩ = some (.int .u8 (want : Nat)) := by simp [World.cell?, hk1]
  have d2 : w1.cell? ⟨A, 2, none⟩ = some (.int .i64 (flow : Nat)) := by simp [World.cell?, hk1]
  have d3 : w1.cell? ⟨A, 3, none⟩ = some (.int .i64 (count : Nat)) := by simp [World.cell?, hk1]
  have d4 : w1.cell? ⟨A, 4, none⟩ = some (.int .i64 (token : Nat)) := by simp [World.cell?, hk1]
  clear hb1 hk1 c0 c1 c2 c3 c4
  obtain ⟨w2, hw2⟩ : ∃ w2, w1.alloc (.cells #[.int .u8 (want : Nat)] 5) = w2 := ⟨_, rfl⟩
  obtain ⟨G, hG⟩ : ∃ G, w1.heap.size = G := ⟨_, rfl⟩
  have HO2 : Hid (w2.ownsRow wa.heap.size 5 1 (.slice (some ⟨G, 0, none⟩) 1 1) 1 [.int .u8 (want : Nat)] ∧ Below wa.heap.size wa w2) := hid (by
    rw [← hw2, ← hG]
    exact ⟨owns_low (lit1_own w1 (want : Nat)) HB1.out.size, HB1.out.alloc HB1.out.size _⟩)
  have hk2 := HKK.out w2 HO2.out.2
  have f0 : w2.cell? ⟨A, 0, none⟩ = some (.int .i64 (id : Nat)) := by simp [World.cell?, hk2]
  have f1 : w2.cell? ⟨A, 1, none⟩ = some (.int .u8 (want : Nat)) := by simp [World.cell?, hk2]
  have f2 : w2.cell? ⟨A, 2, none⟩ = some (.int .i64 (flow : Nat)) := by simp [World.cell?, hk2]
  have f3 : w2.cell? ⟨A, 3, none⟩ = some (.int .i64 (count : Nat)) := by simp [World.cell?, hk2]
  have f4 : w2.cell? ⟨A, 4, none⟩ = some (.int .i64 (token : Nat)) := by simp [World.cell?, hk2]
  go_wp2_with fail
  try rw [hw2]
  try rw [hG]
  clear hw2 hG hk2 d0 d1 d2 d3 d4
  have e0 := HEI.out id (by omega) w2
  go_wp2_with fail
  refine e0.mono ?_
  rintro e w3 ⟨a0, k0, rfl, hown0, hb0⟩
  obtain ⟨g0, rfl, hc0⟩ := own_news hown0
  have HQ0 := hid (own_bel HO2.out.1 hb0)
  have HB0 : Hid (Below wa.heap.size wa w3) := hid (HO2.out.2.trans (hb0.mono HO2.out.2.size))
  have HC0 := hid hc0
  have hs0 := HB0.out.size
  have x00 : w3.cell? ⟨A, 0, none⟩ = some (.int .i64 (id : Nat)) := by simp [World.cell?, HKK.out w3 HB0.out]
  have x01 : w3.cell? ⟨A, 1, none⟩ = some (.int .u8 (want : Nat)) := by simp [World.cell?, HKK.out w3 HB0.out]
  have x02 : w3.cell? ⟨A, 2, none⟩ = some (.int .i64 (flow : Nat)) := by simp [World.cell?, HKK.out w3 HB0.out]
  have x03 : w3.cell? ⟨A, 3, none⟩ = some (.int .i64 (count : Nat)) := by simp [World.cell?, HKK.out w3 HB0.out]
  have x04 : w3.cell? ⟨A, 4, none⟩ = some (.int .i64 (token : Nat)) := by simp [World.cell?, HKK.out w3 HB0.out]
  clear hown0 hb0 hc0 e0
  go_wp2_with (at_builtin
               refine wpList_append_own_at _ rfl _ _ 28 rfl wa.heap.size 5 i0 (.int .u8 0) 1 1 Try.underlying28 hi hz0 hz1 hz2 rfl (by decide) _ 1 _ rfl HQ0.out ⟨g0, 0, none⟩ 8 _ ((enc id).map bv) rfl rfl HC0.out (one_cells _) (by unfold maxLen; omega) (by omega) (by omega) ?_
               intro v4 w4 hown4 hgrow4 _ _
               obtain ⟨va4, vc4, rfl⟩ := owns_shape hown4
               have HO4 := hid (And.intro hown4 (grow_bel HB0.out (Nat.le_refl _) HQ0.out hgrow4))
               have y00 : w4.cell? ⟨A, 0, none⟩ = some (.int .i64 (id : Nat)) := by simp [World.cell?, HKK.out w4 HO4.out.2]
               have y01 : w4.cell? ⟨A, 1, none⟩ = some (.int .u8 (want : Nat)) := by simp [World.cell?, HKK.out w4 HO4.out.2]
               have y02 : w4.cell? ⟨A, 2, none⟩ = some (.int .i64 (flow : Nat)) := by simp [World.cell?, HKK.out w4 HO4.out.2]
               have y03 : w4.cell? ⟨A, 3, none⟩ = some (.int .i64 (count : Nat)) := by simp [World.cell?, HKK.out w4 HO4.out.2]
               have y04 : w4.cell? ⟨A, 4, none⟩ = some (.int .i64 (token : Nat)) := by simp [World.cell?, HKK.out w4 HO4.out.2]
               clear hown4 hgrow4)
  have e1 := HEI.out flow (by omega) w4
  go_wp2_with fail
  refine e1.mono ?_
  rintro e w5 ⟨a1, k1, rfl, hown1, hb1⟩
  obtain ⟨g1, rfl, hc1⟩ := own_news hown1
  have HQ1 := hid (own_bel HO4.out.1 hb1)
  have HB1 : Hid (Below wa.heap.size wa w5) := hid (HO4.out.2.trans (hb1.mono HO4.out.2.size))
  have HC1 := hid hc1
  have hs1 := HB1.out.size
  have x10 : w5.cell? ⟨A, 0, none⟩ = some (.int .i64 (id : Nat)) := by simp [World.cell?, HKK.out w5 HB1.out]
  have x11 : w5.cell? ⟨A, 1, none⟩ = some (.int .u8 (want : Nat)) := by simp [World.cell?, HKK.out w5 HB1.out]
  have x12 : w5.cell? ⟨A, 2, none⟩ = some (.int .i64 (flow : Nat)) := by simp [World.cell?, HKK.out w5 HB1.out]
  have x13 : w5.cell? ⟨A, 3, none⟩ = some (.int .i64 (count : Nat)) := by simp [World.cell?, HKK.out w5 HB1.out]
  have x14 : w5.cell? ⟨A, 4, none⟩ = some (.int .i64 (token : Nat)) := by simp [World.cell?, HKK.out w5 HB1.out]
  clear hown1 hb1 hc1 e1
  go_wp2_with (at_builtin
               refine wpList_append_own_at _ rfl _ _ 28 rfl wa.heap.size 5 i0 (.int .u8 0) 1 1 Try.underlying28 hi hz0 hz1 hz2 rfl (by decide) _ 9 _ rfl HQ1.out ⟨g1, 0, none⟩ 8 _ ((enc flow).map bv) rfl rfl HC1.out (one_cells _) (by unfold maxLen; omega) (by omega) (by omega) ?_
               intro v4 w6 hown4 hgrow4 _ _
               obtain ⟨va6, vc6, rfl⟩ := owns_shape hown4
               have HO6 := hid (And.intro hown4 (grow_bel HB1.out (Nat.le_refl _) HQ1.out hgrow4))
               have y10 : w6.cell? ⟨A, 0, none⟩ = some (.int .i64 (id : Nat)) := by simp [World.cell?, HKK.out w6 HO6.out.2]
               have y11 : w6.cell? ⟨A, 1, none⟩ = some (.int .u8 (want : Nat)) := by simp [World.cell?, HKK.out w6 HO6.out.2]
               have y12 : w6.cell? ⟨A, 2, none⟩ = some (.int .i64 (flow : Nat)) := by simp [World.cell?, HKK.out w6 HO6.out.2]
               have y13 : w6.cell? ⟨A, 3, none⟩ = some (.int .i64 (count : Nat)) := by simp [World.cell?, HKK.out w6 HO6.out.2]
               have y14 : w6.cell? ⟨A, 4, none⟩ = some (.int .i64 (token : Nat)) := by simp [World.cell?, HKK.out w6 HO6.out.2]
               clear hown4 hgrow4)
  have e2 := HEI.out count (by omega) w6
  go_wp2_with fail
  refine e2.mono ?_
  rintro e w7 ⟨a2, k2, rfl, hown2, hb2⟩
  obtain ⟨g2, rfl, hc2⟩ := own_news hown2
  have HQ2 := hid (own_bel HO6.out.1 hb2)
  have HB2 : Hid (Below wa.heap.size wa w7) := hid (HO6.out.2.trans (hb2.mono HO6.out.2.size))
  have HC2 := hid hc2
  have hs2 := HB2.out.size
  have x20 : w7.cell? ⟨A, 0, none⟩ = some (.int .i64 (id : Nat)) := by simp [World.cell?, HKK.out w7 HB2.out]
  have x21 : w7.cell? ⟨A, 1, none⟩ = some (.int .u8 (want : Nat)) := by simp [World.cell?, HKK.out w7 HB2.out]
  have x22 : w7.cell? ⟨A, 2, none⟩ = some (.int .i64 (flow : Nat)) := by simp [World.cell?, HKK.out w7 HB2.out]
  have x23 : w7.cell? ⟨A, 3, none⟩ = some (.int .i64 (count : Nat)) := by simp [World.cell?, HKK.out w7 HB2.out]
  have x24 : w7.cell? ⟨A, 4, none⟩ = some (.int .i64 (token : Nat)) := by simp [World.cell?, HKK.out w7 HB2.out]
  clear hown2 hb2 hc2 e2
  go_wp2_with (at_builtin
               refine wpList_append_own_at _ rfl _ _ 28 rfl wa.heap.size 5 i0 (.int .u8 0) 1 1 Try.underlying28 hi hz0 hz1 hz2 rfl (by decide) _ 17 _ rfl HQ2.out ⟨g2, 0, none⟩ 8 _ ((enc count).map bv) rfl rfl HC2.out (one_cells _) (by unfold maxLen; omega) (by omega) (by omega) ?_
               intro v4 w8 hown4 hgrow4 _ _
               obtain ⟨va8, vc8, rfl⟩ := owns_shape hown4
               have HO8 := hid (And.intro hown4 (grow_bel HB2.out (Nat.le_refl _) HQ2.out hgrow4))
               have y20 : w8.cell? ⟨A, 0, none⟩ = some (.int .i64 (id : Nat)) := by simp [World.cell?, HKK.out w8 HO8.out.2]
               have y21 : w8.cell? ⟨A, 1, none⟩ = some (.int .u8 (want : Nat)) := by simp [World.cell?, HKK.out w8 HO8.out.2]
               have y22 : w8.cell? ⟨A, 2, none⟩ = some (.int .i64 (flow : Nat)) := by simp [World.cell?, HKK.out w8 HO8.out.2]
               have y23 : w8.cell? ⟨A, 3, none⟩ = some (.int .i64 (count : Nat)) := by simp [World.cell?, HKK.out w8 HO8.out.2]
               have y24 : w8.cell? ⟨A, 4, none⟩ = some (.int .i64 (token : Nat)) := by simp [World.cell?, HKK.out w8 HO8.out.2]
               clear hown4 hgrow4)
  have e3 := HEI.out token (by omega) w8
  go_wp2_with fail
  refine e3.mono ?_
  rintro e w9 ⟨a3, k3, rfl, hown3, hb3⟩
  obtain ⟨g3, rfl, hc3⟩ := own_news hown3
  have HQ3 := hid (own_bel HO8.out.1 hb3)
  have HB3 : Hid (Below wa.heap.size wa w9) := hid (HO8.out.2.trans (hb3.mono HO8.out.2.size))
  have HC3 := hid hc3
  have hs3 := HB3.out.size
  have x30 : w9.cell? ⟨A, 0, none⟩ = some (.int .i64 (id : Nat)) := by simp [World.cell?, HKK.out w9 HB3.out]
  have x31 : w9.cell? ⟨A, 1, none⟩ = some (.int .u8 (want : Nat)) := by simp [World.cell?, HKK.out w9 HB3.out]
  have x32 : w9.cell? ⟨A, 2, none⟩ = some (.int .i64 (flow : Nat)) := by simp [World.cell?, HKK.out w9 HB3.out]
  have x33 : w9.cell? ⟨A, 3, none⟩ = some (.int .i64 (count : Nat)) := by simp [World.cell?, HKK.out w9 HB3.out]
  have x34 : w9.cell? ⟨A, 4, none⟩ = some (.int .i64 (token : Nat)) := by simp [World.cell?, HKK.out w9 HB3.out]
  clear hown3 hb3 hc3 e3
  go_wp2_with (at_builtin
               refine wpList_append_own_at _ rfl _ _ 28 rfl wa.heap.size 5 i0 (.int .u8 0) 1 1 Try.underlying28 hi hz0 hz1 hz2 rfl (by decide) _ 25 _ rfl HQ3.out ⟨g3, 0, none⟩ 8 _ ((enc token).map bv) rfl rfl HC3.out (one_cells _) (by unfold maxLen; omega) (by omega) (by omega) ?_
               intro v4 w10 hown4 hgrow4 _ _
               obtain ⟨va10, vc10, rfl⟩ := owns_shape hown4
               have HO10 := hid (And.intro hown4 (grow_bel HB3.out (Nat.le_refl _) HQ3.out hgrow4))
               have y30 : w10.cell? ⟨A, 0, none⟩ = some (.int .i64 (id : Nat)) := by simp [World.cell?, HKK.out w10 HO10.out.2]
               have y31 : w10.cell? ⟨A, 1, none⟩ = some (.int .u8 (want : Nat)) := by simp [World.cell?, HKK.out w10 HO10.out.2]
               have y32 : w10.cell? ⟨A, 2, none⟩ = some (.int .i64 (flow : Nat)) := by simp [World.cell?, HKK.out w10 HO10.out.2]
               have y33 : w10.cell? ⟨A, 3, none⟩ = some (.int .i64 (count : Nat)) := by simp [World.cell?, HKK.out w10 HO10.out.2]
               have y34 : w10.cell? ⟨A, 4, none⟩ = some (.int .i64 (token : Nat)) := by simp [World.cell?, HKK.out w10 HO10.out.2]
               clear hown4 hgrow4)
  go_ret2
  refine ⟨va10, vc10, rfl, ?_, HWA.out.1.trans (HO10.out.2.mono HWA.out.2)⟩
  have h9 := owns_low HO10.out.1 HWA.out.2
  exact (congrArg (fun l => w10.ownsRow w.heap.size 5 1 (.slice va10 33 vc10) 33 l) (by simp [encs, bv] <;> omega)).mp h9

set_option maxRecDepth 20000 in
set_option maxHeartbeats 4000000 in
theorem rrequest_core (id flow count token want : Nat) (t : ByteArray) (w : World) (h1 : id < 2147483648) (h2 : flow ≤ 1099511627776) (h3 : count ≤ 1099511627776) (h4 : token < 2147483648) (h5 : want < 256) (ht : t.size ≤ 64)
    (HR : Hid (∀ w, Calls Try.prog 34 #[.agg #[.int .i64 (id : Nat), .int .u8 (want : Nat), .int .i64 (flow : Nat), .int .i64 (count : Nat), .string t, .int .i64 (token : Nat)]] w fun e w' => e = .returned (.bool true) ∧ Below w.heap.size w w')) :
    Calls Try.prog 28 #[.agg #[.int .i64 (id : Nat), .int .u8 (want : Nat), .int .i64 (flow : Nat), .int .i64 (count : Nat), .string t, .int .i64 (token : Nat)]] w fun e w' => ∃ va vc, e = .returned (.tuple #[.slice va (34 + t.size) vc, .int .i64 0]) ∧ w'.ownsRow w.heap.size 5 1 (.slice va (34 + t.size) vc) (34 + t.size) (([UInt8.ofNat want] ++ encs [id, flow, count, token] ++ [UInt8.ofNat t.size] ++ t.data.toList).map bv) ∧ Below w.heap.size w w' := by
  obtain ⟨i0, hi, hz0, hz1, hz2⟩ := info_parts infoU8'
  have HEI := hid eight_any
  go_enter Try.func28, Try.ntmps28
  obtain ⟨wa, hwa⟩ : ∃ wa, w.alloc (.cells #[.int .i64 (id : Nat), .int .u8 (want : Nat), .int .i64 (flow : Nat), .int .i64 (count : Nat), .string t, .int .i64 (token : Nat)] 51) = wa := ⟨_, rfl⟩
  obtain ⟨A, hA⟩ : ∃ A, w.heap.size = A := ⟨_, rfl⟩
  have hblk : wa.heap[A]? = some (.cells #[.int .i64 (id : Nat), .int .u8 (want : Nat), .int .i64 (flow : Nat), .int .i64 (count : Nat), .string t, .int .i64 (token : Nat)] 51 (0, 0)) := by rw [← hwa, ← hA]; exact heap_alloc_new _ _
  have hAs : A < wa.heap.size := (Array.getElem?_eq_some_iff.1 hblk).1
  have HWA : Hid (Below w.heap.size w wa ∧ w.heap.size ≤ wa.heap.size) := hid (by rw [← hwa]; exact ⟨(Below.refl _ _).alloc (Nat.le_refl _) _, by simp⟩)
  have HKK : Hid (∀ wx, Below wa.heap.size wa wx → wx.heap[A]? = some (.cells #[.int .i64 (id : Nat), .int .u8 (want : Nat), .int .i64 (flow : Nat), .int .i64 (count : Nat), .string t, .int .i64 (token : Nat)] 51 (0, 0))) := hid (fun wx hb => (hb.block A hAs).trans hblk)
  have c0 : wa.cell? ⟨A, 0, none⟩ = some (.int .i64 (id : Nat)) := by simp [World.cell?, hblk]
  have c1 : wa.cell? ⟨A, 1, none⟩ = some (.int .u8 (want : Nat)) := by simp [World.cell?, hblk]
  have c2 : wa.cell? ⟨A, 2, none⟩ = some (.int .i64 (flow : Nat)) := by simp [World.cell?, hblk]
  have c3 : wa.cell? ⟨A, 3, none⟩ = some (.int .i64 (count : Nat)) := by simp [World.cell?, hblk]
  have c4 : wa.cell? ⟨A, 4, none⟩ = some (.string t) := by simp [World.cell?, hblk]
  have c5 : wa.cell? ⟨A, 5, none⟩ = some (.int .i64 (token : Nat)) := by simp [World.cell?, hblk]
  go_wp2_with fail
  try rw [hwa]
  try rw [hA]
  clear hwa hA hblk
  refine (HR.out _).mono ?_
  rintro e w1 ⟨rfl, hb1⟩
  have HB1 := hid hb1
  have hk1 := HKK.out w1 hb1
  have d0 : w1.cell? ⟨A, 0, none⟩ = some (.int .i64 (id : Nat)) := by simp [World.cell?, hk1]
  have d1 : w1.cell? ⟨A, 1, none⟩ = some (.int .u8 (want : Nat)) := by simp [World.cell?, hk1]
  have d2 : w1.cell? ⟨A, 2, none⟩ = some (.int .i64 (flow : Nat)) := by simp [World.cell?, hk1]
  have d3 : w1.cell? ⟨A, 3, none⟩ = some (.int .i64 (count : Nat)) := by simp [World.cell?, hk1]
  have d4 : w1.cell? ⟨A, 4, none⟩ = some (.string t) := by simp [World.cell?, hk1]
  have d5 : w1.cell? ⟨A, 5, none⟩ = some (.int .i64 (token : Nat)) := by simp [World.cell?, hk1]
  clear hb1 hk1 c0 c1 c2 c3 c4 c5
  obtain ⟨w2, hw2⟩ : ∃ w2, w1.alloc (.cells #[.int .u8 (want : Nat)] 5) = w2 := ⟨_, rfl⟩
  obtain ⟨G, hG⟩ : ∃ G, w1.heap.size = G := ⟨_, rfl⟩
  have HO2 : Hid (w2.ownsRow wa.heap.size 5 1 (.slice (some ⟨G, 0, none⟩) 1 1) 1 [.int .u8 (want : Nat)] ∧ Below wa.heap.size wa w2) := hid (by
    rw [← hw2, ← hG]
    exact ⟨owns_low (lit1_own w1 (want : Nat)) HB1.out.size, HB1.out.alloc HB1.out.size _⟩)
  have hk2 := HKK.out w2 HO2.out.2
  have f0 : w2.cell? ⟨A, 0, none⟩ = some (.int .i64 (id : Nat)) := by simp [World.cell?, hk2]
  have f1 : w2.cell? ⟨A, 1, none⟩ = some (.int .u8 (want : Nat)) := by simp [World.cell?, hk2]
  have f2 : w2.cell? ⟨A, 2, none⟩ = some (.int .i64 (flow : Nat)) := by simp [World.cell?, hk2]
  have f3 : w2.cell? ⟨A, 3, none⟩ = some (.int .i64 (count : Nat)) := by simp [World.cell?, hk2]
  have f4 : w2.cell? ⟨A, 4, none⟩ = some (.string t) := by simp [World.cell?, hk2]
  have f5 : w2.cell? ⟨A, 5, none⟩ = some (.int .i64 (token : Nat)) := by simp [World.cell?, hk2]
  go_wp2_with fail
  try rw [hw2]
  try rw [hG]
  clear hw2 hG hk2 d0 d1 d2 d3 d4 d5
  have e0 := HEI.out id (by omega) w2
  go_wp2_with fail
  refine e0.mono ?_
  rintro e w3 ⟨a0, k0, rfl, hown0, hb0⟩
  obtain ⟨g0, rfl, hc0⟩ := own_news hown0
  have HQ0 := hid (own_bel HO2.out.1 hb0)
  have HB0 : Hid (Below wa.heap.size wa w3) := hid (HO2.out.2.trans (hb0.mono HO2.out.2.size))
  have HC0 := hid hc0
  have hs0 := HB0.out.size
  have x00 : w3.cell? ⟨A, 0, none⟩ = some (.int .i64 (id : Nat)) := by simp [World.cell?, HKK.out w3 HB0.out]
  have x01 : w3.cell? ⟨A, 1, none⟩ = some (.int .u8 (want : Nat)) := by simp [World.cell?, HKK.out w3 HB0.out]
  have x02 : w3.cell? ⟨A, 2, none⟩ = some (.int .i64 (flow : Nat)) := by simp [World.cell?, HKK.out w3 HB0.out]
  have x03 : w3.cell? ⟨A, 3, none⟩ = some (.int .i64 (count : Nat)) := by simp [World.cell?, HKK.out w3 HB0.out]
  have x04 : w3.cell? ⟨A, 4, none⟩ = some (.string t) := by simp [World.cell?, HKK.out w3 HB0.out]
  have x05 : w3.cell? ⟨A, 5, none⟩ = some (.int .i64 (token : Nat)) := by simp [World.cell?, HKK.out w3 HB0.out]
  clear hown0 hb0 hc0 e0
  go_wp2_with (at_builtin
               refine wpList_append_own_at _ rfl _ _ 28 rfl wa.heap.size 5 i0 (.int .u8 0) 1 1 Try.underlying28 hi hz0 hz1 hz2 rfl (by decide) _ 1 _ rfl HQ0.out ⟨g0, 0, none⟩ 8 _ ((enc id).map bv) rfl rfl HC0.out (one_cells _) (by unfold maxLen; omega) (by omega) (by omega) ?_
               intro v4 w4 hown4 hgrow4 _ _
               obtain ⟨va4, vc4, rfl⟩ := owns_shape hown4
               have HO4 := hid (And.intro hown4 (grow_bel HB0.out (Nat.le_refl _) HQ0.out hgrow4))
               have y00 : w4.cell? ⟨A, 0, none⟩ = some (.int .i64 (id : Nat)) := by simp [World.cell?, HKK.out w4 HO4.out.2]
               have y01 : w4.cell? ⟨A, 1, none⟩ = some (.int .u8 (want : Nat)) := by simp [World.cell?, HKK.out w4 HO4.out.2]
               have y02 : w4.cell? ⟨A, 2, none⟩ = some (.int .i64 (flow : Nat)) := by simp [World.cell?, HKK.out w4 HO4.out.2]
               have y03 : w4.cell? ⟨A, 3, none⟩ = some (.int .i64 (count : Nat)) := by simp [World.cell?, HKK.out w4 HO4.out.2]
               have y04 : w4.cell? ⟨A, 4, none⟩ = some (.string t) := by simp [World.cell?, HKK.out w4 HO4.out.2]
               have y05 : w4.cell? ⟨A, 5, none⟩ = some (.int .i64 (token : Nat)) := by simp [World.cell?, HKK.out w4 HO4.out.2]
               clear hown4 hgrow4)
  have e1 := HEI.out flow (by omega) w4
  go_wp2_with fail
  refine e1.mono ?_
  rintro e w5 ⟨a1, k1, rfl, hown1, hb1⟩
  obtain ⟨g1, rfl, hc1⟩ := own_news hown1
  have HQ1 := hid (own_bel HO4.out.1 hb1)
  have HB1 : Hid (Below wa.heap.size wa w5) := hid (HO4.out.2.trans (hb1.mono HO4.out.2.size))
  have HC1 := hid hc1
  have hs1 := HB1.out.size
  have x10 : w5.cell? ⟨A, 0, none⟩ = some (.int .i64 (id : Nat)) := by simp [World.cell?, HKK.out w5 HB1.out]
  have x11 : w5.cell? ⟨A, 1, none⟩ = some (.int .u8 (want : Nat)) := by simp [World.cell?, HKK.out w5 HB1.out]
  have x12 : w5.cell? ⟨A, 2, none⟩ = some (.int .i64 (flow : Nat)) := by simp [World.cell?, HKK.out w5 HB1.out]
  have x13 : w5.cell? ⟨A, 3, none⟩ = some (.int .i64 (count : Nat)) := by simp [World.cell?, HKK.out w5 HB1.out]
  have x14 : w5.cell? ⟨A, 4, none⟩ = some (.string t) := by simp [World.cell?, HKK.out w5 HB1.out]
  have x15 : w5.cell? ⟨A, 5, none⟩ = some (.int .i64 (token : Nat)) := by simp [World.cell?, HKK.out w5 HB1.out]
  clear hown1 hb1 hc1 e1
  go_wp2_with (at_builtin
               refine wpList_append_own_at _ rfl _ _ 28 rfl wa.heap.size 5 i0 (.int .u8 0) 1 1 Try.underlying28 hi hz0 hz1 hz2 rfl (by decide) _ 9 _ rfl HQ1.out ⟨g1, 0, none⟩ 8 _ ((enc flow).map bv) rfl rfl HC1.out (one_cells _) (by unfold maxLen; omega) (by omega) (by omega) ?_
               intro v4 w6 hown4 hgrow4 _ _
               obtain ⟨va6, vc6, rfl⟩ := owns_shape hown4
               have HO6 := hid (And.intro hown4 (grow_bel HB1.out (Nat.le_refl _) HQ1.out hgrow4))
               have y10 : w6.cell? ⟨A, 0, none⟩ = some (.int .i64 (id : Nat)) := by simp [World.cell?, HKK.out w6 HO6.out.2]
               have y11 : w6.cell? ⟨A, 1, none⟩ = some (.int .u8 (want : Nat)) := by simp [World.cell?, HKK.out w6 HO6.out.2]
               have y12 : w6.cell? ⟨A, 2, none⟩ = some (.int .i64 (flow : Nat)) := by simp [World.cell?, HKK.out w6 HO6.out.2]
               have y13 : w6.cell? ⟨A, 3, none⟩ = some (.int .i64 (count : Nat)) := by simp [World.cell?, HKK.out w6 HO6.out.2]
               have y14 : w6.cell? ⟨A, 4, none⟩ = some (.string t) := by simp [World.cell?, HKK.out w6 HO6.out.2]
               have y15 : w6.cell? ⟨A, 5, none⟩ = some (.int .i64 (token : Nat)) := by simp [World.cell?, HKK.out w6 HO6.out.2]
               clear hown4 hgrow4)
  have e2 := HEI.out count (by omega) w6
  go_wp2_with fail
  refine e2.mono ?_
  rintro e w7 ⟨a2, k2, rfl, hown2, hb2⟩
  obtain ⟨g2, rfl, hc2⟩ := own_news hown2
  have HQ2 := hid (own_bel HO6.out.1 hb2)
  have HB2 : Hid (Below wa.heap.size wa w7) := hid (HO6.out.2.trans (hb2.mono HO6.out.2.size))
  have HC2 := hid hc2
  have hs2 := HB2.out.size
  have x20 : w7.cell? ⟨A, 0, none⟩ = some (.int .i64 (id : Nat)) := by simp [World.cell?, HKK.out w7 HB2.out]
  have x21 : w7.cell? ⟨A, 1, none⟩ = some (.int .u8 (want : Nat)) := by simp [World.cell?, HKK.out w7 HB2.out]
  have x22 : w7.cell? ⟨A, 2, none⟩ = some (.int .i64 (flow : Nat)) := by simp [World.cell?, HKK.out w7 HB2.out]
  have x23 : w7.cell? ⟨A, 3, none⟩ = some (.int .i64 (count : Nat)) := by simp [World.cell?, HKK.out w7 HB2.out]
  have x24 : w7.cell? ⟨A, 4, none⟩ = some (.string t) := by simp [World.cell?, HKK.out w7 HB2.out]
  have x25 : w7.cell? ⟨A, 5, none⟩ = some (.int .i64 (token : Nat)) := by simp [World.cell?, HKK.out w7 HB2.out]
  clear hown2 hb2 hc2 e2
  go_wp2_with (at_builtin
               refine wpList_append_own_at _ rfl _ _ 28 rfl wa.heap.size 5 i0 (.int .u8 0) 1 1 Try.underlying28 hi hz0 hz1 hz2 rfl (by decide) _ 17 _ rfl HQ2.out ⟨g2, 0, none⟩ 8 _ ((enc count).map bv) rfl rfl HC2.out (one_cells _) (by unfold maxLen; omega) (by omega) (by omega) ?_
               intro v4 w8 hown4 hgrow4 _ _
               obtain ⟨va8, vc8, rfl⟩ := owns_shape hown4
               have HO8 := hid (And.intro hown4 (grow_bel HB2.out (Nat.le_refl _) HQ2.out hgrow4))
               have y20 : w8.cell? ⟨A, 0, none⟩ = some (.int .i64 (id : Nat)) := by simp [World.cell?, HKK.out w8 HO8.out.2]
               have y21 : w8.cell? ⟨A, 1, none⟩ = some (.int .u8 (want : Nat)) := by simp [World.cell?, HKK.out w8 HO8.out.2]
               have y22 : w8.cell? ⟨A, 2, none⟩ = some (.int .i64 (flow : Nat)) := by simp [World.cell?, HKK.out w8 HO8.out.2]
               have y23 : w8.cell? ⟨A, 3, none⟩ = some (.int .i64 (count : Nat)) := by simp [World.cell?, HKK.out w8 HO8.out.2]
               have y24 : w8.cell? ⟨A, 4, none⟩ = some (.string t) := by simp [World.cell?, HKK.out w8 HO8.out.2]
               have y25 : w8.cell? ⟨A, 5, none⟩ = some (.int .i64 (token : Nat)) := by simp [World.cell?, HKK.out w8 HO8.out.2]
               clear hown4 hgrow4)
  have e3 := HEI.out token (by omega) w8
  go_wp2_with fail
  refine e3.mono ?_
  rintro e w9 ⟨a3, k3, rfl, hown3, hb3⟩
  obtain ⟨g3, rfl, hc3⟩ := own_news hown3
  have HQ3 := hid (own_bel HO8.out.1 hb3)
  have HB3 : Hid (Below wa.heap.size wa w9) := hid (HO8.out.2.trans (hb3.mono HO8.out.2.size))
  have HC3 := hid hc3
  have hs3 := HB3.out.size
  have x30 : w9.cell? ⟨A, 0, none⟩ = some (.int .i64 (id : Nat)) := by simp [World.cell?, HKK.out w9 HB3.out]
  have x31 : w9.cell? ⟨A, 1, none⟩ = some (.int .u8 (want : Nat)) := by simp [World.cell?, HKK.out w9 HB3.out]
  have x32 : w9.cell? ⟨A, 2, none⟩ = some (.int .i64 (flow : Nat)) := by simp [World.cell?, HKK.out w9 HB3.out]
  have x33 : w9.cell? ⟨A, 3, none⟩ = some (.int .i64 (count : Nat)) := by simp [World.cell?, HKK.out w9 HB3.out]
  have x34 : w9.cell? ⟨A, 4, none⟩ = some (.string t) := by simp [World.cell?, HKK.out w9 HB3.out]
  have x35 : w9.cell? ⟨A, 5, none⟩ = some (.int .i64 (token : Nat)) := by simp [World.cell?, HKK.out w9 HB3.out]
  clear hown3 hb3 hc3 e3
  go_wp2_with (first
    | (at_builtin
       refine wpList_append_own_at _ rfl _ _ 28 rfl wa.heap.size 5 i0 (.int .u8 0) 1 1 Try.underlying28 hi hz0 hz1 hz2 rfl (by decide) _ 25 _ rfl HQ3.out ⟨g3, 0, none⟩ 8 _ ((enc token).map bv) rfl rfl HC3.out (one_cells _) (by unfold maxLen; omega) (by omega) (by omega) ?_
       intro v4 w10 hown4 hgrow4 _ _
       obtain ⟨va10, vc10, rfl⟩ := owns_shape hown4
       have HO10 := hid (And.intro hown4 (grow_bel HB3.out (Nat.le_refl _) HQ3.out hgrow4))
       have y30 : w10.cell? ⟨A, 0, none⟩ = some (.int .i64 (id : Nat)) := by simp [World.cell?, HKK.out w10 HO10.out.2]
       have y31 : w10.cell? ⟨A, 1, none⟩ = some (.int .u8 (want : Nat)) := by simp [World.cell?, HKK.out w10 HO10.out.2]
       have y32 : w10.cell? ⟨A, 2, none⟩ = some (.int .i64 (flow : Nat)) := by simp [World.cell?, HKK.out w10 HO10.out.2]
       have y33 : w10.cell? ⟨A, 3, none⟩ = some (.int .i64 (count : Nat)) := by simp [World.cell?, HKK.out w10 HO10.out.2]
       have y34 : w10.cell? ⟨A, 4, none⟩ = some (.string t) := by simp [World.cell?, HKK.out w10 HO10.out.2]
       have y35 : w10.cell? ⟨A, 5, none⟩ = some (.int .i64 (token : Nat)) := by simp [World.cell?, HKK.out w10 HO10.out.2]
       clear hown4 hgrow4)
    | (at_builtin
       refine wpList_append_own_at _ rfl _ _ 28 rfl wa.heap.size 5 i0 (.int .u8 0) 1 1 Try.underlying28 hi hz0 hz1 hz2 rfl (by decide) (.slice va10 33 vc10) 33 _ rfl (World.ownsRow.alloc HO10.out.1 _) ⟨w10.heap.size, 0, none⟩ 1 1 [.int .u8 _] rfl rfl (AlbC.cell_one _ _ _) (by intro u hu; obtain rfl := List.mem_singleton.1 hu; rfl) (by unfold maxLen; omega) (by omega) (by have := HO10.out.2.size; simp; omega) ?_
       intro v4 w11 hown4 hgrow4 _ _
       obtain ⟨va11, vc11, rfl⟩ := owns_shape hown4
       have HO11 := hid (And.intro hown4 (Below.grown (HO10.out.2.alloc HO10.out.2.size _) hgrow4 (by have := HO10.out.2.size; simp; omega) (fun g e => (HO10.out.1.lt g e).1)))
       have hk11 := HKK.out w11 HO11.out.2
       have z4 : w11.cell? ⟨A, 4, none⟩ = some (.string t) := by simp [World.cell?, hk11]
       clear hown4 hgrow4 hk11)
    | (at_builtin
       refine Go.Lib.wpList_append_own_string _ rfl _ _ 28 9 rfl wa.heap.size 5 i0 Try.underlying28 Try.underlying9 hi hz0 hz1 hz2 (.slice va11 (33 + 1) vc11) (33 + 1) _ rfl HO11.out.1 t rfl (by unfold maxLen; omega) (by omega) HO11.out.2.size ?_
       intro v4 w12 hown4 hgrow4 _
       obtain ⟨va12, vc12, rfl⟩ := owns_shape hown4
       have HO12 := hid (And.intro hown4 (grow_bel HO11.out.2 (Nat.le_refl _) HO11.out.1 hgrow4))
       clear hown4 hgrow4))
  go_ret2
  have hl : 34 + t.size = 33 + 1 + t.size := by omega
  refine ⟨va12, vc12, by rw [hl]; rfl, ?_, HWA.out.1.trans (HO12.out.2.mono HWA.out.2)⟩
  have h9 := owns_low HO12.out.1 HWA.out.2
  rw [hl]
  exact (congrArg (fun l => w12.ownsRow w.heap.size 5 1 (.slice va12 (33 + 1 + t.size) vc12) (33 + 1 + t.size) l) (by simp [encs, bv, str_cells] <;> omega)).mp h9

end Go.Proofs.Ythmcfnbnafdkeaa.PrtE
