/- RejectMine. -/
import Derived.Test.YtakmfcnmcjbbgaaRejP
import Derived.Test.YtakmfcnmcjbbgaaRejX
import Derived.Test.YtakmfcnmcjbbgaaOpn
import Derived.Test.YtakmfcnmcjbbgaaRoom
namespace Go.Proofs.Ytakmfcnmcjbbgaa.RejQ
set_option linter.unusedVariables false
open Go.ChangeShapes Go.WideShapes Go.ChangeAt Go.RowKit Go.Deep Base RejA RejB RejC RejD RejE RejF RejG RejI RejK RejM RejN RejO RejP Txt Opn

set_option maxRecDepth 20000 in
set_option maxHeartbeats 2000000 in
theorem ints_core (g g' n cap cap' : Nat) (f : Nat → Int) (w : World) (hn : n ≤ 9223372036854775807) (hg : g < w.heap.size) (hg' : g' < w.heap.size)
    (H : Hid (∀ j, j < n → w.cell? ⟨g, j, none⟩ = some (.int .i64 (f j)))) (H' : Hid (∀ j, j < n → w.cell? ⟨g', j, none⟩ = some (.int .i64 (f j)))) :
    Calls Try.prog 15 #[.slice (some ⟨g, 0, none⟩) n cap, .slice (some ⟨g', 0, none⟩) n cap'] w fun e w' => e = .returned (.bool true) ∧ Below w.heap.size w w' := by
  go_enter Try.func15, Try.ntmps15
  go_wp2_with fail
  go_loopw [5] (fun i wr => ∃ k : Nat, k ≤ n ∧ i = .int .i64 k ∧ Below w.heap.size w wr) (fun i _ => n - (intOf i).toNat)
  case atStart => exact ⟨0, Nat.zero_le _, rfl, Below.refl _ _⟩
  case round =>
    obtain ⟨k, hk, rfl, hb⟩ := hrel
    have HB := hid hb
    by_cases hlt : k < n
    · have h1 := (hb.cell (p := ⟨g, k, none⟩) hg).trans (H.out k hlt)
      have h2 := (hb.cell (p := ⟨g', k, none⟩) hg').trans (H'.out k hlt)
      have hki : (k : Int) < n := by omega
      clear hb
      generalize f k = x at *
      go_wp2_with fail
      go_quiet (fail)
      have HB2 := hid (HB.out.trans (drewN_below wr nq _))
      clear h1 h2 HB
      generalize wr.drewN nq = wd at *
      go_wp2_with fail
      go_roundw
      case rel => exact ⟨k + 1, by omega, by go_num, HB2.out⟩
      case measure => simp [intOf]; omega
    · obtain rfl : k = n := by omega
      clear hb
      go_wp2_with fail
      go_ret
      exact ⟨rfl, HB.out⟩

set_option maxHeartbeats 400000 in
theorem ints_none (a a' : Option Addr) (cap cap' : Nat) (w : World) :
    Calls Try.prog 15 #[.slice a 0 cap, .slice a' 0 cap'] w fun e w' => e = .returned (.bool true) ∧ Below w.heap.size w w' := by
  go_enter Try.func15, Try.ntmps15
  go_wp2_with fail
  go_loop [5] (fun i => i = .int .i64 0) (fun i => 0)
  case atStart => rfl
  case round =>
    obtain rfl := hrel
    go_wp2_with fail
    go_ret
    exact ⟨rfl, Below.refl _ _⟩

theorem ints_same {B B' : Nat} {w : World} {v v' : Value} {l : List Nat} (hl : l.length ≤ 9223372036854775807) (h : w.ownsRow B 3 1 v l.length (vals l)) (h' : w.ownsRow B' 3 1 v' l.length (vals l)) :
    Calls Try.prog 15 #[v, v'] w fun e w' => e = .returned (.bool true) ∧ Below w.heap.size w w' := by
  obtain ⟨va, vc, rfl⟩ := Wri.owns_shape h
  obtain ⟨va', vc', rfl⟩ := Wri.owns_shape h'
  rcases Nat.eq_zero_or_pos l.length with h0 | h0
  · rw [h0]
    exact ints_none va va' vc vc' w
  · obtain ⟨_, g, rfl, hg, hc⟩ := vals_at h h0
    obtain ⟨_, g', rfl, hg', hc'⟩ := vals_at h' h0
    exact ints_core g g' l.length vc vc' _ w hl hg hg' (hid hc) (hid hc')

set_option maxRecDepth 100000 in
set_option maxHeartbeats 4000000 in
theorem mine_core (a a2 : Option Addr) (n cap n2 cap2 : Nat) (L : Nat → Flow) (q : Nat → Int) (c : Cal) (w : World) (hn : n ≤ 4000000000000) (hn2 : n2 ≤ 9223372036854775806) (HF : Hid (Flows w a n L)) (HI : Hid (IAt w a2 n2 q)) :
    Calls Try.prog 5 #[.slice a n cap, .agg #[.int .i64 c.at_, .string c.res, .string c.ctx, .string c.org, .bool c.inb, .int .i64 c.cnt, .slice c.a c.n c.cap], .slice a2 n2 cap2] w fun e w' => e = .returned (.bool true) ∧ Below w.heap.size w w' := by
  have HLen := hid (mines_len n L c n)
  have HB0 : Hid (Below w.heap.size w (w.alloc (.cells #[.int .i64 c.at_, .string c.res, .string c.ctx, .string c.org, .bool c.inb, .int .i64 c.cnt, .slice c.a c.n c.cap] 28))) := hid ((Below.refl _ _).alloc (Nat.le_refl _) _)
  have HL1 : Hid (∀ wx, Below w.heap.size w wx → Calls Try.prog 13 #[.slice a n cap, .slice a2 n2 cap2] wx fun e w' => e = .returned (.tuple #[.int .i64 (leastV (picks n L q n2)).1, .bool (leastV (picks n L q n2)).2]) ∧ Below wx.heap.size wx w') :=
    hid fun wx hx => Least_any a a2 n cap n2 cap2 L q wx (by omega) (by omega) (HF.out.below hx) (((IAt.lowed HI.out).kq hx (Nat.le_refl _)).il)
  have HL2 : Hid (∀ wx, Below w.heap.size w wx → Calls Try.prog 14 #[.slice a n cap, .slice a2 n2 cap2] wx fun e w' => e = .returned (.tuple #[.int .i64 (leastV (picks n L q n2)).1, .bool (leastV (picks n L q n2)).2]) ∧ Below wx.heap.size wx w') :=
    hid fun wx hx => RLeast_core a a2 n cap n2 cap2 L q wx (by omega) (by omega) (hid (HF.out.below hx)) (hid ((IAt.lowed HI.out).kq hx (Nat.le_refl _)).il)
  have HM1 : Hid (∀ wx, Below w.heap.size w wx → Calls Try.prog 16 #[.slice a n cap, .agg #[.int .i64 c.at_, .string c.res, .string c.ctx, .string c.org, .bool c.inb, .int .i64 c.cnt, .slice c.a c.n c.cap]] wx fun e w' => (∃ x, e = .returned x ∧ w'.ownsRow wx.heap.size 3 1 x (mines n L c n).length (vals (mines n L c n))) ∧ Below wx.heap.size wx w') :=
    hid fun wx hx => Mine_any a n cap L c wx hn (HF.out.below hx)
  have HM2 : Hid (∀ wx, Below w.heap.size w wx → Calls Try.prog 17 #[.slice a n cap, .agg #[.int .i64 c.at_, .string c.res, .string c.ctx, .string c.org, .bool c.inb, .int .i64 c.cnt, .slice c.a c.n c.cap]] wx fun e w' => (∃ x, e = .returned x ∧ w'.ownsRow wx.heap.size 3 1 x (mines n L c n).length (vals (mines n L c n))) ∧ Below wx.heap.size wx w') :=
    hid fun wx hx => RMine_any a n cap L c wx hn (hid (HF.out.below hx))
  have hsm : (mines n L c n).length ≤ 9223372036854775807 := by have := HLen.out; omega
  have HSM := hid hsm
  clear hsm
  generalize mines n L c n = ml at *
  generalize leastV (picks n L q n2) = lv at *
  obtain ⟨v, s⟩ := lv
  have hv : (v == v) = true := by simp
  have hs : (s == s) = true := by simp
  have y0 : (w.alloc (.cells #[.int .i64 c.at_, .string c.res, .string c.ctx, .string c.org, .bool c.inb, .int .i64 c.cnt, .slice c.a c.n c.cap] 28)).cell? ⟨w.heap.size, 0, none⟩ = some (.int .i64 c.at_) := by go_cell
  have y1 : (w.alloc (.cells #[.int .i64 c.at_, .string c.res, .string c.ctx, .string c.org, .bool c.inb, .int .i64 c.cnt, .slice c.a c.n c.cap] 28)).cell? ⟨w.heap.size, 1, none⟩ = some (.string c.res) := by go_cell
  have y2 : (w.alloc (.cells #[.int .i64 c.at_, .string c.res, .string c.ctx, .string c.org, .bool c.inb, .int .i64 c.cnt, .slice c.a c.n c.cap] 28)).cell? ⟨w.heap.size, 2, none⟩ = some (.string c.ctx) := by go_cell
  have y3 : (w.alloc (.cells #[.int .i64 c.at_, .string c.res, .string c.ctx, .string c.org, .bool c.inb, .int .i64 c.cnt, .slice c.a c.n c.cap] 28)).cell? ⟨w.heap.size, 3, none⟩ = some (.string c.org) := by go_cell
  have y4 : (w.alloc (.cells #[.int .i64 c.at_, .string c.res, .string c.ctx, .string c.org, .bool c.inb, .int .i64 c.cnt, .slice c.a c.n c.cap] 28)).cell? ⟨w.heap.size, 4, none⟩ = some (.bool c.inb) := by go_cell
  have y5 : (w.alloc (.cells #[.int .i64 c.at_, .string c.res, .string c.ctx, .string c.org, .bool c.inb, .int .i64 c.cnt, .slice c.a c.n c.cap] 28)).cell? ⟨w.heap.size, 5, none⟩ = some (.int .i64 c.cnt) := by go_cell
  have y6 : (w.alloc (.cells #[.int .i64 c.at_, .string c.res, .string c.ctx, .string c.org, .bool c.inb, .int .i64 c.cnt, .slice c.a c.n c.cap] 28)).cell? ⟨w.heap.size, 6, none⟩ = some (.slice c.a c.n c.cap) := by go_cell
  go_enter Try.func5, Try.ntmps5
  go_upto_region 1 with fail
  generalize w.alloc (.cells #[.int .i64 c.at_, .string c.res, .string c.ctx, .string c.org, .bool c.inb, .int .i64 c.cnt, .slice c.a c.n c.cap] 28) = w0 at *
  go_wp2_with fail
  refine (HL1.out _ HB0.out).mono ?_
  rintro e w1 ⟨rfl, hb3⟩
  have y0 : w1.cell? ⟨w.heap.size, 0, none⟩ = some (.int .i64 c.at_) := kc hb3 (by first | assumption | go_cell)
  have y1 : w1.cell? ⟨w.heap.size, 1, none⟩ = some (.string c.res) := kc hb3 (by first | assumption | go_cell)
  have y2 : w1.cell? ⟨w.heap.size, 2, none⟩ = some (.string c.ctx) := kc hb3 (by first | assumption | go_cell)
  have y3 : w1.cell? ⟨w.heap.size, 3, none⟩ = some (.string c.org) := kc hb3 (by first | assumption | go_cell)
  have y4 : w1.cell? ⟨w.heap.size, 4, none⟩ = some (.bool c.inb) := kc hb3 (by first | assumption | go_cell)
  have y5 : w1.cell? ⟨w.heap.size, 5, none⟩ = some (.int .i64 c.cnt) := kc hb3 (by first | assumption | go_cell)
  have y6 : w1.cell? ⟨w.heap.size, 6, none⟩ = some (.slice c.a c.n c.cap) := kc hb3 (by first | assumption | go_cell)
  have HB1 := hid (bl HB0.out hb3)
  clear hb3 HB0 HL1
  go_wp2_with fail
  refine (HL2.out _ HB1.out).mono ?_
  rintro e w2 ⟨rfl, hb3⟩
  have y0 : w2.cell? ⟨w.heap.size, 0, none⟩ = some (.int .i64 c.at_) := kc hb3 (by first | assumption | go_cell)
  have y1 : w2.cell? ⟨w.heap.size, 1, none⟩ = some (.string c.res) := kc hb3 (by first | assumption | go_cell)
  have y2 : w2.cell? ⟨w.heap.size, 2, none⟩ = some (.string c.ctx) := kc hb3 (by first | assumption | go_cell)
  have y3 : w2.cell? ⟨w.heap.size, 3, none⟩ = some (.string c.org) := kc hb3 (by first | assumption | go_cell)
  have y4 : w2.cell? ⟨w.heap.size, 4, none⟩ = some (.bool c.inb) := kc hb3 (by first | assumption | go_cell)
  have y5 : w2.cell? ⟨w.heap.size, 5, none⟩ = some (.int .i64 c.cnt) := kc hb3 (by first | assumption | go_cell)
  have y6 : w2.cell? ⟨w.heap.size, 6, none⟩ = some (.slice c.a c.n c.cap) := kc hb3 (by first | assumption | go_cell)
  have HB2 := hid (bl HB1.out hb3)
  clear hb3 HB1 HL2
  have kb : Below w.heap.size w w2.drew := HB2.out.drew
  clear HB2
  go_upto_region 3 with fail
  go_region_held3 (fun w' => w'.cell? ⟨w.heap.size, 0, none⟩ = some (.int .i64 c.at_) ∧ w'.cell? ⟨w.heap.size, 1, none⟩ = some (.string c.res) ∧ w'.cell? ⟨w.heap.size, 2, none⟩ = some (.string c.ctx) ∧ w'.cell? ⟨w.heap.size, 3, none⟩ = some (.string c.org) ∧ w'.cell? ⟨w.heap.size, 4, none⟩ = some (.bool c.inb) ∧ w'.cell? ⟨w.heap.size, 5, none⟩ = some (.int .i64 c.cnt) ∧ w'.cell? ⟨w.heap.size, 6, none⟩ = some (.slice c.a c.n c.cap)) (first | assumption | go_keep)
    (first
      | (go_at_call 10; refine (live_any _).mono ?_; rintro e w3 ⟨rfl, hb3⟩
         have y0 : w3.cell? ⟨w.heap.size, 0, none⟩ = some (.int .i64 c.at_) := kc hb3 (by first | assumption | go_cell)
         have y1 : w3.cell? ⟨w.heap.size, 1, none⟩ = some (.string c.res) := kc hb3 (by first | assumption | go_cell)
         have y2 : w3.cell? ⟨w.heap.size, 2, none⟩ = some (.string c.ctx) := kc hb3 (by first | assumption | go_cell)
         have y3 : w3.cell? ⟨w.heap.size, 3, none⟩ = some (.string c.org) := kc hb3 (by first | assumption | go_cell)
         have y4 : w3.cell? ⟨w.heap.size, 4, none⟩ = some (.bool c.inb) := kc hb3 (by first | assumption | go_cell)
         have y5 : w3.cell? ⟨w.heap.size, 5, none⟩ = some (.int .i64 c.cnt) := kc hb3 (by first | assumption | go_cell)
         have y6 : w3.cell? ⟨w.heap.size, 6, none⟩ = some (.slice c.a c.n c.cap) := kc hb3 (by first | assumption | go_cell)
         try have HX1 := hid (owns_keep HX1.out hb3)
         try have HX2 := hid (owns_keep HX2.out hb3)
         have kb : Below w.heap.size w w3 := bl (by first | assumption | exact (Below.drew (by assumption))) hb3)
      | (go_at_call 16; refine (HM1.out _ (by first | assumption | exact (Below.drew (by assumption)))).mono ?_; rintro e w3 ⟨⟨x1, rfl, hx3⟩, hb3⟩
         have y0 : w3.cell? ⟨w.heap.size, 0, none⟩ = some (.int .i64 c.at_) := kc hb3 (by first | assumption | go_cell)
         have y1 : w3.cell? ⟨w.heap.size, 1, none⟩ = some (.string c.res) := kc hb3 (by first | assumption | go_cell)
         have y2 : w3.cell? ⟨w.heap.size, 2, none⟩ = some (.string c.ctx) := kc hb3 (by first | assumption | go_cell)
         have y3 : w3.cell? ⟨w.heap.size, 3, none⟩ = some (.string c.org) := kc hb3 (by first | assumption | go_cell)
         have y4 : w3.cell? ⟨w.heap.size, 4, none⟩ = some (.bool c.inb) := kc hb3 (by first | assumption | go_cell)
         have y5 : w3.cell? ⟨w.heap.size, 5, none⟩ = some (.int .i64 c.cnt) := kc hb3 (by first | assumption | go_cell)
         have y6 : w3.cell? ⟨w.heap.size, 6, none⟩ = some (.slice c.a c.n c.cap) := kc hb3 (by first | assumption | go_cell)
         try have HX2 := hid (owns_keep HX2.out hb3)
         have HX1 := hid hx3
         have kb : Below w.heap.size w w3 := bl (by first | assumption | exact (Below.drew (by assumption))) hb3)
      | (go_at_call 17; refine (HM2.out _ (by first | assumption | exact (Below.drew (by assumption)))).mono ?_; rintro e w3 ⟨⟨x2, rfl, hx3⟩, hb3⟩
         have y0 : w3.cell? ⟨w.heap.size, 0, none⟩ = some (.int .i64 c.at_) := kc hb3 (by first | assumption | go_cell)
         have y1 : w3.cell? ⟨w.heap.size, 1, none⟩ = some (.string c.res) := kc hb3 (by first | assumption | go_cell)
         have y2 : w3.cell? ⟨w.heap.size, 2, none⟩ = some (.string c.ctx) := kc hb3 (by first | assumption | go_cell)
         have y3 : w3.cell? ⟨w.heap.size, 3, none⟩ = some (.string c.org) := kc hb3 (by first | assumption | go_cell)
         have y4 : w3.cell? ⟨w.heap.size, 4, none⟩ = some (.bool c.inb) := kc hb3 (by first | assumption | go_cell)
         have y5 : w3.cell? ⟨w.heap.size, 5, none⟩ = some (.int .i64 c.cnt) := kc hb3 (by first | assumption | go_cell)
         have y6 : w3.cell? ⟨w.heap.size, 6, none⟩ = some (.slice c.a c.n c.cap) := kc hb3 (by first | assumption | go_cell)
         try have HX1 := hid (owns_keep HX1.out hb3)
         have HX2 := hid hx3
         have kb : Below w.heap.size w w3 := bl (by first | assumption | exact (Below.drew (by assumption))) hb3)
      | (go_at_call 15; refine (ints_same HSM.out HX1.out HX2.out).mono ?_; rintro e w3 ⟨rfl, hb3⟩
         have y0 : w3.cell? ⟨w.heap.size, 0, none⟩ = some (.int .i64 c.at_) := kc hb3 (by first | assumption | go_cell)
         have y1 : w3.cell? ⟨w.heap.size, 1, none⟩ = some (.string c.res) := kc hb3 (by first | assumption | go_cell)
         have y2 : w3.cell? ⟨w.heap.size, 2, none⟩ = some (.string c.ctx) := kc hb3 (by first | assumption | go_cell)
         have y3 : w3.cell? ⟨w.heap.size, 3, none⟩ = some (.string c.org) := kc hb3 (by first | assumption | go_cell)
         have y4 : w3.cell? ⟨w.heap.size, 4, none⟩ = some (.bool c.inb) := kc hb3 (by first | assumption | go_cell)
         have y5 : w3.cell? ⟨w.heap.size, 5, none⟩ = some (.int .i64 c.cnt) := kc hb3 (by first | assumption | go_cell)
         have y6 : w3.cell? ⟨w.heap.size, 6, none⟩ = some (.slice c.a c.n c.cap) := kc hb3 (by first | assumption | go_cell)
         have kb : Below w.heap.size w w3 := bl (by first | assumption | exact (Below.drew (by assumption))) hb3))
  all_goals
    have KB := hid kb
    clear kb
    go_wp2_with fail
    go_ret
    exact ⟨by first | rfl | simp, KB.out⟩

theorem main {H : Type} {enc : TypeId × Value → H} {W : World} {base base2 : Nat} {spare spare2 : Nat → Bool} {held held2 : Bool} {d0 d2 : DataW H} {p0 p2 : List MemPlace} (a0 : Option Addr) (len0 cap0 : Nat)
    (h0 : DataW.Trod enc Try.prog W base spare held 40 (.slice a0 len0 cap0) d0 p0) (hz : ∀ m ∈ d0.weights Try.prog 40, m ≤ reachBytes) (C : Cal) (a2 : Option Addr) (len2 cap2 : Nat)
    (h2 : DataW.Trod enc Try.prog W base2 spare2 held2 41 (.slice a2 len2 cap2) d2 p2) (z2 : ∀ m ∈ d2.weights Try.prog 41, m ≤ reachBytes) :
    Calls Try.prog 5 #[.slice a0 len0 cap0, .agg (cv C), .slice a2 len2 cap2] W fun e w' => e = .returned (.bool true) ∧ Below W.heap.size W w' := by
  obtain ⟨hn, L, hL⟩ := RejX.flows_of h0
  obtain ⟨fuel, hf⟩ := h0
  obtain ⟨k2, h2⟩ := h2
  have hr := Room.rows_room Try.underlying40 (by simpa [Value.cells] using hf) hz
  rw [show Try.prog.bytesOf 25 = 120 by kernel_rfl] at hr
  unfold reachBytes at hr
  obtain ⟨a, n, c, f, e, hn2, hf2, hsz2⟩ := ints_sized Try.underlying41 Try.underlying3 (by kernel_rfl) (by kernel_rfl) h2
  cases e
  have := hsz2 z2
  exact mine_core a0 a2 len0 cap0 len2 cap2 L f C W (by omega) (by omega) (hid hL) (hid hf2)

end Go.Proofs.Ytakmfcnmcjbbgaa.RejQ
