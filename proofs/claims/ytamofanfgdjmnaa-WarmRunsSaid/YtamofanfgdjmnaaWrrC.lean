/- The document's warm-up: what it refuses, Rate, Fill. -/
import Derived.Test.YtamofanfgdjmnaaWrrB
namespace Go.Proofs.Ytamofanfgdjmnaa.WrrC
set_option linter.unusedVariables false
open Go.ChangeShapes Go.WideShapes Go.ChangeAt Go.RowKit Base WrmP NumM NumC NumE NumA RefA RefB LawA WrmA WrmB WrmF WrmG WrmH WrmI Wri WrrA WrrB

theorem cell_of {w : World} {b : Nat} {cs : Array Value} {ty : TypeId} (h : w.heap[b]? = some (.cells cs ty)) (j : Nat) (v : Value) (hv : cs[j]? = some v) : w.cell? ⟨b, j, none⟩ = some v := by
  unfold World.cell?; rw [h]; exact hv

set_option maxHeartbeats 400000 in
theorem isTime_any (n : Int) (w : World) :
    Calls Try.prog 53 #[.int .i64 n] w fun e w' => e = .returned (.bool (inW n 0 1152921504606846976)) ∧ w = w' := by
  unfold inW
  by_cases h0 : 0 ≤ n
  · by_cases h1 : n ≤ 1152921504606846976
    · rw [decide_eq_true h0, decide_eq_true h1]
      go_enter Try.func53, Try.ntmps53
      go_wp2
      go_ret
      exact ⟨rfl, rfl⟩
    · have h2 : decide (n ≤ 1152921504606846976) = false := by simp; omega
      rw [decide_eq_true h0, h2]
      clear h1
      go_enter Try.func53, Try.ntmps53
      go_wp2
      go_ret
      exact ⟨rfl, rfl⟩
  · have h2 : decide (0 ≤ n) = false := by simp; omega
    rw [h2]
    clear h0
    go_enter Try.func53, Try.ntmps53
    go_wp2
    go_ret
    exact ⟨rfl, rfl⟩

def okAll (n : Nat) (f : Nat → Int) : Bool := (List.range n).all fun i => inW (f i) 0 4611686018427387904
theorem okAll_succ (n : Nat) (f : Nat → Int) : okAll (n + 1) f = (okAll n f && inW (f n) 0 4611686018427387904) := by unfold okAll; rw [List.range_succ, List.all_append]; simp
theorem okAll_pre {n k : Nat} {f : Nat → Int} (hk : k < n) (h : inW (f k) 0 4611686018427387904 = false) : okAll n f = false := by
  unfold okAll
  rw [List.all_eq_false]
  exact ⟨k, by simpa using hk, by rw [h]; simp⟩

set_option maxHeartbeats 2000000 in
theorem wrong_core (p g : Nat) (n cap : Nat) (f : Nat → Int) (t last r : Int) (w : World) (hn : n ≤ 9223372036854775806) (c4 : w.cell? ⟨p, 4, none⟩ = some (.int .i64 last)) (HX : Hid (∀ i, i < n → w.cell? ⟨g, i, none⟩ = some (.int .i64 (f i)))) (HR : Hid ((if inW t 0 1152921504606846976 && okAll n f then (if t < last then 7 else 0) else 2) = r)) :
    Calls Try.prog 45 #[ptr p, .int .i64 t, .slice (some ⟨g, 0, none⟩) n cap] w fun e w' => e = .returned (.int .i64 r) ∧ w = w' := by
  have HT := hid (isTime_any t w)
  generalize inW t 0 1152921504606846976 = b at *
  go_enter Try.func45, Try.ntmps45
  go_wp2_with fail
  refine HT.out.mono ?_
  rintro e w1 ⟨rfl, rfl⟩
  cases b with
  | false =>
    go_wp2_with fail
    go_ret
    exact ⟨by rw [← HR.out]; rfl, rfl⟩
  | true =>
    go_wp2_with fail
    go_loopw [7] (fun i wr => ∃ k : Nat, k ≤ n ∧ i = .int .i64 k ∧ okAll k f = true ∧ w = wr) (fun i _ => n - (intOf i).toNat)
    case atStart => exact ⟨0, Nat.zero_le _, rfl, rfl, rfl⟩
    case round =>
      obtain ⟨k, hk, rfl, hok, rfl⟩ := hrel
      have HOK := hid hok
      clear hok
      by_cases hlt : k < n
      · have x0 := HX.out k hlt
        have hki : (k : Int) < n := by omega
        have HS := hid (okAll_succ k f)
        have HP := hid (okAll_pre (f := f) hlt)
        generalize f k = z at *
        cases hz : inW z 0 4611686018427387904 with
        | true =>
          have hz2 := inW_iff.1 hz
          have d1 : decide (z < 0) = false := decide_eq_false (by omega)
          have d2 : decide (z > 4611686018427387904) = false := decide_eq_false (by omega)
          have d3 : decide (4611686018427387904 < z) = false := decide_eq_false (by omega)
          have HS2 := hid (show okAll (k + 1) f = true by rw [HS.out, HOK.out, hz]; rfl)
          clear hz hz2
          go_wp2_with fail
          go_roundw
          case rel => exact ⟨k + 1, by omega, by go_num, HS2.out, by first | rfl | trivial⟩
          case measure => simp [intOf]; omega
        | false =>
          have hz2 : z < 0 ∨ 4611686018427387904 < z := by
            by_cases h : 0 ≤ z ∧ z ≤ 4611686018427387904
            · rw [inW_iff.2 h] at hz; cases hz
            · omega
          have HF := hid (HP.out hz)
          clear hz
          by_cases h0 : z < 0
          · have d1 : decide (z < 0) = true := decide_eq_true h0
            clear hz2
            go_wp2_with fail
            go_ret
            exact ⟨by rw [← HR.out, HF.out]; rfl, rfl⟩
          · have d1 : decide (z < 0) = false := decide_eq_false h0
            have d2 : decide (z > 4611686018427387904) = true := decide_eq_true (by omega)
            have d3 : decide (4611686018427387904 < z) = true := decide_eq_true (by omega)
            clear hz2 h0
            go_wp2_with fail
            go_ret
            exact ⟨by rw [← HR.out, HF.out]; rfl, rfl⟩
      · obtain rfl : k = n := by omega
        by_cases hl : t < last
        · have d1 : decide (t < last) = true := decide_eq_true hl
          have HL := hid hl
          clear hl
          go_wp2_with fail
          go_ret
          exact ⟨by rw [← HR.out, HOK.out, if_pos HL.out]; rfl, rfl⟩
        · have d1 : decide (t < last) = false := decide_eq_false hl
          have HL := hid hl
          clear hl
          go_wp2_with fail
          go_ret
          exact ⟨by rw [← HR.out, HOK.out, if_neg (Int.not_lt.2 HL.out)]; rfl, rfl⟩

theorem wrong_one (p : Nat) (m : Wm) (t past : Int) (w : World) (h : RAt w p m) :
    Calls Try.prog 45 #[ptr p, .int .i64 t, .slice (some ⟨w.heap.size, 0, none⟩) 1 1] (w.alloc (.cells #[.int .i64 past] 3)) fun e w' => e = .returned (.int .i64 (ref2 m.last t past)) ∧ Below w.heap.size w w' := by
  have hb : Below w.heap.size w (w.alloc (.cells #[.int .i64 past] 3)) := (Below.refl _ _).alloc (Nat.le_refl _) _
  refine (wrong_core p w.heap.size 1 1 (fun _ => past) t m.last _ _ (by omega) (h.below hb h.lt).cells.2.2.2.2.1 (hid fun i hi => ?_) (hid rfl)).mono ?_
  · obtain rfl : i = 0 := by omega
    exact cell_of (heap_alloc_new w _) 0 _ rfl
  · rintro e w' ⟨rfl, rfl⟩
    refine ⟨?_, hb⟩
    unfold ref2 okAll
    simp [List.range_succ]

theorem wrong_two (p : Nat) (m : Wm) (t past now : Int) (w : World) (h : RAt w p m) :
    Calls Try.prog 45 #[ptr p, .int .i64 t, .slice (some ⟨w.heap.size, 0, none⟩) 2 2] (w.alloc (.cells #[.int .i64 past, .int .i64 now] 3)) fun e w' => e = .returned (.int .i64 (if inW t 0 1152921504606846976 && (inW past 0 4611686018427387904 && inW now 0 4611686018427387904) then (if t < m.last then 7 else 0) else 2)) ∧ Below w.heap.size w w' := by
  have hb : Below w.heap.size w (w.alloc (.cells #[.int .i64 past, .int .i64 now] 3)) := (Below.refl _ _).alloc (Nat.le_refl _) _
  refine (wrong_core p w.heap.size 2 2 (fun i => if i = 0 then past else now) t m.last _ _ (by omega) (h.below hb h.lt).cells.2.2.2.2.1 (hid fun i hi => ?_) (hid rfl)).mono ?_
  · obtain rfl | rfl : i = 0 ∨ i = 1 := by omega
    · exact cell_of (heap_alloc_new w _) 0 _ rfl
    · exact cell_of (heap_alloc_new w _) 1 _ rfl
  · rintro e w' ⟨rfl, rfl⟩
    refine ⟨?_, hb⟩
    unfold okAll
    simp [List.range_succ]

set_option maxHeartbeats 1000000 in
theorem rRate_core (p : Nat) (t past r x tk sc : Int) (w : World)
    (HW : Hid (Calls Try.prog 45 #[ptr p, .int .i64 t, .slice (some ⟨w.heap.size, 0, none⟩) 1 1] (w.alloc (.cells #[.int .i64 past] 3)) fun e w' => e = .returned (.int .i64 r) ∧ Below w.heap.size w w'))
    (hr : ((r != 0) = true ∧ x = 0) ∨ ((r != 0) = false ∧ r = 0 ∧ Hid (∀ wx, Below w.heap.size w wx → Calls Try.prog 44 #[ptr p, .int .i64 t, .int .i64 past] wx fun e w' => e = .returned (.tuple #[.int .i64 tk, .int .i64 sc]) ∧ Below wx.heap.size wx w') ∧
      Hid (∀ wx, Below w.heap.size w wx → Calls Try.prog 46 #[ptr p, .int .i64 tk] wx fun e w' => e = .returned (.int .i64 x) ∧ Below wx.heap.size wx w'))) :
    Calls Try.prog 33 #[ptr p, .int .i64 t, .int .i64 past] w fun e w' => e = .returned (.tuple #[.int .i64 x, .int .i64 r]) ∧ Below w.heap.size w w' := by
  go_enter Try.func33, Try.ntmps33
  go_wp2_with fail
  refine HW.out.mono ?_
  rintro e w1 ⟨rfl, hb1⟩
  have HB1 := hid hb1
  clear hb1 HW
  rcases hr with ⟨h1, rfl⟩ | ⟨h1, rfl, HF, HR⟩
  · go_wp2_with fail
    go_ret2
    exact ⟨rfl, HB1.out⟩
  · go_wp2_with fail
    refine (HF.out _ HB1.out).mono ?_
    rintro e w2 ⟨rfl, hb2⟩
    have HB2 := hid (bl HB1.out hb2)
    clear hb2 HB1 HF
    go_wp2_with fail
    refine (HR.out _ HB2.out).mono ?_
    rintro e w3 ⟨rfl, hb3⟩
    have HB3 := hid (bl HB2.out hb3)
    clear hb3 HB2 HR
    go_wp2_with fail
    go_ret2
    exact ⟨rfl, HB3.out⟩

theorem RRate_any (p : Nat) (m : Wm) (ho : m.Ok) (t past : Int) (w : World) (h : RAt w p m) :
    Calls Try.prog 33 #[ptr p, .int .i64 t, .int .i64 past] w fun e w' => e = .returned (.tuple #[.int .i64 (rateA m t past), .int .i64 (ref2 m.last t past)]) ∧ Below w.heap.size w w' := by
  refine rRate_core p t past _ _ (m.tk t.toNat past.toNat : Nat) (secOf t.toNat : Nat) w (hid (wrong_one p m t past w h)) ?_
  unfold rateA
  by_cases hz : ref2 m.last t past = 0
  · right
    rw [hz]
    obtain ⟨tn, pn, rfl, rfl, h1, h2, h3⟩ := ref2_zero hz
    exact ⟨rfl, rfl, hid fun wx hx => rfilled_any p m ho tn pn h1 h2 h3 wx (h.below hx h.lt), hid fun wx hx => rrate_any p m ho (m.tk tn pn) (tk_le m ho tn pn) wx (h.below hx h.lt)⟩
  · left
    rw [if_neg hz]
    exact ⟨by simpa using hz, rfl⟩

set_option maxHeartbeats 2000000 in
theorem rFill_core (p : Nat) (t past r x tk sc : Int) (w : World) (Q : World → Prop)
    (HW : Hid (Calls Try.prog 33 #[ptr p, .int .i64 t, .int .i64 past] w fun e w' => e = .returned (.tuple #[.int .i64 x, .int .i64 r]) ∧ Below w.heap.size w w'))
    (HZ : Hid (∀ wx, Below w.heap.size w wx → (∃ y, wx.cell? ⟨p, 2, none⟩ = some y) ∧ (∃ y, wx.cell? ⟨p, 3, none⟩ = some y) ∧ (∃ y, wx.cell? ⟨p, 4, none⟩ = some y) ∧ ∀ o, wx.frozen? ⟨p, o, none⟩ = false))
    (hr : ((r != 0) = true ∧ x = 0 ∧ Hid (∀ wx, Below w.heap.size w wx → Q wx)) ∨ ((r != 0) = false ∧ r = 0 ∧ Hid (∀ wx, Below w.heap.size w wx → Calls Try.prog 44 #[ptr p, .int .i64 t, .int .i64 past] wx fun e w' => e = .returned (.tuple #[.int .i64 tk, .int .i64 sc]) ∧ Below wx.heap.size wx w') ∧
      Hid (∀ wx, Below w.heap.size w wx → Q (((wx.setCell ⟨p, 2, none⟩ (.int .i64 tk)).setCell ⟨p, 3, none⟩ (.int .i64 sc)).setCell ⟨p, 4, none⟩ (.int .i64 t))))) :
    Calls Try.prog 30 #[ptr p, .int .i64 t, .int .i64 past] w fun e w' => e = .returned (.tuple #[.int .i64 x, .int .i64 r]) ∧ Q w' := by
  go_enter Try.func30, Try.ntmps30
  go_wp2_with fail
  refine HW.out.mono ?_
  rintro e w1 ⟨rfl, hb1⟩
  have HB1 := hid hb1
  clear hb1 HW
  rcases hr with ⟨h1, rfl, HQ⟩ | ⟨h1, rfl, HF, HQ⟩
  · go_wp2_with fail
    go_ret2
    exact ⟨rfl, HQ.out _ HB1.out⟩
  · go_wp2_with fail
    refine (HF.out _ HB1.out).mono ?_
    rintro e w2 ⟨rfl, hb2⟩
    have HB2 := hid (bl HB1.out hb2)
    obtain ⟨⟨y2, k2⟩, ⟨y3, k3⟩, ⟨y4, k4⟩, kf⟩ := HZ.out _ HB2.out
    clear hb2 HB1 HF HZ
    go_wp2_with fail
    go_ret2
    exact ⟨rfl, HQ.out _ HB2.out⟩

theorem RAt.fills {w : World} {p : Nat} {m m' : Wm} (h : RAt w p m) (e1 : m'.c = m.c) (e2 : m'.s = m.s) : RAt (((w.setCell ⟨p, 2, none⟩ (.int .i64 m'.tok)).setCell ⟨p, 3, none⟩ (.int .i64 (seenZ m'))).setCell ⟨p, 4, none⟩ (.int .i64 m'.last)) p m' := by
  have := heap_setCell_same _ _ 4 _ _ (.int .i64 (m'.last : Int)) (heap_setCell_same _ _ 3 _ _ (.int .i64 (seenZ m')) (heap_setCell_same _ _ 2 _ _ (.int .i64 (m'.tok : Int)) h))
  unfold RAt
  rw [this]
  unfold rv
  simp [e1, e2]

theorem RFill_any (p : Nat) (m : Wm) (ho : m.Ok) (t past : Int) (w : World) (h : RAt w p m) :
    Calls Try.prog 30 #[ptr p, .int .i64 t, .int .i64 past] w fun e w' => e = .returned (.tuple #[.int .i64 (rateA m t past), .int .i64 (ref2 m.last t past)]) ∧ RAt w' p (fillA m t past) ∧ Wr (fun k => k = p) w w' := by
  refine rFill_core p t past _ _ (m.tk t.toNat past.toNat : Nat) (secOf t.toNat : Nat) w (fun w' => RAt w' p (fillA m t past) ∧ Wr (fun k => k = p) w w') (hid (RRate_any p m ho t past w h))
    (hid fun wx hx => by
      obtain ⟨c0, c1, c2, c3, c4, cf⟩ := (h.below hx h.lt).cells
      exact ⟨⟨_, c2⟩, ⟨_, c3⟩, ⟨_, c4⟩, cf⟩) ?_
  unfold rateA fillA
  by_cases hz : ref2 m.last t past = 0
  · right
    simp only [hz, if_true]
    obtain ⟨tn, pn, rfl, rfl, h1, h2, h3⟩ := ref2_zero hz
    refine ⟨rfl, trivial, hid fun wx hx => rfilled_any p m ho tn pn h1 h2 h3 wx (h.below hx h.lt), hid fun wx hx => ⟨?_, ?_⟩⟩
    · exact RAt.fills (m' := m.fill tn pn) (h.below hx h.lt) rfl rfl
    · have s1 : Wr (fun k => k = p) w wx := Wr.ofBelow hx
      have s2 := s1.trans (Wr.set (R := fun k => k = p) (w := wx) ⟨p, 2, none⟩ (.int .i64 (m.tk tn pn : Nat)) rfl)
      have s3 := s2.trans (Wr.set (R := fun k => k = p) ⟨p, 3, none⟩ (.int .i64 (secOf tn : Nat)) rfl)
      exact s3.trans (Wr.set (R := fun k => k = p) ⟨p, 4, none⟩ (.int .i64 tn) rfl)
  · left
    simp only [hz, if_false]
    exact ⟨by simpa using hz, trivial, hid fun wx hx => ⟨h.below hx h.lt, Wr.ofBelow hx⟩⟩

end Go.Proofs.Ytamofanfgdjmnaa.WrrC
