/- Rules of hot parameters looked at: rules.Hot. -/
import Derived.Test.YtbihelpnojjacaaGreatLisB
namespace Go.Proofs.YtbihelpnojjacaaGreat.HotJ
open Go.ChangeShapes Go.WideShapes Go.ChangeAt Go.RowKit Base Wri RulA Txt ValA LisA LisB
open Go.Shelf
set_option linter.unusedVariables false

abbrev Itm := ByteArray × Int
/-- n items that lie in memory -/
def ItAt (w : World) (a : Option Addr) (n : Nat) (f : Nat → Itm) : Prop := 0 < n → ∃ g o, a = some ⟨g, o, none⟩ ∧ g < w.heap.size ∧ ∀ i, i < n → w.cell? ⟨g, o + i * 2, none⟩ = some (.string (f i).1) ∧ w.cell? ⟨g, o + i * 2 + 1, none⟩ = some (.int .i64 (f i).2)
theorem ItAt.below {w w' : World} {a : Option Addr} {n : Nat} {f : Nat → Itm} (h : ItAt w a n f) (hb : Below w.heap.size w w') : ItAt w' a n f := fun h0 => by
  obtain ⟨g, o, ha, hg, hc⟩ := h h0
  exact ⟨g, o, ha, Nat.lt_of_lt_of_le hg hb.size, fun i hi => ⟨(hb.cell (p := ⟨g, o + i * 2, none⟩) hg).trans (hc i hi).1, (hb.cell (p := ⟨g, o + i * 2 + 1, none⟩) hg).trans (hc i hi).2⟩⟩
def okI (x : Itm) : Bool := decide (x.1.size ≤ 64) && inR x.2 0 1099511627776
def vals (n : Nat) (f : Nat → Itm) : List (List UInt8) := (List.range n).map fun i => (f i).1.data.toList
theorem vals_len (n : Nat) (f : Nat → Itm) : (vals n f).length = n := by simp [vals]
theorem vals_succ (n : Nat) (f : Nat → Itm) : vals (n + 1) f = vals n f ++ [(f n).1.data.toList] := by simp [vals, List.range_succ]
theorem enc_bytes (x : ByteArray) : encStr x.data.toList = .string x := by
  show Value.string ⟨x.data.toList.toArray⟩ = _
  rw [Array.toArray_toList]
open Classical in
/-- are they right -/
noncomputable def itemsB (n : Nat) (f : Nat → Itm) : Bool := decide (n ≤ 32) && decide (∀ i, i < n → okI (f i) = true) && decide (vals n f).Nodup

theorem row_tat {w : World} {B : Nat} {v : Value} {n : Nat} {ss : List (List UInt8)} (h : w.ownsRow B 9 1 v n (ss.map encStr)) (hn : ss.length = n) : ∃ a cap, v = .slice a n cap ∧ TAt w w.heap.size a ss := by
  rcases h.2 with ⟨rfl, hz⟩ | ⟨g, cap, cur, rfl, hg, hgb, hc, hcm, hcs, htake⟩
  · exact ⟨none, 0, by rw [hz], fun h0 => by omega⟩
  · refine ⟨_, _, rfl, fun h0 => ⟨g, 0, rfl, (Array.getElem?_eq_some_iff.1 hgb).1, fun i x hx => ?_⟩⟩
    have := World.ownsRow.cells h (g := g) rfl i (encStr x) (by rw [List.getElem?_map, hx]; rfl)
    rwa [Go.WideShapes.add_plain] at this

theorem ret_bool {a b : Bool} (h : a = b) : Ending.returned (.bool a) = Ending.returned (.bool b) := by rw [h]

set_option maxRecDepth 20000 in
set_option maxHeartbeats 2000000 in
theorem areItems_any (res : ByteArray) (idx cnt sec : Int) (a : Option Addr) (n cap : Nat) (f : Nat → Itm) (w : World) (hI : ItAt w a n f) (hfit : ∀ i, i < n → (f i).1.size ≤ maxLen) :
    Calls Tryz.prog 88 #[.agg #[.string res, .int .i64 idx, .int .i64 cnt, .int .i64 sec, .slice a n cap]] w fun e w' => e = .returned (.bool (itemsB n f)) ∧ Below w.heap.size w w' := by
  obtain ⟨i0, hi, hz0, hz1, hz2⟩ := info_parts ValA.infoStr
  have HI0 := hid (And.intro hi (And.intro hz0 (And.intro hz1 hz2)))
  have HI := hid (And.intro hI hfit)
  have HB0 : Hid (Below w.heap.size w (w.alloc (.cells #[.string res, .int .i64 idx, .int .i64 cnt, .int .i64 sec, .slice a n cap] 109))) := hid ((Below.refl _ w).alloc (Nat.le_refl _) _)
  clear hI hfit hi hz0 hz1 hz2
  obtain ⟨r, hr⟩ : ∃ r, itemsB n f = r := ⟨_, rfl⟩
  rw [hr]
  have HR := hid hr
  clear hr
  go_enter Tryz.func88, Tryz.ntmps88
  by_cases hmany : 32 < n
  · have n1 : (32 : Int) < n := by omega
    have HRf : Hid (r = false) := hid (by rw [← HR.out]; unfold itemsB; rw [decide_eq_false (by omega)]; rfl)
    go_wp2_with fail
    go_ret
    exact ⟨ret_bool HRf.out.symm, HB0.out⟩
  · have n1 : ¬ (32 : Int) < n := by omega
    go_wp2_with fail
    go_loopw [3, 15] (fun v i wr => ∃ k : Nat, k ≤ n ∧ i = .int .i64 k ∧ (∀ j, j < k → okI (f j) = true) ∧ wr.ownsRow w.heap.size 9 1 v k ((vals k f).map encStr) ∧ Below w.heap.size w wr) (fun _ i _ => n - (intOf i).toNat)
    case atStart => exact ⟨0, Nat.zero_le _, rfl, (fun j h => by omega), World.ownsRow_nil _ _ _ _, HB0.out⟩
    case round =>
      obtain ⟨k, hk, rfl, hok, hrow, hb⟩ := hrel
      have HOk := hid hok
      have HRow := hid hrow
      have HB := hid hb
      clear hok hrow hb
      obtain ⟨va, vc, rfl⟩ := owns_shape HRow.out
      by_cases hlt : k < n
      · have hki : (k : Int) < n := by omega
        have hki0 : (0 : Int) ≤ k := by omega
        obtain ⟨g, o, rfl, hg0, hc⟩ := HI.out.1 (by omega)
        obtain ⟨p0, p1⟩ := hc k hlt
        have hfk := HI.out.2 k hlt
        have hg : g < wr.heap.size := Nat.lt_of_lt_of_le hg0 HB.out.size
        have c0 := (HB.out.cell (p := ⟨g, o + k * 2, none⟩) hg0).trans p0
        have c1 := (HB.out.cell (p := ⟨g, o + k * 2 + 1, none⟩) hg0).trans p1
        have HVs := hid (vals_succ k f)
        have HFk := hid (show okI (f k) = okI (f k) from rfl)
        obtain ⟨⟨s, m⟩, hfk2⟩ : ∃ x, f k = x := ⟨_, rfl⟩
        rw [hfk2] at c0 c1 hfk HVs HFk
        have HFE := hid hfk2
        dsimp only at c0 c1 hfk HVs
        clear p0 p1 hc hfk2
        by_cases hs : 64 < s.size
        · have hs2 : (64 : Int) < s.size := by omega
          have HRf : Hid (r = false) := hid (by
            rw [← HR.out]; unfold itemsB
            rw [decide_eq_false (p := ∀ i, i < n → okI (f i) = true) (fun h => by
              have := h k hlt
              rw [HFE.out] at this
              unfold okI at this
              simp at this
              omega)]
            simp)
          have HBf : Hid (Below w.heap.size w (wr.alloc (.cells #[.string s, .int .i64 m] 52))) := hid (HB.out.alloc HB.out.size _)
          clear hg0 hfk
          go_wp2_with fail
          go_ret
          exact ⟨ret_bool HRf.out.symm, HBf.out⟩
        · have hs2 : ¬ (64 : Int) < s.size := by omega
          have HBf : Hid (Below w.heap.size w (wr.alloc (.cells #[.string s, .int .i64 m] 52))) := hid (HB.out.alloc HB.out.size _)
          have HW := hid (within_any m 0 1099511627776 (wr.alloc (.cells #[.string s, .int .i64 m] 52)))
          cases hin : inR m 0 1099511627776 with
          | false =>
            have HRf : Hid (r = false) := hid (by
              rw [← HR.out]; unfold itemsB
              rw [decide_eq_false (p := ∀ i, i < n → okI (f i) = true) (fun h => by
                have := h k hlt
                rw [HFE.out] at this
                unfold okI at this
                simp [hin] at this)]
              simp)
            rw [hin] at HW
            clear hg0 hfk
            go_wp2_with fail
            refine HW.out.mono ?_
            rintro e w2 ⟨rfl, rfl⟩
            go_wp2_with fail
            go_ret
            exact ⟨ret_bool HRf.out.symm, HBf.out⟩
          | true =>
            have HOk2 : Hid (∀ j, j < k + 1 → okI (f j) = true) := hid (fun j hj => by
              by_cases e : j = k
              · subst e
                rw [HFE.out]
                unfold okI
                simp [hin]
                omega
              · exact HOk.out j (by omega))
            rw [hin] at HW
            have hX : Below wr.heap.size wr ((wr.alloc (.cells #[.string s, .int .i64 m] 52)).alloc (.cells #[.string s] 9)) := ((Below.refl _ _).alloc (Nat.le_refl _) _).alloc (by simp) _
            have hown : ((wr.alloc (.cells #[.string s, .int .i64 m] 52)).alloc (.cells #[.string s] 9)).ownsRow w.heap.size 9 1 (.slice va k vc) k ((vals k f).map encStr) := (HRow.out.alloc _).alloc _
            have hnew : ∀ j u, ([.string s] : List Value)[j]? = some u → ((wr.alloc (.cells #[.string s, .int .i64 m] 52)).alloc (.cells #[.string s] 9)).cell? ((⟨wr.heap.size + 1, 0, none⟩ : Addr).add j) = some u := by
              have := cell_one_new (wr.alloc (.cells #[.string s, .int .i64 m] 52)) (.string s) 9
              rw [World.size_alloc] at this
              exact this
            have HX := hid (And.intro hX (And.intro hown hnew))
            have hsz : w.heap.size ≤ ((wr.alloc (.cells #[.string s, .int .i64 m] 52)).alloc (.cells #[.string s] 9)).heap.size := Nat.le_trans HB.out.size hX.size
            have HSz := hid hsz
            clear hg0 hfk hX hown hnew hsz
            go_wp2_with fail
            refine HW.out.mono ?_
            rintro e w2 ⟨rfl, rfl⟩
            go_wp2_with (at_builtin; refine wpList_append_own_at _ rfl _ _ 43 rfl w.heap.size 9 i0 (.string ⟨#[]⟩) 1 16 Tryz.underlying43 HI0.out.1 HI0.out.2.1 HI0.out.2.2.1 HI0.out.2.2.2 rfl (by decide) (Value.slice va k vc) k _ rfl HX.out.2.1 ⟨wr.heap.size + 1, 0, none⟩ 1 1 [.string s] rfl rfl HX.out.2.2 (by intro u hu; obtain rfl := List.mem_singleton.1 hu; rfl) (by unfold maxLen; omega) (by omega) HSz.out ?_; intro v6 w6 hown6 hgr6 hnil6 hat6)
            have HO6 : Hid (w6.ownsRow w.heap.size 9 1 v6 (k + 1) ((vals (k + 1) f).map encStr)) := hid (by
              rw [HVs.out, map_snoc, enc_bytes]; exact hown6)
            have HB6 : Hid (Below w.heap.size w w6) := hid ((HB.out.trans (HX.out.1.mono HB.out.size)).grown hgr6 HSz.out (fun q hq => (World.ownsRow.lt HX.out.2.1 q hq).1))
            clear hown6 hgr6 hnil6 hat6 HX c0 c1 hg
            go_roundw
            case rel => exact ⟨k + 1, hlt, by go_num, HOk2.out, HO6.out, HB6.out⟩
            case measure => simp [intOf]; omega
      · obtain rfl : k = n := by omega
        have HT := row_tat HRow.out (vals_len k f)
        obtain ⟨ax, cx, hsl, hT⟩ := HT
        injection hsl with e1 e2 e3
        subst e1 e3
        have HA0 := apart_any va vc (vals k f) (by rw [vals_len]; omega) wr (hid hT)
        rw [vals_len] at HA0
        have HA := hid HA0
        have HRt : Hid (r = decide (vals k f).Nodup) := hid (by
          rw [← HR.out]; unfold itemsB
          rw [decide_eq_true (show k ≤ 32 by omega), decide_eq_true HOk.out]
          simp)
        clear hT HA0
        go_wp2_with fail
        refine HA.out.mono ?_
        rintro e w2 ⟨rfl, hb2⟩
        have HB2 := hid (HB.out.trans (hb2.mono HB.out.size))
        clear hb2
        go_wp2_with fail
        go_ret
        exact ⟨ret_bool HRt.out.symm, HB2.out⟩

/-- what rules.Hot says -/
noncomputable def hotR (res : ByteArray) (idx cnt sec : Int) (n : Nat) (f : Nat → Itm) : Int := if nameB res then (if inR idx 0 7 && inR cnt 0 1099511627776 && inR sec 1 60 && itemsB n f then 0 else 32) else 10

theorem ret_int {a b : Int} (h : a = b) : Ending.returned (.int .i64 a) = Ending.returned (.int .i64 b) := by rw [h]

set_option maxRecDepth 20000 in
set_option maxHeartbeats 2000000 in
theorem look_core (res : ByteArray) (idx cnt sec : Int) (a : Option Addr) (n cap : Nat) (b0 b1 b2 b3 b4 : Bool) (r : Int) (R : Hid ((if b0 then (if b1 && b2 && b3 && b4 then (0 : Int) else 32) else 10) = r)) (w : World)
    (H0 : Hid (∀ w, Calls Tryz.prog 86 #[.string res] w fun e w' => e = .returned (.bool b0) ∧ w = w'))
    (H1 : Hid (∀ w, Calls Tryz.prog 87 #[.int .i64 idx, .int .i64 0, .int .i64 7] w fun e w' => e = .returned (.bool b1) ∧ w = w'))
    (H2 : Hid (∀ w, Calls Tryz.prog 87 #[.int .i64 cnt, .int .i64 0, .int .i64 1099511627776] w fun e w' => e = .returned (.bool b2) ∧ w = w'))
    (H3 : Hid (∀ w, Calls Tryz.prog 87 #[.int .i64 sec, .int .i64 1, .int .i64 60] w fun e w' => e = .returned (.bool b3) ∧ w = w'))
    (H4 : Hid (∀ w', Below w.heap.size w w' → Calls Tryz.prog 88 #[.agg #[.string res, .int .i64 idx, .int .i64 cnt, .int .i64 sec, .slice a n cap]] w' fun e w2 => e = .returned (.bool b4) ∧ Below w'.heap.size w' w2)) :
    Calls Tryz.prog 54 #[.agg #[.string res, .int .i64 idx, .int .i64 cnt, .int .i64 sec, .slice a n cap]] w fun e w' => e = .returned (.int .i64 r) ∧ Below w.heap.size w w' := by
  have HB0 : Hid (Below w.heap.size w (w.alloc (.cells #[.string res, .int .i64 idx, .int .i64 cnt, .int .i64 sec, .slice a n cap] 109))) := hid ((Below.refl _ w).alloc (Nat.le_refl _) _)
  go_enter Tryz.func54, Tryz.ntmps54
  go_wp2_with fail
  refine (H0.out _).mono ?_
  rintro e w1 ⟨rfl, rfl⟩
  cases b0 with
  | false =>
    go_wp2_with fail
    go_ret
    exact ⟨ret_int (by rw [← R.out]; rfl), HB0.out⟩
  | true =>
    go_wp2_with fail
    refine (H1.out _).mono ?_
    rintro e w1 ⟨rfl, rfl⟩
    cases b1 with
    | false =>
      go_wp2_with fail
      go_ret
      exact ⟨ret_int (by rw [← R.out]; rfl), HB0.out⟩
    | true =>
      go_wp2_with fail
      refine (H2.out _).mono ?_
      rintro e w1 ⟨rfl, rfl⟩
      cases b2 with
      | false =>
        go_wp2_with fail
        go_ret
        exact ⟨ret_int (by rw [← R.out]; rfl), HB0.out⟩
      | true =>
        go_wp2_with fail
        refine (H3.out _).mono ?_
        rintro e w1 ⟨rfl, rfl⟩
        cases b3 with
        | false =>
          go_wp2_with fail
          go_ret
          exact ⟨ret_int (by rw [← R.out]; rfl), HB0.out⟩
        | true =>
          go_wp2_with fail
          refine (H4.out _ HB0.out).mono ?_
          rintro e w2 ⟨rfl, hb2⟩
          have HB2 := hid (HB0.out.trans (hb2.mono HB0.out.size))
          clear hb2
          cases b4 <;> (
            go_wp2_with fail
            go_ret
            exact ⟨ret_int (by rw [← R.out]; rfl), HB2.out⟩)

abbrev hotV (res : ByteArray) (idx cnt sec : Int) (a : Option Addr) (n cap : Nat) : Value := .agg #[.string res, .int .i64 idx, .int .i64 cnt, .int .i64 sec, .slice a n cap]

set_option maxHeartbeats 1000000 in
theorem Hot_any (res : ByteArray) (hres : res.size ≤ maxLen) (idx cnt sec : Int) (a : Option Addr) (n cap : Nat) (f : Nat → Itm) (w : World) (hI : ItAt w a n f) (hfit : ∀ i, i < n → (f i).1.size ≤ maxLen) :
    Calls Tryz.prog 25 #[hotV res idx cnt sec a n cap] w fun e w' => e = .returned (.int .i64 (hotR res idx cnt sec n f)) ∧ Below w.heap.size w w' := by
  have hb0 : Below w.heap.size w (w.alloc (.cells #[.string res, .int .i64 idx, .int .i64 cnt, .int .i64 sec, .slice a n cap] 24)) := (Below.refl _ w).alloc (Nat.le_refl _) _
  have HL := hid (look_core res idx cnt sec a n cap _ _ _ _ _ (hotR res idx cnt sec n f) (hid rfl) (w.alloc (.cells #[.string res, .int .i64 idx, .int .i64 cnt, .int .i64 sec, .slice a n cap] 24)) (hid fun w => IsName_any res w hres) (hid fun w => within_any idx 0 7 w) (hid fun w => within_any cnt 0 1099511627776 w) (hid fun w => within_any sec 1 60 w)
    (hid fun w' hb => areItems_any res idx cnt sec a n cap f w' ((hI.below hb0).below hb) hfit))
  have HB0 := hid hb0
  clear hb0 hI hfit
  obtain ⟨r, hr⟩ : ∃ r, hotR res idx cnt sec n f = r := ⟨_, rfl⟩
  rw [hr] at HL ⊢
  clear hr
  go_enter Tryz.func25, Tryz.ntmps25
  go_wp2_with fail
  refine HL.out.mono ?_
  rintro e w2 ⟨rfl, hb2⟩
  have HB2 := hid (HB0.out.trans (hb2.mono HB0.out.size))
  clear hb2
  go_wp2_with fail
  go_ret
  exact ⟨rfl, HB2.out⟩

end Go.Proofs.YtbihelpnojjacaaGreat.HotJ
