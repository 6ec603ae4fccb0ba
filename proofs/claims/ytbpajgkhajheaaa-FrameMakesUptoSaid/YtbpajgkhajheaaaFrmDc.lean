/- The document's Split: its walk. -/
import Derived.Test.YtbpajgkhajheaaaFrmDa
import Derived.Test.YtbpajgkhajheaaaFrmK
import Derived.Deep.DeepCutAuto
namespace Go.Proofs.Ytbpajgkhajheaaa.FrmDc
open Go.ChangeShapes Go.WideShapes Go.ChangeAt Go.RowKit Base Wri FrmP FrmA FrmD FrmE FrmF FrmG FrmQ FrmR FrmX FrmY FrmM FrmDa FrmK
set_option linter.unusedVariables false
set_option linter.unusedSimpArgs false
attribute [local go_sem ↓ high] builtin_app

theorem join_u8 (x y : Nat) (hx : x < 256) (hy : y < 256) : bits BinOp.or IntKind.i64 ((x : Int) * 256) (y : Int) = ((x * 256 + y : Nat) : Int) := by
  have := join8 x y (by omega) hy
  rwa [show wrap64 ((x : Int) * 256) = (x : Int) * 256 by unfold wrap64; omega, show wrap64 (y : Int) = (y : Int) by unfold wrap64; omega] at this

theorem belN' {B : Nat} {w w1 : World} (h : Below B w w1) (n : Nat) : Below B w (w1.drewN n) := ⟨h.os, h.tape, h.output, h.size, h.block⟩
theorem err_ok {s : Bs} (h : s.length = 0) : errOf s = 0 := by unfold errOf; rw [if_pos h]
theorem err_bad {s : Bs} (h : s.length ≠ 0) (hm : may s = false) : errOf s = 50 := by unfold errOf; rw [if_neg h, if_neg (by simp [hm])]
theorem err_end {s : Bs} (h : s.length ≠ 0) (hm : may s = true) : errOf s = 24 := by unfold errOf; rw [if_neg h, if_pos hm]

set_option maxRecDepth 100000 in
set_option maxHeartbeats 10000000 in
theorem rsplit_any (a : Option Addr) (cap : Nat) (b : Bs) (w : World) (hb : b.length ≤ 4398046511104) (hc : b.length ≤ cap) (hc2 : cap ≤ 9223372036854775807) (HB : Hid (BAt w w.heap.size a b)) :
    Calls Try.prog 13 #[.slice a b.length cap] w fun e w' => ∃ ra rc vs, e = .returned (.tuple #[.slice ra (sp b).1.length rc, .int .i64 (place (sp b).1 : Nat), .int .i64 (errOf (sp b).2)]) ∧ w'.ownsRow w.heap.size 23 1 (.slice ra (sp b).1.length rc) (sp b).1.length vs ∧ Cuts w w.heap.size vs (sp b).1 ∧ Below w.heap.size w w' := by
  obtain ⟨L, hL⟩ : ∃ L, b.length = L := ⟨_, rfl⟩
  have HL := hid hL
  rw [hL] at hb hc ⊢
  clear hL
  go_enter Try.func13, Try.ntmps13
  go_wp2_with fail
  go_loopw [5, 6] (fun u i wr => ∃ (p : Nat) (ps : List Bs) (vs : List Value) (oa : Option Addr) (oc : Nat), Gone b p ps ∧ u = .slice oa ps.length oc ∧ i = .int .i64 p ∧ wr.ownsRow w.heap.size 23 1 (.slice oa ps.length oc) ps.length vs ∧ Cuts w w.heap.size vs ps ∧ Below w.heap.size w wr) (fun _ i _ => L - (intOf i).toNat)
  case atStart => exact ⟨0, [], [], none, 0, Gone.zero b, rfl, rfl, World.ownsRow_nil _ _ _ _, (fun i v q h => by simp at h), Below.refl _ _⟩
  case round =>
    obtain ⟨p, ps, vs, oa, oc, hg, rfl, rfl, hown, hcut, hbel⟩ := hrel
    have HG := hid hg
    have HO := hid (And.intro hown (And.intro hcut hbel))
    have hple := hg.le
    have hcnt := hg.count
    rw [HL.out] at hple hcnt
    have hdl : (b.drop p).length = L - p := by rw [List.length_drop, HL.out]
    have HDL := hid hdl
    clear hg hown hcut hbel hdl
    by_cases hpL : p < L
    · obtain ⟨g, o, rfl, hg, hcc⟩ := HB.out (by rw [HL.out]; omega)
      have hba : BAt wr wr.heap.size (some ⟨g, o + p, none⟩) (b.drop p) := fun _ => ⟨g, o + p, rfl, Nat.lt_of_lt_of_le hg HO.out.2.2.size, fun i x hx => by
        rw [List.getElem?_drop] at hx
        rw [Nat.add_assoc, HO.out.2.2.cell (p := ⟨g, o + (p + i), none⟩) hg]
        exact hcc _ _ hx⟩
      have hba4 : BAt wr wr.heap.size (some ⟨g, o + p, none⟩) ((b.drop p).take 4) := fun _ => ⟨g, o + p, rfl, Nat.lt_of_lt_of_le hg HO.out.2.2.size, fun i x hx => by
        obtain ⟨g', o', e, _, h2⟩ := hba (by rw [HDL.out]; omega)
        cases e
        rw [List.getElem?_take] at hx
        split at hx
        · exact h2 i x hx
        · cases hx⟩
      have HCC := hid hcc
      have hpne : ¬ cap = p := by omega
      have hpne2 : ¬ cap - p = 0 := by omega
      have HCO : Hid (∀ n, n = min 4 (L - p) → Calls Try.prog 54 #[.slice (some ⟨g, o + p, none⟩) n (cap - p)] wr fun e w' => e = .returned (.bool (may (b.drop p))) ∧ ∃ m, wr.drewN m = w') := hid (fun n hn => by
        have hl4 : ((b.drop p).take 4).length = n := by rw [List.length_take, HDL.out, hn]
        have h1 := could_any (some ⟨g, o + p, none⟩) (cap - p) ((b.drop p).take 4) wr (by rw [hl4]; omega) (hid hba4)
        rw [may_take, hl4] at h1
        exact h1)
      have HBA := hid hba
      clear hba hba4 hcc
      obtain ⟨n4, hn4⟩ : ∃ n4, n4 = min 4 (L - p) := ⟨_, rfl⟩
      have HC4 := hid (HCO.out n4 hn4)
      clear HCO
      go_upto_if 18 with fail
      go_cut [7] from 9 to 64 (fun hd wx => hd = .slice (some ⟨g, o + p, none⟩) n4 (cap - p) ∧ wx = wr)
      case first =>
        by_cases h4 : 4 < L - p
        · obtain rfl : n4 = 4 := by omega
          clear hn4
          go_wp2_with fail
          all_goals first | (exfalso; omega) | (go_meet; exact ⟨rfl, rfl⟩)
        · obtain rfl : n4 = L - p := by omega
          clear hn4
          go_wp2_with fail
          all_goals first | (exfalso; omega) | (go_meet; exact ⟨rfl, rfl⟩)
      case rest =>
        obtain ⟨rfl, rfl⟩ := hcut
        have hn44 : n4 ≤ 4 := by omega
        have hn40 : 0 < n4 := by omega
        have HN4 := hid hn4
        clear hn4
        cases hmy : may (b.drop p) with
        | false =>
          have HMY := hid hmy
          rw [hmy] at HC4
          clear hmy
          go_wp2_with fail
          refine HC4.out.mono ?_
          rintro e w2 ⟨rfl, m2, hw2⟩
          have HO2 : Hid (w2.ownsRow w.heap.size 23 1 (.slice oa ps.length oc) ps.length vs ∧ Cuts w w.heap.size vs ps ∧ Below w.heap.size w w2) := hid (by rw [← hw2]; exact ⟨HO.out.1, HO.out.2.1, ⟨HO.out.2.2.os, HO.out.2.2.tape, HO.out.2.2.output, HO.out.2.2.size, HO.out.2.2.block⟩⟩)
          have HBA2 : Hid (BAt w2 w2.heap.size (some ⟨g, o + p, none⟩) (b.drop p)) := hid (by rw [← hw2]; exact HBA.out)
          clear hw2 HO HBA HC4
          have hw : whole (b.drop p) = false := by
            cases hc : whole (b.drop p) with
            | false => rfl
            | true =>
              have h1 := whole_iff.1 hc
              have h2 := ok4_iff.2 h1.2.1
              have hmm := HMY.out
              by_cases h8 : (b.drop p).length < 4
              · omega
              · rw [may_long (by omega), h2] at hmm; cases hmm
          have he := HG.out.ends hw
          have HE : Hid (errOf (sp b).2 = 50) := hid (by rw [← he.2]; exact err_bad (by rw [HDL.out]; omega) HMY.out)
          have HPS := hid he.1
          have HPL := hid HG.out.place_
          clear he hw
          go_wp2_with fail
          go_ret3
          refine ⟨oa, oc, vs, ?_, ?_, ?_, ?_⟩
          · rw [HE.out, ← HPS.out, HPL.out]; rfl
          · rw [← HPS.out]; exact HO2.out.1
          · rw [← HPS.out]; exact HO2.out.2.1
          · exact HO2.out.2.2
        | true =>
          have HMY := hid hmy
          rw [hmy] at HC4
          clear hmy
          go_wp2_with fail
          refine HC4.out.mono ?_
          rintro e w2 ⟨rfl, m2, hw2⟩
          have HO2 : Hid (w2.ownsRow w.heap.size 23 1 (.slice oa ps.length oc) ps.length vs ∧ Cuts w w.heap.size vs ps ∧ Below w.heap.size w w2) := hid (by rw [← hw2]; exact ⟨HO.out.1, HO.out.2.1, ⟨HO.out.2.2.os, HO.out.2.2.tape, HO.out.2.2.output, HO.out.2.2.size, HO.out.2.2.block⟩⟩)
          have HBA2 : Hid (BAt w2 w2.heap.size (some ⟨g, o + p, none⟩) (b.drop p)) := hid (by rw [← hw2]; exact HBA.out)
          clear hw2 HO HBA HC4
          by_cases hsh4 : n4 < 4
          · have hw : whole (b.drop p) = false := by
              cases hc : whole (b.drop p) with
              | false => rfl
              | true => have h1 := (whole_iff.1 hc).1; rw [HDL.out] at h1; have := HN4.out; omega
            have he := HG.out.ends hw
            have HE : Hid (errOf (sp b).2 = 24) := hid (by rw [← he.2]; exact err_end (by rw [HDL.out]; omega) HMY.out)
            have HPS := hid he.1
            have HPL := hid HG.out.place_
            clear he hw
            go_wp2_with fail
            go_ret3
            refine ⟨oa, oc, vs, ?_, ?_, ?_, ?_⟩
            · rw [HE.out, ← HPS.out, HPL.out]; rfl
            · rw [← HPS.out]; exact HO2.out.1
            · rw [← HPS.out]; exact HO2.out.2.1
            · exact HO2.out.2.2
          obtain rfl : n4 = 4 := by omega
          have hlp : 4 ≤ L - p := by have := HN4.out; omega
          clear HN4 hsh4 hn44 hn40
          have hlen4 : 4 ≤ (b.drop p).length := by rw [HDL.out]; omega
          have hok : ok4 (b.drop p) = true := by have := HMY.out; rwa [may_long hlen4] at this
          obtain ⟨hn1, hn2⟩ := ok4_iff.1 hok
          obtain ⟨_, _, hnum⟩ := num4_small hn2
          obtain ⟨x2, hx2⟩ : ∃ x, (b.drop p)[2]? = some x := ⟨_, List.getElem?_eq_getElem (show 2 < (b.drop p).length by omega)⟩
          obtain ⟨x3, hx3⟩ : ∃ x, (b.drop p)[3]? = some x := ⟨_, List.getElem?_eq_getElem (show 3 < (b.drop p).length by omega)⟩
          rw [hd_get hx2, hd_get hx3] at hnum
          obtain ⟨gg, oo, egg, _, hcb⟩ := HBA2.out (by omega)
          have z2 : w2.cell? ⟨g, o + p + 2, none⟩ = some (.int .u8 (x2.toNat : Int)) := by cases egg; exact hcb 2 x2 hx2
          have z3 : w2.cell? ⟨g, o + p + 3, none⟩ = some (.int .u8 (x3.toNat : Int)) := by cases egg; exact hcb 3 x3 hx3
          have hxl2 := UInt8.toNat_lt x2
          have hxl3 := UInt8.toNat_lt x3
          have hor := join_u8 x2.toNat x3.toNat hxl2 hxl3
          rw [← hnum] at hor
          have HNUM := hid hnum
          clear hcb hx2 hx3 hnum egg hok hlen4 HBA2
          obtain ⟨nn, hnn⟩ : ∃ nn, num4 (b.drop p) = nn := ⟨_, rfl⟩
          rw [hnn] at hn1 hn2 hor
          have HNN := hid hnn
          clear hnn
          generalize x2.toNat = y2 at *
          generalize x3.toNat = y3 at *
          clear HNUM
          by_cases hsh : L - p < 4 + nn
          · go_wp2_with fail
            go_quiet (fail)
            have hw : whole (b.drop p) = false := by
                cases hc : whole (b.drop p) with
                | false => rfl
                | true => have h1 := (whole_iff.1 hc).2.2; rw [HDL.out, HNN.out] at h1; omega
            have he := HG.out.ends hw
            have HE : Hid (errOf (sp b).2 = 24) := hid (by rw [← he.2]; exact err_end (by rw [HDL.out]; omega) HMY.out)
            have HPS := hid he.1
            have HPL := hid HG.out.place_
            clear he hw
            go_wp2_with fail
            go_ret3
            refine ⟨oa, oc, vs, ?_, ?_, ?_, ?_⟩
            · rw [HE.out, ← HPS.out, HPL.out]; rfl
            · rw [← HPS.out]; exact HO2.out.1
            · rw [← HPS.out]; exact HO2.out.2.1
            · exact belN' HO2.out.2.2 _
          · 
            go_wp2_with fail
            go_quiet (fail)
            have hq2 : (w2.drewN nq).ownsRow w.heap.size 23 1 (.slice oa ps.length oc) ps.length vs := HO2.out.1
            obtain ⟨g5, c5, w5, hrun, hown5, hgrow5, _⟩ := push_run (w2.drewN nq) w.heap.size HO2.out.2.2.size (.slice oa ps.length oc) vs ps.length hq2 (by omega) g (o + (p + 4)) nn (cap - (p + 4))
            rw [show (w2.drewN nq).heap.size = w2.heap.size from rfl] at hrun
            have hne3 : ¬ cap = p + 4 := by omega
            have hne4 : ¬ cap - (p + 4) = 0 := by omega
            have hwh : whole (b.drop p) = true := whole_iff.2 ⟨by rw [HDL.out]; omega, by rw [HNN.out]; omega, by rw [HDL.out, HNN.out]; omega⟩
            have hpy : (pay (b.drop p)).length = nn := by rw [pay_len hwh, HNN.out]
            have HPY := hid hpy
            have HGN : Hid (Gone b (p + (4 + nn)) (ps ++ [pay (b.drop p)])) := hid (by have := HG.out.next hwh; rwa [HNN.out] at this)
            have HCT : Hid (Cuts w w.heap.size (vs ++ [.slice (some ⟨g, o + (p + 4), none⟩) nn (cap - (p + 4))]) (ps ++ [pay (b.drop p)])) := hid (by
              have hvl : vs.length = ps.length := by have := HO2.out.1.1; omega
              intro i v q h1 h2
              rcases Nat.lt_or_ge i vs.length with hi | hi
              · rw [List.getElem?_append_left hi] at h1
                rw [List.getElem?_append_left (by omega)] at h2
                exact HO2.out.2.1 i v q h1 h2
              · rw [List.getElem?_append_right hi] at h1
                rw [List.getElem?_append_right (by omega), ← hvl] at h2
                obtain ⟨j, hj⟩ : ∃ j, i - vs.length = j := ⟨_, rfl⟩
                rw [hj] at h1 h2
                cases j with
                | succ j => simp at h1
                | zero =>
                  obtain rfl : Value.slice (some ⟨g, o + (p + 4), none⟩) nn (cap - (p + 4)) = v := by simpa using h1
                  obtain rfl : pay (b.drop p) = q := by simpa using h2
                  refine ⟨_, _, by rw [HPY.out], fun _ => ⟨g, o + (p + 4), rfl, hg, fun i x hx => ?_⟩⟩
                  unfold pay at hx
                  rw [List.getElem?_take] at hx
                  split at hx
                  · rw [List.getElem?_drop, List.getElem?_drop] at hx
                    have := HCC.out _ _ hx
                    rwa [show o + (p + (4 + i)) = o + (p + 4) + i by omega] at this
                  · cases hx)
            have HB5 : Hid (Below w.heap.size w w5) := hid (by
              have h1 : Below w.heap.size w (w2.drewN nq) := ⟨HO2.out.2.2.os, HO2.out.2.2.tape, HO2.out.2.2.output, HO2.out.2.2.size, HO2.out.2.2.block⟩
              exact Below.grown (h1.alloc HO2.out.2.2.size _) hgrow5 (by have := HO2.out.2.2.size; simp; omega) (fun k e => (HO2.out.1.lt k e).1))
            have HO5 := hid hown5
            clear hq2 hwh hpy hown5 hgrow5
            go_wp2_with fail
            have hpl : (ps ++ [pay (b.drop p)]).length = ps.length + 1 := by simp
            refine ⟨⟨p + (4 + nn), ps ++ [pay (b.drop p)], _, some ⟨g5, 0, none⟩, c5, HGN.out, by rw [hpl], ?_, by rw [hpl]; exact HO5.out, HCT.out, HB5.out⟩, ?_⟩
            · first | go_num | rfl | (congr 1; omega)
            · simp [intOf]; omega
    · obtain rfl : p = L := by omega
      have he := HG.out.ends (by
        cases hw : whole (b.drop p) with
        | false => rfl
        | true => have := (whole_iff.1 hw).1; rw [HDL.out] at this; omega)
      have HE : Hid (errOf (sp b).2 = 0) := hid (by rw [← he.2]; exact err_ok (by rw [HDL.out]; omega))
      have HPS := hid he.1
      have HPL := hid HG.out.place_
      clear he
      go_wp2_with fail
      go_ret3
      refine ⟨oa, oc, vs, ?_, ?_, ?_, HO.out.2.2⟩
      · rw [HE.out, ← HPS.out, HPL.out]; rfl
      · rw [← HPS.out]; exact HO.out.1
      · rw [← HPS.out]; exact HO.out.2.1

end Go.Proofs.Ytbpajgkhajheaaa.FrmDc
