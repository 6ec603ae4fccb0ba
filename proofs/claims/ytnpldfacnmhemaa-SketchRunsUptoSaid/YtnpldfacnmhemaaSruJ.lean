/- The walk of SketchRuns. -/
import Derived.Test.YtnpldfacnmhemaaSruI
import Derived.Test.YtnpldfacnmhemaaMem
import Derived.Deep.DeepCutAuto
import Derived.BigQuiet
namespace Go.Proofs.Ytnpldfacnmhemaa.SruJ
open Go.ChangeShapes Go.WideShapes Go.ChangeAt Go.RowKit Go.Deep Base Wri Map WldA WldF WldG Mem SkK SkA SkB SkC SkD SkE SkF SkG SkH SkI SkJ SkL SkM SkN SkP SkQ SkR SkS SkT SkU SruA SruB SruC SruD SruE SruF SruG SruH SruI
set_option linter.unusedVariables false

theorem infoBoth : (Try.prog.info? 35).map (fun i => (i.zero, i.size, i.bytes)) = some (some (.agg #[.pointer none, .pointer none]), 2, 16) := by kernel_rfl

/-- the pair that New made -/
theorem first_pair {w wa w1 w2 w3 : World} {p q : Nat} {X : Shp} (ha : Below w.heap.size w wa) (hO : Own wa w1 p none X q 0 [] [] (fun _ => 0)) (hb2 : Below w1.heap.size w1 w2) (hR : IsRS w2 w1.heap.size w1.heap.size X q 0 (.slice none 0 0) []) (hb3 : Below w2.heap.size w2 w3) :
    Rd w [w3.heap.size] w3.heap.size (.slice none 0 0) X q w.heap.size p w1.heap.size 0 none [] [] (fun _ => 0) w1.heap.size (.slice none 0 0) [] [] 0 (w3.alloc (.cells #[ptr0 p, ptr0 w1.heap.size] 35)) := by
  have s0 := ha.size
  have s1 := hO.bel.size
  have s2 := hb2.size
  have s3 := hb3.size
  have ft : ∀ k, Ft p none [] (fun _ => 0) k → wa.heap.size ≤ k ∧ k < w1.heap.size := fun k hk => ⟨hO.up k hk, hO.full.lt hk⟩
  have hP : Pr w.heap.size [] w2 p w1.heap.size none X q 0 0 [] [] (fun _ => 0) w1.heap.size (.slice none 0 0) [] [] := by
    refine ⟨hO.full.below hb2, hR, s2, fun k hk => ⟨?_, by simp⟩, fun k hk => ⟨by have := ft k hk; omega, by simp [Value.ownBlock]⟩, fun k e => by simp at e, Alk.nil⟩
    rcases hk with e | e | e
    · have := ft k e; omega
    · omega
    · simp [Value.ownBlock] at e
  have hal : Below w3.heap.size w3 (w3.alloc (.cells #[ptr0 p, ptr0 w1.heap.size] 35)) := (Below.refl _ _).alloc (Nat.le_refl _) _
  have hP3 := (hP.below hb3).more w3.heap.size (Nat.le_refl _) hal (by simp)
  have hbel : Below w.heap.size w w3 := ((ha.trans (hO.bel.mono s0)).trans (hb2.mono (by omega))).trans (hb3.mono (by omega))
  exact ⟨hP3, Nat.le_refl _, ⟨⟨rfl, .inl ⟨rfl, rfl⟩⟩, by simp, fun g hg => by simp [Value.ownBlock] at hg, fun x hx => by simp at hx⟩, heap_alloc_new _ _, by simp, by omega, Nat.le_refl _, by simp; omega, hbel.trans (hal.mono (by omega))⟩

set_option maxRecDepth 100000 in
set_option maxHeartbeats 4000000 in
theorem runs_core (wd bk ro co : Int) (sd : Nat) (hsd : sd < 18446744073709551616) (a : Option Addr) (len cap : Nat) (D : Nat → Deed) (sv : Value) (hsv : sv = .slice a len cap) (w : World) (HC : Hid (Deeds w a len D)) (hsum : Hid (sumD D len ≤ 2000000)) :
    Calls Try.prog 3 #[.agg #[.int .i64 wd, .int .i64 bk, .int .i64 ro, .int .i64 co, .int .u64 sd], sv] w fun e w' => e = .returned (.bool true) ∧ Below w.heap.size w w' := by
  obtain ⟨i0, hi, hz0, hz1, hz2⟩ := info_parts infoBoth
  subst hsv
  have HSD := hid hsd
  clear hsd
  go_enter Try.func3, Try.ntmps3
  go_wp2_with fail
  refine (New_any wd bk ro co sd _).mono ?_
  rintro e w1 (⟨hr, X, q, p, rfl, rfl, rfl, rfl, rfl, rfl, hO⟩ | ⟨hr, rfl, hb1⟩)
  · have k0 : w1.cell? ⟨w.heap.size, 0, none⟩ = some (.int .i64 X.wd) := (hO.bel.cell (p := ⟨w.heap.size, 0, none⟩) (by simp)).trans (by go_cell)
    have k1 : w1.cell? ⟨w.heap.size, 1, none⟩ = some (.int .i64 X.bk) := (hO.bel.cell (p := ⟨w.heap.size, 1, none⟩) (by simp)).trans (by go_cell)
    have k2 : w1.cell? ⟨w.heap.size, 2, none⟩ = some (.int .i64 X.ro) := (hO.bel.cell (p := ⟨w.heap.size, 2, none⟩) (by simp)).trans (by go_cell)
    have k3 : w1.cell? ⟨w.heap.size, 3, none⟩ = some (.int .i64 X.co) := (hO.bel.cell (p := ⟨w.heap.size, 3, none⟩) (by simp)).trans (by go_cell)
    have k4 : w1.cell? ⟨w.heap.size, 4, none⟩ = some (.int .u64 X.seed) := (hO.bel.cell (p := ⟨w.heap.size, 4, none⟩) (by simp)).trans (by go_cell)
    have HO := hid hO
    have HR := hid hr
    clear hO hr
    go_wp2_with fail
    refine (rnew_any X.wd X.bk X.ro X.co X.seed w1 HSD.out).mono ?_
    rintro e w2 ⟨-, h2⟩
    obtain ⟨rfl, hb2, hR⟩ := h2 HR.out
    have HRS := hid (hR X q HO.out.full.ok rfl rfl rfl rfl rfl)
    have HB2 := hid hb2
    clear hb2 hR h2 k0 k1 k2 k3 k4
    go_wp2_with fail
    refine (live_look _).mono ?_
    rintro e w3 ⟨rfl, hb3⟩
    have HRD := hid (first_pair (w := w) ((Below.refl _ _).alloc (Nat.le_refl _) _) HO.out HB2.out HRS.out hb3)
    clear hb3 HO HRS HB2
    unfold ptr0 at HRD
    go_wp2_with fail
    obtain ⟨bb, hbb⟩ : ∃ bb, w3.heap.size = bb := ⟨_, rfl⟩
    rw [hbb] at HRD ⊢
    clear hbb
    go_loopw [10, 11] (fun ov i wr => ∃ k : Nat, k ≤ len ∧ i = .int .i64 k ∧ RdE w [bb] bb X q (sumD D k) ov wr) (fun _ i _ => len - (intOf i).toNat)
    case atStart => exact ⟨0, Nat.zero_le _, rfl, _, _, _, _, _, _, _, _, _, _, _, _, HRD.out⟩
    case round =>
      obtain ⟨k, hk, rfl, N, p, b, last, go, ns, qs, mpf, B, rv, rs, os, hRd⟩ := hrel
      have HR0 := hid hRd
      clear hRd HRD
      by_cases hlt : k < len
      · obtain ⟨g, o, rfl, hg, hc⟩ := HC.out.2.1 (by omega)
        obtain ⟨hks, hdn, hdi⟩ := HC.out.2.2 k hlt
        have hck := hc k hlt
        obtain ⟨⟨dk, dt, ds, da, dn, dc, df⟩, hD⟩ : ∃ d, D k = d := ⟨_, rfl⟩
        rw [hD] at hck hks hdn hdi
        dsimp only at hks hdn hdi
        have HD := hid hD
        have HDI := hid hdi
        have c0 : wr.cell? ⟨g, o + k * 4, none⟩ = some (.int .i64 dk) := (HR0.out.bel.cell (p := ⟨g, o + k * 4, none⟩) hg).trans (hck 0 _ rfl)
        have c1 : wr.cell? ⟨g, o + k * 4 + 1, none⟩ = some (.int .i64 dt) := (HR0.out.bel.cell (p := ⟨g, o + k * 4 + 1, none⟩) hg).trans (hck 1 _ rfl)
        have c2 : wr.cell? ⟨g, o + k * 4 + 2, none⟩ = some (.string ds) := (HR0.out.bel.cell (p := ⟨g, o + k * 4 + 2, none⟩) hg).trans (hck 2 _ rfl)
        have c3 : wr.cell? ⟨g, o + k * 4 + 3, none⟩ = some (.slice da dn dc) := (HR0.out.bel.cell (p := ⟨g, o + k * 4 + 3, none⟩) hg).trans (hck 3 _ rfl)
        have hgr : g < wr.heap.size := Nat.lt_of_lt_of_le hg HR0.out.bel.size
        have hk1 : (k : Int) < (len : Int) := by omega
        have hlen := HC.out.1
        clear hc hck hD hdi
        obtain ⟨va, vc, rfl⟩ := owns_shape HR0.out.lst.own
        have hos := HR0.out.lst.few
        have hNdb := HR0.out.Nw
        have hbdb := HR0.out.pr.slt bb HR0.out.bS
        have hal : Below wr.heap.size wr (wr.alloc (.cells #[.int .i64 dk, .int .i64 dt, .string ds, .slice da dn dc] 39)) := (Below.refl _ _).alloc (Nat.le_refl _) _
        have HR1 := hid (HR0.out.more wr.heap.size (Nat.le_refl _) hal (by simp))
        have HX1 := hid (heap_alloc_new wr (.cells #[.int .i64 dk, .int .i64 dt, .string ds, .slice da dn dc] 39))
        have HB1 := hid (HR0.out.bel.trans (hal.mono HR0.out.bel.size))
        clear hal HR0
        obtain ⟨fb, hfb⟩ : ∃ fb : Bool, decide (dk = 1 ∧ os.length < 4) = fb := ⟨_, rfl⟩
        have HFB := hid hfb
        clear hfb
        go_upto_region 13 with (fail)
        clear c0 c1 c2 c3
        obtain ⟨W1, hW1⟩ : ∃ W1, wr.alloc (.cells #[.int .i64 dk, .int .i64 dt, .string ds, .slice da dn dc] 39) = W1 := ⟨_, rfl⟩
        rw [hW1] at HR1 HX1 HB1 ⊢
        obtain ⟨db, hdb⟩ : ∃ db, wr.heap.size = db := ⟨_, rfl⟩
        rw [hdb] at HR1 HX1 hNdb hbdb ⊢
        clear hdb hW1
        have d0 : W1.cell? ⟨db, 0, none⟩ = some (.int .i64 dk) := by unfold World.cell?; rw [HX1.out]; rfl
        go_cut [79] (fun s79 wx => s79 = .bool fb ∧ wx = W1)
        case first =>
          have hfb := HFB.out
          by_cases h1 : dk = 1
          · subst h1
            cases fb
            · have h4 : ¬ ((os.length : Int) < 4) := by
                have := of_decide_eq_false hfb
                omega
              clear hfb
              go_wp2_with fail
              go_meet
              exact ⟨rfl, rfl⟩
            · have h4 : (os.length : Int) < 4 := by
                have := of_decide_eq_true hfb
                omega
              clear hfb
              go_wp2_with fail
              go_meet
              exact ⟨rfl, rfl⟩
          · have hf : fb = false := by rw [← hfb]; simp [h1]
            subst hf
            clear hfb
            go_wp2_with fail
            go_meet
            exact ⟨rfl, rfl⟩
        case rest =>
          obtain ⟨rfl, rfl⟩ := hcut
          go_upto_if 79 with (fail)
          go_cut [10] (fun v10 wx => RdE w [db, bb] bb X q (sumD D k) v10 wx ∧ wx.heap[db]? = some (.cells #[.int .i64 dk, .int .i64 dt, .string ds, .slice da dn dc] 39))
          case first =>
            cases fb
            · go_wp2_with fail
              go_meet
              exact ⟨⟨_, _, _, _, _, _, _, _, _, _, _, _, HR1.out⟩, HX1.out⟩
            · have h4 : os.length < 4 := (of_decide_eq_true HFB.out).2
              have b0 : wc.cell? ⟨bb, 0, none⟩ = some (.pointer (some ⟨p, 0, none⟩)) := by unfold World.cell?; rw [HR1.out.bx]; rfl
              have b1 : wc.cell? ⟨bb, 1, none⟩ = some (.pointer (some ⟨b, 0, none⟩)) := by unfold World.cell?; rw [HR1.out.bx]; rfl
              have hbl := HR1.out.pr.slt bb HR1.out.bS
              have hdl := HR1.out.pr.slt db (by simp)
              have hwl := HR1.out.bel.size
              have hownP : (wc.alloc (.cells #[.pointer (some ⟨p, 0, none⟩), .pointer (some ⟨b, 0, none⟩)] 35)).ownsRow w.heap.size 35 2 (.slice va os.length vc) os.length (cellsO os) := World.ownsRow.alloc HR1.out.lst.own _
              have HOW := hid hownP
              clear hownP d0
              go_upto_region 15 with (
                at_builtin
                refine wpList_append_own_at _ rfl _ _ 36 rfl w.heap.size 35 i0 (.agg #[.pointer none, .pointer none]) 2 16 Try.underlying36 hi hz0 hz1 hz2 rfl (by decide) (.slice va os.length vc) os.length (cellsO os) rfl HOW.out ⟨wc.heap.size, 0, none⟩ 1 1 [.pointer (some ⟨p, 0, none⟩), .pointer (some ⟨b, 0, none⟩)] rfl rfl ?c1 ?c2 ?c3 ?c4 ?c5 ?_
                rotate_left 5
                intro v6 w6 hown6 hgr6 hnil6 hat6)
              case c1 =>
                intro j u hu
                rw [Go.WideShapes.add_plain, Nat.zero_add]
                have hnn := heap_alloc_new wc (.cells #[.pointer (some ⟨p, 0, none⟩), .pointer (some ⟨b, 0, none⟩)] 35)
                unfold World.cell?
                rw [hnn]
                simpa using hu
              case c2 =>
                intro u hu
                simp at hu
                rcases hu with rfl | rfl <;> rfl
              case c3 => unfold maxLen; omega
              case c4 => omega
              case c5 => simp; omega
              have hal2 : Below wc.heap.size wc (wc.alloc (.cells #[.pointer (some ⟨p, 0, none⟩), .pointer (some ⟨b, 0, none⟩)] 35)) := (Below.refl _ _).alloc (Nat.le_refl _) _
              have kx : ∀ j, j < wc.heap.size → (Value.slice va os.length vc).ownBlock ≠ some j → w6.heap[j]? = wc.heap[j]? := fun j hj e => (hgr6.block j (by have := hal2.size; omega) (fun e2 => e e2.symm)).trans (hal2.block j hj)
              have hx6 : w6.heap[bb]? = some (.cells #[ptr0 p, ptr0 b] 35) := (kx bb hbl (fun e => (HR1.out.lst.low bb e).2 rfl)).trans HR1.out.bx
              have HD6 : Hid (w6.heap[db]? = some (.cells #[.int .i64 dk, .int .i64 dt, .string ds, .slice da dn dc] 39)) := hid ((kx db hdl (fun e => by have := (HR1.out.lst.low db e).1; omega)).trans HX1.out)
              have HP6 := hid (HR1.out.pushed hal2 hgr6)
              have hs6 : wc.heap.size ≤ w6.heap.size := by have := hgr6.size; simp at this; omega
              have HF6 := hid (fork_pr (HP6.out.full.below (Below.drew (Below.refl _ w6))))
              have q0 : w6.cell? ⟨bb, 0, none⟩ = some (.pointer (some ⟨p, 0, none⟩)) := by unfold World.cell?; rw [hx6]; rfl
              have q1 : w6.cell? ⟨bb, 1, none⟩ = some (.pointer (some ⟨b, 0, none⟩)) := by unfold World.cell?; rw [hx6]; rfl
              have HX6 := hid hx6
              have HO6 := hid hown6
              have HG6 := hid hgr6
              have HA6 := hid hat6
              have HAL := hid hal2
              have hbl6 : bb < w6.heap.size := by omega
              have hdl6 : db < w6.heap.size := by omega
              clear hx6 kx b0 b1 hown6 hgr6 hnil6 hat6 hal2 HOW
              go_region_with (first
                | (go_at_call 8; refine HF6.out.mono ?_; rintro e w7 ⟨p', go', mpf', rfl, hF1, hF2, hF3⟩; have HF1 := hid hF1; have HF2 := hid hF2; have HF3 : Hid (Below w6.heap.size w6 w7) := hid ((Below.drew (Below.refl _ w6)).trans hF3); have hx7 := (hF3.block bb hbl6).trans HX6.out; have q2 : w7.cell? ⟨bb, 1, none⟩ = some (.pointer (some ⟨b, 0, none⟩)) := (by unfold World.cell?; rw [hx7]; rfl); have HX7 := hid hx7; clear hF1 hF2 hF3 hx7 HF6)
                | (go_at_call 9; refine (rfork_any (HP6.out.ref.below HF3.out)).mono ?_; rintro e w8 ⟨b', rv', rfl, hG1, hG2, hG3, hG4⟩; have HG1 := hid hG1; have HG2 := hid hG2; have HG3 := hid hG3; have HG4 := hid hG4; have hbl8 : bb < w7.heap.size := (Nat.lt_of_lt_of_le hbl6 HF3.out.size); have hx8 := (hG4.block bb hbl8).trans HX7.out; have q3 : w8.cell? ⟨bb, 0, none⟩ = some (.pointer (some ⟨p, 0, none⟩)) := (by unfold World.cell?; rw [hx8]; rfl); have q4 : w8.cell? ⟨bb, 1, none⟩ = some (.pointer (some ⟨b, 0, none⟩)) := (by unfold World.cell?; rw [hx8]; rfl); have q5 : w8.frozen? ⟨bb, 0, none⟩ = false := (by unfold World.frozen?; rw [hx8]; rfl); have q6 : w8.frozen? ⟨bb, 1, none⟩ = false := (by unfold World.frozen?; rw [hx8]; rfl); have HX8 := hid hx8; clear hG1 hG2 hG3 hG4 hx8))
              all_goals
                go_wp2_with fail
                go_meet
                exact ⟨⟨_, _, _, _, _, _, _, _, _, _, _, _, HR1.out.forked HAL.out HO6.out HG6.out HA6.out h4 HF1.out HF2.out HF3.out HG1.out HG2.out HG3.out HG4.out ((Wr.set (R := fun j => j = bb) ⟨bb, 0, none⟩ _ rfl).trans (Wr.set ⟨bb, 1, none⟩ _ rfl)) (two_set HX8.out)⟩, ((heap_setCell_other _ _ _ _ (by show db ≠ bb; omega)).trans (heap_setCell_other _ _ _ _ (by show db ≠ bb; omega))).trans ((HG4.out.block db (Nat.lt_of_lt_of_le hdl6 HF3.out.size)).trans ((HF3.out.block db hdl6).trans HD6.out))⟩
          case rest =>
            clear HR1 HX1 d0 HB1 HFB
            obtain ⟨⟨N, p, b, last, go, ns, qs, mpf, B, rv, rs, os, hR⟩, hx⟩ := hcut
            have HR2 := hid hR
            have HX2 := hid hx
            have hdn2 : dn ≤ 2000000 := by
              have h1 := hsum.out
              have h2 := sumD_le D (show k + 1 ≤ len by omega)
              have h3 : sumD D (k + 1) = sumD D k + dn := by show sumD D k + (D k).n = _; rw [HD.out]
              omega
            obtain ⟨d0, d1, d2, d3, b0, b1⟩ := six hx hR.bx
            have HH := hid (hand_any da dn dc df wc (by omega) (ints_below HDI.out hR.bel))
            clear hR hx d0 d1 d2 b0 b1
            go_wp2_with fail
            refine HH.out.mono ?_
            rintro e w4 ⟨rfl, hrow, hb4, hs4⟩
            obtain ⟨hb, hhb⟩ : ∃ hb, wc.heap.size = hb := ⟨_, rfl⟩
            have HR4 := hid (HR2.out.more wc.heap.size (Nat.le_refl _) hb4 hs4)
            have HX4 := hid ((hb4.block db (HR2.out.pr.slt db (by simp))).trans HX2.out)
            rw [hhb] at HR4 hrow hs4 ⊢
            have HROW := hid hrow
            clear HH hrow hb4 hhb d3 HR2 HX2
            obtain ⟨d0, d1, d2, d3, b0, b1⟩ := six HX4.out HR4.out.bx
            unfold ptr0 at b0 b1
            have HI4 := hid (ints_below HDI.out HR4.out.bel)
            have HI4h : Hid (Ints w4 (some ⟨hb, 0, none⟩) dn df) := hid (IntsAt.congr (Row.intsAt HROW.out hs4 dn (by omega)) (fun i hi => by simp [markF, hi]))
            go_upto_region 17 with (fail)
            go_cut [123] (fun s123 wx => s123 = .bool false ∧ RdE w [hb, db, bb] bb X q (sumD D (k + 1)) u10 wx ∧ wx.heap[db]? = some (.cells #[.int .i64 dk, .int .i64 dt, .string ds, .slice da dn dc] 39))
            case first =>
              have hsm : sumD D (k + 1) = sumD D k + dn := by show sumD D k + (D k).n = _; rw [HD.out]
              have HSM : Hid (sumD D (k + 1) = sumD D k + dn ∧ sumD D k + dn ≤ 2000000) := hid ⟨hsm, by have := hsum.out; have := sumD_le D (show k + 1 ≤ len by omega); omega⟩
              have hNl := HR4.out.Nl
              clear hsm
              by_cases h0 : dk = 0
              · subst h0
                obtain ⟨r, hr⟩ : ∃ r, refT last dt (goodC df dn) = r := ⟨_, rfl⟩
                have HPD := hid (HR4.out.pr.below (Below.drew (Below.refl _ w4)))
                have HA1 := hid (padd HPD.out dt ds hks (some ⟨hb, 0, none⟩) dn (dn + 9) df hdn HI4h.out (fun _ g o e => .inr (by have := Option.some.inj e; cases this; simp)) HR4.out.Nw)
                have HA2 : Hid (∀ go' qs' mpf' w5, Pr N [hb, db, bb] w5 p b go' X q (lastA last dt df dn) last (notesA last ns dt ds df dn) qs' mpf' B rv rs (rsA last rs dt ds df dn) → Below w.heap.size w w5 → N ≤ w5.heap.size → Calls Try.prog 12 #[.pointer (some ⟨b, 0, none⟩), .int .i64 dt, .string ds, .slice da dn dc] w5 fun e w' => e = .returned (.int .i64 (refT last dt (goodC df dn))) ∧ (∃ rv', Pr N [hb, db, bb] w' p b go' X q (lastA last dt df dn) (lastA last dt df dn) (notesA last ns dt ds df dn) qs' mpf' B rv' (rsA last rs dt ds df dn) (rsA last rs dt ds df dn)) ∧ Kp N [hb, db, bb] w5 w') := hid (fun go' qs' mpf' w5 hP hb5 hN5 => radd hP dt ds hks da dn dc df hdn (by have := HR4.out.few; have := HSM.out.2; omega) (ints_below HDI.out hb5) (fun h00 g o e => by
                  obtain ⟨g2, o2, e2, hg2, _⟩ := HDI.out h00
                  rw [e] at e2
                  cases e2
                  exact .inl (by omega)) hN5)
                rw [hr] at HA1 HA2
                clear hr HPD
                go_region_held3 (fun w' => w'.cell? ⟨db, 0, none⟩ = some (.int .i64 0) ∧ w'.cell? ⟨db, 1, none⟩ = some (.int .i64 dt) ∧ w'.cell? ⟨db, 2, none⟩ = some (.string ds) ∧ w'.cell? ⟨db, 3, none⟩ = some (.slice da dn dc) ∧ w'.cell? ⟨bb, 0, none⟩ = some (.pointer (some ⟨p, 0, none⟩)) ∧ w'.cell? ⟨bb, 1, none⟩ = some (.pointer (some ⟨b, 0, none⟩))) (first | assumption | go_keep)
                  (first | (go_at_call 11; refine HA1.out.mono ?_; rintro e w5 ⟨rfl, ⟨go', qs', mpf', hP5⟩, hK5⟩
                            have hK5' : Kp N [hb, db, bb] w4 w5 := (Kp.refl _ _ w4).drew.trans hK5
                            have HX5 := hid ((hK5'.safe db (by simp)).trans HX4.out)
                            have HY5 := hid ((hK5'.safe bb (by simp)).trans HR4.out.bx)
                            obtain ⟨x0, x1, x2, x3, y0, y1⟩ := six HX5.out HY5.out
                            unfold ptr0 at y0 y1
                            have HP5 := hid hP5; have HK5 := hid hK5'; clear hP5 hK5 hK5' d0 d1 d2 d3 b0 b1 HA1)
                         | (go_at_call 12; refine (HA2.out _ _ _ _ HP5.out (HR4.out.bel.trans (HK5.out.bel.mono hNl)) (Nat.le_trans HR4.out.Nw HK5.out.bel.size)).mono ?_; rintro e w6 ⟨rfl, ⟨rv', hP6⟩, hK6⟩
                            have hK6' : Kp N [hb, db, bb] w4 w6 := HK5.out.trans hK6
                            have HX6 := hid ((hK6'.safe db (by simp)).trans HX4.out)
                            have HY6 := hid ((hK6'.safe bb (by simp)).trans HR4.out.bx)
                            obtain ⟨z0, z1, z2, z3, t0, t1⟩ := six HX6.out HY6.out
                            unfold ptr0 at t0 t1
                            have HKE6 := hid (kept_any da hb dn dc df w6 (by omega) (Nat.lt_of_lt_of_le hs4 hK6'.bel.size) (ints_below HDI.out (HR4.out.bel.trans (hK6'.bel.mono hNl))) (HROW.out.of_block (hK6'.safe hb (by simp))))
                            have HP6 := hid hP6; have HK6 := hid hK6'; clear hP6 hK6 hK6' x0 x1 x2 x3 y0 y1 HA2)
                         | (go_at_call 13; refine HKE6.out.mono ?_; rintro e w7 ⟨rfl, m7, rfl⟩))
                all_goals
                  go_wp2_with fail
                  go_meet
                  exact ⟨rfl, ⟨_, _, _, _, _, _, _, _, _, _, _, _, HR4.out.kp (HK6.out.drewN m7) (HP6.out.keep (Nat.le_refl _) (fun _ _ => rfl)) (by rw [HSM.out.1]; exact Nat.le_trans (rsA_len _ _ _ _ _ _) (Nat.add_le_add_right HR4.out.few _))⟩, HX6.out⟩
              · have hd0 : (dk == 0) = false := by simp [h0]
                have HKE : Hid (∀ n, Calls Try.prog 13 #[.slice (some ⟨hb, 0, none⟩) dn (dn + 9), .slice da dn dc] (w4.drewN n) fun e w' => e = .returned (.bool true) ∧ ∃ m, w' = (w4.drewN n).drewN m) := hid (fun n => (kept_any da hb dn dc df (w4.drewN n) (by omega) hs4 (ints_below HI4.out (below_drewN (Below.refl _ w4) n)) (HROW.out.of_block rfl)).mono fun e w' h => ⟨h.1, h.2.elim fun m hm => ⟨m, hm.symm⟩⟩)
                clear d1 d2 b0 b1
                go_quiet ((go_at_call 13; exact Calls.quiet_of (HKE.out _)))
                all_goals
                  go_wp2_with fail
                  go_meet
                  exact ⟨rfl, ⟨_, _, _, _, _, _, _, _, _, _, _, _, HR4.out.kp ((Kp.refl _ _ w4).drewN nq) (HR4.out.pr.keep (Nat.le_refl _) (fun _ _ => rfl)) (by rw [HSM.out.1]; exact Nat.le_trans HR4.out.few (Nat.le_add_right _ _))⟩, HX4.out⟩
            case rest =>
              clear HR4 HX4 HROW HI4 HI4h d0 d1 d2 d3 b0 b1
              obtain ⟨rfl, ⟨N, p, b, last, go, ns, qs, mpf, B, rv, rs, os, hR⟩, hx⟩ := hcut
              generalize wc = w5 at *
              have HR5 := hid hR
              have hl5 := hR.pr.full.late
              have hw5 : w5.heap.size ≤ w5.heap.size := Nat.le_refl _
              have HCE : Hid (∀ wz, Below w5.heap.size w5 wz → wz.cell? ⟨db, 1, none⟩ = some (.int .i64 dt) ∧ wz.cell? ⟨db, 2, none⟩ = some (.string ds) ∧ wz.cell? ⟨bb, 0, none⟩ = some (.pointer (some ⟨p, 0, none⟩)) ∧ wz.cell? ⟨bb, 1, none⟩ = some (.pointer (some ⟨b, 0, none⟩)) ∧ wz.cell? ⟨b, 6, none⟩ = some (.int .i64 last)) := hid (fun wz hb => by
                obtain ⟨e0, e1, e2, e3, e4, e5⟩ := six ((hb.block db (hR.pr.slt db (by simp))).trans hx) ((hb.block bb (hR.pr.slt bb (by simp))).trans hR.bx)
                exact ⟨e1, e2, e4, e5, (hR.pr.ref.below hb).c6⟩)
              have HAL : Hid (∀ wz, Below w5.heap.size w5 wz → ∀ (t : Int) (s : ByteArray), s.size ≤ maxLen → Calls Try.prog 14 #[.agg #[.pointer (some ⟨p, 0, none⟩), .pointer (some ⟨b, 0, none⟩)], .int .i64 t, .string s] wz fun e w' => e = .returned (.bool true) ∧ Below w5.heap.size w5 w') := hid (fun wz hb t s hs => (alike_any (hR.pr.full.below hb) (hR.pr.ref.below hb) hR.pr.alk t s hs).mono (fun e w' h => ⟨h.1, hb.trans (h.2.mono hb.size)⟩))
              have HZ1 : Hid ((⟨#[97]⟩ : ByteArray).size ≤ maxLen ∧ (⟨#[98]⟩ : ByteArray).size ≤ maxLen) := hid (by constructor <;> (show 1 ≤ maxLen; unfold maxLen; omega))
              clear hR hx
              go_upto_region 19 with (fail)
              go_cut [151] (fun s151 wx => s151 = .bool false ∧ Below w5.heap.size w5 wx)
              case first =>
                obtain ⟨d1, d2, b0, b1, r6⟩ := HCE.out w5 (Below.refl _ _)
                have HA1 := hid (HAL.out w5.drew (Below.drew (Below.refl _ _)) dt ds hks)
                go_region_held3 (fun w' => w'.cell? ⟨db, 1, none⟩ = some (.int .i64 dt) ∧ w'.cell? ⟨db, 2, none⟩ = some (.string ds) ∧ w'.cell? ⟨bb, 0, none⟩ = some (.pointer (some ⟨p, 0, none⟩)) ∧ w'.cell? ⟨bb, 1, none⟩ = some (.pointer (some ⟨b, 0, none⟩)) ∧ w'.cell? ⟨b, 6, none⟩ = some (.int .i64 last)) (first | assumption | go_keep)
                  (first | (go_at_call 14; first
                            | (with_reducible refine HA1.out.mono ?_; rintro e w6 ⟨rfl, hb6⟩
                               obtain ⟨x1, x2, y0, y1, z6⟩ := HCE.out w6 hb6
                               have HA2 := hid (HAL.out w6 hb6 last ⟨#[97]⟩ HZ1.out.1)
                               clear HA1 d1 d2 b0 b1 r6)
                            | (with_reducible refine HA2.out.mono ?_; rintro e w7 ⟨rfl, hb7⟩
                               obtain ⟨s1, s2, t0, t1, v6⟩ := HCE.out w7 hb7
                               have HA3 := hid (HAL.out w7 hb7 (IntKind.i64.wrap ((last : Int) + 300000)) ⟨#[98]⟩ HZ1.out.2)
                               clear HA2 x1 x2 y0 y1 z6)
                            | (with_reducible refine HA3.out.mono ?_; rintro e w8 ⟨rfl, hb8⟩
                               obtain ⟨i1, i2, j0, j1, l6⟩ := HCE.out w8 hb8
                               have HB8 := hid hb8
                               clear HA3 s1 s2 t0 t1 v6)))
                all_goals
                  go_wp2_with fail
                  go_meet
                  exact ⟨rfl, HB8.out⟩
              case rest =>
                obtain ⟨rfl, hb9⟩ := hcut
                have HR9 := hid ((HR5.out.below hb9).less (S' := [bb]) (fun j hj => by simp at hj ⊢; exact .inr (.inr hj)) (by simp))
                clear hb9 HCE HAL HR5
                go_wp2_with fail
                exact ⟨⟨k + 1, by omega, by go_num, ⟨_, _, _, _, _, _, _, _, _, _, _, _, HR9.out⟩⟩, by simp [intOf]; omega⟩
      · obtain rfl : k = len := by omega
        obtain ⟨va, vc, rfl⟩ := owns_shape HR0.out.lst.own
        have hos := HR0.out.lst.few
        have hlen := HC.out.1
        clear hlt
        go_wp2_with fail
        generalize wr = w4 at *
        go_loopw [14] (fun i wr => ∃ j : Nat, j ≤ os.length ∧ i = .int .i64 j ∧ Below w4.heap.size w4 wr) (fun i _ => os.length - (intOf i).toNat)
        case atStart => exact ⟨0, Nat.zero_le _, rfl, Below.refl _ _⟩
        case round =>
          obtain ⟨j, hj, rfl, hb⟩ := hrel
          have HB := hid hb
          clear hb
          by_cases hlt : j < os.length
          · obtain ⟨g, c, e, hg, hg2⟩ := World.ownsRow.form HR0.out.lst.own (by omega)
            cases e
            obtain ⟨e0, e1⟩ := cellsO_get os j hlt
            have hcl := cellsO_len os
            have k0 : wr.cell? ⟨g, j * 2, none⟩ = some (ptr0 os[j].1) := (HB.out.cell (p := ⟨g, j * 2, none⟩) hg2).trans ((World.ownsRow.cellAt HR0.out.lst.own _ (by omega)).trans e0)
            have k1 : wr.cell? ⟨g, j * 2 + 1, none⟩ = some (ptr0 os[j].2) := (HB.out.cell (p := ⟨g, j * 2 + 1, none⟩) hg2).trans ((World.ownsRow.cellAt HR0.out.lst.own _ (by omega)).trans e1)
            obtain ⟨go1, last1, ns1, qs1, mpf1, B1, rv1, rs1, h1, h2, h3, _⟩ := HR0.out.lst.each os[j] (List.getElem_mem hlt)
            have k6 := (h2.below HB.out).c6
            have HA := hid (alike_any ((h1.below HB.out).below (Below.drew (Below.refl _ wr))) ((h2.below HB.out).below (Below.drew (Below.refl _ wr))) h3 last1 ⟨#[97]⟩ (by show 1 ≤ maxLen; unfold maxLen; omega))
            have hgr : g < wr.heap.size := Nat.lt_of_lt_of_le hg2 HB.out.size
            unfold ptr0 at k0 k1
            generalize os[j].1 = pj at *
            generalize os[j].2 = bj at *
            have hj1 : (j : Int) < (os.length : Int) := by omega
            clear e0 e1 hcl h1 h2 h3 hg hg2
            go_wp2_with fail
            go_region_held3 (fun w' => w'.cell? ⟨g, j * 2, none⟩ = some (.pointer (some ⟨pj, 0, none⟩)) ∧ w'.cell? ⟨g, j * 2 + 1, none⟩ = some (.pointer (some ⟨bj, 0, none⟩)) ∧ w'.cell? ⟨bj, 6, none⟩ = some (.int .i64 last1)) (first | assumption | go_keep)
              (first | (go_at_call 14; with_reducible refine HA.out.mono ?_; rintro e w6 ⟨rfl, hb6⟩
                        have hb6' : Below wr.heap.size wr w6 := (Below.drew (Below.refl _ wr)).trans hb6
                        have x0 := (hb6'.cell (p := ⟨g, j * 2, none⟩) hgr).trans k0
                        have x1 := (hb6'.cell (p := ⟨g, j * 2 + 1, none⟩) hgr).trans k1
                        have x6 := (hb6'.cell (p := ⟨bj, 6, none⟩) (World.block_lt_of_cell? _ _ k6)).trans k6
                        have HB6 : Hid (Below w4.heap.size w4 w6) := hid (HB.out.trans (hb6'.mono HB.out.size))
                        clear hb6 hb6' k0 k1 k6))
            all_goals
              go_wp2_with fail
              exact ⟨⟨j + 1, by omega, by go_num, HB6.out⟩, by simp [intOf]; omega⟩
          · obtain rfl : j = os.length := by omega
            go_wp2_with fail
            go_ret
            exact ⟨rfl, HR0.out.bel.trans (HB.out.mono HR0.out.bel.size)⟩
  · have k0 : w1.cell? ⟨w.heap.size, 0, none⟩ = some (.int .i64 wd) := (hb1.cell (p := ⟨w.heap.size, 0, none⟩) (by simp)).trans (by go_cell)
    have k1 : w1.cell? ⟨w.heap.size, 1, none⟩ = some (.int .i64 bk) := (hb1.cell (p := ⟨w.heap.size, 1, none⟩) (by simp)).trans (by go_cell)
    have k2 : w1.cell? ⟨w.heap.size, 2, none⟩ = some (.int .i64 ro) := (hb1.cell (p := ⟨w.heap.size, 2, none⟩) (by simp)).trans (by go_cell)
    have k3 : w1.cell? ⟨w.heap.size, 3, none⟩ = some (.int .i64 co) := (hb1.cell (p := ⟨w.heap.size, 3, none⟩) (by simp)).trans (by go_cell)
    have k4 : w1.cell? ⟨w.heap.size, 4, none⟩ = some (.int .u64 sd) := (hb1.cell (p := ⟨w.heap.size, 4, none⟩) (by simp)).trans (by go_cell)
    have HB1 : Hid (Below w.heap.size w w1) := hid (((Below.refl _ w).alloc (Nat.le_refl _) _).trans (hb1.mono (by simp)))
    have HN := hid (rnew_any wd bk ro co sd w1 HSD.out)
    have HR := hid hr
    obtain ⟨z, hz⟩ : ∃ z, refZ wd bk ro co = z := ⟨_, rfl⟩
    have hz0 : (z != 0) = true := by rw [hz] at hr; simpa using hr
    rw [hz] at HN HR ⊢
    clear hb1 hr hz
    go_wp2_with fail
    refine HN.out.mono ?_
    rintro e w2 ⟨h2, -⟩
    obtain ⟨rfl, hb2⟩ := h2 HR.out
    have HB2 : Hid (Below w.heap.size w w2) := hid (HB1.out.trans (hb2.mono HB1.out.size))
    clear hb2 h2 k0 k1 k2 k3 k4 HN HB1
    go_wp2_with fail
    refine (live_look _).mono ?_
    rintro e w3 ⟨rfl, hb3⟩
    have HB3 : Hid (Below w.heap.size w w3) := hid (HB2.out.trans (hb3.mono HB2.out.size))
    clear hb3 HB2
    go_wp2_with fail
    go_ret
    exact ⟨rfl, HB3.out⟩

end Go.Proofs.Ytnpldfacnmhemaa.SruJ
