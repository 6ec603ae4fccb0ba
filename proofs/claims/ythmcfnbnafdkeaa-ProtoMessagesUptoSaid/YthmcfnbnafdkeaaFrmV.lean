/- A reader takes bytes, payload by payload. -/
import Derived.Test.YthmcfnbnafdkeaaFrmU
import Derived.Sort.CutIn
namespace Go.Proofs.Ythmcfnbnafdkeaa.FrmV
open Go.ChangeShapes Go.WideShapes Go.ChangeAt Go.RowKit Base Wri FrmP FrmA FrmB FrmC FrmD FrmE FrmF FrmQ FrmR FrmS FrmT FrmU
open Go.Shelf
set_option linter.unusedVariables false
set_option linter.unusedSimpArgs false
attribute [local go_sem] Oper.semAt_some
attribute [local go_sem ↓ high] builtin_app

/-- between two rounds -/
def Jr (w : World) (B p : Nat) (va0 : Value) (r0 : Rd) (b : Bs) (W : World) : Prop := ∃ s r ps row vs va, Fed r0 b r s ps ∧ RdJ w B p va0 s r ps W row vs va

/-- bytes appended to the bytes that were gathered -/
theorem gather_run (W : World) (B : Nat) (hB : B ≤ W.heap.size) (va : Value) (m : Nat) (xs : List Value) (hown : W.ownsRow B 5 1 va m xs) (t : Bs) (hm : m + t.length ≤ 16384) (ht : 0 < t.length) (ad : Addr) (k c : Nat) (hk : k = t.length) (hc : ∀ j u, (t.map bv)[j]? = some u → W.cell? (ad.add j) = some u) :
    ∃ g5 c5 w5, Sem.run Try.prog (app #[28, 28] 28 #[va, .slice (some ad) k c]) W = .ok (.slice (some ⟨g5, 0, none⟩) (m + k) c5) w5 ∧ w5.ownsRow B 5 1 (.slice (some ⟨g5, 0, none⟩) (m + k) c5) (m + t.length) (xs ++ t.map bv) ∧ W.grownBy w5 va.ownBlock ∧
      ((Value.slice (some ⟨g5, 0, none⟩) (m + k) c5).ownBlock = va.ownBlock ∨ (Value.slice (some ⟨g5, 0, none⟩) (m + k) c5).ownBlock = some W.heap.size) := by
  subst hk
  obtain ⟨i0, hi, hz0, hz1, hz2⟩ := info_parts infoU8
  obtain ⟨v', w1, hrun, hown', hgrow, _, hat⟩ := run_append_own_at (P := Try.prog) W B 28 28 5 i0 (.int .u8 0) 1 1 Try.underlying28 hi hz0 hz1 hz2 rfl (by decide) va m xs hown ad t.length c (t.map bv) (by simp) hc (one_cells t) (by unfold maxLen; omega) (by omega) hB
  obtain ⟨g5, c5, rfl, _, _⟩ := hown'.form (by omega)
  exact ⟨g5, c5, w1, hrun, hown', hgrow, hat⟩

/-- what a list becomes when its beginning is cut off -/
theorem slice_from {W : World} {n0 : Nat} (ad : Option Addr) (cp q : Nat) (s : Bs) (hq : q ≤ s.length) (hc : s.length ≤ cp) (hba : BAt W n0 ad s) :
    ∃ ad' cp', (∀ wx, Sem.run Try.prog (Instr.sliceAt 28 (.slice ad s.length cp) (some (.int .i64 (q : Nat))) none none) wx = .ok (.slice ad' (s.drop q).length cp') wx) ∧ BAt W n0 ad' (s.drop q) ∧ (s.drop q).length ≤ cp' ∧ cp' ≤ cp ∧
      (0 < (s.drop q).length → ∀ x, ad' = some x → ∃ y, ad = some y ∧ x.block = y.block) := by
  obtain ⟨j0, hu8, hy0, hu8s, hy2⟩ := info_parts infoU8
  have hrun : ∀ wx, Sem.run Try.prog (Instr.sliceAt 28 (.slice ad s.length cp) (some (.int .i64 (q : Nat))) none none) wx = .ok (.slice (if cp = q then ad else ad.map (·.add (q * 1))) (s.length - q) (cp - q)) wx := by
    intro wx
    have he : Try.prog.elem 28 = 5 := by kernel_rfl
    rw [run_sliceAt_slice _ _ _ _ _ _ (by rw [he]; exact Try.underlying28), run_slice_l _ _ _ _ _ (by rw [he]; exact Try.underlying28) _ _ (by omega) (by omega), he]
    simp [sizeOf, typeInfo, hu8, Result.andThen, sliced, hu8s]
  have hdl : (s.drop q).length = s.length - q := List.length_drop
  by_cases hcp : cp = q
  · refine ⟨ad, cp - q, fun wx => ?_, fun h0 => by omega, by omega, by omega, fun h0 => by omega⟩
    rw [hrun wx, if_pos hcp, hdl]
  · cases ad with
    | none => exact ⟨none, cp - q, fun wx => (by rw [hrun wx, if_neg hcp, hdl]; rfl), fun h0 => (by
        obtain ⟨g, o, e, _⟩ := hba (by omega)
        cases e), by omega, by omega, fun h0 x e => by cases e⟩
    | some a =>
      refine ⟨some (a.add (q * 1)), cp - q, fun wx => (by rw [hrun wx, if_neg hcp, hdl]; rfl), fun h0 => ?_, by omega, by omega, fun h0 x e => ⟨a, rfl, by
        obtain ⟨g, o, e2, _⟩ := hba (by omega)
        cases e2
        rw [← Option.some.inj e, Nat.mul_one, Go.WideShapes.add_plain]⟩⟩
      obtain ⟨g, o, e, hg, hc3⟩ := hba (by omega)
      cases e
      refine ⟨g, o + q, by rw [Nat.mul_one, Go.WideShapes.add_plain], hg, fun i x hx => ?_⟩
      rw [List.getElem?_drop] at hx
      rw [Nat.add_assoc]
      exact hc3 _ _ hx

set_option maxRecDepth 100000 in
set_option maxHeartbeats 2000000 in
theorem pays1_in (m : Nat) (hm : 1 ≤ m) (l B0 : Nat) (w : World) (B p : Nat) (va0 : Value) (r0 : Rd) (b : Bs) (hr0 : r0.g.length + b.length ≤ 4398046511104) (Bk : World → Prop) (hBk : Hid (∀ U V, Bk U → KeepsFrom B0 U V → Bk V))
    (hY : ∀ s' ps pay g row vs va W, Fed r0 b Rd.zero s' (ps ++ [pay]) → RdJ w B p va0 s' Rd.zero ps W row vs va → PayB W B (.slice (some ⟨g, 4, none⟩) pay.length pay.length) pay → (∀ v ∈ vs, v.ownBlock ≠ some g) → (va0.ownBlock = some g ∨ w.heap.size + 3 ≤ g) → va.ownBlock = none → Bk W →
      YieldAt Fence.wide (m - 1) Try.prog l #[.slice (some ⟨g, 4, none⟩) pay.length pay.length] W fun e W' => e = .returned (.bool true) ∧ (∃ row vs va, RdJ w B p va0 s' Rd.zero (ps ++ [pay]) W' row vs va) ∧ Bk W')
    (W : World) (h0 : Jr w B p va0 r0 b W) (hk0 : Bk W) :
    CallsIn Fence.wide m Try.prog 72 #[.func (.yield l) #[] #[], .pointer (some ⟨w.heap.size + 2, 0, none⟩), .pointer (some ⟨w.heap.size + 1, 0, none⟩)] W fun e W' => (∃ v, e = .returned v) ∧
      (∃ s row vs va, RdJ w B p va0 s (r0.put b).2 (r0.put b).1 W' row vs va) ∧ Bk W' := by
  refine callsIn_of_wp Try.func72 rfl trivial ?_ rfl
  simp only [Try.ntmps72, List.size_toArray, List.length_cons, List.length_nil, Nat.reduceAdd, Nat.reduceSub, Array.replicate_succ, Array.replicate_zero, List.push_toArray, List.append_toArray, List.nil_append, List.cons_append]
  have HY := hid hY
  clear hY
  gi_wp2
  gi_loopw [4] (fun _ wr => Jr w B p va0 r0 b wr ∧ Bk wr) (fun _ wr => lenIn wr (w.heap.size + 2))
  case atStart => exact ⟨h0, hk0⟩
  case round =>
    obtain ⟨⟨s, r, ps, row, vs, va, hfed, hj⟩, hk⟩ := hrel
    have HK := hid hk
    have HF := hid hfed
    have HJ := hid hj
    obtain ⟨ad, cp, hbx, hba, hc1, hc2, hav⟩ := hj.left
    have x0 := hbx.cell
    have x1 := hj.b1.cell
    obtain ⟨y0, y1, f0, f1⟩ := hj.rd.cells
    have HBX := hid hbx
    have HBA := hid hba
    have HAV := hid hav
    clear hfed hj hk hbx hba hav
    by_cases hs : s.length = 0
    · have hnl : s = [] := List.eq_nil_of_length_eq_zero hs
      subst hnl
      have x0' : wr.cell? ⟨w.heap.size + 2, 0, none⟩ = some (.slice ad 0 cp) := x0
      clear x0
      gi_wp2
      go_end0
      rw [HF.out.ends]
      exact ⟨⟨_, rfl⟩, ⟨_, row, vs, va, HJ.out⟩, HK.out⟩
    · cases hb : r.broken with
      | true =>
        rw [hb] at y1
        gi_wp2
        go_end0
        rw [HF.out.broken hb]
        exact ⟨⟨_, rfl⟩, ⟨_, row, vs, va, HJ.out⟩, HK.out⟩
      | false =>
        rw [hb] at y1
        obtain ⟨gt, rb⟩ := r
        obtain rfl : rb = false := hb
        have HOK := hid HF.out.ok
        obtain ⟨hm1, hm2⟩ := missing_pos HOK.out
        have HMI := hid (fun k => missing_any B p va ⟨gt, false⟩ (wr.drewN k) (HJ.out.rd.drewN k) HOK.out)
        obtain ⟨n, hn⟩ : ∃ n, min (Rd.mk gt false).missing s.length = n := ⟨_, rfl⟩
        have hn1 : 1 ≤ n := by omega
        have hn2 : n ≤ s.length := by omega
        have hn3 : n ≤ (Rd.mk gt false).missing := by omega
        have HN := hid hn
        clear hn
        gi_wp2
        gi_cut [4] from 7 (fun u wx => u = .int .i64 (n : Nat) ∧ ∃ k, wx = wr.drewN k)
        case first =>
          have HMI1 := hid (HMI.out 1)
          first
          | gi_region_with (
              refine ⟨trivial, ?_⟩
              gi_at_call 20
              refine (callsIn_wide.2 HMI1.out).mono ?_
              rintro e w3 ⟨rfl, m3, rfl⟩
              have z0 : ((wr.drewN 1).drewN m3).cell? ⟨w.heap.size + 2, 0, none⟩ = some (.slice ad s.length cp) := x0)
          | fail
          all_goals gi_wp2
          all_goals
            gi_meet
            have h9 := HN.out
            exact ⟨congrArg (Value.int .i64) (by omega), 1 + m3, rfl⟩
        case rest =>
          obtain ⟨rfl, k, hwc⟩ := hcut
          have HJ2 : Hid (RdJ w B p va0 s ⟨gt, false⟩ ps wc row vs va) := hid (by rw [hwc]; exact HJ.out.drewN k)
          have HK2 : Hid (Bk wc) := hid (by rw [hwc]; exact hBk.out _ _ HK.out (keeps_drewN B0 wr k))
          have HBA2 : Hid (BAt wc w.heap.size ad s) := hid (by rw [hwc]; exact HBA.out)
          have HMS : Hid (lenIn wr (w.heap.size + 2) = s.length) := hid (lenIn_boxed HBX.out)
          have x0' : wc.cell? ⟨w.heap.size + 2, 0, none⟩ = some (.slice ad s.length cp) := by rw [hwc]; exact x0
          have x1' : wc.cell? ⟨w.heap.size + 1, 0, none⟩ = some (.pointer (some ⟨p, 0, none⟩)) := by rw [hwc]; exact x1
          clear hwc x0 x1 y0 y1 f0 f1 HJ HK HBA HBX HMI
          obtain ⟨y0, y1, f0, f1⟩ := HJ2.out.rd.cells
          obtain ⟨sa, sc, hsv, _, _⟩ := HJ2.out.rd.slice
          dsimp only at hsv
          obtain ⟨g0, o0, rfl, hg0, hc0⟩ := HBA2.out (by omega)
          have HC0 := hid hc0
          have hgl := HOK.out.left
          dsimp only at hgl
          have hsz := HJ2.out.size
          have hbn := HJ2.out.bn
          have htl : (s.take n).length = n := by rw [List.length_take]; omega
          have HTL := hid htl
          obtain ⟨g5, c5, w5, hrun, hown5, hgrow5, hat5⟩ := gather_run wc.drew B (Nat.le_trans hbn (Nat.le_trans (by omega) hsz)) va gt.length (gt.map bv) HJ2.out.rd.own (s.take n) (by omega) (by omega) ⟨g0, o0, none⟩ n cp htl.symm (news_of (fun i x hx => by
            rw [List.getElem?_take] at hx
            split at hx
            · exact hc0 i x hx
            · cases hx))
          obtain ⟨hp5, hj5⟩ := RdJ.gather (W := wc.drew) (HJ2.out.drewN 1) rfl hown5 hgrow5 hat5
          have HJ5 := hid hj5
          have z0 : w5.cell? ⟨p, 0, none⟩ = some va := by simp [World.cell?, hp5]
          have z1 : w5.frozen? ⟨p, 0, none⟩ = false := by simp [World.frozen?, hp5]
          have HP5 := hid hp5
          have z2 : w5.cell? ⟨w.heap.size + 1, 0, none⟩ = some (.pointer (some ⟨p, 0, none⟩)) := (World.cell?_of_block (a := ⟨w.heap.size + 1, 0, none⟩) (hgrow5.block (w.heap.size + 1) (by show w.heap.size + 1 < wc.heap.size; omega) (fun e => ((HJ2.out.apart.1 _ e.symm).2.2.2.1 rfl)))).trans x1'
          subst hsv
          have hcp0 : ¬ cp = 0 := by omega
          have hgp : w5.heap.size ≥ wc.heap.size := hgrow5.size
          have HKF : Hid (KeepsFrom B0 wc (w5.setCell ⟨p, 0, none⟩ (.slice (some ⟨g5, 0, none⟩) (gt.length + n) c5))) := hid (((keeps_drewN B0 wc 1).trans ((KeepsOthers.of_grownBy hgrow5 (fun j o ej hj => by
            rcases HJ2.out.rd.own.2 with ⟨h1, _⟩ | ⟨g, cap, cur, h1, _, hgb, _⟩
            · rw [h1] at ej; simp [Value.ownBlock] at ej
            · rw [h1] at ej
              obtain rfl : g = j := by simpa [Value.ownBlock] using ej
              have hj' : wc.heap[g]? = some o := hj
              rw [hgb] at hj'
              cases hj'; rfl)).from B0)).trans (keeps_set B0 _ _ _))
          clear hc0 hown5 hgrow5 hat5 hj5 htl
          gi_wp2
          gi_cut [4] from 7 (fun u wx => u = .int .i64 (n : Nat) ∧ wx = w5.setCell ⟨p, 0, none⟩ (.slice (some ⟨g5, 0, none⟩) (gt.length + n) c5))
          case first =>
            first
            | gi_region_with (fail)
            | fail
            all_goals gi_wp2
            all_goals
              gi_meet
              exact ⟨rfl, rfl⟩
          case rest =>
            obtain ⟨rfl, hw6⟩ := hcut
            have hj6 := HJ5.out
            have hk6 := hBk.out _ _ HK2.out HKF.out
            rw [← hw6] at hj6 hk6
            clear hw6 HJ5 HKF hrun z0 z1 z2 x0' x1' y0 y1 f0 f1 hp5 HP5 HJ2 HK2 HBA2 HC0 hgp hc1 hc2 hcp0 HAV
            obtain ⟨ad6, cp6, hbx6, hba6, hd1, hd2, hav6⟩ := hj6.left
            obtain ⟨ad7, cp7, hsl, hba7, hd3, hd4, hav7⟩ := slice_from ad6 cp6 n s hn2 hd1 hba6
            have hj7 := RdJ.rest (s' := s.drop n) hj6 hba7 hd3 (by omega) (fun h0 x e => by
              obtain ⟨y, e2, e3⟩ := hav7 h0 x e
              rw [e3]
              exact hav6 (by rw [List.length_drop] at h0; omega) y e2)
            have hk7 := hBk.out _ _ hk6 (keeps_set B0 _ ⟨w.heap.size + 2, 0, none⟩ (.slice ad7 (s.drop n).length cp7))
            have hdl : (s.drop n).length = s.length - n := List.length_drop
            rw [hdl] at hj7 hk7 hsl hd3
            have HJ7 := hid hj7
            have HK7 := hid hk7
            have b0 := hbx6.cell
            have b1 := hbx6.frozen
            have b2 := hj6.b1.cell
            have HDL := hid hdl
            obtain ⟨c0, c1, e0, e1⟩ := hj7.rd.cells
            obtain ⟨sa7, sc7, hsv7, hba8, hsp8⟩ := hj7.rd.slice
            dsimp only at hsv7 hba8 hsp8
            have hgl7 : (gt ++ s.take n).length = gt.length + n := by rw [List.length_append, HTL.out]
            have HGL := hid hgl7
            injection hsv7 with ea _ ec
            obtain ⟨g7, eg7, hg7b, hg7l, hg7p, hg7c, hg7m⟩ := hsp8 (by omega)
            rw [← ea] at eg7
            obtain rfl : g5 = g7 := by cases eg7; rfl
            subst ec
            rw [← ea] at hba8
            clear hbx6 hba6 hav6 hba7 hav7 hj6 hk6 hj7 hk7 hdl hsp8 ea eg7
            have hfs := HF.out.size
            have hfa := HF.out.all
            dsimp only at hfs
            have hm7 : c5 ≤ 9223372036854775807 := by unfold maxLen at hg7m; omega
            clear hg7m hg7p hg7b hg7l c1
            rw [← hgl7] at c0
            cases hwh : whole (gt ++ s.take n) with
            | true =>
              obtain ⟨hlen, hput⟩ := step_whole HOK.out n hn2 hn3 hwh
              have hu1 := (whole_iff.1 hwh).2.1.1
              have HT := hid (tell_whole p g5 c5 (gt ++ s.take n) _ c0 e0 (hid hba8) (by omega) hg7c hm7 hwh hlen)
              have HJ8 := hid (fun m1 => RdJ.emptied (HJ7.out.drewN m1) rfl)
              have HP8 := hid (fun m1 => RdJ.payload (HJ7.out.drewN m1) (q := g5) (c := c5) (u := num4 (gt ++ s.take n)) (by rw [hgl7]) hlen)
              have HK8 := hid (fun m1 => hBk.out _ _ (hBk.out _ _ HK7.out (keeps_drewN B0 _ m1)) (keeps_set B0 _ ⟨p, 0, none⟩ (.slice none 0 0)))
              have hpl : ((gt ++ s.take n).drop 4).length = num4 (gt ++ s.take n) := by rw [List.length_drop]; omega
              have HF8 : Hid (Fed r0 b Rd.zero (s.drop n) (ps ++ [(gt ++ s.take n).drop 4])) := hid ⟨Rd.zero_ok, by rw [hfa, hput]; simp, by
                rw [List.length_append, List.length_singleton, HDL.out]
                show 5 * (ps.length + 1) + 0 + (s.length - n) ≤ _
                omega⟩
              have HAL := hid HJ7.out.alone
              have HVL := hid (HJ7.out.vlow g5 rfl)
              clear hba8 hwh hput hlen hfa c0 e0 e1 hgl7
              obtain ⟨u, hu⟩ : ∃ u, num4 (gt ++ s.take n) = u := ⟨_, rfl⟩
              rw [hu] at HT HP8 hpl hu1
              have HPL := hid hpl
              clear hu hpl
              gi_wp2
              refine ⟨trivial, ?_⟩
              refine (callsIn_wide.2 HT.out).mono ?_
              rintro e w8 ⟨rfl, m1, rfl⟩
              have HR := HY.out (s.drop n) ps ((gt ++ s.take n).drop 4) g5 row vs _ _ HF8.out (HJ8.out m1) (by rw [HPL.out]; exact HP8.out m1) (fun v hv => HAL.out v hv) HVL.out rfl (HK8.out m1)
              rw [HPL.out] at HR
              obtain ⟨fn, tmps, assign, body, hy, hR⟩ := HR
              clear b0 b1 b2 hsl HT
              gi_wp2
              refine hR.mono ?_
              rintro e W9 ⟨rfl, ⟨row9, vs9, va9, hj9⟩, hk9⟩
              have HJ9 := hid hj9
              have HK9 := hid hk9
              clear hj9 hk9 hy hR
              gi_wp2
              refine ⟨⟨⟨_, _, _, _, _, _, HF8.out, HJ9.out⟩, HK9.out⟩, ?_⟩
              obtain ⟨ad9, cp9, hb9, _⟩ := HJ9.out.left
              rw [HMS.out, lenIn_boxed hb9, HDL.out]
              omega
            | false =>
              cases hbd : bad (gt ++ s.take n) with
              | true =>
                have hput := step_bad HOK.out n hn2 hn3 hbd
                have HT := hid (tell_bad p c5 _ (gt ++ s.take n) false _ c0 HJ7.out.rd.cells.2.1 e0 e1 (hid hba8) (by omega) hbd)
                have HJ8 := hid (fun m1 => RdJ.broke (HJ7.out.drewN m1))
                have HK8 := hid (fun m1 => hBk.out _ _ (hBk.out _ _ (hBk.out _ _ HK7.out (keeps_drewN B0 _ m1)) (keeps_set B0 _ ⟨p, 0, none⟩ (.slice none 0 0))) (keeps_set B0 _ ⟨p, 1, none⟩ (.bool true)))
                have HF8 : Hid (Fed r0 b ⟨[], true⟩ (s.drop n) ps) := hid ⟨⟨fun _ => rfl, whole_nil, bad_nil⟩, by rw [hfa, hput, Rd.put_broken rfl], by
                  rw [HDL.out]
                  show 5 * ps.length + 0 + (s.length - n) ≤ _
                  omega⟩
                clear hba8 hwh hbd hput hfa c0 e0 e1 hgl7
                gi_wp2
                refine ⟨trivial, ?_⟩
                refine (callsIn_wide.2 HT.out).mono ?_
                rintro e w8 ⟨rfl, m1, rfl⟩
                clear b0 b1 b2 hsl HT
                gi_wp2
                refine ⟨fun _ h => (by cases h), ?_⟩
                gi_wp2
                refine ⟨⟨⟨_, _, _, _, _, _, HF8.out, HJ8.out m1⟩, HK8.out m1⟩, ?_⟩
                obtain ⟨ad9, cp9, hb9, _⟩ := (HJ8.out m1).left
                rw [HMS.out, lenIn_boxed hb9, HDL.out]
                omega
              | false =>
                obtain ⟨hok8, hput⟩ := step_on HOK.out n hn2 hn3 hwh hbd
                have HT := hid (tell_on p c5 _ (gt ++ s.take n) _ c0 (hid hba8) (by omega) hwh hbd)
                have HJ8 := hid (fun m1 => HJ7.out.drewN m1)
                have HK8 := hid (fun m1 => hBk.out _ _ HK7.out (keeps_drewN B0 _ m1))
                have HF8 : Hid (Fed r0 b ⟨gt ++ s.take n, false⟩ (s.drop n) ps) := hid ⟨hok8, by rw [hfa, hput], by
                  rw [HDL.out]
                  show 5 * ps.length + (gt ++ s.take n).length + (s.length - n) ≤ _
                  omega⟩
                clear hba8 hwh hbd hput hfa c0 e0 e1 hgl7 hok8
                gi_wp2
                refine ⟨trivial, ?_⟩
                refine (callsIn_wide.2 HT.out).mono ?_
                rintro e w8 ⟨rfl, m1, rfl⟩
                clear b0 b1 b2 hsl HT
                gi_wp2
                refine ⟨fun _ h => (by cases h), ?_⟩
                gi_wp2
                refine ⟨⟨⟨_, _, _, _, _, _, HF8.out, HJ8.out m1⟩, HK8.out m1⟩, ?_⟩
                obtain ⟨ad9, cp9, hb9, _⟩ := (HJ8.out m1).left
                rw [HMS.out, lenIn_boxed hb9, HDL.out]
                omega

end Go.Proofs.Ythmcfnbnafdkeaa.FrmV
