/- The payloads of whole frames, gone through as they lie. -/
import Derived.Test.YthmcfnbnafdkeaaFrmA
import Derived.Test.YthmcfnbnafdkeaaFrmB
namespace Go.Proofs.Ythmcfnbnafdkeaa.FrmC
open Go.ChangeShapes Go.WideShapes Go.ChangeAt Go.RowKit Base Wri FrmP FrmA FrmB
open Go.Shelf
set_option linter.unusedVariables false
set_option linter.unusedSimpArgs false
attribute [local go_sem] Oper.semAt_some

theorem whole_isz {s : Bs} : whole s = (isz s && decide (4 + num4 s ≤ s.length)) := rfl
theorem isz_iff {s : Bs} : isz s = true ↔ 4 ≤ s.length ∧ ok4 s = true := by simp [isz]

theorem whole_any (a : Option Addr) (n cap : Nat) (w : World) :
    Calls Try.prog 70 #[.slice a n cap] w fun e w' => e = .returned (.func (Fn.func 87) #[] #[.pointer (some ⟨w.heap.size, 0, none⟩)]) ∧ w.alloc (.cells #[.slice a n cap] 28) = w' := by
  go_enter Try.func70, Try.ntmps70
  go_wp2_with fail
  go_ret
  exact ⟨rfl, rfl⟩

/-- a box that holds a list of bytes, which lies below n0 -/
def BoxS (W : World) (B1 n0 : Nat) (s : Bs) : Prop := n0 ≤ W.heap.size ∧ ∃ ad cp, Boxed W B1 28 (.slice ad s.length cp) ∧ BAt W n0 ad s ∧ s.length ≤ cp ∧ cp ≤ 9223372036854775807

/-- what is left in a box -/
def lenIn (W : World) (B1 : Nat) : Nat := match W.cell? ⟨B1, 0, none⟩ with
  | some (.slice _ n _) => n
  | _ => 0
theorem lenIn_boxed {W : World} {B1 : Nat} {t : TypeId} {ad : Option Addr} {n cp : Nat} (h : Boxed W B1 t (.slice ad n cp)) : lenIn W B1 = n := by unfold lenIn; rw [h.cell]

structure Feed (b : Bs) (B1 n0 : Nat) (J Jb : Nat → World → Prop) : Prop where
  box : ∀ p W, J p W → BoxS W B1 n0 (b.drop p)
  drew : ∀ p W m, J p W → J p (W.drewN m)
  boxb : ∀ p W, Jb p W → BoxS W B1 n0 (b.drop p)
  step : ∀ p W ad cp, Jb p W → BAt W n0 ad (b.drop (p + (4 + num4 (b.drop p)))) → (b.drop (p + (4 + num4 (b.drop p)))).length ≤ cp → cp ≤ 9223372036854775807 →
    J (p + (4 + num4 (b.drop p))) (W.setCell ⟨B1, 0, none⟩ (.slice ad (b.drop (p + (4 + num4 (b.drop p)))).length cp))

theorem keeps_drewN (B : Nat) (W : World) (m : Nat) : KeepsFrom B W (W.drewN m) := ⟨Nat.le_refl _, fun _ _ _ h _ => h⟩
theorem keeps_set (B : Nat) (W : World) (a : Addr) (v : Value) : KeepsFrom B W (W.setCell a v) := (KeepsOthers.setCell W a v).from B

set_option maxRecDepth 100000 in
set_option maxHeartbeats 2000000 in
theorem whole1_in (m : Nat) (hm : 1 ≤ m) (l B1 n0 B0 : Nat) (b : Bs) (J Jb : Nat → World → Prop) (Bk : World → Prop) (HF : Hid (Feed b B1 n0 J Jb)) (hBk : Hid (∀ U V, Bk U → KeepsFrom B0 U V → Bk V))
    (hY : ∀ p g o W, J p W → whole (b.drop p) = true → g < n0 → (∀ i y, (b.drop p)[i]? = some y → W.cell? ⟨g, o + i, none⟩ = some (bv y)) → Bk W →
      YieldAt Fence.wide (m - 1) Try.prog l #[.slice (some ⟨g, o + 4, none⟩) (num4 (b.drop p)) (num4 (b.drop p))] W fun e W' => e = .returned (.bool true) ∧ Jb p W' ∧ Bk W')
    (W : World) (h0 : J 0 W) (hk0 : Bk W) :
    CallsIn Fence.wide m Try.prog 87 #[.func (.yield l) #[] #[], .pointer (some ⟨B1, 0, none⟩)] W fun e W' => (∃ v, e = .returned v) ∧ (∃ p, J p W' ∧ whole (b.drop p) = false) ∧ Bk W' := by
  refine callsIn_of_wp Try.func87 rfl trivial ?_ rfl
  simp only [Try.ntmps87, List.size_toArray, List.length_cons, List.length_nil, Nat.reduceAdd, Nat.reduceSub, Array.replicate_succ, Array.replicate_zero, List.push_toArray, List.append_toArray, List.nil_append, List.cons_append]
  have HY := hid hY
  clear hY
  gi_wp2
  gi_loopw [3] (fun _ wr => ∃ p : Nat, J p wr ∧ Bk wr) (fun _ wr => lenIn wr B1)
  case atStart => exact ⟨0, h0, hk0⟩
  case round =>
    obtain ⟨p, hj, hk⟩ := hrel
    have HJ := hid hj
    have HK := hid hk
    clear hj hk
    obtain ⟨hn, ad, cp, hbx, hba, hc1, hc2⟩ := HF.out.box p wr HJ.out
    have HBA := hid (hba.mono hn)
    have HBX2 := hid hba
    have HBX := hid hbx
    have x0 := hbx.cell
    have x1 := hbx.frozen
    have hlen : (b.drop p).length ≤ 9223372036854775807 := by omega
    clear hba hbx
    cases hz : isz (b.drop p) with
    | false =>
      have HC := hid (sizeOf_no ad cp (b.drop p) wr hlen HBA hz)
      have HW : Hid (whole (b.drop p) = false) := hid (by rw [whole_isz, hz]; rfl)
      clear hz
      generalize (b.drop p).length = n at *
      gi_wp2
      refine ⟨trivial, ?_⟩
      refine (callsIn_wide.2 HC.out).mono ?_
      rintro e w1 ⟨rfl, m1, rfl⟩
      have HJ2 := hid (HF.out.drew p wr m1 HJ.out)
      have HK2 := hid (hBk.out _ _ HK.out (keeps_drewN B0 wr m1))
      clear HC
      have y0 : (wr.drewN m1).cell? ⟨B1, 0, none⟩ = some (.slice ad n cp) := x0
      clear x0 x1
      gi_wp2
      refine ⟨trivial, ?_⟩
      gi_wp2
      refine ⟨fun _ h => (by cases h), ?_⟩
      gi_wp2
      refine bodyPost_ret (results_none rfl _ _ _) rfl ?_
      exact ⟨⟨_, rfl⟩, ⟨p, HJ2.out, HW.out⟩, HK2.out⟩
    | true =>
      obtain ⟨h4, hok⟩ := isz_iff.1 hz
      have HC := hid (sizeOf_yes ad cp (b.drop p) wr hlen HBA h4 hok)
      by_cases hw : 4 + num4 (b.drop p) ≤ (b.drop p).length
      · have HW : Hid (whole (b.drop p) = true) := hid (by rw [whole_isz, hz]; simpa using hw)
        obtain ⟨g, o, rfl, hg, hcells⟩ := HBX2.out (by omega)
        have HCL := hid hcells
        have h5 := (ok4_iff.1 hok).1
        clear hz hok hcells
        obtain ⟨z, hu⟩ : ∃ z, 4 + num4 (b.drop p) = z := ⟨_, rfl⟩
        have hu2 : num4 (b.drop p) = z - 4 := by omega
        rw [hu] at HC hw
        have HU := hid hu
        have HCUT := hid (cut_any g o (b.drop p).length cp z)
        have HLN : Hid ((b.drop (p + z)).length = (b.drop p).length - z) := hid (by simp; omega)
        have HDR : Hid (b.drop (p + z) = (b.drop p).drop z) := hid (by rw [List.drop_drop])
        obtain ⟨n, hln⟩ : ∃ n, (b.drop p).length = n := ⟨_, rfl⟩
        have HL := hid hln
        rw [hln] at HC hw HCUT HLN hc1 hlen x0 HBX h4
        clear hln hu
        have HMS : Hid (lenIn wr B1 = n) := hid (lenIn_boxed HBX.out)
        gi_wp2
        refine ⟨trivial, ?_⟩
        refine (callsIn_wide.2 HC.out).mono ?_
        rintro e w1 ⟨rfl, m1, rfl⟩
        have HJ2 := hid (HF.out.drew p wr m1 HJ.out)
        have HK2 := hid (hBk.out _ _ HK.out (keeps_drewN B0 wr m1))
        have HR := HY.out p g o (wr.drewN m1) HJ2.out HW.out hg HCL.out HK2.out
        rw [hu2] at HR
        obtain ⟨fn, tmps, assign, body, hy, hR⟩ := HR
        have y0 : (wr.drewN m1).cell? ⟨B1, 0, none⟩ = some (.slice (some ⟨g, o, none⟩) n cp) := x0
        have hgt : ¬ n < z := by omega
        clear x0 x1 HC
        gi_wp2
        refine ⟨trivial, ?_⟩
        refine (callsIn_wide.2 (HCUT.out _ (by omega) (by omega) (by omega))).mono ?_
        rintro e w1 ⟨rfl, rfl⟩
        gi_wp2
        refine hR.mono ?_
        rintro e W3 ⟨rfl, hJ3, hK3⟩
        have HJ3 := hid hJ3
        have HK3 := hid hK3
        clear hJ3 hK3 hy hR y0 HBX
        obtain ⟨hn3, ad3, cp3, hbx3, hba3, hd1, hd2⟩ := HF.out.boxb p W3 HJ3.out
        rw [HL.out] at hbx3 hd1
        have HBX3 := hid hbx3
        have z0 := hbx3.cell
        have z1 := hbx3.frozen
        obtain ⟨g3, o3, rfl, hg3, hc3⟩ := hba3 (by rw [HL.out]; omega)
        have HC3 := hid hc3
        clear hbx3 hba3 hc3
        have HST := hid (HF.out.step p W3)
        rw [HU.out, HLN.out] at HST
        by_cases hcz : cp3 = z
        · obtain rfl : n = z := by omega
          subst hcz
          have HNX := hid (HST.out (some ⟨g3, o3, none⟩) 0 HJ3.out (fun h0 => by rw [HLN.out] at h0; omega) (by omega) (by omega))
          gi_wp2
          refine ⟨⟨p + cp3, ?_, ?_⟩, ?_⟩
          · simpa using HNX.out
          · exact hBk.out _ _ HK3.out (keeps_set B0 W3 _ _)
          · rw [HMS.out, lenIn_boxed (HBX3.out.set _)]; omega
        · have HNX := hid (HST.out (some ⟨g3, o3 + z, none⟩) (cp3 - z) HJ3.out (fun h0 => ⟨g3, o3 + z, rfl, hg3, fun i x hx => by
            rw [HDR.out, List.getElem?_drop] at hx
            rw [Nat.add_assoc]
            exact HC3.out (z + i) x hx⟩) (by omega) (by omega))
          have hne : ¬ cp3 - z = 0 := by omega
          gi_wp2
          refine ⟨⟨p + z, ?_, ?_⟩, ?_⟩
          · exact HNX.out
          · exact hBk.out _ _ HK3.out (keeps_set B0 W3 _ _)
          · rw [HMS.out, lenIn_boxed (HBX3.out.set _)]; omega
      · have HW : Hid (whole (b.drop p) = false) := hid (by rw [whole_isz, hz]; simpa using hw)
        clear hz hok
        generalize (b.drop p).length = n at *
        obtain ⟨u, hu⟩ : ∃ u, 4 + num4 (b.drop p) = u := ⟨_, rfl⟩
        rw [hu] at HC hw
        clear hu
        gi_wp2
        refine ⟨trivial, ?_⟩
        refine (callsIn_wide.2 HC.out).mono ?_
        rintro e w1 ⟨rfl, m1, rfl⟩
        have HJ2 := hid (HF.out.drew p wr m1 HJ.out)
        have HK2 := hid (hBk.out _ _ HK.out (keeps_drewN B0 wr m1))
        clear HC
        have y0 : (wr.drewN m1).cell? ⟨B1, 0, none⟩ = some (.slice ad n cp) := x0
        have hgt : n < u := by omega
        clear x0 x1 hw
        gi_wp2
        refine ⟨trivial, ?_⟩
        gi_wp2
        refine ⟨fun _ h => (by cases h), ?_⟩
        gi_wp2
        refine bodyPost_ret (results_none rfl _ _ _) rfl ?_
        exact ⟨⟨_, rfl⟩, ⟨p, HJ2.out, HW.out⟩, HK2.out⟩

end Go.Proofs.Ythmcfnbnafdkeaa.FrmC
