/- whatever the calls, a cluster node's sums are those of the nodes below it, and the whole's are those of the clusters when all calls come from outside -/
import Derived.Test.YtnloedhcginopaaTreMb
import Derived.Test.YtnloedhcginopaaTreMs
import Derived.Test.YtnloedhcginopaaRows
import Derived.WalkKit
import Derived.ProofKit
import Derived.OpenShut
import Derived.ShutString
import Derived.ChangeOld
import Derived.Below
import Derived.SizedLaws
import Derived.ChangeShapes
import Derived.Test.YtnloedhcginopaaOpn

/- TreeSums: the law's walk. -/
namespace Go.Proofs.Ytnloedhcginopaa.TreSo
set_option linter.unusedVariables false
open Go.ChangeShapes Go.WideShapes Go.ChangeAt Go.RowKit Go.Deep Base Wri Map Opn TreA TreB TreC TreD TreE TreF TreG TreH TreJ TreK TreL TreP TreQ TreR TreS TreT TreV TreW TreX TreY TreWa TreWb TreZ TreAa TreAb TreAc TreAd TreAe TreAf TreAg TreAh TreBx TreSg TreSh TreSi TreSm TreSn WinM WinA WinB WinC WinD WinE WinF WinG WinH WinI WinJ WinK WinN StaA StaB StaC StaD

/-- the counts of a sum lie in a box -/
def Boxed (wr : World) (J : Cnt) (n1 : Int) (s1 s2 s3 : Value) (wx : World) : Prop := ∃ bx, s1 = .pointer (some ⟨bx, 0, none⟩) ∧ s2 = .int .i64 n1 ∧ s3 = .int .i64 0 ∧ wx.heap[bx]? = some (.cells (cl J) 32) ∧ Below wr.heap.size wr wx

theorem boxed_new {wA wr : World} {J1 J2 J3 J4 J5 J6 n1 : Int} (hb : Below wr.heap.size wr wA) : Boxed wr ⟨J1, J2, J3, J4, J5, J6⟩ n1 (.pointer (some ⟨wA.heap.size, 0, none⟩)) (.int .i64 n1) (.int .i64 0) (wA.alloc (.cells #[.int .i64 J1, .int .i64 J2, .int .i64 J3, .int .i64 J4, .int .i64 J5, .int .i64 J6] 32)) := box_new hb
theorem boxed_end {wA wr : World} {b : Nat} {J1 J2 J3 J4 J5 J6 n1 : Int} (hz : wA.heap[b]? = some (.cells (cl zeroC) 32)) (hb : Below wr.heap.size wr wA) (hle : wr.heap.size ≤ b) : Boxed wr ⟨J1, J2, J3, J4, J5, J6⟩ n1 (.pointer (some ⟨b, 0, none⟩)) (.int .i64 n1) (.int .i64 0) ((((((wA.setCell ⟨b, 0, none⟩ (.int .i64 J1)).setCell ⟨b, 1, none⟩ (.int .i64 J2)).setCell ⟨b, 2, none⟩ (.int .i64 J3)).setCell ⟨b, 3, none⟩ (.int .i64 J4)).setCell ⟨b, 4, none⟩ (.int .i64 J5)).setCell ⟨b, 5, none⟩ (.int .i64 J6)) := box_end hz hb hle
theorem boxed_end0 {wA wr : World} {J1 J2 J3 J4 J5 J6 n1 : Int} (hz : wA.heap[wr.heap.size]? = some (.cells (cl zeroC) 32)) (hb : Below wr.heap.size wr wA) : Boxed wr ⟨J1, J2, J3, J4, J5, J6⟩ n1 (.pointer (some ⟨wr.heap.size, 0, none⟩)) (.int .i64 n1) (.int .i64 0) ((((((wA.setCell ⟨wr.heap.size, 0, none⟩ (.int .i64 J1)).setCell ⟨wr.heap.size, 1, none⟩ (.int .i64 J2)).setCell ⟨wr.heap.size, 2, none⟩ (.int .i64 J3)).setCell ⟨wr.heap.size, 3, none⟩ (.int .i64 J4)).setCell ⟨wr.heap.size, 4, none⟩ (.int .i64 J5)).setCell ⟨wr.heap.size, 5, none⟩ (.int .i64 J6)) := box_end hz hb (by omega)
theorem boxed_end1 {wA wr : World} {J1 J2 J3 J4 J5 J6 n1 : Int} (hz : wA.heap[wr.heap.size + 1]? = some (.cells (cl zeroC) 32)) (hb : Below wr.heap.size wr wA) : Boxed wr ⟨J1, J2, J3, J4, J5, J6⟩ n1 (.pointer (some ⟨wr.heap.size + 1, 0, none⟩)) (.int .i64 n1) (.int .i64 0) ((((((wA.setCell ⟨wr.heap.size + 1, 0, none⟩ (.int .i64 J1)).setCell ⟨wr.heap.size + 1, 1, none⟩ (.int .i64 J2)).setCell ⟨wr.heap.size + 1, 2, none⟩ (.int .i64 J3)).setCell ⟨wr.heap.size + 1, 3, none⟩ (.int .i64 J4)).setCell ⟨wr.heap.size + 1, 4, none⟩ (.int .i64 J5)).setCell ⟨wr.heap.size + 1, 5, none⟩ (.int .i64 J6)) := box_end hz hb (by omega)
theorem boxed_end2 {wA wO wr : World} {J1 J2 J3 J4 J5 J6 n1 : Int} (hz : wA.heap[wO.heap.size]? = some (.cells (cl zeroC) 32)) (hb : Below wr.heap.size wr wA) (ho : Below wr.heap.size wr wO) : Boxed wr ⟨J1, J2, J3, J4, J5, J6⟩ n1 (.pointer (some ⟨wO.heap.size, 0, none⟩)) (.int .i64 n1) (.int .i64 0) ((((((wA.setCell ⟨wO.heap.size, 0, none⟩ (.int .i64 J1)).setCell ⟨wO.heap.size, 1, none⟩ (.int .i64 J2)).setCell ⟨wO.heap.size, 2, none⟩ (.int .i64 J3)).setCell ⟨wO.heap.size, 3, none⟩ (.int .i64 J4)).setCell ⟨wO.heap.size, 4, none⟩ (.int .i64 J5)).setCell ⟨wO.heap.size, 5, none⟩ (.int .i64 J6)) := box_end hz hb ho.size
theorem zero_box {w w' : World} {b : Nat} (h : w.heap[b]? = some (.cells (cl zeroC) 32)) (hb : Below w.heap.size w w') : (w'.cell? ⟨b, 0, none⟩ = some (.int .i64 0) ∧ w'.cell? ⟨b, 1, none⟩ = some (.int .i64 0) ∧ w'.cell? ⟨b, 2, none⟩ = some (.int .i64 0) ∧ w'.cell? ⟨b, 3, none⟩ = some (.int .i64 0) ∧ w'.cell? ⟨b, 4, none⟩ = some (.int .i64 0) ∧ w'.cell? ⟨b, 5, none⟩ = some (.int .i64 0) ∧ w'.frozen? ⟨b, 0, none⟩ = false ∧ w'.frozen? ⟨b, 1, none⟩ = false ∧ w'.frozen? ⟨b, 2, none⟩ = false ∧ w'.frozen? ⟨b, 3, none⟩ = false ∧ w'.frozen? ⟨b, 4, none⟩ = false ∧ w'.frozen? ⟨b, 5, none⟩ = false) ∧ Hid (w'.heap[b]? = some (.cells (cl zeroC) 32)) := by
  have hz2 := (hb.block _ (Array.getElem?_eq_some_iff.1 h).1).trans h
  obtain ⟨⟨y0, y1, y2, y3, y4, y5⟩, ⟨v0, v1, v2, v3, v4, v5⟩⟩ := cl_at hz2
  simp only [Nat.zero_add, zeroC] at y0 y1 y2 y3 y4 y5 v0 v1 v2 v3 v4 v5
  exact ⟨⟨y0, y1, y2, y3, y4, y5, v0, v1, v2, v3, v4, v5⟩, hid hz2⟩

set_option maxRecDepth 100000 in
set_option maxHeartbeats 8000000 in
theorem sums_core (a : Option Addr) (n cap : Nat) (f : Nat → Dd) (w : World) (hn : n * 120 ≤ 140737488355328) (hd : DAt w a n f) (hfit : ∀ i, i < n → (f i).x.Fit) :
    Calls Try.prog 3 #[.slice a n cap] w fun e w' => e = .returned (.bool true) ∧ Below w.heap.size w w' := by
  have HD := hid (And.intro hd hfit)
  clear hd hfit
  have HL := hid live_any
  go_enter Try.func3, Try.ntmps3
  go_wp2_with fail
  refine (HL.out _).mono ?_
  rintro e w1 ⟨rfl, hb1⟩
  have HB1 := hid hb1
  have HRun := hid (run_any a n cap f w1 (by omega) (HD.out.1.below hb1) HD.out.2)
  clear hb1
  go_wp2_with fail
  refine HRun.out.mono ?_
  rintro e w2 ⟨p, own, rfl, hp, hT⟩
  have HT := hid hT
  have HA := hid (All_any p _ own w2 hT.t)
  have h512 : (runS f n).keys.length ≤ 512 := by
    obtain ⟨b, v, L, hL, hT⟩ := hT.t
    have := hT.len
    rw [← keys_ents hL, List.length_map]
    exact this
  have HSame := hid (fun x hx hk => cluster_same f n (x := x) hx hk)
  clear hT hp HRun
  generalize runS f n = s at *
  obtain ⟨ls, hls⟩ : ∃ ls, s.keys.length = ls := ⟨_, rfl⟩
  rw [hls] at HA h512
  have HLs := hid hls
  have HFits : Hid (∀ x ∈ s.keys, x.Fit) := hid HT.out.fits
  clear hls
  go_wp2_with fail
  refine HA.out.mono ?_
  rintro e w3 ⟨⟨va, vc, rfl, hrow⟩, hb3⟩
  have HT3 := hid (HT.out.below hb3)
  have HRow := hid hrow
  have HB3 := hid (HB1.out.trans (HT3.out.bel.mono HB1.out.size))
  clear hrow hb3 HA
  go_wp2_with fail
  go_loopw [5] (fun i wr => ∃ k : Nat, k ≤ ls ∧ i = .int .i64 k ∧ Below w3.heap.size w3 wr) (fun i _ => ls - (intOf i).toNat)
  case atStart => exact ⟨0, Nat.zero_le _, rfl, Below.refl _ _⟩
  case round =>
    obtain ⟨k, hk, rfl, hbz⟩ := hrel
    have HBz := hid hbz
    clear hbz
    by_cases hlt2 : k < ls
    · have hki : (k : Int) < ls := by omega
      have hki0 : (0 : Int) ≤ k := by omega
      obtain ⟨gb, rfl, -, hgb⟩ := row_shape HRow.out (by rw [HLs.out]; omega)
      have hks : k < s.keys.length := by rw [HLs.out]; exact hlt2
      have hx : s.keys[k]? = some (s.keys.getD k default) := by rw [List.getD_eq_getElem?_getD, List.getElem?_eq_getElem hks]; rfl
      have hmem : s.keys.getD k default ∈ s.keys := List.mem_of_getElem? hx
      have hfitx := HFits.out _ hmem
      obtain ⟨p0, p1, p2, p3⟩ := row_key HRow.out hx
      generalize s.keys.getD k default = x at *
      have hgb2 : gb < wr.heap.size := Nat.lt_of_lt_of_le hgb HBz.out.size
      obtain ⟨xk, xc, xr, xo⟩ := x
      dsimp only at p0 p1 p2 p3
      by_cases hk4 : xk = 4
      · subst hk4
        obtain ⟨hsame, hzero⟩ := HSame.out _ hmem rfl
        obtain ⟨⟨⟨J1, J2, J3, J4, J5, J6⟩, n1, e1⟩, hJ⟩ : ∃ z, sumS s s.last [(⟨4, xc, xr, xo⟩ : Key)] = z := ⟨_, rfl⟩
        rw [hJ] at hsame hzero
        obtain rfl : e1 = 0 := hzero
        have l1 : w3.cell? ⟨p, 2, none⟩ = some (.int .i64 s.last) := HT3.out.last
        have HKeep : Hid (∀ w', Below w3.heap.size w3 w' → w'.cell? ⟨gb, k * 4, none⟩ = some (.int .u8 4) ∧ w'.cell? ⟨gb, k * 4 + 1, none⟩ = some (.string xc) ∧ w'.cell? ⟨gb, k * 4 + 2, none⟩ = some (.string xr) ∧ w'.cell? ⟨gb, k * 4 + 3, none⟩ = some (.string xo) ∧ w'.cell? ⟨p, 2, none⟩ = some (.int .i64 s.last)) := hid fun w' hb => ⟨kcS hb p0, kcS hb p1, kcS hb p2, kcS hb p3, kcS hb l1⟩
        obtain ⟨c0, c1, c2, c3, c4⟩ := HKeep.out wr HBz.out
        have hp2 : p < wr.heap.size := Nat.lt_of_lt_of_le (World.block_lt_of_cell? _ _ l1) HBz.out.size
        have HS1 : Hid (∀ wx b, Below w3.heap.size w3 wx → wx.heap[b]? = some (.cells #[.int .u8 4, .string xc, .string xr, .string xo] 30) → Calls Try.prog 10 #[ptr p, .int .i64 s.last, .slice (some ⟨b, 0, none⟩) 1 1] wx fun e w' => e = .returned (.tuple #[.agg #[.int .i64 J1, .int .i64 J2, .int .i64 J3, .int .i64 J4, .int .i64 J5, .int .i64 J6], .int .i64 n1, .int .i64 0]) ∧ Below wx.heap.size wx w') := hid fun wx b hb hkb => by
          have := Sum_any p s own s.last (some ⟨b, 0, none⟩) 1 1 (fun _ => (⟨4, xc, xr, xo⟩ : Key)) wx (by decide) (fun _ _ => hfitx) (kat_of hkb) (HT3.out.below hb).t
          rw [show firstK (fun _ => (⟨4, xc, xr, xo⟩ : Key)) 1 = [⟨4, xc, xr, xo⟩] from rfl, hJ] at this
          exact this
        have HOf : Hid (∀ wx, Below w3.heap.size w3 wx → Calls Try.prog 12 #[ptr p, .int .u8 3, .string xr] wx fun e w' => (∃ a m c, e = .returned (.slice a m c) ∧ Hid (∀ wy, Below w'.heap.size w' wy → Calls Try.prog 10 #[ptr p, .int .i64 s.last, .slice a m c] wy fun e w' => e = .returned (.tuple #[.agg #[.int .i64 J1, .int .i64 J2, .int .i64 J3, .int .i64 J4, .int .i64 J5, .int .i64 J6], .int .i64 n1, .int .i64 0]) ∧ (w'.cell? ⟨gb, k * 4, none⟩ = some (.int .u8 4) ∧ w'.cell? ⟨gb, k * 4 + 1, none⟩ = some (.string xc) ∧ w'.cell? ⟨gb, k * 4 + 2, none⟩ = some (.string xr) ∧ w'.cell? ⟨gb, k * 4 + 3, none⟩ = some (.string xo) ∧ w'.cell? ⟨p, 2, none⟩ = some (.int .i64 s.last)) ∧ Below wy.heap.size wy w')) ∧ Below wx.heap.size wx w') := hid fun wx hb => by
          refine (Of_any p s own 3 xr wx (by decide) HFits.out (by rw [HLs.out]; omega) (HT3.out.below hb).t).mono fun e w' h => ?_
          obtain ⟨⟨a, m, c, f', rfl, hka, hff⟩, hb2⟩ := h
          refine ⟨⟨a, m, c, rfl, hid fun wy hby => ?_⟩, hb2⟩
          have hbw : Below w3.heap.size w3 wy := hb.trans ((hb2.trans (hby.mono hb2.size)).mono hb.size)
          have hm : m ≤ 512 := by
            have h1 := congrArg List.length hff
            have h2 : (firstK f' m).length = m := by unfold firstK; simp
            have h3 := List.length_filter_le (fun x => !other 3 xr x) s.keys
            rw [HLs.out] at h3
            omega
          have hfm : ∀ i, i < m → (f' i).Fit := fun i hi => by
            have h1 : f' i ∈ firstK f' m := by unfold firstK; exact List.mem_map.2 ⟨i, List.mem_range.2 hi, rfl⟩
            rw [hff] at h1
            exact HFits.out _ (List.mem_filter.1 h1).1
          have := Sum_any p s own s.last a m c f' wy (by omega) hfm (hka.below hby) (HT3.out.below hbw).t
          rw [hff, inner_other, ← hsame] at this
          exact this.mono fun e w' h => ⟨h.1, HKeep.out w' (hbw.trans (h.2.mono hbw.size)), h.2⟩
        clear p0 p1 p2 p3 l1 hmem hfitx hx hks hJ hgb hsame
        go_upto_region 9 with fail
        go_cut [6, 7, 8] from 30 to 85 (fun s1 s2 s3 wx => Boxed wr ⟨J1, J2, J3, J4, J5, J6⟩ n1 s1 s2 s3 wx)
        case first =>
          have HF0 : Hid (Calls Try.prog 10 #[ptr p, .int .i64 s.last, .slice (some ⟨wr.heap.size, 0, none⟩) 1 1] ((wr.alloc (.cells #[.int .u8 4, .string xc, .string xr, .string xo] 30)).drew) fun e w' => e = .returned (.tuple #[.agg #[.int .i64 J1, .int .i64 J2, .int .i64 J3, .int .i64 J4, .int .i64 J5, .int .i64 J6], .int .i64 n1, .int .i64 0]) ∧ (w'.cell? ⟨gb, k * 4, none⟩ = some (.int .u8 4) ∧ w'.cell? ⟨gb, k * 4 + 1, none⟩ = some (.string xc) ∧ w'.cell? ⟨gb, k * 4 + 2, none⟩ = some (.string xr) ∧ w'.cell? ⟨gb, k * 4 + 3, none⟩ = some (.string xo) ∧ w'.cell? ⟨p, 2, none⟩ = some (.int .i64 s.last)) ∧ Hid (Below wr.heap.size wr w')) := hid (by
            have hb0 : Below wr.heap.size wr ((wr.alloc (.cells #[.int .u8 4, .string xc, .string xr, .string xo] 30)).drew) := (by repeat (first | (with_reducible exact Below.refl _ _) | (with_reducible refine Below.setCell ?_ (by first | (simp; done) | (simp; omega) | omega) _) | (with_reducible refine Below.alloc ?_ (by first | (simp; done) | (simp; omega) | omega) _) | (with_reducible refine Below.drew ?_)))
            refine (HS1.out _ _ (HBz.out.trans (hb0.mono HBz.out.size)) (heap_alloc_new _ _)).mono fun e w' h => ?_
            have hb2 := hb0.trans (h.2.mono hb0.size)
            exact ⟨h.1, HKeep.out w' (HBz.out.trans (hb2.mono HBz.out.size)), hid hb2⟩)
          have HF1 : Hid (Calls Try.prog 10 #[ptr p, .int .i64 s.last, .slice (some ⟨wr.heap.size, 0, none⟩) 1 1] (((wr.alloc (.cells #[.int .u8 4, .string xc, .string xr, .string xo] 30)).alloc (.cells #[.int .i64 0, .int .i64 0, .int .i64 0, .int .i64 0, .int .i64 0, .int .i64 0] 32)).drew) fun e w' => e = .returned (.tuple #[.agg #[.int .i64 J1, .int .i64 J2, .int .i64 J3, .int .i64 J4, .int .i64 J5, .int .i64 J6], .int .i64 n1, .int .i64 0]) ∧ (w'.cell? ⟨gb, k * 4, none⟩ = some (.int .u8 4) ∧ w'.cell? ⟨gb, k * 4 + 1, none⟩ = some (.string xc) ∧ w'.cell? ⟨gb, k * 4 + 2, none⟩ = some (.string xr) ∧ w'.cell? ⟨gb, k * 4 + 3, none⟩ = some (.string xo) ∧ w'.cell? ⟨p, 2, none⟩ = some (.int .i64 s.last)) ∧ (w'.cell? ⟨wr.heap.size + 1, 0, none⟩ = some (.int .i64 0) ∧ w'.cell? ⟨wr.heap.size + 1, 1, none⟩ = some (.int .i64 0) ∧ w'.cell? ⟨wr.heap.size + 1, 2, none⟩ = some (.int .i64 0) ∧ w'.cell? ⟨wr.heap.size + 1, 3, none⟩ = some (.int .i64 0) ∧ w'.cell? ⟨wr.heap.size + 1, 4, none⟩ = some (.int .i64 0) ∧ w'.cell? ⟨wr.heap.size + 1, 5, none⟩ = some (.int .i64 0) ∧ w'.frozen? ⟨wr.heap.size + 1, 0, none⟩ = false ∧ w'.frozen? ⟨wr.heap.size + 1, 1, none⟩ = false ∧ w'.frozen? ⟨wr.heap.size + 1, 2, none⟩ = false ∧ w'.frozen? ⟨wr.heap.size + 1, 3, none⟩ = false ∧ w'.frozen? ⟨wr.heap.size + 1, 4, none⟩ = false ∧ w'.frozen? ⟨wr.heap.size + 1, 5, none⟩ = false) ∧ Hid (w'.heap[wr.heap.size + 1]? = some (.cells (cl zeroC) 32)) ∧ Hid (Below wr.heap.size wr w')) := hid (by
            have hb0 : Below wr.heap.size wr (((wr.alloc (.cells #[.int .u8 4, .string xc, .string xr, .string xo] 30)).alloc (.cells #[.int .i64 0, .int .i64 0, .int .i64 0, .int .i64 0, .int .i64 0, .int .i64 0] 32)).drew) := (by repeat (first | (with_reducible exact Below.refl _ _) | (with_reducible refine Below.setCell ?_ (by first | (simp; done) | (simp; omega) | omega) _) | (with_reducible refine Below.alloc ?_ (by first | (simp; done) | (simp; omega) | omega) _) | (with_reducible refine Below.drew ?_)))
            have hz : (((wr.alloc (.cells #[.int .u8 4, .string xc, .string xr, .string xo] 30)).alloc (.cells #[.int .i64 0, .int .i64 0, .int .i64 0, .int .i64 0, .int .i64 0, .int .i64 0] 32)).drew).heap[wr.heap.size + 1]? = some (.cells (cl zeroC) 32) := (heap2 _ _ _).2
            refine (HS1.out _ _ (HBz.out.trans (hb0.mono HBz.out.size)) (heap2 _ _ _).1).mono fun e w' h => ?_
            have hb2 := hb0.trans (h.2.mono hb0.size)
            have hz2 := (h.2.block _ (Array.getElem?_eq_some_iff.1 hz).1).trans hz
            obtain ⟨⟨y0, y1, y2, y3, y4, y5⟩, ⟨v0, v1, v2, v3, v4, v5⟩⟩ := cl_at hz2
            simp only [Nat.zero_add, zeroC] at y0 y1 y2 y3 y4 y5 v0 v1 v2 v3 v4 v5
            exact ⟨h.1, HKeep.out w' (HBz.out.trans (hb2.mono HBz.out.size)), ⟨y0, y1, y2, y3, y4, y5, v0, v1, v2, v3, v4, v5⟩, hid hz2, hid hb2⟩)
          have HF2 : Hid (Calls Try.prog 10 #[ptr p, .int .i64 s.last, .slice (some ⟨wr.heap.size + 1, 0, none⟩) 1 1] (((wr.alloc (.cells #[.int .i64 0, .int .i64 0, .int .i64 0, .int .i64 0, .int .i64 0, .int .i64 0] 32)).alloc (.cells #[.int .u8 4, .string xc, .string xr, .string xo] 30)).drew) fun e w' => e = .returned (.tuple #[.agg #[.int .i64 J1, .int .i64 J2, .int .i64 J3, .int .i64 J4, .int .i64 J5, .int .i64 J6], .int .i64 n1, .int .i64 0]) ∧ (w'.cell? ⟨gb, k * 4, none⟩ = some (.int .u8 4) ∧ w'.cell? ⟨gb, k * 4 + 1, none⟩ = some (.string xc) ∧ w'.cell? ⟨gb, k * 4 + 2, none⟩ = some (.string xr) ∧ w'.cell? ⟨gb, k * 4 + 3, none⟩ = some (.string xo) ∧ w'.cell? ⟨p, 2, none⟩ = some (.int .i64 s.last)) ∧ (w'.cell? ⟨wr.heap.size, 0, none⟩ = some (.int .i64 0) ∧ w'.cell? ⟨wr.heap.size, 1, none⟩ = some (.int .i64 0) ∧ w'.cell? ⟨wr.heap.size, 2, none⟩ = some (.int .i64 0) ∧ w'.cell? ⟨wr.heap.size, 3, none⟩ = some (.int .i64 0) ∧ w'.cell? ⟨wr.heap.size, 4, none⟩ = some (.int .i64 0) ∧ w'.cell? ⟨wr.heap.size, 5, none⟩ = some (.int .i64 0) ∧ w'.frozen? ⟨wr.heap.size, 0, none⟩ = false ∧ w'.frozen? ⟨wr.heap.size, 1, none⟩ = false ∧ w'.frozen? ⟨wr.heap.size, 2, none⟩ = false ∧ w'.frozen? ⟨wr.heap.size, 3, none⟩ = false ∧ w'.frozen? ⟨wr.heap.size, 4, none⟩ = false ∧ w'.frozen? ⟨wr.heap.size, 5, none⟩ = false) ∧ Hid (w'.heap[wr.heap.size]? = some (.cells (cl zeroC) 32)) ∧ Hid (Below wr.heap.size wr w')) := hid (by
            have hb0 : Below wr.heap.size wr (((wr.alloc (.cells #[.int .i64 0, .int .i64 0, .int .i64 0, .int .i64 0, .int .i64 0, .int .i64 0] 32)).alloc (.cells #[.int .u8 4, .string xc, .string xr, .string xo] 30)).drew) := (by repeat (first | (with_reducible exact Below.refl _ _) | (with_reducible refine Below.setCell ?_ (by first | (simp; done) | (simp; omega) | omega) _) | (with_reducible refine Below.alloc ?_ (by first | (simp; done) | (simp; omega) | omega) _) | (with_reducible refine Below.drew ?_)))
            have hz : (((wr.alloc (.cells #[.int .i64 0, .int .i64 0, .int .i64 0, .int .i64 0, .int .i64 0, .int .i64 0] 32)).alloc (.cells #[.int .u8 4, .string xc, .string xr, .string xo] 30)).drew).heap[wr.heap.size]? = some (.cells (cl zeroC) 32) := (heap2 _ _ _).1
            refine (HS1.out _ _ (HBz.out.trans (hb0.mono HBz.out.size)) (heap2 _ _ _).2).mono fun e w' h => ?_
            have hb2 := hb0.trans (h.2.mono hb0.size)
            have hz2 := (h.2.block _ (Array.getElem?_eq_some_iff.1 hz).1).trans hz
            obtain ⟨⟨y0, y1, y2, y3, y4, y5⟩, ⟨v0, v1, v2, v3, v4, v5⟩⟩ := cl_at hz2
            simp only [Nat.zero_add, zeroC] at y0 y1 y2 y3 y4 y5 v0 v1 v2 v3 v4 v5
            exact ⟨h.1, HKeep.out w' (HBz.out.trans (hb2.mono HBz.out.size)), ⟨y0, y1, y2, y3, y4, y5, v0, v1, v2, v3, v4, v5⟩, hid hz2, hid hb2⟩)
          go_region_held3 (fun w' => w'.cell? ⟨gb, k * 4, none⟩ = some (.int .u8 4) ∧ w'.cell? ⟨gb, k * 4 + 1, none⟩ = some (.string xc) ∧ w'.cell? ⟨gb, k * 4 + 2, none⟩ = some (.string xr) ∧ w'.cell? ⟨gb, k * 4 + 3, none⟩ = some (.string xo) ∧ w'.cell? ⟨p, 2, none⟩ = some (.int .i64 s.last)) (first | with_reducible assumption | (go_split_ands; refine ⟨?_, ?_, ?_, ?_, ?_⟩ <;> with_reducible exact keep6 (by with_reducible assumption) (by omega)) | go_keep) (first | (go_at_call 11; refine (last_at p s.last _ (by first | with_reducible assumption | go_cell | exact c4)).mono ?_; rintro e wL ⟨rfl, rfl⟩) | (go_at_call 10; with_reducible refine HF0.out.mono ?_; rintro e wA ⟨rfl, ⟨k0, k1, k2, k3, k4⟩, HbA⟩) | (go_at_call 10; with_reducible refine HF1.out.mono ?_; rintro e wA ⟨rfl, ⟨k0, k1, k2, k3, k4⟩, ⟨y0, y1, y2, y3, y4, y5, v0, v1, v2, v3, v4, v5⟩, HZA, HbA⟩) | (go_at_call 10; with_reducible refine HF2.out.mono ?_; rintro e wA ⟨rfl, ⟨k0, k1, k2, k3, k4⟩, ⟨y0, y1, y2, y3, y4, y5, v0, v1, v2, v3, v4, v5⟩, HZA, HbA⟩))
          all_goals first | go_meet | (go_wp2_with fail; go_meet)
          all_goals first | with_reducible exact boxed_new HbA.out | with_reducible exact boxed_end1 HZA.out HbA.out | with_reducible exact boxed_end0 HZA.out HbA.out
        case rest =>
        obtain ⟨bx, rfl, rfl, rfl, hxbx, hbbx⟩ := hcut
        have HBc := hid (HBz.out.trans (hbbx.mono HBz.out.size))
        have HXb := hid hxbx
        have hgb3 : gb < wc.heap.size := Nat.lt_of_lt_of_le hgb2 hbbx.size
        have hp2' : p < wc.heap.size := Nat.lt_of_lt_of_le hp2 hbbx.size
        clear c0 c1 c2 c3 c4 hgb2 hp2 hxbx hbbx HS1
        obtain ⟨c0, c1, c2, c3, c4⟩ := HKeep.out wc HBc.out
        generalize hwc : wc = wd at *
        clear hwc
        go_upto_region 10 with fail
        go_cut [9, 10, 11] from 30 to 85 (fun s1 s2 s3 wx => Boxed wd ⟨J1, J2, J3, J4, J5, J6⟩ n1 s1 s2 s3 wx)
        case first =>
          have HO0 : Hid (Calls Try.prog 12 #[ptr p, .int .u8 3, .string xr] wd.drew fun e w' => ∃ a m c, e = .returned (.slice a m c) ∧ (w'.cell? ⟨gb, k * 4, none⟩ = some (.int .u8 4) ∧ w'.cell? ⟨gb, k * 4 + 1, none⟩ = some (.string xc) ∧ w'.cell? ⟨gb, k * 4 + 2, none⟩ = some (.string xr) ∧ w'.cell? ⟨gb, k * 4 + 3, none⟩ = some (.string xo) ∧ w'.cell? ⟨p, 2, none⟩ = some (.int .i64 s.last)) ∧ Hid (Calls Try.prog 10 #[ptr p, .int .i64 s.last, .slice a m c] w' fun e w' => e = .returned (.tuple #[.agg #[.int .i64 J1, .int .i64 J2, .int .i64 J3, .int .i64 J4, .int .i64 J5, .int .i64 J6], .int .i64 n1, .int .i64 0]) ∧ (w'.cell? ⟨gb, k * 4, none⟩ = some (.int .u8 4) ∧ w'.cell? ⟨gb, k * 4 + 1, none⟩ = some (.string xc) ∧ w'.cell? ⟨gb, k * 4 + 2, none⟩ = some (.string xr) ∧ w'.cell? ⟨gb, k * 4 + 3, none⟩ = some (.string xo) ∧ w'.cell? ⟨p, 2, none⟩ = some (.int .i64 s.last)) ∧ Hid (Below wd.heap.size wd w')) ∧ Hid (Calls Try.prog 10 #[ptr p, .int .i64 s.last, .slice a m c] (w'.alloc (.cells #[.int .i64 0, .int .i64 0, .int .i64 0, .int .i64 0, .int .i64 0, .int .i64 0] 32)) fun e w'' => e = .returned (.tuple #[.agg #[.int .i64 J1, .int .i64 J2, .int .i64 J3, .int .i64 J4, .int .i64 J5, .int .i64 J6], .int .i64 n1, .int .i64 0]) ∧ (w''.cell? ⟨gb, k * 4, none⟩ = some (.int .u8 4) ∧ w''.cell? ⟨gb, k * 4 + 1, none⟩ = some (.string xc) ∧ w''.cell? ⟨gb, k * 4 + 2, none⟩ = some (.string xr) ∧ w''.cell? ⟨gb, k * 4 + 3, none⟩ = some (.string xo) ∧ w''.cell? ⟨p, 2, none⟩ = some (.int .i64 s.last)) ∧ (w''.cell? ⟨w'.heap.size, 0, none⟩ = some (.int .i64 0) ∧ w''.cell? ⟨w'.heap.size, 1, none⟩ = some (.int .i64 0) ∧ w''.cell? ⟨w'.heap.size, 2, none⟩ = some (.int .i64 0) ∧ w''.cell? ⟨w'.heap.size, 3, none⟩ = some (.int .i64 0) ∧ w''.cell? ⟨w'.heap.size, 4, none⟩ = some (.int .i64 0) ∧ w''.cell? ⟨w'.heap.size, 5, none⟩ = some (.int .i64 0) ∧ w''.frozen? ⟨w'.heap.size, 0, none⟩ = false ∧ w''.frozen? ⟨w'.heap.size, 1, none⟩ = false ∧ w''.frozen? ⟨w'.heap.size, 2, none⟩ = false ∧ w''.frozen? ⟨w'.heap.size, 3, none⟩ = false ∧ w''.frozen? ⟨w'.heap.size, 4, none⟩ = false ∧ w''.frozen? ⟨w'.heap.size, 5, none⟩ = false) ∧ Hid (w''.heap[w'.heap.size]? = some (.cells (cl zeroC) 32)) ∧ Hid (Below wd.heap.size wd w'')) ∧ Hid (Below wd.heap.size wd w')) := hid (by
            have hb0 : Below wd.heap.size wd wd.drew := (by repeat (first | (with_reducible exact Below.refl _ _) | (with_reducible refine Below.setCell ?_ (by first | (simp; done) | (simp; omega) | omega) _) | (with_reducible refine Below.alloc ?_ (by first | (simp; done) | (simp; omega) | omega) _) | (with_reducible refine Below.drew ?_)))
            refine (HOf.out _ (HBc.out.trans (hb0.mono HBc.out.size))).mono fun e w' h => ?_
            obtain ⟨⟨a, m, c, rfl, hs⟩, hb⟩ := h
            have hb2 := hb0.trans (hb.mono hb0.size)
            have hb3 : Below w'.heap.size w' (w'.alloc (.cells #[.int .i64 0, .int .i64 0, .int .i64 0, .int .i64 0, .int .i64 0, .int .i64 0] 32)) := (Below.refl _ _).alloc (Nat.le_refl _) _
            refine ⟨a, m, c, rfl, HKeep.out w' (HBc.out.trans (hb2.mono HBc.out.size)), hid ((hs.out _ (Below.refl _ _)).mono fun e w2 h2 => ⟨h2.1, h2.2.1, hid (hb2.trans (h2.2.2.mono hb2.size))⟩), hid ((hs.out _ hb3).mono fun e w2 h2 => ⟨h2.1, h2.2.1, (zero_box (heap_alloc_new _ _) h2.2.2).1, (zero_box (heap_alloc_new _ _) h2.2.2).2, hid (hb2.trans ((hb3.trans (h2.2.2.mono hb3.size)).mono hb2.size))⟩), hid hb2⟩)
          have HO1 : Hid (Calls Try.prog 12 #[ptr p, .int .u8 3, .string xr] ((wd.alloc (.cells #[.int .i64 0, .int .i64 0, .int .i64 0, .int .i64 0, .int .i64 0, .int .i64 0] 32)).drew) fun e w' => ∃ a m c, e = .returned (.slice a m c) ∧ (w'.cell? ⟨gb, k * 4, none⟩ = some (.int .u8 4) ∧ w'.cell? ⟨gb, k * 4 + 1, none⟩ = some (.string xc) ∧ w'.cell? ⟨gb, k * 4 + 2, none⟩ = some (.string xr) ∧ w'.cell? ⟨gb, k * 4 + 3, none⟩ = some (.string xo) ∧ w'.cell? ⟨p, 2, none⟩ = some (.int .i64 s.last)) ∧ (w'.cell? ⟨wd.heap.size, 0, none⟩ = some (.int .i64 0) ∧ w'.cell? ⟨wd.heap.size, 1, none⟩ = some (.int .i64 0) ∧ w'.cell? ⟨wd.heap.size, 2, none⟩ = some (.int .i64 0) ∧ w'.cell? ⟨wd.heap.size, 3, none⟩ = some (.int .i64 0) ∧ w'.cell? ⟨wd.heap.size, 4, none⟩ = some (.int .i64 0) ∧ w'.cell? ⟨wd.heap.size, 5, none⟩ = some (.int .i64 0) ∧ w'.frozen? ⟨wd.heap.size, 0, none⟩ = false ∧ w'.frozen? ⟨wd.heap.size, 1, none⟩ = false ∧ w'.frozen? ⟨wd.heap.size, 2, none⟩ = false ∧ w'.frozen? ⟨wd.heap.size, 3, none⟩ = false ∧ w'.frozen? ⟨wd.heap.size, 4, none⟩ = false ∧ w'.frozen? ⟨wd.heap.size, 5, none⟩ = false) ∧ Hid (w'.heap[wd.heap.size]? = some (.cells (cl zeroC) 32)) ∧ Hid (Calls Try.prog 10 #[ptr p, .int .i64 s.last, .slice a m c] w' fun e w' => e = .returned (.tuple #[.agg #[.int .i64 J1, .int .i64 J2, .int .i64 J3, .int .i64 J4, .int .i64 J5, .int .i64 J6], .int .i64 n1, .int .i64 0]) ∧ (w'.cell? ⟨gb, k * 4, none⟩ = some (.int .u8 4) ∧ w'.cell? ⟨gb, k * 4 + 1, none⟩ = some (.string xc) ∧ w'.cell? ⟨gb, k * 4 + 2, none⟩ = some (.string xr) ∧ w'.cell? ⟨gb, k * 4 + 3, none⟩ = some (.string xo) ∧ w'.cell? ⟨p, 2, none⟩ = some (.int .i64 s.last)) ∧ (w'.cell? ⟨wd.heap.size, 0, none⟩ = some (.int .i64 0) ∧ w'.cell? ⟨wd.heap.size, 1, none⟩ = some (.int .i64 0) ∧ w'.cell? ⟨wd.heap.size, 2, none⟩ = some (.int .i64 0) ∧ w'.cell? ⟨wd.heap.size, 3, none⟩ = some (.int .i64 0) ∧ w'.cell? ⟨wd.heap.size, 4, none⟩ = some (.int .i64 0) ∧ w'.cell? ⟨wd.heap.size, 5, none⟩ = some (.int .i64 0) ∧ w'.frozen? ⟨wd.heap.size, 0, none⟩ = false ∧ w'.frozen? ⟨wd.heap.size, 1, none⟩ = false ∧ w'.frozen? ⟨wd.heap.size, 2, none⟩ = false ∧ w'.frozen? ⟨wd.heap.size, 3, none⟩ = false ∧ w'.frozen? ⟨wd.heap.size, 4, none⟩ = false ∧ w'.frozen? ⟨wd.heap.size, 5, none⟩ = false) ∧ Hid (w'.heap[wd.heap.size]? = some (.cells (cl zeroC) 32)) ∧ Hid (Below wd.heap.size wd w'))) := hid (by
            have hb0 : Below wd.heap.size wd ((wd.alloc (.cells #[.int .i64 0, .int .i64 0, .int .i64 0, .int .i64 0, .int .i64 0, .int .i64 0] 32)).drew) := (by repeat (first | (with_reducible exact Below.refl _ _) | (with_reducible refine Below.setCell ?_ (by first | (simp; done) | (simp; omega) | omega) _) | (with_reducible refine Below.alloc ?_ (by first | (simp; done) | (simp; omega) | omega) _) | (with_reducible refine Below.drew ?_)))
            have hz : ((wd.alloc (.cells #[.int .i64 0, .int .i64 0, .int .i64 0, .int .i64 0, .int .i64 0, .int .i64 0] 32)).drew).heap[wd.heap.size]? = some (.cells (cl zeroC) 32) := heap_alloc_new _ _
            refine (HOf.out _ (HBc.out.trans (hb0.mono HBc.out.size))).mono fun e w' h => ?_
            obtain ⟨⟨a, m, c, rfl, hs⟩, hb⟩ := h
            have hb2 := hb0.trans (hb.mono hb0.size)
            have hz2 := zero_box hz hb
            exact ⟨a, m, c, rfl, HKeep.out w' (HBc.out.trans (hb2.mono HBc.out.size)), hz2.1, hz2.2, hid ((hs.out _ (Below.refl _ _)).mono fun e w2 h2 => ⟨h2.1, h2.2.1, (zero_box hz2.2.out h2.2.2).1, (zero_box hz2.2.out h2.2.2).2, hid (hb2.trans (h2.2.2.mono hb2.size))⟩)⟩)
          clear HOf
          go_region_held3 (fun w' => w'.cell? ⟨gb, k * 4, none⟩ = some (.int .u8 4) ∧ w'.cell? ⟨gb, k * 4 + 1, none⟩ = some (.string xc) ∧ w'.cell? ⟨gb, k * 4 + 2, none⟩ = some (.string xr) ∧ w'.cell? ⟨gb, k * 4 + 3, none⟩ = some (.string xo) ∧ w'.cell? ⟨p, 2, none⟩ = some (.int .i64 s.last)) (first | with_reducible assumption | (go_split_ands; refine ⟨?_, ?_, ?_, ?_, ?_⟩ <;> with_reducible exact keep6 (by with_reducible assumption) (by omega)) | go_keep) (first | (go_at_call 11; refine (last_at p s.last _ (by first | with_reducible assumption | go_cell | exact c4)).mono ?_; rintro e wL ⟨rfl, rfl⟩) | (go_at_call 12; with_reducible refine HO0.out.mono ?_; rintro e wO ⟨oa, om, oc, rfl, ⟨k0, k1, k2, k3, k4⟩, HSm0, HSm1, HbO⟩; have hsO := HbO.out.size) | (go_at_call 12; with_reducible refine HO1.out.mono ?_; rintro e wO ⟨oa, om, oc, rfl, ⟨k0, k1, k2, k3, k4⟩, ⟨y0, y1, y2, y3, y4, y5, v0, v1, v2, v3, v4, v5⟩, HZO, HSm2⟩) | (go_at_call 10; with_reducible refine HSm0.out.mono ?_; rintro e wA ⟨rfl, ⟨k0, k1, k2, k3, k4⟩, HbA⟩) | (go_at_call 10; with_reducible refine HSm1.out.mono ?_; rintro e wA ⟨rfl, ⟨k0, k1, k2, k3, k4⟩, ⟨y0, y1, y2, y3, y4, y5, v0, v1, v2, v3, v4, v5⟩, HZA, HbA⟩) | (go_at_call 10; with_reducible refine HSm2.out.mono ?_; rintro e wA ⟨rfl, ⟨k0, k1, k2, k3, k4⟩, ⟨y0, y1, y2, y3, y4, y5, v0, v1, v2, v3, v4, v5⟩, HZA, HbA⟩))
          all_goals first | go_meet | (go_wp2_with fail; go_meet)
          all_goals first | with_reducible exact boxed_new HbA.out | with_reducible exact boxed_end0 HZA.out HbA.out | with_reducible exact boxed_end2 HZA.out HbA.out HbO.out
        case rest =>
        obtain ⟨by_, rfl, rfl, rfl, hxby_, hbby_⟩ := hcut
        have HBd := hid (HBc.out.trans (hbby_.mono HBc.out.size))
        have hxbx2 := (hbby_.block bx (Array.getElem?_eq_some_iff.1 HXb.out).1).trans HXb.out
        obtain ⟨⟨y0, y1, y2, y3, y4, y5⟩, -⟩ := cl_at hxbx2
        obtain ⟨⟨z0, z1, z2, z3, z4, z5⟩, -⟩ := cl_at hxby_
        simp only [Nat.zero_add] at y0 y1 y2 y3 y4 y5 z0 z1 z2 z3 z4 z5
        clear c0 c1 c2 c3 c4 hgb3 hp2' hxbx2 hxby_ hbby_
        generalize hwe : wc = we at *
        clear hwe HOf HKeep HXb
        go_wp2_with fail
        go_roundw
        case rel => exact ⟨k + 1, hlt2, by go_num, HBd.out⟩
        case measure => simp [intOf]; omega
      · have n4 : ((xk : Int) == 4) = false := by simpa using fun h => hk4 (by omega)
        clear p1 p2 p3 hx hmem hfitx
        have c0 := kcS HBz.out p0
        clear p0
        go_wp2_with fail
        go_roundw
        case rel => exact ⟨k + 1, hlt2, by go_num, HBz.out⟩
        case measure => simp [intOf]; omega
    · obtain rfl : k = ls := by omega
      have HB4 := hid (HB3.out.trans (HBz.out.mono HB3.out.size))
      generalize wr = w4 at *
      clear HSame HFits HRow HT3 HT HBz HB3 HLs hlt2 hk h512
      go_wp2_with fail
      go_loopw [12, 13] (fun v i wr => ∃ (j : Nat) (l : List Dd), j ≤ n ∧ i = .int .i64 j ∧ l.length = j ∧ DRow wr w4.heap.size v l ∧ (∀ D ∈ l, D.x.inb = true ∧ D.x.Fit) ∧ Below w4.heap.size w4 wr) (fun _ i _ => n - (intOf i).toNat)
      case atStart => exact ⟨0, [], Nat.zero_le _, rfl, rfl, DRow.nil _ _, (fun D h => by simp at h), Below.refl _ _⟩
      case round =>
        obtain ⟨j, l, hj, rfl, hl, hdr, hall, hbq⟩ := hrel
        have HDr := hid hdr
        have HAll := hid hall
        have HBq := hid hbq
        clear hdr hall hbq
        by_cases hlt : j < n
        · have hji : (j : Int) < n := by omega
          have hji0 : (0 : Int) ≤ j := by omega
          obtain ⟨va1, vc1, rfl⟩ := owns_shape HDr.out
          obtain ⟨g, o, rfl, hg00, hc0⟩ := HD.out.1 (by omega)
          have hg4 : g < w4.heap.size := Nat.lt_of_lt_of_le hg00 HB4.out.size
          have hg : g < wr.heap.size := Nat.lt_of_lt_of_le hg4 HBq.out.size
          have hcells : ∀ q v, (dw (f j))[q]? = some v → wr.cell? ⟨g, o + j * 10 + q, none⟩ = some v := fun q v hv => (HBq.out.cell (p := ⟨g, o + j * 10 + q, none⟩) hg4).trans ((HB4.out.cell (p := ⟨g, o + j * 10 + q, none⟩) hg00).trans (hc0 j hlt q v hv))
          have hfit := HD.out.2 j hlt
          generalize f j = D at *
          obtain ⟨kd, ⟨t, r, c, oo, inb, cnt⟩, sa, sn, sc, rt, fl⟩ := D
          obtain ⟨c0, c1, c2, c3, c4, c5, c6, c7, c8, c9⟩ : wr.cell? ⟨g, o + j * 10, none⟩ = some (.int .i64 kd) ∧ wr.cell? ⟨g, o + j * 10 + 1, none⟩ = some (.int .i64 t) ∧ wr.cell? ⟨g, o + j * 10 + 2, none⟩ = some (.string r) ∧ wr.cell? ⟨g, o + j * 10 + 3, none⟩ = some (.string c) ∧ wr.cell? ⟨g, o + j * 10 + 4, none⟩ = some (.string oo) ∧ wr.cell? ⟨g, o + j * 10 + 5, none⟩ = some (.bool inb) ∧ wr.cell? ⟨g, o + j * 10 + 6, none⟩ = some (.int .i64 cnt) ∧ wr.cell? ⟨g, o + j * 10 + 7, none⟩ = some (.slice sa sn sc) ∧ wr.cell? ⟨g, o + j * 10 + 8, none⟩ = some (.int .i64 rt) ∧ wr.cell? ⟨g, o + j * 10 + 9, none⟩ = some (.bool fl) := ⟨hcells 0 _ rfl, hcells 1 _ rfl, hcells 2 _ rfl, hcells 3 _ rfl, hcells 4 _ rfl, hcells 5 _ rfl, hcells 6 _ rfl, hcells 7 _ rfl, hcells 8 _ rfl, hcells 9 _ rfl⟩
          have HNw := hid (show DRow wr w4.heap.size (.slice va1 l.length vc1) l ∧ (∀ D ∈ l ++ [(⟨kd, ⟨t, r, c, oo, true, cnt⟩, sa, sn, sc, rt, fl⟩ : Dd)], D.x.inb = true ∧ D.x.Fit) from ⟨HDr.out, fun D hD => by
            rcases List.mem_append.1 hD with hD | hD
            · exact HAll.out D hD
            · obtain rfl := List.mem_singleton.1 hD
              exact ⟨rfl, ⟨hfit.r, hfit.c, hfit.o⟩⟩⟩)
          have hll : l.length + 1 ≤ n := by omega
          clear hcells hc0 hg00 hg4 hfit HAll HDr
          have hbX : Below wr.heap.size wr ((wr.alloc (.cells #[.int .i64 kd, .int .i64 t, .string r, .string c, .string oo, .bool true, .int .i64 cnt, .slice sa sn sc, .int .i64 rt, .bool fl] 42)).alloc (.cells #[.int .i64 kd, .int .i64 t, .string r, .string c, .string oo, .bool true, .int .i64 cnt, .slice sa sn sc, .int .i64 rt, .bool fl] 42)) := (by repeat (first | (with_reducible exact Below.refl _ _) | (with_reducible refine Below.setCell ?_ (by first | (simp; done) | (simp; omega) | omega) _) | (with_reducible refine Below.alloc ?_ (by first | (simp; done) | (simp; omega) | omega) _) | (with_reducible refine Below.drew ?_)))
          have HR := hid (And.intro (HNw.out.1.below hbX) (And.intro (heap2 wr (.cells #[.int .i64 kd, .int .i64 t, .string r, .string c, .string oo, .bool true, .int .i64 cnt, .slice sa sn sc, .int .i64 rt, .bool fl] 42) (.cells #[.int .i64 kd, .int .i64 t, .string r, .string c, .string oo, .bool true, .int .i64 cnt, .slice sa sn sc, .int .i64 rt, .bool fl] 42)).2 (And.intro (Nat.le_trans HBq.out.size hbX.size) (show (l.length + 1) * 120 ≤ 140737488355328 by omega))))
          have HbX := hid hbX
          clear hbX
          go_wp2_with (at_builtin; refine wpList_append_deed (D := ⟨kd, ⟨t, r, c, oo, true, cnt⟩, sa, sn, sc, rt, fl⟩) rfl _ _ rfl rfl rfl HR.out.1 HR.out.2.1 HR.out.2.2.1 HR.out.2.2.2 ?_; intro v6 w6 hown6 hgr6 hat6)
          have HB6 : Hid (Below w4.heap.size w4 w6) := hid ((HBq.out.trans (HbX.out.mono HBq.out.size)).grown hgr6 (Nat.le_trans HBq.out.size HbX.out.size) (fun k hk => (DRow.has HR.out.1 k hk).1))
          have HO6 := hid hown6
          clear hown6 hgr6 hat6 HR HbX c0 c1 c2 c3 c4 c5 c6 c7 c8 c9 hg
          go_wp2_with fail
          go_roundw
          case rel => exact ⟨j + 1, _, hlt, by go_num, by simp [hl], HO6.out, HNw.out.2, HB6.out⟩
          case measure => simp [intOf]; omega
        · obtain rfl : j = n := by omega
          obtain ⟨va2, vc2, rfl, hdat⟩ := DRow.at HDr.out
          have hin : ∀ i, i < l.length → (l.getD i dd0).x.inb = true ∧ (l.getD i dd0).x.Fit := fun i hi => HAll.out _ (by rw [List.getD_eq_getElem?_getD, List.getElem?_eq_getElem hi]; exact List.getElem_mem hi)
          have HRun := hid (run_any va2 l.length vc2 (fun i => l.getD i dd0) wr (by omega) hdat (fun i hi => (hin i hi).2))
          have HWs := hid (And.intro (fun hx => whole_same (fun i => l.getD i dd0) l.length (fun i hi => (hin i hi).1) hx) (fun hx => whole_none (fun i => l.getD i dd0) l.length (fun i hi => (hin i hi).1) hx))
          have HB5 := hid (HB4.out.trans (HBq.out.mono HB4.out.size))
          clear hin hdat hlt hj hn HD
          obtain ⟨s2, hs2⟩ : ∃ s2, runS (fun i => l.getD i dd0) l.length = s2 := ⟨_, rfl⟩
          rw [hs2] at HRun HWs
          clear HDr HAll HBq HB4 hs2 hl
          go_wp2_with fail
          refine HRun.out.mono ?_
          rintro e w5 ⟨q, own2, rfl, hq, hT⟩
          have HT := hid hT
          have HA := hid (All_any q _ own2 w5 hT.t)
          have h512 : s2.keys.length ≤ 512 := by
            obtain ⟨b, v, L, hL, hT⟩ := hT.t
            have := hT.len
            rw [← keys_ents hL, List.length_map]
            exact this
          obtain ⟨ls, hls⟩ : ∃ ls, s2.keys.length = ls := ⟨_, rfl⟩
          rw [hls] at HA h512
          have HLs := hid hls
          have HFits : Hid (∀ x ∈ s2.keys, x.Fit) := hid HT.out.fits
          clear hls hT hq HRun
          go_wp2_with fail
          refine HA.out.mono ?_
          rintro e w6 ⟨⟨vb, vc6, rfl, hrow⟩, hb6⟩
          have HT6 := hid (HT.out.below hb6)
          have HRow := hid hrow
          have HB6 := hid (HB5.out.trans (HT6.out.bel.mono HB5.out.size))
          clear hrow hb6 HA HB5 HT
          go_wp2_with fail
          go_loopw [16, 17] (fun v i wr => ∃ j : Nat, j ≤ ls ∧ i = .int .i64 j ∧ KRow wr w6.heap.size v ((s2.keys.take j).filter clust) ∧ Below w6.heap.size w6 wr) (fun _ i _ => ls - (intOf i).toNat)
          case atStart => exact ⟨0, Nat.zero_le _, rfl, KRow.nil _ _, Below.refl _ _⟩
          case round =>
            obtain ⟨j, hj, rfl, hkr, hbq⟩ := hrel
            have HBq := hid hbq
            have HKr := hid hkr
            clear hbq hkr
            by_cases hlt2 : j < ls
            · have hki : (j : Int) < ls := by omega
              have hki0 : (0 : Int) ≤ j := by omega
              obtain ⟨va1, vc1, rfl⟩ := owns_shape HKr.out
              obtain ⟨gb, rfl, -, hgb⟩ := row_shape HRow.out (by rw [HLs.out]; omega)
              have hks : j < s2.keys.length := by rw [HLs.out]; exact hlt2
              have hx : s2.keys[j]? = some (s2.keys.getD j default) := by rw [List.getD_eq_getElem?_getD, List.getElem?_eq_getElem hks]; rfl
              have htake : s2.keys.take (j + 1) = s2.keys.take j ++ [s2.keys.getD j default] := by rw [List.take_add_one, hx]; rfl
              obtain ⟨p0, p1, p2, p3⟩ := row_key HRow.out hx
              generalize s2.keys.getD j default = x at *
              have hgb2 : gb < wr.heap.size := Nat.lt_of_lt_of_le hgb HBq.out.size
              obtain ⟨xk, xc, xr, xo⟩ := x
              dsimp only at p0 p1 p2 p3
              have c0 := kcS HBq.out p0
              have c1 := kcS HBq.out p1
              have c2 := kcS HBq.out p2
              have c3 := kcS HBq.out p3
              have hfl : ((s2.keys.take j).filter clust).length ≤ 512 := Nat.le_trans (List.length_filter_le _ _) (by rw [List.length_take]; omega)
              clear p0 p1 p2 p3 hx hks
              by_cases hk4 : xk = 4
              · subst hk4
                have hnew : (s2.keys.take (j + 1)).filter clust = (s2.keys.take j).filter clust ++ [⟨4, xc, xr, xo⟩] := by rw [htake, List.filter_append]; rfl
                have HNew := hid hnew
                have hbX : Below wr.heap.size wr (wr.alloc (.cells #[.int .u8 4, .string xc, .string xr, .string xo] 30)) := (by repeat (first | (with_reducible exact Below.refl _ _) | (with_reducible refine Below.setCell ?_ (by first | (simp; done) | (simp; omega) | omega) _) | (with_reducible refine Below.alloc ?_ (by first | (simp; done) | (simp; omega) | omega) _) | (with_reducible refine Below.drew ?_)))
                have HR := hid (And.intro (KRow.below HKr.out hbX) (And.intro (KRow.one (wr.alloc (.cells #[.int .u8 4, .string xc, .string xr, .string xo] 30)) wr.heap.size wr.heap.size ⟨4, xc, xr, xo⟩ (Nat.le_refl _) (heap_alloc_new _ _)) (Nat.le_trans HBq.out.size hbX.size)))
                have HLe := hid (show ((s2.keys.take j).filter clust).length + [(⟨4, xc, xr, xo⟩ : Key)].length ≤ 1000000000 by simp only [List.length_cons, List.length_nil]; omega)
                have HbX := hid hbX
                clear hbX htake hnew
                obtain ⟨fl0, hfl0⟩ : ∃ fl0, ((s2.keys.take j).filter clust).length = fl0 := ⟨_, rfl⟩
                rw [hfl0] at HR ⊢
                clear hfl hfl0
                go_wp2_with (at_builtin; refine wpList_append_keys rfl _ _ rfl rfl rfl HR.out.1 HR.out.2.1 HR.out.2.2 HLe.out ?_; intro v6 w7 hown6 hgr6 hat6)
                have HB7 : Hid (Below w6.heap.size w6 w7) := hid ((HBq.out.trans (HbX.out.mono HBq.out.size)).grown hgr6 (Nat.le_trans HBq.out.size HbX.out.size) (fun k hk => (KRow.has HR.out.1 k hk).1))
                rw [← HNew.out] at hown6
                have HO6 := hid hown6
                clear hown6 hgr6 hat6 HR HbX c0 c1 c2 c3
                go_wp2_with fail
                go_roundw
                case rel => exact ⟨j + 1, hlt2, by go_num, HO6.out, HB7.out⟩
                case measure => simp [intOf]; omega
              · have n4 : ((xk : Int) == 4) = false := by simpa using fun h => hk4 (by omega)
                have hnew : (s2.keys.take (j + 1)).filter clust = (s2.keys.take j).filter clust := by
                  rw [htake, List.filter_append, List.filter_cons_of_neg (by unfold clust; simp [hk4]), List.filter_nil, List.append_nil]
                have HO6 := hid HKr.out
                rw [← hnew] at HO6
                have e : ((s2.keys.take j).filter clust).length = ((s2.keys.take (j + 1)).filter clust).length := by rw [hnew]
                rw [e] at *
                clear hnew htake e HKr hfl
                go_wp2_with fail
                go_roundw
                case rel => exact ⟨j + 1, hlt2, by go_num, HO6.out, HBq.out⟩
                case measure => simp [intOf]; omega
            · obtain rfl : j = ls := by omega
              obtain ⟨vc, cc, rfl, hkc, -⟩ := KRow.at HKr.out
              have htl : s2.keys.take j = s2.keys := List.take_of_length_le (by rw [HLs.out]; exact Nat.le_refl _)
              rw [htl] at hkc
              have HKc := hid hkc
              have HB7 := hid (HB6.out.trans (HBq.out.mono HB6.out.size))
              have HT7 := hid (HT6.out.below HBq.out)
              have e : ((s2.keys.take j).filter clust).length = (s2.keys.filter clust).length := by rw [htl]
              rw [e]
              have hfl : (s2.keys.filter clust).length ≤ 512 := Nat.le_trans (List.length_filter_le _ _) (by rw [HLs.out]; exact h512)
              obtain ⟨fl, hfl0⟩ : ∃ fl, (s2.keys.filter clust).length = fl := ⟨_, rfl⟩
              rw [hfl0] at HKc hfl ⊢
              clear hkc htl e HKr HBq HT6 HRow HB6 h512 hlt2 hj
              generalize wr = w7 at *
              have hfw : (⟨1, emp, emp, emp⟩ : Key).Fit := ⟨by decide, by unfold maxLen; decide, by unfold maxLen; decide, by unfold maxLen; decide⟩
              have HHas := hid (Has_any q s2 own2 ⟨1, emp, emp, emp⟩ hfw w7 HT7.out.t)
              by_cases hmem : (⟨1, emp, emp, emp⟩ : Key) ∈ s2.keys
              · rw [show hasS s2 ⟨1, emp, emp, emp⟩ = true from decide_eq_true hmem] at HHas
                obtain ⟨hsame, hzero⟩ := HWs.out.1 hmem
                obtain ⟨⟨⟨J1, J2, J3, J4, J5, J6⟩, n1, e1⟩, hJ⟩ : ∃ z, sumS s2 s2.last [(⟨1, emp, emp, emp⟩ : Key)] = z := ⟨_, rfl⟩
                rw [hJ] at hsame hzero
                obtain rfl : e1 = 0 := hzero
                have HS := hid (And.intro hJ hsame.symm)
                have HFl := hid hfl0
                clear hsame hJ hmem hfl0
                go_wp2_with fail
                refine HHas.out.mono ?_
                rintro e w8 ⟨rfl, hb8⟩
                have HT8 := hid (HT7.out.below hb8)
                have HB8 := hid (HB7.out.trans (hb8.mono HB7.out.size))
                have HKc8 := hid (HKc.out.below hb8)
                clear hb8 HHas
                go_wp2_with fail
                refine (last_at q s2.last _ HT8.out.last).mono ?_
                rintro e wL ⟨rfl, rfl⟩
                go_wp2_with fail
                have hb9 : Below w8.heap.size w8 (w8.alloc (.cells #[.int .u8 1, .string emp, .string emp, .string emp] 30)) := (by repeat (first | (with_reducible exact Below.refl _ _) | (with_reducible refine Below.setCell ?_ (by first | (simp; done) | (simp; omega) | omega) _) | (with_reducible refine Below.alloc ?_ (by first | (simp; done) | (simp; omega) | omega) _) | (with_reducible refine Below.drew ?_)))
                have hS1 : Calls Try.prog 10 #[ptr q, .int .i64 s2.last, .slice (some ⟨w8.heap.size, 0, none⟩) 1 1] (w8.alloc (.cells #[.int .u8 1, .string emp, .string emp, .string emp] 30)) fun e w' => e = .returned (.tuple #[.agg #[.int .i64 J1, .int .i64 J2, .int .i64 J3, .int .i64 J4, .int .i64 J5, .int .i64 J6], .int .i64 n1, .int .i64 0]) ∧ Below (w8.alloc (.cells #[.int .u8 1, .string emp, .string emp, .string emp] 30)).heap.size (w8.alloc (.cells #[.int .u8 1, .string emp, .string emp, .string emp] 30)) w' := by
                  have := Sum_any q s2 own2 s2.last (some ⟨w8.heap.size, 0, none⟩) 1 1 (fun _ => (⟨1, emp, emp, emp⟩ : Key)) (w8.alloc (.cells #[.int .u8 1, .string emp, .string emp, .string emp] 30)) (by decide) (fun _ _ => hfw) (kat_of (heap_alloc_new _ _)) (HT8.out.below hb9).t
                  rw [show firstK (fun _ => (⟨1, emp, emp, emp⟩ : Key)) 1 = [⟨1, emp, emp, emp⟩] from rfl, HS.out.1] at this
                  exact this
                have HS1 := hid hS1
                have HB9 := hid hb9
                clear hS1 hb9
                refine HS1.out.mono ?_
                rintro e w9 ⟨rfl, hb9⟩
                have hb10 : Below w8.heap.size w8 (w9.alloc (.cells #[.int .i64 J1, .int .i64 J2, .int .i64 J3, .int .i64 J4, .int .i64 J5, .int .i64 J6] 32)) := (HB9.out.trans (hb9.mono HB9.out.size)).alloc (HB9.out.trans (hb9.mono HB9.out.size)).size _
                have HT9 := hid (HT8.out.below hb10)
                have HB10 := hid (HB8.out.trans (hb10.mono HB8.out.size))
                have hS2 : Calls Try.prog 10 #[ptr q, .int .i64 s2.last, .slice vc fl cc] (w9.alloc (.cells #[.int .i64 J1, .int .i64 J2, .int .i64 J3, .int .i64 J4, .int .i64 J5, .int .i64 J6] 32)) fun e w' => e = .returned (.tuple #[.agg #[.int .i64 J1, .int .i64 J2, .int .i64 J3, .int .i64 J4, .int .i64 J5, .int .i64 J6], .int .i64 n1, .int .i64 0]) ∧ Below (w9.alloc (.cells #[.int .i64 J1, .int .i64 J2, .int .i64 J3, .int .i64 J4, .int .i64 J5, .int .i64 J6] 32)).heap.size (w9.alloc (.cells #[.int .i64 J1, .int .i64 J2, .int .i64 J3, .int .i64 J4, .int .i64 J5, .int .i64 J6] 32)) w' := by
                  have := Sum_any q s2 own2 s2.last vc fl cc (fun i => (s2.keys.filter clust).getD i default) (w9.alloc (.cells #[.int .i64 J1, .int .i64 J2, .int .i64 J3, .int .i64 J4, .int .i64 J5, .int .i64 J6] 32)) (by omega) (fun i hi => HFits.out _ (List.mem_filter.1 (by rw [List.getD_eq_getElem?_getD, List.getElem?_eq_getElem (by rw [HFl.out]; exact hi)]; exact List.getElem_mem _)).1) (HKc8.out.below hb10) HT9.out.t
                  rw [show fl = (s2.keys.filter clust).length from HFl.out.symm, firstK_getD, HS.out.2] at this
                  rw [HFl.out] at this
                  exact this
                have HS2 := hid hS2
                have hx9 : (w9.alloc (.cells #[.int .i64 J1, .int .i64 J2, .int .i64 J3, .int .i64 J4, .int .i64 J5, .int .i64 J6] 32)).heap[w9.heap.size]? = some (.cells (cl ⟨J1, J2, J3, J4, J5, J6⟩) 32) := heap_alloc_new _ _
                have HX9 := hid hx9
                clear hb9 hb10 hS2 hx9
                go_wp2_with fail
                refine (last_at q s2.last _ HT9.out.last).mono ?_
                rintro e wL ⟨rfl, rfl⟩
                go_wp2_with fail
                refine HS2.out.mono ?_
                rintro e w11 ⟨rfl, hb11⟩
                have hx11 := (hb11.block _ (Array.getElem?_eq_some_iff.1 HX9.out).1).trans HX9.out
                obtain ⟨⟨y0, y1, y2, y3, y4, y5⟩, -⟩ := cl_at hx11
                simp only [Nat.zero_add] at y0 y1 y2 y3 y4 y5
                have HBz := hid ((HB10.out.trans (hb11.mono HB10.out.size)).alloc (HB10.out.trans (hb11.mono HB10.out.size)).size (.cells #[.int .i64 J1, .int .i64 J2, .int .i64 J3, .int .i64 J4, .int .i64 J5, .int .i64 J6] 32))
                have hlt9 : w9.heap.size < w11.heap.size := by have := hb11.size; simp at this; omega
                clear hb11 hx11
                go_wp2_with fail
                go_ret
                exact ⟨rfl, HBz.out⟩
              · have hz := HWs.out.2 hmem
                rw [hz] at hfl0
                obtain rfl : 0 = fl := hfl0
                rw [show hasS s2 ⟨1, emp, emp, emp⟩ = false from decide_eq_false hmem] at HHas
                clear hz hmem
                go_wp2_with fail
                refine HHas.out.mono ?_
                rintro e w8 ⟨rfl, hb8⟩
                have HB8 := hid (HB7.out.trans (hb8.mono HB7.out.size))
                clear hb8
                go_wp2_with fail
                go_ret
                exact ⟨rfl, HB8.out⟩

/-- the law's main, of TreeSums -/
theorem main {H : Type} {enc : TypeId × Value → H} {W : World} {base : Nat} {spare : Nat → Bool} {held : Bool} (a : Option Addr) (n cap : Nat) {d : DataW H} {p : List MemPlace} (h : DataW.Trod enc Try.prog W base spare held 22 (.slice a n cap) d p) (hw : ∀ m ∈ d.weights Try.prog 22, m ≤ reachBytes) :
    Calls Try.prog 3 #[.slice a n cap] W fun e W' => e = .returned (.bool true) ∧ Below W.heap.size W W' := by
  obtain ⟨f, h1, h2, h3⟩ := deeds_of h hw
  exact sums_core a n cap f W (deeds_few h hw) h1 h3

end Go.Proofs.Ytnloedhcginopaa.TreSo

namespace Go.Proofs.Ytnloedhcginopaa.treeSums
open Go.ChangeShapes Go.WideShapes Go.ChangeAt Go.RowKit Go.Deep
open Go.ChangeMaps (open_string shut_string)
set_option linter.unusedVariables false

theorem own : ownKnob Try.prog.godebug = none := by kernel_rfl
theorem laidOut : laidOutB Try.prog = true := by kernel_rfl

set_option maxRecDepth 100000 in
theorem lifted (os : Os) (started : os.Started) (H : Type) (enc : TypeId × Value → H) :
    ReturnsInHanded {} Try.checked os 3 .any (Rows.treeSumsSpec.pre6 enc Try.prog Try.f3 Rows.treeSumsRow.domain false) (Rows.treeSumsSpec.post enc Try.prog Try.f3 false true false false) := by
  refine returnsInHanded_of_change_sized (C := Try.checked) own started (by kernel_rfl) Try.func3
    (ChangeSpec.witness6 (enc := enc) (C := Try.checked) false ⟨#[], #[.slice none 0 0], []⟩ 8 (by kernel_rfl) (by kernel_rfl) (by kernel_rfl) (by kernel_rfl)) ?_
  intro W base args ds gs before hval0 hW hcnd hsz0 _
  have hval : ∀ (j : Nat) t v, Try.f3.params[j]? = some t → args[j]? = some v → Value.okWide Try.prog W .any base t v := hval0
  have hW' := hW
  obtain ⟨p, q, hA0, hV, rfl, hfz, hnd⟩ := hW
  have hA : DataW.TrodAll enc Try.prog W 0 (fun _ => true) true Try.f3.params.toList args.toList ds p := hA0
  rw [Try.params3] at hA hval
  obtain ⟨v0, vs0, d0, ds0, p0, q0, hargs, rfl, rfl, h0, r0⟩ := trodAll_cons hA
  obtain ⟨rfl, rfl, rfl⟩ := trodAll_nil r0
  obtain rfl : args = #[v0] := by cases args; simp_all
  obtain ⟨rfl, rfl⟩ := trodVars_none hV
  obtain ⟨a0, len0, cap0, rfl⟩ := okWide_slice Try.underlying22 (hval 0 22 v0 rfl rfl)
  have k0 := h0
  have lt0 : ∀ x ∈ p0, x.block < W.heap.size := by obtain ⟨m, hm⟩ := k0; exact DataW.trod_lt m _ _ _ hm
  clear hA0 hval0
  refine (TreSo.main a0 len0 cap0 h0 (fun m hm => by have := List.all_eq_true.1 hsz0 m (DataW.weights_mem_each (j := 0) rfl rfl m hm); simpa using this)).mono fun e W' ⟨he, bel⟩ => ?_
  subst he
  exact ⟨_, rfl, _, _, _, [], _, [], hW', trodAll_mk1 (shut_bool Try.underlying4 _), (trodAll_cons_mk (Below.trod laidOut (by kernel_rfl) (of_decide_eq_true (by kernel_rfl)) k0 bel lt0) trodAll_mk0), rfl, bel.frame _, fun h => by cases h⟩

theorem over : Rows.treeSumsRow.holds Try.pinned (OpenSpec.ofChange Rows.treeSumsSpec) :=
  OpenClaim.holds_of_wide 3 Try.f3 rfl rfl rfl rfl rfl rfl rfl ⟨rfl, rfl, rfl, rfl, rfl⟩ rfl rfl rfl rfl rfl (by kernel_rfl) Try.func3 (by kernel_rfl)
    (of_decide_eq_true (by kernel_rfl)) (by unfold Func.isWrapper; first | (rw [if_pos (by decide +kernel)]; kernel_rfl) | (rw [if_neg (by decide +kernel)]; exact ⟨rfl, rfl⟩))
    (fun os started H enc _ => lifted os started H enc)

theorem proved : Rows.TreeSumsSaid := over
#print axioms proved
end Go.Proofs.Ytnloedhcginopaa.treeSums
