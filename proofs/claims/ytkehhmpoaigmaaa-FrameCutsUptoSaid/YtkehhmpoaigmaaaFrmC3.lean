/- However a stream is cut, what was framed is told, in order. -/
import Derived.Test.YtkehhmpoaigmaaaFrmC2
namespace Go.Proofs.Ytkehhmpoaigmaaa.FrmC3
open Go.ChangeShapes Go.WideShapes Go.ChangeAt Go.RowKit Go.Deep Base Wri FrmP FrmA FrmD FrmE FrmF FrmG FrmQ FrmR FrmW FrmX FrmY FrmL FrmZ FrmO FrmM FrmC2
set_option linter.unusedVariables false
set_option linter.unusedSimpArgs false
attribute [local go_sem ↓ high] builtin_app

/-- lengths of pieces, as they came in -/
def CAt (w : World) (a : Option Addr) (n : Nat) (c : Nat → Nat) : Prop := 0 < n → ∃ g o, a = some ⟨g, o, none⟩ ∧ g < w.heap.size ∧ ∀ i, i < n → w.cell? ⟨g, o + i, none⟩ = some (.int .u16 (c i : Nat)) ∧ c i < 65536

theorem cuts_of {H : Type} {enc : TypeId × Value → H} {w : World} {base : Nat} {held : Bool} {a0 : Option Addr} {len0 cap0 : Nat} {d : DataW H} {p : List MemPlace} (h : DataW.Trod enc Try.prog w base (fun _ => true) held 57 (.slice a0 len0 cap0) d p) (hb : Rows.uptoBulk d ≤ 1048576) :
    ∃ c, CAt w a0 len0 c ∧ len0 ≤ 1048576 := by
  obtain ⟨fuel, hf⟩ := h
  have hf : DataW.trod enc Try.prog w base (fun _ => true) held fuel 57 [.slice a0 len0 cap0] = some (d, p) := by simpa [Value.cells] using hf
  rcases open_slice1 Try.underlying57 (by kernel_rfl) hf with ⟨hn, hx⟩ | ⟨a, l, c, m, n, V, D, Pl, hcs, _, hl, hm, hmm, hx, hi⟩
  · simp at hn
    obtain ⟨rfl, rfl, rfl⟩ := hn
    exact ⟨fun _ => 0, fun h => absurd h (by decide), by omega⟩
  · simp at hcs hmm
    obtain ⟨rfl, rfl, rfl⟩ := hcs
    have hx1 := congrArg Prod.fst hx
    dsimp only at hx1
    have each : ∀ i, i < len0 → ∃ x : Nat, w.cell? (a.add i) = some (.int .u16 (x : Nat)) ∧ x < 65536 := fun i him => by
      obtain ⟨h1, h2⟩ := hi i (by omega)
      obtain ⟨n0, e0, _, hw⟩ := DataW.trod_int Try.underlying58 h2
      simp at e0
      have hb : 0 ≤ n0 ∧ n0 ≤ 65535 := by
        simp [Lit.wf, IntKind.min, IntKind.max, IntKind.bits, IntKind.signed] at hw
        omega
      refine ⟨n0.toNat, ?_, by omega⟩
      rw [h1, e0]
      congr 2
      omega
    obtain ⟨f, hF⟩ := Opn.choose2 (n := len0) (0 : Nat) each
    refine ⟨f, fun h0 => ?_, ?_⟩
    · obtain ⟨b, off, spot⟩ := a
      have h00 := (hF 0 (by omega)).1
      have hspot : spot = none := by simpa [Addr.add] using World.cell?_spot h00
      subst hspot
      refine ⟨b, off, rfl, World.block_lt_of_cell? _ _ h00, fun i hi2 => ?_⟩
      have := hF i hi2
      rw [Go.WideShapes.add_plain] at this
      exact this
    · have h1 := bulk_len ((List.range len0).map D)
      simp only [List.length_map, List.length_range] at h1
      rw [hx1] at hb
      have : Rows.uptoBulkAll ((List.range len0).map D) + Rows.uptoBulkAll ((List.range (m - len0)).map fun j => D (len0 + j)) + 1 ≤ 1048576 := hb
      omega

theorem firstErr_say (ls : List Bs) : firstErr ls = 0 ∨ firstErr ls = 5 ∨ firstErr ls = 6 := by
  induction ls with
  | nil => exact .inl rfl
  | cons q r ih =>
    unfold firstErr
    split
    · exact .inr (.inl rfl)
    · split
      · exact .inr (.inr rfl)
      · exact ih
theorem frames_room {ls : List Bs} : (frames ls).length ≤ sumL ls + 4 * ls.length := by
  rw [frames_len]
  unfold place sumL
  induction ls with
  | nil => simp
  | cons q r ih => simp only [List.map_cons, List.sum_cons, List.length_cons] at *; omega

set_option maxRecDepth 100000 in
set_option maxHeartbeats 2000000 in
theorem cuts_core (a0 a1 : Option Addr) (len0 cap0 len1 cap1 : Nat) (ls : List Bs) (f : Nat → Option Addr × Nat) (c : Nat → Nat) (hl : ls.length = len0) (w : World) (hn : len0 ≤ 1048576) (hs : sumL ls ≤ 1048576) (hn1 : len1 ≤ 1048576) (HP : Hid (PAt w w.heap.size a0 ls f)) (HC : Hid (CAt w a1 len1 c)) :
    Calls Try.prog 5 #[.slice a0 len0 cap0, .slice a1 len1 cap1] w fun e w' => e = .returned (.bool true) ∧ Below w.heap.size w w' := by
  have HL := hid hl
  have hroom := frames_room (ls := ls)
  have HFS := hid (firstErr_say ls)
  have H0 := hid (live_any w)
  have HFM := hid (fun w1 (hb : Below w.heap.size w w1) => frames_any a0 cap0 ls f w1 (by omega) (by omega) (hid (by
    have := HP.out.below hb
    intro h0
    obtain ⟨g, o, e, hg, hc⟩ := this h0
    exact ⟨g, o, e, Nat.lt_of_lt_of_le hg hb.size, fun i q hq => ⟨(hc i q hq).1, (hc i q hq).2.1.mono hb.size, (hc i q hq).2.2⟩⟩)))
  rw [hl] at HFM
  clear hl
  go_enter Try.func5, Try.ntmps5
  go_wp2_with fail
  refine H0.out.mono ?_
  rintro e w1 ⟨rfl, hb1⟩
  have HB1 := hid hb1
  have HFM1 := hid (HFM.out w1 hb1)
  clear hb1 H0 HFM
  go_wp2_with fail
  refine HFM1.out.mono ?_
  rintro e w2 ⟨⟨v, rfl, hok, hno⟩, hb2⟩
  have HB2 : Hid (Below w.heap.size w w2) := hid (HB1.out.trans (hb2.mono HB1.out.size))
  have HOK := hid hok
  have HNO := hid hno
  clear hok hno hb2 HFM1
  rcases HFS.out with h5 | h5 | h5
  · obtain ⟨hr, hown⟩ := HOK.out h5
    have hroom2 : (frames ls).length ≤ 5242880 := by rw [HL.out] at hroom; omega
    obtain ⟨F, hF⟩ : ∃ F, frames ls = F := ⟨_, rfl⟩
    have hsp : sp F = (ls, []) := by rw [← hF]; exact sp_frames hr
    have hpl : place ls = F.length := by rw [← hF, frames_len]
    rw [hF] at hown hroom2
    obtain ⟨ba, cb, rfl, hbat, hbg⟩ := owns_bat rfl hown
    have hcb : F.length ≤ cb ∧ cb ≤ 9223372036854775807 := by
      rcases hown.2 with ⟨h1, h2⟩ | ⟨g, cap, cur, h1, _, _, h3, h4, _⟩
      · injection h1 with _ e2 e3; omega
      · injection h1 with _ _ e3; unfold maxLen at h4; omega
    have hown2 := owns_low hown HB1.out.size
    have HSPL : Hid (Calls Try.prog 11 #[.slice ba F.length cb] w2 fun e w' => ∃ ra rc vs, e = .returned (.tuple #[.slice ra len0 rc, .int .i64 (F.length : Nat), .int .i64 0]) ∧ Pls w' w.heap.size (.slice ra len0 rc) vs ls ∧ Below w2.heap.size w2 w') := hid ((split_any ba cb F w2 (by omega) hcb.1 hcb.2 (hid hbat)).mono (by
      rintro e w' ⟨row, vs, he, h1, h2⟩
      rw [hsp] at he h1
      obtain ⟨ra, rc, rfl⟩ := owns_shape h1.own
      dsimp only at he h1
      rw [HL.out, hpl] at he
      rw [HL.out] at h1
      refine ⟨ra, rc, vs, he, ⟨owns_low h1.own (Nat.le_trans HB2.out.size (Nat.le_add_right _ _)), fun i v q h3 h4 => (h1.each i v q h3 h4).low (Nat.le_trans HB2.out.size (Nat.le_add_right _ _)), h1.apart, h1.out⟩, h2⟩))
    have HO2 := hid hown2
    have HSF := hid hsp
    have HFF := hid hF
    have HR := hid hr
    have HBG := hid hbg
    have HBA := hid hbat
    rw [h5]
    clear HOK HNO hown hown2 hbat hbg hr hF hsp hpl HFS HB1 h5
    obtain ⟨L, hL⟩ : ∃ L, F.length = L := ⟨_, rfl⟩
    rw [hL] at HSPL hroom2 hcb HO2 HBG ⊢
    have HLF := hid hL
    clear hL
    go_wp2_with fail
    refine HSPL.out.mono ?_
    rintro e w3 ⟨ra, rc, vs3, rfl, hpls, hb3⟩
    have hb23 : Below w.heap.size w w3 := HB2.out.trans (hb3.mono HB2.out.size)
    have hout := Out.ofPls hpls
    obtain ⟨ra', rc', hrow, hpq⟩ := hout.pat (fun q hq => (HR.out q hq).2)
    rw [HL.out] at hrow
    have HSM := hid (same_pays ra' a0 rc' cap0 ls (whereAt vs3) f w3 (by rw [HL.out]; omega) (hid hpq) (hid (((PQt.of HP.out).below hb23).mono hb23.size)))
    rw [HL.out] at HSM
    injection hrow with er1 _ er3
    subst er1 er3
    have HO3 : Hid (w3.ownsRow w.heap.size 5 1 (.slice ba L cb) L (F.map bv)) := hid (owns_keep HO2.out (fun g e => hb3.block g (HO2.out.lt g e).2))
    have HB3 := hid hb23
    clear hpls hb3 hb23 hout hpq HSPL HO2 HBA HB2
    go_wp2_with fail
    refine HSM.out.mono ?_
    rintro e w4 ⟨rfl, m4, hw4⟩
    have HO4 : Hid (w4.ownsRow w.heap.size 5 1 (.slice ba L cb) L (F.map bv)) := hid (by rw [← hw4]; exact HO3.out)
    have HB4 : Hid (Below w.heap.size w w4) := hid (by rw [← hw4]; exact ⟨HB3.out.os, HB3.out.tape, HB3.out.output, HB3.out.size, HB3.out.block⟩)
    clear hw4 HSM HO3 HB3
    go_wp2_with fail
    refine (New_any w4).mono ?_
    rintro e w5 ⟨rfl, hw5⟩
    have hbel5 : Below w4.heap.size w4 w5 := by rw [← hw5]; exact (Below.refl _ _).alloc (Nat.le_refl _) _
    have HCV : Hid (Cv w w5 w4.heap.size F (.slice ba L cb) (.slice none 0 0) 0) := hid ⟨⟨[], .slice none 0 0, by rw [List.take_zero, sp_nil]; exact ⟨World.ownsRow_nil _ _ _ _, (fun i v q h => by simp at h)⟩, by rw [List.take_zero, sp_nil, ← hw5]; exact new_rd _ _, (fun v hv => by cases hv), (fun g e e2 => by cases e2)⟩,
      by rw [HLF.out]; exact owns_keep HO4.out (fun g e => hbel5.block g (HO4.out.lt g e).2), HB4.out.size, HB4.out.trans (hbel5.mono HB4.out.size)⟩
    clear hw5 hbel5 HO4 HB4
    generalize w4.heap.size = P at *
    go_wp2_with fail
    go_loopw [11, 12, 13] (fun o t i wr => ∃ (p ic : Nat), p ≤ L ∧ (ic ≤ len1 ∨ ic = len1 + 1 ∧ p = L) ∧ t = .int .i64 p ∧ i = .int .i64 ic ∧ Cv w wr P F (.slice ba L cb) o p) (fun _ t i _ => (len1 - (intOf i).toNat) + (L - (intOf t).toNat))
    case atStart => exact ⟨0, 0, Nat.zero_le _, .inl (Nat.zero_le _), rfl, rfl, HCV.out⟩
    case round =>
      obtain ⟨p, ic, hp, hic, rfl, rfl, hcv⟩ := hrel
      have HV := hid hcv
      obtain ⟨vs, va, ho, hrd, hal, hbv⟩ := hcv.o
      have HA := hid (And.intro ho (And.intro hrd (And.intro hal hbv)))
      obtain ⟨oa, oc, hos⟩ := owns_shape ho.own
      subst hos
      clear hcv ho hrd hal hbv
      by_cases hpL : p < L
      · obtain ⟨gb, rfl, _, _⟩ := HBG.out (by omega)
        have hpne : ¬ cb = p := by omega
        have hpne2 : ¬ cb - p = 0 := by omega
        have HPUT : ∀ k, k ≤ L - p → Hid (Calls Try.prog 27 #[.pointer (some ⟨P, 0, none⟩), .slice (some ⟨gb, p, none⟩) k (cb - p)] wr fun e w' => ∃ rb rd vs' va', e = .returned (.tuple #[.slice rb (sp ((sp (F.take p)).2 ++ (F.drop p).take k)).1.length rd, .int .i64 0]) ∧
            PutPost wr w.heap.size P va ⟨(sp (F.take (p + k))).2, false⟩ (sp ((sp (F.take p)).2 ++ (F.drop p).take k)).1 w' (.slice rb (sp ((sp (F.take p)).2 ++ (F.drop p).take k)).1.length rd) vs' va') := fun k hk => hid (by
          have hkl : ((F.drop p).take k).length = k := by rw [List.length_take, List.length_drop, HLF.out]; omega
          have hcp := (cut_put HR.out p k).1
          rw [HFF.out] at hcp
          have hok := cut_ok HR.out p
          rw [HFF.out] at hok
          have h1 := put_any w.heap.size P va ⟨(sp (F.take p)).2, false⟩ (some ⟨gb, p, none⟩) (cb - p) ((F.drop p).take k) wr HA.out.2.1 hok HV.out.bel.size (by omega) (by omega) (by omega) (hid (fun h0 => ⟨gb, p, rfl, (HV.out.b.lt gb rfl).2, fun i x hx => by
              rw [List.getElem?_take] at hx
              split at hx
              · rw [List.getElem?_drop] at hx
                have := HV.out.b.cells (g := gb) rfl (p + i) (bv x) (by rw [List.getElem?_map, hx]; rfl)
                rwa [Go.WideShapes.add_plain, Nat.zero_add] at this
              · cases hx⟩)) (fun _ x e => by
              cases e
              rintro (e1 | e1)
              · obtain ⟨cur, hh⟩ := owns_kind HV.out.b (g := gb) rfl
                exact ne_kind hh HA.out.2.1.blk (by decide) e1
              · exact HA.out.2.2.2 gb rfl e1)
          rw [hkl, hcp] at h1
          refine h1.mono ?_
          rintro e w' ⟨row, vs', va', h2, h3⟩
          obtain ⟨rb, rd, rfl⟩ := owns_shape h3.pls.own
          exact ⟨rb, rd, vs', va', h2, h3⟩)
        have hcnt := sp_count (F.take p)
        rw [List.length_take] at hcnt
        have step : ∀ (k : Nat) (w6 : World) (rb : Option Addr) (rd : Nat) (vs' : List Value) (va' : Value), k ≤ L - p → PutPost wr w.heap.size P va ⟨(sp (F.take (p + k))).2, false⟩ (sp ((sp (F.take p)).2 ++ (F.drop p).take k)).1 w6 (.slice rb (sp ((sp (F.take p)).2 ++ (F.drop p).take k)).1.length rd) vs' va' →
            ∃ oa' oc' w7, Sem.run Try.prog (app #[22, 22] 22 #[.slice oa (sp (F.take p)).1.length oc, .slice rb (sp ((sp (F.take p)).2 ++ (F.drop p).take k)).1.length rd]) w6 = .ok (.slice oa' ((sp (F.take p)).1.length + (sp ((sp (F.take p)).2 ++ (F.drop p).take k)).1.length) oc') w7 ∧
              Cv w w7 P F (.slice (some ⟨gb, 0, none⟩) L cb) (.slice oa' ((sp (F.take p)).1.length + (sp ((sp (F.take p)).2 ++ (F.drop p).take k)).1.length) oc') (p + k) := fun k w6 rb rd vs' va' hk hpp => by
          obtain ⟨o1, al1, ro1⟩ := FrmM.Out.put (w := w) HA.out.1 HA.out.2.1 HA.out.2.2.1 hpp
          have hc2 := sp_count ((sp (F.take p)).2 ++ (F.drop p).take k)
          have hc3 := sp_place (F.take p)
          rw [List.length_append, List.length_take, List.length_drop] at hc2
          rw [List.length_take] at hc3
          have hs6 : w.heap.size ≤ w6.heap.size := Nat.le_trans HV.out.bel.size hpp.wr.size
          obtain ⟨oa', oc', w7, h1, h2, h3⟩ := out_run w6 w.heap.size w.heap.size hs6 oa rb _ _ oc rd vs vs' o1.own hpp.pls.own (by omega) (out_one (Out.ofPls hpp.pls))
          exact ⟨oa', oc', w7, h1, Cv.next HFF.out.symm HR.out HV.out HA.out.1 HA.out.2.1 HA.out.2.2.1 HA.out.2.2.2 hpp h2 h3⟩
        have HSTEP := hid step
        clear step hcnt
        have hrem : (L : Int) - (p : Int) = ((L - p : Nat) : Int) := by omega
        generalize (sp (F.take p)).1.length = m0 at *
        by_cases hi : ic < len1
        · obtain ⟨gc, oc1, rfl, hgc, hcc⟩ := HC.out (by omega)
          obtain ⟨hc1, hc2⟩ := hcc ic hi
          have x1 : wr.cell? ⟨gc, oc1 + ic, none⟩ = some (.int .u16 (c ic : Nat)) := (HV.out.bel.cell (p := ⟨gc, oc1 + ic, none⟩) hgc).trans hc1
          clear hcc hc1
          generalize c ic = ck at *
          by_cases hk : ck < L - p
          · have HPK := HPUT ck (by omega)
            clear HPUT
            go_wp2_with fail
            refine HPK.out.mono ?_
            rintro e w6 ⟨rb, rd, vs', va', rfl, hpp⟩
            obtain ⟨oa', oc', w7, hrun, hcv7⟩ := HSTEP.out ck w6 rb rd vs' va' (by omega) hpp
            have HCV7 := hid hcv7
            clear hcv7 hpp HSTEP HPK
            generalize (sp ((sp (F.take p)).2 ++ (F.drop p).take ck)).1.length = n7 at *
            go_wp2_with fail
            go_roundw
            case rel => exact ⟨p + ck, ic + 1, by omega, by omega, by go_num, by go_num, HCV7.out⟩
            case measure => simp [intOf]; omega
          · have HPK := HPUT (L - p) (Nat.le_refl _)
            clear HPUT
            go_wp2_with fail
            refine HPK.out.mono ?_
            rintro e w6 ⟨rb, rd, vs', va', rfl, hpp⟩
            obtain ⟨oa', oc', w7, hrun, hcv7⟩ := HSTEP.out (L - p) w6 rb rd vs' va' (by omega) hpp
            have HCV7 := hid hcv7
            clear hcv7 hpp HSTEP HPK
            generalize (sp ((sp (F.take p)).2 ++ (F.drop p).take (L - p))).1.length = n7 at *
            go_wp2_with fail
            go_roundw
            case rel => exact ⟨p + (L - p), ic + 1, by omega, by omega, by go_num, by go_num, HCV7.out⟩
            case measure => simp [intOf]; omega
        · have HPK := HPUT (L - p) (Nat.le_refl _)
          clear HPUT
          go_wp2_with fail
          refine HPK.out.mono ?_
          rintro e w6 ⟨rb, rd, vs', va', rfl, hpp⟩
          obtain ⟨oa', oc', w7, hrun, hcv7⟩ := HSTEP.out (L - p) w6 rb rd vs' va' (by omega) hpp
          have HCV7 := hid hcv7
          clear hcv7 hpp HSTEP HPK
          generalize (sp ((sp (F.take p)).2 ++ (F.drop p).take (L - p))).1.length = n7 at *
          go_wp2_with fail
          go_roundw
          case rel => exact ⟨p + (L - p), ic + 1, by omega, by omega, by go_num, by go_num, HCV7.out⟩
          case measure => simp [intOf]; omega
      · obtain rfl : p = L := by omega
        have ht : F.take p = F := List.take_of_length_le (by rw [HLF.out]; exact Nat.le_refl _)
        have e1 : (sp (F.take p)).1 = ls := by rw [ht, HSF.out]
        have e2 : (sp (F.take p)).2 = [] := by rw [ht, HSF.out]
        rw [e1, e2] at HA
        rw [e1, HL.out]
        obtain ⟨ho, hrd, _, _⟩ := HA.out
        obtain ⟨oa', oc', hos, hpq⟩ := ho.pat (fun q hq => (HR.out q hq).2)
        rw [HL.out] at hos
        have hbw := HV.out.bel
        have HSM := hid (same_pays oa' a0 oc' cap0 ls (whereAt vs) f wr (by rw [HL.out]; omega) (hid hpq) (hid (((PQt.of HP.out).below hbw).mono hbw.size)))
        rw [HL.out] at HSM
        injection hos with er1 _ er3
        subst er1 er3
        obtain ⟨sa, sc, hsv, _, _⟩ := hrd.slice
        have HIS := hid hrd
        have HBW := hid hbw
        clear ht e1 e2 ho hrd hpq hbw HA HV HCV
        go_wp2_with fail
        refine HSM.out.mono ?_
        rintro e w8 ⟨rfl, m8, hw8⟩
        have h8 : IsRd w8 w.heap.size P va ⟨[], false⟩ := by rw [← hw8]; exact HIS.out.drewN m8
        have hb8 : Below w.heap.size w w8 := by rw [← hw8]; exact ⟨HBW.out.os, HBW.out.tape, HBW.out.output, HBW.out.size, HBW.out.block⟩
        have hc0 := h8.cells.1
        rw [hsv] at hc0
        have HLE := hid (left_any P 0 sc sa w8 (by omega) hc0)
        have HMI := hid (missing_any w.heap.size P va ⟨[], false⟩ w8 h8 ok2)
        rw [show (Rd.mk [] false).missing = 4 from by decide] at HMI
        have HB8 := hid hb8
        clear hw8 h8 hb8 hc0 hsv HSM HIS HBW
        go_wp2_with fail
        refine HLE.out.mono ?_
        rintro e w9 ⟨rfl, rfl⟩
        go_wp2_with fail
        refine HMI.out.mono ?_
        rintro e w10 ⟨rfl, m10, hw10⟩
        have HB10 : Hid (Below w.heap.size w w10) := hid (by rw [← hw10]; exact ⟨HB8.out.os, HB8.out.tape, HB8.out.output, HB8.out.size, HB8.out.block⟩)
        clear hw10 HLE HMI HB8
        go_wp2_with fail
        go_ret
        exact ⟨rfl, HB10.out⟩
  · have hv := HNO.out (by rw [h5]; decide)
    subst hv
    rw [h5]
    go_wp2_with fail
    go_ret
    exact ⟨rfl, HB2.out⟩
  · have hv := HNO.out (by rw [h5]; decide)
    subst hv
    rw [h5]
    go_wp2_with fail
    go_ret
    exact ⟨rfl, HB2.out⟩

end Go.Proofs.Ytkehhmpoaigmaaa.FrmC3
