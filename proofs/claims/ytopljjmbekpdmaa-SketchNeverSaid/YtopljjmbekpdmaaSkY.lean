/- SketchNever. -/
import Derived.Test.YtopljjmbekpdmaaSkX
import Derived.Test.YtopljjmbekpdmaaStr
import Derived.Test.YtopljjmbekpdmaaRoom
import Derived.Deep.QuietTactic
import Derived.BigQuiet
namespace Go.Proofs.Ytopljjmbekpdmaa.SkY
open Go.ChangeShapes Go.WideShapes Go.ChangeAt Go.RowKit Go.Deep Base Wri Map WldG SkK SkA SkB SkC SkD SkE SkF SkG SkH SkI SkJ SkL SkM SkN SkP SkQ SkR SkS SkT SkU SkV SkX Str
set_option linter.unusedVariables false

variable {w w' w0 w1 : World} {p q last t : Nat} {go : Option Nat} {X Y : Shp} {ns : List Note} {qs : List Nat} {mpf : Nat → Nat}

set_option maxRecDepth 100000 in
set_option maxHeartbeats 4000000 in
theorem never_core (wd bk ro co : Int) (sd : Nat) (a : Option Addr) (len cap : Nat) (hlen : len ≤ 2513169434916) (D : Nat → Deed) (sv : Value) (hsv : sv = .slice a len cap) (w : World) (HC : Hid (Deeds w a len D)) :
    Calls Try.prog 5 #[.agg #[.int .i64 wd, .int .i64 bk, .int .i64 ro, .int .i64 co, .int .u64 sd], sv] w fun e w' => e = .returned (.bool true) ∧ Below w.heap.size w w' := by
  have HSV := hid hsv
  clear hsv
  go_enter Try.func5, Try.ntmps5
  go_wp2_with fail
  refine (live_look _).mono ?_
  rintro e w1 ⟨rfl, hb1⟩
  have k0 : w1.cell? ⟨w.heap.size, 0, none⟩ = some (.int .i64 wd) := (hb1.cell (p := ⟨w.heap.size, 0, none⟩) (by simp)).trans (by go_cell)
  have k1 : w1.cell? ⟨w.heap.size, 1, none⟩ = some (.int .i64 bk) := (hb1.cell (p := ⟨w.heap.size, 1, none⟩) (by simp)).trans (by go_cell)
  have k2 : w1.cell? ⟨w.heap.size, 2, none⟩ = some (.int .i64 ro) := (hb1.cell (p := ⟨w.heap.size, 2, none⟩) (by simp)).trans (by go_cell)
  have k3 : w1.cell? ⟨w.heap.size, 3, none⟩ = some (.int .i64 co) := (hb1.cell (p := ⟨w.heap.size, 3, none⟩) (by simp)).trans (by go_cell)
  have k4 : w1.cell? ⟨w.heap.size, 4, none⟩ = some (.int .u64 sd) := (hb1.cell (p := ⟨w.heap.size, 4, none⟩) (by simp)).trans (by go_cell)
  have HB1 : Hid (Below w.heap.size w w1) := hid (((Below.refl _ w).alloc (Nat.le_refl _) _).trans (hb1.mono (by simp)))
  have hxl : w.heap.size < w1.heap.size := by have := hb1.size; simp at this; omega
  clear hb1
  go_wp2_with fail
  refine (New_any wd bk ro co sd w1).mono ?_
  rintro e w2 (⟨hr, X, q, p, rfl, rfl, rfl, rfl, rfl, rfl, hO⟩ | ⟨hr, rfl, hb2⟩)
  · have hok := hO.full.ok
    have HOK := hid hok
    have q0 := hok.q0
    have q1 : q ≤ 1099511627776 := by have h1 := hok.we; have h2 := hok.b1; have h3 := hok.w1; have := Nat.le_mul_of_pos_right q h2; omega
    have b1 := hok.b1
    have b2 := hok.b2
    have x1 := hok.w1
    have hqe : ((X.wd : Int) / (X.bk : Int)) = (q : Int) := by rw [← Int.natCast_ediv, hok.qe]
    have hst : St w1 w2 p none X q 0 [] [] (fun _ => 0) (.slice none 0 0) := ⟨hO, ⟨rfl, .inl ⟨rfl, rfl⟩⟩, (fun g hg => by cases hg), (fun d hd => by cases hd)⟩
    have HST := hid hst
    have j0 := (hO.bel.cell (p := ⟨w.heap.size, 0, none⟩) hxl).trans k0
    have j1 := (hO.bel.cell (p := ⟨w.heap.size, 1, none⟩) hxl).trans k1
    have HJ1 := hid k1
    have HQE := hid hqe
    clear hr hO k0 k1 k2 k3 k4 hst hok
    go_wp2_with fail
    obtain ⟨i0, hi, hz0, hz1, hz2⟩ := info_parts infoDeed
    have HI0 := hid hi; have HZ0 := hid hz0; have HZ1 := hid hz1; have HZ2 := hid hz2
    clear hi hz0 hz1 hz2
    have hsv := HSV.out
    subst hsv
    have hlm := HC.out.1
    go_loopw [8, 9] (fun v i wr => ∃ k : Nat, k ≤ len ∧ i = .int .i64 k ∧ ∃ (go : Option Nat) (last : Nat) (ds : List Deed) (qs : List Nat) (mpf : Nat → Nat), ds.length ≤ k ∧ St w1 wr p go X q last ds qs mpf v) (fun _ i _ => len - (intOf i).toNat)
    case atStart => exact ⟨0, Nat.zero_le _, rfl, none, 0, [], [], fun _ => 0, Nat.le_refl _, HST.out⟩
    case round =>
      obtain ⟨k, hk, rfl, go, last, ds, qs, mpf, hdl, hS⟩ := hrel
      have HS := hid hS
      obtain ⟨va, vc, rfl⟩ := owns_shape hS.done
      clear hS HST
      by_cases hlt : k < len
      · obtain ⟨g, o, rfl, hg, hc⟩ := HC.out.2.1 (by omega)
        have hck := hc k hlt
        obtain ⟨hks, hDn, hDf⟩ := HC.out.2.2 k hlt
        have hb := HB1.out.trans (HS.out.own.bel.mono HB1.out.size)
        have HDK := hid hks
        obtain ⟨d, hd⟩ : ∃ d, D k = d := ⟨_, rfl⟩
        rw [hd] at hck hks hDn hDf
        have c0 : wr.cell? ⟨g, o + k * 4, none⟩ = some (.int .i64 d.kind) := (hb.cell (p := ⟨g, o + k * 4, none⟩) hg).trans (hck 0 _ rfl)
        have c1 : wr.cell? ⟨g, o + k * 4 + 1, none⟩ = some (.int .i64 d.t) := (hb.cell (p := ⟨g, o + k * 4 + 1, none⟩) hg).trans (hck 1 _ rfl)
        have c2 : wr.cell? ⟨g, o + k * 4 + 2, none⟩ = some (.string d.key) := (hb.cell (p := ⟨g, o + k * 4 + 2, none⟩) hg).trans (hck 2 _ rfl)
        have c3 : wr.cell? ⟨g, o + k * 4 + 3, none⟩ = some (.slice d.a d.n d.cap) := (hb.cell (p := ⟨g, o + k * 4 + 3, none⟩) hg).trans (hck 3 _ rfl)
        have HKS := hid hks
        have HA := hid (Add_st (HS.out.alloc (.cells #[.int .i64 d.kind, .int .i64 d.t, .string d.key, .slice d.a d.n d.cap] 39)) d hks hDn (ints_below hDf HB1.out))
        clear hc hck hks hDn hDf hb HDK hd
        by_cases hkd : d.kind = 0
        · rw [hkd] at c0 HA
          go_wp2_with fail
          refine HA.out.mono ?_
          have HBD : Hid (Below wr.heap.size wr (wr.alloc (.cells #[.int .i64 0, .int .i64 d.t, .string d.key, .slice d.a d.n d.cap] 39))) := hid ((Below.refl _ wr).alloc (Nat.le_refl _) _)
          rintro e w3 (⟨r, hr0, rfl, hw3⟩ | ⟨rfl, hgd, hwr3, go', qs', mpf', hmid⟩)
          · have hrb : (r != 0) = true := by simpa using hr0
            have HS3 := hid (hw3 ▸ HS.out.below HBD.out)
            clear hr0 HA hw3 HBD
            go_wp2_with fail
            go_roundw
            case rel => exact ⟨k + 1, by omega, by go_num, go, last, ds, qs, mpf, by omega, HS3.out⟩
            case measure => simp [intOf]; omega
          · have hdd : ∀ (j : Nat) x, (dw d)[j]? = some x → w3.cell? ⟨wr.heap.size, j, none⟩ = some x := fun j x hx => by
              refine (hwr3.cell j (by simp) (fun hk => ?_)).trans (by have := cells4_new wr d j x hx; rwa [hkd] at this)
              have := HS.out.own.full.lt hk
              omega
            have hs3 : wr.heap.size < w3.heap.size := by have := hwr3.size; simp at this; omega
            have d0 : w3.cell? ⟨wr.heap.size, 0, none⟩ = some (.int .i64 0) := by have := hdd 0 (.int .i64 d.kind) rfl; rwa [hkd] at this
            have d1 : w3.cell? ⟨wr.heap.size, 1, none⟩ = some (.int .i64 d.t) := hdd 1 _ rfl
            have d2 : w3.cell? ⟨wr.heap.size, 2, none⟩ = some (.string d.key) := hdd 2 _ rfl
            have d3 : w3.cell? ⟨wr.heap.size, 3, none⟩ = some (.slice d.a d.n d.cap) := hdd 3 _ rfl
            have HKD := hid hkd
            have HD := hid hdd
            have HM := hid hmid
            have HGD := hid hgd
            have hownd : (w3.alloc (.cells #[.int .i64 0, .int .i64 d.t, .string d.key, .slice d.a d.n d.cap] 39)).ownsRow w1.heap.size 39 4 (.slice va ds.length vc) ds.length (flatD ds) := World.ownsRow.alloc HM.out.done _
            have hsz := HM.out.own.bel.size
            clear HA hdd hmid hgd hwr3 HBD c0 c1 c2 c3 hkd
            have hi := HI0.out; have hz0 := HZ0.out; have hz1 := HZ1.out; have hz2 := HZ2.out
            go_wp2_with (at_builtin; (refine wpList_append_own_at _ rfl _ _ 25 rfl w1.heap.size 39 i0 (.agg #[.int .i64 0, .int .i64 0, .string ⟨#[]⟩, .slice none 0 0]) 4 56 Try.underlying25 hi hz0 hz1 hz2 rfl (by decide) (Value.slice va ds.length vc) _ _ rfl hownd ⟨w3.heap.size, 0, none⟩ 1 1 [.int .i64 0, .int .i64 d.t, .string d.key, .slice d.a d.n d.cap] rfl ?c1 ?c2 ?c3 ?c4 ?c5 ?c6 ?_); rotate_left 6; intro v' w5 hown5 hgr5 hnil5 hat5)
            case c1 => rfl
            case c2 => exact cells4_at _ _ _ _ _ _
            case c3 => intro u hu; simp at hu; rcases hu with rfl | rfl | rfl | rfl <;> rfl
            case c4 => unfold maxLen; omega
            case c5 => omega
            case c6 => simp; omega
            have hown6 : OwnD w1.heap.size w5 v' (ds ++ [d]) := by
              unfold OwnD
              rw [flatD_app, List.length_append, HKD.out]
              exact hown5
            have hne : (Value.slice va ds.length vc).ownBlock ≠ some wr.heap.size := fun e => by have := (World.ownsRow.lt HS.out.done _ e).2; omega
            obtain ⟨hS5, hh5, hs5⟩ := after_push HM.out hown6 hgr5 hat5 wr.heap.size hs3 hne
            have hpos : 0 < (ds ++ [d]).length := by simp
            obtain ⟨g5, cap5, rfl, hg5, hrow5⟩ := hown6.form hpos
            have HIN : Hid (Inner w5 g5 wr.heap.size w.heap.size (ds ++ [d]) d X.bk) := hid ⟨hrow5, fun j x hx => (World.cell?_of_block (a := ⟨wr.heap.size, j, none⟩) hh5).trans (HD.out j x hx), (hS5.own.bel.cell (p := ⟨w.heap.size, 1, none⟩) hxl).trans HJ1.out, hg5, by omega, Nat.lt_of_lt_of_le hxl hS5.own.bel.size⟩
            have HS5 := hid hS5
            have hml : (ds ++ [d]).length ≤ k + 1 := by rw [List.length_append]; simp; omega
            have HLA : Hid ((ds ++ [d])[ds.length]? = some d) := hid (by simp)
            clear hown5 hown6 hgr5 hnil5 hat5 hne hS5 hrow5 hownd d0 d1 d2 d3 hi hz0 hz1 hz2 hh5 hs5 hpos HM HD j0 j1
            generalize ds ++ [d] = dl at *
            obtain ⟨dt, hdt⟩ : ∃ dt : Nat, d.t = dt := ⟨d.t.toNat, by have := HGD.out.t0; omega⟩
            have hdt1 : dt ≤ 1152921504606846976 := by have := HGD.out.t1; omega
            have HDT := hid hdt
            have hdt2 : d.t.toNat = dt := by omega
            rw [hdt2] at HS5
            clear hdt hdt2
            generalize hml2 : dl.length = ml at *
            have HML := hid hml2
            generalize wr.heap.size = dB at *
            obtain ⟨K, hK⟩ : ∃ K, d.key = K := ⟨_, rfl⟩
            have HK := hid hK
            have HKK : Hid (K.size ≤ maxLen) := hid (hK ▸ HKS.out)
            clear hml2 hK HS
            go_wp2_with fail
            go_loopw [11, 12] (fun o i wr2 => ∃ kk : Nat, kk ≤ ml ∧ i = .int .i64 kk ∧ o = .int .i64 (ownN q X.bk dt K ((dl.take kk).map noteOf) : Nat) ∧ Below w5.heap.size w5 wr2) (fun _ i _ => ml - (intOf i).toNat)
            case atStart => exact ⟨0, Nat.zero_le _, rfl, rfl, Below.refl _ _⟩
            case round =>
              obtain ⟨kk, hkk, rfl, rfl, hb2⟩ := hrel
              have HB2 := hid hb2
              clear hb2
              by_cases hlt2 : kk < ml
              · obtain ⟨e, he⟩ : ∃ e, dl[kk]? = some e := ⟨dl[kk]'(by rw [HML.out]; exact hlt2), List.getElem?_eq_getElem _⟩
                have hin := HIN.out.below HB2.out
                have hge := HS5.out.good e (List.mem_of_getElem? he)
                obtain ⟨et, het⟩ : ∃ et : Nat, e.t = et := ⟨e.t.toNat, by have := hge.t0; omega⟩
                have het1 : et ≤ 1152921504606846976 := by have := hge.t1; omega
                have HE := hid he
                have HGE := hid hge
                have HSN := hid (own_snoc q X.bk dt K dl kk e he)
                have hen := hge.n1
                have HOW : Hid (isOwn q X.bk dt K (noteOf e) = (decide (dt / q < et / q + X.bk) && decide (e.key = K))) := hid (by
                  unfold isOwn inW noteOf
                  rw [het]; rfl)
                obtain ⟨w0n, hw0n⟩ : ∃ x, ownN q X.bk dt K ((dl.take kk).map noteOf) = x := ⟨_, rfl⟩
                have hw0 : w0n ≤ 4611686018427387904 := hw0n ▸ own_le _ _ _ _ _
                have HSAT : Hid (sat (w0n + 0) = w0n) := hid (hw0n ▸ sat_own _ _ _ _ _)
                rw [hw0n] at HSN ⊢
                have HET := hid het
                clear he hge het hw0n hin
                go_wp2_with fail
                go_loopw [11, 13] (fun o i wr3 => ∃ nn : Nat, nn ≤ e.n ∧ (isOwn q X.bk dt K (noteOf e) = false → nn = 0) ∧ i = .int .i64 nn ∧ o = .int .i64 (sat (w0n + SkD.sumTo (fun i => (e.f i).toNat) nn) : Nat) ∧ Below w5.heap.size w5 wr3) (fun _ i _ => e.n - (intOf i).toNat)
                case atStart => exact ⟨0, Nat.zero_le _, fun _ => rfl, rfl, by rw [show SkD.sumTo (fun i => (e.f i).toNat) 0 = 0 from rfl, HSAT.out], HB2.out⟩
                case round =>
                  obtain ⟨nn, hnn, hno, rfl, rfl, hb3⟩ := hrel
                  have HB3 := hid hb3
                  have HNO := hid hno
                  have hin := HIN.out.below hb3
                  have y1 : wr.cell? ⟨g5, kk * 4 + 1, none⟩ = some (.int .i64 et) := HET.out ▸ hin.row kk e HE.out 1 _ rfl
                  have y2 : wr.cell? ⟨g5, kk * 4 + 2, none⟩ = some (.string e.key) := hin.row kk e HE.out 2 _ rfl
                  have y3 : wr.cell? ⟨g5, kk * 4 + 3, none⟩ = some (.slice e.a e.n e.cap) := hin.row kk e HE.out 3 _ rfl
                  have z1 : wr.cell? ⟨dB, 1, none⟩ = some (.int .i64 dt) := HDT.out ▸ hin.dd 1 _ rfl
                  have z2 : wr.cell? ⟨dB, 2, none⟩ = some (.string K) := HK.out ▸ hin.dd 2 _ rfl
                  have z3 : wr.cell? ⟨w.heap.size, 1, none⟩ = some (.int .i64 X.bk) := hin.bb
                  have l1 := hin.lg
                  have l2 := hin.ld
                  have l3 := hin.lx
                  have HIN3 := hid hin
                  clear hb3 hno hin
                  obtain ⟨cur, hcur⟩ : ∃ x, sat (w0n + SkD.sumTo (fun i => (e.f i).toNat) nn) = x := ⟨_, rfl⟩
                  have hcu : cur ≤ 4611686018427387904 := hcur ▸ sat_le _
                  have HCUR := hid hcur
                  rw [hcur]
                  clear hcur
                  by_cases hlt3 : nn < e.n
                  · cases hk : decide (e.key = K) with
                    | true =>
                      have hkb : (e.key.toList == K.toList) = true := by rw [text_eq]; exact hk
                      have hq1 := div_bounds (q := q) hdt1
                      have hq2 := div_bounds (q := q) het1
                      obtain ⟨hq3, hq4⟩ := hq1
                      obtain ⟨hq5, hq6⟩ := hq2
                      cases hw : decide (dt / q < et / q + X.bk) with
                      | true =>
                        have hdw : decide ((dt : Int) / q - X.bk < (et : Int) / q) = true := by rw [decide_eq_true_iff] at hw ⊢; have h1 := Int.natCast_ediv dt q; have h2 := Int.natCast_ediv et q; omega
                        obtain ⟨ge, oe, hea, hgel, hec⟩ := HGE.out.at_ (by omega)
                        have hbw := HS5.out.own.bel.trans (HB3.out.mono HS5.out.own.bel.size)
                        obtain ⟨hf0, hf1⟩ := HGE.out.f1 nn hlt3
                        obtain ⟨fn, hfn⟩ : ∃ fn : Nat, e.f nn = fn := ⟨(e.f nn).toNat, by omega⟩
                        have x0 : wr.cell? ⟨ge, oe + nn, none⟩ = some (.int .i64 fn) := by
                          have := (hbw.cell (p := ⟨ge, oe + nn, none⟩) hgel).trans (hec nn hlt3)
                          rwa [hfn] at this
                        have HNX : Hid (sat (cur + fn) = sat (w0n + SkD.sumTo (fun i => (e.f i).toNat) (nn + 1))) := hid (by
                          rw [← HCUR.out, sat_add1]
                          show _ = sat (w0n + (SkD.sumTo (fun i => (e.f i).toNat) nn + (e.f nn).toNat))
                          rw [hfn]; congr 1; omega)
                        have HIS : Hid (isOwn q X.bk dt K (noteOf e) = true) := hid (by rw [HOW.out, hk, hw]; rfl)
                        have hfb : fn ≤ 1099511627776 := by omega
                        have hge2 : ge < wr.heap.size := Nat.lt_of_lt_of_le hgel hbw.size
                        rw [hea] at y3
                        clear hea hec hf0 hf1 hfn hbw hgel hk hw
                        go_wp2_with fail
                        go_quiet (fail)
                        have HB4 := hid (HB3.out.trans (SkX.drewN_below wr nq _))
                        have y3' : (wr.drewN nq).cell? ⟨g5, kk * 4 + 3, none⟩ = some (.slice (some ⟨ge, oe, none⟩) e.n e.cap) := y3
                        have x0' : (wr.drewN nq).cell? ⟨ge, oe + nn, none⟩ = some (.int .i64 fn) := x0
                        have l1' : g5 < (wr.drewN nq).heap.size := l1
                        have l2' : ge < (wr.drewN nq).heap.size := hge2
                        clear y1 y2 y3 z1 z2 z3 x0 l1 l2 l3 hge2 HB3 HIN3 hdw hkb
                        generalize wr.drewN nq = wd at *
                        have HP := hid (Plus_any cur fn hcu hfb wd)
                        go_wp2_with fail
                        refine HP.out.mono ?_
                        rintro e2 w4 ⟨rfl, rfl⟩
                        clear HP
                        go_wp2_with fail
                        go_roundw
                        case rel => exact ⟨nn + 1, by omega, (fun h => by rw [HIS.out] at h; cases h), by go_num, by rw [HNX.out], HB4.out⟩
                        case measure => simp [intOf]; omega
                      | false =>
                        have hdw : decide ((dt : Int) / q - X.bk < (et : Int) / q) = false := by rw [decide_eq_false_iff_not] at hw ⊢; have h1 := Int.natCast_ediv dt q; have h2 := Int.natCast_ediv et q; omega
                        have HX : Hid (ownN q X.bk dt K ((dl.take (kk + 1)).map noteOf) = cur) := hid (by
                          have hf : isOwn q X.bk dt K (noteOf e) = false := by rw [HOW.out, hk, hw]; rfl
                          rw [HSN.out, ← HCUR.out, HNO.out hf, hf]; rfl)
                        have hdw2 : (et : Int) / q ≤ (dt : Int) / q - X.bk := by rw [decide_eq_false_iff_not] at hdw; omega
                        clear hk hw
                        go_wp2_with fail
                        go_quiet (fail)
                        have HB4 := hid (HB3.out.trans (SkX.drewN_below wr nq _))
                        clear y1 y2 y3 z1 z2 z3 l1 l2 l3 HB3 HIN3 hkb
                        generalize wr.drewN nq = wd at *
                        go_wp2_with fail
                        go_roundw
                        case rel => exact ⟨kk + 1, by omega, by go_num, by rw [HX.out], HB4.out⟩
                        case measure => simp [intOf]; omega
                    | false =>
                      have hkb : (e.key.toList == K.toList) = false := by rw [text_eq]; exact hk
                      have HX : Hid (ownN q X.bk dt K ((dl.take (kk + 1)).map noteOf) = cur) := hid (by
                        have hf : isOwn q X.bk dt K (noteOf e) = false := by rw [HOW.out, hk, Bool.and_false]
                        rw [HSN.out, ← HCUR.out, HNO.out hf, hf]; rfl)
                      clear hk
                      go_wp2_with fail
                      go_quiet (fail)
                      have HB4 := hid (HB3.out.trans (SkX.drewN_below wr nq _))
                      clear y1 y2 y3 z1 z2 z3 l1 l2 l3 HB3 HIN3 hkb
                      generalize wr.drewN nq = wd at *
                      go_wp2_with fail
                      go_roundw
                      case rel => exact ⟨kk + 1, by omega, by go_num, by rw [HX.out], HB4.out⟩
                      case measure => simp [intOf]; omega
                  · have hlt4 : decide (nn < e.n) = false := by simpa using hlt3
                    have HX : Hid (ownN q X.bk dt K ((dl.take (kk + 1)).map noteOf) = cur) := hid (by
                      rw [HSN.out, ← HCUR.out]
                      cases hf : isOwn q X.bk dt K (noteOf e) with
                      | true => rw [show nn = e.n by omega]; rfl
                      | false => rw [HNO.out hf]; rfl)
                    obtain rfl : nn = e.n := by omega
                    clear hlt3
                    go_wp2_with fail
                    go_quiet (fail)
                    have HB4 := hid (HB3.out.trans (SkX.drewN_below wr nq _))
                    clear y1 y2 y3 z1 z2 z3 l1 l2 l3 HB3 HIN3
                    generalize wr.drewN nq = wd at *
                    go_wp2_with fail
                    go_roundw
                    case rel => exact ⟨kk + 1, by omega, by go_num, by rw [HX.out], HB4.out⟩
                    case measure => simp [intOf]; omega
              · obtain rfl : kk = ml := by omega
                have HIN2 := hid (HIN.out.below HB2.out)
                have z1 : wr.cell? ⟨dB, 1, none⟩ = some (.int .i64 dt) := HDT.out ▸ HIN2.out.dd 1 _ rfl
                have z2 : wr.cell? ⟨dB, 2, none⟩ = some (.string K) := HK.out ▸ HIN2.out.dd 2 _ rfl
                have l2 := HIN2.out.ld
                have htk : dl.take kk = dl := List.take_of_length_le (Nat.le_of_eq HML.out)
                rw [htk]
                obtain ⟨w0n, hw0n⟩ : ∃ x, ownN q X.bk dt K (dl.map noteOf) = x := ⟨_, rfl⟩
                obtain ⟨n1, hn1⟩ : ∃ x, estN q X (dl.map noteOf) dt K = x := ⟨_, rfl⟩
                obtain ⟨n2, hn2⟩ : ∃ x, totalN q X.bk (dl.map noteOf) dt = x := ⟨_, rfl⟩
                have hle1 : w0n ≤ n1 := by rw [← hw0n, ← hn1]; exact own_le_est _ _ _ _ _
                have hle2 : n1 ≤ n2 := by rw [← hn2, ← hn1]; exact est_le_total HOK.out _ _ _
                have HS6 := hid (HS5.out.below HB2.out)
                have HES := hid (Estimate_yes HS6.out.own.full (t := dt) (Nat.le_refl _) hdt1 K HKK.out)
                rw [hn1] at HES
                rw [hw0n]
                have HN2 := hid hn2
                clear htk hw0n hn1 hn2
                go_wp2_with fail
                refine HES.out.mono ?_
                rintro e w6 ⟨rfl, hb6⟩
                have HS7 := hid (HS6.out.below hb6)
                have z1' : w6.cell? ⟨dB, 1, none⟩ = some (.int .i64 dt) := (hb6.cell (p := ⟨dB, 1, none⟩) l2).trans z1
                have HTO := hid (Total_yes HS7.out.own.full (t := dt) (Nat.le_refl _) hdt1)
                rw [HN2.out] at HTO
                clear z1 z2 HES HS6 hb6
                go_wp2_with fail
                refine HTO.out.mono ?_
                rintro e w7 ⟨rfl, hb7⟩
                have HS8 := hid (HS7.out.below hb7)
                clear z1' HTO hb7 HS7
                go_wp2_with fail
                go_roundw
                case rel => exact ⟨k + 1, by omega, by go_num, go', dt, dl, qs', mpf', by rw [HML.out]; exact hml, HS8.out⟩
                case measure => simp [intOf]; omega
        · have hkb : (d.kind != 0) = true := by simpa using hkd
          clear HA hkd
          go_wp2_with fail
          go_roundw
          case rel => exact ⟨k + 1, by omega, by go_num, go, last, ds, qs, mpf, by omega, HS.out.alloc _⟩
          case measure => simp [intOf]; omega
      · obtain rfl : k = len := by omega
        have HBE := hid (HB1.out.trans (HS.out.own.bel.mono HB1.out.size))
        go_wp2_with fail
        go_ret
        exact ⟨rfl, HBE.out⟩
  · have hrf : (refZ wd bk ro co != 0) = true := by simpa using hr
    have HB2 := hid (HB1.out.trans (hb2.mono HB1.out.size))
    generalize refZ wd bk ro co = r at *
    clear hb2 k0 k1 k2 k3 k4 hr
    go_wp2_with fail
    go_ret
    exact ⟨rfl, HB2.out⟩

theorem main {H : Type} {enc : TypeId × Value → H} {W : World} {base : Nat} {spare : Nat → Bool} {held : Bool} {d1 : DataW H} {p1 : List MemPlace} (wd bk ro co : Int) (sd : Nat) (w0 : (Lit.int .i64 ro).wf = true) (a1 : Option Addr) (len1 cap1 : Nat)
    (h1 : DataW.Trod enc Try.prog W base spare held 25 (.slice a1 len1 cap1) d1 p1) (hz : ∀ m ∈ d1.weights Try.prog 25, m ≤ reachBytes) :
    Calls Try.prog 5 #[.agg #[.int .i64 wd, .int .i64 bk, .int .i64 ro, .int .i64 co, .int .u64 sd], .slice a1 len1 cap1] W fun e w' => e = .returned (.bool true) ∧ Below W.heap.size W w' := by
  obtain ⟨D, hD⟩ := deeds_of h1
  obtain ⟨fuel, hf⟩ := h1
  have hr := Room.rows_room Try.underlying25 (by simpa [Value.cells] using hf) hz
  rw [show Try.prog.bytesOf 39 = 56 by kernel_rfl] at hr
  unfold reachBytes at hr
  exact never_core wd bk ro co sd a1 len1 cap1 (by omega) D _ rfl W (hid hD)

end Go.Proofs.Ytopljjmbekpdmaa.SkY
