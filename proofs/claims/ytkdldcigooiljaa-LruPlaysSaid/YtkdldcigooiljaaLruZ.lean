/- LruPlays, where there is a map. -/
import Derived.Test.YtkdldcigooiljaaLruY
namespace Go.Proofs.Ytkdldcigooiljaa.LruZ
open Go.ChangeShapes Go.WideShapes Go.ChangeAt Go.RowKit Go.Deep Base Wri LruA LruB LruC LruD LruE LruF LruL LruR LruU LruV LruW LruX LruY RefL RefM RefN RefO RefP

set_option maxRecDepth 100000 in
set_option maxHeartbeats 4000000 in
theorem plays_yes (most : Nat) (hm1 : 1 ≤ most) (hm2 : most ≤ 4096) (a : Option Addr) (len cap : Nat) (D : Nat → Deed) (sv : Value) (hsv : sv = .slice a len cap) (w : World) (HC : Hid (Deeds w a len D)) :
    Calls Try.prog 4 #[.int .i64 most, sv] w fun e w' => e = .returned (.bool true) ∧ Below w.heap.size w w' := by
  have HSV := hid hsv
  clear hsv
  go_enter Try.func4, Try.ntmps4
  go_wp2_with fail
  refine (new_yes most w hm1 hm2).mono ?_
  rintro e w1 ⟨S, rfl, hm, hl, hb, hab⟩
  have hT := two_new most w w1 S hm hl hb hab
  have hB := hb.alloc hb.size (.cells #[.int .i64 most, .slice none 0 0] 121)
  have HN := hid (rnew_yes most w1 hm1 hm2)
  have HT := hid hT
  have HB0 := hid hB
  clear hm hl hb hab hT hB
  unfold ptr at *
  go_wp2_with fail
  refine HN.out.mono ?_
  rintro e w2 ⟨rfl, rfl⟩
  clear HN
  generalize w1.heap.size = rb at *
  generalize w1.alloc (.cells #[.int .i64 most, .slice none 0 0] 121) = wa at *
  have HLv := hid (live_look wa)
  go_wp2_with fail
  refine HLv.out.mono ?_
  rintro e wl ⟨rfl, hbl⟩
  obtain ⟨L, hL⟩ : ∃ L : List Ent, ([] : List Ent) = L := ⟨_, rfl⟩
  obtain ⟨v, hv⟩ : ∃ v : Value, Value.slice none 0 0 = v := ⟨_, rfl⟩
  rw [hL, hv] at HT
  have HT2 := hid (HT.out.below hbl)
  have HB := hid (HB0.out.trans (hbl.mono HB0.out.size))
  clear HT HB0 hbl hL hv HLv
  have HFK := hid (LruT.fork_any HT2.out.lru)
  unfold ptr at *
  go_wp2_with fail
  refine HFK.out.mono ?_
  rintro e wf ⟨⟨S2, L2, rfl, hm3, hl3, hk3, hup3⟩, hbf⟩
  have HRF := hid (RefQ.rfork_any (Two.below HT2.out hbf).ref (by rw [kvs_len]; exact HT2.out.len) (Nat.le_trans HB.out.size hbf.size))
  have HX := hid (And.intro hm3 (And.intro hl3 (And.intro hk3 (And.intro hup3 hbf))))
  clear HFK hm3 hl3 hk3 hup3 hbf
  unfold ptr at *
  go_wp2_with fail
  refine HRF.out.mono ?_
  rintro e wg ⟨rfl, ⟨v2, hr3, hv3⟩, hbg⟩
  have HF0 : Hid (Four w wg S L rb v S2 L2 wf.heap.size v2) := hid (by
    obtain ⟨hm3, hl3, hk3, hup3, hbf⟩ := HX.out
    exact Two.forked HT2.out HB.out.size hm3 hl3 hk3 hup3 hbf hr3 hv3 hbg)
  have HB1 : Hid (Below w.heap.size w wg) := hid (by
    obtain ⟨_, _, _, _, hbf⟩ := HX.out
    exact HB.out.trans ((hbf.trans (hbg.mono hbf.size)).mono HB.out.size))
  clear HRF hr3 hv3 hbg HX HT2 HB
  generalize wf.heap.size = rb2 at *
  go_wp2_with fail
  go_loopw [9, 10, 11] (fun g s i wr => ∃ (k : Nat) (L : List Ent) (v : Value) (S2 : Spot) (L2 : List Ent) (rb2 : Nat) (v2 : Value) (u : Unit), k ≤ len ∧ k ≤ 200 ∧ g = ptr S2.mb ∧ s = ptr rb2 ∧ i = .int .i64 k ∧ Four w wr S L rb v S2 L2 rb2 v2 ∧ Below w.heap.size w wr) (fun _ _ i _ => len - (intOf i).toNat)
  case atStart => exact ⟨0, _, _, _, _, _, _, (), Nat.zero_le _, by omega, rfl, rfl, rfl, HF0.out, HB1.out⟩
  case round =>
    clear HF0 HB1
    obtain ⟨k, L, v, S2, L2, rb2, v2, u, hk, hk1, rfl, rfl, rfl, hf, hB⟩ := hrel
    have hlen := HC.out.1
    have HF := hid hf
    have HB := hid hB
    clear hf hB
    have hsv2 := HSV.out
    by_cases hlt : k < len
    · by_cases hlt1 : k < 200
      · obtain ⟨p, q, rfl, hp, hc⟩ := HC.out.2.1 (by omega)
        have HCK := hid (hc k hlt)
        obtain ⟨hks, hDn, hDs, hDf⟩ := HC.out.2.2 k hlt
        have HDk := hid (And.intro hks (And.intro hDn hDs))
        have HDf := hid hDf
        clear hc hks hDn hDs hDf
        subst hsv2
        by_cases hmid : k = len / 2
        · subst hmid
          have HFK := hid (LruT.fork_any HF.out.one.lru)
          unfold ptr at *
          go_wp2_with fail
          refine HFK.out.mono ?_
          rintro e wf ⟨⟨S3, L3f, rfl, hm3, hl3, hk3, hup3⟩, hbf⟩
          have HRF := hid (RefQ.rfork_any (Two.below HF.out.one hbf).ref (by rw [kvs_len]; exact HF.out.one.len) (Nat.le_trans HB.out.size hbf.size))
          have HX := hid (And.intro hm3 (And.intro hl3 (And.intro hk3 (And.intro hup3 hbf))))
          clear HFK hm3 hl3 hk3 hup3 hbf
          unfold ptr at *
          go_wp2_with fail
          refine HRF.out.mono ?_
          rintro e wg ⟨rfl, ⟨v3f, hr3, hv3⟩, hbg⟩
          have HF1 : Hid (Four w wg S L rb v S3 L3f wf.heap.size v3f) := hid (by
            obtain ⟨hm3, hl3, hk3, hup3, hbf⟩ := HX.out
            exact Two.forked HF.out.one HB.out.size hm3 hl3 hk3 hup3 hbf hr3 hv3 hbg)
          have HB1 : Hid (Below w.heap.size w wg) := hid (by
            obtain ⟨_, _, _, _, hbf⟩ := HX.out
            exact HB.out.trans ((hbf.trans (hbg.mono hbf.size)).mono HB.out.size))
          clear HRF hr3 hv3 hbg HX
          generalize wf.heap.size = rb3 at *
          clear HF HB
          have HF := HF1
          have HB := HB1
          clear HF1 HB1
          have c0 : wg.cell? ⟨p, q + len / 2 * 4, none⟩ = some (.int .i64 (D (len / 2)).kind) := (HB.out.cell (p := ⟨p, q + len / 2 * 4, none⟩) hp).trans (HCK.out 0 _ rfl)
          have c1 : wg.cell? ⟨p, q + len / 2 * 4 + 1, none⟩ = some (.string (D (len / 2)).key) := (HB.out.cell (p := ⟨p, q + len / 2 * 4 + 1, none⟩) hp).trans (HCK.out 1 _ rfl)
          have c2 : wg.cell? ⟨p, q + len / 2 * 4 + 2, none⟩ = some (.int .i64 (D (len / 2)).val) := (HB.out.cell (p := ⟨p, q + len / 2 * 4 + 2, none⟩) hp).trans (HCK.out 2 _ rfl)
          have c3 : wg.cell? ⟨p, q + len / 2 * 4 + 3, none⟩ = some (.slice (D (len / 2)).a (D (len / 2)).n (D (len / 2)).cap) := (HB.out.cell (p := ⟨p, q + len / 2 * 4 + 3, none⟩) hp).trans (HCK.out 3 _ rfl)
          have hstr : Strs wg (D (len / 2)).a (D (len / 2)).n (D (len / 2)).f := fun h0 => by
            obtain ⟨g, o, e, hg, hcc⟩ := HDf.out h0
            exact ⟨g, o, e, Nat.lt_of_lt_of_le hg HB.out.size, fun i hi => (HB.out.cell (p := ⟨g, o + i, none⟩) hg).trans (hcc i hi)⟩
          have HDO := hid (do_two HF.out.one HB.out.size (D (len / 2)).kind (D (len / 2)).key HDk.out.1 (D (len / 2)).val (D (len / 2)).a (D (len / 2)).n (D (len / 2)).cap (D (len / 2)).f HDk.out.2.1 HDk.out.2.2 hstr (fun h0 g o e => by
            obtain ⟨g2, o2, e2, hg, _⟩ := HDf.out h0
            rw [e] at e2; cases e2; exact hg))
          clear hstr
          unfold ptr dv at *
          go_wp2_with fail
          refine HDO.out.mono ?_
          rintro e w3 ⟨rfl, hth⟩
          obtain ⟨L3, v3, h3, hw3⟩ := HF.out.thn hth
          have HB3 := hid (HB.out.trans (hw3.below _ HB.out.size (fun j hj => HF.out.one.up hj)))
          have HK := hid (LruQ.keys_any h3.one.lru)
          have H3 := hid h3
          clear hth h3 hw3 HDO c0 c1 c2 c3
          unfold ptr at *
          go_wp2_with fail
          refine HK.out.mono ?_
          rintro e w4 ⟨⟨x, rfl, hown⟩, hb4⟩
          have HO4 := hid hown
          have HB4 := hid hb4
          have h4 := H3.out.below hb4
          have HR := hid (rkeys_any h4.one.ref (by rw [kvs_len]; exact h4.one.len))
          have hll := h4.one.len
          obtain ⟨nk, hnk⟩ : ∃ nk, L3.length = nk := ⟨_, rfl⟩
          rw [hnk] at hll
          have HNK := hid hnk
          have H4 := hid h4
          clear HK hown hb4 h4 hnk
          unfold ptr at *
          go_wp2_with fail
          refine HR.out.mono ?_
          rintro e w5 ⟨⟨y, rfl, hown5⟩, hb5⟩
          obtain ⟨ax, cx, rfl, hsx⟩ := strs_own (m := nk) (ss := L3.map Ent.k) (owns_keep HO4.out (fun g hg => hb5.block g (HO4.out.lt g hg).2)) HNK.out (by rw [List.length_map]; exact HNK.out) (by simp [LruQ.ks, Function.comp_def])
          obtain ⟨ay, cy, rfl, hsy⟩ := strs_own (m := nk) (ss := L3.map Ent.k) hown5 (by rw [List.length_map, kvs_len]; exact HNK.out) (by rw [List.length_map]; exact HNK.out) (by simp [kvs, kv, Function.comp_def])
          have HS := hid (Sam.same_any ax ay nk cx cy _ w5 (by omega) hsx hsy)
          have HB5 := hid (HB3.out.trans ((HB4.out.trans (hb5.mono HB4.out.size)).mono HB3.out.size))
          have H5 := hid (H4.out.below hb5)
          clear HR hown5 hb5 hsx hsy HO4
          go_wp2_with fail
          refine HS.out.mono ?_
          rintro e w6 ⟨rfl, m6, hw6⟩
          have h6 : Four w w6 S L3 rb v3 S3 L3f rb3 v3f := by rw [← hw6]; exact H5.out.below (below_drewN (Below.refl _ _) _)
          have HB6 : Hid (Below w.heap.size w w6) := hid (by rw [← hw6]; exact below_drewN HB5.out _)
          have HL := hid (len_any h6.one.lru.rest)
          have HRL := hid (rlen_any h6.one.ref)
          have HM := hid (most_core S.mb S.most w6 (LRest.mcell h6.one.lru.rest).2.1)
          have HRM := hid (rmost_any h6.one.ref)
          rw [kvs_len, HNK.out] at HRL
          rw [HNK.out] at HL
          have H6 := hid h6
          clear h6 hw6 HS H5 HB5
          unfold ptr at *
          go_wp2_with fail
          refine HL.out.mono ?_
          rintro e w7 ⟨rfl, rfl⟩
          go_wp2_with fail
          refine HRL.out.mono ?_
          rintro e w7 ⟨rfl, rfl⟩
          go_wp2_with fail
          refine HM.out.mono ?_
          rintro e w7 ⟨rfl, rfl⟩
          go_wp2_with fail
          refine HRM.out.mono ?_
          rintro e w7 ⟨rfl, rfl⟩
          go_wp2_with fail
          go_roundw
          case rel => exact ⟨len / 2 + 1, _, _, _, _, _, _, (), by omega, by omega, rfl, rfl, by go_num, H6.out, HB6.out⟩
          case measure => simp [intOf]; omega
        · have hmq : ((k : Int) == (len : Int) / 2) = false := by simp; omega
          have c0 : wr.cell? ⟨p, q + k * 4, none⟩ = some (.int .i64 (D k).kind) := (HB.out.cell (p := ⟨p, q + k * 4, none⟩) hp).trans (HCK.out 0 _ rfl)
          have c1 : wr.cell? ⟨p, q + k * 4 + 1, none⟩ = some (.string (D k).key) := (HB.out.cell (p := ⟨p, q + k * 4 + 1, none⟩) hp).trans (HCK.out 1 _ rfl)
          have c2 : wr.cell? ⟨p, q + k * 4 + 2, none⟩ = some (.int .i64 (D k).val) := (HB.out.cell (p := ⟨p, q + k * 4 + 2, none⟩) hp).trans (HCK.out 2 _ rfl)
          have c3 : wr.cell? ⟨p, q + k * 4 + 3, none⟩ = some (.slice (D k).a (D k).n (D k).cap) := (HB.out.cell (p := ⟨p, q + k * 4 + 3, none⟩) hp).trans (HCK.out 3 _ rfl)
          have hstr : Strs wr (D k).a (D k).n (D k).f := fun h0 => by
            obtain ⟨g, o, e, hg, hcc⟩ := HDf.out h0
            exact ⟨g, o, e, Nat.lt_of_lt_of_le hg HB.out.size, fun i hi => (HB.out.cell (p := ⟨g, o + i, none⟩) hg).trans (hcc i hi)⟩
          have HDO := hid (do_two HF.out.one HB.out.size (D k).kind (D k).key HDk.out.1 (D k).val (D k).a (D k).n (D k).cap (D k).f HDk.out.2.1 HDk.out.2.2 hstr (fun h0 g o e => by
            obtain ⟨g2, o2, e2, hg, _⟩ := HDf.out h0
            rw [e] at e2; cases e2; exact hg))
          clear hstr
          unfold ptr dv at *
          go_wp2_with fail
          refine HDO.out.mono ?_
          rintro e w3 ⟨rfl, hth⟩
          obtain ⟨L3, v3, h3, hw3⟩ := HF.out.thn hth
          have HB3 := hid (HB.out.trans (hw3.below _ HB.out.size (fun j hj => HF.out.one.up hj)))
          have HK := hid (LruQ.keys_any h3.one.lru)
          have H3 := hid h3
          clear hth h3 hw3 HDO c0 c1 c2 c3
          unfold ptr at *
          go_wp2_with fail
          refine HK.out.mono ?_
          rintro e w4 ⟨⟨x, rfl, hown⟩, hb4⟩
          have HO4 := hid hown
          have HB4 := hid hb4
          have h4 := H3.out.below hb4
          have HR := hid (rkeys_any h4.one.ref (by rw [kvs_len]; exact h4.one.len))
          have hll := h4.one.len
          obtain ⟨nk, hnk⟩ : ∃ nk, L3.length = nk := ⟨_, rfl⟩
          rw [hnk] at hll
          have HNK := hid hnk
          have H4 := hid h4
          clear HK hown hb4 h4 hnk
          unfold ptr at *
          go_wp2_with fail
          refine HR.out.mono ?_
          rintro e w5 ⟨⟨y, rfl, hown5⟩, hb5⟩
          obtain ⟨ax, cx, rfl, hsx⟩ := strs_own (m := nk) (ss := L3.map Ent.k) (owns_keep HO4.out (fun g hg => hb5.block g (HO4.out.lt g hg).2)) HNK.out (by rw [List.length_map]; exact HNK.out) (by simp [LruQ.ks, Function.comp_def])
          obtain ⟨ay, cy, rfl, hsy⟩ := strs_own (m := nk) (ss := L3.map Ent.k) hown5 (by rw [List.length_map, kvs_len]; exact HNK.out) (by rw [List.length_map]; exact HNK.out) (by simp [kvs, kv, Function.comp_def])
          have HS := hid (Sam.same_any ax ay nk cx cy _ w5 (by omega) hsx hsy)
          have HB5 := hid (HB3.out.trans ((HB4.out.trans (hb5.mono HB4.out.size)).mono HB3.out.size))
          have H5 := hid (H4.out.below hb5)
          clear HR hown5 hb5 hsx hsy HO4
          go_wp2_with fail
          refine HS.out.mono ?_
          rintro e w6 ⟨rfl, m6, hw6⟩
          have h6 : Four w w6 S L3 rb v3 S2 L2 rb2 v2 := by rw [← hw6]; exact H5.out.below (below_drewN (Below.refl _ _) _)
          have HB6 : Hid (Below w.heap.size w w6) := hid (by rw [← hw6]; exact below_drewN HB5.out _)
          have HL := hid (len_any h6.one.lru.rest)
          have HRL := hid (rlen_any h6.one.ref)
          have HM := hid (most_core S.mb S.most w6 (LRest.mcell h6.one.lru.rest).2.1)
          have HRM := hid (rmost_any h6.one.ref)
          rw [kvs_len, HNK.out] at HRL
          rw [HNK.out] at HL
          have H6 := hid h6
          clear h6 hw6 HS H5 HB5
          unfold ptr at *
          go_wp2_with fail
          refine HL.out.mono ?_
          rintro e w7 ⟨rfl, rfl⟩
          go_wp2_with fail
          refine HRL.out.mono ?_
          rintro e w7 ⟨rfl, rfl⟩
          go_wp2_with fail
          refine HM.out.mono ?_
          rintro e w7 ⟨rfl, rfl⟩
          go_wp2_with fail
          refine HRM.out.mono ?_
          rintro e w7 ⟨rfl, rfl⟩
          go_wp2_with fail
          go_roundw
          case rel => exact ⟨k + 1, _, _, _, _, _, _, (), by omega, by omega, rfl, rfl, by go_num, H6.out, HB6.out⟩
          case measure => simp [intOf]; omega
      · have hh : 200 ≤ k := by omega
        have HK := hid (LruQ.keys_any HF.out.two.lru)
        have hll := HF.out.two.len
        obtain ⟨nk, hnk⟩ : ∃ nk, L2.length = nk := ⟨_, rfl⟩
        rw [hnk] at hll
        have HNK := hid hnk
        clear hnk
        subst hsv2
        unfold ptr at *
        go_wp2_with fail
        refine HK.out.mono ?_
        rintro e w4 ⟨⟨x, rfl, hown⟩, hb4⟩
        have HO4 := hid hown
        have HB4 := hid hb4
        have h4 := HF.out.below hb4
        have HR := hid (rkeys_any h4.two.ref (by rw [kvs_len]; exact h4.two.len))
        clear HK hown hb4 h4
        unfold ptr at *
        go_wp2_with fail
        refine HR.out.mono ?_
        rintro e w5 ⟨⟨y, rfl, hown5⟩, hb5⟩
        obtain ⟨ax, cx, rfl, hsx⟩ := strs_own (m := nk) (ss := L2.map Ent.k) (owns_keep HO4.out (fun g hg => hb5.block g (HO4.out.lt g hg).2)) HNK.out (by rw [List.length_map]; exact HNK.out) (by simp [LruQ.ks, Function.comp_def])
        obtain ⟨ay, cy, rfl, hsy⟩ := strs_own (m := nk) (ss := L2.map Ent.k) hown5 (by rw [List.length_map, kvs_len]; exact HNK.out) (by rw [List.length_map]; exact HNK.out) (by simp [kvs, kv, Function.comp_def])
        have HS := hid (Sam.same_any ax ay nk cx cy _ w5 (by omega) hsx hsy)
        have HB5 := hid (HB.out.trans ((HB4.out.trans (hb5.mono HB4.out.size)).mono HB.out.size))
        clear HR hown5 hb5 hsx hsy HO4
        go_wp2_with fail
        refine HS.out.mono ?_
        rintro e w6 ⟨rfl, m6, rfl⟩
        go_wp2_with fail
        go_ret
        exact ⟨rfl, below_drewN HB5.out _⟩
    · have hh : len ≤ k := by omega
      have HK := hid (LruQ.keys_any HF.out.two.lru)
      have hll := HF.out.two.len
      obtain ⟨nk, hnk⟩ : ∃ nk, L2.length = nk := ⟨_, rfl⟩
      rw [hnk] at hll
      have HNK := hid hnk
      clear hnk
      subst hsv2
      unfold ptr at *
      go_wp2_with fail
      refine HK.out.mono ?_
      rintro e w4 ⟨⟨x, rfl, hown⟩, hb4⟩
      have HO4 := hid hown
      have HB4 := hid hb4
      have h4 := HF.out.below hb4
      have HR := hid (rkeys_any h4.two.ref (by rw [kvs_len]; exact h4.two.len))
      clear HK hown hb4 h4
      unfold ptr at *
      go_wp2_with fail
      refine HR.out.mono ?_
      rintro e w5 ⟨⟨y, rfl, hown5⟩, hb5⟩
      obtain ⟨ax, cx, rfl, hsx⟩ := strs_own (m := nk) (ss := L2.map Ent.k) (owns_keep HO4.out (fun g hg => hb5.block g (HO4.out.lt g hg).2)) HNK.out (by rw [List.length_map]; exact HNK.out) (by simp [LruQ.ks, Function.comp_def])
      obtain ⟨ay, cy, rfl, hsy⟩ := strs_own (m := nk) (ss := L2.map Ent.k) hown5 (by rw [List.length_map, kvs_len]; exact HNK.out) (by rw [List.length_map]; exact HNK.out) (by simp [kvs, kv, Function.comp_def])
      have HS := hid (Sam.same_any ax ay nk cx cy _ w5 (by omega) hsx hsy)
      have HB5 := hid (HB.out.trans ((HB4.out.trans (hb5.mono HB4.out.size)).mono HB.out.size))
      clear HR hown5 hb5 hsx hsy HO4
      go_wp2_with fail
      refine HS.out.mono ?_
      rintro e w6 ⟨rfl, m6, rfl⟩
      go_wp2_with fail
      go_ret
      exact ⟨rfl, below_drewN HB5.out _⟩

end Go.Proofs.Ytkdldcigooiljaa.LruZ
