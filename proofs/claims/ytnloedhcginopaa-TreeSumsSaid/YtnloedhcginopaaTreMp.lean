/- A tree behind deeds: run. -/
import Derived.Test.YtnloedhcginopaaTreMb
import Derived.Deep.CutBlock

/- What a deed does to a tree: pure; a round's deed. -/
namespace Go.Proofs.Ytnloedhcginopaa.TreAg
set_option linter.unusedVariables false
open Go.ChangeShapes Go.WideShapes Go.ChangeAt Go.RowKit Go.Deep Base Wri Map Opn TreA TreB TreC TreD TreE TreF TreG TreH TreJ TreK TreL TreP TreQ TreR TreS TreT TreV TreW TreX TreY TreWa TreWb TreZ TreAa TreAb TreAc TreAd TreAe TreAf WinM WinA WinB WinC WinD WinE WinF WinG WinH WinI WinJ WinK WinN StaA StaB StaC StaD

def step (s : St) (D : Dd) : Int × St := if D.kind = 0 then passS s D.x else if D.kind = 1 then blockS s D.x else if D.kind = 2 then doneS s D.x D.rt D.fl else if D.kind = 3 then touchS s D.x else (0, s)

/-- keys stay, and what is refused changes nothing -/
def Grows (s : St) (q : Int × St) : Prop := (∃ ext, q.2.keys = s.keys ++ ext) ∧ (q.1 ≠ 0 → q.2 = s)
theorem grows_same (s : St) (r : Int) : Grows s (r, s) := ⟨⟨[], by simp⟩, fun _ => rfl⟩
theorem grows_come (s : St) (t : Nat) (l : List Key) (g : Nd → Nd) : Grows s (comeS s t l g) := by
  unfold comeS
  split
  · exact grows_same _ _
  · exact ⟨⟨_, come_keys s t l g⟩, fun h => absurd rfl h⟩
theorem grows_step (s : St) (D : Dd) : Grows s (step s D) := by
  unfold step
  split
  · unfold passS
    split
    · exact grows_same _ _
    · split
      · exact grows_same _ _
      · exact grows_come _ _ _ _
  · split
    · unfold blockS
      split
      · exact grows_same _ _
      · exact grows_come _ _ _ _
    · split
      · unfold doneS
        split
        · exact grows_same _ _
        · split
          · exact grows_same _ _
          · exact grows_come _ _ _ _
      · split
        · unfold touchS
          split
          · exact grows_same _ _
          · split
            · exact grows_same _ _
            · exact ⟨⟨_, grow_keys s _⟩, fun h => absurd rfl h⟩
        · exact grows_same _ _

theorem _root_.Go.Proofs.Ytnloedhcginopaa.TreAa.Tr.fits {w0 : World} {p : Nat} {s : St} {wr : World} {own : Nat → Nat} (h : Tr w0 p s wr own) : ∀ x ∈ s.keys, x.Fit := by
  obtain ⟨b, v, L, hL, hT⟩ := h.t
  rw [← keys_ents hL]
  intro x hx
  obtain ⟨e, he, rfl⟩ := List.mem_map.1 hx
  exact hT.fit e he

/-- what lies in blocks of nobody's stays -/
structure Step (w0 : World) (p : Nat) (own : Nat → Nat) (w1 : World) (s' : St) (wx : World) : Prop where
  ex : ∃ own', Tr w0 p s' wx own' ∧ ∀ k, k < w1.heap.size → own k = 0 → own' k = 0
  old : ∀ k, k < w1.heap.size → own k = 0 → wx.heap[k]? = w1.heap[k]?
  size : w1.heap.size ≤ wx.heap.size

theorem op_step {w0 : World} {p : Nat} {s : St} {q : Int × St} {wr w' : World} {own : Nat → Nat} {e : Ending} (h : Tr w0 p s wr own) (ho : TOp own p q wr e w') : e = .returned (.int .i64 q.1) ∧ Step w0 p own wr q.2 w' := by
  obtain ⟨h1, own', h2, h3, h4⟩ := h.op ho
  exact ⟨h1, ⟨own', h2, fun k hk h0 => (h4 k hk h0).1⟩, fun k hk h0 => (h4 k hk h0).2, h3⟩
theorem Step.back {w0 : World} {p : Nat} {s' : St} {w1 w2 wx : World} {own : Nat → Nat} (hb : Below w1.heap.size w1 w2) (h : Step w0 p own w2 s' wx) : Step w0 p own w1 s' wx := by
  have hs := hb.size
  obtain ⟨own', h1, h2⟩ := h.ex
  exact ⟨⟨own', h1, fun k hk h0 => h2 k (by omega) h0⟩, fun k hk h0 => (h.old k (by omega) h0).trans (hb.block k hk), Nat.le_trans hs h.size⟩

set_option maxRecDepth 100000 in
set_option maxHeartbeats 8000000 in
theorem grows_core (a : Option Addr) (n cap : Nat) (f : Nat → Dd) (w : World) (hn : n ≤ 2000000000000) (hd : DAt w a n f) (hfit : ∀ i, i < n → (f i).x.Fit) :
    Calls Try.prog 4 #[.slice a n cap] w fun e w' => e = .returned (.bool true) ∧ Below w.heap.size w w' := by
  have HD := hid (And.intro hd hfit)
  have HL := hid live_any
  clear hd hfit
  go_enter Try.func4, Try.ntmps4
  go_wp2_with fail
  refine (HL.out _).mono ?_
  rintro e w1 ⟨rfl, hb1⟩
  have HB1 := hid hb1
  clear hb1
  go_wp2_with fail
  refine (New_any _).mono ?_
  rintro e w2 ⟨p, rfl, hp, ⟨own, hlow, hT⟩, hb⟩
  have T2 : Tr w p TreZ.St.new w2 own := ⟨hT, HB1.out.trans (hb.mono HB1.out.size), fun k hk => hlow k (by have := HB1.out.size; omega)⟩
  have HT2 := hid T2
  clear hp hlow hT hb T2 HB1
  go_wp2_with fail
  go_loopw [4] (fun i wr => ∃ (k : Nat) (s : St) (own : Nat → Nat), k ≤ n ∧ i = .int .i64 k ∧ Tr w p s wr own) (fun i _ => n - (intOf i).toNat)
  case atStart => exact ⟨0, _, _, Nat.zero_le _, rfl, HT2.out⟩
  case round =>
    obtain ⟨k, s, own, hk, rfl, hT⟩ := hrel
    have HT := hid hT
    clear hT
    by_cases hlt : k < n
    · have hki : (k : Int) < n := by omega
      have hki0 : (0 : Int) ≤ k := by omega
      have HA := hid (All_any p s own wr HT.out.t)
      go_wp2_with fail
      refine HA.out.mono ?_
      rintro e w3 ⟨⟨va, vc, rfl, hrow⟩, hb3⟩
      have HT3 := hid (HT.out.below hb3)
      have HLa := hid (Last_any p s own w3 HT3.out.t)
      have HW := hid hrow
      have HSz := hid hb3.size
      clear hrow hb3 HA
      go_wp2_with fail
      refine HLa.out.mono ?_
      rintro e w9 ⟨rfl, rfl⟩
      clear HLa
      obtain ⟨g, o, rfl, hg00, hc0⟩ := HD.out.1 (by omega)
      have HG0 := hid hg00
      have hg : g < w3.heap.size := Nat.lt_of_lt_of_le hg00 HT3.out.bel.size
      have hc : ∀ i, i < n → ∀ j v, (dw (f i))[j]? = some v → w3.cell? ⟨g, o + i * 10 + j, none⟩ = some v := fun i hi j v hv => (HT3.out.bel.cell (p := ⟨g, o + i * 10 + j, none⟩) hg00).trans (hc0 i hi j v hv)
      clear hg00 hc0
      have hfit := HD.out.2 k hlt
      have hcells := hc k hlt
      have hstep := hid (show step s (f k) = step s (f k) from rfl)
      have HFk := hid hfit
      clear hc hfit
      generalize hfk : f k = D at *
      have HFK := hid hfk
      clear hfk
      obtain ⟨kd, ⟨t, r, c, oo, inb, cnt⟩, sa, sn, sc, rt, fl⟩ := D
      obtain ⟨c0, c1, c2, c3, c4, c5, c6, c7, c8, c9⟩ : w3.cell? ⟨g, o + k * 10, none⟩ = some (.int .i64 kd) ∧ w3.cell? ⟨g, o + k * 10 + 1, none⟩ = some (.int .i64 t) ∧ w3.cell? ⟨g, o + k * 10 + 2, none⟩ = some (.string r) ∧ w3.cell? ⟨g, o + k * 10 + 3, none⟩ = some (.string c) ∧ w3.cell? ⟨g, o + k * 10 + 4, none⟩ = some (.string oo) ∧ w3.cell? ⟨g, o + k * 10 + 5, none⟩ = some (.bool inb) ∧ w3.cell? ⟨g, o + k * 10 + 6, none⟩ = some (.int .i64 cnt) ∧ w3.cell? ⟨g, o + k * 10 + 7, none⟩ = some (.slice sa sn sc) ∧ w3.cell? ⟨g, o + k * 10 + 8, none⟩ = some (.int .i64 rt) ∧ w3.cell? ⟨g, o + k * 10 + 9, none⟩ = some (.bool fl) := ⟨hcells 0 _ rfl, hcells 1 _ rfl, hcells 2 _ rfl, hcells 3 _ rfl, hcells 4 _ rfl, hcells 5 _ rfl, hcells 6 _ rfl, hcells 7 _ rfl, hcells 8 _ rfl, hcells 9 _ rfl⟩
      clear hcells hstep
      go_upto_block 2 with fail
      go_cut [7] from 13 to 136 (fun s7 wx => ∃ q, s7 = .int .i64 q ∧ q = (step s ⟨kd, ⟨t, r, c, oo, inb, cnt⟩, sa, sn, sc, rt, fl⟩).1 ∧ Step w p own w3 (step s ⟨kd, ⟨t, r, c, oo, inb, cnt⟩, sa, sn, sc, rt, fl⟩).2 wx)
      case first =>
        by_cases h0 : kd = 0
        · subst h0
          have hs : step s ⟨0, ⟨t, r, c, oo, inb, cnt⟩, sa, sn, sc, rt, fl⟩ = passS s ⟨t, r, c, oo, inb, cnt⟩ := rfl
          have HP : Hid (Calls Try.prog 15 #[ptr p, .agg #[.int .i64 t, .string r, .string c, .string oo, .bool inb, .int .i64 cnt, .slice sa sn sc]] w3 (fun e w' => ∃ z, e = .returned (.int .i64 z) ∧ z = (step s ⟨0, ⟨t, r, c, oo, inb, cnt⟩, sa, sn, sc, rt, fl⟩).1 ∧ Hid (Step w p own w3 (step s ⟨0, ⟨t, r, c, oo, inb, cnt⟩, sa, sn, sc, rt, fl⟩).2 w'))) := hid ((pass_any p s own ⟨t, r, c, oo, inb, cnt⟩ HFk.out sa sn sc w3 HT3.out.t).mono fun e w' h => by
            have h2 := op_step HT3.out h
            exact ⟨_, h2.1, by rw [hs], hid (by rw [hs]; exact h2.2)⟩)
          clear hs
          go_wp2_with fail
          refine HP.out.mono ?_
          rintro e w5 ⟨z, rfl, hz, HS⟩
          go_wp2_with fail
          all_goals go_meet
          first | exact ⟨_, rfl, rfl, HS.out⟩ | exact ⟨z, rfl, hz, HS.out⟩
        · have n0 : (kd == 0) = false := by simpa using h0
          by_cases h1 : kd = 1
          · subst h1
            have hs : step s ⟨1, ⟨t, r, c, oo, inb, cnt⟩, sa, sn, sc, rt, fl⟩ = blockS s ⟨t, r, c, oo, inb, cnt⟩ := rfl
            have HP : Hid (Calls Try.prog 16 #[ptr p, .agg #[.int .i64 t, .string r, .string c, .string oo, .bool inb, .int .i64 cnt, .slice sa sn sc]] w3 (fun e w' => ∃ z, e = .returned (.int .i64 z) ∧ z = (step s ⟨1, ⟨t, r, c, oo, inb, cnt⟩, sa, sn, sc, rt, fl⟩).1 ∧ Hid (Step w p own w3 (step s ⟨1, ⟨t, r, c, oo, inb, cnt⟩, sa, sn, sc, rt, fl⟩).2 w'))) := hid ((block_any p s own ⟨t, r, c, oo, inb, cnt⟩ HFk.out sa sn sc w3 HT3.out.t).mono fun e w' h => by
              have h2 := op_step HT3.out h
              exact ⟨_, h2.1, by rw [hs], hid (by rw [hs]; exact h2.2)⟩)
            clear hs
            go_wp2_with fail
            refine HP.out.mono ?_
            rintro e w5 ⟨z, rfl, hz, HS⟩
            go_wp2_with fail
            all_goals go_meet
            first | exact ⟨_, rfl, rfl, HS.out⟩ | exact ⟨z, rfl, hz, HS.out⟩
          · have n1 : (kd == 1) = false := by simpa using h1
            by_cases h2 : kd = 2
            · subst h2
              have HTx := hid (HT3.out.below (Below.refl _ w3).drew)
              have HBx := hid (Below.drew (Below.refl w3.heap.size w3))
              have HKp : Hid (∀ w5, Step w p own w3 (step s ⟨2, ⟨t, r, c, oo, inb, cnt⟩, sa, sn, sc, rt, fl⟩).2 w5 → w5.cell? ⟨g, o + k * 10, none⟩ = some (.int .i64 2) ∧ w5.cell? ⟨g, o + k * 10 + 1, none⟩ = some (.int .i64 t) ∧ w5.cell? ⟨g, o + k * 10 + 2, none⟩ = some (.string r) ∧ w5.cell? ⟨g, o + k * 10 + 3, none⟩ = some (.string c) ∧ w5.cell? ⟨g, o + k * 10 + 4, none⟩ = some (.string oo) ∧ w5.cell? ⟨g, o + k * 10 + 5, none⟩ = some (.bool inb) ∧ w5.cell? ⟨g, o + k * 10 + 6, none⟩ = some (.int .i64 cnt) ∧ w5.cell? ⟨g, o + k * 10 + 7, none⟩ = some (.slice sa sn sc) ∧ w5.cell? ⟨g, o + k * 10 + 8, none⟩ = some (.int .i64 rt) ∧ w5.cell? ⟨g, o + k * 10 + 9, none⟩ = some (.bool fl)) := hid fun w5 hS => by
                have hg0 : own g = 0 := HT3.out.low g HG0.out
                have e : ∀ oz, w5.cell? ⟨g, oz, none⟩ = w3.cell? ⟨g, oz, none⟩ := fun oz => World.cell?_of_block (a := ⟨g, oz, none⟩) (hS.old g hg hg0)
                exact ⟨(e _).trans c0, (e _).trans c1, (e _).trans c2, (e _).trans c3, (e _).trans c4, (e _).trans c5, (e _).trans c6, (e _).trans c7, (e _).trans c8, (e _).trans c9⟩
              have hs : step s ⟨2, ⟨t, r, c, oo, inb, cnt⟩, sa, sn, sc, rt, fl⟩ = doneS s ⟨t, r, c, oo, inb, cnt⟩ rt fl := rfl
              have HP : Hid (Calls Try.prog 17 #[ptr p, .agg #[.int .i64 t, .string r, .string c, .string oo, .bool inb, .int .i64 cnt, .slice sa sn sc], .int .i64 rt, .bool fl] w3.drew (fun e w' => ∃ z, e = .returned (.int .i64 z) ∧ z = (step s ⟨2, ⟨t, r, c, oo, inb, cnt⟩, sa, sn, sc, rt, fl⟩).1 ∧ Hid (Step w p own w3 (step s ⟨2, ⟨t, r, c, oo, inb, cnt⟩, sa, sn, sc, rt, fl⟩).2 w'))) := hid ((done_any p s own ⟨t, r, c, oo, inb, cnt⟩ HFk.out sa sn sc rt fl w3.drew HTx.out.t).mono fun e w' h => by
                have h2 := op_step HTx.out h
                exact ⟨_, h2.1, by rw [hs], hid (by rw [hs]; exact Step.back HBx.out h2.2)⟩)
              clear hs
              go_upto_region 16 with fail
              go_region_held3 (fun w' => w'.cell? ⟨g, o + k * 10, none⟩ = some (.int .i64 2) ∧ w'.cell? ⟨g, o + k * 10 + 1, none⟩ = some (.int .i64 t) ∧ w'.cell? ⟨g, o + k * 10 + 2, none⟩ = some (.string r) ∧ w'.cell? ⟨g, o + k * 10 + 3, none⟩ = some (.string c) ∧ w'.cell? ⟨g, o + k * 10 + 4, none⟩ = some (.string oo) ∧ w'.cell? ⟨g, o + k * 10 + 5, none⟩ = some (.bool inb) ∧ w'.cell? ⟨g, o + k * 10 + 6, none⟩ = some (.int .i64 cnt) ∧ w'.cell? ⟨g, o + k * 10 + 7, none⟩ = some (.slice sa sn sc) ∧ w'.cell? ⟨g, o + k * 10 + 8, none⟩ = some (.int .i64 rt) ∧ w'.cell? ⟨g, o + k * 10 + 9, none⟩ = some (.bool fl)) (first | assumption | go_keep) (first | (go_at_call 17; refine HP.out.mono ?_; rintro e w5 ⟨z, rfl, hz, HS⟩; obtain ⟨c0, c1, c2, c3, c4, c5, c6, c7, c8, c9⟩ := HKp.out w5 HS.out))
              go_wp2_with fail
              all_goals go_meet
              first | exact ⟨_, rfl, rfl, HS.out⟩ | exact ⟨z, rfl, hz, HS.out⟩
            · have n2 : (kd == 2) = false := by simpa using h2
              by_cases h3 : kd = 3
              · subst h3
                have hbx : Below w3.heap.size w3 (w3.alloc (.cells #[.int .i64 t, .string r, .string c, .string oo, .bool inb, .int .i64 cnt, .slice sa sn sc] 40)) := (Below.refl _ _).alloc (Nat.le_refl _) _
                have HTx := hid (HT3.out.below hbx)
                have HBx := hid hbx
                clear hbx
                have hs : step s ⟨3, ⟨t, r, c, oo, inb, cnt⟩, sa, sn, sc, rt, fl⟩ = touchS s ⟨t, r, c, oo, inb, cnt⟩ := rfl
                have HP : Hid (Calls Try.prog 18 #[ptr p, .slice (some ⟨w3.heap.size, 0, none⟩) 1 1] (w3.alloc (.cells #[.int .i64 t, .string r, .string c, .string oo, .bool inb, .int .i64 cnt, .slice sa sn sc] 40)) (fun e w' => ∃ z, e = .returned (.int .i64 z) ∧ z = (step s ⟨3, ⟨t, r, c, oo, inb, cnt⟩, sa, sn, sc, rt, fl⟩).1 ∧ Hid (Step w p own w3 (step s ⟨3, ⟨t, r, c, oo, inb, cnt⟩, sa, sn, sc, rt, fl⟩).2 w'))) := hid ((touch_any p s own ⟨t, r, c, oo, inb, cnt⟩ HFk.out sa sn sc w3.heap.size (w3.alloc (.cells #[.int .i64 t, .string r, .string c, .string oo, .bool inb, .int .i64 cnt, .slice sa sn sc] 40)) HTx.out.t (heap_alloc_new _ _)).mono fun e w' h => by
                  have h2 := op_step HTx.out h
                  exact ⟨_, h2.1, by rw [hs], hid (by rw [hs]; exact Step.back HBx.out h2.2)⟩)
                clear hs
                go_wp2_with fail
                refine HP.out.mono ?_
                rintro e w5 ⟨z, rfl, hz, HS⟩
                go_wp2_with fail
                all_goals go_meet
                first | exact ⟨_, rfl, rfl, HS.out⟩ | exact ⟨z, rfl, hz, HS.out⟩
              · have n3 : (kd == 3) = false := by simpa using h3
                have hs : step s ⟨kd, ⟨t, r, c, oo, inb, cnt⟩, sa, sn, sc, rt, fl⟩ = (0, s) := by unfold step; simp only [h0, h1, h2, h3, if_false]
                have HS : Hid (Step w p own w3 (step s ⟨kd, ⟨t, r, c, oo, inb, cnt⟩, sa, sn, sc, rt, fl⟩).2 w3) := hid (by rw [hs]; exact ⟨⟨own, HT3.out, fun _ _ h => h⟩, fun _ _ _ => rfl, Nat.le_refl _⟩)
                have HZ := hid (show (0 : Int) = (step s ⟨kd, ⟨t, r, c, oo, inb, cnt⟩, sa, sn, sc, rt, fl⟩).1 by rw [hs])
                clear hs h0 h1 h2 h3
                go_wp2_with fail
                all_goals go_meet
                first | exact ⟨_, rfl, rfl, HS.out⟩ | exact ⟨0, rfl, HZ.out, HS.out⟩
      case rest =>
        obtain ⟨q, rfl, hq, hS⟩ := hcut
        have hGr := grows_step s ⟨kd, ⟨t, r, c, oo, inb, cnt⟩, sa, sn, sc, rt, fl⟩
        obtain ⟨⟨r1, s1⟩, hst⟩ : ∃ z, step s ⟨kd, ⟨t, r, c, oo, inb, cnt⟩, sa, sn, sc, rt, fl⟩ = z := ⟨_, rfl⟩
        rw [hst] at hq hS hGr
        dsimp only at hq hS
        obtain ⟨⟨ext, hext⟩, hsame⟩ := hGr
        dsimp only at hext hsame
        obtain ⟨own2, hT2, hz2⟩ := hS.ex
        have hrowc : KRow wc wr.heap.size (.slice va s.keys.length vc) s.keys := KRow.keep HW.out fun g1 hg1 => hS.old g1 (KRow.has HW.out g1 hg1).2 (HT.out.new_ g1 (KRow.has HW.out g1 hg1).1)
        have h512 : s1.keys.length ≤ 512 := by
          obtain ⟨b, v, L, hL, hT⟩ := hT2.t
          have := hT.len
          rw [← keys_ents hL, List.length_map]
          exact this
        have hlen : s1.keys.length = s.keys.length + ext.length := by rw [hext, List.length_append]
        have HT2' := hid hT2
        have HRowC := hid hrowc
        have HExt := hid hext
        have HSame := hid hsame
        have HA := hid (All_any p s1 own2 wc hT2.t)
        have hle : s.keys.length ≤ s1.keys.length := by omega
        obtain ⟨ls, hls⟩ : ∃ ls, s.keys.length = ls := ⟨_, rfl⟩
        obtain ⟨ln, hln⟩ : ∃ ln, s1.keys.length = ln := ⟨_, rfl⟩
        rw [hls] at hle HRowC
        rw [hln] at HA hle h512
        rw [hls]
        have HLs := hid (And.intro hls hln)
        clear hS hst hz2 hrowc hlen hext hsame hT2 hls hln c0 c1 c2 c3 c4 c5 c6 c7 c8 c9 hg HSz HT3 HW HFk HFK
        subst hq
        go_wp2_with fail
        refine HA.out.mono ?_
        rintro e w6 ⟨⟨vb, vd, rfl, hrow6⟩, hb6⟩
        have HT6 := hid (HT2'.out.below hb6)
        have HW6 := hid (And.intro (KRow.below HRowC.out hb6) hrow6)
        clear hrow6 hb6 HA HRowC HT2'
        have hd1 : decide ((ln : Int) < (ls : Int)) = false := by simp; omega
        have hd2 : decide ((512 : Int) < (ln : Int)) = false := by simp; omega
        have HLa := hid (Last_any p s1 own2 w6 HT6.out.t)
        go_upto_region 20 with fail
        go_cut [103] from 13 to 136 (fun s103 wx => s103 = .bool false ∧ wx = w6)
        case first =>
          by_cases hr0 : q = 0
          · subst hr0
            go_wp2_with fail
            all_goals go_meet
            all_goals exact ⟨by first | rfl | (show Value.bool _ = Value.bool false; congr 1; simp; omega), by first | rfl | trivial⟩
          · have hr1 : (q == 0) = false := by simpa using hr0
            obtain rfl := HSame.out hr0
            obtain rfl : ln = ls := HLs.out.2.symm.trans HLs.out.1
            go_wp2_with fail
            refine HLa.out.mono ?_
            rintro e w9 ⟨rfl, rfl⟩
            go_wp2_with fail
            all_goals go_meet
            all_goals exact ⟨by first | rfl | (show Value.bool _ = Value.bool false; congr 1; simp; omega), by first | rfl | trivial⟩
        case rest =>
          obtain ⟨rfl, rfl⟩ := hcut
          clear HLa hd1 hd2
          obtain ⟨aw, cw, hsw, hkw, -⟩ := KRow.at HW6.out.1
          obtain ⟨an, cn, hsn, hkn, -⟩ := KRow.at HW6.out.2
          rw [HLs.out.1] at hsw hkw
          rw [HLs.out.2] at hsn hkn
          injection hsw with qa qb qc
          injection hsn with qd qe qf
          subst qa qc qd qf
          have HKw := hid (And.intro hkw hkn)
          clear hkw hkn qb qe HW6 HSame
          go_wp2_with fail
          go_loopw [9] (fun i wz => ∃ j : Nat, j ≤ ls ∧ i = .int .i64 j ∧ Below wc.heap.size wc wz) (fun i _ => ls - (intOf i).toNat)
          case atStart => exact ⟨0, Nat.zero_le _, rfl, Below.refl _ _⟩
          case round =>
            obtain ⟨j, hj, rfl, hbz⟩ := hrel
            have HBz := hid hbz
            clear hbz
            by_cases hlt2 : j < ls
            · obtain ⟨gw, ow, rfl, hgw, hcw⟩ := HKw.out.1 (by omega)
              obtain ⟨gn, on_, rfl, hgn, hcn⟩ := HKw.out.2 (by omega)
              obtain ⟨p0, p1, p2, p3⟩ := hcw j hlt2
              obtain ⟨m0, m1, m2, m3⟩ := hcn j (by omega)
              have hls := HLs.out.1
              have hsame : s1.keys.getD j default = s.keys.getD j default := by
                rw [HExt.out, List.getD_eq_getElem?_getD, List.getD_eq_getElem?_getD, List.getElem?_append_left (by omega)]
              have hmem : s.keys.getD j default ∈ s1.keys := by
                rw [← hsame, List.getD_eq_getElem?_getD, List.getElem?_eq_getElem (by rw [HLs.out.2]; omega)]
                exact List.getElem_mem _
              dsimp only at p0 p1 p2 p3 m0 m1 m2 m3
              rw [hsame] at m0 m1 m2 m3
              have hfitx := HT6.out.fits _ hmem
              clear hcw hcn hsame
              generalize s.keys.getD j default = x at *
              have c0 := kcS HBz.out p0
              have c1 := kcS HBz.out p1
              have c2 := kcS HBz.out p2
              have c3 := kcS HBz.out p3
              have c4 := kcS HBz.out m0
              have c5 := kcS HBz.out m1
              have c6 := kcS HBz.out m2
              have c7 := kcS HBz.out m3
              have HKeep : Hid (∀ w', Below wc.heap.size wc w' → w'.cell? ⟨gw, ow + j * 4, none⟩ = some (.int .u8 x.k) ∧ w'.cell? ⟨gw, ow + j * 4 + 1, none⟩ = some (.string x.c) ∧ w'.cell? ⟨gw, ow + j * 4 + 2, none⟩ = some (.string x.r) ∧ w'.cell? ⟨gw, ow + j * 4 + 3, none⟩ = some (.string x.o) ∧ w'.cell? ⟨gn, on_ + j * 4, none⟩ = some (.int .u8 x.k) ∧ w'.cell? ⟨gn, on_ + j * 4 + 1, none⟩ = some (.string x.c) ∧ w'.cell? ⟨gn, on_ + j * 4 + 2, none⟩ = some (.string x.r) ∧ w'.cell? ⟨gn, on_ + j * 4 + 3, none⟩ = some (.string x.o)) := hid fun w' hb => ⟨kcS hb p0, kcS hb p1, kcS hb p2, kcS hb p3, kcS hb m0, kcS hb m1, kcS hb m2, kcS hb m3⟩
              have hyes : hasS s1 x = true := decide_eq_true hmem
              have HHas : Hid (∀ wx, Below wc.heap.size wc wx → Calls Try.prog 13 #[ptr p, .agg #[.int .u8 x.k, .string x.c, .string x.r, .string x.o]] wx fun e w' => e = .returned (.bool true) ∧ Below wc.heap.size wc w') := hid fun wx hb => by
                have := Has_any p s1 own2 x hfitx wx (HT6.out.below hb).t
                rw [hyes] at this
                exact this.mono fun e w' h => ⟨h.1, hb.trans (h.2.mono hb.size)⟩
              have HNode : Hid (∀ wx, Below wc.heap.size wc wx → Calls Try.prog 19 #[ptr p, .agg #[.int .u8 x.k, .string x.c, .string x.r, .string x.o]] wx fun e w' => (∃ q, e = .returned (ptr q)) ∧ Below wc.heap.size wc w') := hid fun wx hb => by
                have := Node_any p s1 own2 x hfitx wx (HT6.out.below hb).t
                refine this.mono fun e w' h => ⟨?_, hb.trans (h.2.mono hb.size)⟩
                rcases h.1 with ⟨h1, _⟩ | ⟨_, S, N, l, h2, _⟩
                · rw [hyes] at h1; cases h1
                · exact ⟨_, h2⟩
              have hji : (j : Int) < ls := by omega
              have hji0 : (0 : Int) ≤ j := by omega
              have hjn : (j : Int) < ln := by omega
              have hgw2 : gw < wr.heap.size := Nat.lt_of_lt_of_le hgw HBz.out.size
              have hgn2 : gn < wr.heap.size := Nat.lt_of_lt_of_le hgn HBz.out.size
              clear p0 p1 p2 p3 m0 m1 m2 m3 hmem hfitx hyes hls
              go_upto_region 25 with fail
              go_region_held3 (fun w' => w'.cell? ⟨gw, ow + j * 4, none⟩ = some (.int .u8 x.k) ∧ w'.cell? ⟨gw, ow + j * 4 + 1, none⟩ = some (.string x.c) ∧ w'.cell? ⟨gw, ow + j * 4 + 2, none⟩ = some (.string x.r) ∧ w'.cell? ⟨gw, ow + j * 4 + 3, none⟩ = some (.string x.o) ∧ w'.cell? ⟨gn, on_ + j * 4, none⟩ = some (.int .u8 x.k) ∧ w'.cell? ⟨gn, on_ + j * 4 + 1, none⟩ = some (.string x.c) ∧ w'.cell? ⟨gn, on_ + j * 4 + 2, none⟩ = some (.string x.r) ∧ w'.cell? ⟨gn, on_ + j * 4 + 3, none⟩ = some (.string x.o)) (first | assumption | go_keep) (first | (go_at_call 13; refine (HHas.out _ (by first | exact HBz.out.drew)).mono ?_; rintro e wA ⟨rfl, hbA⟩; obtain ⟨k0, k1, k2, k3, k4, k5, k6, k7⟩ := HKeep.out _ hbA) | (go_at_call 19; refine (HNode.out _ (by first | exact hbA | exact HBz.out.drew)).mono ?_; rintro e wB ⟨⟨qB, rfl⟩, hbB⟩; obtain ⟨j0, j1, j2, j3, j4, j5, j6, j7⟩ := HKeep.out _ hbB))
              all_goals
                clear c0 c1 c2 c3 c4 c5 c6 c7
                go_wp2_with fail
                go_roundw
                case rel => exact ⟨j + 1, hlt2, by go_num, hbB⟩
                case measure => simp [intOf]; omega
            · obtain rfl : j = ls := by omega
              have HT7 := hid (HT6.out.below HBz.out)
              go_wp2_with fail
              go_roundw
              case rel => exact ⟨k + 1, s1, own2, hlt, by go_num, HT7.out⟩
              case measure => simp [intOf]; omega
    · obtain rfl : k = n := by omega
      go_wp2_with fail
      go_ret
      exact ⟨rfl, HT.out.bel⟩

/-- the law's main, of TreeGrows -/
theorem main {H : Type} {enc : TypeId × Value → H} {W : World} {base : Nat} {spare : Nat → Bool} {held : Bool} (a : Option Addr) (n cap : Nat) {d : DataW H} {p : List MemPlace} (h : DataW.Trod enc Try.prog W base spare held 22 (.slice a n cap) d p) (hw : ∀ m ∈ d.weights Try.prog 22, m ≤ reachBytes) :
    Calls Try.prog 4 #[.slice a n cap] W fun e W' => e = .returned (.bool true) ∧ Below W.heap.size W W' := by
  obtain ⟨f, h1, h2, h3⟩ := deeds_of h hw
  exact grows_core a n cap f W h2 h1 h3

end Go.Proofs.Ytnloedhcginopaa.TreAg

namespace Go.Proofs.Ytnloedhcginopaa.TreAh
set_option linter.unusedVariables false
open Go.ChangeShapes Go.WideShapes Go.ChangeAt Go.RowKit Go.Deep Base Wri Map Opn TreA TreB TreC TreD TreE TreF TreG TreH TreJ TreK TreL TreP TreQ TreR TreS TreT TreV TreW TreX TreY TreWa TreWb TreZ TreAa TreAb TreAc TreAd TreAe TreAf TreAg WinM WinA WinB WinC WinD WinE WinF WinG WinH WinI WinJ WinK WinN StaA StaB StaC StaD

def runS (f : Nat → Dd) : Nat → St
  | 0 => TreZ.St.new
  | k + 1 => (TreAg.step (runS f k) (f k)).2

set_option maxRecDepth 100000 in
set_option maxHeartbeats 8000000 in
theorem run_any (a : Option Addr) (n cap : Nat) (f : Nat → Dd) (w : World) (hn : n ≤ 2000000000000) (hd : DAt w a n f) (hfit : ∀ i, i < n → (f i).x.Fit) :
    Calls Try.prog 8 #[.slice a n cap] w fun e w' => ∃ p own, e = .returned (ptr p) ∧ w.heap.size ≤ p ∧ Tr w p (runS f n) w' own := by
  have HD := hid (And.intro hd hfit)
  clear hd hfit
  go_enter Try.func8, Try.ntmps8
  go_wp2_with fail
  refine (New_any _).mono ?_
  rintro e w2 ⟨p, rfl, hp, ⟨own, hlow, hT⟩, hb⟩
  have HT2 : Hid (Tr w p TreZ.St.new w2 own) := hid ⟨hT, hb, hlow⟩
  have HP := hid hp
  clear hp hlow hT hb
  go_wp2_with fail
  go_loopw [4] (fun i wr => ∃ (k : Nat) (own : Nat → Nat), k ≤ n ∧ i = .int .i64 k ∧ Tr w p (runS f k) wr own) (fun i _ => n - (intOf i).toNat)
  case atStart => exact ⟨0, _, Nat.zero_le _, rfl, HT2.out⟩
  case round =>
    obtain ⟨k, own, hk, rfl, hT⟩ := hrel
    have HT3 := hid hT
    clear hT
    by_cases hlt : k < n
    · have hki : (k : Int) < n := by omega
      have hki0 : (0 : Int) ≤ k := by omega
      generalize wr = w3 at *
      obtain ⟨g, o, rfl, hg00, hc0⟩ := HD.out.1 (by omega)
      have HG0 := hid hg00
      have hg : g < w3.heap.size := Nat.lt_of_lt_of_le hg00 HT3.out.bel.size
      have hc : ∀ i, i < n → ∀ j v, (dw (f i))[j]? = some v → w3.cell? ⟨g, o + i * 10 + j, none⟩ = some v := fun i hi j v hv => (HT3.out.bel.cell (p := ⟨g, o + i * 10 + j, none⟩) hg00).trans (hc0 i hi j v hv)
      clear hg00 hc0
      have hfit := HD.out.2 k hlt
      have hcells := hc k hlt
      have HFk := hid hfit
      have HRn := hid (show runS f (k + 1) = (TreAg.step (runS f k) (f k)).2 from rfl)
      clear hc hfit
      generalize hfk : f k = D at *
      have HFK := hid hfk
      clear hfk
      generalize hsk : runS f k = s at *
      obtain ⟨kd, ⟨t, r, c, oo, inb, cnt⟩, sa, sn, sc, rt, fl⟩ := D
      obtain ⟨c0, c1, c2, c3, c4, c5, c6, c7, c8, c9⟩ : w3.cell? ⟨g, o + k * 10, none⟩ = some (.int .i64 kd) ∧ w3.cell? ⟨g, o + k * 10 + 1, none⟩ = some (.int .i64 t) ∧ w3.cell? ⟨g, o + k * 10 + 2, none⟩ = some (.string r) ∧ w3.cell? ⟨g, o + k * 10 + 3, none⟩ = some (.string c) ∧ w3.cell? ⟨g, o + k * 10 + 4, none⟩ = some (.string oo) ∧ w3.cell? ⟨g, o + k * 10 + 5, none⟩ = some (.bool inb) ∧ w3.cell? ⟨g, o + k * 10 + 6, none⟩ = some (.int .i64 cnt) ∧ w3.cell? ⟨g, o + k * 10 + 7, none⟩ = some (.slice sa sn sc) ∧ w3.cell? ⟨g, o + k * 10 + 8, none⟩ = some (.int .i64 rt) ∧ w3.cell? ⟨g, o + k * 10 + 9, none⟩ = some (.bool fl) := ⟨hcells 0 _ rfl, hcells 1 _ rfl, hcells 2 _ rfl, hcells 3 _ rfl, hcells 4 _ rfl, hcells 5 _ rfl, hcells 6 _ rfl, hcells 7 _ rfl, hcells 8 _ rfl, hcells 9 _ rfl⟩
      clear hcells hsk
      go_upto_block 1 with fail
      go_cut [4] from 6 to 63 (fun s4 wx => s4 = .int .i64 k ∧ Step w p own w3 (TreAg.step s ⟨kd, ⟨t, r, c, oo, inb, cnt⟩, sa, sn, sc, rt, fl⟩).2 wx)
      case first =>
        by_cases h0 : kd = 0
        · subst h0
          have hs : TreAg.step s ⟨0, ⟨t, r, c, oo, inb, cnt⟩, sa, sn, sc, rt, fl⟩ = passS s ⟨t, r, c, oo, inb, cnt⟩ := rfl
          have HP : Hid (Calls Try.prog 15 #[ptr p, .agg #[.int .i64 t, .string r, .string c, .string oo, .bool inb, .int .i64 cnt, .slice sa sn sc]] w3 (fun e w' => ∃ z, e = .returned (.int .i64 z) ∧ z = (TreAg.step s ⟨0, ⟨t, r, c, oo, inb, cnt⟩, sa, sn, sc, rt, fl⟩).1 ∧ Hid (Step w p own w3 (TreAg.step s ⟨0, ⟨t, r, c, oo, inb, cnt⟩, sa, sn, sc, rt, fl⟩).2 w'))) := hid ((pass_any p s own ⟨t, r, c, oo, inb, cnt⟩ HFk.out sa sn sc w3 HT3.out.t).mono fun e w' h => by
            have h2 := op_step HT3.out h
            exact ⟨_, h2.1, by rw [hs], hid (by rw [hs]; exact h2.2)⟩)
          clear hs
          go_wp2_with fail
          refine HP.out.mono ?_
          rintro e w5 ⟨z, rfl, hz, HS⟩
          go_wp2_with fail
          all_goals go_meet
          exact ⟨rfl, HS.out⟩
        · have n0 : (kd == 0) = false := by simpa using h0
          by_cases h1 : kd = 1
          · subst h1
            have hs : TreAg.step s ⟨1, ⟨t, r, c, oo, inb, cnt⟩, sa, sn, sc, rt, fl⟩ = blockS s ⟨t, r, c, oo, inb, cnt⟩ := rfl
            have HP : Hid (Calls Try.prog 16 #[ptr p, .agg #[.int .i64 t, .string r, .string c, .string oo, .bool inb, .int .i64 cnt, .slice sa sn sc]] w3 (fun e w' => ∃ z, e = .returned (.int .i64 z) ∧ z = (TreAg.step s ⟨1, ⟨t, r, c, oo, inb, cnt⟩, sa, sn, sc, rt, fl⟩).1 ∧ Hid (Step w p own w3 (TreAg.step s ⟨1, ⟨t, r, c, oo, inb, cnt⟩, sa, sn, sc, rt, fl⟩).2 w'))) := hid ((block_any p s own ⟨t, r, c, oo, inb, cnt⟩ HFk.out sa sn sc w3 HT3.out.t).mono fun e w' h => by
              have h2 := op_step HT3.out h
              exact ⟨_, h2.1, by rw [hs], hid (by rw [hs]; exact h2.2)⟩)
            clear hs
            go_wp2_with fail
            refine HP.out.mono ?_
            rintro e w5 ⟨z, rfl, hz, HS⟩
            go_wp2_with fail
            all_goals go_meet
            exact ⟨rfl, HS.out⟩
          · have n1 : (kd == 1) = false := by simpa using h1
            by_cases h2 : kd = 2
            · subst h2
              have HTx := hid (HT3.out.below (Below.refl _ w3).drew)
              have HBx := hid (Below.drew (Below.refl w3.heap.size w3))
              have HKp : Hid (∀ w5, Step w p own w3 (TreAg.step s ⟨2, ⟨t, r, c, oo, inb, cnt⟩, sa, sn, sc, rt, fl⟩).2 w5 → w5.cell? ⟨g, o + k * 10, none⟩ = some (.int .i64 2) ∧ w5.cell? ⟨g, o + k * 10 + 1, none⟩ = some (.int .i64 t) ∧ w5.cell? ⟨g, o + k * 10 + 2, none⟩ = some (.string r) ∧ w5.cell? ⟨g, o + k * 10 + 3, none⟩ = some (.string c) ∧ w5.cell? ⟨g, o + k * 10 + 4, none⟩ = some (.string oo) ∧ w5.cell? ⟨g, o + k * 10 + 5, none⟩ = some (.bool inb) ∧ w5.cell? ⟨g, o + k * 10 + 6, none⟩ = some (.int .i64 cnt) ∧ w5.cell? ⟨g, o + k * 10 + 7, none⟩ = some (.slice sa sn sc) ∧ w5.cell? ⟨g, o + k * 10 + 8, none⟩ = some (.int .i64 rt) ∧ w5.cell? ⟨g, o + k * 10 + 9, none⟩ = some (.bool fl)) := hid fun w5 hS => by
                have hg0 : own g = 0 := HT3.out.low g HG0.out
                have e : ∀ oz, w5.cell? ⟨g, oz, none⟩ = w3.cell? ⟨g, oz, none⟩ := fun oz => World.cell?_of_block (a := ⟨g, oz, none⟩) (hS.old g hg hg0)
                exact ⟨(e _).trans c0, (e _).trans c1, (e _).trans c2, (e _).trans c3, (e _).trans c4, (e _).trans c5, (e _).trans c6, (e _).trans c7, (e _).trans c8, (e _).trans c9⟩
              have hs : TreAg.step s ⟨2, ⟨t, r, c, oo, inb, cnt⟩, sa, sn, sc, rt, fl⟩ = doneS s ⟨t, r, c, oo, inb, cnt⟩ rt fl := rfl
              have HP : Hid (Calls Try.prog 17 #[ptr p, .agg #[.int .i64 t, .string r, .string c, .string oo, .bool inb, .int .i64 cnt, .slice sa sn sc], .int .i64 rt, .bool fl] w3.drew (fun e w' => ∃ z, e = .returned (.int .i64 z) ∧ z = (TreAg.step s ⟨2, ⟨t, r, c, oo, inb, cnt⟩, sa, sn, sc, rt, fl⟩).1 ∧ Hid (Step w p own w3 (TreAg.step s ⟨2, ⟨t, r, c, oo, inb, cnt⟩, sa, sn, sc, rt, fl⟩).2 w'))) := hid ((done_any p s own ⟨t, r, c, oo, inb, cnt⟩ HFk.out sa sn sc rt fl w3.drew HTx.out.t).mono fun e w' h => by
                have h2 := op_step HTx.out h
                exact ⟨_, h2.1, by rw [hs], hid (by rw [hs]; exact Step.back HBx.out h2.2)⟩)
              clear hs
              go_upto_region 11 with fail
              go_region_held3 (fun w' => w'.cell? ⟨g, o + k * 10, none⟩ = some (.int .i64 2) ∧ w'.cell? ⟨g, o + k * 10 + 1, none⟩ = some (.int .i64 t) ∧ w'.cell? ⟨g, o + k * 10 + 2, none⟩ = some (.string r) ∧ w'.cell? ⟨g, o + k * 10 + 3, none⟩ = some (.string c) ∧ w'.cell? ⟨g, o + k * 10 + 4, none⟩ = some (.string oo) ∧ w'.cell? ⟨g, o + k * 10 + 5, none⟩ = some (.bool inb) ∧ w'.cell? ⟨g, o + k * 10 + 6, none⟩ = some (.int .i64 cnt) ∧ w'.cell? ⟨g, o + k * 10 + 7, none⟩ = some (.slice sa sn sc) ∧ w'.cell? ⟨g, o + k * 10 + 8, none⟩ = some (.int .i64 rt) ∧ w'.cell? ⟨g, o + k * 10 + 9, none⟩ = some (.bool fl)) (first | assumption | go_keep) (first | (go_at_call 17; refine HP.out.mono ?_; rintro e w5 ⟨z, rfl, hz, HS⟩; obtain ⟨c0, c1, c2, c3, c4, c5, c6, c7, c8, c9⟩ := HKp.out w5 HS.out))
              go_wp2_with fail
              all_goals go_meet
              exact ⟨rfl, HS.out⟩
            · have n2 : (kd == 2) = false := by simpa using h2
              by_cases h3 : kd = 3
              · subst h3
                have hbx : Below w3.heap.size w3 (w3.alloc (.cells #[.int .i64 t, .string r, .string c, .string oo, .bool inb, .int .i64 cnt, .slice sa sn sc] 40)) := (Below.refl _ _).alloc (Nat.le_refl _) _
                have HTx := hid (HT3.out.below hbx)
                have HBx := hid hbx
                clear hbx
                have hs : TreAg.step s ⟨3, ⟨t, r, c, oo, inb, cnt⟩, sa, sn, sc, rt, fl⟩ = touchS s ⟨t, r, c, oo, inb, cnt⟩ := rfl
                have HP : Hid (Calls Try.prog 18 #[ptr p, .slice (some ⟨w3.heap.size, 0, none⟩) 1 1] (w3.alloc (.cells #[.int .i64 t, .string r, .string c, .string oo, .bool inb, .int .i64 cnt, .slice sa sn sc] 40)) (fun e w' => ∃ z, e = .returned (.int .i64 z) ∧ z = (TreAg.step s ⟨3, ⟨t, r, c, oo, inb, cnt⟩, sa, sn, sc, rt, fl⟩).1 ∧ Hid (Step w p own w3 (TreAg.step s ⟨3, ⟨t, r, c, oo, inb, cnt⟩, sa, sn, sc, rt, fl⟩).2 w'))) := hid ((touch_any p s own ⟨t, r, c, oo, inb, cnt⟩ HFk.out sa sn sc w3.heap.size (w3.alloc (.cells #[.int .i64 t, .string r, .string c, .string oo, .bool inb, .int .i64 cnt, .slice sa sn sc] 40)) HTx.out.t (heap_alloc_new _ _)).mono fun e w' h => by
                  have h2 := op_step HTx.out h
                  exact ⟨_, h2.1, by rw [hs], hid (by rw [hs]; exact Step.back HBx.out h2.2)⟩)
                clear hs
                go_wp2_with fail
                refine HP.out.mono ?_
                rintro e w5 ⟨z, rfl, hz, HS⟩
                go_wp2_with fail
                all_goals go_meet
                exact ⟨rfl, HS.out⟩
              · have n3 : (kd == 3) = false := by simpa using h3
                have hs : TreAg.step s ⟨kd, ⟨t, r, c, oo, inb, cnt⟩, sa, sn, sc, rt, fl⟩ = (0, s) := by unfold TreAg.step; simp only [h0, h1, h2, h3, if_false]
                have HS : Hid (Step w p own w3 (TreAg.step s ⟨kd, ⟨t, r, c, oo, inb, cnt⟩, sa, sn, sc, rt, fl⟩).2 w3) := hid (by rw [hs]; exact ⟨⟨own, HT3.out, fun _ _ h => h⟩, fun _ _ _ => rfl, Nat.le_refl _⟩)
                have HZ := hid (show (0 : Int) = (TreAg.step s ⟨kd, ⟨t, r, c, oo, inb, cnt⟩, sa, sn, sc, rt, fl⟩).1 by rw [hs])
                clear hs h0 h1 h2 h3
                go_wp2_with fail
                all_goals go_meet
                exact ⟨rfl, HS.out⟩
      case rest =>
        obtain ⟨rfl, hS⟩ := hcut
        rw [← HRn.out] at hS
        obtain ⟨own2, hT2, -⟩ := hS.ex
        have HT6 := hid hT2
        clear hS hT2 c0 c1 c2 c3 c4 c5 c6 c7 c8 c9 hg HT3 HFk HFK
        go_wp2_with fail
        go_roundw
        case rel => exact ⟨k + 1, own2, hlt, by go_num, HT6.out⟩
        case measure => simp [intOf]; omega
    · obtain rfl : k = n := by omega
      go_wp2_with fail
      go_ret
      exact ⟨p, own, rfl, HP.out, HT3.out⟩

end Go.Proofs.Ytnloedhcginopaa.TreAh
