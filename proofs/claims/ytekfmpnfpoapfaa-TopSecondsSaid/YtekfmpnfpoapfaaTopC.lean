/- The walk of TopSeconds. -/
import Derived.Test.YtekfmpnfpoapfaaTopB
import Derived.Laws.StructEq
namespace Go.Proofs.Ytekfmpnfpoapfaa.TopC
open Go.ChangeShapes Go.WideShapes Go.ChangeAt Go.RowKit Base WinM WinA WinB WinC WinD WinE WinF WinG WinH WinI WinJ WinK WinL WinN StaA StaB StaC StaD StaH TopA TopB WldF WldG

def Rel (w : World) (len nb pb : Nat) (inn i : Value) (wr : World) : Prop :=
  ∃ (k : Nat) (S : Spots) (go : Option Nat) (N : Nd) (last : Nat) (E : List (Nat × Int)) (v0 : Value), v0 = inn ∧ k ≤ len ∧ k ≤ 100 ∧ i = .int .i64 k ∧ E.length ≤ k ∧ S.n = nb ∧ St w S pb go N N.sec E v0 wr ∧ NGood N last E ∧ N.entries = E.length ∧ (∀ e ∈ E, 1 ≤ e.2 ∧ e.2 ≤ 1099511627776 ∧ e.1 ≤ 1152921504606846976)

theorem start_st (w w1 : World) (h : IsNode w1 ⟨w.heap.size + 2, w.heap.size, none, w.heap.size + 1, none⟩ Nd.new) (hb : Below w.heap.size w w1) (hs : w1.heap.size = w.heap.size + 3) :
    St w ⟨w.heap.size + 2, w.heap.size, none, w.heap.size + 1, none⟩ w1.heap.size none Nd.new Nd.new.sec [] (.slice none 0 0) (w1.alloc (.cells #[.int .i64 1000000, .int .i64 10, .int .i64 0, .slice none 0 0] 149)) where
  node := h.below ((Below.refl _ _).alloc (Nat.le_refl _) _)
  win := ⟨by simp, .slice none 0 0, heap_alloc_new w1 _, .inl ⟨rfl, rfl, rfl⟩⟩
  away := ⟨by rintro (e | e | e | e | e) <;> simp at e <;> omega, by simp⟩
  above := ⟨by rintro k (e | e | e | e | e) <;> simp at e <;> omega, by omega, by simp⟩
  own := ⟨rfl, .inl ⟨rfl, rfl⟩⟩
  far := by simp [Value.ownBlock]
  bel := hb.alloc (by omega) _

theorem Below.drewN' (w : World) (n B : Nat) : Below B w (w.drewN n) := ⟨rfl, rfl, rfl, Nat.le_refl _, fun _ _ => rfl⟩

theorem cell_two_new (w : World) (x y : Value) (T : TypeId) : ∀ j u, [x, y][j]? = some u → (w.alloc (.cells #[x, y] T)).cell? ((⟨w.heap.size, 0, none⟩ : Addr).add j) = some u := by
  intro j u hj
  rw [Go.WideShapes.add_plain, Nat.zero_add]
  exact (World.cell?_alloc_new w _ _ j).trans (by simpa using hj)

set_option maxRecDepth 20000 in
set_option maxHeartbeats 4000000 in
theorem top_core (a : Option Addr) (len cap : Nat) (fa fc : Nat → Int) (sv : Value) (hsv : sv = .slice a len cap) (w : World)
    (HC : Hid (0 < len → ∃ p q, a = some ⟨p, q, none⟩ ∧ p < w.heap.size ∧ ∀ i, i < len → w.cell? ⟨p, q + i * 2, none⟩ = some (.int .i64 (fa i)) ∧ w.cell? ⟨p, q + i * 2 + 1, none⟩ = some (.int .i64 (fc i)))) :
    Calls Try.prog 11 #[sv] w fun e w' => e = .returned (.bool true) ∧ Below w.heap.size w w' := by
  subst hsv
  obtain ⟨i0, hi, hz0, hz1, hz2⟩ := info_parts infoNote
  go_enter Try.func11, Try.ntmps11
  go_wp2_with fail
  refine (new_any _).mono ?_
  rintro e w1 ⟨rfl, hn, hb1, hs1⟩
  have hst := hid (start_st w w1 hn hb1 hs1)
  clear hn hb1
  go_wp2_with fail
  refine (winNew_any 1000000 10 100000 _ (by omega) (by omega) (by omega) (by omega) (by omega)).mono ?_
  rintro e w2 ⟨rfl, hw2⟩
  have hw3 : w1.alloc (.cells #[.int .i64 1000000, .int .i64 10, .int .i64 0, .slice none 0 0] 149) = w2 := hw2
  rw [hw3, hs1] at hst
  clear hw2 hw3
  go_wp2_with fail
  go_loopw [6, 7] (fun inn i wr => Rel w len (w.heap.size + 2) (w.heap.size + 3) inn i wr) (fun _ i _ => len - (intOf i).toNat)
  case atStart =>
    exact ⟨0, _, none, Nd.new, 0, [], .slice none 0 0, rfl, Nat.zero_le _, Nat.zero_le _, rfl, Nat.le_refl _, rfl, hst.out, good_new, rfl, fun _ h => by cases h⟩
  case round =>
    obtain ⟨k, S, go, N, last, E, v0, rfl, hk, hk2, rfl, hEk, hSn, hSt, hG, hent, hE⟩ := hrel
    obtain ⟨va, vc, rfl⟩ := hSt.own.shape
    have HSt := hid hSt
    have HG := hid hG
    have HE := hid hE
    by_cases hlt : k < len
    · by_cases h100 : k < 100
      · obtain ⟨p, q, rfl, hp, hcp⟩ := HC.out (by omega)
        have hx : _ = some (Value.int .i64 (fa k)) := (hSt.bel.cell (p := ⟨p, q + k * 2, none⟩) hp).trans (hcp k hlt).1
        have hy : _ = some (Value.int .i64 (fc k)) := (hSt.bel.cell (p := ⟨p, q + k * 2 + 1, none⟩) hp).trans (hcp k hlt).2
        have hz : p < wr.heap.size := by have := hSt.size; omega
        have HP := hid ((pass_step w S (w.heap.size + 3) go N N.sec last E (.slice va E.length vc) wr (fa k) (fc k) hSt hG hent (by omega)).mono
          (R' := fun e w' => ∃ r : Int, e = .returned (.int .i64 r) ∧ (w'.cell? ⟨p, q + k * 2, none⟩ = some (.int .i64 (fa k)) ∧ w'.cell? ⟨p, q + k * 2 + 1, none⟩ = some (.int .i64 (fc k))) ∧ PassPost w S.n (w.heap.size + 3) go N N.sec last E (.slice va E.length vc) (wr.alloc (.cells #[.int .i64 (fc k)] 3)).drew (fa k) (fc k) r w')
          (fun e w' ⟨r, h1, h2, h3⟩ => ⟨r, h1, ⟨(h2.cell (p := ⟨p, q + k * 2, none⟩) hp).trans (hcp k hlt).1, (h2.cell (p := ⟨p, q + k * 2 + 1, none⟩) hp).trans (hcp k hlt).2⟩, h3⟩))
        rw [hSn] at HP
        have HCP := hid fun (wz : World) (hb : Below w.heap.size w wz) => And.intro ((hb.cell (p := ⟨p, q + k * 2, none⟩) hp).trans (hcp k hlt).1) ((hb.cell (p := ⟨p, q + k * 2 + 1, none⟩) hp).trans (hcp k hlt).2)
        clear hcp hSt hG hE
        generalize fa k = at_ at *
        generalize fc k = c at *
        go_wp2_with fail
        go_region_held3 (fun w' => w'.cell? ⟨p, q + k * 2, none⟩ = some (.int .i64 at_) ∧ w'.cell? ⟨p, q + k * 2 + 1, none⟩ = some (.int .i64 c))
          (first | assumption | go_keep) (first | (go_at_call 50; refine HP.out.mono ?_; rintro e w3 ⟨r, rfl, hS3, hpost⟩))
        rcases hpost with ⟨hr, hw3⟩ | ⟨rfl, t, S', rfl, ht, hlt2, hc1, hc2, hS', hst'⟩
        · have HS3 := hid (hw3 ▸ (HSt.out.alloc _).drew)
          clear HP hw3 hx hy
          go_wp2_with fail
          go_roundw
          case rel => exact ⟨k + 1, S, go, N, last, E, _, rfl, by omega, by omega, by go_num, by omega, hSn, HS3.out, HG.out, hent, HE.out⟩
          case measure => simp [intOf]; omega
        · obtain ⟨N', hN'⟩ : ∃ N', (({ N with entries := N.entries + 1 } : Nd).noted t ⟨c, 0, 0, 0, 0, 0⟩) = N' := ⟨_, rfl⟩
          have htot : tot E ≤ E.length * 1099511627776 := tot_le _ E fun e he => (HE.out e he).2.1
          have HG' : Hid (NGood N' t (E ++ [((t, c) : Nat × Int)])) := hid (hN' ▸ HG.out.note hlt2 (N.entries + 1) ⟨by omega, by omega⟩ ⟨c, 0, 0, 0, 0, 0⟩ (right_pass1 c ⟨hc1, hc2⟩).1 (by show tot E + c ≤ _; omega))
          have hsec : addM 100000 N.sec t ⟨c, 0, 0, 0, 0, 0⟩ = N'.sec := by rw [← hN']; rfl
          have hent' : N'.entries = ((E ++ [((t, c) : Nat × Int)]).length : Int) := by rw [← hN', List.length_append]; show N.entries + 1 = _; rw [hent]; simp
          rw [hN'] at hst'
          have HA := hid ((add_step w S' (w.heap.size + 3) go N' N last t E E (.slice va E.length vc) w3 c hst' HG.out ht hlt2 ⟨hc1, hc2⟩).mono
            (R' := fun e w' => e = .returned (.int .i64 0) ∧ (w'.cell? ⟨p, q + k * 2, none⟩ = some (.int .i64 t) ∧ w'.cell? ⟨p, q + k * 2 + 1, none⟩ = some (.int .i64 c)) ∧ ∃ go', St w S' (w.heap.size + 3) go' N' N'.sec E (.slice va E.length vc) w')
            (fun e w' ⟨h1, h2, h3⟩ => ⟨h1, HCP.out _ h2, by rw [hsec] at h3; exact h3⟩))
          clear HP hx hy hst' hN' hsec htot
          obtain ⟨hx, hy⟩ := hS3
          go_wp2_with fail
          go_region_held3 (fun w' => w'.cell? ⟨p, q + k * 2, none⟩ = some (.int .i64 t) ∧ w'.cell? ⟨p, q + k * 2 + 1, none⟩ = some (.int .i64 c))
            (first | assumption | go_keep) (first | (go_at_call 63; refine HA.out.mono ?_; rintro e w4 ⟨rfl, hS4, go', hst4⟩))
          have HS4 := hid hst4
          clear HA hx hy hst4
          obtain ⟨hx, hy⟩ := hS4
          have hlen2 : (E ++ [((t, c) : Nat × Int)]).length = E.length + 1 := by simp
          have hownd : (w4.alloc (.cells #[.int .i64 t, .int .i64 c] 117)).ownsRow w.heap.size 117 2 (.slice va E.length vc) E.length (flatE E) := World.ownsRow.alloc HS4.out.own _
          have HSZ : w.heap.size ≤ w4.heap.size := HS4.out.size
          have hpz : p < w4.heap.size := by omega
          go_wp2_with (at_builtin; (refine wpList_append_own_at _ rfl _ _ 112 rfl w.heap.size 117 i0 (.agg #[.int .i64 0, .int .i64 0]) 2 16 Try.underlying112 hi hz0 hz1 hz2 rfl (by decide) _ _ _ rfl hownd ⟨w4.heap.size, 0, none⟩ 1 1 [.int .i64 t, .int .i64 c] rfl ?c1 ?c2 ?c3 ?c4 ?c5 ?c6 ?_); rotate_left 6; intro v' w5 hown5 hgr5 hnil5 hat5; have HS5 := hid ((HS4.out.alloc (.cells #[.int .i64 t, .int .i64 c] 117)).pushed (E' := E ++ [((t, c) : Nat × Int)]) (by unfold OwnE; rw [flatE_app, hlen2]; exact hown5) hgr5 hat5); clear hown5 hgr5 hnil5 hat5 hownd hx hy; obtain ⟨va', vc', rfl⟩ := HS5.out.own.shape; have hx := (HCP.out w5 HS5.out.bel).1)
          case c1 => rfl
          case c2 => exact cell_two_new _ _ _ _
          case c3 => intro u hu; simp at hu; rcases hu with rfl | rfl <;> rfl
          case c4 => unfold maxLen; omega
          case c5 => omega
          case c6 => simp; omega
          obtain ⟨⟨a1, a2, a3, a4, a5, a6⟩, hsm⟩ : ∃ sm, sumN N' t = sm := ⟨_, rfl⟩
          have HNear : Hid (near t (E ++ [((t, c) : Nat × Int)]) ≤ a1) := hid (by
            have h1 := HG'.out.sum
            rw [hsm] at h1
            have h2 := near_le t (E ++ [((t, c) : Nat × Int)]) HG'.out.pos
            have h3 : a1 = _ := h1
            omega)
          have HN := hid (nsum_step w S' (w.heap.size + 3) go' N' N'.sec t _ _ _ w5 HS5.out HG'.out ht)
          rw [hS', hsm] at HN
          refine HN.out.mono ?_
          rintro e w6 ⟨rfl, hb6⟩
          have HS6 := hid (HS5.out.below hb6)
          have hpz6 : p < w6.heap.size := by have := HS6.out.size; omega
          clear HN hb6 HS5 hx HS4 HSt
          have hx := (HCP.out w6 HS6.out.bel).1
          unfold cv
          go_wp2_with fail
          have HW := hid (wsum_step w S' (w.heap.size + 3) go' N' t _ _ _ _ (HS6.out.alloc (.cells #[.int .i64 a1, .int .i64 a2, .int .i64 a3, .int .i64 a4, .int .i64 a5, .int .i64 a6] 103)) HG'.out ht)
          rw [hsm] at HW
          refine HW.out.mono ?_
          rintro e w7 ⟨rfl, hb7⟩
          have HS7 := hid ((HS6.out.alloc (.cells #[.int .i64 a1, .int .i64 a2, .int .i64 a3, .int .i64 a4, .int .i64 a5, .int .i64 a6] 103)).below hb7)
          have h67 : w6.heap.size < w7.heap.size := by have := hb7.size; simp only [World.size_alloc] at this; omega
          have hpz7 : p < w7.heap.size := by omega
          have HB : Hid (w7.heap[w6.heap.size]? = some (.cells #[.int .i64 a1, .int .i64 a2, .int .i64 a3, .int .i64 a4, .int .i64 a5, .int .i64 a6] 103)) := hid ((hb7.block _ (by simp)).trans (heap_alloc_new w6 _))
          clear HW hb7 HS6 hx
          obtain ⟨g, cap', hva, hg, hcells⟩ := HS7.out.own.form (by simp)
          injection hva with e1 _ e2
          subst e1
          subst e2
          have HF : Hid (∀ wx, Below (w7.heap.size + 1) (w7.alloc (.cells #[.int .i64 a1, .int .i64 a2, .int .i64 a3, .int .i64 a4, .int .i64 a5, .int .i64 a6] 103)) wx → St w S' (w.heap.size + 3) go' N' N'.sec (E ++ [((t, c) : Nat × Int)]) (.slice (some ⟨g, 0, none⟩) (E ++ [((t, c) : Nat × Int)]).length vc') wx ∧ wx.heap[w6.heap.size]? = some (.cells #[.int .i64 a1, .int .i64 a2, .int .i64 a3, .int .i64 a4, .int .i64 a5, .int .i64 a6] 103) ∧ wx.heap[w7.heap.size]? = some (.cells #[.int .i64 a1, .int .i64 a2, .int .i64 a3, .int .i64 a4, .int .i64 a5, .int .i64 a6] 103) ∧
              (∀ i e, (E ++ [((t, c) : Nat × Int)])[i]? = some e → wx.cell? ⟨g, i * 2, none⟩ = some (.int .i64 e.1) ∧ wx.cell? ⟨g, i * 2 + 1, none⟩ = some (.int .i64 e.2)) ∧ p < wx.heap.size ∧ g < wx.heap.size) := hid (fun wx hb => by
            have hb7 : Below w7.heap.size w7 wx := ((Below.refl _ _).alloc (Nat.le_refl _) (.cells #[.int .i64 a1, .int .i64 a2, .int .i64 a3, .int .i64 a4, .int .i64 a5, .int .i64 a6] 103)).trans (hb.mono (by omega))
            have hsz := hb7.size
            refine ⟨HS7.out.below hb7, (hb7.block _ h67).trans HB.out, (hb.block _ (by omega)).trans (heap_alloc_new w7 _), fun i e he => ?_, by omega, by omega⟩
            obtain ⟨h1, h2⟩ := hcells i e he
            exact ⟨(hb7.cell (p := ⟨g, i * 2, none⟩) hg).trans h1, (hb7.cell (p := ⟨g, i * 2 + 1, none⟩) hg).trans h2⟩)
          have HE2 : Hid (∀ e ∈ E ++ [((t, c) : Nat × Int)], 1 ≤ e.2 ∧ e.2 ≤ 1099511627776 ∧ e.1 ≤ 1152921504606846976) := hid (fun e he => by
            rcases List.mem_append.1 he with he | he
            · exact HE.out e he
            · obtain rfl := List.mem_singleton.1 he; exact ⟨hc1, hc2, ht⟩)
          have hx := (HCP.out w7 HS7.out.bel).1
          clear hcells HB HS7 HE
          unfold cv
          go_wp2_with fail
          clear hx
          have HFS := hid (HF.out _ (Below.refl _ _))
          obtain ⟨E2, hE2⟩ : ∃ E2, E ++ [((t, c) : Nat × Int)] = E2 := ⟨_, rfl⟩
          rw [hE2] at HF HE2 HNear HG' hent' hlen2
          have htot2 : Hid (∀ m, 0 ≤ near t (E2.take m) ∧ near t (E2.take m) ≤ 111050674405376) := hid (fun m => by
            have h1 := near_pos t (E2.take m) (fun e he => by have := (HE2.out e (List.mem_of_mem_take he)).1; omega)
            have h2 := tot_le 1099511627776 (E2.take m) (fun e he => (HE2.out e (List.mem_of_mem_take he)).2.1)
            have h3 : (E2.take m).length ≤ 101 := by rw [List.length_take]; omega
            omega)
          go_loopw [12, 13] (fun nr kk wx => ∃ m : Nat, m ≤ E.length + 1 ∧ kk = .int .i64 m ∧ nr = .int .i64 (near t (E2.take m)) ∧ Below (w7.heap.size + 1) (w7.alloc (.cells #[.int .i64 a1, .int .i64 a2, .int .i64 a3, .int .i64 a4, .int .i64 a5, .int .i64 a6] 103)) wx) (fun _ kk _ => E.length + 1 - (intOf kk).toNat)
          case atStart => exact ⟨0, Nat.zero_le _, rfl, rfl, Below.refl _ _⟩
          case round =>
            obtain ⟨m, hm, rfl, rfl, hbw⟩ := hrel
            have HBW := hid hbw
            clear hbw
            by_cases hmlt : m < E.length + 1
            · obtain ⟨hSw, hA, hBk, hcw, hpw, hgw⟩ := HF.out _ HBW.out
              have hm2 : m < E2.length := by omega
              obtain ⟨⟨et, ec⟩, he⟩ : ∃ e, E2[m]? = some e := ⟨E2[m], List.getElem?_eq_getElem hm2⟩
              have hx := (HCP.out wr hSw.bel).1
              obtain ⟨hy1, hy2⟩ := hcw m _ he
              have hbd := HE2.out _ (List.mem_of_getElem? he)
              have HT := hid (near_take t E2 m (et, ec) he)
              have hnr := htot2.out m
              obtain ⟨hb1, hb2, hb3⟩ := hbd
              dsimp only at hy1 hy2 hb1 hb2 hb3 HT
              clear hSw hA hBk hcw he
              by_cases hc3 : (t : Int) - (et : Int) < 900000
              · have hT2 := HT.out
                rw [if_pos hc3] at hT2
                have HT2 := hid hT2
                clear hT2 HT
                generalize near t (E2.take m) = nr at *
                go_wp2_with fail
                go_quiet (fail)
                have HB2 := hid (HBW.out.trans (Below.drewN' wr nq _))
                have hy3 : (wr.drewN nq).cell? ⟨g, m * 2 + 1, none⟩ = some (.int .i64 ec) := hy2
                have hgw2 : g < (wr.drewN nq).heap.size := hgw
                clear hx hy1 hy2 HBW hpw hgw
                generalize wr.drewN nq = wd at *
                go_wp2_with fail
                go_roundw
                case rel => exact ⟨m + 1, by omega, by go_num, by rw [HT2.out], HB2.out⟩
                case measure => simp [intOf]; omega
              · have hT2 := HT.out
                rw [if_neg hc3] at hT2
                have HT2 := hid hT2
                clear hT2 HT
                generalize near t (E2.take m) = nr at *
                go_wp2_with fail
                go_quiet (fail)
                have HB2 := hid (HBW.out.trans (Below.drewN' wr nq _))
                have hy3 : (wr.drewN nq).cell? ⟨g, m * 2 + 1, none⟩ = some (.int .i64 ec) := hy2
                have hgw2 : g < (wr.drewN nq).heap.size := hgw
                clear hx hy1 hy2 HBW hpw hgw
                generalize wr.drewN nq = wd at *
                go_wp2_with fail
                go_roundw
                case rel => exact ⟨m + 1, by omega, by go_num, by rw [HT2.out]; simp, HB2.out⟩
                case measure => simp [intOf]; omega
            · obtain rfl : m = E.length + 1 := by omega
              obtain ⟨hSw, hA, hBk, _, _, _⟩ := HF.out _ HBW.out
              have hfull : E2.take (E.length + 1) = E2 := by rw [← hlen2]; exact List.take_length
              rw [hfull]
              have HSw := hid hSw
              have hnear := HNear.out
              have c0 : wr.cell? ⟨w6.heap.size, 0, none⟩ = some (.int .i64 a1) := by simp [World.cell?, hA]
              have c1 : wr.cell? ⟨w6.heap.size, 1, none⟩ = some (.int .i64 a2) := by simp [World.cell?, hA]
              have c2 : wr.cell? ⟨w6.heap.size, 2, none⟩ = some (.int .i64 a3) := by simp [World.cell?, hA]
              have c3 : wr.cell? ⟨w6.heap.size, 3, none⟩ = some (.int .i64 a4) := by simp [World.cell?, hA]
              have c4 : wr.cell? ⟨w6.heap.size, 4, none⟩ = some (.int .i64 a5) := by simp [World.cell?, hA]
              have c5 : wr.cell? ⟨w6.heap.size, 5, none⟩ = some (.int .i64 a6) := by simp [World.cell?, hA]
              have d0 : wr.cell? ⟨w7.heap.size, 0, none⟩ = some (.int .i64 a1) := by simp [World.cell?, hBk]
              have d1 : wr.cell? ⟨w7.heap.size, 1, none⟩ = some (.int .i64 a2) := by simp [World.cell?, hBk]
              have d2 : wr.cell? ⟨w7.heap.size, 2, none⟩ = some (.int .i64 a3) := by simp [World.cell?, hBk]
              have d3 : wr.cell? ⟨w7.heap.size, 3, none⟩ = some (.int .i64 a4) := by simp [World.cell?, hBk]
              have d4 : wr.cell? ⟨w7.heap.size, 4, none⟩ = some (.int .i64 a5) := by simp [World.cell?, hBk]
              have d5 : wr.cell? ⟨w7.heap.size, 5, none⟩ = some (.int .i64 a6) := by simp [World.cell?, hBk]
              clear hSw hA hBk hfull
              generalize near t E2 = nr at *
              have hgt : decide (a1 < nr) = false := by simp; omega
              go_wp2_with fail
              go_roundw
              case rel => exact ⟨k + 1, S', go', N', t, E2, .slice (some ⟨g, 0, none⟩) E2.length vc', by rw [hlen2], by omega, by omega, by go_num, by omega, hS', HSw.out, HG'.out, hent', HE2.out⟩
              case measure => simp [intOf]; omega
      · have hfl := hid (StaA.flight_any (w.heap.size + 2) N.entries wr (by rw [← hSn]; exact hSt.node.cells.1))
        have h100' : decide ((k : Int) < 100) = false := by simp; omega
        clear hSt hG hE
        go_wp2_with fail
        refine hfl.out.mono ?_
        rintro e w3 ⟨rfl, rfl⟩
        rw [hent]
        go_wp2_with fail
        go_ret
        exact ⟨rfl, HSt.out.bel⟩
    · have hfl := hid (StaA.flight_any (w.heap.size + 2) N.entries wr (by rw [← hSn]; exact hSt.node.cells.1))
      obtain rfl : k = len := by omega
      clear hSt hG hE
      go_wp2_with fail
      refine hfl.out.mono ?_
      rintro e w3 ⟨rfl, rfl⟩
      rw [hent]
      go_wp2_with fail
      go_ret
      exact ⟨rfl, HSt.out.bel⟩

end Go.Proofs.Ytekfmpnfpoapfaa.TopC
