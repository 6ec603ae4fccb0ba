/- The document's Frame and Frames; its reader's small calls. -/
import Derived.Test.YtbpajgkhajheaaaFrmL
import Derived.Laws.OwnMore
namespace Go.Proofs.Ytbpajgkhajheaaa.FrmI
open Go.ChangeShapes Go.WideShapes Go.ChangeAt Go.RowKit Base Wri FrmP FrmA FrmD FrmE FrmF FrmQ FrmR FrmX FrmY FrmL
set_option linter.unusedVariables false
set_option linter.unusedSimpArgs false

theorem firstErr_one {q : Bs} (h : firstErr [q] ≠ 0) (r : List Bs) : firstErr (q :: r) = firstErr [q] := by
  by_cases h1 : q.length > 4096
  · rw [firstErr_long h1, firstErr_long h1]
  · by_cases h2 : q.length = 0
    · rw [firstErr_zero h2, firstErr_zero h2]
    · exfalso
      apply h
      show (if q.length > 4096 then (5 : Int) else if q.length = 0 then 6 else 0) = 0
      rw [if_neg h1, if_neg h2]
theorem firstErr_fine {q : Bs} (h1 : ¬ 4096 < q.length) (h2 : ¬ q.length = 0) : firstErr [q] = 0 := by
  show (if q.length > 4096 then (5 : Int) else if q.length = 0 then 6 else 0) = 0
  rw [if_neg h1, if_neg h2]

theorem lit_own (w : World) (x y : Int) : (w.alloc (.cells #[.int .u8 0, .int .u8 0, .int .u8 x, .int .u8 y] 5)).ownsRow w.heap.size 5 1 (.slice (some ⟨w.heap.size, 0, none⟩) 4 4) 4 [.int .u8 0, .int .u8 0, .int .u8 x, .int .u8 y] :=
  ⟨rfl, .inr ⟨_, 4, _, rfl, Nat.le_refl _, heap_alloc_new _ _, Nat.le_refl _, by unfold maxLen; omega, rfl, rfl⟩⟩

set_option maxRecDepth 20000 in
set_option maxHeartbeats 1000000 in
theorem rframe_any (a : Option Addr) (cap : Nat) (q : Bs) (w : World) (hq : q.length ≤ 1099511620000) (HB : Hid (BAt w w.heap.size a q)) :
    Calls Try.prog 19 #[.slice a q.length cap] w fun e w' => (∃ v, e = .returned (.tuple #[v, .int .i64 (firstErr [q])]) ∧ (firstErr [q] = 0 → Right q ∧ w'.ownsRow w.heap.size 5 1 v (frame q).length ((frame q).map bv)) ∧ (firstErr [q] ≠ 0 → v = .slice none 0 0)) ∧ Below w.heap.size w w' := by
  obtain ⟨i0, hi, hz0, hz1, hz2⟩ := info_parts infoU8
  obtain ⟨L, hL⟩ : ∃ L, q.length = L := ⟨_, rfl⟩
  have HQL := hid hL
  rw [hL] at hq ⊢
  clear hL
  by_cases hlong : 4096 < L
  · have HE : Hid (firstErr [q] = 5) := hid (firstErr_long (by rw [HQL.out]; exact hlong) [])
    go_enter Try.func19, Try.ntmps19
    go_wp2_with fail
    go_ret2
    exact ⟨⟨_, by rw [HE.out]; rfl, fun h => by rw [HE.out] at h; exact absurd h (by decide), fun _ => rfl⟩, Below.refl _ _⟩
  · by_cases hzero : L = 0
    · have HE : Hid (firstErr [q] = 6) := hid (firstErr_zero (by rw [HQL.out]; exact hzero) [])
      subst hzero
      go_enter Try.func19, Try.ntmps19
      go_wp2_with fail
      go_ret2
      exact ⟨⟨_, by rw [HE.out]; rfl, fun h => by rw [HE.out] at h; exact absurd h (by decide), fun _ => rfl⟩, Below.refl _ _⟩
    · obtain ⟨g, o, rfl, hg, hc⟩ := HB.out (by rw [HQL.out]; omega)
      have HE : Hid (firstErr [q] = 0) := hid (firstErr_fine (by rw [HQL.out]; exact hlong) (by rw [HQL.out]; exact hzero))
      have HCQ := hid hc
      clear hc
      go_enter Try.func19, Try.ntmps19
      go_wp2_with (at_builtin
                   refine wpList_append_own_at _ rfl _ _ 23 rfl w.heap.size 5 i0 (.int .u8 0) 1 1 Try.underlying23 hi hz0 hz1 hz2 rfl (by decide) _ 4 _ rfl (lit_own w _ _) ⟨g, o, none⟩ L _ (q.map bv) rfl (by rw [List.length_map, HQL.out, Nat.mul_one]) (news_of (fun i x hx => (((Below.refl w.heap.size w).alloc (Nat.le_refl _) _).cell (p := ⟨g, o + i, none⟩) hg).trans (HCQ.out i x hx))) (one_cells _) (by unfold maxLen; omega) (by omega) (by simp) ?_
                   intro v4 w4 hown4 hgrow4 _ _
                   have hb4 : Below w.heap.size w w4 := Below.grown ((Below.refl _ _).alloc (Nat.le_refl _) _) hgrow4 (by simp) (fun g e => by cases e; exact Nat.le_refl _)
                   have H4 := hid (And.intro hown4 hb4)
                   clear hown4 hgrow4 hb4)
      go_ret2
      refine ⟨⟨_, by rw [HE.out]; rfl, fun _ => ⟨by unfold Right; rw [HQL.out]; omega, ?_⟩, fun h => absurd HE.out h⟩, H4.out.2⟩
      have h4 := H4.out.1
      rw [frame_eq, List.map_append, List.length_append, HQL.out, head4_bv L (by omega)]
      have e3 : (L : Int) / 256 = ((L / 256 : Nat) : Int) := by omega
      have e4 : (L : Int) % 256 = ((L % 256 : Nat) : Int) := by omega
      rw [← e3, ← e4]
      exact h4

set_option maxRecDepth 20000 in
set_option maxHeartbeats 1000000 in
theorem rframes_any (a : Option Addr) (cap : Nat) (ls : List Bs) (f : Nat → Option Addr × Nat) (w : World) (hn : ls.length ≤ 1099511627776) (hsz : (frames ls).length ≤ 1099511620000) (hone : ∀ q ∈ ls, q.length ≤ 1099511620000) (HP : Hid (PAt w w.heap.size a ls f)) :
    Calls Try.prog 11 #[.slice a ls.length cap] w fun e w' => (∃ v, e = .returned (.tuple #[v, .int .i64 (firstErr ls)]) ∧ (firstErr ls = 0 → (∀ q ∈ ls, Right q) ∧ w'.ownsRow w.heap.size 5 1 v (frames ls).length ((frames ls).map bv)) ∧ (firstErr ls ≠ 0 → v = .slice none 0 0)) ∧ Below w.heap.size w w' := by
  obtain ⟨i0, hi, hz0, hz1, hz2⟩ := info_parts infoU8
  obtain ⟨n, hln⟩ : ∃ n, ls.length = n := ⟨_, rfl⟩
  have HL := hid hln
  have HONE := hid hone
  rw [hln] at hn ⊢
  clear hln hone
  go_enter Try.func11, Try.ntmps11
  go_wp2_with fail
  go_loopw [4, 5] (fun v i wr => ∃ k : Nat, k ≤ n ∧ i = .int .i64 k ∧ (∀ q ∈ ls.take k, Right q) ∧ wr.ownsRow w.heap.size 5 1 v (frames (ls.take k)).length ((frames (ls.take k)).map bv) ∧ Below w.heap.size w wr) (fun _ i _ => n - (intOf i).toNat)
  case atStart => exact ⟨0, Nat.zero_le _, rfl, (fun q hq => by simp at hq), World.ownsRow_nil _ _ _ _, Below.refl _ _⟩
  case round =>
    obtain ⟨k, hk, rfl, hr, hown, hb⟩ := hrel
    have HR := hid hr
    have HO := hid hown
    have HB := hid hb
    clear hr hown hb
    by_cases hlt : k < n
    · obtain ⟨g, o, rfl, hg, hc⟩ := HP.out (by rw [HL.out]; omega)
      obtain ⟨q, hq⟩ : ∃ q, ls[k]? = some q := ⟨ls[k]'(by rw [HL.out]; exact hlt), List.getElem?_eq_getElem _⟩
      obtain ⟨h1, h2, h3, h4⟩ := hc k q hq
      have HQ := hid hq
      have x0 : wr.cell? ⟨g, o + k, none⟩ = some (.slice (f k).1 q.length (f k).2) := (HB.out.cell (p := ⟨g, o + k, none⟩) hg).trans h1
      have HX : Hid (firstErr ls = firstErr (q :: ls.drop (k + 1))) := hid (by conv => lhs; rw [split_at hq, firstErr_ok HR.out])
      have HC := hid (rframe_any (f k).1 (f k).2 q wr (HONE.out q (List.mem_of_getElem? hq)) (hid ((h2.below HB.out).mono HB.out.size)))
      obtain ⟨L, hL⟩ : ∃ L, q.length = L := ⟨_, rfl⟩
      have HQL := hid hL
      rw [hL] at x0 h3 HC
      generalize (f k).1 = fa at *
      generalize (f k).2 = fc at *
      clear h1 h2 hc hq hL
      by_cases hbad : firstErr [q] = 0
      · rw [hbad] at HC
        have HTS : Hid (frames (ls.take (k + 1)) = frames (ls.take k) ++ frame q) := hid (by rw [take_snoc HQ.out, frames_snoc])
        have hszk := place_take ls (k + 1)
        rw [HTS.out] at hszk
        simp only [List.length_append] at hszk
        obtain ⟨F, hF⟩ : ∃ F, frames (ls.take k) = F := ⟨_, rfl⟩
        rw [hF] at HO hszk
        have HFF := hid hF
        obtain ⟨G, hG⟩ : ∃ G, frame q = G := ⟨_, rfl⟩
        rw [hG] at HC hszk
        have hGp : 0 < G.length := by rw [← hG, frame_len]; omega
        have HGG := hid hG
        clear hF hG hbad
        go_wp2_with (first
          | (go_at_call 19
             refine HC.out.mono ?_
             rintro e w3 ⟨⟨v3, rfl, h5, _⟩, hb3⟩
             obtain ⟨hr3, ho3⟩ := h5 rfl
             obtain ⟨a3, c3, rfl⟩ := owns_shape ho3
             have hk3 := owns_keep HO.out (fun g e => hb3.block g (HO.out.lt g e).2)
             have hat3 : ∃ g3, a3 = some ⟨g3, 0, none⟩ := by
               rcases ho3.2 with ⟨e1, e2⟩ | ⟨g3, _, _, e1, _⟩
               · omega
               · injection e1 with e1 _ _; exact ⟨g3, e1⟩
             obtain ⟨g3, rfl⟩ := hat3
             have H3 := hid (And.intro hb3 (And.intro ho3 (And.intro hk3 hr3)))
             clear h5 hr3 ho3 hb3 hk3)
          | (at_builtin
             refine wpList_append_own_at _ rfl _ _ 23 rfl w.heap.size 5 i0 (.int .u8 0) 1 1 Try.underlying23 hi hz0 hz1 hz2 rfl (by decide) _ F.length (F.map bv) rfl H3.out.2.2.1 ⟨g3, 0, none⟩ G.length c3 (G.map bv) rfl (by rw [List.length_map, Nat.mul_one]) (H3.out.2.1.cells rfl) (one_cells _) (by unfold maxLen; omega) (by omega) (Nat.le_trans HB.out.size H3.out.1.size) ?_
             intro v4 w4 hown4 hgrow4 _ _
             have hb4 : Below w.heap.size w w4 := Below.grown (HB.out.trans (H3.out.1.mono HB.out.size)) hgrow4 (Nat.le_trans HB.out.size H3.out.1.size) (fun g e => (HO.out.lt g e).1)
             have H4 := hid (And.intro hown4 hb4)
             clear hown4 hgrow4 hb4))
        refine ⟨⟨k + 1, by omega, by go_num, ?_, ?_, H4.out.2⟩, by simp [intOf]; omega⟩
        · intro q' hq'
          rw [take_snoc HQ.out] at hq'
          rcases List.mem_append.1 hq' with h | h
          · exact HR.out q' h
          · obtain rfl := List.mem_singleton.1 h
            exact H3.out.2.2.2
        · have h5 := H4.out.1
          rw [HTS.out, HFF.out, HGG.out, List.length_append, List.map_append]
          exact h5
      · have HE : Hid (firstErr ls = firstErr [q]) := hid (by rw [HX.out, firstErr_one hbad])
        obtain ⟨E, hE⟩ : ∃ E, firstErr [q] = E := ⟨_, rfl⟩
        have HEQ := hid hE
        rw [hE] at HC hbad
        clear hE
        go_wp2_with (go_at_call 19
                     refine HC.out.mono ?_
                     rintro e w3 ⟨⟨v3, rfl, _, h6⟩, hb3⟩
                     obtain rfl := h6 hbad
                     have H3 := hid hb3
                     clear h6 hb3)
        go_ret2
        exact ⟨⟨_, by rw [HE.out, HEQ.out]; rfl, fun h => absurd (by rw [← HEQ.out, ← HE.out]; exact h) hbad, fun _ => rfl⟩, HB.out.trans (H3.out.mono HB.out.size)⟩
    · obtain rfl : k = n := by omega
      have hall : ls.take k = ls := List.take_of_length_le (by rw [HL.out]; exact Nat.le_refl _)
      rw [hall] at HR HO
      have HE : Hid (firstErr ls = 0) := hid (by have := firstErr_ok HR.out []; rw [List.append_nil] at this; exact this)
      clear hall
      go_wp2_with fail
      go_ret2
      exact ⟨⟨_, by rw [HE.out]; rfl, fun _ => ⟨HR.out, HO.out⟩, fun h => absurd HE.out h⟩, HB.out⟩

end Go.Proofs.Ytbpajgkhajheaaa.FrmI
