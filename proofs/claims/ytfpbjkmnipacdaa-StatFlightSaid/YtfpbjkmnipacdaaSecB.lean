/- The walk of StatSeconds. -/
import Derived.Test.YtfpbjkmnipacdaaSecA
namespace Go.Proofs.Ytfpbjkmnipacdaa.SecB
open Go.ChangeShapes Go.WideShapes Go.ChangeAt Go.RowKit Base WinM WinA WinB WinC WinD WinE WinF WinG WinH WinI WinJ WinK WinL WinN StaA StaB StaC StaD StaH StaI SecA WldF WldG

def tm (E : List (Nat × Int)) : List Int := E.map fun e => (e.1 : Int)
def cn (E : List (Nat × Int)) : List Int := E.map fun e => e.2

def Rel (w : World) (len nb : Nat) (tms cns i : Value) (wr : World) : Prop :=
  ∃ (k : Nat) (S : Spots) (N : Nd) (last : Nat) (E : List (Nat × Int)) (vx vy : Value), vx = tms ∧ vy = cns ∧ k ≤ len ∧ i = .int .i64 k ∧ S.n = nb ∧ Sw w S N (tm E) (cn E) vx vy wr ∧ NGood N last E ∧ N.entries = E.length ∧ (∀ e ∈ E, 1 ≤ e.2 ∧ e.2 ≤ 1099511627776 ∧ e.1 ≤ 1152921504606846976)

structure Deed where
  kind : Int
  at_ : Int
  rt : Int
  bad : Bool
  a : Option Addr
  n : Nat
  cap : Nat
  f : Nat → Int

def dv (d : Deed) : Array Value := #[.int .i64 d.kind, .int .i64 d.at_, .int .i64 d.rt, .bool d.bad, .slice d.a d.n d.cap]

def Deeds (w : World) (a : Option Addr) (len : Nat) (D : Nat → Deed) : Prop :=
  len ≤ 9223372036854775807 ∧ (0 < len → ∃ p q, a = some ⟨p, q, none⟩ ∧ p < w.heap.size ∧ ∀ i, i < len → ∀ j v, (dv (D i))[j]? = some v → w.cell? ⟨p, q + i * 5 + j, none⟩ = some v) ∧
  ∀ i, i < len → (D i).n ≤ 9223372036854775807 ∧ Ints w (D i).a (D i).n (D i).f ∧ (0 < (D i).n → ∀ g o, (D i).a = some ⟨g, o, none⟩ → g < w.heap.size)

theorem ints_below {w w' : World} {a : Option Addr} {n : Nat} {f : Nat → Int} (h : Ints w a n f) (hb : Below w.heap.size w w') : Ints w' a n f := fun h0 => by
  obtain ⟨g, o, ha, hg, hc⟩ := h h0
  exact ⟨g, o, ha, Nat.lt_of_lt_of_le hg hb.size, fun i hi => (hb.cell (p := ⟨g, o + i, none⟩) hg).trans (hc i hi)⟩

theorem each_len (t : Nat) (f : Nat → Int) (n : Nat) : (each t f n).length = n := by simp [each]

theorem next_log {N : Nd} (E : List (Nat × Int)) (f : Nat → Int) (n last t : Nat) (h : NGood N last E) (hent : N.entries = E.length) (hE : ∀ e ∈ E, 1 ≤ e.2 ∧ e.2 ≤ 1099511627776 ∧ e.1 ≤ 1152921504606846976) (ht : t ≤ 1152921504606846976) (hl : last ≤ t) (hbad : ∀ i, i < n → badC (f i) = false) (hroom : (n : Int) ≤ 4096 - N.entries) :
    NGood (({ N with entries := N.entries + n } : Nd).noted t ⟨tokM (firsts f n), 0, 0, 0, 0, 0⟩) t (E ++ each t f n) ∧ (({ N with entries := N.entries + n } : Nd).noted t ⟨tokM (firsts f n), 0, 0, 0, 0, 0⟩).entries = ((E ++ each t f n).length : Int) ∧
      ∀ e ∈ E ++ each t f n, 1 ≤ e.2 ∧ e.2 ≤ 1099511627776 ∧ e.1 ≤ 1152921504606846976 := by
  have hn : n ≤ 4096 := by have := h.ok.e1; omega
  have hf : ∀ i, i < n → 1 ≤ f i ∧ f i ≤ 1099511627776 := fun i hi => by have := hbad i hi; unfold badC at this; simp at this; omega
  obtain ⟨_, p1, p2⟩ := plus_firsts f n (fun i hi => by have := hf i hi; omega) hn
  have hk := tok_sum f n hbad hn
  have htot := tot_le 1099511627776 E fun e he => (hE e he).2.1
  have h1 := h.note hl (N.entries + n) ⟨by have := h.ok.e1; omega, by omega⟩ ⟨tokM (firsts f n), 0, 0, 0, 0, 0⟩ (right_pass _ (tokM_in f n hbad)).1 (by show tot E + tokM (firsts f n) ≤ _; rw [hk]; omega)
  have hb : ∀ e ∈ E ++ each t f n, 1 ≤ e.2 ∧ e.2 ≤ 1099511627776 ∧ e.1 ≤ 1152921504606846976 := fun e he => by
    rcases List.mem_append.1 he with he | he
    · exact hE e he
    · obtain ⟨i, hi, rfl⟩ := List.mem_map.1 he
      have := hf i (List.mem_range.1 hi)
      exact ⟨this.1, this.2, ht⟩
  refine ⟨StaI.NGood.retold h1 (fun q L => ?_) ?_ (fun e he => by have := (hb e he).1; omega), ?_, hb⟩
  · rw [ev_app, ev_app, ev_each]; show _ = _ + ev q L [(t, tokM (firsts f n))]; rw [hk]
  · rw [tot_app, tot_app, tot_each]; show _ = _ + tot [(t, tokM (firsts f n))]; rw [hk]; simp [tot]
  · rw [List.length_append, each_len]; show N.entries + (n : Int) = _; rw [hent]; simp

theorem tm_succ (E : List (Nat × Int)) (t : Nat) (f : Nat → Int) (m : Nat) : tm (E ++ each t f (m + 1)) = tm (E ++ each t f m) ++ [(t : Int)] := by simp [tm, each_succ]
theorem cn_succ (E : List (Nat × Int)) (t : Nat) (f : Nat → Int) (m : Nat) : cn (E ++ each t f (m + 1)) = cn (E ++ each t f m) ++ [f m] := by simp [cn, each_succ]

theorem drewN_below (w : World) (n B : Nat) : Below B w (w.drewN n) := ⟨rfl, rfl, rfl, Nat.le_refl _, fun _ _ => rfl⟩

def Rel2 (w : World) (d : Nat) (DC : Obj) (S : Spots) (N : Nd) (E : List (Nat × Int)) (t : Nat) (f : Nat → Int) (n : Nat) (tms cns mm : Value) (wx : World) : Prop :=
  ∃ (m : Nat) (vx vy : Value), vx = tms ∧ vy = cns ∧ m ≤ n ∧ mm = .int .i64 m ∧ Sw w S N (tm (E ++ each t f m)) (cn (E ++ each t f m)) vx vy wx ∧ wx.heap[d]? = some DC ∧ (vx.ownBlock ≠ some d) ∧ (vy.ownBlock ≠ some d) ∧ d < wx.heap.size

set_option maxRecDepth 20000 in
set_option maxHeartbeats 4000000 in
theorem sec_core (a : Option Addr) (len cap : Nat) (D : Nat → Deed) (sv : Value) (hsv : sv = .slice a len cap) (w : World) (HC : Hid (Deeds w a len D)) :
    Calls Try.prog 4 #[sv] w fun e w' => e = .returned (.bool true) ∧ Below w.heap.size w w' := by
  subst hsv
  obtain ⟨i0, hi, hz0, hz1, hz2⟩ := info_parts infoInt
  go_enter Try.func4, Try.ntmps4
  go_wp2_with fail
  refine (StaE.live_look _).mono ?_
  rintro e w1 ⟨rfl, hb1⟩
  have HB1 := hid hb1
  have hs1 := hb1.size
  clear hb1
  go_wp2_with fail
  refine (new_any _).mono ?_
  rintro e w2 ⟨rfl, hn2, hb2, hs2⟩
  have HSt : Hid (Sw w ⟨w1.heap.size + 2, w1.heap.size, none, w1.heap.size + 1, none⟩ Nd.new [] [] (.slice none 0 0) (.slice none 0 0) w2) := hid
    { node := hn2, above := by (rintro k (e | e | e | e | e) <;> simp at e <;> omega), own1 := ⟨rfl, .inl ⟨rfl, rfl⟩⟩, own2 := ⟨rfl, .inl ⟨rfl, rfl⟩⟩, far1 := by simp [Value.ownBlock], far2 := by simp [Value.ownBlock], two := by simp [Value.ownBlock], bel := HB1.out.trans (hb2.mono hs1) }
  clear hn2 hb2 HB1
  obtain ⟨nb, hnb⟩ : ∃ nb, w1.heap.size + 2 = nb := ⟨_, rfl⟩
  rw [hnb]
  have hnb2 : nb < w2.heap.size := by omega
  go_wp2_with fail
  go_loopw [4, 5, 6] (fun tms cns i wr => Rel w len nb tms cns i wr) (fun _ _ i _ => len - (intOf i).toNat)
  case atStart =>
    exact ⟨0, _, Nd.new, 0, [], .slice none 0 0, .slice none 0 0, rfl, rfl, Nat.zero_le _, rfl, hnb, HSt.out, good_new, rfl, fun _ h => by cases h⟩
  case round =>
    obtain ⟨k, S, N, last, E, vx, vy, rfl, rfl, hk, rfl, hSn, hSw, hG, hent, hE⟩ := hrel
    have HSw := hid hSw
    have HG := hid hG
    have HE := hid hE
    by_cases hlt : k < len
    · obtain ⟨hlen, hcs, hds⟩ := HC.out
      obtain ⟨p, q, rfl, hp, hcp⟩ := hcs (by omega)
      obtain ⟨hdn, hdi, hdg⟩ := hds k hlt
      have hcp := hcp k hlt
      obtain ⟨⟨dk, da, dr, db, ca, cl, cc, cf⟩, hD⟩ : ∃ d, D k = d := ⟨_, rfl⟩
      rw [hD] at hcp hdn hdi hdg
      dsimp only at hcp hdn hdi hdg
      have c0 : wr.cell? ⟨p, q + k * 5, none⟩ = some (.int .i64 dk) := (hSw.bel.cell (p := ⟨p, q + k * 5, none⟩) hp).trans (hcp 0 _ rfl)
      have c1 : wr.cell? ⟨p, q + k * 5 + 1, none⟩ = some (.int .i64 da) := (hSw.bel.cell (p := ⟨p, q + k * 5 + 1, none⟩) hp).trans (hcp 1 _ rfl)
      have c2 : wr.cell? ⟨p, q + k * 5 + 2, none⟩ = some (.int .i64 dr) := (hSw.bel.cell (p := ⟨p, q + k * 5 + 2, none⟩) hp).trans (hcp 2 _ rfl)
      have c3 : wr.cell? ⟨p, q + k * 5 + 3, none⟩ = some (.bool db) := (hSw.bel.cell (p := ⟨p, q + k * 5 + 3, none⟩) hp).trans (hcp 3 _ rfl)
      have c4 : wr.cell? ⟨p, q + k * 5 + 4, none⟩ = some (.slice ca cl cc) := (hSw.bel.cell (p := ⟨p, q + k * 5 + 4, none⟩) hp).trans (hcp 4 _ rfl)
      have hz : p < wr.heap.size := by have := hSw.size; omega
      have HDI := hid (And.intro hdi hdg)
      clear hSw hG hE hcs hds hcp hD hdi hdg
      by_cases hkind : dk = 0
      · subst hkind
        have hfarD : ∀ j, S.Has j → j < wr.heap.size := HSw.out.node.hasLt
        have HP := hid (pass_step last E da ca cl cc cf (HSw.out.alloc (.cells #[.int .i64 0, .int .i64 da, .int .i64 dr, .bool db, .slice ca cl cc] 28)) HG.out hdn (ints_below HDI.out.1 (HSw.out.alloc (.cells #[.int .i64 0, .int .i64 da, .int .i64 dr, .bool db, .slice ca cl cc] 28)).bel) HDI.out.2)
        rw [hSn] at HP
        go_wp2_with fail
        refine HP.out.mono ?_
        rintro e w3 ⟨r, rfl, hl3, hpost⟩
        have HD3 : Hid (w3.heap[wr.heap.size]? = some (.cells #[.int .i64 0, .int .i64 da, .int .i64 dr, .bool db, .slice ca cl cc] 28)) := hid ((hl3.block _ (by simp) (fun hh => by have := hfarD _ hh; omega)).trans (heap_alloc_new wr _))
        have hz3 : wr.heap.size < w3.heap.size := by have := hl3.size; simp only [World.size_alloc] at this; omega
        clear HP hl3 hfarD c0 c1 c2 c3 c4
        rcases hpost with ⟨hr, hw3⟩ | ⟨rfl, t, S', rfl, ht, hlt2, hbad, hroom, hS', hst'⟩
        · have HS3 := hid (hw3 ▸ HSw.out.alloc (.cells #[.int .i64 0, .int .i64 da, .int .i64 dr, .bool db, .slice ca cl cc] 28))
          clear hw3
          go_wp2_with fail
          go_roundw
          case rel => exact ⟨k + 1, S, N, last, E, _, _, rfl, rfl, by omega, by go_num, hSn, HS3.out, HG.out, hent, HE.out⟩
          case measure => simp [intOf]; omega
        · have hcl : cl ≤ 4096 := by have := HG.out.ok.e1; omega
          obtain ⟨hg', he', hb'⟩ := next_log E cf cl last t HG.out hent HE.out ht hlt2 hbad hroom
          have HS3 := hid hst'
          obtain ⟨N', hN'⟩ : ∃ N', (({ N with entries := N.entries + cl } : Nd).noted t ⟨tokM (firsts cf cl), 0, 0, 0, 0, 0⟩) = N' := ⟨_, rfl⟩
          rw [hN'] at hg' he' HS3
          have HG' := hid hg'
          have HE' := hid hb'
          have hv1 : Hid (vx.ownBlock ≠ some wr.heap.size) := hid (fun e => absurd (World.ownsRow.lt HSw.out.own1 _ e).2 (by omega))
          have hv2 : Hid (vy.ownBlock ≠ some wr.heap.size) := hid (fun e => absurd (World.ownsRow.lt HSw.out.own2 _ e).2 (by omega))
          clear hst' hg' hb' hN' HSw HG HE
          obtain ⟨dd, hdd⟩ : ∃ d, wr.heap.size = d := ⟨_, rfl⟩
          rw [hdd] at HD3 hv1 hv2 hz3 ⊢
          have k4 : w3.cell? ⟨dd, 4, none⟩ = some (.slice ca cl cc) := by simp [World.cell?, HD3.out]
          clear hdd
          go_wp2_with fail
          clear k4
          go_loopw [4, 5, 8] (fun tms cns mm wx => Rel2 w dd (.cells #[.int .i64 0, .int .i64 t, .int .i64 dr, .bool db, .slice ca cl cc] 28) S' N' E t cf cl tms cns mm wx) (fun _ _ mm _ => cl - (intOf mm).toNat)
          case atStart => exact ⟨0, vx, vy, rfl, rfl, Nat.zero_le _, rfl, by simpa [each] using HS3.out, HD3.out, hv1.out, hv2.out, hz3⟩
          case round =>
            obtain ⟨m, vx, vy, rfl, rfl, hm, rfl, hSm, hDm, hx1, hx2, hzm⟩ := hrel
            have HSm := hid hSm
            have HDm := hid hDm
            have d1 : wr.cell? ⟨dd, 1, none⟩ = some (.int .i64 t) := by simp [World.cell?, hDm]
            have d4 : wr.cell? ⟨dd, 4, none⟩ = some (.slice ca cl cc) := by simp [World.cell?, hDm]
            have hown1 : (wr.alloc (.cells #[.int .i64 t] 3)).ownsRow w.heap.size 3 1 vx (tm (E ++ each t cf m)).length ((tm (E ++ each t cf m)).map (Value.int .i64)) := World.ownsRow.alloc hSm.own1 _
            have hlm : (tm (E ++ each t cf m)).length = E.length + m ∧ (cn (E ++ each t cf m)).length = E.length + m := by simp [tm, cn, each]
            have hEl : E.length ≤ 4096 := by have := he'; have := HG'.out.ok.e2; simp at *; omega
            have hsz := hSm.size
            clear hSm hDm
            by_cases hml : m < cl
            · obtain ⟨cg, co, rfl, hcg, hcc⟩ := HDI.out.1 (by omega)
              go_wp2_with (at_builtin; (first
                | (refine wpList_append_own_at _ rfl _ _ 26 rfl w.heap.size 3 i0 (.int .i64 0) 1 8 Try.underlying26 hi hz0 hz1 hz2 rfl (by decide) _ _ _ rfl hown1 ⟨wr.heap.size, 0, none⟩ 1 1 [.int .i64 t] rfl (by rfl) (cell_one_new _ _ _) (ints_oneCell .i64 [(t : Int)]) (by unfold maxLen; omega) (by omega) (by simp; omega) ?_; intro v5 w5 hown5 hgr5 hnil5 hat5
                   have HS5 := hid ((HSm.out.alloc (.cells #[.int .i64 t] 3)).pushed1 (zs := tm (E ++ each t cf m) ++ [(t : Int)]) (by unfold OwnI; rw [List.length_append, List.map_append]; exact hown5) hgr5 hat5)
                   have hs5 : wr.heap.size < w5.heap.size := by have := hgr5.size; simp only [World.size_alloc] at this; omega
                   have HD5 := hid ((hgr5.block dd (by simp; omega) (fun e => hx1 e.symm)).trans ((Below.heap_alloc wr _ dd hzm).trans HDm.out))
                   have hx5 : v5.ownBlock ≠ some dd := by
                     rcases hat5 with e | e
                     · rw [e]; exact hx1
                     · rw [e]; intro e2; have e3 := Option.some.inj e2; simp at e3; omega
                   have d45 : w5.cell? ⟨dd, 4, none⟩ = some (.slice (some ⟨cg, co, none⟩) cl cc) := by simp [World.cell?, HD5.out]
                   have e5 : w5.cell? ⟨cg, co + m, none⟩ = some (.int .i64 (cf m)) := (HS5.out.bel.cell (p := ⟨cg, co + m, none⟩) hcg).trans (hcc m hml)
                   have hcg5 : cg < w5.heap.size := by omega
                   have hown2 : (w5.alloc (.cells #[.int .i64 (cf m)] 3)).ownsRow w.heap.size 3 1 vy (cn (E ++ each t cf m)).length ((cn (E ++ each t cf m)).map (Value.int .i64)) := World.ownsRow.alloc HS5.out.own2 _
                   clear hown5 hgr5 hnil5 hat5 d1 d4 hown1 HSm HDm)
                | (refine wpList_append_own_at _ rfl _ _ 26 rfl w.heap.size 3 i0 (.int .i64 0) 1 8 Try.underlying26 hi hz0 hz1 hz2 rfl (by decide) _ _ _ rfl hown2 ⟨w5.heap.size, 0, none⟩ 1 1 [.int .i64 (cf m)] rfl (by rfl) (cell_one_new _ _ _) (ints_oneCell .i64 [cf m]) (by unfold maxLen; omega) (by omega) (by simp; omega) ?_; intro v6 w6 hown6 hgr6 hnil6 hat6
                   have HS6 := hid ((HS5.out.alloc (.cells #[.int .i64 (cf m)] 3)).pushed2 (zs := cn (E ++ each t cf m) ++ [cf m]) (by unfold OwnI; rw [List.length_append, List.map_append]; exact hown6) hgr6 hat6)
                   have hs6 : w5.heap.size < w6.heap.size := by have := hgr6.size; simp only [World.size_alloc] at this; omega
                   have HD6 := hid ((hgr6.block dd (by simp; omega) (fun e => hx2 e.symm)).trans ((Below.heap_alloc w5 _ dd (by omega)).trans HD5.out))
                   have hx6 : v6.ownBlock ≠ some dd := by
                     rcases hat6 with e | e
                     · rw [e]; exact hx2
                     · rw [e]; intro e2; have e3 := Option.some.inj e2; simp at e3; omega
                   clear hown6 hgr6 hnil6 hat6 d45 e5 hown2 HS5 HD5)))
              go_roundw
              case rel => exact ⟨m + 1, v5, v6, rfl, rfl, by omega, by go_num, by rw [tm_succ, cn_succ]; exact HS6.out, HD6.out, hx5, hx6, by omega⟩
              case measure => simp [intOf]; omega
            · obtain rfl : m = cl := by omega
              clear hown1 hlm
              obtain ⟨E2, hE2⟩ : ∃ E2, E ++ each t cf m = E2 := ⟨_, rfl⟩
              rw [hE2] at HSm HG' HE' he'
              have hEl2 : E2.length ≤ 4096 := by have := HG'.out.ok.e2; omega
              obtain ⟨va, vc, hvx⟩ := HSm.out.own1.shape
              obtain ⟨ya, yc, hvy⟩ := HSm.out.own2.shape
              rw [show (tm E2).length = E2.length by simp [tm]] at hvx
              rw [show (cn E2).length = E2.length by simp [cn]] at hvy
              subst hvx
              subst hvy
              obtain ⟨⟨a1, a2, a3, a4, a5, a6⟩, hsm⟩ : ∃ sm, sumN N' t = sm := ⟨_, rfl⟩
              have HNear : Hid (near t E2 ≤ a1) := hid (by
                have h1 := HG'.out.sum
                rw [hsm] at h1
                have h2 := near_le t E2 HG'.out.pos
                have h3 : a1 = _ := h1
                omega)
              have HPast : Hid (pastN N' t = SecA.ahead ((begN 1000000 t : Nat) : Int) E2) := hid (HG'.out.past.trans (ahead_ev t E2))
              have HN := hid (nsum_yes S' N' t t wr HSm.out.node HG'.out.ok ht (Nat.le_refl _))
              rw [hS', hsm] at HN
              go_wp2_with fail
              refine HN.out.mono ?_
              rintro e w5 ⟨rfl, hb5⟩
              have HS5 := hid (HSm.out.below hb5)
              have HD5 := hid ((hb5.block dd hzm).trans HDm.out)
              have hz5 : dd < w5.heap.size := by have := hb5.size; omega
              have d1 : w5.cell? ⟨dd, 1, none⟩ = some (.int .i64 t) := by simp [World.cell?, HD5.out]
              clear HN hb5 HSm HDm d4
              have HP := hid (npast_yes S' N' t t _ (HS5.out.alloc (.cells #[.int .i64 a1, .int .i64 a2, .int .i64 a3, .int .i64 a4, .int .i64 a5, .int .i64 a6] 30)).node HG'.out.ok ht (Nat.le_refl _))
              rw [hS', HPast.out] at HP
              unfold cv
              go_wp2_with fail
              refine HP.out.mono ?_
              rintro e w6 ⟨rfl, hb6⟩
              have HS6 := hid ((HS5.out.alloc (.cells #[.int .i64 a1, .int .i64 a2, .int .i64 a3, .int .i64 a4, .int .i64 a5, .int .i64 a6] 30)).below hb6)
              have h56 : w5.heap.size < w6.heap.size := by have := hb6.size; simp only [World.size_alloc] at this; omega
              have HD6 := hid ((hb6.block dd (by simp; omega)).trans ((Below.heap_alloc w5 _ dd hz5).trans HD5.out))
              have HA6 := hid ((hb6.block w5.heap.size (by simp)).trans (heap_alloc_new w5 (.cells #[.int .i64 a1, .int .i64 a2, .int .i64 a3, .int .i64 a4, .int .i64 a5, .int .i64 a6] 30)))
              have d1 : w6.cell? ⟨dd, 1, none⟩ = some (.int .i64 t) := by simp [World.cell?, HD6.out]
              have hbg := begN_eq 1000000 t
              clear HP hb6 HS5 HD5
              have hsec : (t : Int) - (t : Int) % 1000000 = ((begN 1000000 t : Nat) : Int) := hbg
              have hbl := begN_le 1000000 t
              obtain ⟨bg, hbg2⟩ : ∃ bg, begN 1000000 t = bg := ⟨_, rfl⟩
              rw [hbg2] at hsec hbl HPast
              clear hbg
              go_wp2_with fail
              have htot2 : Hid (∀ j, (0 ≤ near t (E2.take j) ∧ near t (E2.take j) ≤ 4504699138998272) ∧ (0 ≤ SecA.ahead bg (E2.take j) ∧ SecA.ahead bg (E2.take j) ≤ 4504699138998272)) := hid (fun j => by
                have h0 : ∀ e ∈ E2.take j, 0 ≤ e.2 := fun e he => by have := (HE'.out e (List.mem_of_mem_take he)).1; omega
                have h1 := near_pos t (E2.take j) h0
                have h4 := ahead_pos bg (E2.take j) h0
                have h2 := tot_le 1099511627776 (E2.take j) (fun e he => (HE'.out e (List.mem_of_mem_take he)).2.1)
                have h3 : (E2.take j).length ≤ 4096 := by rw [List.length_take]; omega
                omega)
              go_loopw [13, 14, 16] (fun nr ah kk wx => ∃ j : Nat, j ≤ E2.length ∧ kk = .int .i64 j ∧ nr = .int .i64 (near t (E2.take j)) ∧ ah = .int .i64 (SecA.ahead bg (E2.take j)) ∧ Below w6.heap.size w6 wx) (fun _ _ kk _ => E2.length - (intOf kk).toNat)
              case atStart => exact ⟨0, Nat.zero_le _, rfl, rfl, rfl, Below.refl _ _⟩
              case round =>
                obtain ⟨j, hj, rfl, rfl, rfl, hbw⟩ := hrel
                have HSx := hid (HS6.out.below hbw)
                have HBW := hid hbw
                have hdx := (hbw.block dd (by omega)).trans HD6.out
                have d1 : wr.cell? ⟨dd, 1, none⟩ = some (.int .i64 t) := by simp [World.cell?, hdx]
                have hax := (hbw.block w5.heap.size h56).trans HA6.out
                have b0 : wr.cell? ⟨w5.heap.size, 0, none⟩ = some (.int .i64 a1) := by simp [World.cell?, hax]
                clear hbw hdx hax
                by_cases hjl : j < E2.length
                · obtain ⟨⟨et, ec⟩, he⟩ : ∃ e, E2[j]? = some e := ⟨E2[j], List.getElem?_eq_getElem hjl⟩
                  obtain ⟨g1, p1, hv1, _, hg1, hr1⟩ := own_row HSx.out.own1 (by simp [tm]; omega) rfl
                  obtain ⟨g2, p2, hv2, _, hg2, hr2⟩ := own_row HSx.out.own2 (by simp [cn]; omega) rfl
                  have x1 : wr.cell? ⟨g1, j, none⟩ = some (.int .i64 et) := by
                    have := hr1 j (by simp [tm]; omega)
                    rw [Nat.zero_add] at this
                    rw [this]; simp [tm, List.getD, he]
                  have x2 : wr.cell? ⟨g2, j, none⟩ = some (.int .i64 ec) := by
                    have := hr2 j (by simp [cn]; omega)
                    rw [Nat.zero_add] at this
                    rw [this]; simp [cn, List.getD, he]
                  injection hv1 with e1 f1 e2
                  injection hv2 with e3 f3 e4
                  subst e1
                  subst e3
                  have HT1 := hid (near_take t E2 j (et, ec) he)
                  have HT2 := hid (ahead_take bg E2 j (et, ec) he)
                  obtain ⟨hb1, hb2, hb3⟩ := HE'.out _ (List.mem_of_getElem? he)
                  obtain ⟨hn1, hn2⟩ := htot2.out j
                  have hdz : dd < wr.heap.size := by have := HBW.out.size; omega
                  dsimp only at hb1 hb2 hb3 HT1 HT2
                  clear hr1 hr2 he b0 e2 e4 f1 f3 HSx
                  generalize near t (E2.take j) = nr at *
                  generalize SecA.ahead bg (E2.take j) = ah at *
                  cases hA : decide ((t : Int) - 900000 < et)
                  · go_wp2_with fail
                    go_quiet (fail)
                    have HB2 := hid (HBW.out.trans (drewN_below wr nq _))
                    have y1 : (wr.drewN nq).cell? ⟨g1, j, none⟩ = some (.int .i64 et) := x1
                    have y2 : (wr.drewN nq).cell? ⟨g2, j, none⟩ = some (.int .i64 ec) := x2
                    have y3 : (wr.drewN nq).cell? ⟨dd, 1, none⟩ = some (.int .i64 t) := d1
                    have y4 : g1 < (wr.drewN nq).heap.size := hg1
                    have y5 : g2 < (wr.drewN nq).heap.size := hg2
                    clear x1 x2 d1 hg1 hg2 HBW hdz
                    generalize wr.drewN nq = wd at *
                    go_wp2_with fail
                    all_goals go_roundw
                    all_goals first
                      | exact ⟨j + 1, by omega, by go_num, by rw [HT1.out]; congr 1; simp only [decide_eq_false_iff_not] at hA; split <;> omega, by rw [HT2.out]; congr 1; split <;> omega, HB2.out⟩
                      | (simp [intOf]; omega)
                  · go_wp2_with fail
                    go_quiet (fail)
                    have HB2 := hid (HBW.out.trans (drewN_below wr nq _))
                    have y1 : (wr.drewN nq).cell? ⟨g1, j, none⟩ = some (.int .i64 et) := x1
                    have y2 : (wr.drewN nq).cell? ⟨g2, j, none⟩ = some (.int .i64 ec) := x2
                    have y3 : (wr.drewN nq).cell? ⟨dd, 1, none⟩ = some (.int .i64 t) := d1
                    have y4 : g1 < (wr.drewN nq).heap.size := hg1
                    have y5 : g2 < (wr.drewN nq).heap.size := hg2
                    clear x1 x2 d1 hg1 hg2 HBW hdz
                    generalize wr.drewN nq = wd at *
                    go_wp2_with fail
                    all_goals go_roundw
                    all_goals first
                      | exact ⟨j + 1, by omega, by go_num, by rw [HT1.out]; congr 1; simp only [decide_eq_true_eq] at hA; split <;> omega, by rw [HT2.out]; congr 1; split <;> omega, HB2.out⟩
                      | (simp [intOf]; omega)
                · obtain rfl : j = E2.length := by omega
                  rw [List.take_length]
                  have hnear := HNear.out
                  have hlt1 : decide (a1 < near t E2) = false := by simp; omega
                  go_wp2_with fail
                  go_roundw
                  case rel => exact ⟨k + 1, S', N', t, E2, _, _, rfl, rfl, by omega, by go_num, hS', HSx.out, HG'.out, he', HE'.out⟩
                  case measure => simp [intOf]; omega
      · have hne : (dk != 0) = true := by simpa using hkind
        go_wp2_with fail
        go_roundw
        case rel => exact ⟨k + 1, S, N, last, E, _, _, rfl, rfl, by omega, by go_num, hSn, HSw.out.alloc _, HG.out, hent, HE.out⟩
        case measure => simp [intOf]; omega
    · obtain rfl : k = len := by omega
      clear hSw hG hE
      go_wp2_with fail
      go_ret
      exact ⟨rfl, HSw.out.bel⟩

end Go.Proofs.Ytfpbjkmnipacdaa.SecB
