/- whatever the rule and the calls, no value is taken more often than its limit in nine tenths of the rule's time, and what counts as used is never less than what was taken -/
import Derived.Test.YtbihelpnojjacaaGreatJHo
import Derived.Deep.RegionHeld3
import Derived.Deep.DeepCutAuto
import Derived.BigQuiet
import Derived.Test.YtbihelpnojjacaaGreatRows
import Derived.WalkKit
import Derived.ProofKit
import Derived.OpenShut
import Derived.ShutString
import Derived.ChangeOld
import Derived.Below
import Derived.SizedLaws
import Derived.ChangeShapes
import Derived.Test.YtbihelpnojjacaaGreatOpn

/- HotBounds: the law's walk. -/
namespace Go.Proofs.YtbihelpnojjacaaGreat.HotS
open Go.ChangeShapes Go.WideShapes Go.ChangeAt Go.RowKit Go.Deep Base Wri Map LruA LruB LruC LruD LruE LruF HotA HotB HotC HotD HotE HotF HotG HotH HotI HotJ HotK HotL HotM HotN HotO HotQ HotR RulA
open SkA (Note)
set_option linter.unusedVariables false

theorem lim_ok {res : ByteArray} {idx cnt sec : Int} {n : Nat} {f : Nat → Itm} (h : hotR res idx cnt sec n f = 0) {C : HC} (hc : C.cnt = cnt) (hi : C.it = itF f n) (s : ByteArray) : 0 ≤ limN C s ∧ limN C s ≤ 1099511627776 := by
  have h0 : 0 ≤ cnt ∧ cnt ≤ 1099511627776 ∧ ∀ i, i < n → okI (f i) = true := by
    unfold hotR itemsB at h
    split at h
    · split at h
      · rename_i h2
        simp only [Bool.and_eq_true, decide_eq_true_eq, inR] at h2
        exact ⟨h2.1.1.2.1, h2.1.1.2.2, h2.2.1.2⟩
      · cases h
    · cases h
  obtain ⟨h1, h2, h3⟩ := h0
  unfold limN
  rw [hi, hc]
  have h4 : ∀ k, k ≤ n → ∀ z, itF f k s = some z → 0 ≤ z ∧ z ≤ 1099511627776 := by
    intro k
    induction k with
    | zero => intro _ z hz; cases hz
    | succ k ih =>
      intro hk z hz
      unfold itF at hz
      split at hz
      · have := h3 k (by omega)
        unfold okI inR at this
        simp only [Bool.and_eq_true, decide_eq_true_eq] at this
        cases hz
        exact this.2
      · exact ih (by omega) z hz
  cases e : itF f n s with
  | none => exact ⟨h1, h2⟩
  | some z => exact h4 n (Nat.le_refl _) z e

theorem bdr {B : Nat} {a w : World} (h : Below B a w) (n : Nat) : Below B a (w.drewN n) := ⟨h.os, h.tape, h.output, h.size, h.block⟩

set_option maxRecDepth 20000 in
set_option maxHeartbeats 8000000 in
theorem bounds_core (res : ByteArray) (hres : res.size ≤ maxLen) (idx cnt sec : Int) (a : Option Addr) (n cap : Nat) (keys : Int) (seed : Nat) (f : Nat → Itm) (al : Option Addr) (nl cl : Nat) (g : Nat → Dd) (w : World) (hI : ItAt w a n f) (hfit : ∀ i, i < n → (f i).1.size ≤ maxLen) (hD : DeAt w al nl g) (hfit2 : ∀ i, i < nl → (g i).s.size ≤ maxLen) :
    Calls Tryz.prog 4 #[.agg #[.string res, .int .i64 idx, .int .i64 cnt, .int .i64 sec, .slice a n cap, .int .i64 keys, .int .u64 seed], .slice al nl cl] w fun e w' => e = .returned (.bool true) ∧ Below w.heap.size w w' := by
  have hb0 : Below w.heap.size w (w.alloc (.cells #[.string res, .int .i64 idx, .int .i64 cnt, .int .i64 sec, .slice a n cap, .int .i64 keys, .int .u64 seed] 27)) := (Below.refl _ _).alloc (Nat.le_refl _) _
  have hx0 : (w.alloc (.cells #[.string res, .int .i64 idx, .int .i64 cnt, .int .i64 sec, .slice a n cap, .int .i64 keys, .int .u64 seed] 27)).heap[w.heap.size]? = some (.cells #[.string res, .int .i64 idx, .int .i64 cnt, .int .i64 sec, .slice a n cap, .int .i64 keys, .int .u64 seed] 27) := heap_alloc_new _ _
  have HN := hid (New_any res hres idx cnt sec a n cap keys seed f _ (hI.below hb0) hfit)
  obtain ⟨w0, hw0⟩ : ∃ w0, w.alloc (.cells #[.string res, .int .i64 idx, .int .i64 cnt, .int .i64 sec, .slice a n cap, .int .i64 keys, .int .u64 seed] 27) = w0 := ⟨_, rfl⟩
  have hbw : Below w.heap.size w w0 := by rw [← hw0]; exact hb0
  have hxw : w0.heap[w.heap.size]? = some (.cells #[.string res, .int .i64 idx, .int .i64 cnt, .int .i64 sec, .slice a n cap, .int .i64 keys, .int .u64 seed] 27) := by rw [← hw0]; exact hx0
  have HB0 := hid (And.intro hbw hxw)
  have HW0 := hid hw0
  have HD := hid (And.intro hD hfit2)
  have HL := hid live_any
  clear hb0 hx0 hbw hxw hw0 hI hfit hD hfit2
  go_enter Tryz.func4, Tryz.ntmps4
  go_wp2_with fail
  refine HN.out.mono ?_
  rintro e w1 h
  rw [HW0.out] at h
  clear HN HW0
  rcases h with ⟨r, hr, rfl, hb1⟩ | ⟨k, q, hrl, -, -, -, hq, C, own, rfl, hM, hown, -, hcnt, hCq, -, hit, hb1⟩
  · have n0 : (r == 0) = false := by simpa using hr
    have HB1 := hid (bl HB0.out.1 hb1)
    clear hb1
    go_wp2_with fail
    refine (HL.out _).mono ?_
    rintro e w2 ⟨rfl, hb2⟩
    have HB2 := hid (bl HB1.out hb2)
    clear hb2
    go_wp2_with fail
    go_ret
    exact ⟨rfl, HB2.out⟩
  · have HLm : Hid (∀ s, 0 ≤ limN C s ∧ limN C s ≤ 1099511627776) := hid (lim_ok hrl hcnt hit)
    have HA := hid (show Bd w0 C 0 [] [] (.slice none 0 0) w1 from ⟨⟨own, [], [], Z0, hM, HMem.new_same, hown, Gh.new C (fun s => (HLm.out s).1), rfl, fun g hg => by simp [Value.ownBlock] at hg⟩, DRow.nil _ _, hb1, HLm.out⟩)
    have HQ := hid (And.intro hCq (And.intro hM.q0 hM.q1))
    have HBq : Hid (wrap64 ((wrap64 (sec * 1000000)).tdiv 10) = (q : Int)) := hid (by
      have h1 := hM.q1
      rw [hCq] at h1
      rw [show sec * 1000000 = 10 * (q : Int) by omega, show wrap64 (10 * (q : Int)) = 10 * (q : Int) by unfold wrap64; omega, Int.tdiv_eq_ediv_of_nonneg (by omega)]
      unfold wrap64
      omega)
    clear hM hown hb1 hrl hcnt hit hq
    generalize hCh : C.h = ch at *
    have HCh := hid hCh
    clear hCh
    go_wp2_with fail
    go_loopw [7, 8] (fun v i wr => ∃ (j : Nat) (last : Nat) (T : List Dd), j ≤ nl ∧ T.length ≤ j ∧ i = .int .i64 j ∧ (∀ d ∈ T, Rt d) ∧ Bd w0 C last (T.map nt) T v wr) (fun _ i _ => nl - (intOf i).toNat)
    case atStart => exact ⟨0, 0, [], Nat.zero_le _, Nat.le_refl _, rfl, (fun d h => by cases h), HA.out⟩
    case round =>
      obtain ⟨j, last, T, hj, hTl, rfl, hR, hBd⟩ := hrel
      have HR := hid hR
      have HBd := hid hBd
      clear hR hBd HA
      by_cases hlt : j < nl
      · have hji : (j : Int) < nl := by omega
        have hji0 : (0 : Int) ≤ j := by omega
        by_cases h80 : j < 80
        · have h80i : (j : Int) < 80 := by omega
          obtain ⟨va, vc, rfl⟩ := owns_shape HBd.out.row
          obtain ⟨b, o, rfl, hb, hc⟩ := HD.out.1 (by omega)
          obtain ⟨p0, p1, p2, p3⟩ := hc j hlt
          have hfk := HD.out.2 j hlt
          obtain ⟨⟨kd, t, s, m⟩, hgk⟩ : ∃ x, g j = x := ⟨_, rfl⟩
          rw [hgk] at p0 p1 p2 p3 hfk
          dsimp only at p0 p1 p2 p3 hfk
          have hb0' : b < w0.heap.size := Nat.lt_of_lt_of_le hb HB0.out.1.size
          have HCl : Hid (∀ wx, Below w0.heap.size w0 wx → wx.cell? ⟨b, o + j * 4, none⟩ = some (.int .i64 kd) ∧ wx.cell? ⟨b, o + j * 4 + 1, none⟩ = some (.int .i64 t) ∧ wx.cell? ⟨b, o + j * 4 + 2, none⟩ = some (.string s) ∧ wx.cell? ⟨b, o + j * 4 + 3, none⟩ = some (.int .i64 m) ∧ b < wx.heap.size) := hid fun wx hbx => by
            have e : ∀ q v, w.cell? ⟨b, q, none⟩ = some v → wx.cell? ⟨b, q, none⟩ = some v := fun q v h => (hbx.cell (p := ⟨b, q, none⟩) hb0').trans ((HB0.out.1.cell (p := ⟨b, q, none⟩) hb).trans h)
            exact ⟨e _ _ p0, e _ _ p1, e _ _ p2, e _ _ p3, Nat.lt_of_lt_of_le hb0' hbx.size⟩
          obtain ⟨c0, c1, c2, c3, hbl⟩ := HCl.out wr HBd.out.bel
          obtain ⟨bb, rr, hTk⟩ := Bd.take HBd.out t s hfk m (by simp; omega)
          rw [HCh.out] at hTk
          have HT := hid (hTk wr.drew (Below.refl _ _).drew)
          clear p0 p1 p2 p3 hc hfk hb hgk hTk hb0'
          go_upto_region 8 with fail
          go_region_held3 (fun w' => w'.cell? ⟨b, o + j * 4 + 1, none⟩ = some (.int .i64 t) ∧ w'.cell? ⟨b, o + j * 4 + 2, none⟩ = some (.string s) ∧ w'.cell? ⟨b, o + j * 4 + 3, none⟩ = some (.int .i64 m)) (first | assumption | (have h9 := HCl.out _ (by first | exact HBt.out); exact ⟨h9.2.1, h9.2.2.1, h9.2.2.2.1⟩) | go_keep) (first | (go_at_call 20; with_reducible refine HT.out.mono ?_; rintro e w3 ⟨rfl, hcase⟩; have HBt : Hid (Below w0.heap.size w0 w3) := hid (by rcases hcase with ⟨_, h⟩ | ⟨_, _, _, _, _, _, h⟩ <;> exact h.bel); have HCs := hid hcase; clear hcase))
          clear c0 c1 c2 c3 hbl
          rcases HCs.out with ⟨hne, hB3⟩ | ⟨hr0, ht0, ht1, hm1, hm2, hs64, hB3⟩
          · have n0 : (rr == 0) = false := by simpa using hne
            have HB3 := hid hB3
            clear hne hB3 HCs HBt HBd HT
            go_wp2_with fail
            go_roundw
            case rel => exact ⟨j + 1, last, T, by omega, by omega, by go_num, HR.out, HB3.out⟩
            case measure => simp [intOf]; omega
          · subst hr0
            obtain ⟨m0, rfl⟩ : ∃ m0 : Nat, t = m0 := ⟨t.toNat, by omega⟩
            have HB3 := hid hB3
            clear hB3 HCs HBt HBd HT
            cases bb with
            | true =>
              obtain ⟨c0, c1, c2, c3, hbl⟩ := HCl.out w3 HB3.out.bel
              have hbX : Below w3.heap.size w3 (w3.alloc (.cells #[.int .i64 kd, .int .i64 m0, .string s, .int .i64 m] 41)) := (Below.refl _ _).alloc (Nat.le_refl _) _
              have HX := hid (And.intro (HB3.out.below hbX) (And.intro (show (w3.alloc (.cells #[.int .i64 kd, .int .i64 m0, .string s, .int .i64 m] 41)).heap[w3.heap.size]? = some (.cells (dl ⟨kd, m0, s, m⟩).toArray 41) from heap_alloc_new _ _) (show T.length + 1 ≤ 1000000 by omega)))
              clear hbX
              go_wp2_with (at_builtin; refine wpList_append_deed (d := ⟨kd, m0, s, m⟩) rfl _ _ rfl rfl rfl HX.out.1.row HX.out.2.1 HX.out.1.bel.size HX.out.2.2 ?_; intro v6 w6 hown6 hgr6 hat6; have hxs : w6.cell? ⟨w.heap.size, 3, none⟩ = some (.int .i64 sec) := cell_of (((Bd.append HX.out.1 hown6 hgr6 hat6).bel.block _ (Array.getElem?_eq_some_iff.1 HB0.out.2).1).trans HB0.out.2) 3 _ rfl; obtain ⟨vb, vd, rfl⟩ := owns_shape hown6)
              have hBn : Bd w0 C m0 ((T ++ [(⟨kd, m0, s, m⟩ : Dd)]).map nt) (T ++ [(⟨kd, m0, s, m⟩ : Dd)]) (.slice vb (T ++ [(⟨kd, m0, s, m⟩ : Dd)]).length vd) w6 := by
                have := Bd.append HX.out.1 hown6 hgr6 hat6
                rw [List.map_append]
                simpa [nt] using this
              have hRn : ∀ d ∈ T ++ [(⟨kd, m0, s, m⟩ : Dd)], Rt d := fun d hd => by
                rcases List.mem_append.1 hd with hd | hd
                · exact HR.out d hd
                · obtain rfl := List.mem_singleton.1 hd
                  exact ⟨ht0, ht1, hm1, hm2⟩
              have hln : (T ++ [(⟨kd, m0, s, m⟩ : Dd)]).length ≤ j + 1 := by simp; omega
              clear hown6 hgr6 hat6 HX HB3 c0 c1 c2 c3 hbl
              have hlq : (T ++ [(⟨kd, m0, s, m⟩ : Dd)]).length = T.length + 1 := by simp
              rw [hlq] at hBn hln
              obtain ⟨ln, hle⟩ : ∃ ln, T.length + 1 = ln := ⟨_, rfl⟩
              rw [hle] at hBn hln hlq ⊢
              generalize T ++ [(⟨kd, m0, s, m⟩ : Dd)] = Tn at *
              have HLen := hid hlq
              clear hle hlq hxs
              have HBn := hid hBn
              have HRn := hid hRn
              clear hBn hRn HR
              have hbq := HBq.out
              rw [hbq]
              clear hbq
              go_loopw [11, 12, 14] (fun x y i wy => ∃ k : Nat, k ≤ ln ∧ i = .int .i64 k ∧ x = .int .i64 ((nr q m0 s ((Tn.take k).map nt) : Nat) : Int) ∧ y = .int .i64 ((HotQ.own q m0 s ((Tn.take k).map nt) : Nat) : Int) ∧ Below w6.heap.size w6 wy) (fun _ _ i _ => ln - (intOf i).toNat)
              case atStart => exact ⟨0, Nat.zero_le _, rfl, rfl, rfl, Below.refl _ _⟩
              case round =>
                obtain ⟨k, hk, rfl, rfl, rfl, hbb⟩ := hrel
                have HBb := hid hbb
                clear hbb
                by_cases hlt2 : k < ln
                · have hki : (k : Int) < ln := by omega
                  have hki0 : (0 : Int) ≤ k := by omega
                  have hkl : k < Tn.length := by rw [HLen.out]; exact hlt2
                  have hdx : Tn[k]? = some Tn[k] := List.getElem?_eq_getElem hkl
                  have htake : (Tn.take (k + 1)).map nt = (Tn.take k).map nt ++ [nt Tn[k]] := by rw [List.take_add_one, hdx, Option.toList_some, List.map_append]; rfl
                  have hRt := HRn.out _ (List.getElem_mem hkl)
                  obtain ⟨gt, rfl, hgt, q1, q2, q3⟩ := DRow.cells HBn.out.row hdx
                  generalize Tn[k] = d at *
                  obtain ⟨kd2, t2, s2, m2⟩ := d
                  obtain ⟨r1, r2, r3, r4⟩ := hRt
                  dsimp only at q1 q2 q3 r1 r2 r3 r4
                  obtain ⟨a2, rfl⟩ : ∃ a2 : Nat, t2 = a2 := ⟨t2.toNat, by omega⟩
                  obtain ⟨n2, rfl⟩ : ∃ n2 : Nat, m2 = n2 := ⟨m2.toNat, by omega⟩
                  have d1 := kcB HBb.out q1
                  have d2 := kcB HBb.out q2
                  have d3 := kcB HBb.out q3
                  have hgt2 : gt < wr.heap.size := Nat.lt_of_lt_of_le hgt HBb.out.size
                  obtain ⟨c0, c1, c2, c3, hbl⟩ := HCl.out wr (HBn.out.bel.trans (HBb.out.mono HBn.out.bel.size))
                  have htake2 : (Tn.take (k + 1)).map nt = (Tn.take k).map nt ++ [⟨a2, s2, n2⟩] := htake
                  have hN : ∀ z ∈ (Tn.take k).map nt, z.n ≤ 1099511627776 := fun z hz => by
                    obtain ⟨y, hy, rfl⟩ := List.mem_map.1 hz
                    have := HRn.out y (List.mem_of_mem_take hy)
                    unfold Rt at this
                    show y.n.toNat ≤ _
                    omega
                  have hs1 : nr q m0 s ((Tn.take k).map nt) ≤ ((Tn.take k).map nt).length * 1099511627776 := sum_small hN
                  have hs2 : HotQ.own q m0 s ((Tn.take k).map nt) ≤ ((Tn.take k).map nt).length * 1099511627776 := sum_small hN
                  have hlm : ((Tn.take k).map nt).length ≤ 80 := by rw [List.length_map, List.length_take]; omega
                  have hmul : ((Tn.take k).map nt).length * 1099511627776 ≤ 80 * 1099511627776 := Nat.mul_le_mul_right _ hlm
                  have HSm := hid (And.intro (Nat.le_trans hs1 hmul) (Nat.le_trans hs2 hmul))
                  have e1 := nr_snoc q m0 s ((Tn.take k).map nt) a2 n2 s2
                  have e2 := own_snoc q m0 s ((Tn.take k).map nt) a2 n2 s2
                  rw [← htake2] at e1 e2
                  have HE := hid (And.intro e1 e2)
                  clear htake htake2 hN hs1 hs2 hlm hmul e1 e2 hdx hkl q1 q2 q3 hgt
                  generalize nr q m0 s ((Tn.take k).map nt) = x1 at *
                  generalize HotQ.own q m0 s ((Tn.take k).map nt) = x2 at *
                  by_cases hss : s2 = s
                  · subst hss
                    have hx1 : (x1 : Int) ≤ 87960930222080 := by have := HSm.out.1; omega
                    have hx2 : (x2 : Int) ≤ 87960930222080 := by have := HSm.out.2; omega
                    have hq6 : 0 < q ∧ q ≤ 6000000 := by have := HQ.out; omega
                    have hz1 : ((a2 : Int)).tdiv (q : Int) = ((a2 / q : Nat) : Int) := by rw [Int.tdiv_eq_ediv_of_nonneg (by omega)]; rfl
                    have hz2 : ((m0 : Int)).tdiv (q : Int) = ((m0 / q : Nat) : Int) := by rw [Int.tdiv_eq_ediv_of_nonneg (by omega)]; rfl
                    go_upto_region 17 with fail
                    go_quiet (fail)
                    clear d2 c2 c0
                    have nq0 : ((q : Int) == 0) = false := by simp; omega
                    have hm61 : (m0 : Int).tdiv (q : Int) ≤ 1152921504606846976 := by rw [hz2]; have := Nat.div_le_self m0 q; omega
                    have ha61 : 0 ≤ (a2 : Int).tdiv (q : Int) := by rw [hz1]; exact Int.natCast_nonneg _
                    have hm60 : 0 ≤ (m0 : Int).tdiv (q : Int) := by rw [hz2]; exact Int.natCast_nonneg _
                    have ha60 : (a2 : Int).tdiv (q : Int) ≤ 1152921504606846976 := by rw [hz1]; have := Nat.div_le_self a2 q; omega
                    by_cases h1 : m0 < a2 + 9 * q
                    · have h1i : (m0 : Int) - a2 < 9 * (q : Int) := by omega
                      go_upto_region 18 with fail
                      go_quiet (fail)
                      by_cases h2 : m0 / q < a2 / q + 10
                      · have h2i : (m0 : Int).tdiv (q : Int) - 10 < (a2 : Int).tdiv (q : Int) := by rw [hz1, hz2]; omega
                        go_upto_region 20 with fail
                        go_quiet (fail)
                        clear d1 c1
                        go_wp2_with fail
                        go_roundw
                        case rel =>
                          refine ⟨k + 1, hlt2, by go_num, ?_, ?_, bdr HBb.out _⟩
                          · rw [HE.out.1, if_pos (⟨h1, rfl⟩)]; simp
                          · rw [HE.out.2, if_pos (⟨h2, rfl⟩)]; simp
                        case measure => simp [intOf]; omega
                      · have h2i : ¬ (m0 : Int).tdiv (q : Int) - 10 < (a2 : Int).tdiv (q : Int) := by rw [hz1, hz2]; omega
                        go_upto_region 20 with fail
                        go_quiet (fail)
                        clear d1 c1
                        go_wp2_with fail
                        go_roundw
                        case rel =>
                          refine ⟨k + 1, hlt2, by go_num, ?_, ?_, bdr HBb.out _⟩
                          · rw [HE.out.1, if_pos (⟨h1, rfl⟩)]; simp
                          · rw [HE.out.2, if_neg (fun h => h2 h.1)]; simp
                        case measure => simp [intOf]; omega
                    · have h1i : ¬ (m0 : Int) - a2 < 9 * (q : Int) := by omega
                      go_upto_region 18 with fail
                      go_quiet (fail)
                      by_cases h2 : m0 / q < a2 / q + 10
                      · have h2i : (m0 : Int).tdiv (q : Int) - 10 < (a2 : Int).tdiv (q : Int) := by rw [hz1, hz2]; omega
                        go_upto_region 20 with fail
                        go_quiet (fail)
                        clear d1 c1
                        go_wp2_with fail
                        go_roundw
                        case rel =>
                          refine ⟨k + 1, hlt2, by go_num, ?_, ?_, bdr HBb.out _⟩
                          · rw [HE.out.1, if_neg (fun h => h1 h.1)]; simp
                          · rw [HE.out.2, if_pos (⟨h2, rfl⟩)]; simp
                        case measure => simp [intOf]; omega
                      · have h2i : ¬ (m0 : Int).tdiv (q : Int) - 10 < (a2 : Int).tdiv (q : Int) := by rw [hz1, hz2]; omega
                        go_upto_region 20 with fail
                        go_quiet (fail)
                        clear d1 c1
                        go_wp2_with fail
                        go_roundw
                        case rel =>
                          refine ⟨k + 1, hlt2, by go_num, ?_, ?_, bdr HBb.out _⟩
                          · rw [HE.out.1, if_neg (fun h => h1 h.1)]; simp
                          · rw [HE.out.2, if_neg (fun h => h2 h.1)]; simp
                        case measure => simp [intOf]; omega
                  · have e1 : (s2.toList == s.toList) = false := by rw [Txt.text_eq]; exact decide_eq_false hss
                    go_upto_region 17 with fail
                    go_quiet (fail)
                    go_wp2_with fail
                    go_roundw
                    case rel =>
                      refine ⟨k + 1, hlt2, by go_num, ?_, ?_, bdr HBb.out _⟩
                      · rw [HE.out.1, if_neg (fun h => hss h.2)]; rfl
                      · rw [HE.out.2, if_neg (fun h => hss h.2)]; rfl
                    case measure => simp [intOf]; omega
                · obtain rfl : k = ln := by omega
                  have hall : (Tn.take k).map nt = Tn.map nt := by rw [List.take_of_length_le (by rw [HLen.out]; exact Nat.le_refl _)]
                  rw [hall]
                  obtain ⟨u, hu1, hu2, hU, hLi⟩ := Bd.used HBn.out s hs64
                  rw [HCh.out] at hU hLi
                  rw [HQ.out.1] at hu1 hu2
                  have HU := hid (hU wr.drew HBb.out.drew)
                  obtain ⟨c0, c1, c2, c3, hbl⟩ := HCl.out wr (HBn.out.bel.trans (HBb.out.mono HBn.out.bel.size))
                  obtain ⟨x1, hx1⟩ : ∃ x1, nr q m0 s (Tn.map nt) = x1 := ⟨_, rfl⟩
                  obtain ⟨x2, hx2⟩ : ∃ x2, HotQ.own q m0 s (Tn.map nt) = x2 := ⟨_, rfl⟩
                  rw [hx1] at hu2 ⊢
                  rw [hx2] at hu1 ⊢
                  obtain ⟨lm, hlm⟩ : ∃ lm, limN C s = lm := ⟨_, rfl⟩
                  rw [hlm] at hLi hu2
                  have HLi := hid hLi
                  have hxu : ¬ (u : Int) < (x2 : Int) := by omega
                  have hxl : ¬ lm < (x1 : Int) := by omega
                  clear hall hU hLi hu1 hu2 hx1 hx2 hlm c0
                  go_upto_region 22 with fail
                  go_region_held3 (fun w' => w'.cell? ⟨b, o + j * 4 + 1, none⟩ = some (.int .i64 m0) ∧ w'.cell? ⟨b, o + j * 4 + 2, none⟩ = some (.string s)) (first | assumption | (have h9 := HCl.out _ (by first | exact HBt.out); exact ⟨h9.2.1, h9.2.2.1⟩) | go_keep) (first | (go_at_call 21; with_reducible refine HU.out.mono ?_; rintro e w8 ⟨rfl, hb8⟩; have HB8 : Hid (Below w6.heap.size w6 w8) := hid ((HBb.out.drew).trans (hb8.mono (HBb.out.drew).size)); have HBt : Hid (Below w0.heap.size w0 w8) := hid (HBn.out.bel.trans (HB8.out.mono HBn.out.bel.size)); clear hb8))
                  obtain ⟨c0, c1, c2, c3, hbl⟩ := HCl.out w8 HBt.out
                  clear c0 c1 c3
                  go_wp2_with fail
                  refine (HLi.out _ HB8.out).mono ?_
                  rintro e w9 ⟨rfl, hb9⟩
                  have HB9 := hid (HBn.out.below (HB8.out.trans (hb9.mono HB8.out.size)))
                  clear hb9
                  go_wp2_with fail
                  go_roundw
                  case rel => exact ⟨j + 1, m0, Tn, by omega, by rw [HLen.out]; exact hln, by go_num, HRn.out, HB9.out⟩
                  case measure => simp [intOf]; omega
            | false =>
              have hBn : Bd w0 C m0 (T.map nt) T (.slice va T.length vc) w3 := by simpa using HB3.out
              have hxs : w3.cell? ⟨w.heap.size, 3, none⟩ = some (.int .i64 sec) := cell_of ((hBn.bel.block _ (Array.getElem?_eq_some_iff.1 HB0.out.2).1).trans HB0.out.2) 3 _ rfl
              have hln : T.length ≤ j + 1 := by omega
              have HBn := hid hBn
              have HRn := hid HR.out
              clear hBn HR HB3
              generalize T = Tn at *
              obtain ⟨ln, hle⟩ : ∃ ln, Tn.length = ln := ⟨_, rfl⟩
              rw [hle] at HBn hln ⊢
              have HLen := hid hle
              clear hle
              generalize w3 = w6 at *
              generalize va = vb at *
              generalize vc = vd at *
              go_wp2_with fail
              clear hxs
              have hbq := HBq.out
              rw [hbq]
              clear hbq
              go_loopw [11, 12, 14] (fun x y i wy => ∃ k : Nat, k ≤ ln ∧ i = .int .i64 k ∧ x = .int .i64 ((nr q m0 s ((Tn.take k).map nt) : Nat) : Int) ∧ y = .int .i64 ((HotQ.own q m0 s ((Tn.take k).map nt) : Nat) : Int) ∧ Below w6.heap.size w6 wy) (fun _ _ i _ => ln - (intOf i).toNat)
              case atStart => exact ⟨0, Nat.zero_le _, rfl, rfl, rfl, Below.refl _ _⟩
              case round =>
                obtain ⟨k, hk, rfl, rfl, rfl, hbb⟩ := hrel
                have HBb := hid hbb
                clear hbb
                by_cases hlt2 : k < ln
                · have hki : (k : Int) < ln := by omega
                  have hki0 : (0 : Int) ≤ k := by omega
                  have hkl : k < Tn.length := by rw [HLen.out]; exact hlt2
                  have hdx : Tn[k]? = some Tn[k] := List.getElem?_eq_getElem hkl
                  have htake : (Tn.take (k + 1)).map nt = (Tn.take k).map nt ++ [nt Tn[k]] := by rw [List.take_add_one, hdx, Option.toList_some, List.map_append]; rfl
                  have hRt := HRn.out _ (List.getElem_mem hkl)
                  obtain ⟨gt, rfl, hgt, q1, q2, q3⟩ := DRow.cells HBn.out.row hdx
                  generalize Tn[k] = d at *
                  obtain ⟨kd2, t2, s2, m2⟩ := d
                  obtain ⟨r1, r2, r3, r4⟩ := hRt
                  dsimp only at q1 q2 q3 r1 r2 r3 r4
                  obtain ⟨a2, rfl⟩ : ∃ a2 : Nat, t2 = a2 := ⟨t2.toNat, by omega⟩
                  obtain ⟨n2, rfl⟩ : ∃ n2 : Nat, m2 = n2 := ⟨m2.toNat, by omega⟩
                  have d1 := kcB HBb.out q1
                  have d2 := kcB HBb.out q2
                  have d3 := kcB HBb.out q3
                  have hgt2 : gt < wr.heap.size := Nat.lt_of_lt_of_le hgt HBb.out.size
                  obtain ⟨c0, c1, c2, c3, hbl⟩ := HCl.out wr (HBn.out.bel.trans (HBb.out.mono HBn.out.bel.size))
                  have htake2 : (Tn.take (k + 1)).map nt = (Tn.take k).map nt ++ [⟨a2, s2, n2⟩] := htake
                  have hN : ∀ z ∈ (Tn.take k).map nt, z.n ≤ 1099511627776 := fun z hz => by
                    obtain ⟨y, hy, rfl⟩ := List.mem_map.1 hz
                    have := HRn.out y (List.mem_of_mem_take hy)
                    unfold Rt at this
                    show y.n.toNat ≤ _
                    omega
                  have hs1 : nr q m0 s ((Tn.take k).map nt) ≤ ((Tn.take k).map nt).length * 1099511627776 := sum_small hN
                  have hs2 : HotQ.own q m0 s ((Tn.take k).map nt) ≤ ((Tn.take k).map nt).length * 1099511627776 := sum_small hN
                  have hlm : ((Tn.take k).map nt).length ≤ 80 := by rw [List.length_map, List.length_take]; omega
                  have hmul : ((Tn.take k).map nt).length * 1099511627776 ≤ 80 * 1099511627776 := Nat.mul_le_mul_right _ hlm
                  have HSm := hid (And.intro (Nat.le_trans hs1 hmul) (Nat.le_trans hs2 hmul))
                  have e1 := nr_snoc q m0 s ((Tn.take k).map nt) a2 n2 s2
                  have e2 := own_snoc q m0 s ((Tn.take k).map nt) a2 n2 s2
                  rw [← htake2] at e1 e2
                  have HE := hid (And.intro e1 e2)
                  clear htake htake2 hN hs1 hs2 hlm hmul e1 e2 hdx hkl q1 q2 q3 hgt
                  generalize nr q m0 s ((Tn.take k).map nt) = x1 at *
                  generalize HotQ.own q m0 s ((Tn.take k).map nt) = x2 at *
                  by_cases hss : s2 = s
                  · subst hss
                    have hx1 : (x1 : Int) ≤ 87960930222080 := by have := HSm.out.1; omega
                    have hx2 : (x2 : Int) ≤ 87960930222080 := by have := HSm.out.2; omega
                    have hq6 : 0 < q ∧ q ≤ 6000000 := by have := HQ.out; omega
                    have hz1 : ((a2 : Int)).tdiv (q : Int) = ((a2 / q : Nat) : Int) := by rw [Int.tdiv_eq_ediv_of_nonneg (by omega)]; rfl
                    have hz2 : ((m0 : Int)).tdiv (q : Int) = ((m0 / q : Nat) : Int) := by rw [Int.tdiv_eq_ediv_of_nonneg (by omega)]; rfl
                    go_upto_region 17 with fail
                    go_quiet (fail)
                    clear d2 c2 c0
                    have nq0 : ((q : Int) == 0) = false := by simp; omega
                    have hm61 : (m0 : Int).tdiv (q : Int) ≤ 1152921504606846976 := by rw [hz2]; have := Nat.div_le_self m0 q; omega
                    have ha61 : 0 ≤ (a2 : Int).tdiv (q : Int) := by rw [hz1]; exact Int.natCast_nonneg _
                    have hm60 : 0 ≤ (m0 : Int).tdiv (q : Int) := by rw [hz2]; exact Int.natCast_nonneg _
                    have ha60 : (a2 : Int).tdiv (q : Int) ≤ 1152921504606846976 := by rw [hz1]; have := Nat.div_le_self a2 q; omega
                    by_cases h1 : m0 < a2 + 9 * q
                    · have h1i : (m0 : Int) - a2 < 9 * (q : Int) := by omega
                      go_upto_region 18 with fail
                      go_quiet (fail)
                      by_cases h2 : m0 / q < a2 / q + 10
                      · have h2i : (m0 : Int).tdiv (q : Int) - 10 < (a2 : Int).tdiv (q : Int) := by rw [hz1, hz2]; omega
                        go_upto_region 20 with fail
                        go_quiet (fail)
                        clear d1 c1
                        go_wp2_with fail
                        go_roundw
                        case rel =>
                          refine ⟨k + 1, hlt2, by go_num, ?_, ?_, bdr HBb.out _⟩
                          · rw [HE.out.1, if_pos (⟨h1, rfl⟩)]; simp
                          · rw [HE.out.2, if_pos (⟨h2, rfl⟩)]; simp
                        case measure => simp [intOf]; omega
                      · have h2i : ¬ (m0 : Int).tdiv (q : Int) - 10 < (a2 : Int).tdiv (q : Int) := by rw [hz1, hz2]; omega
                        go_upto_region 20 with fail
                        go_quiet (fail)
                        clear d1 c1
                        go_wp2_with fail
                        go_roundw
                        case rel =>
                          refine ⟨k + 1, hlt2, by go_num, ?_, ?_, bdr HBb.out _⟩
                          · rw [HE.out.1, if_pos (⟨h1, rfl⟩)]; simp
                          · rw [HE.out.2, if_neg (fun h => h2 h.1)]; simp
                        case measure => simp [intOf]; omega
                    · have h1i : ¬ (m0 : Int) - a2 < 9 * (q : Int) := by omega
                      go_upto_region 18 with fail
                      go_quiet (fail)
                      by_cases h2 : m0 / q < a2 / q + 10
                      · have h2i : (m0 : Int).tdiv (q : Int) - 10 < (a2 : Int).tdiv (q : Int) := by rw [hz1, hz2]; omega
                        go_upto_region 20 with fail
                        go_quiet (fail)
                        clear d1 c1
                        go_wp2_with fail
                        go_roundw
                        case rel =>
                          refine ⟨k + 1, hlt2, by go_num, ?_, ?_, bdr HBb.out _⟩
                          · rw [HE.out.1, if_neg (fun h => h1 h.1)]; simp
                          · rw [HE.out.2, if_pos (⟨h2, rfl⟩)]; simp
                        case measure => simp [intOf]; omega
                      · have h2i : ¬ (m0 : Int).tdiv (q : Int) - 10 < (a2 : Int).tdiv (q : Int) := by rw [hz1, hz2]; omega
                        go_upto_region 20 with fail
                        go_quiet (fail)
                        clear d1 c1
                        go_wp2_with fail
                        go_roundw
                        case rel =>
                          refine ⟨k + 1, hlt2, by go_num, ?_, ?_, bdr HBb.out _⟩
                          · rw [HE.out.1, if_neg (fun h => h1 h.1)]; simp
                          · rw [HE.out.2, if_neg (fun h => h2 h.1)]; simp
                        case measure => simp [intOf]; omega
                  · have e1 : (s2.toList == s.toList) = false := by rw [Txt.text_eq]; exact decide_eq_false hss
                    go_upto_region 17 with fail
                    go_quiet (fail)
                    go_wp2_with fail
                    go_roundw
                    case rel =>
                      refine ⟨k + 1, hlt2, by go_num, ?_, ?_, bdr HBb.out _⟩
                      · rw [HE.out.1, if_neg (fun h => hss h.2)]; rfl
                      · rw [HE.out.2, if_neg (fun h => hss h.2)]; rfl
                    case measure => simp [intOf]; omega
                · obtain rfl : k = ln := by omega
                  have hall : (Tn.take k).map nt = Tn.map nt := by rw [List.take_of_length_le (by rw [HLen.out]; exact Nat.le_refl _)]
                  rw [hall]
                  obtain ⟨u, hu1, hu2, hU, hLi⟩ := Bd.used HBn.out s hs64
                  rw [HCh.out] at hU hLi
                  rw [HQ.out.1] at hu1 hu2
                  have HU := hid (hU wr.drew HBb.out.drew)
                  obtain ⟨c0, c1, c2, c3, hbl⟩ := HCl.out wr (HBn.out.bel.trans (HBb.out.mono HBn.out.bel.size))
                  obtain ⟨x1, hx1⟩ : ∃ x1, nr q m0 s (Tn.map nt) = x1 := ⟨_, rfl⟩
                  obtain ⟨x2, hx2⟩ : ∃ x2, HotQ.own q m0 s (Tn.map nt) = x2 := ⟨_, rfl⟩
                  rw [hx1] at hu2 ⊢
                  rw [hx2] at hu1 ⊢
                  obtain ⟨lm, hlm⟩ : ∃ lm, limN C s = lm := ⟨_, rfl⟩
                  rw [hlm] at hLi hu2
                  have HLi := hid hLi
                  have hxu : ¬ (u : Int) < (x2 : Int) := by omega
                  have hxl : ¬ lm < (x1 : Int) := by omega
                  clear hall hU hLi hu1 hu2 hx1 hx2 hlm c0
                  go_upto_region 22 with fail
                  go_region_held3 (fun w' => w'.cell? ⟨b, o + j * 4 + 1, none⟩ = some (.int .i64 m0) ∧ w'.cell? ⟨b, o + j * 4 + 2, none⟩ = some (.string s)) (first | assumption | (have h9 := HCl.out _ (by first | exact HBt.out); exact ⟨h9.2.1, h9.2.2.1⟩) | go_keep) (first | (go_at_call 21; with_reducible refine HU.out.mono ?_; rintro e w8 ⟨rfl, hb8⟩; have HB8 : Hid (Below w6.heap.size w6 w8) := hid ((HBb.out.drew).trans (hb8.mono (HBb.out.drew).size)); have HBt : Hid (Below w0.heap.size w0 w8) := hid (HBn.out.bel.trans (HB8.out.mono HBn.out.bel.size)); clear hb8))
                  obtain ⟨c0, c1, c2, c3, hbl⟩ := HCl.out w8 HBt.out
                  clear c0 c1 c3
                  go_wp2_with fail
                  refine (HLi.out _ HB8.out).mono ?_
                  rintro e w9 ⟨rfl, hb9⟩
                  have HB9 := hid (HBn.out.below (HB8.out.trans (hb9.mono HB8.out.size)))
                  clear hb9
                  go_wp2_with fail
                  go_roundw
                  case rel => exact ⟨j + 1, m0, Tn, by omega, by rw [HLen.out]; exact hln, by go_num, HRn.out, HB9.out⟩
                  case measure => simp [intOf]; omega
        · have h80i : ¬ (j : Int) < 80 := by omega
          have HBw := hid (HB0.out.1.trans (HBd.out.bel.mono HB0.out.1.size))
          go_wp2_with fail
          refine (HL.out _).mono ?_
          rintro e w2 ⟨rfl, hb2⟩
          have HB2 := hid (bl HBw.out hb2)
          clear hb2
          go_wp2_with fail
          go_ret
          exact ⟨rfl, HB2.out⟩
      · obtain rfl : j = nl := by omega
        have HBw := hid (HB0.out.1.trans (HBd.out.bel.mono HB0.out.1.size))
        go_wp2_with fail
        refine (HL.out _).mono ?_
        rintro e w2 ⟨rfl, hb2⟩
        have HB2 := hid (bl HBw.out hb2)
        clear hb2
        go_wp2_with fail
        go_ret
        exact ⟨rfl, HB2.out⟩

/-- the law's main, of HotBounds -/
theorem main {H : Type} {enc : TypeId × Value → H} {W : World} {base : Nat} {spare : Nat → Bool} {held : Bool} (res : ByteArray) (idx cnt sec : Int) (a : Option Addr) (m c : Nat) (keys : Int) (seed : Nat) (f : Nat → Itm) (hres : res.size ≤ maxLen) (hI : ItAt W a m f) (hfit : ∀ i, i < m → (f i).1.size ≤ maxLen) (hk : (Lit.int .i64 keys).wf = true) (hsd : seed < 18446744073709551616)
    (al : Option Addr) (nl cl : Nat) {d : DataW H} {p : List MemPlace} (h : DataW.Trod enc Tryz.prog W base spare held 28 (.slice al nl cl) d p) :
    Calls Tryz.prog 4 #[.agg #[.string res, .int .i64 idx, .int .i64 cnt, .int .i64 sec, .slice a m c, .int .i64 keys, .int .u64 seed], .slice al nl cl] W fun e W' => e = .returned (.bool true) ∧ Below W.heap.size W W' := by
  obtain ⟨g, h1, h2⟩ := HotP.deeds_of h
  exact bounds_core res hres idx cnt sec a m c keys seed f al nl cl g W hI hfit h1 h2

end Go.Proofs.YtbihelpnojjacaaGreat.HotS

namespace Go.Proofs.YtbihelpnojjacaaGreat.hotBounds
open Go.ChangeShapes Go.WideShapes Go.ChangeAt Go.RowKit Go.Deep
open Go.ChangeMaps (open_string shut_string)
set_option linter.unusedVariables false

theorem own : ownKnob Tryz.prog.godebug = none := by kernel_rfl
theorem laidOut : laidOutB Tryz.prog = true := by kernel_rfl

set_option maxRecDepth 100000 in
theorem lifted (os : Os) (started : os.Started) (H : Type) (enc : TypeId × Value → H) :
    ReturnsInHanded {} Tryz.checked os 4 .any (Rows.hotBoundsSpec.pre6 enc Tryz.prog Tryz.f4 Rows.hotBoundsRow.domain false) (Rows.hotBoundsSpec.post enc Tryz.prog Tryz.f4 false true false false) := by
  refine returnsInHanded_of_change_sized (C := Tryz.checked) own started (by kernel_rfl) Tryz.func4
    (ChangeSpec.witness6 (enc := enc) (C := Tryz.checked) false ⟨#[], #[.agg #[.string ⟨#[]⟩, .int .i64 0, .int .i64 0, .int .i64 0, .slice none 0 0, .int .i64 0, .int .u64 0], .slice none 0 0], []⟩ 8 (by kernel_rfl) (by kernel_rfl) (by kernel_rfl) (by kernel_rfl)) ?_
  intro W base args ds gs before hval0 hW hcnd hsz0 _
  have hval : ∀ (j : Nat) t v, Tryz.f4.params[j]? = some t → args[j]? = some v → Value.okWide Tryz.prog W .any base t v := hval0
  have hW' := hW
  obtain ⟨p, q, hA0, hV, rfl, hfz, hnd⟩ := hW
  have hA : DataW.TrodAll enc Tryz.prog W 0 (fun _ => true) true Tryz.f4.params.toList args.toList ds p := hA0
  rw [Tryz.params4] at hA hval
  obtain ⟨v0, vs0, d0, ds0, p0, q0, hargs, rfl, rfl, h0, r0⟩ := trodAll_cons hA
  obtain ⟨v1, vs1, d1, ds1, p1, q1, rfl, rfl, rfl, h1, r1⟩ := trodAll_cons r0
  obtain ⟨rfl, rfl, rfl⟩ := trodAll_nil r1
  obtain rfl : args = #[v0, v1] := by cases args; simp_all
  obtain ⟨rfl, rfl⟩ := trodVars_none hV
  obtain ⟨res0, idx0, cnt0, sec0, a0, m0, c0, keys0, seed0, f0, rfl, hres0, hI0, hfit0, hk0, hsd0⟩ := HotP.set_of (hval 0 27 v0 rfl rfl) h0
  obtain ⟨a1, len1, cap1, rfl⟩ := okWide_slice Tryz.underlying28 (hval 1 28 v1 rfl rfl)
  have k0 := h0
  have lt0 : ∀ x ∈ p0, x.block < W.heap.size := by obtain ⟨m, hm⟩ := k0; exact DataW.trod_lt m _ _ _ hm
  have k1 := h1
  have lt1 : ∀ x ∈ p1, x.block < W.heap.size := by obtain ⟨m, hm⟩ := k1; exact DataW.trod_lt m _ _ _ hm
  clear hA0 hval0
  refine (HotS.main res0 idx0 cnt0 sec0 a0 m0 c0 keys0 seed0 f0 hres0 hI0 hfit0 hk0 hsd0 a1 len1 cap1 h1).mono fun e W' ⟨he, bel⟩ => ?_
  subst he
  exact ⟨_, rfl, _, _, _, [], _, [], hW', trodAll_mk1 (shut_bool Tryz.underlying4 _), (trodAll_cons_mk (Below.trod laidOut (by kernel_rfl) (of_decide_eq_true (by kernel_rfl)) k0 bel lt0) (trodAll_cons_mk (Below.trod laidOut (by kernel_rfl) (of_decide_eq_true (by kernel_rfl)) k1 bel lt1) trodAll_mk0)), rfl, bel.frame _, fun h => by cases h⟩

theorem over : Rows.hotBoundsRow.holds Tryz.pinned (OpenSpec.ofChange Rows.hotBoundsSpec) :=
  OpenClaim.holds_of_wide 4 Tryz.f4 rfl rfl rfl rfl rfl rfl rfl ⟨rfl, rfl, rfl, rfl, rfl⟩ rfl rfl rfl rfl rfl (by kernel_rfl) Tryz.func4 (by kernel_rfl)
    (of_decide_eq_true (by kernel_rfl)) (by unfold Func.isWrapper; first | (rw [if_pos (by decide +kernel)]; kernel_rfl) | (rw [if_neg (by decide +kernel)]; exact ⟨rfl, rfl⟩))
    (fun os started H enc _ => lifted os started H enc)

theorem proved : Rows.HotBoundsSaid := over
#print axioms proved
end Go.Proofs.YtbihelpnojjacaaGreat.hotBounds
