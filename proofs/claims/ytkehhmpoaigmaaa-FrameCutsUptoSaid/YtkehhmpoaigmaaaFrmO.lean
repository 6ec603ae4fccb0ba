/- A reader never gathers more than a frame; a broken one tells nothing more. -/
import Derived.Test.YtkehhmpoaigmaaaFrmL
import Derived.Test.YtkehhmpoaigmaaaFrmZ
namespace Go.Proofs.Ytkehhmpoaigmaaa.FrmO
open Go.ChangeShapes Go.WideShapes Go.ChangeAt Go.RowKit Go.Deep Base Wri FrmP FrmA FrmE FrmQ FrmR FrmW FrmX FrmL FrmZ
set_option linter.unusedVariables false
set_option linter.unusedSimpArgs false

theorem put_sizes (r : Rd) (b : Bs) : ∀ q ∈ (r.put b).1, 1 ≤ q.length ∧ q.length ≤ 4096 := by
  intro q hq
  cases hb : r.broken with
  | true => rw [Rd.put_broken hb] at hq; cases hq
  | false =>
    cases h2 : bad (sp (r.g ++ b)).2 with
    | true => rw [Rd.put_bad hb h2] at hq; exact sp_sizes _ q hq
    | false => rw [Rd.put_good hb h2] at hq; exact sp_sizes _ q hq
theorem put_stays {r : Rd} (h : r.broken = true) (b : Bs) : (r.put b).2.broken = true ∧ (r.put b).1 = [] := by rw [Rd.put_broken h]; exact ⟨h, rfl⟩
theorem sumL_in {ls : List Bs} {i : Nat} {q : Bs} (h : ls[i]? = some q) : q.length ≤ sumL ls := by
  unfold sumL
  have h1 : q.length ∈ ls.map List.length := List.mem_map.2 ⟨q, List.mem_of_getElem? h, rfl⟩
  obtain ⟨x, y, e⟩ := List.append_of_mem h1
  rw [e]; simp; omega

/-- the reader, all whose blocks are newer than w -/
def Ns (w W : World) (p : Nat) (r : Rd) : Prop := ∃ va, IsRd W w.heap.size p va r ∧ w.heap.size ≤ p ∧ Below w.heap.size w W ∧ r.Ok

theorem Ns.put {w W : World} {p : Nat} {r : Rd} (h : Ns w W p r) (a : Option Addr) (cap : Nat) (b : Bs) (hb : b.length ≤ 4398046507000) (hc : b.length ≤ cap) (hc2 : cap ≤ 9223372036854775807) (HB : BAt W w.heap.size a b) :
    Calls Try.prog 27 #[.pointer (some ⟨p, 0, none⟩), .slice a b.length cap] W fun e w' => ∃ row vs, e = .returned (.tuple #[row, .int .i64 ((r.put b).2.err)]) ∧ Ns w w' p (r.put b).2 ∧ Pls w' w.heap.size row vs (r.put b).1 := by
  obtain ⟨va, h1, h2, h3, h4⟩ := h
  refine (put_any w.heap.size p va r a cap b W h1 h4 h3.size hb hc hc2 (hid (HB.mono h3.size)) (fun h0 x e => ?_)).mono ?_
  · obtain ⟨g, o, e2, hg, _⟩ := HB h0
    rw [e2] at e; cases e
    rintro (h5 | h5)
    · have h5 : g = p := h5; omega
    · have h5 : va.ownBlock = some g := h5
      have := (h1.own.lt _ h5).1; omega
  · rintro e w' ⟨row, vs, va', he, hp⟩
    refine ⟨row, vs, he, ⟨va', hp.rd, h2, h3.trans (hp.wr.below _ h3.size (fun k h5 => ?_)), Rd.put_ok h4 b⟩, hp.pls⟩
    rcases h5 with h5 | h5
    · have h5 : k = p := h5; omega
    · exact (h1.own.lt _ h5).1

set_option maxRecDepth 100000 in
set_option maxHeartbeats 2000000 in
theorem bounded_core (a0 : Option Addr) (len0 cap0 : Nat) (ls : List Bs) (f : Nat → Option Addr × Nat) (hl : ls.length = len0) (w : World) (hn : len0 ≤ 1048576) (hs : sumL ls ≤ 1048576) (HP : Hid (PAt w w.heap.size a0 ls f)) :
    Calls Try.prog 6 #[.slice a0 len0 cap0] w fun e w' => e = .returned (.bool true) ∧ Below w.heap.size w w' := by
  have HL := hid hl
  clear hl
  have H0 := hid (live_any w)
  go_enter Try.func6, Try.ntmps6
  go_wp2_with fail
  refine H0.out.mono ?_
  rintro e w1 ⟨rfl, hb1⟩
  have HB1 := hid hb1
  clear hb1 H0
  go_wp2_with fail
  refine (New_any w1).mono ?_
  rintro e w2 ⟨rfl, hw2⟩
  have hN2 : Ns w w2 w1.heap.size Rd.zero := ⟨_, by rw [← hw2]; exact new_rd _ _, HB1.out.size, by rw [← hw2]; exact HB1.out.alloc HB1.out.size _, Rd.zero_ok⟩
  have HN2 := hid hN2
  clear hw2 hN2
  generalize w1.heap.size = p at *
  go_wp2_with fail
  go_loopw [4] (fun i wr => ∃ (k : Nat) (r : Rd), k ≤ len0 ∧ i = .int .i64 k ∧ Ns w wr p r) (fun i _ => len0 - (intOf i).toNat)
  case atStart => exact ⟨0, Rd.zero, Nat.zero_le _, rfl, HN2.out⟩
  case round =>
    obtain ⟨k, r, hk, rfl, hns⟩ := hrel
    have HN := hid hns
    clear hns
    by_cases hlt : k < len0
    · obtain ⟨g, o, rfl, hg, hc⟩ := HP.out (by rw [HL.out]; omega)
      obtain ⟨q, hq⟩ : ∃ q, ls[k]? = some q := ⟨ls[k]'(by rw [HL.out]; exact hlt), List.getElem?_eq_getElem _⟩
      obtain ⟨h1, h2, h3, h4⟩ := hc k q hq
      have hql := sumL_in hq
      obtain ⟨va, hrd, hpw, hbw, hok⟩ := HN.out
      have x0 : wr.cell? ⟨g, o + k, none⟩ = some (.slice (f k).1 q.length (f k).2) := (hbw.cell (p := ⟨g, o + k, none⟩) hg).trans h1
      have HBR := hid (broken_any p r.broken wr hrd.cells.2.1)
      have HPU := hid (HN.out.put (f k).1 (f k).2 q (by omega) h3 h4 (h2.below hbw))
      obtain ⟨L, hL⟩ : ∃ L, q.length = L := ⟨_, rfl⟩
      rw [hL] at x0 HPU
      have HS := hid (put_sizes r q)
      have HST : Hid (r.broken = true → (r.put q).2.broken = true ∧ (r.put q).1 = []) := hid (fun h => put_stays h q)
      clear hc hq h1 h2 h3 h4 hrd hpw hbw hok hL HN hql
      generalize (f k).1 = fa at *
      generalize (f k).2 = fc at *
      obtain ⟨ps, hps⟩ : ∃ ps, (r.put q).1 = ps := ⟨_, rfl⟩
      obtain ⟨r', hr'⟩ : ∃ r', (r.put q).2 = r' := ⟨_, rfl⟩
      rw [hps] at HPU HS HST
      rw [hr'] at HPU HST
      clear hps hr'
      go_wp2_with fail
      refine HBR.out.mono ?_
      rintro e w3 ⟨rfl, rfl⟩
      go_wp2_with fail
      refine HPU.out.mono ?_
      rintro e w4 ⟨row, vs, rfl, hns4, hpls4⟩
      obtain ⟨ra, rc, rfl⟩ := owns_shape hpls4.own
      obtain ⟨va, hrd, hpw, hbw, hok⟩ := hns4
      obtain ⟨sa, sc, hsv, _, _⟩ := hrd.slice
      have hl4 := hok.left
      have hc0 := hrd.cells.1
      rw [hsv] at hc0
      have HLE := hid (left_any p r'.g.length sc sa w4 (by omega) hc0)
      have HB4 := hid (broken_any p r'.broken w4 hrd.cells.2.1)
      have HN4 : Hid (Ns w w4 p r') := hid ⟨va, hrd, hpw, hbw, hok⟩
      have HPL4 := hid hpls4
      have HNB := hid hok.nb
      clear hpls4 hrd hpw hbw hok hsv hc0 HBR HPU
      have key : Hid (r'.broken = true ∧ r'.err = 50 ∧ r'.g.length = 0 ∧ r.broken = false ∨ r'.broken = true ∧ r'.err = 50 ∧ r'.g.length = 0 ∧ r.broken = true ∧ ps.length = 0 ∨ r'.broken = false ∧ r'.err = 0 ∧ r.broken = false) := hid (by
        cases hb : r'.broken with
        | true =>
          cases hr : r.broken with
          | false => exact .inl ⟨rfl, by unfold Rd.err; rw [if_pos hb], by rw [HNB.out hb]; rfl, rfl⟩
          | true => exact .inr (.inl ⟨rfl, by unfold Rd.err; rw [if_pos hb], by rw [HNB.out hb]; rfl, rfl, by rw [(HST.out hr).2]; rfl⟩)
        | false =>
          refine .inr (.inr ⟨rfl, by unfold Rd.err; rw [if_neg (by simp [hb])], ?_⟩)
          cases hr : r.broken with
          | false => rfl
          | true => have := (HST.out hr).1; rw [hb] at this; cases this)
      rcases key.out with ⟨e1, e2, e3, e4⟩ | ⟨e1, e2, e3, e4, e5⟩ | ⟨e1, e2, e4⟩
      all_goals rw [e1] at HB4
      all_goals rw [e2, e4]
      all_goals try rw [e3] at HLE
      all_goals try rw [e5]
      all_goals clear key HNB HST
      all_goals
        go_wp2_with (first
          | (go_at_call 33
             refine HB4.out.mono ?_
             rintro e w5 ⟨rfl, rfl⟩)
          | (go_at_call 29
             refine HLE.out.mono ?_
             rintro e w5 ⟨rfl, rfl⟩))
      rotate_left 1
      focus
        go_loopw [8] (fun u wx => u = .int .i64 0 ∧ wx = w5) (fun _ _ => 0)
        case atStart => exact ⟨rfl, rfl⟩
        case round =>
          obtain ⟨rfl, rfl⟩ := hrel
          go_wp2_with fail
          go_roundw
          case rel => exact ⟨k + 1, r', by omega, by go_num, HN4.out⟩
          case measure => simp [intOf]; omega
      all_goals
        obtain ⟨n, hn9⟩ : ∃ n, ps.length = n := ⟨_, rfl⟩
        have HN9 := hid hn9
        rw [hn9] at HPL4 ⊢
        have hn10 : n ≤ 9223372036854775807 := by
          have := HPL4.out.own
          rcases this.2 with ⟨_, h0⟩ | ⟨g9, c9, cur9, _, _, _, h9, h10, _⟩
          · omega
          · unfold maxLen at h10; omega
        clear hn9
        go_loopw [8] (fun u wx => ∃ j : Nat, j ≤ n ∧ u = .int .i64 j ∧ wx = w5) (fun u _ => n - (intOf u).toNat)
        case atStart => exact ⟨0, Nat.zero_le _, rfl, rfl⟩
        case round =>
          obtain ⟨j, hj, rfl, rfl⟩ := hrel
          by_cases hjl : j < n
          · obtain ⟨gr, cr, er, _, hgr⟩ := HPL4.out.own.form (by rw [HN9.out]; omega)
            obtain ⟨qj, hqj⟩ : ∃ qj, ps[j]? = some qj := ⟨ps[j]'(by rw [HN9.out]; exact hjl), List.getElem?_eq_getElem _⟩
            obtain ⟨vj, hvj⟩ : ∃ vj, vs[j]? = some vj := ⟨vs[j]'(by rw [HPL4.out.len, HN9.out]; exact hjl), List.getElem?_eq_getElem _⟩
            obtain ⟨gp, op, cp, rfl, _, _, _, _⟩ := (HPL4.out.each j vj qj hvj hqj).at_
            have hsz := HS.out qj (List.mem_of_getElem? hqj)
            injection er with era en erc
            clear en
            subst erc
            subst era
            have hown4 := HPL4.out.own
            rw [HN9.out] at hown4
            have hc0 := hown4.cellAt j (by omega)
            clear hown4
            rw [hvj] at hc0
            generalize qj.length = m at *
            clear hvj hqj
            go_wp2_with fail
            go_roundw
            case rel => exact ⟨j + 1, by omega, by go_num, by first | rfl | trivial⟩
            case measure => simp [intOf]; omega
          · obtain rfl : j = n := by omega
            go_wp2_with fail
            go_roundw
            case rel => exact ⟨k + 1, r', by omega, by go_num, HN4.out⟩
            case measure => simp [intOf]; omega
    · obtain rfl : k = len0 := by omega
      obtain ⟨va, _, _, hb, _⟩ := HN.out
      have HB := hid hb
      clear hb
      go_wp2_with fail
      go_ret
      exact ⟨rfl, HB.out⟩

end Go.Proofs.Ytkehhmpoaigmaaa.FrmO
