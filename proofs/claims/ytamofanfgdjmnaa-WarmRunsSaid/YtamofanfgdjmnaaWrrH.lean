/- WarmRuns: the law's walk. -/
import Derived.Test.YtamofanfgdjmnaaWrrG
import Derived.Test.YtamofanfgdjmnaaWrmS
import Derived.Deep.DeepCutAuto
import Derived.Deep.RegionHeld3
import Derived.BigQuiet
import Derived.Deep.AppendLies
namespace Go.Proofs.Ytamofanfgdjmnaa.WrrH
set_option linter.unusedVariables false
open Go.ChangeShapes Go.WideShapes Go.ChangeAt Go.RowKit Go.Deep Base WrmP NumM NumC NumE NumA RefA RefB LawA WrmA WrmB WrmF WrmG WrmH WrmI WrmJ WrmK Wri Rows2 WrrA WrrB WrrC WrrD WrrE WrrF WrrG

theorem infoBoth : (Try.prog.info? 32).map (fun i => (i.zero, i.size, i.bytes)) = some (some (.agg #[.pointer none, .pointer none]), 2, 16) := by kernel_rfl

/-- both and at most six forks -/
def StE (w : World) (nb : Nat) (wr : World) (v : Value) : Prop := ∃ p q m l, l.length ≤ 6 ∧ St w nb wr v p q m l

theorem ok_in {c s : Int} {cn sn : Nat} (hc : c = cn) (hs : s = sn) (ho : (fresh cn sn).Ok) : (inW c 1 1099511627776 && inW s 1 3600) = true := by
  have h1 : 1 ≤ cn := ho.c1
  have h2 : cn ≤ 1099511627776 := ho.c2
  have h3 : 1 ≤ sn := ho.s1
  have h4 : sn ≤ 3600 := ho.s2
  rw [inW_iff.2 ⟨by omega, by omega⟩, inW_iff.2 ⟨by omega, by omega⟩]
  rfl

theorem first_st {w w1 w2 w3 : World} {m : Wm} (ok : m.Ok) (hp : At w1 w.heap.size m) (hb1 : Below w.heap.size w w1) (hq : RAt w2 w1.heap.size m) (hb2 : Below w1.heap.size w1 w2) (hb3 : Below w2.heap.size w2 w3) :
    St w w3.heap.size (w3.alloc (.cells #[ptr w.heap.size, ptr w1.heap.size] 32)) (.slice none 0 0) w.heap.size w1.heap.size m [] := by
  have hal : Below w3.heap.size w3 (w3.alloc (.cells #[ptr w.heap.size, ptr w1.heap.size] 32)) := (Below.refl _ _).alloc (Nat.le_refl _) _
  have s1 := hb1.size
  have s2 := hb2.size
  have s3 := hb3.size
  have p2 := hp.below hb2 hp.lt
  have p3 := p2.below hb3 p2.lt
  have q3 := hq.below hb3 hq.lt
  exact { box := heap_alloc_new _ _, hp := p3.below hal p3.lt, hq := q3.below hal q3.lt, ok := ok, row := ⟨rfl, .inl ⟨rfl, rfl⟩⟩, far := by simp [Value.ownBlock], old := by simp, lo := ⟨by omega, Nat.le_refl _, s1⟩, bel := ((hb1.trans (hb2.mono s1)).trans (hb3.mono (by omega))).trans (hal.mono (by omega)) }

theorem bx_cells {w : World} {nb p q : Nat} (h : Bx w nb p q) : w.cell? ⟨nb, 0, none⟩ = some (ptr p) ∧ w.cell? ⟨nb, 1, none⟩ = some (ptr q) ∧ ∀ o, w.frozen? ⟨nb, o, none⟩ = false := by
  unfold Bx at h
  exact ⟨by simp [World.cell?, h], by simp [World.cell?, h], fun o => by simp [World.frozen?, h]⟩

set_option maxRecDepth 100000 in
set_option maxHeartbeats 4000000 in
theorem runs_core (c s : Int) (a : Option Addr) (n cap : Nat) (F : Nat → Nat → Int) (w : World) (hn : n ≤ 9223372036854775807) (HR : Hid (RowsI w a n 5 F)) :
    Calls Try.prog 3 #[.int .i64 c, .int .i64 s, .slice a n cap] w fun e w' => e = .returned (.bool true) ∧ Below w.heap.size w w' := by
  obtain ⟨i0, hi, hz0, hz1, hz2⟩ := info_parts infoBoth
  go_enter Try.func3, Try.ntmps3
  go_wp2_with fail
  refine (New_any c s w).mono ?_
  rintro e w1 (⟨cn, sn, hc, hs, ho, rfl, ha, hb⟩ | ⟨h, rfl, rfl⟩)
  rotate_left
  · have H := hid h
    clear h
    go_wp2_with fail
    refine (RNew_any c s w).mono ?_
    rintro e w2 (⟨cn, sn, hc, hs, ho, -⟩ | ⟨-, rfl, rfl⟩)
    · exact absurd (H.out.symm.trans (ok_in hc hs ho)) (by simp)
    clear H
    go_wp2_with fail
    refine (live_any w).mono ?_
    rintro e w1 ⟨rfl, hb1⟩
    have HB1 := hid hb1
    clear hb1
    go_wp2_with fail
    go_ret
    exact ⟨rfl, HB1.out⟩
  have HC := hid (And.intro hc (And.intro hs ho))
  have HP1 := hid ha
  have HB1 := hid hb
  clear hc hs ho ha hb
  go_wp2_with fail
  refine (RNew_any c s w1).mono ?_
  rintro e w2 (⟨cn2, sn2, hc2, hs2, ho2, rfl, ha2, hb2⟩ | ⟨h, -⟩)
  rotate_left
  · exact absurd (h.symm.trans (ok_in HC.out.1 HC.out.2.1 HC.out.2.2)) (by simp)
  obtain rfl : cn2 = cn := by have := HC.out.1; omega
  obtain rfl : sn2 = sn := by have := HC.out.2.1; omega
  have HQ2 := hid ha2
  have HB2 := hid hb2
  clear hc2 hs2 ho2 ha2 hb2
  go_wp2_with fail
  refine (live_any w2).mono ?_
  rintro e w3 ⟨rfl, hb3⟩
  have HS := hid (first_st HC.out.2.2 HP1.out HB1.out HQ2.out HB2.out hb3)
  clear hb3 HP1 HB1 HQ2 HB2 HC
  go_wp2_with fail
  obtain ⟨nb, hnb⟩ : ∃ nb, w3.heap.size = nb := ⟨_, rfl⟩
  rw [hnb] at HS ⊢
  clear hnb
  go_loopw [12, 13] (fun ov i wr => ∃ k : Nat, k ≤ n ∧ i = .int .i64 k ∧ StE w nb wr ov) (fun _ i _ => n - (intOf i).toNat)
  case atStart => exact ⟨0, Nat.zero_le _, rfl, _, _, _, [], Nat.zero_le _, HS.out⟩
  case round =>
    obtain ⟨k, hk, rfl, p, q, m, l, hl6, hst⟩ := hrel
    have HS0 := hid hst
    clear hst HS
    by_cases hlt : k < n
    · obtain ⟨g, o, rfl, hg, hcell⟩ := HR.out.1 (by omega)
      obtain ⟨va, vc, rfl⟩ := owns_shape HS0.out.row
      have HX : Hid (∀ j, j < 5 → w.cell? ⟨g, o + k * 5 + j, none⟩ = some (.int .i64 (F k j))) := hid (hcell k hlt)
      have HG := hid hg
      have hk1 : (k : Int) < (n : Int) := by omega
      have hgr : g < wr.heap.size := Nat.lt_of_lt_of_le hg HS0.out.bel.size
      clear hcell hg
      obtain ⟨fb, hfb⟩ : ∃ fb : Bool, decide (F k 0 = 4 ∧ l.length < 6) = fb := ⟨_, rfl⟩
      have HFB := hid hfb
      clear hfb
      go_upto_region 12 with (fail)
      go_cut [62] (fun s62 wx => s62 = .bool fb ∧ wx = wr)
      case first =>
        have x0 : wr.cell? ⟨g, o + k * 5, none⟩ = some (.int .i64 (F k 0)) := (HS0.out.bel.cell (p := ⟨g, o + k * 5, none⟩) HG.out).trans (HX.out 0 (by omega))
        have hfb := HFB.out
        clear HX HFB
        generalize F k 0 = kd at *
        by_cases h1 : kd = 4
        · subst h1
          cases fb
          · have h4 : ¬ ((l.length : Int) < 6) := by
              have := of_decide_eq_false hfb
              omega
            clear hfb
            go_wp2_with fail
            go_meet
            exact ⟨rfl, rfl⟩
          · have h4 : (l.length : Int) < 6 := by
              have := of_decide_eq_true hfb
              omega
            clear hfb
            go_wp2_with fail
            go_meet
            exact ⟨rfl, rfl⟩
        · have hf : fb = false := by rw [← hfb]; simp [h1]
          subst hf
          clear hfb
          go_wp2_with fail
          go_meet
          exact ⟨rfl, rfl⟩
      case rest =>
        obtain ⟨rfl, rfl⟩ := hcut
        go_upto_if 62 with (fail)
        go_cut [12] (fun v12 wx => StE w nb wx v12)
        case first =>
          cases fb
          · clear HX HFB
            go_wp2_with fail
            go_meet
            exact ⟨_, _, _, _, hl6, HS0.out⟩
          · have h6 : l.length < 6 := (of_decide_eq_true HFB.out).2
            have hlb : nb < wc.heap.size := (Array.getElem?_eq_some_iff.1 HS0.out.box).1
            obtain ⟨b0, b1, -⟩ := bx_cells HS0.out.box
            have hwl := HS0.out.bel.size
            have hown : (wc.alloc (.cells #[ptr p, ptr q] 32)).ownsRow w.heap.size 32 2 (.slice va l.length vc) l.length (flatP l) := World.ownsRow.alloc HS0.out.row _
            have HOW := hid hown
            clear hown HX HFB
            go_upto_region 14 with (
              at_builtin
              refine wpList_append_own_at _ rfl _ _ 33 rfl w.heap.size 32 i0 (.agg #[.pointer none, .pointer none]) 2 16 Try.underlying33 hi hz0 hz1 hz2 rfl (by decide) (.slice va l.length vc) l.length (flatP l) rfl HOW.out ⟨wc.heap.size, 0, none⟩ 1 1 [ptr p, ptr q] rfl rfl ?c1 ?c2 ?c3 ?c4 ?c5 ?_
              rotate_left 5
              intro v6 w6 hown6 hgr6 hnil6 hat6)
            case c1 =>
              intro j u hu
              rw [Go.WideShapes.add_plain, Nat.zero_add]
              have hnn := heap_alloc_new wc (.cells #[ptr p, ptr q] 32)
              unfold World.cell?
              rw [hnn]
              simpa using hu
            case c2 =>
              intro u hu
              simp at hu
              rcases hu with rfl | rfl <;> rfl
            case c3 => unfold maxLen; omega
            case c4 => omega
            case c5 => simp; omega
            have HM6 := hid (HS0.out.push hown6 hgr6 hat6)
            have hlb6 : nb < w6.heap.size := (Array.getElem?_eq_some_iff.1 HM6.out.box).1
            obtain ⟨q0, q1, -⟩ := bx_cells HM6.out.box
            have hl7 : (l ++ [(p, q, m)]).length ≤ 6 := by simp; omega
            have HF6 := hid (Fork_any p m w6.drew (HM6.out.hp.below (Below.drew (Below.refl _ w6)) HM6.out.hp.lt))
            generalize l ++ [(p, q, m)] = l7 at *
            clear b0 b1 hown6 hgr6 hnil6 hat6 HOW HS0 hlb hwl h6 hl6
            go_region_with (first
              | (go_at_call 13; refine HF6.out.mono ?_; rintro e w7 ⟨rfl, hp7, hb7⟩; have hb7' : Below w6.heap.size w6 w7 := (Below.drew (Below.refl _ w6)).trans hb7; have HP7 := hid hp7; have HB7 := hid hb7'; have hx7 := (hb7'.block nb hlb6).trans HM6.out.box; obtain ⟨q2, q3, -⟩ := bx_cells hx7; have HX7 := hid hx7; have HF7 := hid (RFork_any q m w7 (HM6.out.hq.below hb7' HM6.out.hq.lt)); clear hp7 hb7 hb7' hx7 HF6)
              | (go_at_call 14; refine HF7.out.mono ?_; rintro e w8 ⟨rfl, hq8, hb8⟩; have HQ8 := hid hq8; have HB8 := hid hb8; have hx8 := (hb8.block nb (Nat.lt_of_lt_of_le hlb6 HB7.out.size)).trans HX7.out; obtain ⟨q4, q5, hfz⟩ := bx_cells hx8; have q6 := hfz 0; have q7 := hfz 1; have HX8 := hid hx8; clear hq8 hb8 hx8 hfz HF7))
            all_goals
              go_wp2_with fail
              go_meet
              exact ⟨_, _, _, _, hl7, HM6.out.forked (HB7.out.trans (HB8.out.mono HB7.out.size)) (HP7.out.below HB8.out HP7.out.lt) HQ8.out (Nat.le_refl _) HB7.out.size⟩
        case rest =>
          clear HS0 hgr
          obtain ⟨p, q, m, l, hl6, hst⟩ := hcut
          have HS1 := hid hst
          have HL6 := hid hl6
          clear hst hl6 HFB
          have hgr : g < wc.heap.size := Nat.lt_of_lt_of_le HG.out HS1.out.bel.size
          have hcx : ∀ j, j < 5 → wc.cell? ⟨g, o + k * 5 + j, none⟩ = some (.int .i64 (F k j)) := fun j hj => (HS1.out.bel.cell (p := ⟨g, o + k * 5 + j, none⟩) HG.out).trans (HX.out j hj)
          have x0 : wc.cell? ⟨g, o + k * 5, none⟩ = some (.int .i64 (F k 0)) := hcx 0 (by omega)
          have x1 := hcx 1 (by omega)
          have x2 := hcx 2 (by omega)
          have x3 := hcx 3 (by omega)
          have x4 := hcx 4 (by omega)
          have hpg : g ≠ p := by have := HS1.out.lo.2.1; have := HG.out; omega
          have hqg : g ≠ q := by have := HS1.out.lo.2.2; have := HG.out; omega
          obtain ⟨b0, b1, -⟩ := bx_cells HS1.out.box
          have hpb := ne_pb HS1.out.hp HS1.out.box
          have hqb := ne_qb HS1.out.hq HS1.out.box
          clear hcx HX
          generalize F k 0 = kd at *
          generalize F k 1 = t at *
          generalize F k 2 = past at *
          generalize F k 3 = now at *
          generalize F k 4 = nn at *
          have HD := hid (do_any p q (ne_pr HS1.out.hp HS1.out.hq) m HS1.out.ok kd t past now nn wc.drew (HS1.out.hp.below (Below.drew (Below.refl _ wc)) HS1.out.hp.lt) (HS1.out.hq.below (Below.drew (Below.refl _ wc)) HS1.out.hq.lt))
          go_upto_region 15 with (fail)
          go_region_held3 (fun w' => w'.cell? ⟨nb, 0, none⟩ = some (ptr p) ∧ w'.cell? ⟨nb, 1, none⟩ = some (ptr q) ∧ w'.cell? ⟨g, o + k * 5, none⟩ = some (.int .i64 kd) ∧ w'.cell? ⟨g, o + k * 5 + 1, none⟩ = some (.int .i64 t) ∧ w'.cell? ⟨g, o + k * 5 + 2, none⟩ = some (.int .i64 past) ∧ w'.cell? ⟨g, o + k * 5 + 3, none⟩ = some (.int .i64 now) ∧ w'.cell? ⟨g, o + k * 5 + 4, none⟩ = some (.int .i64 nn)) (first | assumption | go_keep)
            (first | (go_at_call 15; refine HD.out.mono ?_; rintro e w5 ⟨rfl, ha, hq, hw⟩
                      have hn : ∀ x, x ≠ p → x ≠ q → ¬ one p q x := fun x h1 h2 h => h.elim h1 h2
                      have hw' : Wr (one p q) wc w5 := (Wr.ofBelow (Below.drew (Below.refl _ wc))).trans hw
                      have y0 : w5.cell? ⟨nb, 0, none⟩ = some (ptr p) := wrc hw' (hn _ hpb hqb) b0
                      have y1 : w5.cell? ⟨nb, 1, none⟩ = some (ptr q) := wrc hw' (hn _ hpb hqb) b1
                      have z0 : w5.cell? ⟨g, o + k * 5, none⟩ = some (.int .i64 kd) := wrc hw' (hn _ hpg hqg) x0
                      have z1 : w5.cell? ⟨g, o + k * 5 + 1, none⟩ = some (.int .i64 t) := wrc hw' (hn _ hpg hqg) x1
                      have z2 : w5.cell? ⟨g, o + k * 5 + 2, none⟩ = some (.int .i64 past) := wrc hw' (hn _ hpg hqg) x2
                      have z3 : w5.cell? ⟨g, o + k * 5 + 3, none⟩ = some (.int .i64 now) := wrc hw' (hn _ hpg hqg) x3
                      have z4 : w5.cell? ⟨g, o + k * 5 + 4, none⟩ = some (.int .i64 nn) := wrc hw' (hn _ hpg hqg) x4
                      have HS5 := hid (HS1.out.does hw' ha hq (stepM_ok m HS1.out.ok kd t past now nn))
                      clear ha hq hw hw' hn))
          all_goals
            go_wp2_with fail
            exact ⟨⟨k + 1, by omega, by go_num, ⟨_, _, _, _, HL6.out, HS5.out⟩⟩, by simp [intOf]; omega⟩
    · obtain rfl : k = n := by omega
      obtain ⟨va, vc, rfl⟩ := owns_shape HS0.out.row
      clear hlt hk HR
      go_wp2_with fail
      generalize wr = w4 at *
      have hl7 : l.length ≤ 6 := hl6
      go_loopw [14] (fun i wr => ∃ j : Nat, j ≤ l.length ∧ i = .int .i64 j ∧ Below w4.heap.size w4 wr) (fun i _ => l.length - (intOf i).toNat)
      case atStart => exact ⟨0, Nat.zero_le _, rfl, Below.refl _ _⟩
      case round =>
        obtain ⟨j, hj, rfl, hb⟩ := hrel
        have HB := hid hb
        clear hb
        by_cases hlt : j < l.length
        · obtain ⟨g, c, e, hg, hg2⟩ := World.ownsRow.form HS0.out.row (by omega)
          cases e
          obtain ⟨e0, e1⟩ := flatP_get l j l[j] (List.getElem?_eq_getElem hlt)
          have hcl := flatP_len l
          have k0 : wr.cell? ⟨g, j * 2, none⟩ = some (ptr l[j].1) := (HB.out.cell (p := ⟨g, j * 2, none⟩) hg2).trans ((World.ownsRow.cellAt HS0.out.row _ (by omega)).trans e0)
          have k1 : wr.cell? ⟨g, j * 2 + 1, none⟩ = some (ptr l[j].2.1) := (HB.out.cell (p := ⟨g, j * 2 + 1, none⟩) hg2).trans ((World.ownsRow.cellAt HS0.out.row _ (by omega)).trans e1)
          obtain ⟨h1, h2, h3, -⟩ := HS0.out.old l[j] (List.getElem_mem hlt)
          have HA := hid (alike_any l[j].1 l[j].2.1 l[j].2.2 h3 wr (h1.below HB.out h1.lt) (h2.below HB.out h2.lt))
          generalize l[j] = pj at *
          obtain ⟨pj, qj, mj⟩ := pj
          dsimp only at k0 k1 HA
          have hj1 : (j : Int) < (l.length : Int) := by omega
          clear e0 e1 hcl h1 h2 h3 hg
          go_wp2_with fail
          refine HA.out.mono ?_
          rintro e w6 ⟨rfl, hb6⟩
          have HB6 : Hid (Below w4.heap.size w4 w6) := hid (HB.out.trans (hb6.mono HB.out.size))
          clear hb6 k0 k1 HA
          go_wp2_with fail
          go_roundw
          case rel => exact ⟨j + 1, by omega, by go_num, HB6.out⟩
          case measure => simp [intOf]; omega
        · obtain rfl : j = l.length := by omega
          go_wp2_with fail
          go_ret
          exact ⟨rfl, HS0.out.bel.trans (HB.out.mono HS0.out.bel.size)⟩

theorem main {H : Type} {enc : TypeId × Value → H} {W : World} {base : Nat} {spare : Nat → Bool} {held : Bool} {d2 : DataW H} {p2 : List MemPlace} (a0 : Int) (w0 : (Lit.int .i64 a0).wf = true) (a1 : Int) (w1 : (Lit.int .i64 a1).wf = true) (a2 : Option Addr) (len2 cap2 : Nat)
    (h2 : ∃ fuel, DataW.trod enc Try.prog W base spare held fuel 22 [.slice a2 len2 cap2] = some (d2, p2)) :
    Calls Try.prog 3 #[.int .i64 a0, .int .i64 a1, .slice a2 len2 cap2] W fun e w' => e = .returned (.bool true) ∧ Below W.heap.size W w' := by
  obtain ⟨k2, h2⟩ := h2
  obtain ⟨fs, hu, q1, q2, q3, f0, f1, f2, f3, f4⟩ := WrmS.underDeed
  obtain ⟨hn, F, hF⟩ := rows_arg Try.underlying22 hu q1 q2 q3 (by omega) (fun j hj => by rcases (by omega : j = 0 ∨ j = 1 ∨ j = 2 ∨ j = 3 ∨ j = 4) with rfl | rfl | rfl | rfl | rfl <;> assumption) h2
  exact runs_core a0 a1 a2 len2 cap2 F W hn (hid hF)

end Go.Proofs.Ytamofanfgdjmnaa.WrrH
