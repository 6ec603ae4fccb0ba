/- The document's load: Add, NewLoad, At. -/
import Derived.Test.YthkpfjjcpifkcaaLoaE
import Derived.Deep.DeepCutAuto
namespace Go.Proofs.Ythkpfjjcpifkcaa.LoaF
open Go.ChangeShapes Go.WideShapes Go.ChangeAt Go.RowKit Base ClkM Clk WldB WldF Wri LoaA LoaB LoaC LoaD LoaE
set_option linter.unusedVariables false

theorem infoRef : (Try.prog.info? 66).map (fun i => (i.zero, i.size, i.bytes)) = some (some (.agg #[.int .i64 0, .int .i64 0, .int .i64 0]), 3, 24) := by kernel_rfl

set_option maxHeartbeats 400000 in
theorem isTimeRef_dec (n : Int) (b : Bool) (h : decide (0 ≤ n ∧ n ≤ 1152921504606846976) = b) (w : World) :
    Calls Try.prog 51 #[.int .i64 n] w fun e w' => e = .returned (.bool b) ∧ w = w' := by
  subst h
  by_cases h0 : 0 ≤ n
  · by_cases h1 : n ≤ 1152921504606846976
    · rw [decide_eq_true ⟨h0, h1⟩]
      go_enter Try.func51, Try.ntmps51
      go_wp2
      go_ret
      exact ⟨rfl, rfl⟩
    · have h2 : decide (n ≤ 1152921504606846976) = false := by simp; omega
      rw [decide_eq_false (fun h => h1 h.2)]
      clear h1
      go_enter Try.func51, Try.ntmps51
      go_wp2
      go_ret
      exact ⟨rfl, rfl⟩
  · have h2 : decide (0 ≤ n) = false := by simp; omega
    rw [decide_eq_false (fun h => h0 h.1)]
    clear h0
    go_enter Try.func51, Try.ntmps51
    go_wp2
    go_ret
    exact ⟨rfl, rfl⟩

/-- the document's load in block b -/
structure IsRef (w : World) (b B : Nat) (v : Value) (n : Nat) (F : Nat → Nat → Int) : Prop where
  cell : w.cell? ⟨b, 0, none⟩ = some v
  frz : w.frozen? ⟨b, 0, none⟩ = false
  own : w.ownsRow B 66 3 v n (flat F n)
  off : ∀ g, v.ownBlock = some g → g ≠ b

theorem IsRef.lt {w : World} {b B : Nat} {v : Value} {n : Nat} {F : Nat → Nat → Int} (h : IsRef w b B v n F) : b < w.heap.size := World.block_lt_of_cell? _ _ h.cell

theorem IsRef.below {w w' : World} {b B : Nat} {v : Value} {n : Nat} {F : Nat → Nat → Int} (h : IsRef w b B v n F) (hb : Below w.heap.size w w') : IsRef w' b B v n F :=
  ⟨(hb.cell (p := ⟨b, 0, none⟩) h.lt).trans h.cell, (hb.frozen (p := ⟨b, 0, none⟩) h.lt).trans h.frz, owns_keep h.own (fun g hg => hb.block g (h.own.lt g hg).2), h.off⟩

theorem IsRef.wr {R : Nat → Prop} {w w' : World} {b B : Nat} {v : Value} {n : Nat} {F : Nat → Nat → Int} (h : IsRef w b B v n F) (hb : Wr R w w') (hr : ¬ R b) (hg : ∀ g, v.ownBlock = some g → ¬ R g) : IsRef w' b B v n F :=
  ⟨(hb.cell 0 h.lt hr).trans h.cell, (hb.frozen 0 h.lt hr).trans h.frz, owns_wr h.own hb hg, h.off⟩

/-- what Add of m samples G behind n samples F comes to -/
def RAddPost (b n m : Nat) (F G : Nat → Nat → Int) (w : World) (e : Ending) (w' : World) : Prop :=
  e = .returned (.int .i64 (first (bad (lastT F n) n G) m)) ∧ (first (bad (lastT F n) n G) m ≠ 0 → Below w.heap.size w w') ∧
    (first (bad (lastT F n) n G) m = 0 → ∃ v', IsRef w' b w.heap.size v' (n + m) (cat F n G) ∧ Wr (fun k => k = b) w w')

theorem rpost_bad {b n m k : Nat} {F G : Nat → Nat → Int} {w w' : World} {e : Ending} {r : Int} (h0 : first (bad (lastT F n) n G) k = 0) (hk : k < m) (hb : bad (lastT F n) n G k = r) (hr : r ≠ 0) (he : e = .returned (.int .i64 r)) (hw : Below w.heap.size w w') : RAddPost b n m F G w e w' := by
  have h1 := first_at h0 hk (by rw [hb]; exact hr)
  rw [hb] at h1
  unfold RAddPost
  rw [h1]
  exact ⟨he, fun _ => hw, fun h => absurd h hr⟩

/-- why a sample may not be -/
theorem okS_no {x y z : Int} (h : okS x y z = false) : decide (0 ≤ x ∧ x ≤ 1152921504606846976) = false ∨ (decide (0 ≤ x ∧ x ≤ 1152921504606846976) = true ∧ (y < 0 ∨ (0 ≤ y ∧ 1099511627776 < y) ∨ (0 ≤ y ∧ y ≤ 1099511627776 ∧ z < 0) ∨ (0 ≤ y ∧ y ≤ 1099511627776 ∧ 0 ≤ z ∧ 1099511627776 < z))) := by
  cases h1 : decide (0 ≤ x ∧ x ≤ 1152921504606846976)
  · exact .inl rfl
  · refine .inr ⟨rfl, ?_⟩
    unfold okS at h
    rw [h1, Bool.true_and] at h
    by_cases hy : 0 ≤ y ∧ y ≤ 1099511627776
    · rw [decide_eq_true hy, Bool.true_and] at h
      have := of_decide_eq_false h
      omega
    · omega

theorem okS_yes {x y z : Int} (h : okS x y z = true) : decide (0 ≤ x ∧ x ≤ 1152921504606846976) = true ∧ 0 ≤ x ∧ 0 ≤ y ∧ y ≤ 1099511627776 ∧ 0 ≤ z ∧ z ≤ 1099511627776 := by
  unfold okS at h
  simp only [Bool.and_eq_true] at h
  obtain ⟨h1, h2, h3⟩ := h
  have := of_decide_eq_true h1
  have := of_decide_eq_true h2
  have := of_decide_eq_true h3
  exact ⟨h1, by omega, by omega, by omega, by omega, by omega⟩

/-- the last of all that are there -/
theorem cat_last (F G : Nat → Nat → Int) (n k q : Nat) (h : n + k = q + 1) : cat F n G q 0 = prev (lastT F n) G k := by
  unfold cat prev lastT prev
  by_cases hk : k = 0
  · subst hk
    rw [if_pos (by omega), if_pos rfl, if_neg (by omega), show n - 1 = q by omega]
  · rw [if_neg (by omega), if_neg hk, show q - n = k - 1 by omega]

/-- all that were there, in a list of the call's own -/
def RMid (n : Nat) (F : Nat → Nat → Int) (w : World) (s : Value) (wx : World) : Prop := ∃ a c, s = .slice a n c ∧ wx.ownsRow w.heap.size 66 3 (.slice a n c) n (flat F n) ∧ Below w.heap.size w wx

set_option maxRecDepth 20000 in
set_option maxHeartbeats 8000000 in
theorem radd_core (b B n m cap mcap : Nat) (va sa : Option Addr) (F G : Nat → Nat → Int) (w : World) (hn : n ≤ 4096) (hm : m ≤ 5864062014805) (HL : Hid (IsRef w b B (.slice va n cap) n F)) (HG : Hid (Sm w sa m G)) :
    Calls Try.prog 19 #[.pointer (some ⟨b, 0, none⟩), .slice sa m mcap] w (RAddPost b n m F G w) := by
  obtain ⟨i0, hi, hz0, hz1, hz2⟩ := info_parts infoRef
  have hb := HL.out.lt
  have hcb := HL.out.cell
  obtain ⟨L0, hL0⟩ : ∃ L0, lastT F n = L0 := ⟨_, rfl⟩
  have HL0 := hid hL0
  clear hL0
  have hown1 : (w.alloc (.cells #[] 66)).ownsRow w.heap.size 66 3 (.slice (some ⟨w.heap.size, 0, none⟩) 0 0) 0 [] := ⟨rfl, .inr ⟨w.heap.size, 0, #[], rfl, Nat.le_refl _, heap_alloc_new w _, Nat.le_refl _, by decide, rfl, rfl⟩⟩
  go_enter Try.func19, Try.ntmps19
  go_upto_region 3 with (fail)
  go_cut [5] (fun s5 wx => RMid n F w s5 wx)
  case first =>
    by_cases h0 : va = none
    · subst h0
      have e0 : n = 0 ∧ cap = 0 := by
        rcases HL.out.own.2 with ⟨e, h⟩ | ⟨g, c, cur, e, _⟩
        · cases e; exact ⟨rfl, rfl⟩
        · cases e
      obtain ⟨rfl, rfl⟩ := e0
      go_wp2_with (at_builtin; (refine wpList_append_own_none rfl _ _ 47 rfl w.heap.size 66 i0 3 Try.underlying47 hi (Value.slice (some ⟨w.heap.size, 0, none⟩) 0 0) 0 _ rfl hown1 rfl ?_))
      go_meet
      exact ⟨_, _, rfl, hown1, (Below.refl _ w).alloc (Nat.le_refl _) _⟩
    · obtain ⟨g, e⟩ : ∃ g, va = some ⟨g, 0, none⟩ := by
        rcases HL.out.own.2 with ⟨e, h⟩ | ⟨g, c, cur, e, _⟩
        · cases e; exact absurd rfl h0
        · cases e; exact ⟨g, rfl⟩
      subst e
      have hgl := (HL.out.own.lt g rfl).2
      go_wp2_with (at_builtin; (refine wpList_append_own_at _ rfl _ _ 47 rfl w.heap.size 66 i0 (.agg #[.int .i64 0, .int .i64 0, .int .i64 0]) 3 24 Try.underlying47 hi hz0 hz1 hz2 rfl (by decide) (Value.slice (some ⟨w.heap.size, 0, none⟩) 0 0) _ _ rfl hown1 ⟨g, 0, none⟩ n cap (flat F n) rfl ?c1 ?c2 ?c3 ?c4 ?c5 ?c6 ?_); rotate_left 6; intro v6 w6 hown6 hgr6 hnil6 hat6)
      case c1 => exact flat_len F n
      case c2 =>
        intro j u hj
        rw [Go.WideShapes.add_plain, Nat.zero_add]
        refine (((Below.refl _ w).alloc (Nat.le_refl _) _).cell (p := ⟨g, j, none⟩) hgl).trans ?_
        have hj3 : j < n * 3 := by have := (List.getElem?_eq_some_iff.1 hj).1; rwa [flat_len] at this
        rw [World.ownsRow.cellAt HL.out.own j hj3]
        exact hj
      case c3 => exact flat_one F n
      case c4 => unfold maxLen; omega
      case c5 => omega
      case c6 => simp
      go_meet
      rw [List.nil_append, Nat.zero_add] at hown6
      obtain ⟨vb, vd, rfl⟩ := owns_shape hown6
      exact ⟨_, _, rfl, hown6, ((Below.refl _ w).alloc (Nat.le_refl _) _).grown hgr6 (by simp) (fun k e => by cases e; exact Nat.le_refl _)⟩
  case rest =>
    obtain ⟨a5, c5, rfl, hown, hbel⟩ := hcut
    have HO := hid hown
    have HBL := hid hbel
    clear hown hbel hown1
    go_wp2_with fail
    go_loopw [5, 6] (fun l i wr => ∃ (k N : Nat) (v : Value), v = l ∧ n + k = N ∧ k ≤ m ∧ i = .int .i64 k ∧ first (bad L0 n G) k = 0 ∧ wr.ownsRow w.heap.size 66 3 v N (flat (cat F n G) N) ∧ Below w.heap.size w wr) (fun _ i _ => m - (intOf i).toNat)
    case atStart =>
      refine ⟨0, n, _, rfl, rfl, Nat.zero_le _, rfl, rfl, ?_, HBL.out⟩
      rw [show flat (cat F n G) n = flat F n from flat_congr (fun i j hi hj => by unfold cat; rw [if_pos hi])]
      exact HO.out
    case round =>
      obtain ⟨k, N, v, rfl, hN, hk, rfl, hfz, hown, hbel⟩ := hrel
      have HN := hid hN
      have HFZ := hid hfz
      have HOK := hid hown
      have HB := hid hbel
      have hbs := hbel.size
      have hN4 : N ≤ 4096 := by
        by_cases h0 : k = 0
        · omega
        · have := (bad_ok (first_zero hfz (k - 1) (by omega))).2.2
          omega
      clear hfz hown hbel hN
      obtain ⟨vb, vc, rfl⟩ := owns_shape HOK.out
      have hcb : wr.cell? ⟨b, 0, none⟩ = some (.slice va n cap) := (HB.out.cell (p := ⟨b, 0, none⟩) hb).trans HL.out.cell
      by_cases hlt : k < m
      · obtain ⟨g, o, rfl, hg, hc⟩ := HG.out (by omega)
        have c0 : wr.cell? ⟨g, o + k * 3, none⟩ = some (.int .i64 (G k 0)) := (HB.out.cell (p := ⟨g, o + k * 3 + 0, none⟩) hg).trans (hc k hlt 0 (by omega))
        have c1 : wr.cell? ⟨g, o + k * 3 + 1, none⟩ = some (.int .i64 (G k 1)) := (HB.out.cell (p := ⟨g, o + k * 3 + 1, none⟩) hg).trans (hc k hlt 1 (by omega))
        have c2 : wr.cell? ⟨g, o + k * 3 + 2, none⟩ = some (.int .i64 (G k 2)) := (HB.out.cell (p := ⟨g, o + k * 3 + 2, none⟩) hg).trans (hc k hlt 2 (by omega))
        clear hc
        have HNEW : Hid (flat (cat F n G) N ++ [.int .i64 (G k 0), .int .i64 (G k 1), .int .i64 (G k 2)] = flat (cat F n G) (N + 1)) := hid (by
          have h := flat_succ (cat F n G) N
          have e : ∀ j, cat F n G N j = G k j := fun j => by unfold cat; rw [if_neg (by have := HN.out; omega), show N - n = k by have := HN.out; omega]
          rw [e, e, e] at h
          exact h)
        obtain ⟨x, hx⟩ : ∃ x, G k 0 = x := ⟨_, rfl⟩
        obtain ⟨pv, hpv⟩ : ∃ pv, prev L0 G k = pv := ⟨_, rfl⟩
        have HPV : Hid (∀ q, N = q + 1 → cat F n G q 0 = pv) := hid (fun q hq => by rw [← hpv, ← HL0.out]; exact cat_last F G n k q (by have := HN.out; omega))
        have HP0 : Hid (N = 0 → pv = 0) := hid (fun h => by
          have := HN.out
          have h1 : n = 0 := by omega
          have h2 : k = 0 := by omega
          subst h1 h2
          rw [← hpv, ← HL0.out]; rfl)
        have hcase := bad_cases L0 n G k pv x hpv hx
        rw [hx] at c0 HNEW
        clear hpv hx
        generalize G k 1 = y at *
        generalize G k 2 = z at *
        have hk1 : (k : Int) < (m : Int) := by omega
        have hgr : g < wr.heap.size := by omega
        rcases hcase with ⟨hok, hbad⟩ | ⟨hok, hlt2, hbad⟩ | ⟨hok, hlt2, hlt3, hbad⟩ | ⟨hok, hlt2, hlt3, hbad⟩
        · have HBAD := hid hbad
          rcases okS_no hok with hT | ⟨hT, h2⟩
          · have HT := hid hT
            clear hbad hok hT
            go_wp2_with fail
            refine (isTimeRef_dec x false HT.out _).mono ?_
            rintro e w2 ⟨rfl, rfl⟩
            go_wp2_with fail
            go_ret
            exact rpost_bad (by rw [HL0.out]; exact HFZ.out) hlt (by rw [HL0.out]; exact HBAD.out) (by decide) rfl (HB.out.alloc hbs _)
          · have HT := hid hT
            clear hbad hok hT
            rcases h2 with h2 | ⟨h2, h3⟩ | ⟨h2, h3, h4⟩ | ⟨h2, h3, h4, h5⟩
            · have d1 : decide (y < 0) = true := by simp; omega
              go_wp2_with fail
              refine (isTimeRef_dec x true HT.out _).mono ?_
              rintro e w2 ⟨rfl, rfl⟩
              go_wp2_with fail
              go_ret
              exact rpost_bad (by rw [HL0.out]; exact HFZ.out) hlt (by rw [HL0.out]; exact HBAD.out) (by decide) rfl (HB.out.alloc hbs _)
            · have d1 : decide (y < 0) = false := by simp; omega
              have d2 : decide (1099511627776 < y) = true := by simp; omega
              go_wp2_with fail
              refine (isTimeRef_dec x true HT.out _).mono ?_
              rintro e w2 ⟨rfl, rfl⟩
              go_wp2_with fail
              go_ret
              exact rpost_bad (by rw [HL0.out]; exact HFZ.out) hlt (by rw [HL0.out]; exact HBAD.out) (by decide) rfl (HB.out.alloc hbs _)
            · have d1 : decide (y < 0) = false := by simp; omega
              have d2 : decide (1099511627776 < y) = false := by simp; omega
              have d3 : decide (z < 0) = true := by simp; omega
              go_wp2_with fail
              refine (isTimeRef_dec x true HT.out _).mono ?_
              rintro e w2 ⟨rfl, rfl⟩
              go_wp2_with fail
              go_ret
              exact rpost_bad (by rw [HL0.out]; exact HFZ.out) hlt (by rw [HL0.out]; exact HBAD.out) (by decide) rfl (HB.out.alloc hbs _)
            · have d1 : decide (y < 0) = false := by simp; omega
              have d2 : decide (1099511627776 < y) = false := by simp; omega
              have d3 : decide (z < 0) = false := by simp; omega
              have d4 : decide (1099511627776 < z) = true := by simp; omega
              go_wp2_with fail
              refine (isTimeRef_dec x true HT.out _).mono ?_
              rintro e w2 ⟨rfl, rfl⟩
              go_wp2_with fail
              go_ret
              exact rpost_bad (by rw [HL0.out]; exact HFZ.out) hlt (by rw [HL0.out]; exact HBAD.out) (by decide) rfl (HB.out.alloc hbs _)
        · have HBAD := hid hbad
          obtain ⟨hT, hx0, hy0, hy1, hz0, hz1⟩ := okS_yes hok
          have HT := hid hT
          have d1 : decide (y < 0) = false := by simp; omega
          have d2 : decide (1099511627776 < y) = false := by simp; omega
          have d3 : decide (z < 0) = false := by simp; omega
          have d4 : decide (1099511627776 < z) = false := by simp; omega
          clear hbad hok hT hy0 hy1 hz0 hz1
          obtain ⟨q, rfl⟩ : ∃ q, N = q + 1 := ⟨N - 1, by by_cases h : N = 0; (have := HP0.out h; omega); omega⟩
          obtain ⟨ga, gc, e5, _, hga⟩ := World.ownsRow.form HOK.out (by omega)
          cases e5
          have k0 : (wr.alloc (.cells #[.int .i64 x, .int .i64 y, .int .i64 z] 66)).cell? ⟨ga, q * 3, none⟩ = some (.int .i64 pv) := by
            rw [← HPV.out q rfl, World.ownsRow.cellAt (World.ownsRow.alloc HOK.out _) (q * 3) (by omega), flat_get _ _ _ (by omega), show q * 3 / 3 = q by omega, show q * 3 % 3 = 0 by omega]
          have hq1 : (0 : Int) < (q : Int) + 1 := by omega
          have hq2 : (q : Int) < (q : Int) + 1 := by omega
          have hq3 : decide ((0 : Int) < (q : Int) + 1) = true := by rw [decide_eq_true_eq]; omega
          go_wp2_with fail
          refine (isTimeRef_dec x true HT.out _).mono ?_
          rintro e w2 ⟨rfl, rfl⟩
          go_wp2_with fail
          go_quiet (fail)
          go_wp2_with fail
          go_ret
          exact rpost_bad (by rw [HL0.out]; exact HFZ.out) hlt (by rw [HL0.out]; exact HBAD.out) (by decide) rfl (below_drewN (HB.out.alloc hbs _) _)
        · have HBAD := hid hbad
          obtain ⟨hT, hx0, hy0, hy1, hz0, hz1⟩ := okS_yes hok
          have HT := hid hT
          have d1 : decide (y < 0) = false := by simp; omega
          have d2 : decide (1099511627776 < y) = false := by simp; omega
          have d3 : decide (z < 0) = false := by simp; omega
          have d4 : decide (1099511627776 < z) = false := by simp; omega
          clear hbad hok hT hy0 hy1 hz0 hz1
          obtain ⟨q, rfl⟩ : ∃ q, N = q + 1 := ⟨N - 1, by have := HN.out; omega⟩
          obtain ⟨ga, gc, e5, _, hga⟩ := World.ownsRow.form HOK.out (by omega)
          cases e5
          have k0 : (wr.alloc (.cells #[.int .i64 x, .int .i64 y, .int .i64 z] 66)).cell? ⟨ga, q * 3, none⟩ = some (.int .i64 pv) := by
            rw [← HPV.out q rfl, World.ownsRow.cellAt (World.ownsRow.alloc HOK.out _) (q * 3) (by omega), flat_get _ _ _ (by omega), show q * 3 / 3 = q by omega, show q * 3 % 3 = 0 by omega]
          have hq1 : (0 : Int) < (q : Int) + 1 := by omega
          have hq2 : (q : Int) < (q : Int) + 1 := by omega
          have hq3 : decide ((0 : Int) < (q : Int) + 1) = true := by rw [decide_eq_true_eq]; omega
          have e1 : decide (x < pv) = false := by simp; omega
          have e2 : ((q : Int) + 1 == 4096) = true := by have := HN.out; simp; omega
          go_wp2_with fail
          refine (isTimeRef_dec x true HT.out _).mono ?_
          rintro e w2 ⟨rfl, rfl⟩
          go_wp2_with fail
          go_quiet (fail)
          go_wp2_with fail
          go_ret
          exact rpost_bad (by rw [HL0.out]; exact HFZ.out) hlt (by rw [HL0.out]; exact HBAD.out) (by decide) rfl (below_drewN (HB.out.alloc hbs _) _)
        · have HBAD := hid hbad
          obtain ⟨hT, hx0, hy0, hy1, hz0, hz1⟩ := okS_yes hok
          have HT := hid hT
          have d1 : decide (y < 0) = false := by simp; omega
          have d2 : decide (1099511627776 < y) = false := by simp; omega
          have d3 : decide (z < 0) = false := by simp; omega
          have d4 : decide (1099511627776 < z) = false := by simp; omega
          clear hbad hok hT hy0 hy1 hz0 hz1
          by_cases hN0 : N = 0
          · subst hN0
            have k0 : True := trivial
            go_wp2_with fail
            refine (isTimeRef_dec x true HT.out _).mono ?_
            rintro e w2 ⟨rfl, rfl⟩
            go_wp2_with fail
            go_quiet (fail)
            have HO2 : Hid (((wr.alloc (.cells #[.int .i64 x, .int .i64 y, .int .i64 z] 66)).drewN nq).ownsRow w.heap.size 66 3 (.slice vb 0 vc) 0 (flat (cat F n G) 0)) := hid (World.ownsRow.alloc HOK.out _)
            have HB2 : Hid (Below w.heap.size w ((wr.alloc (.cells #[.int .i64 x, .int .i64 y, .int .i64 z] 66)).drewN nq)) := hid (below_drewN (HB.out.alloc hbs _) _)
            have z0 : ((wr.alloc (.cells #[.int .i64 x, .int .i64 y, .int .i64 z] 66)).drewN nq).cell? ⟨wr.heap.size, 0, none⟩ = some (.int .i64 x) := by show (wr.alloc (.cells #[.int .i64 x, .int .i64 y, .int .i64 z] 66)).cell? _ = _; go_cell
            have z1 : ((wr.alloc (.cells #[.int .i64 x, .int .i64 y, .int .i64 z] 66)).drewN nq).cell? ⟨wr.heap.size, 1, none⟩ = some (.int .i64 y) := by show (wr.alloc (.cells #[.int .i64 x, .int .i64 y, .int .i64 z] 66)).cell? _ = _; go_cell
            have z2 : ((wr.alloc (.cells #[.int .i64 x, .int .i64 y, .int .i64 z] 66)).drewN nq).cell? ⟨wr.heap.size, 2, none⟩ = some (.int .i64 z) := by show (wr.alloc (.cells #[.int .i64 x, .int .i64 y, .int .i64 z] 66)).cell? _ = _; go_cell
            have hzs : wr.heap.size < ((wr.alloc (.cells #[.int .i64 x, .int .i64 y, .int .i64 z] 66)).drewN nq).heap.size := by show _ < (wr.alloc (.cells #[.int .i64 x, .int .i64 y, .int .i64 z] 66)).heap.size; simp
            clear k0 HOK HB c0 c1 c2 hcb
            generalize (wr.alloc (.cells #[.int .i64 x, .int .i64 y, .int .i64 z] 66)).drewN nq = wd at *
            have hown9 := World.ownsRow.alloc HO2.out (.cells #[.int .i64 x, .int .i64 y, .int .i64 z] 66)
            have hbs2 := HB2.out.size
            go_wp2_with (at_builtin; (refine wpList_append_own_at _ rfl _ _ 47 rfl w.heap.size 66 i0 (.agg #[.int .i64 0, .int .i64 0, .int .i64 0]) 3 24 Try.underlying47 hi hz0 hz1 hz2 rfl (by decide) (Value.slice vb 0 vc) _ _ rfl hown9 ⟨wd.heap.size, 0, none⟩ 1 1 [.int .i64 x, .int .i64 y, .int .i64 z] rfl ?c1 ?c2 ?c3 ?c4 ?c5 ?c6 ?_); rotate_left 6; intro v6 w6 hown6 hgr6 hnil6 hat6)
            case c1 => rfl
            case c2 => exact cells3 _ _ _ _ _
            case c3 => intro u hu; simp only [List.mem_cons, List.not_mem_nil, or_false] at hu; rcases hu with rfl | rfl | rfl <;> rfl
            case c4 => unfold maxLen; omega
            case c5 => omega
            case c6 => simp; omega
            rw [HNEW.out] at hown6
            exact ⟨⟨k + 1, 0 + 1, v6, rfl, by have := HN.out; omega, by omega, by go_num, by rw [first_succ HFZ.out]; exact HBAD.out, hown6, (HB2.out.alloc hbs2 _).grown hgr6 (by simp; omega) (fun j e => (HO2.out.lt j e).1)⟩, by simp [intOf]; omega⟩
          · obtain ⟨q, rfl⟩ : ∃ q, N = q + 1 := ⟨N - 1, by omega⟩
            obtain ⟨ga, gc, e5, _, hga⟩ := World.ownsRow.form HOK.out (by omega)
            cases e5
            have k0 : (wr.alloc (.cells #[.int .i64 x, .int .i64 y, .int .i64 z] 66)).cell? ⟨ga, q * 3, none⟩ = some (.int .i64 pv) := by
              rw [← HPV.out q rfl, World.ownsRow.cellAt (World.ownsRow.alloc HOK.out _) (q * 3) (by omega), flat_get _ _ _ (by omega), show q * 3 / 3 = q by omega, show q * 3 % 3 = 0 by omega]
            have hq1 : (0 : Int) < (q : Int) + 1 := by omega
            have hq2 : (q : Int) < (q : Int) + 1 := by omega
            have hq3 : decide ((0 : Int) < (q : Int) + 1) = true := by rw [decide_eq_true_eq]; omega
            have e1 : decide (x < pv) = false := by simp; omega
            have e2 : ((q : Int) + 1 == 4096) = false := by have := HN.out; simp; omega
            go_wp2_with fail
            refine (isTimeRef_dec x true HT.out _).mono ?_
            rintro e w2 ⟨rfl, rfl⟩
            go_wp2_with fail
            go_quiet (fail)
            have HO2 : Hid (((wr.alloc (.cells #[.int .i64 x, .int .i64 y, .int .i64 z] 66)).drewN nq).ownsRow w.heap.size 66 3 (.slice (some ⟨ga, 0, none⟩) (q + 1) vc) (q + 1) (flat (cat F n G) (q + 1))) := hid (World.ownsRow.alloc HOK.out _)
            have HB2 : Hid (Below w.heap.size w ((wr.alloc (.cells #[.int .i64 x, .int .i64 y, .int .i64 z] 66)).drewN nq)) := hid (below_drewN (HB.out.alloc hbs _) _)
            have z0 : ((wr.alloc (.cells #[.int .i64 x, .int .i64 y, .int .i64 z] 66)).drewN nq).cell? ⟨wr.heap.size, 0, none⟩ = some (.int .i64 x) := by show (wr.alloc (.cells #[.int .i64 x, .int .i64 y, .int .i64 z] 66)).cell? _ = _; go_cell
            have z1 : ((wr.alloc (.cells #[.int .i64 x, .int .i64 y, .int .i64 z] 66)).drewN nq).cell? ⟨wr.heap.size, 1, none⟩ = some (.int .i64 y) := by show (wr.alloc (.cells #[.int .i64 x, .int .i64 y, .int .i64 z] 66)).cell? _ = _; go_cell
            have z2 : ((wr.alloc (.cells #[.int .i64 x, .int .i64 y, .int .i64 z] 66)).drewN nq).cell? ⟨wr.heap.size, 2, none⟩ = some (.int .i64 z) := by show (wr.alloc (.cells #[.int .i64 x, .int .i64 y, .int .i64 z] 66)).cell? _ = _; go_cell
            have hzs : wr.heap.size < ((wr.alloc (.cells #[.int .i64 x, .int .i64 y, .int .i64 z] 66)).drewN nq).heap.size := by show _ < (wr.alloc (.cells #[.int .i64 x, .int .i64 y, .int .i64 z] 66)).heap.size; simp
            clear k0 HOK HB c0 c1 c2 hcb
            generalize (wr.alloc (.cells #[.int .i64 x, .int .i64 y, .int .i64 z] 66)).drewN nq = wd at *
            have hown9 := World.ownsRow.alloc HO2.out (.cells #[.int .i64 x, .int .i64 y, .int .i64 z] 66)
            have hbs2 := HB2.out.size
            go_wp2_with (at_builtin; (refine wpList_append_own_at _ rfl _ _ 47 rfl w.heap.size 66 i0 (.agg #[.int .i64 0, .int .i64 0, .int .i64 0]) 3 24 Try.underlying47 hi hz0 hz1 hz2 rfl (by decide) (Value.slice (some ⟨ga, 0, none⟩) (q + 1) vc) _ _ rfl hown9 ⟨wd.heap.size, 0, none⟩ 1 1 [.int .i64 x, .int .i64 y, .int .i64 z] rfl ?c1 ?c2 ?c3 ?c4 ?c5 ?c6 ?_); rotate_left 6; intro v6 w6 hown6 hgr6 hnil6 hat6)
            case c1 => rfl
            case c2 => exact cells3 _ _ _ _ _
            case c3 => intro u hu; simp only [List.mem_cons, List.not_mem_nil, or_false] at hu; rcases hu with rfl | rfl | rfl <;> rfl
            case c4 => unfold maxLen; omega
            case c5 => omega
            case c6 => simp; omega
            rw [HNEW.out] at hown6
            exact ⟨⟨k + 1, (q + 1) + 1, v6, rfl, by have := HN.out; omega, by omega, by go_num, by rw [first_succ HFZ.out]; exact HBAD.out, hown6, (HB2.out.alloc hbs2 _).grown hgr6 (by simp; omega) (fun j e => (HO2.out.lt j e).1)⟩, by simp [intOf]; omega⟩
      · obtain rfl : k = m := by omega
        have hfb : wr.frozen? ⟨b, 0, none⟩ = false := (HB.out.frozen (p := ⟨b, 0, none⟩) hb).trans HL.out.frz
        obtain rfl : n + k = N := HN.out
        go_wp2_with fail
        go_ret
        refine ⟨by rw [HL0.out, HFZ.out]; rfl, fun h => absurd (by rw [HL0.out]; exact HFZ.out) h, fun _ => ⟨_, ⟨World.cell?_setCell_same _ _ _ hcb, by rw [World.frozen?_setCell]; exact hfb, ?_, ?_⟩, Wr.on (Wr.ofBelow HB.out) (Wr.set (R := fun k => k = b) ⟨b, 0, none⟩ _ rfl) (fun k e => .inl e)⟩⟩
        · refine owns_keep HOK.out (fun z hz => (grown_set wr ⟨b, 0, none⟩ _).block z (HOK.out.lt z hz).2 (fun e => ?_))
          have e2 : z = b := Option.some.inj e
          have := (HOK.out.lt z hz).1
          omega
        · intro z hz
          have := (HOK.out.lt z hz).1
          omega

end Go.Proofs.Ythkpfjjcpifkcaa.LoaF
