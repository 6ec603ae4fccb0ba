/- The contract of the program's Add, NewLoad, Fork, Samples. -/
import Derived.Test.YthkpfjjcpifkcaaLoaC
namespace Go.Proofs.Ythkpfjjcpifkcaa.LoaD
open Go.ChangeShapes Go.WideShapes Go.ChangeAt Go.RowKit Base ClkM Clk WldB WldF Wri LoaA LoaB LoaC
set_option linter.unusedVariables false

theorem drewN_below (w : World) (n : Nat) : Below w.heap.size w (w.drewN n) := below_drewN (Below.refl _ _) n

/-- what Add of m samples G behind n samples F comes to -/
def AddPost (b B n m : Nat) (v : Value) (F G : Nat → Nat → Int) (w : World) (e : Ending) (w' : World) : Prop :=
  e = .returned (.int .i64 (first (bad (lastT F n) n G) m)) ∧ (first (bad (lastT F n) n G) m ≠ 0 → Below w.heap.size w w') ∧
    (first (bad (lastT F n) n G) m = 0 → ∃ v', IsLoad w' b B v' (n + m) (cat F n G) ∧ (∀ g, v'.ownBlock = some g → v.ownBlock = some g ∨ w.heap.size ≤ g) ∧ Wr (fun k => k = b ∨ v.ownBlock = some k) w w')

theorem bad_no {L0 : Int} {c : Nat} {F : Nat → Nat → Int} {i : Nat} (h : okS (F i 0) (F i 1) (F i 2) = false) : bad L0 c F i = 2 := by unfold bad; rw [if_pos h]
theorem bad_back {L0 : Int} {c : Nat} {F : Nat → Nat → Int} {i : Nat} (h : okS (F i 0) (F i 1) (F i 2) = true) (h2 : F i 0 < prev L0 F i) : bad L0 c F i = 7 := by unfold bad; rw [if_neg (by rw [h]; decide), if_pos h2]
theorem bad_full {L0 : Int} {c : Nat} {F : Nat → Nat → Int} {i : Nat} (h : okS (F i 0) (F i 1) (F i 2) = true) (h2 : ¬ F i 0 < prev L0 F i) (h3 : 4096 ≤ c + i) : bad L0 c F i = 3 := by unfold bad; rw [if_neg (by rw [h]; decide), if_neg h2, if_pos h3]
theorem bad_none {L0 : Int} {c : Nat} {F : Nat → Nat → Int} {i : Nat} (h : okS (F i 0) (F i 1) (F i 2) = true) (h2 : ¬ F i 0 < prev L0 F i) (h3 : ¬ 4096 ≤ c + i) : bad L0 c F i = 0 := by unfold bad; rw [if_neg (by rw [h]; decide), if_neg h2, if_neg h3]

theorem post_bad {b B n m k : Nat} {v : Value} {F G : Nat → Nat → Int} {w w' : World} {e : Ending} {r : Int} (h0 : first (bad (lastT F n) n G) k = 0) (hk : k < m) (hb : bad (lastT F n) n G k = r) (hr : r ≠ 0) (he : e = .returned (.int .i64 r)) (hw : Below w.heap.size w w') : AddPost b B n m v F G w e w' := by
  have h1 := first_at h0 hk (by rw [hb]; exact hr)
  rw [hb] at h1
  unfold AddPost
  rw [h1]
  exact ⟨he, fun _ => hw, fun h => absurd h hr⟩

theorem bad_cases (L0 : Int) (c : Nat) (F : Nat → Nat → Int) (i : Nat) (pv x : Int) (hpv : prev L0 F i = pv) (hx : F i 0 = x) :
    (okS x (F i 1) (F i 2) = false ∧ bad L0 c F i = 2) ∨ (okS x (F i 1) (F i 2) = true ∧ x < pv ∧ bad L0 c F i = 7) ∨ (okS x (F i 1) (F i 2) = true ∧ pv ≤ x ∧ 4096 ≤ c + i ∧ bad L0 c F i = 3) ∨ (okS x (F i 1) (F i 2) = true ∧ pv ≤ x ∧ c + i < 4096 ∧ bad L0 c F i = 0) := by
  subst hpv hx
  cases h : okS (F i 0) (F i 1) (F i 2)
  · exact .inl ⟨rfl, bad_no h⟩
  · by_cases h2 : F i 0 < prev L0 F i
    · exact .inr (.inl ⟨rfl, h2, bad_back h h2⟩)
    · by_cases h3 : 4096 ≤ c + i
      · exact .inr (.inr (.inl ⟨rfl, by omega, h3, bad_full h h2 h3⟩))
      · exact .inr (.inr (.inr ⟨rfl, by omega, by omega, bad_none h h2 h3⟩))

set_option maxRecDepth 20000 in
set_option maxHeartbeats 4000000 in
theorem add_core (b B n m cap mcap : Nat) (va : Option Addr) (sa : Option Addr) (F G : Nat → Nat → Int) (w : World) (hn : n ≤ 4096) (hm : m ≤ 5864062014805) (HL : Hid (IsLoad w b B (.slice va n cap) n F)) (HG : Hid (Sm w sa m G)) (HM : Hid (m = 0 → Value.slice sa m mcap = .slice none 0 0)) (hB : B ≤ b) :
    Calls Try.prog 18 #[.pointer (some ⟨b, 0, none⟩), .slice sa m mcap] w (AddPost b B n m (.slice va n cap) F G w) := by
  obtain ⟨i0, hi, hz0, hz1, hz2⟩ := info_parts infoSam
  have hb := HL.out.lt
  have HLA := hid (last_any b B n _ F w hn HL.out)
  obtain ⟨L0, hL0⟩ : ∃ L0, lastT F n = L0 := ⟨_, rfl⟩
  rw [hL0] at HLA
  have HL0 := hid hL0
  clear hL0
  go_enter Try.func18, Try.ntmps18
  go_wp2_with fail
  refine HLA.out.mono ?_
  rintro e w1 ⟨rfl, nd, rfl⟩
  have HL1 : Hid (IsLoad (w.drewN nd) b B (.slice va n cap) n F) := hid (HL.out.below (drewN_below w nd))
  have HG1 : Hid (Sm (w.drewN nd) sa m G) := hid (HG.out.below (drewN_below w nd))
  have HB1 : Hid (Below w.heap.size w (w.drewN nd)) := hid (drewN_below w nd)
  have hs1 : w.heap.size ≤ (w.drewN nd).heap.size := HB1.out.size
  generalize w.drewN nd = w1 at *
  have hb1 : b < w1.heap.size := by omega
  go_wp2_with fail
  go_loopw [5, 14] (fun l i wr => ∃ k : Nat, k ≤ m ∧ i = .int .i64 k ∧ l = .int .i64 (prev L0 G k) ∧ first (bad L0 n G) k = 0 ∧ Below w1.heap.size w1 wr) (fun _ i _ => m - (intOf i).toNat)
  case atStart => exact ⟨0, Nat.zero_le _, rfl, rfl, rfl, Below.refl _ _⟩
  case round =>
    obtain ⟨k, hk, rfl, rfl, hfz, hbel⟩ := hrel
    have HFZ := hid hfz
    have HB := hid hbel
    have hbs := hbel.size
    clear hfz hbel
    have hcb : wr.cell? ⟨b, 0, none⟩ = some (.slice va n cap) := (HB.out.cell (p := ⟨b, 0, none⟩) hb1).trans HL1.out.cell
    by_cases hlt : k < m
    · obtain ⟨g, o, rfl, hg, hc⟩ := HG1.out (by omega)
      have c0 : wr.cell? ⟨g, o + k * 3, none⟩ = some (.int .i64 (G k 0)) := (HB.out.cell (p := ⟨g, o + k * 3 + 0, none⟩) hg).trans (hc k hlt 0 (by omega))
      have c1 : wr.cell? ⟨g, o + k * 3 + 1, none⟩ = some (.int .i64 (G k 1)) := (HB.out.cell (p := ⟨g, o + k * 3 + 1, none⟩) hg).trans (hc k hlt 1 (by omega))
      have c2 : wr.cell? ⟨g, o + k * 3 + 2, none⟩ = some (.int .i64 (G k 2)) := (HB.out.cell (p := ⟨g, o + k * 3 + 2, none⟩) hg).trans (hc k hlt 2 (by omega))
      clear hc
      obtain ⟨x, hx⟩ : ∃ x, G k 0 = x := ⟨_, rfl⟩
      obtain ⟨pv, hpv⟩ : ∃ pv, prev L0 G k = pv := ⟨_, rfl⟩
      have HP : Hid (prev L0 G (k + 1) = x) := hid (by unfold prev; rw [if_neg (by omega)]; exact hx)
      have hcase := bad_cases L0 n G k pv x hpv hx
      rw [hpv]
      rw [hx] at c0
      clear hpv hx
      generalize G k 1 = y at *
      generalize G k 2 = z at *
      have hk1 : (k : Int) < (m : Int) := by omega
      rcases hcase with ⟨hok, hbad⟩ | ⟨hok, hlt2, hbad⟩ | ⟨hok, hlt2, hlt3, hbad⟩ | ⟨hok, hlt2, hlt3, hbad⟩
      · have HBAD := hid hbad
        have HM0 := hid (fun W => mayBe_any x y z false hok W)
        clear hbad hok
        go_wp2_with fail
        refine (HM0.out _).mono ?_
        rintro e w2 ⟨rfl, hb2⟩
        have HB2 := hid (Below.trans (HB.out.alloc hbs (.cells #[.int .i64 x, .int .i64 y, .int .i64 z] 64)) (hb2.mono (by simp; omega)))
        have d0 : w2.cell? ⟨wr.heap.size, 0, none⟩ = some (.int .i64 x) := (hb2.cell (p := ⟨wr.heap.size, 0, none⟩) (by simp)).trans (by go_cell)
        have d1 : w2.cell? ⟨b, 0, none⟩ = some (.slice va n cap) := (hb2.cell (p := ⟨b, 0, none⟩) (by simp; omega)).trans ((Below.refl _ wr |>.alloc (Nat.le_refl _) _).cell (p := ⟨b, 0, none⟩) (by show b < _; omega) |>.trans hcb)
        have hz2 : wr.heap.size < w2.heap.size := by have := hb2.size; simp at this; omega
        clear hb2 c0 c1 c2 hcb
        go_wp2_with fail
        go_ret
        exact post_bad (by rw [HL0.out]; exact HFZ.out) hlt (by rw [HL0.out]; exact HBAD.out) (by decide) rfl (Below.trans HB1.out (HB2.out.mono hs1))
      · have HBAD := hid hbad
        have HM0 := hid (fun W => mayBe_any x y z true hok W)
        clear hbad hok
        go_wp2_with fail
        refine (HM0.out _).mono ?_
        rintro e w2 ⟨rfl, hb2⟩
        have HB2 := hid (Below.trans (HB.out.alloc hbs (.cells #[.int .i64 x, .int .i64 y, .int .i64 z] 64)) (hb2.mono (by simp; omega)))
        have d0 : w2.cell? ⟨wr.heap.size, 0, none⟩ = some (.int .i64 x) := (hb2.cell (p := ⟨wr.heap.size, 0, none⟩) (by simp)).trans (by go_cell)
        have d1 : w2.cell? ⟨b, 0, none⟩ = some (.slice va n cap) := (hb2.cell (p := ⟨b, 0, none⟩) (by simp; omega)).trans ((Below.refl _ wr |>.alloc (Nat.le_refl _) _).cell (p := ⟨b, 0, none⟩) (by show b < _; omega) |>.trans hcb)
        have hz2 : wr.heap.size < w2.heap.size := by have := hb2.size; simp at this; omega
        clear hb2 c0 c1 c2 hcb
        go_wp2_with fail
        go_ret
        exact post_bad (by rw [HL0.out]; exact HFZ.out) hlt (by rw [HL0.out]; exact HBAD.out) (by decide) rfl (Below.trans HB1.out (HB2.out.mono hs1))
      · have HBAD := hid hbad
        have HM0 := hid (fun W => mayBe_any x y z true hok W)
        have hd1 : decide (x < pv) = false := by simp; omega
        have hd2 : (4096 : Int) ≤ (n : Int) + (k : Int) := by omega
        clear hbad hok
        go_wp2_with fail
        refine (HM0.out _).mono ?_
        rintro e w2 ⟨rfl, hb2⟩
        have HB2 := hid (Below.trans (HB.out.alloc hbs (.cells #[.int .i64 x, .int .i64 y, .int .i64 z] 64)) (hb2.mono (by simp; omega)))
        have d0 : w2.cell? ⟨wr.heap.size, 0, none⟩ = some (.int .i64 x) := (hb2.cell (p := ⟨wr.heap.size, 0, none⟩) (by simp)).trans (by go_cell)
        have d1 : w2.cell? ⟨b, 0, none⟩ = some (.slice va n cap) := (hb2.cell (p := ⟨b, 0, none⟩) (by simp; omega)).trans ((Below.refl _ wr |>.alloc (Nat.le_refl _) _).cell (p := ⟨b, 0, none⟩) (by show b < _; omega) |>.trans hcb)
        have hz2 : wr.heap.size < w2.heap.size := by have := hb2.size; simp at this; omega
        clear hb2 c0 c1 c2 hcb
        go_wp2_with fail
        go_ret
        exact post_bad (by rw [HL0.out]; exact HFZ.out) hlt (by rw [HL0.out]; exact HBAD.out) (by decide) rfl (Below.trans HB1.out (HB2.out.mono hs1))
      · have HBAD := hid hbad
        have HM0 := hid (fun W => mayBe_any x y z true hok W)
        have hd1 : decide (x < pv) = false := by simp; omega
        have hd2 : decide ((4096 : Int) ≤ (n : Int) + (k : Int)) = false := by simp; omega
        clear hbad hok
        go_wp2_with fail
        refine (HM0.out _).mono ?_
        rintro e w2 ⟨rfl, hb2⟩
        have HB2 := hid (Below.trans (HB.out.alloc hbs (.cells #[.int .i64 x, .int .i64 y, .int .i64 z] 64)) (hb2.mono (by simp; omega)))
        have d0 : w2.cell? ⟨wr.heap.size, 0, none⟩ = some (.int .i64 x) := (hb2.cell (p := ⟨wr.heap.size, 0, none⟩) (by simp)).trans (by go_cell)
        have d1 : w2.cell? ⟨b, 0, none⟩ = some (.slice va n cap) := (hb2.cell (p := ⟨b, 0, none⟩) (by simp; omega)).trans ((Below.refl _ wr |>.alloc (Nat.le_refl _) _).cell (p := ⟨b, 0, none⟩) (by show b < _; omega) |>.trans hcb)
        have hz2 : wr.heap.size < w2.heap.size := by have := hb2.size; simp at this; omega
        clear hb2 c0 c1 c2 hcb
        go_wp2_with fail
        exact ⟨⟨k + 1, by omega, by go_num, by rw [HP.out], by rw [first_succ HFZ.out]; exact HBAD.out, HB2.out⟩, by simp [intOf]; omega⟩
    · obtain rfl : k = m := by omega
      have hfb : wr.frozen? ⟨b, 0, none⟩ = false := (HB.out.frozen (p := ⟨b, 0, none⟩) hb1).trans HL1.out.frz
      have HBW := hid (Below.trans HB1.out (HB.out.mono hs1))
      by_cases h0 : k = 0
      · subst h0
        have e := HM.out rfl
        cases e
        have HR : Hid (IsLoad wr b B (.slice va n cap) n F) := hid (HL1.out.below HB.out)
        have hown := HR.out.has.own
        go_wp2_with (at_builtin; (refine wpList_append_own_none rfl _ _ 48 rfl B 64 i0 3 Try.underlying48 hi (Value.slice va n cap) n _ rfl hown rfl ?_))
        go_ret
        refine ⟨by rw [HL0.out, HFZ.out]; rfl, fun h => absurd (by rw [HL0.out]; exact HFZ.out) h, fun _ => ⟨_, ⟨World.cell?_setCell_same _ _ _ hcb, by rw [World.frozen?_setCell]; exact hfb, ⟨?_, fun h => HR.out.has.nil (by omega)⟩, HR.out.off⟩, fun z hz => .inl hz, ?_⟩⟩
        · rw [← flat_cat, show flat G 0 = [] from rfl, List.append_nil]
          refine owns_keep hown (fun z hz => (grown_set wr ⟨b, 0, none⟩ _).block z (hown.lt z hz).2 (fun e => ?_))
          cases e
          exact HR.out.off b hz rfl
        · exact Wr.on (Wr.ofBelow HBW.out) (Wr.set (R := fun k => k = b) ⟨b, 0, none⟩ _ rfl) (fun k e => .inl (.inl e))
      · obtain ⟨g, o, rfl, hg, hnews⟩ := HG1.out.news (by omega)
        have HNW := hid hnews
        clear hnews
        have HR : Hid (IsLoad wr b B (.slice va n cap) n F) := hid (HL1.out.below HB.out)
        have hown := HR.out.has.own
        have hnm : n + k ≤ 4096 := by have := (bad_ok (first_zero HFZ.out (k - 1) (by omega))).2.2; omega
        have hbl : b < wr.heap.size := by omega
        go_wp2_with (at_builtin; (refine wpList_append_own_at _ rfl _ _ 48 rfl B 64 i0 (.agg #[.int .i64 0, .int .i64 0, .int .i64 0]) 3 24 Try.underlying48 hi hz0 hz1 hz2 rfl (by decide) (Value.slice va n cap) n _ rfl hown ⟨g, o, none⟩ k mcap (flat G k) rfl ?c1 ?c2 ?c3 ?c4 ?c5 ?c6 ?_); rotate_left 6; intro v6 w6 hown6 hgr6 hnil6 hat6; obtain ⟨vb, vd, rfl⟩ := owns_shape hown6; have e6 := hgr6.block b hbl (fun e => HR.out.off b e.symm rfl); have q6 : w6.cell? ⟨b, 0, none⟩ = some (.slice va n cap) := (World.cell?_of_block (a := ⟨b, 0, none⟩) e6).trans hcb; have f6 : w6.frozen? ⟨b, 0, none⟩ = false := (World.frozen?_of_block (a := ⟨b, 0, none⟩) e6).trans hfb)
        case c1 => exact flat_len G k
        case c2 => exact fun j u hj => (HB.out.cell (p := (⟨g, o, none⟩ : Addr).add j) (by rw [Go.WideShapes.add_plain]; exact hg)).trans (HNW.out j u hj)
        case c3 => exact flat_one G k
        case c4 => unfold maxLen; omega
        case c5 => omega
        case c6 => omega
        go_ret
        rw [flat_cat] at hown6
        refine ⟨by rw [HL0.out, HFZ.out]; rfl, fun h => absurd (by rw [HL0.out]; exact HFZ.out) h, fun _ => ⟨_, ⟨World.cell?_setCell_same _ _ _ q6, by rw [World.frozen?_setCell]; exact f6, ⟨?_, fun h => by omega⟩, ?_⟩, ?_, ?_⟩⟩
        · refine owns_keep hown6 (fun z hz => (grown_set w6 ⟨b, 0, none⟩ _).block z (hown6.lt z hz).2 (fun e => ?_))
          have e2 : z = b := Option.some.inj e
          rcases hat6 with h | h
          · exact HR.out.off z (h ▸ hz) e2
          · rw [h] at hz; have hz2 : wr.heap.size = z := Option.some.inj hz; omega
        · intro z hz
          rcases hat6 with h | h
          · exact HR.out.off z (h ▸ hz)
          · rw [h] at hz; have hz2 : wr.heap.size = z := Option.some.inj hz; omega
        · intro z hz
          rcases hat6 with h | h
          · exact .inl (h ▸ hz)
          · rw [h] at hz; have hz2 : wr.heap.size = z := Option.some.inj hz; exact .inr (by omega)
        · exact Wr.on (Wr.on (Wr.ofBelow HBW.out) (Wr.ofGrown hgr6 (R := fun k => (Value.slice va n cap).ownBlock = some k) (fun k e => e)) (fun k e => .inl (.inr e))) (Wr.set (R := fun k => k = b) ⟨b, 0, none⟩ _ rfl) (fun k e => .inl (.inl e))

theorem add_any (b B n m : Nat) (v sv : Value) (B2 : Nat) (F G : Nat → Nat → Int) (w : World) (hn : n ≤ 4096) (hm : m ≤ 5864062014805) (HL : IsLoad w b B v n F) (HG : Has w B2 sv m G) (hB : B ≤ b) :
    Calls Try.prog 18 #[.pointer (some ⟨b, 0, none⟩), sv] w (AddPost b B n m v F G w) := by
  obtain ⟨va, cap, rfl⟩ := owns_shape HL.has.own
  obtain ⟨sa, sc, rfl, hS, _⟩ := Sm.owned HG.own
  exact add_core b B n m cap sc va sa F G w hn hm (hid HL) (hid hS) (hid HG.nil) hB

end Go.Proofs.Ythkpfjjcpifkcaa.LoaD
