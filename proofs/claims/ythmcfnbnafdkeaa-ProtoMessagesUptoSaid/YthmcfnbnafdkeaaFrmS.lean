/- What a reader tells when it has taken some bytes. -/
import Derived.Test.YthmcfnbnafdkeaaFrmR
namespace Go.Proofs.Ythmcfnbnafdkeaa.FrmS
open Go.ChangeShapes Go.WideShapes Go.ChangeAt Go.RowKit Base Wri FrmP FrmA FrmB FrmC FrmD FrmE FrmF FrmQ FrmR
set_option linter.unusedVariables false
set_option linter.unusedSimpArgs false

set_option maxRecDepth 20000 in
set_option maxHeartbeats 1000000 in
theorem tell_on (p c : Nat) (a : Option Addr) (g : Bs) (w : World) (x0 : w.cell? ⟨p, 0, none⟩ = some (.slice a g.length c)) (HB : Hid (BAt w w.heap.size a g)) (hl : g.length ≤ 8200) (hw : whole g = false) (hb : bad g = false) :
    Calls Try.prog 73 #[.pointer (some ⟨p, 0, none⟩)] w fun e w' => e = .returned (.tuple #[.slice none 0 0, .bool false]) ∧ ∃ m, w.drewN m = w' := by
  cases hz : isz g with
  | false =>
    have h4 : g.length < 4 := by
      apply Decidable.byContradiction
      intro h
      have := isz_iff (s := g)
      cases ho : ok4 g with
      | true => rw [this.2 ⟨by omega, ho⟩] at hz; cases hz
      | false => rw [bad_iff.2 ⟨by omega, ho⟩] at hb; cases hb
    have HC := hid (sizeOf_no a c g w (by omega) HB hz)
    clear hz hb hw HB
    generalize g.length = n at *
    go_enter Try.func73, Try.ntmps73
    go_wp2_with fail
    refine HC.out.mono ?_
    rintro e w1 ⟨rfl, m, rfl⟩
    have y0 : (w.drewN m).cell? ⟨p, 0, none⟩ = some (.slice a n c) := x0
    clear HC
    go_wp2_with fail
    go_ret2
    exact ⟨rfl, m, rfl⟩
  | true =>
    obtain ⟨h4, hok⟩ := isz_iff.1 hz
    have h7 : g.length < 4 + num4 g := by
      apply Decidable.byContradiction
      intro h
      rw [whole_isz, hz] at hw
      simp at hw
      omega
    have h8 := (ok4_iff.1 hok).2
    have HC := hid (sizeOf_yes a c g w (by omega) HB h4 hok)
    clear hz hb hw HB hok
    generalize num4 g = u at *
    generalize g.length = n at *
    go_enter Try.func73, Try.ntmps73
    go_wp2_with fail
    refine HC.out.mono ?_
    rintro e w1 ⟨rfl, m, rfl⟩
    have y0 : (w.drewN m).cell? ⟨p, 0, none⟩ = some (.slice a n c) := x0
    clear HC
    go_wp2_with fail
    go_ret2
    exact ⟨rfl, m, rfl⟩

set_option maxRecDepth 20000 in
set_option maxHeartbeats 1000000 in
theorem tell_bad (p c : Nat) (a : Option Addr) (g : Bs) (b0 : Bool) (w : World) (x0 : w.cell? ⟨p, 0, none⟩ = some (.slice a g.length c)) (x1 : w.cell? ⟨p, 1, none⟩ = some (.bool b0)) (f0 : w.frozen? ⟨p, 0, none⟩ = false) (f1 : w.frozen? ⟨p, 1, none⟩ = false)
    (HB : Hid (BAt w w.heap.size a g)) (hl : g.length ≤ 8200) (hb : bad g = true) :
    Calls Try.prog 73 #[.pointer (some ⟨p, 0, none⟩)] w fun e w' => e = .returned (.tuple #[.slice none 0 0, .bool false]) ∧ ∃ m, ((w.drewN m).setCell ⟨p, 0, none⟩ (.slice none 0 0)).setCell ⟨p, 1, none⟩ (.bool true) = w' := by
  obtain ⟨h4, hok⟩ := bad_iff.1 hb
  have HC := hid (sizeOf_no a c g w (by omega) HB (by unfold isz; rw [hok]; simp))
  clear hb HB hok
  generalize g.length = n at *
  go_enter Try.func73, Try.ntmps73
  go_wp2_with fail
  refine HC.out.mono ?_
  rintro e w1 ⟨rfl, m, rfl⟩
  have y0 : (w.drewN m).cell? ⟨p, 0, none⟩ = some (.slice a n c) := x0
  have y1 : (w.drewN m).cell? ⟨p, 1, none⟩ = some (.bool b0) := x1
  have y2 : (w.drewN m).frozen? ⟨p, 0, none⟩ = false := f0
  have y3 : (w.drewN m).frozen? ⟨p, 1, none⟩ = false := f1
  clear HC x0 x1 f0 f1
  go_wp2_with fail
  go_ret2
  exact ⟨rfl, m, rfl⟩

set_option maxRecDepth 20000 in
set_option maxHeartbeats 1000000 in
theorem tell_whole (p q c : Nat) (g : Bs) (w : World) (x0 : w.cell? ⟨p, 0, none⟩ = some (.slice (some ⟨q, 0, none⟩) g.length c)) (f0 : w.frozen? ⟨p, 0, none⟩ = false)
    (HB : Hid (BAt w w.heap.size (some ⟨q, 0, none⟩) g)) (hl : g.length ≤ 8200) (hc : g.length ≤ c) (hc2 : c ≤ 9223372036854775807) (hw : whole g = true) (he : g.length = 4 + num4 g) :
    Calls Try.prog 73 #[.pointer (some ⟨p, 0, none⟩)] w fun e w' => e = .returned (.tuple #[.slice (some ⟨q, 4, none⟩) (num4 g) (num4 g), .bool true]) ∧ ∃ m, (w.drewN m).setCell ⟨p, 0, none⟩ (.slice none 0 0) = w' := by
  obtain ⟨h4, h5, h6⟩ := whole_iff.1 hw
  have HC := hid (sizeOf_yes (some ⟨q, 0, none⟩) c g w (by omega) HB h4 (ok4_iff.2 h5))
  clear hw HB
  generalize num4 g = u at *
  generalize g.length = n at *
  have HD := hid (cut_any q 0 n c (4 + u))
  subst he
  go_enter Try.func73, Try.ntmps73
  go_wp2_with fail
  refine HC.out.mono ?_
  rintro e w1 ⟨rfl, m, rfl⟩
  have y0 : (w.drewN m).cell? ⟨p, 0, none⟩ = some (.slice (some ⟨q, 0, none⟩) (4 + u) c) := x0
  have y1 : (w.drewN m).frozen? ⟨p, 0, none⟩ = false := f0
  clear HC x0 f0
  have HD2 := hid (HD.out (w.drewN m) (by omega) (by omega) (by omega))
  have e4 : 4 + u - 4 = u := by omega
  rw [e4] at HD2
  clear HD
  go_wp2_with fail
  refine HD2.out.mono ?_
  rintro e w2 ⟨rfl, rfl⟩
  go_wp2_with fail
  go_ret2
  exact ⟨rfl, m, rfl⟩

end Go.Proofs.Ythmcfnbnafdkeaa.FrmS
