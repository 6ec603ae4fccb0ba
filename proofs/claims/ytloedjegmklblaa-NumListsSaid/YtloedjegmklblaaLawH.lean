/- The walk of NumLists: it returns true for every list. -/
import Derived.Test.YtloedjegmklblaaLawG
import Derived.OwnWalk
import Derived.WalkSmall
import Derived.Laws.AppendOwnNone
import Derived.BigQuiet
import Derived.Deep.QuietTactic
namespace Go.Proofs.Ytloedjegmklblaa.LawH
open Go.ChangeShapes Go.WideShapes Go.ChangeAt Go.RowKit Base NumM NumA NumB NumC NumD NumE RefA RefB RefC RefD RefE LawA LawB LawE LawG DivB

theorem infoInt : (Try.prog.info? 3).map (fun i => (i.zero, i.size, i.bytes)) = some (some (.int .i64 0), 1, 8) := by kernel_rfl

/-- what the copy of a list is: nil where there is none, else a row of the call's own -/
theorem own_row {w : World} {base : Nat} {v : Value} {n : Nat} {xs : List Int} (h : w.ownsRow base 3 1 v n (xs.map (Value.int .i64))) (hn : 0 < n) (hx : xs.length = n) :
    ∃ g cap, v = .slice (some ⟨g, 0, none⟩) n cap ∧ base ≤ g ∧ g < w.heap.size ∧ ∀ i, i < n → w.cell? ⟨g, 0 + i, none⟩ = some (.int .i64 (xs.getD i 0)) := by
  obtain ⟨hl, h⟩ := h
  rcases h with ⟨_, h0⟩ | ⟨g, cap, cur, hv, hg, hh, hc, hm, hs, hcur⟩
  · omega
  · refine ⟨g, cap, hv, hg, ?_, fun i hi => ?_⟩
    · by_cases hlt : g < w.heap.size
      · exact hlt
      · rw [Array.getElem?_eq_none (by omega)] at hh; cases hh
    · have e : cur[i]? = some (.int .i64 (xs.getD i 0)) := by
        have h1 : (cur.toList.take (n * 1))[i]? = (xs.map (Value.int .i64))[i]? := by rw [hcur]
        rw [List.getElem?_take, if_pos (by omega), List.getElem?_map] at h1
        rw [← Array.getElem?_toList, h1]
        have hi2 : i < xs.length := by omega
        simp [List.getD, hi2]
      simp [World.cell?, hh, e]

set_option maxRecDepth 100000 in
set_option maxHeartbeats 4000000 in
theorem lists_core (p q len cap : Nat) (xs : List Int) (w : World) (hreach : len * 8 ≤ 140737488351232) (h0 : 0 < len) (hp : p < w.heap.size) (HL : Hid (xs.length = len))
    (HC : Hid (∀ i, i < len → w.cell? ⟨p, q + i, none⟩ = some (.int .i64 (xs.getD i 0)))) (HX : Hid (∀ x ∈ xs, Fits x)) :
    Calls Try.prog 5 #[.slice (some ⟨p, q, none⟩) len cap] w fun e w' => e = .returned (.bool true) ∧ Below w.heap.size w w' := by
  obtain ⟨i0, hi, hz0, hz1, hz2⟩ := info_parts infoInt
  have hown : w.ownsRow w.heap.size 3 1 (.slice none 0 0) 0 [] := ⟨rfl, .inl ⟨rfl, rfl⟩⟩
  go_enter Try.func5, Try.ntmps5
  go_wp2_with (at_builtin; refine wpList_append_own _ rfl _ _ 31 rfl w.heap.size 3 i0 (.int .i64 0) 1 8 Try.underlying31 hi hz0 hz1 hz2 rfl (by decide) _ _ _ rfl hown ⟨p, q, none⟩ len cap (xs.map (Value.int .i64)) rfl ?c1 ?c2 ?c3 ?c4 ?c5 (Nat.le_refl _) ?_; rotate_left 5; intro v w1 hown1 hgrow hnil)
  case c1 => rw [List.length_map, HL.out]; omega
  case c2 =>
    intro j u hj
    rw [List.getElem?_map] at hj
    have hjl : j < xs.length := by
      by_cases h : j < xs.length
      · exact h
      · rw [List.getElem?_eq_none (by omega)] at hj; cases hj
    rw [Go.WideShapes.add_plain, HC.out j (by rw [← HL.out]; exact hjl), ← hj, List.getElem?_eq_getElem hjl]
    simp [List.getD, hjl]
  case c3 =>
    intro u hu
    rw [List.mem_map] at hu
    obtain ⟨x, _, rfl⟩ := hu
    rfl
  case c4 => unfold maxLen; omega
  case c5 => omega
  obtain ⟨g, cap2, hv, hgw, hgs, hgc⟩ := own_row (n := len) (xs := xs) (by rw [Nat.zero_add, List.nil_append] at hown1; exact hown1) h0 HL.out
  have B1 : Hid (Below w.heap.size w w1) := hid ((Below.refl _ _).grown hgrow (Nat.le_refl _) (by intro k hk; cases hk))
  have HG := hid hgc
  have HCl : Hid (∀ i, i < len → w1.cell? ⟨p, q + i, none⟩ = some (.int .i64 (xs.getD i 0))) := hid fun i hi => (B1.out.cell (p := ⟨p, q + i, none⟩) hp).trans (HC.out i hi)
  have hp1 : p < w1.heap.size := Nat.lt_of_lt_of_le hp B1.out.size
  clear hgc hown1 hgrow hnil hown
  have HXd : Hid (∀ i, Fits (xs.getD i 0)) := hid fun i => by
    by_cases h : i < xs.length
    · exact HX.out _ (by simp [List.getD, h])
    · simp [List.getD, h]; decide
  have HLE : Hid (len ≤ 9223372036854775807) := hid (by omega)
  have H0 := hid h0
  -- each call, in whatever world behind the copy
  have M1 : Hid (∀ wx, Below w1.heap.size w1 wx → Calls Try.prog 29 #[.slice (some ⟨g, 0, none⟩) len cap2] wx fun e w' => e = .returned (.tuple #[.int .i64 (divN (sumL xs) len false), .int .i64 (divE (sumL xs) len false)]) ∧ Below wx.heap.size wx w') :=
    hid fun wx hb => mean_list g 0 len cap2 xs wx HLE.out H0.out (Nat.lt_of_lt_of_le hgs hb.size) HL (hid fun i hi => (hb.cell (p := ⟨g, 0 + i, none⟩) hgs).trans (HG.out i hi)) HX
  have M2 : Hid (∀ wx, Below w1.heap.size w1 wx → Calls Try.prog 30 #[.slice (some ⟨p, q, none⟩) len cap] wx fun e w' => e = .returned (.tuple #[.int .i64 (divN (sumL xs) len false), .int .i64 (divE (sumL xs) len false)]) ∧ Below wx.heap.size wx w') :=
    hid fun wx hb => mean_list_ref p q len cap xs wx HLE.out H0.out (Nat.lt_of_lt_of_le hp1 hb.size) HL (hid fun i hi => (hb.cell (p := ⟨p, q + i, none⟩) hp1).trans (HCl.out i hi)) HX
  have P1 : Hid (∀ wx, Below w1.heap.size w1 wx → Calls Try.prog 31 #[.slice (some ⟨g, 0, none⟩) len cap2] wx fun e w' => e = .returned (.int .i64 (plusL xs)) ∧ Below wx.heap.size wx w') :=
    hid fun wx hb => plus_list g 0 len cap2 xs wx HLE.out (Nat.lt_of_lt_of_le hgs hb.size) HL (hid fun i hi => (hb.cell (p := ⟨g, 0 + i, none⟩) hgs).trans (HG.out i hi)) HXd
  have P2 : Hid (∀ wx, Below w1.heap.size w1 wx → Calls Try.prog 32 #[.slice (some ⟨p, q, none⟩) len cap] wx fun e w' => e = .returned (.int .i64 (plusL xs)) ∧ Below wx.heap.size wx w') :=
    hid fun wx hb => plus_list_ref p q len cap xs wx HLE.out (Nat.lt_of_lt_of_le hp1 hb.size) HL (hid fun i hi => (hb.cell (p := ⟨p, q + i, none⟩) hp1).trans (HCl.out i hi)) HXd
  rw [hv]
  clear hv
  refine (M1.out _ (Below.refl _ _)).mono ?_
  rintro e w2 ⟨rfl, hb2⟩
  have C2 := hid hb2
  clear hb2
  go_wp2_with fail
  refine (M2.out _ C2.out).mono ?_
  rintro e w3 ⟨rfl, hb3⟩
  have C3 : Hid (Below w1.heap.size w1 w3) := hid (C2.out.trans (hb3.mono C2.out.size))
  clear hb3
  go_wp2_with fail
  refine (live_any _).mono ?_
  rintro e w4 ⟨rfl, hb4⟩
  have C4 : Hid (Below w1.heap.size w1 w4) := hid (C3.out.trans (hb4.mono C3.out.size))
  clear hb4
  go_wp2_with fail
  refine (same_any _ _ _).mono ?_
  rintro e wx ⟨rfl, rfl⟩
  go_wp2_with fail
  refine (P1.out _ C4.out).mono ?_
  rintro e w5 ⟨rfl, hb5⟩
  have C5 : Hid (Below w1.heap.size w1 w5) := hid (C4.out.trans (hb5.mono C4.out.size))
  clear hb5
  go_wp2_with fail
  refine (P2.out _ C5.out).mono ?_
  rintro e w6 ⟨rfl, hb6⟩
  have C6 : Hid (Below w1.heap.size w1 w6) := hid (C5.out.trans (hb6.mono C5.out.size))
  clear hb6
  go_wp2_with fail
  go_loopw [8] (fun i wr => ∃ k : Nat, k ≤ len ∧ i = .int .i64 k ∧ Below w1.heap.size w1 wr) (fun i _ => len - (intOf i).toNat)
  case atStart => exact ⟨0, Nat.zero_le _, rfl, C6.out⟩
  case round =>
    obtain ⟨k, hk, rfl, hbel⟩ := hrel
    have HB := hid hbel
    clear hbel
    by_cases hlt : k < len
    · have hk1 : (k : Int) < (len : Int) := by omega
      have hk0 : (0 : Int) ≤ (k : Int) := by omega
      have hx : _ = some (Value.int .i64 (xs.getD k 0)) := (HB.out.cell (p := ⟨p, q + k, none⟩) hp1).trans (HCl.out k hlt)
      have hy : _ = some (Value.int .i64 (xs.getD k 0)) := (HB.out.cell (p := ⟨g, 0 + k, none⟩) hgs).trans (HG.out k hlt)
      rw [Nat.zero_add] at hy
      generalize xs.getD k 0 = x at *
      go_wp2_with fail
      go_quiet (fail)
      go_wp2
      go_roundw
      case rel => exact ⟨k + 1, by omega, by go_num, below_drewN HB.out _⟩
      case measure => simp [intOf]; omega
    · go_wp2
      go_ret
      exact ⟨rfl, B1.out.trans (HB.out.mono B1.out.size)⟩

set_option maxRecDepth 100000 in
set_option maxHeartbeats 2000000 in
theorem lists_tail (a : Option Addr) (cap : Nat) (w : World) (hsrc : (a = none ∧ cap = 0) ∨ ∃ x, a = some x) :
    Calls Try.prog 5 #[.slice a 0 cap] w fun e w' => e = .returned (.bool true) ∧ Below w.heap.size w w' := by
  obtain ⟨i0, hi, hz0, hz1, hz2⟩ := info_parts infoInt
  have hown : w.ownsRow w.heap.size 3 1 (.slice none 0 0) 0 [] := ⟨rfl, .inl ⟨rfl, rfl⟩⟩
  rcases hsrc with ⟨rfl, rfl⟩ | ⟨x, rfl⟩
  · go_enter Try.func5, Try.ntmps5
    go_wp2_with (at_builtin; refine wpList_append_own_none rfl _ _ 31 rfl w.heap.size 3 i0 1 Try.underlying31 hi _ _ _ rfl hown rfl ?_)
    refine (mean_empty none 0 _).mono ?_
    rintro e w2 ⟨rfl, hb2⟩
    go_wp2_with fail
    refine (mean_empty_ref none 0 _).mono ?_
    rintro e w3 ⟨rfl, hb3⟩
    go_wp2_with fail
    refine (live_any _).mono ?_
    rintro e w4 ⟨rfl, hb4⟩
    go_wp2_with fail
    refine (same_any _ _ _).mono ?_
    rintro e wx ⟨rfl, rfl⟩
    go_wp2_with fail
    refine (plus_empty none 0 _).mono ?_
    rintro e w5 ⟨rfl, hb5⟩
    go_wp2_with fail
    refine (plus_empty_ref none 0 _).mono ?_
    rintro e w6 ⟨rfl, hb6⟩
    have z2 := hb2.size; have z3 := hb3.size; have z4 := hb4.size; have z5 := hb5.size
    have C6 : Hid (Below w.heap.size w w6) := hid (by repeat (first | (with_reducible exact Below.refl _ _) | (with_reducible refine Below.setCell ?_ (by first | (simp; done) | (simp; omega) | omega) _) | (with_reducible refine Below.alloc ?_ (by first | (simp; done) | (simp; omega) | omega) _) | (with_reducible refine Below.drew ?_) | (with_reducible exact hb6) | (with_reducible exact hb5) | (with_reducible exact hb4) | (with_reducible exact hb3) | (with_reducible exact hb2) | (with_reducible refine Below.trans ?_ (Below.mono hb6 (by first | (simp; done) | (simp; omega) | omega))) | (with_reducible refine Below.trans ?_ (Below.mono hb5 (by first | (simp; done) | (simp; omega) | omega))) | (with_reducible refine Below.trans ?_ (Below.mono hb4 (by first | (simp; done) | (simp; omega) | omega))) | (with_reducible refine Below.trans ?_ (Below.mono hb3 (by first | (simp; done) | (simp; omega) | omega))) | (with_reducible refine Below.trans ?_ (Below.mono hb2 (by first | (simp; done) | (simp; omega) | omega)))))
    clear hb2 hb3 hb4 hb5 hb6
    go_wp2_with fail
    go_loopw [8] (fun i wr => i = .int .i64 0 ∧ Below w.heap.size w wr) (fun _ _ => 0)
    case atStart => exact ⟨rfl, C6.out⟩
    case round =>
      obtain ⟨rfl, hbel⟩ := hrel
      have HB := hid hbel
      clear hbel
      go_wp2
      go_ret
      exact ⟨rfl, HB.out⟩
  · go_enter Try.func5, Try.ntmps5
    go_wp2_with (at_builtin; refine wpList_append_own _ rfl _ _ 31 rfl w.heap.size 3 i0 (.int .i64 0) 1 8 Try.underlying31 hi hz0 hz1 hz2 rfl (by decide) _ _ _ rfl hown x 0 cap [] rfl ?c1 ?c2 ?c3 ?c4 ?c5 (Nat.le_refl _) ?_; rotate_left 5; intro v w1 hown1 hgrow hnil)
    case c1 => rfl
    case c2 => intro j u hj; simp at hj
    case c3 => intro u hu; simp at hu
    case c4 => unfold maxLen; omega
    case c5 => omega
    have hv : v = .slice none 0 0 := hnil.2 ⟨rfl, trivial⟩
    subst hv
    have b1 : Below w.heap.size w w1 := (Below.refl _ _).grown hgrow (Nat.le_refl _) (by intro k hk; cases hk)
    clear hown1 hgrow hnil hown
    refine (mean_empty none 0 _).mono ?_
    rintro e w2 ⟨rfl, hb2⟩
    go_wp2_with fail
    refine (mean_empty_ref (some x) cap _).mono ?_
    rintro e w3 ⟨rfl, hb3⟩
    go_wp2_with fail
    refine (live_any _).mono ?_
    rintro e w4 ⟨rfl, hb4⟩
    go_wp2_with fail
    refine (same_any _ _ _).mono ?_
    rintro e wx ⟨rfl, rfl⟩
    go_wp2_with fail
    refine (plus_empty none 0 _).mono ?_
    rintro e w5 ⟨rfl, hb5⟩
    go_wp2_with fail
    refine (plus_empty_ref (some x) cap _).mono ?_
    rintro e w6 ⟨rfl, hb6⟩
    have z1 := b1.size; have z2 := hb2.size; have z3 := hb3.size; have z4 := hb4.size; have z5 := hb5.size
    have C6 : Hid (Below w.heap.size w w6) := hid (by repeat (first | (with_reducible exact Below.refl _ _) | (with_reducible refine Below.setCell ?_ (by first | (simp; done) | (simp; omega) | omega) _) | (with_reducible refine Below.alloc ?_ (by first | (simp; done) | (simp; omega) | omega) _) | (with_reducible refine Below.drew ?_) | (with_reducible exact hb6) | (with_reducible exact hb5) | (with_reducible exact hb4) | (with_reducible exact hb3) | (with_reducible exact hb2) | (with_reducible exact b1) | (with_reducible refine Below.trans ?_ (Below.mono hb6 (by first | (simp; done) | (simp; omega) | omega))) | (with_reducible refine Below.trans ?_ (Below.mono hb5 (by first | (simp; done) | (simp; omega) | omega))) | (with_reducible refine Below.trans ?_ (Below.mono hb4 (by first | (simp; done) | (simp; omega) | omega))) | (with_reducible refine Below.trans ?_ (Below.mono hb3 (by first | (simp; done) | (simp; omega) | omega))) | (with_reducible refine Below.trans ?_ (Below.mono hb2 (by first | (simp; done) | (simp; omega) | omega))) | (with_reducible refine Below.trans ?_ (Below.mono b1 (by first | (simp; done) | (simp; omega) | omega)))))
    clear hb2 hb3 hb4 hb5 hb6 b1
    go_wp2_with fail
    go_loopw [8] (fun i wr => i = .int .i64 0 ∧ Below w.heap.size w wr) (fun _ _ => 0)
    case atStart => exact ⟨rfl, C6.out⟩
    case round =>
      obtain ⟨rfl, hbel⟩ := hrel
      have HB := hid hbel
      clear hbel
      go_wp2
      go_ret
      exact ⟨rfl, HB.out⟩

theorem listsAll (a0 : Option Addr) (len0 cap0 : Nat) (z0 : List Int) (w : World) (w0 : IsRow .i64 w a0 len0 cap0 z0) (s0 : cap0 * 8 ≤ 140737488351232) :
    Calls Try.prog 5 #[.slice a0 len0 cap0] w fun e w' => e = .returned (.bool true) ∧ Below w.heap.size w w' := by
  have hlc : len0 ≤ cap0 := by
    rcases w0 with ⟨_, h1, h2, _⟩ | ⟨_, _, h, _⟩
    · omega
    · exact h
  by_cases h0 : len0 = 0
  · subst h0
    refine lists_tail a0 cap0 w ?_
    rcases w0 with ⟨h1, _, h2, _⟩ | ⟨x, h, _⟩
    · exact .inl ⟨h1, h2⟩
    · exact .inr ⟨x, h⟩
  · obtain ⟨p, q, rfl, hp, hl, hz, hc, hw⟩ := w0.at (by omega)
    have hlen : (z0.take len0).length = len0 := by rw [List.length_take]; omega
    exact lists_core p q len0 cap0 (z0.take len0) w (by omega) (by omega) hp (hid hlen) (hid hc) (hid fun x hx => Go.bounds_i64 (hw x (List.mem_of_mem_take hx)))

end Go.Proofs.Ytloedjegmklblaa.LawH
