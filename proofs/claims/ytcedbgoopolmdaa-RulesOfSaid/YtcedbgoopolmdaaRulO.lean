/- The document's numbers of a resource's rules. -/
import Derived.Test.YtcedbgoopolmdaaRulN
namespace Go.Proofs.Ytcedbgoopolmdaa.RulO
open Go.ChangeShapes Go.WideShapes Go.ChangeAt Go.RowKit Base RulA RulB RulC RulD RulE RulF RulG RulH RulM RulN Txt
set_option linter.unusedVariables false

def cntK (n : Nat → Nat) (kd : Nat) : Nat := if 1 ≤ kd ∧ kd ≤ 5 then n (kd - 1) else 0

set_option maxHeartbeats 2000000 in
theorem count_core (a : Nat → Option Addr) (n cap : Nat → Nat) (kd N : Nat) (hkd : kd < 256) (HN : Hid (cntK n kd = N)) (w : World) :
    Calls Try.prog 63 #[.agg #[.slice (a 0) (n 0) (cap 0), .slice (a 1) (n 1) (cap 1), .slice (a 2) (n 2) (cap 2), .slice (a 3) (n 3) (cap 3), .slice (a 4) (n 4) (cap 4)], .int .u8 kd] w fun e w' => e = .returned (.int .i64 N) ∧ Below w.heap.size w w' := by
  by_cases h : 1 ≤ kd ∧ kd ≤ 5
  · rcases (show kd = 1 ∨ kd = 2 ∨ kd = 3 ∨ kd = 4 ∨ kd = 5 by omega) with rfl | rfl | rfl | rfl | rfl <;> (
      clear h
      go_enter Try.func63, Try.ntmps63
      go_wp2_with fail
      go_ret
      exact ⟨ret_int (congrArg (fun x : Nat => (x : Int)) HN.out), (by repeat (first | (with_reducible exact Below.refl _ _) | (with_reducible refine Below.setCell ?_ (by first | (simp; done) | (simp; omega) | omega) _) | (with_reducible refine Below.alloc ?_ (by first | (simp; done) | (simp; omega) | omega) _) | (with_reducible refine Below.drew ?_) | (with_reducible refine below_drewN ?_ _)))⟩)
  · have n1 : ((kd : Int) == 1) = false := by simp; omega
    have n2 : ((kd : Int) == 2) = false := by simp; omega
    have n3 : ((kd : Int) == 3) = false := by simp; omega
    have n4 : ((kd : Int) == 4) = false := by simp; omega
    have n5 : ((kd : Int) == 5) = false := by simp; omega
    have H0 : Hid (N = 0) := hid (by rw [← HN.out]; unfold cntK; rw [if_neg h])
    clear h
    go_enter Try.func63, Try.ntmps63
    go_wp2_with fail
    go_ret
    exact ⟨ret_int (by rw [H0.out]; rfl), (by repeat (first | (with_reducible exact Below.refl _ _) | (with_reducible refine Below.setCell ?_ (by first | (simp; done) | (simp; omega) | omega) _) | (with_reducible refine Below.alloc ?_ (by first | (simp; done) | (simp; omega) | omega) _) | (with_reducible refine Below.drew ?_) | (with_reducible refine below_drewN ?_ _)))⟩

set_option maxRecDepth 20000 in
set_option maxHeartbeats 2000000 in
theorem resource_any (a : Nat → Option Addr) (n cap : Nat → Nat) (C : Nat → Nat → Nat → Value) (R : Nat → Nat → ByteArray) (kd i : Nat) (w : World) (hkd : 1 ≤ kd ∧ kd ≤ 5) (h4 : kd ≠ 4) (hi : i < n (kd - 1)) (hmx : n (kd - 1) ≤ 4000000000000) (h : AllRows w a n C R) :
    Calls Try.prog 78 #[.agg #[.slice (a 0) (n 0) (cap 0), .slice (a 1) (n 1) (cap 1), .slice (a 2) (n 2) (cap 2), .slice (a 3) (n 3) (cap 3), .slice (a 4) (n 4) (cap 4)], .int .u8 kd, .int .i64 i] w fun e w' => e = .returned (.string (R (kd - 1) i)) ∧ Below w.heap.size w w' := by
  obtain ⟨h1, h2⟩ := h (kd - 1) (by omega)
  obtain ⟨g, o, ha, hg, hc⟩ := h1 (by omega)
  have hci := hc i hi 0 (by rcases (show kd - 1 = 0 ∨ kd - 1 = 1 ∨ kd - 1 = 2 ∨ kd - 1 = 4 by omega) with e | e | e | e <;> rw [e] <;> decide)
  rw [h2 (by omega) i hi] at hci
  obtain ⟨r, hr⟩ : ∃ r, R (kd - 1) i = r := ⟨_, rfl⟩
  rw [hr] at hci ⊢
  clear h h1 h2 hc hr
  rcases (show kd = 1 ∨ kd = 2 ∨ kd = 3 ∨ kd = 5 by omega) with rfl | rfl | rfl | rfl
  · have ha' : a 0 = some ⟨g, o, none⟩ := ha
    have c0 : w.cell? ⟨g, o + i * 12, none⟩ = some (.string r) := hci
    have hi' : i < n 0 := hi
    have hmx' : n 0 ≤ 4000000000000 := hmx
    rw [ha']
    clear ha ha' hci hi hmx hkd h4
    go_enter Try.func78, Try.ntmps78
    go_wp2_with fail
    go_ret
    exact ⟨rfl, (by repeat (first | (with_reducible exact Below.refl _ _) | (with_reducible refine Below.setCell ?_ (by first | (simp; done) | (simp; omega) | omega) _) | (with_reducible refine Below.alloc ?_ (by first | (simp; done) | (simp; omega) | omega) _) | (with_reducible refine Below.drew ?_) | (with_reducible refine below_drewN ?_ _)))⟩
  · have ha' : a 1 = some ⟨g, o, none⟩ := ha
    have c0 : w.cell? ⟨g, o + i * 7, none⟩ = some (.string r) := hci
    have hi' : i < n 1 := hi
    have hmx' : n 1 ≤ 4000000000000 := hmx
    rw [ha']
    clear ha ha' hci hi hmx hkd h4
    go_enter Try.func78, Try.ntmps78
    go_wp2_with fail
    go_ret
    exact ⟨rfl, (by repeat (first | (with_reducible exact Below.refl _ _) | (with_reducible refine Below.setCell ?_ (by first | (simp; done) | (simp; omega) | omega) _) | (with_reducible refine Below.alloc ?_ (by first | (simp; done) | (simp; omega) | omega) _) | (with_reducible refine Below.drew ?_) | (with_reducible refine below_drewN ?_ _)))⟩
  · have ha' : a 2 = some ⟨g, o, none⟩ := ha
    have c0 : w.cell? ⟨g, o + i * 5, none⟩ = some (.string r) := hci
    have hi' : i < n 2 := hi
    have hmx' : n 2 ≤ 4000000000000 := hmx
    rw [ha']
    clear ha ha' hci hi hmx hkd h4
    go_enter Try.func78, Try.ntmps78
    go_wp2_with fail
    go_ret
    exact ⟨rfl, (by repeat (first | (with_reducible exact Below.refl _ _) | (with_reducible refine Below.setCell ?_ (by first | (simp; done) | (simp; omega) | omega) _) | (with_reducible refine Below.alloc ?_ (by first | (simp; done) | (simp; omega) | omega) _) | (with_reducible refine Below.drew ?_) | (with_reducible refine below_drewN ?_ _)))⟩
  · have ha' : a 4 = some ⟨g, o, none⟩ := ha
    have c0 : w.cell? ⟨g, o + i * 3, none⟩ = some (.string r) := hci
    have hi' : i < n 4 := hi
    have hmx' : n 4 ≤ 4000000000000 := hmx
    rw [ha']
    clear ha ha' hci hi hmx hkd h4
    go_enter Try.func78, Try.ntmps78
    go_wp2_with fail
    go_ret
    exact ⟨rfl, (by repeat (first | (with_reducible exact Below.refl _ _) | (with_reducible refine Below.setCell ?_ (by first | (simp; done) | (simp; omega) | omega) _) | (with_reducible refine Below.alloc ?_ (by first | (simp; done) | (simp; omega) | omega) _) | (with_reducible refine Below.drew ?_) | (with_reducible refine below_drewN ?_ _)))⟩

/-- what a round adds -/
theorem step_same {R : Nat → Nat → ByteArray} {s : ByteArray} {j i : Nat} {x : Bool} (h : ofB R s j i = x) : RulN.part R s j (i + 1) = RulN.part R s j i ++ (if x then [i] else []) := by rw [part_succ, h]

set_option maxRecDepth 100000 in
set_option maxHeartbeats 4000000 in
theorem RefOf_any (a : Nat → Option Addr) (n cap : Nat → Nat) (C : Nat → Nat → Nat → Value) (R : Nat → Nat → ByteArray) (s : ByteArray) (kd : Nat) (hkd : kd < 256) (w : World) (HR : Hid (AllRows w a n C R)) (HN : Hid (∀ j, j < 5 → n j ≤ 4000000000000)) :
    Calls Try.prog 41 #[.agg #[.slice (a 0) (n 0) (cap 0), .slice (a 1) (n 1) (cap 1), .slice (a 2) (n 2) (cap 2), .slice (a 3) (n 3) (cap 3), .slice (a 4) (n 4) (cap 4)], .int .u8 kd, .string s] w (OfPost n R s kd w) := by
  obtain ⟨i0, hi, hz0, hz1, hz2⟩ := info_parts infoInt
  have HI0 := hid hi; have HZ0 := hid hz0; have HZ1 := hid hz1; have HZ2 := hid hz2
  clear hi hz0 hz1 hz2
  obtain ⟨N, hN⟩ : ∃ N, cntK n kd = N := ⟨_, rfl⟩
  have hNb : N ≤ 4000000000000 := by
    rw [← hN]; unfold cntK; split
    · exact HN.out _ (by omega)
    · omega
  have HCN := hid hN
  have HCT := hid (fun w => count_core a n cap kd N hkd (hid hN) w)
  have HACC : Hid (acc n R s kd 5 = if 1 ≤ kd ∧ kd ≤ 5 then RulN.part R s (kd - 1) N else []) := hid (by
    unfold acc
    by_cases h : 1 ≤ kd ∧ kd ≤ 5
    · rw [if_pos h, if_pos h, ← hN]; unfold cntK; rw [if_pos h]
    · rw [if_neg h, if_neg h])
  clear hN
  have hbox : Below w.heap.size w (w.alloc (.cells #[.slice (a 0) (n 0) (cap 0), .slice (a 1) (n 1) (cap 1), .slice (a 2) (n 2) (cap 2), .slice (a 3) (n 3) (cap 3), .slice (a 4) (n 4) (cap 4)] 75)) := (Below.refl _ w).alloc (Nat.le_refl _) _
  have hzb : w.heap.size < (w.alloc (.cells #[.slice (a 0) (n 0) (cap 0), .slice (a 1) (n 1) (cap 1), .slice (a 2) (n 2) (cap 2), .slice (a 3) (n 3) (cap 3), .slice (a 4) (n 4) (cap 4)] 75)).heap.size := by simp
  have HQ := hid (heap_alloc_new w (.cells #[.slice (a 0) (n 0) (cap 0), .slice (a 1) (n 1) (cap 1), .slice (a 2) (n 2) (cap 2), .slice (a 3) (n 3) (cap 3), .slice (a 4) (n 4) (cap 4)] 75))
  have HB0 := hid hbox
  clear hbox
  go_enter Try.func41, Try.ntmps41
  go_wp2_with fail
  generalize w.alloc (.cells #[.slice (a 0) (n 0) (cap 0), .slice (a 1) (n 1) (cap 1), .slice (a 2) (n 2) (cap 2), .slice (a 3) (n 3) (cap 3), .slice (a 4) (n 4) (cap 4)] 75) = w1 at *
  have hst : In w w1 w1 (.slice none 0 0) (RulN.part R s (kd - 1) 0) := ⟨⟨rfl, .inl ⟨rfl, rfl⟩⟩, (fun g e => (by cases e)), Below.refl _ _⟩
  have HST := hid hst
  clear hst
  go_loopw [7, 8] (fun v i wr => ∃ y : Nat, y ≤ N ∧ i = .int .i64 y ∧ In w w1 wr v (RulN.part R s (kd - 1) y)) (fun _ i _ => N - (intOf i).toNat)
  case atStart => exact ⟨0, Nat.zero_le _, rfl, HST.out⟩
  case round =>
    obtain ⟨y, hy, rfl, hI⟩ := hrel
    obtain ⟨va, vc, rfl⟩ := owns_shape hI.own
    have HI := hid hI
    have hq := (hI.bel.block _ hzb).trans HQ.out
    have k0 := cell_of hq 0 _ rfl
    have k1 := cell_of hq 1 _ rfl
    have k2 := cell_of hq 2 _ rfl
    have k3 := cell_of hq 3 _ rfl
    have k4 := cell_of hq 4 _ rfl
    clear hI HST hq
    by_cases hlty : y < N
    · have hin : 1 ≤ kd ∧ kd ≤ 5 := by
        by_cases h : 1 ≤ kd ∧ kd ≤ 5
        · exact h
        · have := HCN.out; unfold cntK at this; rw [if_neg h] at this; omega
      have hNk : n (kd - 1) = N := by have := HCN.out; unfold cntK at this; rwa [if_pos hin] at this
      have HNK := hid hNk
      have HIN := hid hin
      have hpl := part_len R s (kd - 1) y
      clear hNk hin
      go_wp2_with fail
      refine (HCT.out _).mono ?_
      rintro e w5 ⟨rfl, hb5⟩
      have HI5 := hid (HI.out.below hb5)
      have hq5 := (HI5.out.bel.block _ hzb).trans HQ.out
      clear hb5 HI k0 k1 k2 k3 k4
      have k0 := cell_of hq5 0 _ rfl
      have k1 := cell_of hq5 1 _ rfl
      have k2 := cell_of hq5 2 _ rfl
      have k3 := cell_of hq5 3 _ rfl
      have k4 := cell_of hq5 4 _ rfl
      clear hq5
      by_cases h4 : kd = 4
      · have e4 : ((kd : Int) == 4) = true := by simp; omega
        have HPS : Hid (RulN.part R s (kd - 1) (y + 1) = RulN.part R s (kd - 1) y ++ [y]) := hid (step_same (x := true) (by unfold ofB; rw [if_pos (by omega)]))
        clear h4
        have hi := HI0.out; have hz0 := HZ0.out; have hz1 := HZ1.out; have hz2 := HZ2.out
        have hown1 : (w5.alloc (.cells #[.int .i64 y] 3)).ownsRow w.heap.size 3 1 (.slice va (RulN.part R s (kd - 1) y).length vc) (RulN.part R s (kd - 1) y).length (nums (RulN.part R s (kd - 1) y)) := World.ownsRow.alloc HI5.out.own _
        have hsz : w.heap.size ≤ w5.heap.size := Nat.le_trans HB0.out.size HI5.out.bel.size
        go_wp2_with (at_builtin; (refine wpList_append_own_at _ rfl _ _ 26 rfl w.heap.size 3 i0 (.int .i64 0) 1 8 Try.underlying26 hi hz0 hz1 hz2 rfl (by decide) (Value.slice va (RulN.part R s (kd - 1) y).length vc) _ _ rfl hown1 ⟨w5.heap.size, 0, none⟩ 1 1 [.int .i64 y] rfl ?d1 ?d2 ?d3 ?d4 ?d5 ?d6 ?_); rotate_left 6; intro v6 w6 hown6 hgr6 hnil6 hat6)
        case d1 => rfl
        case d2 => exact cell_one _ _ _
        case d3 => intro u hu; obtain rfl := List.mem_singleton.1 hu; rfl
        case d4 => unfold maxLen; omega
        case d5 => omega
        case d6 => simp; omega
        have HI6 := hid (HI5.out.push hown6 hgr6 hat6)
        clear hown1 hown6 hgr6 hnil6 hat6 hi hz0 hz1 hz2 hsz
        go_wp2_with fail
        go_roundw
        case rel => exact ⟨y + 1, by omega, by go_num, by rw [HPS.out]; exact HI6.out⟩
        case measure => simp [intOf]; omega
      · have e4 : ((kd : Int) == 4) = false := by simp; omega
        have hbw := HB0.out.trans (HI5.out.bel.mono HB0.out.size)
        have HRS := hid (resource_any a n cap C R kd y w5 HIN.out h4 (by rw [HNK.out]; exact hlty) (by rw [HNK.out]; exact hNb) (HR.out.below hbw))
        obtain ⟨r, hr⟩ : ∃ r, R (kd - 1) y = r := ⟨_, rfl⟩
        rw [hr] at HRS
        obtain ⟨x, hx⟩ : ∃ x, decide (r = s) = x := ⟨_, rfl⟩
        have e1 : (r.toList == s.toList) = x := by rw [text_eq]; exact hx
        have HPS := hid (step_same (R := R) (s := s) (j := kd - 1) (i := y) (x := x) (by unfold ofB; rw [if_neg (by have := HIN.out; omega), hr]; exact hx))
        clear hr hx hbw h4
        go_wp2_with fail
        refine HRS.out.mono ?_
        rintro e w7 ⟨rfl, hb7⟩
        have HI7 := hid (HI5.out.below hb7)
        clear hb7 HI5 HRS k0 k1 k2 k3 k4
        cases x with
        | false =>
          go_wp2_with fail
          go_roundw
          case rel => exact ⟨y + 1, by omega, by go_num, by rw [HPS.out]; simpa using HI7.out⟩
          case measure => simp [intOf]; omega
        | true =>
          have hi := HI0.out; have hz0 := HZ0.out; have hz1 := HZ1.out; have hz2 := HZ2.out
          have hown1 : (w7.alloc (.cells #[.int .i64 y] 3)).ownsRow w.heap.size 3 1 (.slice va (RulN.part R s (kd - 1) y).length vc) (RulN.part R s (kd - 1) y).length (nums (RulN.part R s (kd - 1) y)) := World.ownsRow.alloc HI7.out.own _
          have hsz : w.heap.size ≤ w7.heap.size := Nat.le_trans HB0.out.size HI7.out.bel.size
          go_wp2_with (at_builtin; (refine wpList_append_own_at _ rfl _ _ 26 rfl w.heap.size 3 i0 (.int .i64 0) 1 8 Try.underlying26 hi hz0 hz1 hz2 rfl (by decide) (Value.slice va (RulN.part R s (kd - 1) y).length vc) _ _ rfl hown1 ⟨w7.heap.size, 0, none⟩ 1 1 [.int .i64 y] rfl ?d1 ?d2 ?d3 ?d4 ?d5 ?d6 ?_); rotate_left 6; intro v6 w6 hown6 hgr6 hnil6 hat6)
          case d1 => rfl
          case d2 => exact cell_one _ _ _
          case d3 => intro u hu; obtain rfl := List.mem_singleton.1 hu; rfl
          case d4 => unfold maxLen; omega
          case d5 => omega
          case d6 => simp; omega
          have HI6 := hid (HI7.out.push hown6 hgr6 hat6)
          clear hown1 hown6 hgr6 hnil6 hat6 hi hz0 hz1 hz2 hsz
          go_wp2_with fail
          go_roundw
          case rel => exact ⟨y + 1, by omega, by go_num, by rw [HPS.out]; exact HI6.out⟩
          case measure => simp [intOf]; omega
    · obtain rfl : y = N := by omega
      have hd : decide ((y : Int) < y) = false := by simp
      go_wp2_with fail
      refine (HCT.out _).mono ?_
      rintro e w5 ⟨rfl, hb5⟩
      have HI5 := hid (HI.out.below hb5)
      clear hb5 HI k0 k1 k2 k3 k4
      go_wp2_with fail
      go_ret
      exact ⟨_, rfl, by
        rw [HACC.out]
        split
        · exact HI5.out.own
        · rename_i h
          have h0 : y = 0 := by have := HCN.out; unfold cntK at this; rw [if_neg h] at this; omega
          have := HI5.out.own
          rw [h0] at this ⊢
          exact this, HB0.out.trans (HI5.out.bel.mono HB0.out.size)⟩

end Go.Proofs.Ytcedbgoopolmdaa.RulO
