/- Lists of origins, and system rules, looked at: by the program and by the document. -/
import Derived.Test.YtoilakjlnflpbaaLisB
namespace Go.Proofs.Ytoilakjlnflpbaa.LisC
open Go.ChangeShapes Go.WideShapes Go.ChangeAt Go.RowKit Base RulA Txt ValA LisA LisB
set_option linter.unusedVariables false

def listE (res : ByteArray) (ss : List (List UInt8)) : Int := if nameB res && !(ss.any fun x => !nameB (bs x)) then (if inR ss.length 1 32 && decide ss.Nodup then 0 else 34) else 10

set_option maxRecDepth 20000 in
set_option maxHeartbeats 1000000 in
theorem look_core (res : ByteArray) (white : Bool) (a : Option Addr) (n cap : Nat) (b0 b1 b2 b3 : Bool) (r : Int) (R : Hid ((if b0 && !b1 then (if b2 && b3 then (0 : Int) else 34) else 10) = r)) (w : World)
    (H0 : Hid (∀ w, Calls Try.prog 84 #[.string res] w fun e w' => e = .returned (.bool (!b0)) ∧ w = w'))
    (H1 : Hid (∀ w', Below w.heap.size w w' → Calls Try.prog 86 #[.slice a n cap, .func (Fn.func 84) #[] #[]] w' fun e w2 => e = .returned (.bool b1) ∧ w' = w2))
    (H2 : Hid (∀ w, Calls Try.prog 75 #[.int .i64 n, .int .i64 1, .int .i64 32] w fun e w' => e = .returned (.bool b2) ∧ w = w'))
    (H3 : Hid (b2 = true → ∀ w', Below w.heap.size w w' → Calls Try.prog 87 #[.slice a n cap] w' fun e w2 => e = .returned (.bool b3) ∧ Below w'.heap.size w' w2)) :
    Calls Try.prog 66 #[.agg #[.string res, .bool white, .slice a n cap]] w fun e w' => e = .returned (.int .i64 r) ∧ Below w.heap.size w w' := by
  have HB0 : Hid (Below w.heap.size w (w.alloc (.cells #[.string res, .bool white, .slice a n cap] 113))) := hid ((Below.refl _ w).alloc (Nat.le_refl _) _)
  go_enter Try.func66, Try.ntmps66
  cases b0 with
  | false =>
    go_wp2_with fail
    refine (H0.out _).mono ?_
    rintro e w1 ⟨rfl, rfl⟩
    go_wp2_with fail
    go_ret
    exact ⟨ret_int (by rw [← R.out]; rfl), HB0.out⟩
  | true =>
    cases b1 with
    | true =>
      go_wp2_with fail
      refine (H0.out _).mono ?_
      rintro e w1 ⟨rfl, rfl⟩
      go_wp2_with fail
      refine (H1.out _ HB0.out).mono ?_
      rintro e w1 ⟨rfl, rfl⟩
      go_wp2_with fail
      go_ret
      exact ⟨ret_int (by rw [← R.out]; rfl), HB0.out⟩
    | false =>
      cases b2 with
      | false =>
        go_wp2_with fail
        refine (H0.out _).mono ?_
        rintro e w1 ⟨rfl, rfl⟩
        go_wp2_with fail
        refine (H1.out _ HB0.out).mono ?_
        rintro e w1 ⟨rfl, rfl⟩
        go_wp2_with fail
        refine (H2.out _).mono ?_
        rintro e w1 ⟨rfl, rfl⟩
        go_wp2_with fail
        go_ret
        exact ⟨ret_int (by rw [← R.out]; rfl), HB0.out⟩
      | true =>
        go_wp2_with fail
        refine (H0.out _).mono ?_
        rintro e w1 ⟨rfl, rfl⟩
        go_wp2_with fail
        refine (H1.out _ HB0.out).mono ?_
        rintro e w1 ⟨rfl, rfl⟩
        go_wp2_with fail
        refine (H2.out _).mono ?_
        rintro e w1 ⟨rfl, rfl⟩
        go_wp2_with fail
        refine (H3.out (by trivial) _ HB0.out).mono ?_
        rintro e w2 ⟨rfl, hb2⟩
        have HB2 := hid (HB0.out.trans (hb2.mono HB0.out.size))
        clear hb2
        cases b3 <;> (
          go_wp2_with fail
          go_ret
          exact ⟨ret_int (by rw [← R.out]; rfl), HB2.out⟩)

theorem TAt.low {w w' : World} {a : Option Addr} {ss : List (List UInt8)} (h : TAt w w.heap.size a ss) (hb : Below w.heap.size w w') : TAt w' w'.heap.size a ss := (ValA.TAt.below h hb).mono hb.size

set_option maxHeartbeats 1000000 in
theorem List_any (res : ByteArray) (white : Bool) (a : Option Addr) (cap : Nat) (ss : List (List UInt8)) (w : World) (hr : res.size ≤ maxLen) (hss : ss.length ≤ 9223372036854775807) (hL : ∀ x ∈ ss, x.length ≤ maxLen) (hT : TAt w w.heap.size a ss) :
    Calls Try.prog 48 #[.agg #[.string res, .bool white, .slice a ss.length cap]] w fun e w' => e = .returned (.int .i64 (listE res ss)) ∧ Below w.heap.size w w' := by
  have hb0 : Below w.heap.size w (w.alloc (.cells #[.string res, .bool white, .slice a ss.length cap] 57)) := (Below.refl _ w).alloc (Nat.le_refl _) _
  have HC := hid (look_core res white a ss.length cap (nameB res) (ss.any fun x => !nameB (bs x)) (inR ss.length 1 32) (decide ss.Nodup) (listE res ss) (hid rfl) (w.alloc (.cells #[.string res, .bool white, .slice a ss.length cap] 57))
    (hid fun w => isNone_any res w hr) (hid fun w' hb => containsNone_any a cap ss (hid hL) w' hss (hid (TAt.low hT (hb0.trans (hb.mono hb0.size))))) (hid fun w => within_any _ _ _ w)
    (hid fun hb2 w' hb => apart_any a cap ss (by have := inR_iff.1 hb2; omega) w' (hid (TAt.low hT (hb0.trans (hb.mono hb0.size))))))
  obtain ⟨r, hr2⟩ : ∃ r, listE res ss = r := ⟨_, rfl⟩
  rw [hr2] at HC ⊢
  have HB0 := hid hb0
  clear hb0 hr hr2 hT hL hss
  go_enter Try.func48, Try.ntmps48
  go_wp2_with fail
  refine HC.out.mono ?_
  rintro e w1 ⟨rfl, hb1⟩
  have HB1 := hid (HB0.out.trans (hb1.mono HB0.out.size))
  clear hb1 HC
  go_wp2_with fail
  go_ret
  exact ⟨rfl, HB1.out⟩

/-- the document's -/
theorem nodup_not {ss : List (List UInt8)} {i j : Nat} {x : List UInt8} (hij : i < j) (h1 : ss[i]? = some x) (h2 : ss[j]? = some x) : decide ss.Nodup = false := by
  simp only [decide_eq_false_iff_not]
  intro h
  unfold List.Nodup at h
  rw [List.pairwise_iff_getElem] at h
  obtain ⟨a1, b1⟩ := List.getElem?_eq_some_iff.1 h1
  obtain ⟨a2, b2⟩ := List.getElem?_eq_some_iff.1 h2
  exact h i j a1 a2 hij (b1.trans b2.symm)
theorem nodup_yes {ss : List (List UInt8)} (h : ∀ (i j : Nat) x, i < j → ss[i]? = some x → ss[j]? = some x → False) : decide ss.Nodup = true := by
  simp only [decide_eq_true_eq]
  unfold List.Nodup
  rw [List.pairwise_iff_getElem]
  intro i j hi hj hij he
  exact h i j ss[j] hij (by rw [List.getElem?_eq_getElem hi, he]) (List.getElem?_eq_getElem hj)

set_option maxRecDepth 20000 in
set_option maxHeartbeats 2000000 in
theorem rlist_core (res : ByteArray) (white : Bool) (a : Option Addr) (cap : Nat) (ss : List (List UInt8)) (w : World) (HR : Hid (res.size ≤ maxLen)) (hss : ss.length ≤ 9223372036854775807) (HL : Hid (∀ x ∈ ss, x.length ≤ maxLen)) (HT : Hid (TAt w w.heap.size a ss)) :
    Calls Try.prog 50 #[.agg #[.string res, .bool white, .slice a ss.length cap]] w fun e w' => e = .returned (.int .i64 (listE res ss)) ∧ Below w.heap.size w w' := by
  obtain ⟨W, hW⟩ : ∃ W, w.alloc (.cells #[.string res, .bool white, .slice a ss.length cap] 57) = W := ⟨_, rfl⟩
  have HB0 : Hid (Below w.heap.size w W) := hid (by rw [← hW]; exact (Below.refl _ w).alloc (Nat.le_refl _) _)
  have HC : Hid (W.cell? ⟨w.heap.size, 0, none⟩ = some (.string res) ∧ W.cell? ⟨w.heap.size, 2, none⟩ = some (.slice a ss.length cap)) := hid (by rw [← hW]; exact ⟨by simp [World.cell?_alloc_new], by simp [World.cell?_alloc_new]⟩)
  have HT1 : Hid (TAt W w.heap.size a ss) := hid (HT.out.below HB0.out)
  obtain ⟨b0, hb0⟩ : ∃ b, nameB res = b := ⟨_, rfl⟩
  have H0 := hid (rname_any res W HR.out)
  rw [hb0] at H0
  have HB := hid hb0
  clear hb0
  obtain ⟨c0, c2⟩ := HC.out
  go_enter Try.func50, Try.ntmps50
  cases b0 with
  | false =>
    go_wp2_with fail
    refine H0.out.mono ?_
    rintro e w1 ⟨rfl, rfl⟩
    go_wp2_with fail
    go_ret
    exact ⟨ret_int (by unfold listE; rw [HB.out]; rfl), HB0.out⟩
  | true =>
    go_wp2_with fail
    refine H0.out.mono ?_
    rintro e w1 ⟨rfl, rfl⟩
    clear hW
    obtain ⟨n, hn⟩ : ∃ n, ss.length = n := ⟨_, rfl⟩
    rw [hn] at c2 hss
    have HN := hid hn
    obtain ⟨p, hp⟩ : ∃ p, w.heap.size = p := ⟨_, rfl⟩
    rw [hp] at c0 c2 HB0 HT1
    have HP := hid hp
    rw [hp]
    clear hn hp H0
    go_wp2_with fail
    go_loopw [3] (fun i wr => ∃ k : Nat, k ≤ n ∧ i = .int .i64 k ∧ (∀ (j : Nat) y, j < k → ss[j]? = some y → nameB (bs y) = true) ∧ W = wr) (fun i _ => n - (intOf i).toNat)
    case atStart => exact ⟨0, Nat.zero_le _, rfl, fun j y h => by omega, rfl⟩
    case round =>
      obtain ⟨k, hk, rfl, hno, rfl⟩ := hrel
      have HNo := hid hno
      clear hno
      by_cases hlt : k < n
      · obtain ⟨g, o, rfl, hg, hc⟩ := HT1.out (by rw [HN.out]; omega)
        obtain ⟨x, hx⟩ : ∃ x, ss[k]? = some x := ⟨ss[k]'(by rw [HN.out]; exact hlt), List.getElem?_eq_getElem _⟩
        have x0 : W.cell? ⟨g, o + k, none⟩ = some (.string ⟨x.toArray⟩) := hc k x hx
        have HX := hid hx
        clear hc
        obtain ⟨b, hb⟩ : ∃ b, nameB (bs x) = b := ⟨_, rfl⟩
        have HA := hid (rname_any (bs x) W (by rw [bs_size]; exact HL.out x (List.mem_of_getElem? hx)))
        rw [hb] at HA
        have HBb := hid hb
        clear hb hx
        cases b with
        | true =>
          go_wp2_with fail
          refine HA.out.mono ?_
          rintro e w2 ⟨rfl, rfl⟩
          go_wp2_with fail
          go_roundw
          case rel => exact ⟨k + 1, by omega, by go_num, fun j y h1 h2 => (by
            rcases Nat.lt_or_ge j k with e | e
            · exact HNo.out j y e h2
            · obtain rfl : j = k := by omega
              rw [HX.out] at h2; cases h2; exact HBb.out), (by trivial)⟩
          case measure => simp [intOf]; omega
        | false =>
          have HE : Hid (listE res ss = 10) := hid (by
            have h1 : (ss.any fun x => !nameB (bs x)) = true := List.any_eq_true.2 ⟨x, List.mem_of_getElem? HX.out, by rw [HBb.out]; rfl⟩
            unfold listE
            rw [h1, HB.out]; rfl)
          go_wp2_with fail
          refine HA.out.mono ?_
          rintro e w2 ⟨rfl, rfl⟩
          go_wp2_with fail
          go_ret
          exact ⟨ret_int HE.out.symm, by rw [HP.out]; exact HB0.out⟩
      · obtain rfl : k = n := by omega
        have HE : Hid (listE res ss = if inR k 1 32 && decide ss.Nodup then 0 else 34) := hid (by
          have h1 : (ss.any fun x => !nameB (bs x)) = false := by
            rw [List.any_eq_false]
            intro x hx
            obtain ⟨i, hi, rfl⟩ := List.getElem_of_mem hx
            rw [HNo.out i ss[i] (by rw [← HN.out]; exact hi) (List.getElem?_eq_getElem hi)]; simp
          unfold listE
          rw [h1, HB.out, HN.out]; rfl)
        obtain ⟨b2, hb2⟩ : ∃ b, inR k 1 32 = b := ⟨_, rfl⟩
        have HI := hid (in_any k 1 32 W)
        rw [hb2] at HI HE
        clear hb2 HNo HB
        cases b2 with
        | false =>
          go_wp2_with fail
          refine HI.out.mono ?_
          rintro e w2 ⟨rfl, rfl⟩
          go_wp2_with fail
          go_ret
          exact ⟨ret_int (by rw [HE.out]; rfl), by rw [HP.out]; exact HB0.out⟩
        | true =>
          go_wp2_with fail
          refine HI.out.mono ?_
          rintro e w2 ⟨rfl, rfl⟩
          clear HI
          go_wp2_with fail
          go_loopw [4] (fun i wr => ∃ j m : Nat, j ≤ k ∧ i = .int .i64 j ∧ (∀ (i1 j1 : Nat) x, i1 < j1 → j1 < j → ss[i1]? = some x → ss[j1]? = some x → False) ∧ W.drewN m = wr) (fun i _ => k - (intOf i).toNat)
          case atStart => exact ⟨0, 0, Nat.zero_le _, rfl, fun i1 j1 x h1 h2 => by omega, rfl⟩
          case round =>
            obtain ⟨j, m, hj, rfl, hno, hwr⟩ := hrel
            have HNo := hid hno
            have d2 : wr.cell? ⟨p, 2, none⟩ = some (.slice a k cap) := by rw [← hwr]; exact c2
            have HW := hid hwr
            clear hno c2 c0 hwr
            by_cases hlt2 : j < k
            · generalize wr = wz at *
              obtain ⟨y, hy⟩ : ∃ y, ss[j]? = some y := ⟨ss[j]'(by rw [HN.out]; exact hlt2), List.getElem?_eq_getElem _⟩
              have HY := hid hy
              clear hy
              go_wp2_with fail
              go_loopw [5] (fun i wr => ∃ q m : Nat, q ≤ j ∧ i = .int .i64 q ∧ (∀ (i1 : Nat) x, i1 < q → ss[i1]? = some x → x = y → False) ∧ W.drewN m = wr) (fun i _ => j - (intOf i).toNat)
              case atStart => exact ⟨0, m, Nat.zero_le _, rfl, fun i1 x h1 => by omega, HW.out⟩
              case round =>
                obtain ⟨q, m2, hq, rfl, hno2, hwr2⟩ := hrel
                have HNo2 := hid hno2
                have d3 : wr.cell? ⟨p, 2, none⟩ = some (.slice a k cap) := by
                  have h := HC.out.2
                  rw [HP.out, HN.out] at h
                  rw [← hwr2]
                  exact h
                by_cases hlt3 : q < j
                · obtain ⟨g, o, rfl, hg, hc⟩ := HT1.out (by rw [HN.out]; omega)
                  obtain ⟨x, hx⟩ : ∃ x, ss[q]? = some x := ⟨ss[q]'(by rw [HN.out]; omega), List.getElem?_eq_getElem _⟩
                  have x0 : wr.cell? ⟨g, o + q, none⟩ = some (.string ⟨x.toArray⟩) := by rw [← hwr2]; exact hc q x hx
                  have y0 : wr.cell? ⟨g, o + j, none⟩ = some (.string ⟨y.toArray⟩) := by rw [← hwr2]; exact hc j y HY.out
                  have HX := hid hx
                  have HW2 := hid hwr2
                  have hqk : q < k := by omega
                  clear hc hno2 hwr2 hx d2
                  cases hd : (x == y) with
                  | true =>
                    have HE2 : Hid (decide ss.Nodup = false) := hid (nodup_not hlt3 HX.out (by rw [HY.out, ← (beq_iff_eq.1 hd)]))
                    go_wp2_with fail
                    go_quiet (fail)
                    go_wp2_with fail
                    go_ret
                    exact ⟨ret_int (by rw [HE.out, HE2.out]; rfl), by rw [HP.out, ← HW2.out, World.drewN_drewN]; exact below_drewN HB0.out _⟩
                  | false =>
                    have HE2 : Hid (x ≠ y) := hid (by simpa using hd)
                    go_wp2_with fail
                    go_quiet (fail)
                    go_wp2_with fail
                    go_roundw
                    case rel => exact ⟨q + 1, m2 + _, by omega, by go_num, fun i1 z h1 h2 h3 => (by
                      rcases Nat.lt_or_ge i1 q with e | e
                      · exact HNo2.out i1 z e h2 h3
                      · obtain rfl : i1 = q := by omega
                        rw [HX.out] at h2; cases h2; exact HE2.out h3), by rw [← HW2.out, World.drewN_drewN]⟩
                    case measure => simp [intOf]; omega
                · obtain rfl : q = j := by omega
                  have HW2 := hid hwr2
                  clear hno2 hwr2
                  go_wp2_with fail
                  go_roundw
                  case rel => exact ⟨q + 1, m2, by omega, by go_num, fun i1 j1 z h1 h2 h3 h4 => (by
                    rcases Nat.lt_or_ge j1 q with e | e
                    · exact HNo.out i1 j1 z h1 e h3 h4
                    · obtain rfl : j1 = q := by omega
                      rw [HY.out] at h4
                      exact HNo2.out i1 z h1 h3 (Option.some.inj h4).symm), HW2.out⟩
                  case measure => simp [intOf]; omega
            · obtain rfl : j = k := by omega
              have HE2 : Hid (decide ss.Nodup = true) := hid (nodup_yes fun i1 j1 x h1 h2 h3 => HNo.out i1 j1 x h1 (by have := (List.getElem?_eq_some_iff.1 h3).1; rw [HN.out] at this; exact this) h2 h3)
              go_wp2_with fail
              go_ret
              exact ⟨ret_int (by rw [HE.out, HE2.out]; rfl), by rw [HP.out, ← HW.out]; exact below_drewN HB0.out _⟩

end Go.Proofs.Ytoilakjlnflpbaa.LisC
