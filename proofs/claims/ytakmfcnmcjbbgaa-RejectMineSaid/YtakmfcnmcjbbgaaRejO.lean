/- The document's numbers. -/
import Derived.Test.YtakmfcnmcjbbgaaRejN
import Derived.Test.YtakmfcnmcjbbgaaRejC
import Derived.Test.YtakmfcnmcjbbgaaRejI
import Derived.BigQuiet
import Derived.Deep.RegionHeld3
import Derived.Deep.AppendLies
namespace Go.Proofs.Ytakmfcnmcjbbgaa.RejO
set_option linter.unusedVariables false
open Go.ChangeShapes Go.WideShapes Go.ChangeAt Go.RowKit Base RejA RejB RejC RejD RejE RejF RejM RejN Txt

theorem low_of {b : Bool} {v x : Int} (h : decide (x < v) = b) : (x < v) ∨ ¬ (x < v) := by omega

set_option maxRecDepth 100000 in
set_option maxHeartbeats 4000000 in
theorem RLeast_core (a a2 : Option Addr) (n cap n2 cap2 : Nat) (L : Nat → Flow) (f : Nat → Int) (w : World) (hn : n ≤ 9223372036854775807) (hn2 : n2 ≤ 9223372036854775806) (HF : Hid (Flows w a n L)) (HI : Hid (IAt w a2 n2 f)) :
    Calls Try.prog 14 #[.slice a n cap, .slice a2 n2 cap2] w fun e w' => e = .returned (.tuple #[.int .i64 (leastV (picks n L f n2)).1, .bool (leastV (picks n L f n2)).2]) ∧ Below w.heap.size w w' := by
  go_enter Try.func14, Try.ntmps14
  go_wp2_with fail
  go_loopw [6, 7, 8] (fun s6 s7 s8 wr => ∃ k : Nat, k ≤ n2 ∧ s8 = .int .i64 k ∧ (∃ v s, s6 = .int .i64 v ∧ s7 = .bool s ∧ leastV (picks n L f k) = (v, s)) ∧ Below w.heap.size w wr) (fun s6 s7 s8 _ => n2 - (intOf s8).toNat)
  case atStart => exact ⟨0, Nat.zero_le _, rfl, ⟨0, false, rfl, rfl, rfl⟩, Below.refl _ _⟩
  case round =>
    obtain ⟨k, hk, rfl, ⟨v, s, rfl, rfl, hvs⟩, hb⟩ := hrel
    have HVS := hid hvs
    have HB := hid hb
    have HFr := hid (HF.out.below hb)
    clear hvs
    by_cases hlt : k < n2
    · obtain ⟨g2, o2, rfl, hg2, hc2⟩ := HI.out (by omega)
      have x0 : wr.cell? ⟨g2, o2 + k, none⟩ = some (.int .i64 (f k)) := (hb.cell (p := ⟨g2, o2 + k, none⟩) hg2).trans (hc2 k hlt)
      clear hc2 hb hg2
      have hki : (k : Int) < n2 := by omega
      have HMN : Hid (inR n (f k) = false → leastV (picks n L f (k + 1)) = (v, s)) := hid fun h => by rw [picks_no h]; exact HVS.out
      have HMY : Hid (inR n (f k) = true → leastV (picks n L f (k + 1)) = stepL (v, s) (L (f k).toNat)) := hid fun h => by rw [picks_yes h, leastV_snoc, HVS.out]
      generalize f k = z at *
      by_cases hz0 : z < 0
      · have d1 : decide (z < 0) = true := by simpa using hz0
        have HM := hid (HMN.out (by unfold inR; rw [decide_eq_false (show ¬ 0 ≤ z by omega)]; rfl))
        clear HMN HMY
        go_wp2_with fail
        go_roundw
        case rel => exact ⟨k + 1, by omega, by go_num, ⟨v, s, rfl, rfl, HM.out⟩, HB.out⟩
        case measure => simp [intOf]; omega
      · have d1 : decide (z < 0) = false := by simpa using hz0
        by_cases hzn : (n : Int) ≤ z
        · have d2 : decide (z ≥ (n : Int)) = true := by simpa using hzn
          have d3 : decide ((n : Int) ≤ z) = true := by simpa using hzn
          have HM := hid (HMN.out (by unfold inR; rw [decide_eq_false (show ¬ z < n by omega), Bool.and_false]))
          clear HMN HMY
          go_wp2_with fail
          go_roundw
          case rel => exact ⟨k + 1, by omega, by go_num, ⟨v, s, rfl, rfl, HM.out⟩, HB.out⟩
          case measure => simp [intOf]; omega
        · have HM := hid (HMY.out (by unfold inR; rw [decide_eq_true (show z < n by omega), decide_eq_true (show 0 ≤ z by omega)]; rfl))
          obtain ⟨i, rfl⟩ : ∃ i : Nat, z = i := ⟨z.toNat, by omega⟩
          have d2 : decide ((i : Int) ≥ (n : Int)) = false := by simp; omega
          have d3 : decide ((n : Int) ≤ (i : Int)) = false := by simp; omega
          have d4 : decide (n ≤ i) = false := by simp; omega
          rw [Int.toNat_natCast] at HM
          obtain ⟨g, o, rfl, hg, hc⟩ := HFr.out.at_ (by omega)
          have hc := hc i (by omega)
          have hin : (i : Int) < n := by omega
          have hi0 : (0 : Int) ≤ (i : Int) := by omega
          have hiN : i < n := by omega
          obtain ⟨F, hF⟩ : ∃ F, L i = F := ⟨_, rfl⟩
          rw [hF] at hc HM
          have c1 : wr.cell? ⟨g, o + i * 12 + 1, none⟩ = some (.string F.org) := hc 1 _ rfl
          have c2 : wr.cell? ⟨g, o + i * 12 + 2, none⟩ = some (.bool F.thr) := hc 2 _ rfl
          have c3 : wr.cell? ⟨g, o + i * 12 + 3, none⟩ = some (.int .i64 F.cnt) := hc 3 _ rfl
          have c4 : wr.cell? ⟨g, o + i * 12 + 4, none⟩ = some (.int .u8 F.strat) := hc 4 _ rfl
          have c6 : wr.cell? ⟨g, o + i * 12 + 6, none⟩ = some (.int .u8 F.shape) := hc 6 _ rfl
          clear hc HMN HMY
          have HPB : Hid (plainB F = (decide (F.strat = 0) && decide (F.org = dft) && decide (F.shape = 0) && !F.thr)) := hid rfl
          obtain ⟨b1, hb1⟩ : ∃ b, decide (F.strat = 0) = b := ⟨_, rfl⟩
          obtain ⟨b2, hb2⟩ : ∃ b, decide (F.org = dft) = b := ⟨_, rfl⟩
          obtain ⟨b3, hb3⟩ : ∃ b, decide (F.shape = 0) = b := ⟨_, rfl⟩
          obtain ⟨b4, hb4⟩ : ∃ b, F.thr = b := ⟨_, rfl⟩
          rw [hb1, hb2, hb3, hb4] at HPB
          rw [hb4] at c2
          have e1 : ((F.strat : Int) == 0) = b1 := by rw [← hb1, Bool.eq_iff_iff]; simp
          have e1' : ((F.strat : Int) != 0) = !b1 := by rw [← e1]; rfl
          have e2 : (F.org.toList == [100, 101, 102, 97, 117, 108, 116]) = b2 := by rw [eq_dft]; exact hb2
          have e2' : (F.org.toList != [100, 101, 102, 97, 117, 108, 116]) = !b2 := by rw [← e2]; rfl
          have e3 : ((F.shape : Int) == 0) = b3 := by rw [← hb3, Bool.eq_iff_iff]; simp
          have e3' : ((F.shape : Int) != 0) = !b3 := by rw [← e3]; rfl
          clear hb1 hb2 hb3 hb4
          cases hp : plainB F with
          | false =>
            have HNO := hid (HM.out.trans (stepL_no hp))
            clear HM
            rw [hp] at HPB
            cases b1 with
            | false =>
              go_wp2_with fail
              go_roundw
              case rel => exact ⟨k + 1, by omega, by go_num, ⟨v, s, rfl, rfl, HNO.out⟩, HB.out⟩
              case measure => simp [intOf]; omega
            | true =>
              cases b2 with
              | false =>
                go_wp2_with fail
                go_roundw
                case rel => exact ⟨k + 1, by omega, by go_num, ⟨v, s, rfl, rfl, HNO.out⟩, HB.out⟩
                case measure => simp [intOf]; omega
              | true =>
                cases b3 with
                | false =>
                  go_wp2_with fail
                  go_roundw
                  case rel => exact ⟨k + 1, by omega, by go_num, ⟨v, s, rfl, rfl, HNO.out⟩, HB.out⟩
                  case measure => simp [intOf]; omega
                | true =>
                  cases b4 with
                  | false => exact absurd HPB.out (by simp)
                  | true =>
                    go_wp2_with fail
                    go_roundw
                    case rel => exact ⟨k + 1, by omega, by go_num, ⟨v, s, rfl, rfl, HNO.out⟩, HB.out⟩
                    case measure => simp [intOf]; omega
          | true =>
            obtain ⟨rfl, rfl, rfl, rfl⟩ : b1 = true ∧ b2 = true ∧ b3 = true ∧ b4 = false := by
              have := HPB.out
              rw [hp] at this
              revert this
              cases b1 <;> cases b2 <;> cases b3 <;> cases b4 <;> simp
            cases s with
            | false =>
              have HNO := hid (HM.out.trans (stepL_first hp))
              clear HM hp
              go_wp2_with fail
              go_roundw
              case rel => exact ⟨k + 1, by omega, by go_num, ⟨_, _, rfl, rfl, HNO.out⟩, HB.out⟩
              case measure => simp [intOf]; omega
            | true =>
              cases hd : decide (F.cnt < v) with
              | true =>
                have HNO := hid (HM.out.trans (stepL_less hp hd))
                clear HM hp
                go_wp2_with fail
                go_roundw
                case rel => exact ⟨k + 1, by omega, by go_num, ⟨_, _, rfl, rfl, HNO.out⟩, HB.out⟩
                case measure => simp [intOf]; omega
              | false =>
                have HNO := hid (HM.out.trans (stepL_more hd))
                clear HM hp
                go_wp2_with fail
                go_roundw
                case rel => exact ⟨k + 1, by omega, by go_num, ⟨_, _, rfl, rfl, HNO.out⟩, HB.out⟩
                case measure => simp [intOf]; omega
    · obtain rfl : k = n2 := by omega
      clear hb
      go_wp2_with fail
      go_ret2
      exact ⟨by rw [HVS.out]; rfl, HB.out⟩

end Go.Proofs.Ytakmfcnmcjbbgaa.RejO
