/- LruPlays, where there is no map; all of it. -/
import Derived.Test.YtkdldcigooiljaaLruZ
namespace Go.Proofs.Ytkdldcigooiljaa.LruZb
open Go.ChangeShapes Go.WideShapes Go.ChangeAt Go.RowKit Go.Deep Base Wri LruA LruB LruC LruD LruE LruF LruL LruR LruU LruV LruW LruX LruY RefL RefM RefN RefO RefP

set_option maxRecDepth 100000 in
set_option maxHeartbeats 4000000 in
theorem plays_no (most : Int) (hm : ¬ (1 ≤ most ∧ most ≤ 4096)) (a : Option Addr) (len cap : Nat) (D : Nat → Deed) (sv : Value) (hsv : sv = .slice a len cap) (w : World) (HC : Hid (Deeds w a len D)) :
    Calls Try.prog 4 #[.int .i64 most, sv] w fun e w' => e = .returned (.bool true) ∧ Below w.heap.size w w' := by
  have HSV := hid hsv
  have HM1 := hid (new_no most w hm)
  have HM2 := hid (rnew_no most w hm)
  clear hsv hm
  go_enter Try.func4, Try.ntmps4
  go_wp2_with fail
  refine HM1.out.mono ?_
  rintro e w1 ⟨rfl, rfl⟩
  go_wp2_with fail
  refine HM2.out.mono ?_
  rintro e w1 ⟨rfl, rfl⟩
  clear HM1 HM2
  have HLv := hid (live_look w)
  go_wp2_with fail
  refine HLv.out.mono ?_
  rintro e wl ⟨rfl, hbl⟩
  have HB0 := hid hbl
  clear hbl HLv
  go_wp2_with fail
  refine (LruT.fork_nil wl).mono ?_
  rintro e w1 ⟨rfl, rfl⟩
  go_wp2_with fail
  refine (rfork_nil wl).mono ?_
  rintro e w1 ⟨rfl, rfl⟩
  go_wp2_with fail
  go_loopw [9, 10, 11] (fun g s i wr => ∃ k : Nat, k ≤ len ∧ k ≤ 200 ∧ g = .pointer none ∧ s = .pointer none ∧ i = .int .i64 k ∧ Below w.heap.size w wr) (fun _ _ i _ => len - (intOf i).toNat)
  case atStart => exact ⟨0, Nat.zero_le _, by omega, rfl, rfl, rfl, HB0.out⟩
  case round =>
    clear HB0
    obtain ⟨k, hk, hk1, rfl, rfl, rfl, hB⟩ := hrel
    have hlen := HC.out.1
    have HB := hid hB
    clear hB
    have hsv2 := HSV.out
    by_cases hlt : k < len
    · by_cases hlt1 : k < 200
      · obtain ⟨p, q, rfl, hp, hc⟩ := HC.out.2.1 (by omega)
        have hcc := hc k hlt
        have c0 : wr.cell? ⟨p, q + k * 4, none⟩ = some (.int .i64 (D k).kind) := (HB.out.cell (p := ⟨p, q + k * 4, none⟩) hp).trans (hcc 0 _ rfl)
        have c1 : wr.cell? ⟨p, q + k * 4 + 1, none⟩ = some (.string (D k).key) := (HB.out.cell (p := ⟨p, q + k * 4 + 1, none⟩) hp).trans (hcc 1 _ rfl)
        have c2 : wr.cell? ⟨p, q + k * 4 + 2, none⟩ = some (.int .i64 (D k).val) := (HB.out.cell (p := ⟨p, q + k * 4 + 2, none⟩) hp).trans (hcc 2 _ rfl)
        have c3 : wr.cell? ⟨p, q + k * 4 + 3, none⟩ = some (.slice (D k).a (D k).n (D k).cap) := (HB.out.cell (p := ⟨p, q + k * 4 + 3, none⟩) hp).trans (hcc 3 _ rfl)
        obtain ⟨_, hDn, _, hDf⟩ := HC.out.2.2 k hlt
        have HDO := hid (do_nil (D k).kind (D k).key (D k).val (D k).a (D k).n (D k).cap (D k).f wr hDn (fun h0 => by
          obtain ⟨g, o, e, hg, hcc⟩ := hDf h0
          exact ⟨g, o, e, Nat.lt_of_lt_of_le hg HB.out.size, fun i hi => (HB.out.cell (p := ⟨g, o + i, none⟩) hg).trans (hcc i hi)⟩))
        clear hc hcc hDn hDf
        subst hsv2
        unfold dv at *
        by_cases hmid : k = len / 2
        · subst hmid
          go_wp2_with fail
          refine (LruT.fork_nil wr).mono ?_
          rintro e w3 ⟨rfl, rfl⟩
          go_wp2_with fail
          refine (rfork_nil wr).mono ?_
          rintro e w3 ⟨rfl, rfl⟩
          go_wp2_with fail
          refine HDO.out.mono ?_
          rintro e w3 ⟨rfl, hb3⟩
          have HB3 := hid (HB.out.trans (hb3.mono HB.out.size))
          clear hb3 HDO c0 c1 c2 c3
          go_wp2_with fail
          refine (keys_nil w3).mono ?_
          rintro e w4 ⟨rfl, rfl⟩
          go_wp2_with fail
          refine (rkeys_nil w3).mono ?_
          rintro e w4 ⟨rfl, rfl⟩
          go_wp2_with fail
          refine (Sam.same_none none none 0 0 w3).mono ?_
          rintro e w4 ⟨rfl, m4, hw4⟩
          have HB4 : Hid (Below w.heap.size w w4) := hid (by rw [← hw4]; exact below_drewN HB3.out _)
          clear hw4
          go_wp2_with fail
          refine (len_nil w4).mono ?_
          rintro e w5 ⟨rfl, rfl⟩
          go_wp2_with fail
          refine (rlen_nil w4).mono ?_
          rintro e w5 ⟨rfl, rfl⟩
          go_wp2_with fail
          refine (most_nil w4).mono ?_
          rintro e w5 ⟨rfl, rfl⟩
          go_wp2_with fail
          refine (rmost_nil w4).mono ?_
          rintro e w5 ⟨rfl, rfl⟩
          go_wp2_with fail
          go_roundw
          case rel => exact ⟨len / 2 + 1, by omega, by omega, rfl, rfl, by go_num, HB4.out⟩
          case measure => simp [intOf]; omega
        · have hmq : ((k : Int) == (len : Int) / 2) = false := by simp; omega
          go_wp2_with fail
          refine HDO.out.mono ?_
          rintro e w3 ⟨rfl, hb3⟩
          have HB3 := hid (HB.out.trans (hb3.mono HB.out.size))
          clear hb3 HDO c0 c1 c2 c3
          go_wp2_with fail
          refine (keys_nil w3).mono ?_
          rintro e w4 ⟨rfl, rfl⟩
          go_wp2_with fail
          refine (rkeys_nil w3).mono ?_
          rintro e w4 ⟨rfl, rfl⟩
          go_wp2_with fail
          refine (Sam.same_none none none 0 0 w3).mono ?_
          rintro e w4 ⟨rfl, m4, hw4⟩
          have HB4 : Hid (Below w.heap.size w w4) := hid (by rw [← hw4]; exact below_drewN HB3.out _)
          clear hw4
          go_wp2_with fail
          refine (len_nil w4).mono ?_
          rintro e w5 ⟨rfl, rfl⟩
          go_wp2_with fail
          refine (rlen_nil w4).mono ?_
          rintro e w5 ⟨rfl, rfl⟩
          go_wp2_with fail
          refine (most_nil w4).mono ?_
          rintro e w5 ⟨rfl, rfl⟩
          go_wp2_with fail
          refine (rmost_nil w4).mono ?_
          rintro e w5 ⟨rfl, rfl⟩
          go_wp2_with fail
          go_roundw
          case rel => exact ⟨k + 1, by omega, by omega, rfl, rfl, by go_num, HB4.out⟩
          case measure => simp [intOf]; omega
      · have hh : 200 ≤ k := by omega
        subst hsv2
        go_wp2_with fail
        refine (keys_nil wr).mono ?_
        rintro e w4 ⟨rfl, rfl⟩
        go_wp2_with fail
        refine (rkeys_nil wr).mono ?_
        rintro e w4 ⟨rfl, rfl⟩
        go_wp2_with fail
        refine (Sam.same_none none none 0 0 wr).mono ?_
        rintro e w4 ⟨rfl, m4, rfl⟩
        go_wp2_with fail
        go_ret
        exact ⟨rfl, below_drewN HB.out _⟩
    · have hh : len ≤ k := by omega
      subst hsv2
      go_wp2_with fail
      refine (keys_nil wr).mono ?_
      rintro e w4 ⟨rfl, rfl⟩
      go_wp2_with fail
      refine (rkeys_nil wr).mono ?_
      rintro e w4 ⟨rfl, rfl⟩
      go_wp2_with fail
      refine (Sam.same_none none none 0 0 wr).mono ?_
      rintro e w4 ⟨rfl, m4, rfl⟩
      go_wp2_with fail
      go_ret
      exact ⟨rfl, below_drewN HB.out _⟩

theorem main {H : Type} {enc : TypeId × Value → H} {W : World} {base : Nat} {spare : Nat → Bool} {held : Bool} {d : DataW H} {p : List MemPlace} (a0 : Int) (w0 : (Lit.int .i64 a0).wf = true) (a1 : Option Addr) (len1 cap1 : Nat)
    (h1 : DataW.Trod enc Try.prog W base spare held 22 (.slice a1 len1 cap1) d p) :
    Calls Try.prog 4 #[.int .i64 a0, .slice a1 len1 cap1] W fun e w' => e = .returned (.bool true) ∧ Below W.heap.size W w' := by
  obtain ⟨D, hD⟩ := deeds_of h1
  by_cases h : 1 ≤ a0 ∧ a0 ≤ 4096
  · obtain ⟨m, rfl⟩ : ∃ m : Nat, a0 = m := ⟨a0.toNat, by omega⟩
    exact LruZ.plays_yes m (by omega) (by omega) a1 len1 cap1 D _ rfl W (hid hD)
  · exact plays_no a0 h a1 len1 cap1 D _ rfl W (hid hD)

end Go.Proofs.Ytkdldcigooiljaa.LruZb
