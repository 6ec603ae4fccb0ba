/- TopCounted. -/
import Derived.Test.YtopljjmbekpdmaaCouA
import Derived.Test.YtopljjmbekpdmaaOpnS
import Derived.Deep.QuietTactic
import Derived.BigQuiet
namespace Go.Proofs.Ytopljjmbekpdmaa.CouB
open Go.ChangeShapes Go.WideShapes Go.ChangeAt Go.RowKit Go.Deep Base Wri Map LruA LruB LruC LruD LruE LruF SkK SkA SkB SkC SkD SkE SkF SkG SkL SkM SkQ SkX CouA
set_option linter.unusedVariables false

def sX (sd : Nat) : Shp := ⟨1000, 10, 4, 64, sd⟩
theorem sok (sd : Nat) : Ok (sX sd) 100 := ⟨(by decide : (1000 : Nat) ≤ 1099511627776), (by decide : (0 : Nat) < 10), (by decide : (10 : Nat) ≤ 60), (by decide : (1 : Nat) ≤ 4), (by decide : (4 : Nat) ≤ 8), (by decide : (1 : Nat) ≤ 64), (by decide : (64 : Nat) ≤ 4096), (by decide : (1000 : Nat) / 10 = 100), (by decide : (1000 : Nat) = 100 * 10), (by decide : (0 : Nat) < 100)⟩

set_option maxRecDepth 100000 in
set_option maxHeartbeats 4000000 in
theorem counted_core (most : Nat) (hmo : most < 256) (a : Option Addr) (len cap : Nat) (hl : len ≤ 9223372036854775807) (f : Nat → ByteArray) (w : World) (HS : Hid (∀ i, i < len → (f i).size ≤ maxLen)) (HA : Hid (0 < len → ∃ g o, a = some ⟨g, o, none⟩ ∧ g < w.heap.size ∧ ∀ i, i < len → w.cell? ⟨g, o + i, none⟩ = some (.string (f i)))) :
    Calls Try.prog 7 #[.int .u8 most, .slice a len cap] w fun e w' => e = .returned (.bool true) ∧ Below w.heap.size w w' := by
  have hN := new_yes (1 + most % 8) w (by omega) (by omega)
  rw [show ((1 + most % 8 : Nat) : Int) = 1 + (most : Int) % 8 by omega] at hN
  have HN := hid hN
  clear hN
  unfold ptr at HN
  go_enter Try.func7, Try.ntmps7
  go_wp2_with fail
  refine HN.out.mono ?_
  rintro e w1 ⟨S, rfl, hm, hlr, hb1, hup⟩
  have HL := hid hlr
  have HB1 := hid hb1
  have HUP := hid hup
  have HK := hid (New_yes (sX most) 100 (sok most) w1)
  unfold sX at HK
  dsimp only at HK
  clear HN hm hlr hb1 hup
  go_wp2_with fail
  refine HK.out.mono ?_
  rintro e w2 ⟨p, rfl, hp, hf, hb2⟩
  have hst : J w (w2.alloc (.map #[] 0)) S [] p none (sX most) 100 [] [] (fun _ => 0) w2.heap.size (fun _ => none) 0 := by
    have hal : Below w2.heap.size w2 (w2.alloc (.map #[] 0)) := (Below.refl _ _).alloc (Nat.le_refl _) _
    have hft : ∀ k, Ft p none [] (fun _ => 0) k → k = p := fun k hk => by
      rcases hk with e | e | ⟨b, hb', _⟩
      · exact e
      · cases e
      · cases hb'
    have hll := HL.out.below hb2
    refine ⟨hll.below hal, hf.below hal, MapOf.made w2, fun k hk hk2 => ?_, fun hk => ?_, fun hk => ?_, HUP.out, fun k hk => ?_, ?_, (HB1.out.trans (hb2.mono HB1.out.size)).trans (hal.mono (Nat.le_trans HB1.out.size hb2.size))⟩
    · have := hft k hk2; have := HL.out.rest.lt k hk; omega
    · have := hll.rest.lt _ hk; omega
    · have := hf.lt hk; omega
    · have := hft k hk; have := HB1.out.size; omega
    · exact Nat.le_trans HB1.out.size hb2.size
  have HST := hid hst
  clear HK hp hf hb2 hst HL
  have hmk : (Instr.makeMap 85 none).run Try.prog w2 = .ok (.map (some w2.heap.size)) (w2.alloc (.map #[] 0)) := run_makeMap _ _
  go_wp2_with fail
  clear hmk
  generalize w2.alloc (.map #[] 0) = w3 at *
  generalize w2.heap.size = mb at *
  go_loopw [10] (fun i wr => ∃ k : Nat, k ≤ len ∧ k ≤ 200 ∧ i = .int .i64 k ∧ ∃ (L : List Ent) (go : Option Nat) (qs : List Nat) (mpf : Nat → Nat) (F : Value → Option Value) (n : Nat), J w wr S L p go (sX most) 100 (nts f k) qs mpf mb F n ∧ Counts F f k ∧ ∀ x ∈ L, 0 ≤ x.v ∧ x.v ≤ cnt f k x.k) (fun i _ => len - (intOf i).toNat)
  case atStart => exact ⟨0, Nat.zero_le _, by omega, rfl, [], none, [], fun _ => 0, fun _ => none, 0, HST.out, Counts.zero f, fun x hx => by cases hx⟩
  case round =>
    obtain ⟨k, hk, hk2, rfl, L, go, qs, mpf, F, n, hJ, hC, hV⟩ := hrel
    have HJ := hid hJ
    have HC := hid hC
    have HV := hid hV
    clear hJ hC hV HST
    by_cases hlt : k < len ∧ k < 200
    · obtain ⟨hlt, hlt2⟩ := hlt
      obtain ⟨g, o, rfl, hg, hc⟩ := HA.out (by omega)
      have hcw := hc k hlt
      have hks := HS.out k hlt
      have HKS := hid hks
      obtain ⟨s, hs⟩ : ∃ s, f k = s := ⟨_, rfl⟩
      have HSQ := hid hs
      rw [hs] at hcw hks
      have HCW := hid hcw
      have c0 : wr.cell? ⟨g, o + k, none⟩ = some (.string s) := (HJ.out.bel.cell (p := ⟨g, o + k, none⟩) hg).trans hcw
      obtain ⟨v, b, hpk, hv⟩ := peek_any HJ.out s hks
      have HP := hid (hpk wr rfl)
      have hvb : 0 ≤ v ∧ v ≤ cnt f k s := by
        rcases hv with ⟨x, hx, hxk, hxv⟩ | hv
        · have := HV.out x hx; rw [hxk, hxv] at this; exact this
        · rw [hv]; exact ⟨by omega, by omega⟩
      obtain ⟨hv0, hv1⟩ := hvb
      have hcn := cnt_le f k s
      have hlook := look_any HJ.out HC.out s hks
      clear hpk hv hc hs hcw
      unfold ptr at *
      go_wp2_with fail
      refine HP.out.mono ?_
      rintro e w3b ⟨rfl, rfl⟩
      obtain ⟨w4, hst, F', n', hC', hJ4⟩ := store_any HJ.out HC.out HKS.out
      have hcs := cnt_same f k
      rw [HSQ.out] at hst hcs
      have HC4 := hid hC'
      have HJ4 := hid hJ4
      have HCS := hid hcs
      have hput := put_any HJ4.out s hks (v + 1)
      have HPut := hid hput
      have c4 : w4.cell? ⟨g, o + k, none⟩ = some (.string s) := (HJ4.out.bel.cell (p := ⟨g, o + k, none⟩) hg).trans HCW.out
      have hx1 := cnt_le_est f 100 (k + 1) (sX most) s (by show 0 < 10; decide) (by omega)
      have hx2 := est_le_all (sok most) f (k + 1) s
      rw [hcs] at hx1
      have HX1 := hid hx1
      have HX2 := hid hx2
      clear HP hcs hC' hJ4 hput hx1 hx2
      obtain ⟨c, hce⟩ : ∃ c, cnt f k s = c := ⟨_, rfl⟩
      rw [hce] at hst hlook hv1 hcn HCS HX1
      have HCE := hid hce
      clear hce
      have hst2 : (Instr.mapUpdate 85 (.map (some mb)) (.string s) (.int .i64 ((c : Int) + 1))).run Try.prog wr = .ok () w4 := hst
      clear hst
      unfold ptr at *
      go_wp2_with fail
      refine HPut.out.mono ?_
      rintro e w5 ⟨gs, gb, M, nb, rfl, hM, hJ5⟩
      have HM := hid hM
      have HJ5 := hid hJ5
      have HJ6 := hid (hJ5.below ((Below.refl _ w5).alloc (Nat.le_refl _) (.cells #[.int .i64 1] 3)))
      have c5 : w5.cell? ⟨g, o + k, none⟩ = some (.string s) := (HJ5.out.bel.cell (p := ⟨g, o + k, none⟩) hg).trans HCW.out
      have hAd := Add_yes HJ6.out.sk (Nat.le_refl 0) (by omega) s hks (some ⟨w5.heap.size, 0, none⟩) 1 1 (fun _ => 1) (by omega) (fun _ => ⟨w5.heap.size, 0, rfl, by simp, fun i hi => by
        obtain rfl : i = 0 := by omega
        unfold World.cell?; rw [heap_alloc_new]; rfl⟩) (by unfold goodC; rw [decide_eq_true_iff]; intro i hi; rfl) (fun _ g2 o2 e hh => by cases e; have := HJ5.out.sk.lt hh; omega)
      have HAd := hid hAd
      clear HPut hM hJ5 hAd hlook hst2 c4 c0
      go_wp2_with fail
      refine HAd.out.mono ?_
      rintro e w7 ⟨rfl, ha⟩
      obtain ⟨go', qs', mpf', hJ7⟩ := HJ6.out.skStep ha
      have hnt : nts f k ++ [⟨0, s, SkD.sumTo (fun _ => 1) 1⟩] = nts f (k + 1) := by rw [nts, HSQ.out]; rfl
      rw [hnt] at hJ7
      have HJ7 := hid hJ7
      have c7 : w7.cell? ⟨g, o + k, none⟩ = some (.string s) := (HJ7.out.bel.cell (p := ⟨g, o + k, none⟩) hg).trans HCW.out
      have HG := hid (get_any HJ7.out)
      clear HAd ha hJ7 hnt HJ6 HJ5 c5
      dsimp only at HG
      unfold ptr at *
      go_wp2_with fail
      refine HG.out.mono ?_
      rintro e w8 ⟨rfl, hJ8⟩
      have HJ8 := hid hJ8
      have c8 : w8.cell? ⟨g, o + k, none⟩ = some (.string s) := (HJ8.out.bel.cell (p := ⟨g, o + k, none⟩) hg).trans HCW.out
      have hEs := Estimate_yes HJ8.out.sk (Nat.le_refl 0) (by omega) s hks
      obtain ⟨x, hxe⟩ : ∃ x, estN 100 (sX most) (nts f (k + 1)) 0 s = x := ⟨_, rfl⟩
      rw [hxe] at hEs HX1 HX2
      have HEs := hid hEs
      have hx1 := HX1.out
      have hx2 := HX2.out
      clear HG hJ8 HJ7 c7 hEs hxe
      go_wp2_with fail
      refine HEs.out.mono ?_
      rintro e w9 ⟨rfl, hb9⟩
      have HJ9 := hid (HJ8.out.below hb9)
      have c9 : w9.cell? ⟨g, o + k, none⟩ = some (.string s) := (HJ9.out.bel.cell (p := ⟨g, o + k, none⟩) hg).trans HCW.out
      have hlook9 := look_any HJ9.out HC4.out s hks
      rw [HCS.out] at hlook9
      have hlk : (Instr.lookup 85 (.map (some mb)) (.string s) false).run Try.prog w9 = .ok (.int .i64 ((c : Int) + 1)) w9 := hlook9
      clear HEs hb9 HJ8 c8 hlook9
      go_wp2_with fail
      go_roundw
      case rel => exact ⟨k + 1, by omega, by omega, by go_num, _, go', qs', mpf', F', n', HJ9.out, HC4.out, (fun y hy => (by
        rcases List.mem_append.1 hy with e | e
        · have h1 := HV.out y (HM.out y e)
          have h2 := cnt_mono f k y.k
          omega
        · rw [List.mem_singleton.1 e]
          show 0 ≤ v + 1 ∧ v + 1 ≤ ((cnt f (k + 1) s : Nat) : Int)
          rw [HCS.out]
          omega))⟩
      case measure => simp [intOf]; omega
    · have HLen := hid (len_any HJ.out.lru.rest)
      have HMost := hid (most_core S.mb S.most wr (LruD.LRest.mcell HJ.out.lru.rest).2.1)
      have hle := HJ.out.lru.len
      have HBE := hid HJ.out.bel
      have hle2 : (L.length : Int) ≤ S.most := by omega
      clear HA HS
      unfold ptr at *
      by_cases h1 : k < len
      · have h2 : k = 200 := by omega
        subst h2
        clear hlt
        go_wp2_with fail
        refine HLen.out.mono ?_
        rintro e w4 ⟨rfl, rfl⟩
        clear HLen
        go_wp2_with fail
        refine HMost.out.mono ?_
        rintro e w4 ⟨rfl, rfl⟩
        clear HMost
        go_wp2_with fail
        go_ret
        exact ⟨rfl, HBE.out⟩
      · obtain rfl : k = len := by omega
        clear hlt h1
        go_wp2_with fail
        refine HLen.out.mono ?_
        rintro e w4 ⟨rfl, rfl⟩
        clear HLen
        go_wp2_with fail
        refine HMost.out.mono ?_
        rintro e w4 ⟨rfl, rfl⟩
        clear HMost
        go_wp2_with fail
        go_ret
        exact ⟨rfl, HBE.out⟩

theorem main {H : Type} {enc : TypeId × Value → H} {W : World} {base : Nat} {spare : Nat → Bool} {held : Bool} {d1 : DataW H} {p1 : List MemPlace} (m : Int) (hm : (Lit.int .u8 m).wf = true) (a1 : Option Addr) (len1 cap1 : Nat)
    (h1 : DataW.Trod enc Try.prog W base spare held 51 (.slice a1 len1 cap1) d1 p1) :
    Calls Try.prog 7 #[.int .u8 m, .slice a1 len1 cap1] W fun e w' => e = .returned (.bool true) ∧ Below W.heap.size W w' := by
  have hb : 0 ≤ m ∧ m < 256 := by
    simp [Lit.wf, IntKind.min, IntKind.max, IntKind.bits, IntKind.signed] at hm
    omega
  obtain ⟨n, rfl⟩ : ∃ n : Nat, m = n := ⟨m.toNat, by omega⟩
  obtain ⟨fuel, hf⟩ := h1
  obtain ⟨a, l, c, f, he, hl, hs, hc⟩ := OpnS.strs_of Try.underlying51 Try.underlying9 (by kernel_rfl) (by simpa [Value.cells] using hf)
  cases he
  exact counted_core n (by omega) a1 len1 cap1 hl f W (hid hs) (hid hc)

end Go.Proofs.Ytopljjmbekpdmaa.CouB
