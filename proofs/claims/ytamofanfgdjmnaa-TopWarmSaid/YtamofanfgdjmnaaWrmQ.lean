/- TopWarm. -/
import Derived.Test.YtamofanfgdjmnaaWrmK
import Derived.Test.YtamofanfgdjmnaaRows2
import Derived.Test.YtamofanfgdjmnaaPas
namespace Go.Proofs.Ytamofanfgdjmnaa.WrmQ
set_option linter.unusedVariables false
open Go.ChangeShapes Go.WideShapes Go.ChangeAt Go.RowKit Go.Deep Base WrmP NumM NumC NumE NumA WrmA WrmB WrmC WrmD WrmE WrmF WrmG WrmH WrmI WrmJ WrmK Wri Rows2 Pas

theorem take_facts (m : Wm) (ho : m.Ok) (t now : Int) (h : ref4 m.last t 0 now 1 = 0) :
    ∃ r : Nat, r ≤ m.c ∧ 0 ≤ now ∧ now ≤ 4611686018427387904 ∧ lookA m t 0 now 1 = decide (now < (r : Int)) ∧ rateA (takeA m t 0 now 1) t 0 = (r : Int) ∧ ref2 (takeA m t 0 now 1).last t 0 = 0 ∧ (takeA m t 0 now 1).c = m.c := by
  obtain ⟨⟨tn, pn, rfl, hp, h1, h2, h3⟩, h4, h5, -, -⟩ := ref4_zero h
  have ht : takeA m tn 0 now 1 = m.fill tn 0 := by unfold takeA; rw [if_pos h]; simp
  have hl : ref2 (m.fill tn 0).last tn 0 = 0 := by
    unfold ref2
    rw [inW_iff.2 ⟨by omega, by omega⟩, inW_iff.2 ⟨by omega, by omega⟩]
    simp only [Bool.and_self, if_true]
    rw [if_neg (by show ¬ (tn : Int) < ((tn : Nat) : Int); omega)]
  refine ⟨Wm.next m tn 0, rate_le _ _ _ ho.c1, h4, h5, ?_, ?_, by rw [ht]; exact hl, by rw [ht]; rfl⟩
  · unfold lookA
    rw [if_pos h]
    simp only [Int.toNat_natCast, Int.toNat_zero]
    rw [decide_eq_decide]
    omega
  · rw [ht]
    unfold rateA
    rw [if_pos hl]
    simp only [Int.toNat_natCast, Int.toNat_zero]
    have e : (m.fill tn 0).tk tn 0 = m.tk tn 0 := by
      show (if (true = true ∧ secOf tn = secOf tn) then m.tk tn 0 else _) = _
      rw [if_pos ⟨rfl, rfl⟩]
    show ((rateN m.c m.G ((m.fill tn 0).tk tn 0) : Nat) : Int) = _
    rw [e]
    rfl

theorem take_no (m : Wm) (t past now n : Int) (h : ref4 m.last t past now n ≠ 0) : takeA m t past now n = m := by unfold takeA; rw [if_neg h]

theorem some_out {c s : Int} (h : (inW c 1 1099511627776 && inW s 1 3600) = false) : c < 1 ∨ 1099511627776 < c ∨ s < 1 ∨ 3600 < s := by
  unfold inW at h
  simp at h
  omega

def rv (c : Int) : Array Value := #[.string ⟨#[97]⟩, .string ⟨#[100, 101, 102, 97, 117, 108, 116]⟩, .bool false, .int .i64 c, .int .u8 0, .string ⟨#[]⟩, .int .u8 0, .int .i64 0, .int .i64 0, .bool false, .int .i64 0, .bool false]

set_option maxRecDepth 20000 in
set_option maxHeartbeats 2000000 in
theorem top_core (c s : Int) (a : Option Addr) (n cap : Nat) (F : Nat → Nat → Int) (w : World) (hn : n ≤ 9223372036854775807) (HR : Hid (RowsI w a n 2 F)) :
    Calls Try.prog 9 #[.int .i64 c, .int .i64 s, .slice a n cap] w fun e w' => e = .returned (.bool true) ∧ Below w.heap.size w w' := by
  go_enter Try.func9, Try.ntmps9
  go_wp2_with fail
  refine (New_any c s w).mono ?_
  rintro e w2 (⟨cn, sn, hc, hs, ho, rfl, ha, hb⟩ | ⟨h, rfl, rfl⟩)
  rotate_left
  · have h := some_out h
    by_cases h1 : c < 1
    · have d1 : decide (c < 1) = true := by simpa using h1
      clear h
      go_wp2_with fail
      go_ret
      exact ⟨rfl, Below.refl _ _⟩
    · have d1 : decide (c < 1) = false := by simpa using h1
      by_cases h2 : 1099511627776 < c
      · have d2 : decide (1099511627776 < c) = true := by simpa using h2
        clear h h1
        go_wp2_with fail
        go_ret
        exact ⟨rfl, Below.refl _ _⟩
      · have d2 : decide (1099511627776 < c) = false := by simpa using h2
        by_cases h3 : s < 1
        · have d3 : decide (s < 1) = true := by simpa using h3
          clear h h1 h2
          go_wp2_with fail
          go_ret
          exact ⟨rfl, Below.refl _ _⟩
        · have d3 : decide (s < 1) = false := by simpa using h3
          have d4 : decide (3600 < s) = true := by simp; omega
          clear h h1 h2 h3
          go_wp2_with fail
          go_ret
          exact ⟨rfl, Below.refl _ _⟩
  have HC := hid hc
  have HO := hid ho
  have HA := hid (ha.below ((Below.refl _ w2).alloc (Nat.le_refl _) (.cells (rv c) 62)) ha.lt)
  have HB2 := hid (hb.alloc hb.size (.cells (rv c) 62))
  have HV := hid (heap_alloc_new w2 (.cells (rv c) 62))
  have hpl := ha.lt
  unfold rv at HA HB2 HV
  clear hc hs ho ha hb
  go_upto_region 5 with fail
  obtain ⟨rb, hrb⟩ : ∃ rb, w2.heap.size = rb := ⟨_, rfl⟩
  rw [hrb] at HV hpl ⊢
  have hrs : rb < (w2.alloc (.cells #[.string ⟨#[97]⟩, .string ⟨#[100, 101, 102, 97, 117, 108, 116]⟩, .bool false, .int .i64 c, .int .u8 0, .string ⟨#[]⟩, .int .u8 0, .int .i64 0, .int .i64 0, .bool false, .int .i64 0, .bool false] 62)).heap.size := by simp; omega
  clear hrb
  generalize w2.alloc (.cells #[.string ⟨#[97]⟩, .string ⟨#[100, 101, 102, 97, 117, 108, 116]⟩, .bool false, .int .i64 c, .int .u8 0, .string ⟨#[]⟩, .int .u8 0, .int .i64 0, .int .i64 0, .bool false, .int .i64 0, .bool false] 62) = w3 at *
  generalize hp : w.heap.size = p at *
  go_wp2_with fail
  go_loopw [10] (fun k wr => ∃ (k' : Nat) (m : Wm), k = .int .i64 k' ∧ k' ≤ n ∧ m.Ok ∧ m.c = cn ∧ At wr p m ∧ wr.heap[rb]? = w3.heap[rb]? ∧ rb < wr.heap.size ∧ Below p w wr) (fun k _ => n - (intOf k).toNat)
  case atStart => exact ⟨0, _, rfl, Nat.zero_le _, HO.out, rfl, HA.out, rfl, hrs, HB2.out⟩
  case round =>
    obtain ⟨k, m, rfl, hk, ho, hmc, ha, hrb, hrs, hb⟩ := hrel
    have HOk := hid ho
    have HMc := hid hmc
    have HAk := hid ha
    have HBk := hid hb
    have HRb := hid (And.intro (hrb.trans HV.out) hrs)
    clear ho hmc ha hrb hrs hb
    by_cases hend : k < n ∧ k < 100
    · obtain ⟨hlt, hl100⟩ := hend
      have hd1 : decide ((k : Int) < n) = true := by simpa using hlt
      have hd2 : decide ((k : Int) < 100) = true := by simp; omega
      have hrows := RowsI.below HR.out (hp ▸ HBk.out)
      obtain ⟨g, o, rfl, hg, hcell⟩ := hrows.1 (by omega)
      have x0 : wr.cell? ⟨g, o + k * 2, none⟩ = some (.int .i64 (F k 0)) := hcell k hlt 0 (by omega)
      have x1 : wr.cell? ⟨g, o + k * 2 + 1, none⟩ = some (.int .i64 (F k 1)) := hcell k hlt 1 (by omega)
      have hpk : p ≠ g := by
        obtain ⟨g', o', e', hg', -⟩ := HR.out.1 (by omega)
        cases e'
        omega
      clear hcell hrows
      generalize F k 0 = t at *
      generalize F k 1 = now at *
      have HT := hid (Take_any p m HOk.out t 0 now 1 wr HAk.out)
      obtain ⟨ok, hok⟩ : ∃ ok, lookA m t 0 now 1 = ok := ⟨_, rfl⟩
      obtain ⟨er, her⟩ : ∃ er, ref4 m.last t 0 now 1 = er := ⟨_, rfl⟩
      rw [hok, her] at HT
      have HE := hid (And.intro hok her)
      clear hok her
      go_wp2_with fail
      refine HT.out.mono ?_
      rintro e w4 ⟨rfl, ha4, hw4⟩
      have y0 : w4.cell? ⟨g, o + k * 2, none⟩ = some (.int .i64 t) := (hw4.cell _ hg (fun e => hpk e.symm)).trans x0
      have HRb4 := hid ((hw4.block rb HRb.out.2 (fun e => by omega)).trans HRb.out.1)
      have hrs4 : rb < w4.heap.size := Nat.lt_of_lt_of_le HRb.out.2 hw4.size
      have HB4 : Hid (Below p w w4) := hid (HBk.out.trans (hw4.below p (Nat.le_of_lt HAk.out.lt) (fun k e => by omega)))
      have HA4 := hid ha4
      clear HT ha4 hw4 x0 x1
      by_cases he : er = 0
      · subst he
        obtain ⟨r, hr1, hn0, hn1, hr2, hr3, hr4, hr5⟩ := take_facts m HOk.out t now HE.out.2
        have HT5 := Rate_any p (takeA m t 0 now 1) (takeA_ok m HOk.out t 0 now 1) t 0 w4 HA4.out
        rw [hr3, hr4] at HT5
        have HT6 := hid HT5
        have hok : decide (now < (r : Int)) = ok := hr2.symm.trans HE.out.1
        have HO5 := hid (takeA_ok m HOk.out t 0 now 1)
        have HC5 := hid (hr5.trans HMc.out)
        have hcr : decide (c < (r : Int)) = false := by have := HC.out; have := HMc.out; simp; omega
        have hr0 : decide ((r : Int) < 0) = false := by simp
        have hpass : ok = true → passF false c now 0 1 = true := fun e => by
          rw [e] at hok
          have h1 : now < r := by simpa using hok
          have := HC.out
          have := HMc.out
          unfold passF
          rw [if_neg (by decide), if_pos (by unfold Fits; omega)]
          simp; omega
        have HP := hid hpass
        have HN : Hid (Fits now) := hid (by unfold Fits; omega)
        clear HT5 hr1 hn0 hn1 hr2 hr3 hr4 hr5 hpass
        generalize takeA m t 0 now 1 = m' at *
        go_wp2_with fail
        refine HT6.out.mono ?_
        rintro e w5 ⟨rfl, hb5⟩
        have HRb5 := hid ((hb5.block rb hrs4).trans HRb4.out)
        have hrs5 : rb < w5.heap.size := Nat.lt_of_lt_of_le hrs4 hb5.size
        have HA5 := hid (HA4.out.below hb5 HA4.out.lt)
        have HB5 : Hid (Below p w w5) := hid (HB4.out.trans (hb5.mono (Nat.le_of_lt HA4.out.lt)))
        clear HT6 hb5 HRb4 hrs4 HA4 HB4 y0
        cases ok with
        | true =>
          have y0 : w5.cell? ⟨rb, 0, none⟩ = some (.string ⟨#[97]⟩) := by simp [World.cell?, HRb5.out]
          have y1 : w5.cell? ⟨rb, 1, none⟩ = some (.string ⟨#[100, 101, 102, 97, 117, 108, 116]⟩) := by simp [World.cell?, HRb5.out]
          have y2 : w5.cell? ⟨rb, 2, none⟩ = some (.bool false) := by simp [World.cell?, HRb5.out]
          have y3 : w5.cell? ⟨rb, 3, none⟩ = some (.int .i64 c) := by simp [World.cell?, HRb5.out]
          have y4 : w5.cell? ⟨rb, 4, none⟩ = some (.int .u8 0) := by simp [World.cell?, HRb5.out]
          have y5 : w5.cell? ⟨rb, 5, none⟩ = some (.string ⟨#[]⟩) := by simp [World.cell?, HRb5.out]
          have y6 : w5.cell? ⟨rb, 6, none⟩ = some (.int .u8 0) := by simp [World.cell?, HRb5.out]
          have y7 : w5.cell? ⟨rb, 7, none⟩ = some (.int .i64 0) := by simp [World.cell?, HRb5.out]
          have y8 : w5.cell? ⟨rb, 8, none⟩ = some (.int .i64 0) := by simp [World.cell?, HRb5.out]
          have y9 : w5.cell? ⟨rb, 9, none⟩ = some (.bool false) := by simp [World.cell?, HRb5.out]
          have y10 : w5.cell? ⟨rb, 10, none⟩ = some (.int .i64 0) := by simp [World.cell?, HRb5.out]
          have y11 : w5.cell? ⟨rb, 11, none⟩ = some (.bool false) := by simp [World.cell?, HRb5.out]
          go_wp2_with fail
          refine (Passes_any _ _ false c 0 _ 0 0 0 false 0 false now 0 1 HN.out (by decide) w5).mono ?_
          rintro e w6 ⟨rfl, hb6⟩
          rw [HP.out (by trivial)]
          have HRb6 := hid ((hb6.block rb hrs5).trans HRb5.out)
          have hrs6 : rb < w6.heap.size := Nat.lt_of_lt_of_le hrs5 hb6.size
          have HA6 := hid (HA5.out.below hb6 HA5.out.lt)
          have HB6 : Hid (Below p w w6) := hid (HB5.out.trans (hb6.mono (Nat.le_of_lt HA5.out.lt)))
          clear hb6 y0 y1 y2 y3 y4 y5 y6 y7 y8 y9 y10 y11
          go_wp2_with fail
          go_roundw
          case rel => exact ⟨k + 1, m', by go_num, by omega, HO5.out, HC5.out, HA6.out, HRb6.out.trans HV.out.symm, hrs6, HB6.out⟩
          case measure => simp [intOf]; omega
        | false =>
          go_wp2_with fail
          go_roundw
          case rel => exact ⟨k + 1, m', by go_num, by omega, HO5.out, HC5.out, HA5.out, HRb5.out.trans HV.out.symm, hrs5, HB5.out⟩
          case measure => simp [intOf]; omega
      · have hne : (er != 0) = true := by simpa using he
        have HM : Hid (takeA m t 0 now 1 = m) := hid (take_no m t 0 now 1 (by rw [HE.out.2]; exact he))
        rw [HM.out] at HA4
        clear he
        go_wp2_with fail
        go_roundw
        case rel => exact ⟨k + 1, m, by go_num, by omega, HOk.out, HMc.out, HA4.out, HRb4.out.trans HV.out.symm, hrs4, HB4.out⟩
        case measure => simp [intOf]; omega
    · have HM := hid (Marks_any p m HOk.out wr HAk.out)
      have hle1 : wn m.G ≤ m.G := (wn_bd m.G).1
      have hle2 : m.tok ≤ m.G := HOk.out.tok
      have HTk := hid (fun w h => Tokens_any p m w h)
      have HLE := hid HOk.out.tok
      generalize wn m.G = v at *
      generalize m.G = G at *
      generalize m.tok = tk at *
      by_cases hlt : k < n
      · have hd1 : decide ((k : Int) < n) = true := by simpa using hlt
        have hd2 : decide ((k : Int) < 100) = false := by simp; omega
        clear hend
        go_wp2_with fail
        refine HM.out.mono ?_
        rintro e w4 ⟨rfl, hb4⟩
        have HA4 := hid (HAk.out.below hb4 HAk.out.lt)
        have HB4 : Hid (Below p w w4) := hid (HBk.out.trans (hb4.mono (Nat.le_of_lt HAk.out.lt)))
        clear HM hb4
        go_wp2_with fail
        refine (HTk.out w4 HA4.out).mono ?_
        rintro e w5 ⟨rfl, rfl⟩
        go_wp2_with fail
        refine (HTk.out w4 HA4.out).mono ?_
        rintro e w5 ⟨rfl, rfl⟩
        go_wp2_with fail
        go_ret
        exact ⟨by first | rfl | exact congrArg (fun b => Ending.returned (Value.bool b)) (decide_eq_true HLE.out), by rw [hp]; exact HB4.out⟩
      · have hd1 : decide ((k : Int) < n) = false := by simpa using hlt
        clear hend
        go_wp2_with fail
        refine HM.out.mono ?_
        rintro e w4 ⟨rfl, hb4⟩
        have HA4 := hid (HAk.out.below hb4 HAk.out.lt)
        have HB4 : Hid (Below p w w4) := hid (HBk.out.trans (hb4.mono (Nat.le_of_lt HAk.out.lt)))
        clear HM hb4
        go_wp2_with fail
        refine (HTk.out w4 HA4.out).mono ?_
        rintro e w5 ⟨rfl, rfl⟩
        go_wp2_with fail
        refine (HTk.out w4 HA4.out).mono ?_
        rintro e w5 ⟨rfl, rfl⟩
        go_wp2_with fail
        go_ret
        exact ⟨by first | rfl | exact congrArg (fun b => Ending.returned (Value.bool b)) (decide_eq_true HLE.out), by rw [hp]; exact HB4.out⟩

theorem underNote : ∃ fs, Try.prog.underlying 64 = some (.struct fs) ∧ oneCellFields Try.prog fs = true ∧ Try.prog.cellsOf 64 = fs.size ∧ fs.size = 2 ∧ fs[0]?.map (·.type) = some 3 ∧ fs[1]?.map (·.type) = some 3 := ⟨_, Try.underlying64, by kernel_rfl, by kernel_rfl, by kernel_rfl, by kernel_rfl, by kernel_rfl⟩

theorem main {H : Type} {enc : TypeId × Value → H} {W : World} {base : Nat} {spare : Nat → Bool} {held : Bool} {d2 : DataW H} {p2 : List MemPlace} (a0 : Int) (w0 : (Lit.int .i64 a0).wf = true) (a1 : Int) (w1 : (Lit.int .i64 a1).wf = true) (a2 : Option Addr) (len2 cap2 : Nat)
    (h2 : ∃ fuel, DataW.trod enc Try.prog W base spare held fuel 58 [.slice a2 len2 cap2] = some (d2, p2)) :
    Calls Try.prog 9 #[.int .i64 a0, .int .i64 a1, .slice a2 len2 cap2] W fun e w' => e = .returned (.bool true) ∧ Below W.heap.size W w' := by
  obtain ⟨k2, h2⟩ := h2
  obtain ⟨fs, hu, q1, q2, q3, f0, f1⟩ := underNote
  obtain ⟨hn, F, hF⟩ := rows_arg Try.underlying58 hu q1 q2 q3 (by omega) (fun j hj => by rcases (by omega : j = 0 ∨ j = 1) with rfl | rfl; exact f0; exact f1) h2
  exact top_core a0 a1 a2 len2 cap2 F W hn (hid hF)

end Go.Proofs.Ytamofanfgdjmnaa.WrmQ
