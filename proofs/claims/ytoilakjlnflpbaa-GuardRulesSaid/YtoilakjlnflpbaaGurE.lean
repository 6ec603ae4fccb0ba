/- GuardRules: the law. -/
import Derived.Test.YtoilakjlnflpbaaGurD
import Derived.Test.YtoilakjlnflpbaaGuaG
import Derived.Deep.AppendLies
namespace Go.Proofs.Ytoilakjlnflpbaa.GurE
open Go.ChangeShapes Go.WideShapes Go.ChangeAt Go.RowKit Go.Deep Base Opn WldF WldG Mem Wri GurA GurB GurC GurD NumM NumE RulA Txt LisA LisD GuaA GuaB GuaC GuaE GuaG
set_option linter.unusedVariables false

/-- the cells of rows of seven, one behind the other -/
def flat (F : Nat → Nat → Int) (n : Nat) : List Value := (List.range (n * 7)).map fun k => .int .i64 (F (k / 7) (k % 7))
theorem flat_len (F : Nat → Nat → Int) (n : Nat) : (flat F n).length = n * 7 := by simp [flat]
theorem flat_get (F : Nat → Nat → Int) (n k : Nat) (h : k < n * 7) : (flat F n)[k]? = some (.int .i64 (F (k / 7) (k % 7))) := by simp [flat, h]
theorem flat_succ (F : Nat → Nat → Int) (n : Nat) : flat F n ++ [.int .i64 (F n 0), .int .i64 (F n 1), .int .i64 (F n 2), .int .i64 (F n 3), .int .i64 (F n 4), .int .i64 (F n 5), .int .i64 (F n 6)] = flat F (n + 1) := by
  refine List.ext_getElem? fun k => ?_
  by_cases h : k < n * 7
  · rw [List.getElem?_append_left (by rw [flat_len]; exact h), flat_get _ _ _ h, flat_get _ _ _ (by omega)]
  · rw [List.getElem?_append_right (by rw [flat_len]; omega), flat_len]
    by_cases h2 : k < (n + 1) * 7
    · rw [flat_get _ _ _ h2]
      rcases (by omega : k = n * 7 ∨ k = n * 7 + 1 ∨ k = n * 7 + 2 ∨ k = n * 7 + 3 ∨ k = n * 7 + 4 ∨ k = n * 7 + 5 ∨ k = n * 7 + 6) with rfl | rfl | rfl | rfl | rfl | rfl | rfl
      · rw [show n * 7 - n * 7 = 0 by omega, show (n * 7) / 7 = n by omega, show (n * 7) % 7 = 0 by omega]; rfl
      · rw [show n * 7 + 1 - n * 7 = 1 by omega, show (n * 7 + 1) / 7 = n by omega, show (n * 7 + 1) % 7 = 1 by omega]; rfl
      · rw [show n * 7 + 2 - n * 7 = 2 by omega, show (n * 7 + 2) / 7 = n by omega, show (n * 7 + 2) % 7 = 2 by omega]; rfl
      · rw [show n * 7 + 3 - n * 7 = 3 by omega, show (n * 7 + 3) / 7 = n by omega, show (n * 7 + 3) % 7 = 3 by omega]; rfl
      · rw [show n * 7 + 4 - n * 7 = 4 by omega, show (n * 7 + 4) / 7 = n by omega, show (n * 7 + 4) % 7 = 4 by omega]; rfl
      · rw [show n * 7 + 5 - n * 7 = 5 by omega, show (n * 7 + 5) / 7 = n by omega, show (n * 7 + 5) % 7 = 5 by omega]; rfl
      · rw [show n * 7 + 6 - n * 7 = 6 by omega, show (n * 7 + 6) / 7 = n by omega, show (n * 7 + 6) % 7 = 6 by omega]; rfl
    · rw [List.getElem?_eq_none (by simp; omega), List.getElem?_eq_none (by rw [flat_len]; omega)]

/-- an owned list of rows of seven -/
theorem rows_owned {w : World} {B n : Nat} {e : TypeId} {va : Option Addr} {vc : Nat} {F : Nat → Nat → Int} (h : w.ownsRow B e 7 (.slice va n vc) n (flat F n)) (hb : ∀ i j, -9223372036854775808 ≤ F i j ∧ F i j ≤ 9223372036854775807) : RowsI w va n 7 F := by
  have hlt := h.lt
  refine ⟨fun h0 => ?_, hb⟩
  obtain ⟨hl, h2⟩ := h
  rcases h2 with ⟨_, rfl⟩ | ⟨g, c, cur, he, hg, hh, hc, hm, hs, hcur⟩
  · omega
  · cases he
    refine ⟨g, 0, rfl, (hlt g rfl).2, fun i hi j hj => ?_⟩
    have h1 : (cur.toList.take (n * 7))[i * 7 + j]? = (flat F n)[i * 7 + j]? := by rw [hcur]
    rw [List.getElem?_take, if_pos (by omega), flat_get _ _ _ (by omega), show (i * 7 + j) / 7 = i by omega, show (i * 7 + j) % 7 = j by omega] at h1
    have e : cur[i * 7 + j]? = some (.int .i64 (F i j)) := by rw [← Array.getElem?_toList, h1]
    rw [show 0 + i * 7 + j = i * 7 + j by omega]
    simp [World.cell?, hh, e]

theorem row_rows {w : World} {g N n : Nat} {F : Nat → Nat → Int} (h : Row w g N (mark5 n F)) (hg : g < w.heap.size) (hN : n * 5 ≤ N) (hb : ∀ i j, -9223372036854775808 ≤ F i j ∧ F i j ≤ 9223372036854775807) : RowsI w (some ⟨g, 0, none⟩) n 5 F :=
  ⟨fun _ => ⟨g, 0, rfl, hg, fun i hi j hj => by rw [show 0 + i * 5 + j = i * 5 + j by omega, ← mark5_in (F := F) hi hj]; exact (h _ (by omega)).1⟩, hb⟩

theorem nf_row (G : Nat → Nat → Int) {j : Nat} (hj : j < 7) : nf (G 0 0) (G 0 1) (G 0 2) (G 0 3) (G 0 4) (G 0 5) (G 0 6) j = G 0 j := by
  rcases (by omega : j = 0 ∨ j = 1 ∨ j = 2 ∨ j = 3 ∨ j = 4 ∨ j = 5 ∨ j = 6) with rfl | rfl | rfl | rfl | rfl | rfl | rfl <;> rfl

theorem belN {B : Nat} {w w1 : World} (h : Below B w w1) (n : Nat) : Below B w (w1.drewN n) := ⟨h.os, h.tape, h.output, h.size, h.block⟩

def sysM (F : Nat → Nat → Int) (n m : Nat) (G : Nat → Nat → Int) (t : Int) : Int × Bool × Int := if m = 1 then sysR F n (G 0 0) (G 0 1) (G 0 2) (G 0 3) (G 0 4) (G 0 5) (G 0 6) t else (0, false, 6)

theorem gsys (a va : Option Addr) (n cap m vc : Nat) (F G : Nat → Nat → Int) (t r0 r2 : Int) (r1 : Bool) (w : World) (hn : n ≤ 9223372036854775807) (hr : sysM F n m G t = (r0, r1, r2)) (HI : RowsI w a n 5 F) (HG : RowsI w va m 7 G) :
    Calls Try.prog 10 #[.slice a n cap, .int .i64 t, .slice va m vc] w fun e w' => e = .returned (.tuple #[.int .i64 r0, .bool r1, .int .i64 r2]) ∧ Below w.heap.size w w' := by
  unfold sysM at hr
  by_cases hm : m = 1
  · subst hm
    rw [if_pos rfl] at hr
    obtain ⟨g, o, rfl, hg, hc⟩ := HG.1 (by omega)
    refine (Systems_any a g o n cap vc F (G 0 0) (G 0 1) (G 0 2) (G 0 3) (G 0 4) (G 0 5) (G 0 6) t w hn HI ⟨hg, fun j hj => ?_⟩).mono fun e w' ⟨h1, h2⟩ => ⟨by rw [h1, hr]; rfl, h2⟩
    rw [nf_row G hj, ← hc 0 (by omega) j hj]
    congr 2
  · rw [if_neg hm] at hr
    cases hr
    exact Systems_form a va n cap m vc t hm w

theorem rsys (a va : Option Addr) (n cap m vc : Nat) (F G : Nat → Nat → Int) (t r0 r2 : Int) (r1 : Bool) (w : World) (hn : n ≤ 9223372036854775807) (hr : sysM F n m G t = (r0, r1, r2)) (HI : RowsI w a n 5 F) (HG : RowsI w va m 7 G) :
    Calls Try.prog 11 #[.slice a n cap, .int .i64 t, .slice va m vc] w fun e w' => e = .returned (.tuple #[.int .i64 r0, .bool r1, .int .i64 r2]) ∧ Below w.heap.size w w' := by
  unfold sysM at hr
  by_cases hm : m = 1
  · subst hm
    rw [if_pos rfl] at hr
    obtain ⟨g, o, rfl, hg, hc⟩ := HG.1 (by omega)
    refine (RSystems_any a g o n cap vc F (G 0 0) (G 0 1) (G 0 2) (G 0 3) (G 0 4) (G 0 5) (G 0 6) t w hn HI ⟨hg, fun j hj => ?_⟩).mono fun e w' ⟨h1, h2⟩ => ⟨by rw [h1, hr]; rfl, h2⟩
    rw [nf_row G hj, ← hc 0 (by omega) j hj]
    congr 2
  · rw [if_neg hm] at hr
    cases hr
    exact RSystems_form a va n cap m vc t hm w

theorem infoNow : (Try.prog.info? 27).map (fun i => (i.zero, i.size, i.bytes)) = some (some (.agg #[.int .i64 0, .int .i64 0, .int .i64 0, .int .i64 0, .int .i64 0, .int .i64 0, .int .i64 0]), 7, 56) := by kernel_rfl

set_option maxRecDepth 20000 in
set_option maxHeartbeats 8000000 in
theorem rules_core (a va : Option Addr) (n cap m vc : Nat) (F G : Nat → Nat → Int) (t r0 r2 : Int) (r1 : Bool) (bS : Nat → Bool) (sS : Nat → ByteArray) (w : World) (hn : n ≤ 4000000000000) (hm : m ≤ 2513169434916) (hr : sysM F n m G t = (r0, r1, r2))
    (HI : Hid (RowsI w a n 5 F)) (HG : Hid (RowsI w va m 7 G))
    (HL : Hid (Ret 12 #[] (.bool true)))
    (H1 : Hid (∀ k, Ret 14 #[.agg #[.int .i64 (F k 0), .int .i64 (F k 1), .int .i64 (F k 2), .int .i64 (F k 3), .int .i64 (F k 4)], .int .i64 t, .agg #[.int .i64 (G 0 0), .int .i64 (G 0 1), .int .i64 (G 0 2), .int .i64 (G 0 3), .int .i64 (G 0 4), .int .i64 (G 0 5), .int .i64 (G 0 6)]] (.bool (bS k))))
    (H2 : Hid (∀ k, Ret 15 #[.agg #[.int .i64 (F k 0), .int .i64 (F k 1), .int .i64 (F k 2), .int .i64 (F k 3), .int .i64 (F k 4)], .int .i64 t, .agg #[.int .i64 (G 0 0), .int .i64 (G 0 1), .int .i64 (G 0 2), .int .i64 (G 0 3), .int .i64 (G 0 4), .int .i64 (G 0 5), .int .i64 (G 0 6)]] (.bool (bS k))))
    (H3 : Hid (∀ k, Ret 16 #[.agg #[.int .i64 (F k 0), .int .i64 (F k 1), .int .i64 (F k 2), .int .i64 (F k 3), .int .i64 (F k 4)], .int .i64 t, .agg #[.int .i64 (G 0 0), .int .i64 (G 0 1), .int .i64 (G 0 2), .int .i64 (G 0 3), .int .i64 (G 0 4), .int .i64 (G 0 5), .int .i64 (G 0 6)]] (.string (sS k))))
    (H4 : Hid (∀ k, Ret 17 #[.agg #[.int .i64 (F k 0), .int .i64 (F k 1), .int .i64 (F k 2), .int .i64 (F k 3), .int .i64 (F k 4)], .int .i64 t, .agg #[.int .i64 (G 0 0), .int .i64 (G 0 1), .int .i64 (G 0 2), .int .i64 (G 0 3), .int .i64 (G 0 4), .int .i64 (G 0 5), .int .i64 (G 0 6)]] (.string (sS k)))) :
    Calls Try.prog 3 #[.slice a n cap, .int .i64 t, .slice va m vc] w fun e w' => e = .returned (.bool true) ∧ Below w.heap.size w w' := by
  obtain ⟨i0, hi, hz0, hz1, hz2⟩ := info_parts infoNow
  have HR := hid hr
  clear hr
  go_enter Try.func3, Try.ntmps3
  go_wp2_with fail
  refine (hand_sys a n cap F w hn HI.out).mono ?_
  rintro e w1 ⟨rfl, hrow, hb1, hs1⟩
  have HW1 := hid hrow
  have HB1 := hid hb1
  have HI1 := hid (HI.out.below hb1)
  have HG1 := hid (HG.out.below hb1)
  have HN1 := hid (row_rows hrow hs1 (by omega) HI.out.2)
  clear hrow hb1
  go_wp2_with fail
  go_loopw [8, 9] (fun o i wr => ∃ (k : Nat) (v : Value), v = o ∧ k ≤ m ∧ i = .int .i64 k ∧ wr.ownsRow w1.heap.size 27 7 v k (flat G k) ∧ Below w1.heap.size w1 wr) (fun _ i _ => m - (intOf i).toNat)
  case atStart => exact ⟨0, .slice none 0 0, rfl, Nat.zero_le _, rfl, ⟨rfl, .inl ⟨rfl, rfl⟩⟩, Below.refl _ _⟩
  case round =>
    obtain ⟨k, v, rfl, hk, rfl, hown, hbel⟩ := hrel
    have HO := hid hown
    have HB := hid hbel
    clear hown hbel
    obtain ⟨pa, pc, rfl⟩ := owns_shape HO.out
    by_cases hlt : k < m
    · obtain ⟨g, o, rfl, hg, hc⟩ := HG1.out.1 (by omega)
      have c0 : wr.cell? ⟨g, o + k * 7, none⟩ = some (.int .i64 (G k 0)) := (HB.out.cell (p := ⟨g, o + k * 7 + 0, none⟩) hg).trans (hc k hlt 0 (by omega))
      have c1 : wr.cell? ⟨g, o + k * 7 + 1, none⟩ = some (.int .i64 (G k 1)) := (HB.out.cell (p := ⟨g, o + k * 7 + 1, none⟩) hg).trans (hc k hlt 1 (by omega))
      have c2 : wr.cell? ⟨g, o + k * 7 + 2, none⟩ = some (.int .i64 (G k 2)) := (HB.out.cell (p := ⟨g, o + k * 7 + 2, none⟩) hg).trans (hc k hlt 2 (by omega))
      have c3 : wr.cell? ⟨g, o + k * 7 + 3, none⟩ = some (.int .i64 (G k 3)) := (HB.out.cell (p := ⟨g, o + k * 7 + 3, none⟩) hg).trans (hc k hlt 3 (by omega))
      have c4 : wr.cell? ⟨g, o + k * 7 + 4, none⟩ = some (.int .i64 (G k 4)) := (HB.out.cell (p := ⟨g, o + k * 7 + 4, none⟩) hg).trans (hc k hlt 4 (by omega))
      have c5 : wr.cell? ⟨g, o + k * 7 + 5, none⟩ = some (.int .i64 (G k 5)) := (HB.out.cell (p := ⟨g, o + k * 7 + 5, none⟩) hg).trans (hc k hlt 5 (by omega))
      have c6 : wr.cell? ⟨g, o + k * 7 + 6, none⟩ = some (.int .i64 (G k 6)) := (HB.out.cell (p := ⟨g, o + k * 7 + 6, none⟩) hg).trans (hc k hlt 6 (by omega))
      have HF := hid (flat_succ G k)
      clear hc
      generalize G k 0 = z0 at *
      generalize G k 1 = z1 at *
      generalize G k 2 = z2 at *
      generalize G k 3 = z3 at *
      generalize G k 4 = z4 at *
      generalize G k 5 = z5 at *
      generalize G k 6 = z6 at *
      go_wp2_with fail
      refine (of_any z0 z1 z2 z3 z4 z5 z6 wr).mono ?_
      rintro e w2 ⟨rfl, hb2⟩
      have hown2 : (w2.alloc (.cells #[.int .i64 z0, .int .i64 z1, .int .i64 z2, .int .i64 z3, .int .i64 z4, .int .i64 z5, .int .i64 z6] 27)).ownsRow w1.heap.size 27 7 (.slice pa k pc) k (flat G k) := (owns_keep HO.out (fun g hg => hb2.block g (HO.out.lt g hg).2)).alloc _
      have hs2 : w1.heap.size ≤ w2.heap.size := Nat.le_trans HB.out.size hb2.size
      have HB2 := hid ((HB.out.trans (hb2.mono HB.out.size)).alloc hs2 (.cells #[.int .i64 z0, .int .i64 z1, .int .i64 z2, .int .i64 z3, .int .i64 z4, .int .i64 z5, .int .i64 z6] 27))
      clear c0 c1 c2 c3 c4 c5 c6 hb2
      go_wp2_with (at_builtin; (refine wpList_append_own_at _ rfl _ _ 25 rfl w1.heap.size 27 i0 (.agg #[.int .i64 0, .int .i64 0, .int .i64 0, .int .i64 0, .int .i64 0, .int .i64 0, .int .i64 0]) 7 56 Try.underlying25 hi hz0 hz1 hz2 rfl (by decide) (Value.slice pa k pc) _ _ rfl hown2 ⟨w2.heap.size, 0, none⟩ 1 1 [.int .i64 z0, .int .i64 z1, .int .i64 z2, .int .i64 z3, .int .i64 z4, .int .i64 z5, .int .i64 z6] rfl ?c1 ?c2 ?c3 ?c4 ?c5 ?c6 ?_); rotate_left 6; intro v6 w6 hown6 hgr6 hnil6 hat6)
      case c1 => rfl
      case c2 =>
        intro j u hj
        rw [Go.WideShapes.add_plain, Nat.zero_add]
        exact GurC.one w2 _ _ (by simpa using hj)
      case c3 => simp [Value.oneCell']
      case c4 => unfold maxLen; omega
      case c5 => omega
      case c6 => simp; omega
      rw [HF.out] at hown6
      have HO6 := hid hown6
      have HB6 : Hid (Below w1.heap.size w1 w6) := hid (HB2.out.grown hgr6 (by simp; omega) (fun j e => (HO.out.lt j e).1))
      clear hown6 hgr6 hnil6 hat6 hown2
      go_wp2_with fail
      go_roundw
      case rel => exact ⟨k + 1, v6, rfl, by omega, by go_num, HO6.out, HB6.out⟩
      case measure => simp [intOf]; omega
    · obtain rfl : k = m := by omega
      have HGa := hid (rows_owned HO.out HG.out.2)
      have HRw := hid (HW1.out.of_block (HB.out.block w.heap.size hs1))
      have HGw := hid (HG1.out.below HB.out)
      have HIw := hid (HI1.out.below HB.out)
      have HNw := hid (HN1.out.below HB.out)
      have hs3 : w.heap.size < wr.heap.size := Nat.lt_of_lt_of_le hs1 HB.out.size
      have HBw := hid (blw HB1.out HB.out)
      clear HG1 HI1 HN1 HW1 HB HB1 HO hs1
      have HX1 := hid (fun wx (hx : Below wr.heap.size wr wx) => gsys (some ⟨w.heap.size, 0, none⟩) pa n (n + 9) k pc F G t r0 r2 r1 wx (by omega) HR.out (HNw.out.below hx) (HGa.out.below hx))
      have HX2 := hid (fun wx (hx : Below wr.heap.size wr wx) => rsys a va n cap k vc F G t r0 r2 r1 wx (by omega) HR.out (HIw.out.below hx) (HGw.out.below hx))
      have HX3 := hid (fun wx (hx : Below wr.heap.size wr wx) => kept_sys a w.heap.size n cap F wx hn (HIw.out.below hx) (HRw.out.of_block (hx.block w.heap.size hs3)))
      go_wp2_with fail
      refine (HX1.out wr (Below.refl _ _)).mono ?_
      rintro e w4 ⟨rfl, hb4⟩
      have HB4 := hid hb4
      clear hb4 HX1
      go_wp2_with fail
      refine (HX2.out w4 HB4.out).mono ?_
      rintro e w5 ⟨rfl, hb5⟩
      have HB5 := hid (blw HB4.out hb5)
      clear hb5 HX2 HB4
      go_wp2_with fail
      refine (HL.out w5).mono ?_
      rintro e w6 ⟨rfl, hb6⟩
      have HB6 := hid (blw HB5.out hb6)
      clear hb6 HB5
      have hne : (r1 != r1) = false := by cases r1 <;> rfl
      go_wp2_with fail
      refine (HX3.out w6 HB6.out).mono ?_
      rintro e w7 ⟨rfl, q7, hb7⟩
      have HB7 : Hid (Below wr.heap.size wr w7) := hid (by rw [← hb7]; exact belN HB6.out _)
      clear hb7 HX3 HB6
      go_wp2_with fail
      obtain ⟨Pb, hPb⟩ : ∃ Pb : World → Prop, Pb = fun wx => Below wr.heap.size wr wx := ⟨_, rfl⟩
      have HPs : Hid (∀ wx wy, Pb wx → Below wx.heap.size wx wy → Pb wy) := hid (by rw [hPb]; exact fun wx wy h1 h2 => blw h1 h2)
      have HPd : Hid (∀ wx, Pb wx → Pb wx.drew) := hid (by rw [hPb]; exact fun wx h1 => h1.drew)
      have HPw : Hid (∀ wx, Pb wx → Below w.heap.size w wx) := hid (by rw [hPb]; exact fun wx h1 => blw HBw.out h1)
      have HPi : Hid (∀ wx, Pb wx → RowsI wx a n 5 F) := hid (by rw [hPb]; exact fun wx h1 => HIw.out.below h1)
      have HPg : Hid (∀ wx, Pb wx → RowsI wx va k 7 G) := hid (by rw [hPb]; exact fun wx h1 => HGw.out.below h1)
      have HPa : Hid (∀ wx, Pb wx → RowsI wx pa k 7 G) := hid (by rw [hPb]; exact fun wx h1 => HGa.out.below h1)
      have hp7 : Pb w7 := by rw [hPb]; exact HB7.out
      have HP7 := hid hp7
      clear hPb hp7 HIw HGw HGa HRw HNw HBw HB7 HI HG hs3
      go_loopw [16] (fun i wx => ∃ p : Nat, p ≤ n ∧ i = .int .i64 p ∧ Pb wx) (fun i _ => n - (intOf i).toNat)
      case atStart => exact ⟨0, Nat.zero_le _, rfl, HP7.out⟩
      case round =>
        obtain ⟨p, hp, rfl, hbel⟩ := hrel
        have HB := hid hbel
        clear hbel HP7
        by_cases hlp : p < n
        · by_cases hk0 : 0 < k
          · obtain ⟨g1, o1, rfl, hg1, hc1⟩ := (HPi.out _ HB.out).1 (by omega)
            obtain ⟨g2, o2, rfl, hg2, hc2⟩ := (HPg.out _ HB.out).1 hk0
            obtain ⟨g3, o3, rfl, hg3, hc3⟩ := (HPa.out _ HB.out).1 hk0
            have c0 : wr.cell? ⟨g1, o1 + p * 5, none⟩ = some (.int .i64 (F p 0)) := hc1 p hlp 0 (by omega)
            have c1 : wr.cell? ⟨g1, o1 + p * 5 + 1, none⟩ = some (.int .i64 (F p 1)) := hc1 p hlp 1 (by omega)
            have c2 : wr.cell? ⟨g1, o1 + p * 5 + 2, none⟩ = some (.int .i64 (F p 2)) := hc1 p hlp 2 (by omega)
            have c3 : wr.cell? ⟨g1, o1 + p * 5 + 3, none⟩ = some (.int .i64 (F p 3)) := hc1 p hlp 3 (by omega)
            have c4 : wr.cell? ⟨g1, o1 + p * 5 + 4, none⟩ = some (.int .i64 (F p 4)) := hc1 p hlp 4 (by omega)
            have d0 : wr.cell? ⟨g2, o2, none⟩ = some (.int .i64 (G 0 0)) := by have := hc2 0 hk0 0 (by omega); rwa [show o2 + 0 * 7 + 0 = o2 by omega] at this
            have d1 : wr.cell? ⟨g2, o2 + 1, none⟩ = some (.int .i64 (G 0 1)) := by have := hc2 0 hk0 1 (by omega); rwa [show o2 + 0 * 7 + 1 = o2 + 1 by omega] at this
            have d2 : wr.cell? ⟨g2, o2 + 2, none⟩ = some (.int .i64 (G 0 2)) := by have := hc2 0 hk0 2 (by omega); rwa [show o2 + 0 * 7 + 2 = o2 + 2 by omega] at this
            have d3 : wr.cell? ⟨g2, o2 + 3, none⟩ = some (.int .i64 (G 0 3)) := by have := hc2 0 hk0 3 (by omega); rwa [show o2 + 0 * 7 + 3 = o2 + 3 by omega] at this
            have d4 : wr.cell? ⟨g2, o2 + 4, none⟩ = some (.int .i64 (G 0 4)) := by have := hc2 0 hk0 4 (by omega); rwa [show o2 + 0 * 7 + 4 = o2 + 4 by omega] at this
            have d5 : wr.cell? ⟨g2, o2 + 5, none⟩ = some (.int .i64 (G 0 5)) := by have := hc2 0 hk0 5 (by omega); rwa [show o2 + 0 * 7 + 5 = o2 + 5 by omega] at this
            have d6 : wr.cell? ⟨g2, o2 + 6, none⟩ = some (.int .i64 (G 0 6)) := by have := hc2 0 hk0 6 (by omega); rwa [show o2 + 0 * 7 + 6 = o2 + 6 by omega] at this
            have e0 : wr.cell? ⟨g3, o3, none⟩ = some (.int .i64 (G 0 0)) := by have := hc3 0 hk0 0 (by omega); rwa [show o3 + 0 * 7 + 0 = o3 by omega] at this
            have e1 : wr.cell? ⟨g3, o3 + 1, none⟩ = some (.int .i64 (G 0 1)) := by have := hc3 0 hk0 1 (by omega); rwa [show o3 + 0 * 7 + 1 = o3 + 1 by omega] at this
            have e2 : wr.cell? ⟨g3, o3 + 2, none⟩ = some (.int .i64 (G 0 2)) := by have := hc3 0 hk0 2 (by omega); rwa [show o3 + 0 * 7 + 2 = o3 + 2 by omega] at this
            have e3 : wr.cell? ⟨g3, o3 + 3, none⟩ = some (.int .i64 (G 0 3)) := by have := hc3 0 hk0 3 (by omega); rwa [show o3 + 0 * 7 + 3 = o3 + 3 by omega] at this
            have e4 : wr.cell? ⟨g3, o3 + 4, none⟩ = some (.int .i64 (G 0 4)) := by have := hc3 0 hk0 4 (by omega); rwa [show o3 + 0 * 7 + 4 = o3 + 4 by omega] at this
            have e5 : wr.cell? ⟨g3, o3 + 5, none⟩ = some (.int .i64 (G 0 5)) := by have := hc3 0 hk0 5 (by omega); rwa [show o3 + 0 * 7 + 5 = o3 + 5 by omega] at this
            have e6 : wr.cell? ⟨g3, o3 + 6, none⟩ = some (.int .i64 (G 0 6)) := by have := hc3 0 hk0 6 (by omega); rwa [show o3 + 0 * 7 + 6 = o3 + 6 by omega] at this
            have HA1 := hid (H1.out p)
            have HA2 := hid (H2.out p)
            have HA3 := hid (H3.out p)
            have HA4 := hid (H4.out p)
            clear hc1 hc2 hc3 H1 H2 H3 H4 HL HR
            unfold Ret at HA1 HA2 HA3 HA4
            obtain ⟨b, hb⟩ : ∃ b, bS p = b := ⟨_, rfl⟩
            obtain ⟨s, hs⟩ : ∃ s, sS p = s := ⟨_, rfl⟩
            rw [hb] at HA1 HA2
            rw [hs] at HA3 HA4
            clear hb hs
            have hss : (s.toList == s.toList) = true := by simp
            generalize F p 0 = x0 at *
            generalize F p 1 = x1 at *
            generalize F p 2 = x2 at *
            generalize F p 3 = x3 at *
            generalize F p 4 = x4 at *
            generalize G 0 0 = z0 at *
            generalize G 0 1 = z1 at *
            generalize G 0 2 = z2 at *
            generalize G 0 3 = z3 at *
            generalize G 0 4 = z4 at *
            generalize G 0 5 = z5 at *
            generalize G 0 6 = z6 at *
            go_upto_region 14 with fail
            go_cut [122] (fun s wx => s = .bool false ∧ Pb wx)
            case first =>
              cases b <;>
              go_region_held3 (fun w' => w'.cell? ⟨g1, o1 + p * 5, none⟩ = some (.int .i64 x0) ∧ w'.cell? ⟨g1, o1 + p * 5 + 1, none⟩ = some (.int .i64 x1) ∧ w'.cell? ⟨g1, o1 + p * 5 + 2, none⟩ = some (.int .i64 x2) ∧ w'.cell? ⟨g1, o1 + p * 5 + 3, none⟩ = some (.int .i64 x3) ∧ w'.cell? ⟨g1, o1 + p * 5 + 4, none⟩ = some (.int .i64 x4) ∧ w'.cell? ⟨g2, o2, none⟩ = some (.int .i64 z0) ∧ w'.cell? ⟨g2, o2 + 1, none⟩ = some (.int .i64 z1) ∧ w'.cell? ⟨g2, o2 + 2, none⟩ = some (.int .i64 z2) ∧ w'.cell? ⟨g2, o2 + 3, none⟩ = some (.int .i64 z3) ∧ w'.cell? ⟨g2, o2 + 4, none⟩ = some (.int .i64 z4) ∧ w'.cell? ⟨g2, o2 + 5, none⟩ = some (.int .i64 z5) ∧ w'.cell? ⟨g2, o2 + 6, none⟩ = some (.int .i64 z6) ∧ w'.cell? ⟨g3, o3, none⟩ = some (.int .i64 z0) ∧ w'.cell? ⟨g3, o3 + 1, none⟩ = some (.int .i64 z1) ∧ w'.cell? ⟨g3, o3 + 2, none⟩ = some (.int .i64 z2) ∧ w'.cell? ⟨g3, o3 + 3, none⟩ = some (.int .i64 z3) ∧ w'.cell? ⟨g3, o3 + 4, none⟩ = some (.int .i64 z4) ∧ w'.cell? ⟨g3, o3 + 5, none⟩ = some (.int .i64 z5) ∧ w'.cell? ⟨g3, o3 + 6, none⟩ = some (.int .i64 z6)) (go_keep)
                (first
                  | (go_at_call 14; (with_reducible refine (HA1.out _).mono ?_); rintro e w4 ⟨rfl, hb4⟩
                     have c0 : w4.cell? ⟨g1, o1 + p * 5, none⟩ = some (.int .i64 x0) := kc hb4 (by first | exact c0 | assumption)
                     have c1 : w4.cell? ⟨g1, o1 + p * 5 + 1, none⟩ = some (.int .i64 x1) := kc hb4 (by first | exact c1 | assumption)
                     have c2 : w4.cell? ⟨g1, o1 + p * 5 + 2, none⟩ = some (.int .i64 x2) := kc hb4 (by first | exact c2 | assumption)
                     have c3 : w4.cell? ⟨g1, o1 + p * 5 + 3, none⟩ = some (.int .i64 x3) := kc hb4 (by first | exact c3 | assumption)
                     have c4 : w4.cell? ⟨g1, o1 + p * 5 + 4, none⟩ = some (.int .i64 x4) := kc hb4 (by first | exact c4 | assumption)
                     have d0 : w4.cell? ⟨g2, o2, none⟩ = some (.int .i64 z0) := kc hb4 (by first | exact d0 | assumption)
                     have d1 : w4.cell? ⟨g2, o2 + 1, none⟩ = some (.int .i64 z1) := kc hb4 (by first | exact d1 | assumption)
                     have d2 : w4.cell? ⟨g2, o2 + 2, none⟩ = some (.int .i64 z2) := kc hb4 (by first | exact d2 | assumption)
                     have d3 : w4.cell? ⟨g2, o2 + 3, none⟩ = some (.int .i64 z3) := kc hb4 (by first | exact d3 | assumption)
                     have d4 : w4.cell? ⟨g2, o2 + 4, none⟩ = some (.int .i64 z4) := kc hb4 (by first | exact d4 | assumption)
                     have d5 : w4.cell? ⟨g2, o2 + 5, none⟩ = some (.int .i64 z5) := kc hb4 (by first | exact d5 | assumption)
                     have d6 : w4.cell? ⟨g2, o2 + 6, none⟩ = some (.int .i64 z6) := kc hb4 (by first | exact d6 | assumption)
                     have e0 : w4.cell? ⟨g3, o3, none⟩ = some (.int .i64 z0) := kc hb4 (by first | exact e0 | assumption)
                     have e1 : w4.cell? ⟨g3, o3 + 1, none⟩ = some (.int .i64 z1) := kc hb4 (by first | exact e1 | assumption)
                     have e2 : w4.cell? ⟨g3, o3 + 2, none⟩ = some (.int .i64 z2) := kc hb4 (by first | exact e2 | assumption)
                     have e3 : w4.cell? ⟨g3, o3 + 3, none⟩ = some (.int .i64 z3) := kc hb4 (by first | exact e3 | assumption)
                     have e4 : w4.cell? ⟨g3, o3 + 4, none⟩ = some (.int .i64 z4) := kc hb4 (by first | exact e4 | assumption)
                     have e5 : w4.cell? ⟨g3, o3 + 5, none⟩ = some (.int .i64 z5) := kc hb4 (by first | exact e5 | assumption)
                     have e6 : w4.cell? ⟨g3, o3 + 6, none⟩ = some (.int .i64 z6) := kc hb4 (by first | exact e6 | assumption)
                     have HB := hid (HPs.out _ _ (by first | exact HB.out | exact HPd.out _ HB.out) hb4))
                  | (go_at_call 15; (with_reducible refine (HA2.out _).mono ?_); rintro e w4 ⟨rfl, hb4⟩
                     have c0 : w4.cell? ⟨g1, o1 + p * 5, none⟩ = some (.int .i64 x0) := kc hb4 (by first | exact c0 | assumption)
                     have c1 : w4.cell? ⟨g1, o1 + p * 5 + 1, none⟩ = some (.int .i64 x1) := kc hb4 (by first | exact c1 | assumption)
                     have c2 : w4.cell? ⟨g1, o1 + p * 5 + 2, none⟩ = some (.int .i64 x2) := kc hb4 (by first | exact c2 | assumption)
                     have c3 : w4.cell? ⟨g1, o1 + p * 5 + 3, none⟩ = some (.int .i64 x3) := kc hb4 (by first | exact c3 | assumption)
                     have c4 : w4.cell? ⟨g1, o1 + p * 5 + 4, none⟩ = some (.int .i64 x4) := kc hb4 (by first | exact c4 | assumption)
                     have d0 : w4.cell? ⟨g2, o2, none⟩ = some (.int .i64 z0) := kc hb4 (by first | exact d0 | assumption)
                     have d1 : w4.cell? ⟨g2, o2 + 1, none⟩ = some (.int .i64 z1) := kc hb4 (by first | exact d1 | assumption)
                     have d2 : w4.cell? ⟨g2, o2 + 2, none⟩ = some (.int .i64 z2) := kc hb4 (by first | exact d2 | assumption)
                     have d3 : w4.cell? ⟨g2, o2 + 3, none⟩ = some (.int .i64 z3) := kc hb4 (by first | exact d3 | assumption)
                     have d4 : w4.cell? ⟨g2, o2 + 4, none⟩ = some (.int .i64 z4) := kc hb4 (by first | exact d4 | assumption)
                     have d5 : w4.cell? ⟨g2, o2 + 5, none⟩ = some (.int .i64 z5) := kc hb4 (by first | exact d5 | assumption)
                     have d6 : w4.cell? ⟨g2, o2 + 6, none⟩ = some (.int .i64 z6) := kc hb4 (by first | exact d6 | assumption)
                     have e0 : w4.cell? ⟨g3, o3, none⟩ = some (.int .i64 z0) := kc hb4 (by first | exact e0 | assumption)
                     have e1 : w4.cell? ⟨g3, o3 + 1, none⟩ = some (.int .i64 z1) := kc hb4 (by first | exact e1 | assumption)
                     have e2 : w4.cell? ⟨g3, o3 + 2, none⟩ = some (.int .i64 z2) := kc hb4 (by first | exact e2 | assumption)
                     have e3 : w4.cell? ⟨g3, o3 + 3, none⟩ = some (.int .i64 z3) := kc hb4 (by first | exact e3 | assumption)
                     have e4 : w4.cell? ⟨g3, o3 + 4, none⟩ = some (.int .i64 z4) := kc hb4 (by first | exact e4 | assumption)
                     have e5 : w4.cell? ⟨g3, o3 + 5, none⟩ = some (.int .i64 z5) := kc hb4 (by first | exact e5 | assumption)
                     have e6 : w4.cell? ⟨g3, o3 + 6, none⟩ = some (.int .i64 z6) := kc hb4 (by first | exact e6 | assumption)
                     have HB := hid (HPs.out _ _ (by first | exact HB.out | exact HPd.out _ HB.out) hb4))
                  | (go_at_call 16; (with_reducible refine (HA3.out _).mono ?_); rintro e w4 ⟨rfl, hb4⟩
                     have c0 : w4.cell? ⟨g1, o1 + p * 5, none⟩ = some (.int .i64 x0) := kc hb4 (by first | exact c0 | assumption)
                     have c1 : w4.cell? ⟨g1, o1 + p * 5 + 1, none⟩ = some (.int .i64 x1) := kc hb4 (by first | exact c1 | assumption)
                     have c2 : w4.cell? ⟨g1, o1 + p * 5 + 2, none⟩ = some (.int .i64 x2) := kc hb4 (by first | exact c2 | assumption)
                     have c3 : w4.cell? ⟨g1, o1 + p * 5 + 3, none⟩ = some (.int .i64 x3) := kc hb4 (by first | exact c3 | assumption)
                     have c4 : w4.cell? ⟨g1, o1 + p * 5 + 4, none⟩ = some (.int .i64 x4) := kc hb4 (by first | exact c4 | assumption)
                     have d0 : w4.cell? ⟨g2, o2, none⟩ = some (.int .i64 z0) := kc hb4 (by first | exact d0 | assumption)
                     have d1 : w4.cell? ⟨g2, o2 + 1, none⟩ = some (.int .i64 z1) := kc hb4 (by first | exact d1 | assumption)
                     have d2 : w4.cell? ⟨g2, o2 + 2, none⟩ = some (.int .i64 z2) := kc hb4 (by first | exact d2 | assumption)
                     have d3 : w4.cell? ⟨g2, o2 + 3, none⟩ = some (.int .i64 z3) := kc hb4 (by first | exact d3 | assumption)
                     have d4 : w4.cell? ⟨g2, o2 + 4, none⟩ = some (.int .i64 z4) := kc hb4 (by first | exact d4 | assumption)
                     have d5 : w4.cell? ⟨g2, o2 + 5, none⟩ = some (.int .i64 z5) := kc hb4 (by first | exact d5 | assumption)
                     have d6 : w4.cell? ⟨g2, o2 + 6, none⟩ = some (.int .i64 z6) := kc hb4 (by first | exact d6 | assumption)
                     have e0 : w4.cell? ⟨g3, o3, none⟩ = some (.int .i64 z0) := kc hb4 (by first | exact e0 | assumption)
                     have e1 : w4.cell? ⟨g3, o3 + 1, none⟩ = some (.int .i64 z1) := kc hb4 (by first | exact e1 | assumption)
                     have e2 : w4.cell? ⟨g3, o3 + 2, none⟩ = some (.int .i64 z2) := kc hb4 (by first | exact e2 | assumption)
                     have e3 : w4.cell? ⟨g3, o3 + 3, none⟩ = some (.int .i64 z3) := kc hb4 (by first | exact e3 | assumption)
                     have e4 : w4.cell? ⟨g3, o3 + 4, none⟩ = some (.int .i64 z4) := kc hb4 (by first | exact e4 | assumption)
                     have e5 : w4.cell? ⟨g3, o3 + 5, none⟩ = some (.int .i64 z5) := kc hb4 (by first | exact e5 | assumption)
                     have e6 : w4.cell? ⟨g3, o3 + 6, none⟩ = some (.int .i64 z6) := kc hb4 (by first | exact e6 | assumption)
                     have HB := hid (HPs.out _ _ (by first | exact HB.out | exact HPd.out _ HB.out) hb4))
                  | (go_at_call 17; (with_reducible refine (HA4.out _).mono ?_); rintro e w4 ⟨rfl, hb4⟩
                     have c0 : w4.cell? ⟨g1, o1 + p * 5, none⟩ = some (.int .i64 x0) := kc hb4 (by first | exact c0 | assumption)
                     have c1 : w4.cell? ⟨g1, o1 + p * 5 + 1, none⟩ = some (.int .i64 x1) := kc hb4 (by first | exact c1 | assumption)
                     have c2 : w4.cell? ⟨g1, o1 + p * 5 + 2, none⟩ = some (.int .i64 x2) := kc hb4 (by first | exact c2 | assumption)
                     have c3 : w4.cell? ⟨g1, o1 + p * 5 + 3, none⟩ = some (.int .i64 x3) := kc hb4 (by first | exact c3 | assumption)
                     have c4 : w4.cell? ⟨g1, o1 + p * 5 + 4, none⟩ = some (.int .i64 x4) := kc hb4 (by first | exact c4 | assumption)
                     have d0 : w4.cell? ⟨g2, o2, none⟩ = some (.int .i64 z0) := kc hb4 (by first | exact d0 | assumption)
                     have d1 : w4.cell? ⟨g2, o2 + 1, none⟩ = some (.int .i64 z1) := kc hb4 (by first | exact d1 | assumption)
                     have d2 : w4.cell? ⟨g2, o2 + 2, none⟩ = some (.int .i64 z2) := kc hb4 (by first | exact d2 | assumption)
                     have d3 : w4.cell? ⟨g2, o2 + 3, none⟩ = some (.int .i64 z3) := kc hb4 (by first | exact d3 | assumption)
                     have d4 : w4.cell? ⟨g2, o2 + 4, none⟩ = some (.int .i64 z4) := kc hb4 (by first | exact d4 | assumption)
                     have d5 : w4.cell? ⟨g2, o2 + 5, none⟩ = some (.int .i64 z5) := kc hb4 (by first | exact d5 | assumption)
                     have d6 : w4.cell? ⟨g2, o2 + 6, none⟩ = some (.int .i64 z6) := kc hb4 (by first | exact d6 | assumption)
                     have e0 : w4.cell? ⟨g3, o3, none⟩ = some (.int .i64 z0) := kc hb4 (by first | exact e0 | assumption)
                     have e1 : w4.cell? ⟨g3, o3 + 1, none⟩ = some (.int .i64 z1) := kc hb4 (by first | exact e1 | assumption)
                     have e2 : w4.cell? ⟨g3, o3 + 2, none⟩ = some (.int .i64 z2) := kc hb4 (by first | exact e2 | assumption)
                     have e3 : w4.cell? ⟨g3, o3 + 3, none⟩ = some (.int .i64 z3) := kc hb4 (by first | exact e3 | assumption)
                     have e4 : w4.cell? ⟨g3, o3 + 4, none⟩ = some (.int .i64 z4) := kc hb4 (by first | exact e4 | assumption)
                     have e5 : w4.cell? ⟨g3, o3 + 5, none⟩ = some (.int .i64 z5) := kc hb4 (by first | exact e5 | assumption)
                     have e6 : w4.cell? ⟨g3, o3 + 6, none⟩ = some (.int .i64 z6) := kc hb4 (by first | exact e6 | assumption)
                     have HB := hid (HPs.out _ _ (by first | exact HB.out | exact HPd.out _ HB.out) hb4)))
              all_goals
                go_wp2_with fail
                go_meet
                exact ⟨by simp, HB.out⟩
            case rest =>
              obtain ⟨rfl, hbx⟩ := hcut
              have HBX := hid hbx
              clear hbx c0 c1 c2 c3 c4 d0 d1 d2 d3 d4 d5 d6 e0 e1 e2 e3 e4 e5 e6
              go_wp2_with fail
              go_roundw
              case rel => exact ⟨p + 1, by omega, by go_num, HBX.out⟩
              case measure => simp [intOf]; omega
          · go_wp2_with fail
            go_ret
            exact ⟨rfl, HPw.out _ HB.out⟩
        · obtain rfl : p = n := by omega
          go_wp2_with fail
          go_ret
          exact ⟨rfl, HPw.out _ HB.out⟩

end Go.Proofs.Ytoilakjlnflpbaa.GurE
