/- The walk of WorldTicks: it returns true for every time and ticks. -/
import Derived.Test.YtekfmpnfpoapfaaWldD
import Derived.OwnWalk
import Derived.WalkSmall
import Derived.Laws.AppendOwnNone
import Derived.Maps.AppendAt
namespace Go.Proofs.Ytekfmpnfpoapfaa.WldF
open Go.ChangeShapes Go.WideShapes Go.ChangeAt Go.RowKit Base ClkM Clk WldA WldB WldC WldD

theorem infoInt : (Try.prog.info? 3).map (fun i => (i.zero, i.size, i.bytes)) = some (some (.int .i64 0), 1, 8) := by kernel_rfl

theorem grown_set (w : World) (a : Addr) (v : Value) : w.grownBy (w.setCell a v) (some a.block) := by
  refine ⟨rfl, rfl, rfl, by simp, ?_⟩
  intro k _ hk
  exact heap_setCell_other w a k v (fun h => hk (by rw [h]))

/-- what is owned above a block stays owned, when that block alone turns -/
theorem own_keep {w w' : World} {base b : Nat} {e : TypeId} {size : Nat} {v : Value} {n : Nat} {xs : List Value} (h : w.ownsRow base e size v n xs) (hg : w.grownBy w' (some b)) (hb : b < base) :
    w'.ownsRow base e size v n xs := by
  refine h.kept hg (.inr ?_)
  intro hv
  have := (h.lt b hv).1
  omega

/-- the sum of the first k -/
def sumTo (f : Nat → Int) : Nat → Int
  | 0 => 0
  | k + 1 => sumTo f k + f k

theorem sumTo_le (f : Nat → Int) (M : Int) (h : ∀ i, 0 ≤ f i ∧ f i ≤ M) (k : Nat) : 0 ≤ sumTo f k ∧ sumTo f k ≤ k * M := by
  induction k with
  | zero => simp [sumTo]
  | succ k ih =>
    have := h k
    simp only [sumTo]
    have e : ((k + 1 : Nat) : Int) * M = k * M + M := by rw [Int.natCast_add, Int.add_mul]; simp
    omega

/-- the first k of a row -/
def firsts (f : Nat → Int) (k : Nat) : List Int := (List.range k).map f

theorem firsts_succ (f : Nat → Int) (k : Nat) : firsts f (k + 1) = firsts f k ++ [f k] := by simp [firsts, List.range_succ]
theorem firsts_len (f : Nat → Int) (k : Nat) : (firsts f k).length = k := by simp [firsts]
theorem firsts_get (f : Nat → Int) (k i : Nat) (h : i < k) : (firsts f k).getD i 0 = f i := by simp [firsts, List.getD, h]

theorem tickF_firsts (s : Int) (f : Nat → Int) (k : Nat) (h0 : ∀ i, 0 ≤ f i) (h : s + sumTo f k ≤ 1152921504606846976) : tickF s (firsts f k) = some (s + sumTo f k) := by
  induction k with
  | zero => simp [firsts, tickF, sumTo]
  | succ k ih =>
    have := h0 k
    simp only [sumTo] at h ⊢
    rw [firsts_succ, tickF_snoc, ih (by omega)]
    simp only [Option.bind_some]
    rw [if_pos (by omega)]
    congr 1
    omega

/-- what an owned row of numbers is: nil where there is none, else a row of the call's own -/
theorem own_row {w : World} {base : Nat} {v : Value} {n : Nat} {xs : List Int} (h : w.ownsRow base 3 1 v n (xs.map (Value.int .i64))) (hn : 0 < n) (hx : xs.length = n) :
    ∃ g cap, v = .slice (some ⟨g, 0, none⟩) n cap ∧ base ≤ g ∧ g < w.heap.size ∧ ∀ i, i < n → w.cell? ⟨g, 0 + i, none⟩ = some (.int .i64 (xs.getD i 0)) := by
  obtain ⟨hl, h⟩ := h
  rcases h with ⟨_, h0⟩ | ⟨g, cap, cur, hv, hg, hh, hc, hm, hs, hcur⟩
  · omega
  · refine ⟨g, cap, hv, hg, ?_, fun i hi => ?_⟩
    · by_cases hlt : g < w.heap.size
      · exact hlt
      · rw [Array.getElem?_eq_none (by omega)] at hh; cases hh
    · have e : cur[i]? = some (.int .i64 (xs.getD i 0)) := by
        have h1 : (cur.toList.take (n * 1))[i]? = (xs.map (Value.int .i64))[i]? := by rw [hcur]
        rw [List.getElem?_take, if_pos (by omega), List.getElem?_map] at h1
        rw [← Array.getElem?_toList, h1]
        have hi2 : i < xs.length := by omega
        simp [List.getD, hi2]
      simp [World.cell?, hh, e]

theorem tick_own (b base n : Nat) (s : Int) (v : Value) (xs : List Int) (w : World) (h : w.cell? ⟨b, 0, none⟩ = some (.int .i64 s)) (hf : w.frozen? ⟨b, 0, none⟩ = false)
    (ho : w.ownsRow base 3 1 v n (xs.map (Value.int .i64))) (hx : xs.length = n) (hn : n ≤ 9223372036854775807) (hs : IsT s) :
    Calls Try.prog 16 #[.pointer (some ⟨b, 0, none⟩), v] w (TickPost b (tickF s xs) w) := by
  by_cases h0 : n = 0
  · subst h0
    obtain rfl : xs = [] := List.length_eq_zero_iff.1 hx
    rcases ho.2 with ⟨rfl, _⟩ | ⟨g, cap, cur, rfl, _⟩
    · exact tick_nil b s w h hf
    · exact tick_core b s g 0 0 cap [] w h hf (by omega) (hid rfl) (hid fun i hi => by omega) (hid hs)
  · obtain ⟨g, cap, rfl, _, _, hc⟩ := own_row ho (by omega) hx
    exact tick_core b s g 0 n cap xs w h hf hn (hid hx) (hid hc) (hid hs)

/-- the loop's relation: a is the first clock's block -/
def Rel (W : World) (A : Nat) (s : Int) (f : Nat → Int) (len : Nat) (sum all i : Value) (wr : World) : Prop :=
  ∃ (k : Nat) (v0 : Value), v0 = all ∧ k ≤ len ∧ k ≤ 1000 ∧ i = .int .i64 k ∧ sum = .int .i64 (sumTo f k) ∧
    wr.ownsRow (A + 2) 3 1 v0 k ((firsts f k).map (Value.int .i64)) ∧
    wr.cell? ⟨A, 0, none⟩ = some (.int .i64 (s + sumTo f k)) ∧ wr.frozen? ⟨A, 0, none⟩ = false ∧
    wr.cell? ⟨A + 1, 0, none⟩ = some (.int .i64 s) ∧ wr.frozen? ⟨A + 1, 0, none⟩ = false ∧
    Below W.heap.size W wr ∧ A + 2 ≤ wr.heap.size

set_option maxRecDepth 20000 in
set_option maxHeartbeats 2000000 in
theorem ticks_core (s : Int) (f : Nat → Int) (sv : Value) (len cap : Nat) (a : Option Addr) (hsv : sv = .slice a len cap) (w : World) (hs0 : 0 ≤ s) (hs1 : s ≤ 4294967295)
    (HF : Hid (∀ i, 0 ≤ f i ∧ f i ≤ 4294967295))
    (HC : Hid (0 < len → ∃ p q, a = some ⟨p, q, none⟩ ∧ p < w.heap.size ∧ ∀ i, i < len → w.cell? ⟨p, q + i, none⟩ = some (.int .u32 (f i)))) :
    Calls Try.prog 6 #[.int .u32 s, sv] w fun e w' => e = .returned (.bool true) ∧ Below w.heap.size w w' := by
  subst hsv
  have H : Hid (IsT s) := hid ⟨hs0, by omega⟩
  obtain ⟨i0, hi, hz0, hz1, hz2⟩ := info_parts infoInt
  go_enter Try.func6, Try.ntmps6
  go_wp2_with fail
  refine (live_look _).mono ?_
  rintro e w1 ⟨rfl, hb1⟩
  go_wp2_with fail
  refine (newClock_yes s H.out _).mono ?_
  rintro e w2 ⟨rfl, rfl⟩
  go_wp2_with fail
  refine (newClock_yes s H.out _).mono ?_
  rintro e w2 ⟨rfl, rfl⟩
  have hs := hb1.size
  have HB1 := hid hb1
  clear hb1
  go_wp2_with fail
  go_loopw [9, 10, 11] (fun sum all i wr => Rel w w1.heap.size s f len sum all i wr) (fun _ _ i _ => len - (intOf i).toNat)
  case atStart =>
    refine ⟨0, .slice none 0 0, rfl, Nat.zero_le _, by omega, rfl, rfl, ?_, by simp only [sumTo, Int.add_zero]; go_cell, by go_cell, by go_cell, by go_cell, ?_, by simp⟩
    · exact ⟨rfl, .inl ⟨rfl, rfl⟩⟩
    · have hb := HB1.out; exact (by repeat (first | (with_reducible exact Below.refl _ _) | (with_reducible refine Below.setCell ?_ (by first | (simp; done) | (simp; omega) | omega) _) | (with_reducible refine Below.alloc ?_ (by first | (simp; done) | (simp; omega) | omega) _) | (with_reducible refine Below.drew ?_) | (with_reducible refine below_drewN ?_ _) | (with_reducible exact hb) | (with_reducible refine Below.trans ?_ (Below.mono hb (by first | (simp; done) | (simp; omega) | omega)))))
  case round =>
    obtain ⟨k, v0, rfl, hk, hk2, rfl, rfl, hown, c1, g1, c2, g2, hbel, hsz⟩ := hrel
    have HB := hid hbel
    have HO := hid hown
    clear hbel hown
    have hS := sumTo_le f 4294967295 HF.out k
    have hT : IsT (s + sumTo f k) := ⟨by omega, by omega⟩
    have HT := hid hT
    by_cases hlt : k < len
    · by_cases h1000 : k < 1000
      · obtain ⟨p, q, rfl, hp, hcp⟩ := HC.out (by omega)
        have hx : _ = some (Value.int .u32 (f k)) := (HB.out.cell (p := ⟨p, q + k, none⟩) hp).trans (hcp k hlt)
        have hx0 := HF.out k
        have HS : Hid (sumTo f (k + 1) = sumTo f k + f k) := hid rfl
        have HL : Hid (firsts f (k + 1) = firsts f k ++ [f k]) := hid (firsts_succ f k)
        have hz : p < wr.heap.size := by omega
        have hzA : w1.heap.size < wr.heap.size := by omega
        have hzB : w1.heap.size + 1 < wr.heap.size := by omega
        clear hcp
        generalize f k = x at *
        generalize hM : sumTo f k = M at *
        generalize firsts f k = L at *
        have hone : ∀ i, i < 1 → (wr.alloc (.cells #[.int .i64 x] 3)).cell? ⟨wr.heap.size, 0 + i, none⟩ = some (.int .i64 ([x].getD i 0)) := by
          intro i hi
          obtain rfl : i = 0 := by omega
          simp
        have HTk := hid (tick_core w1.heap.size (s + M) wr.heap.size 0 1 1 [x] (wr.alloc (.cells #[.int .i64 x] 3)) (by go_simp) (by go_simp) (by omega) (hid rfl) (hid hone) HT)
        clear hone
        have hv : tickF (s + M) [x] = some (s + M + x) := by unfold tickF; rw [if_pos (by omega)]; rfl
        rw [hv] at HTk
        go_wp2_with fail
        refine HTk.out.mono ?_
        rintro e wd ⟨rfl, hwd⟩
        have hgr : wr.grownBy wd (some w1.heap.size) := by rw [← hwd]; exact (World.grownBy_alloc wr _ _).trans (grown_set _ ⟨w1.heap.size, 0, none⟩ _)
        have k1 : wd.cell? ⟨w1.heap.size, 0, none⟩ = some (.int .i64 (s + M + x)) := by subst hwd; go_cell
        have k2 : wd.frozen? ⟨w1.heap.size, 0, none⟩ = false := by subst hwd; go_cell
        have k3 : wd.cell? ⟨w1.heap.size + 1, 0, none⟩ = some (.int .i64 s) := by subst hwd; go_cell
        have k4 : wd.frozen? ⟨w1.heap.size + 1, 0, none⟩ = false := by subst hwd; go_cell
        have k5 : wd.cell? ⟨p, q + k, none⟩ = some (.int .u32 x) := by subst hwd; go_cell
        have hsd : wr.heap.size < wd.heap.size := by rw [← hwd]; simp
        have HBd : Hid (Below w.heap.size w wd) := hid (by rw [← hwd]; have hb := HB.out; exact (by repeat (first | (with_reducible exact Below.refl _ _) | (with_reducible refine Below.setCell ?_ (by first | (simp; done) | (simp; omega) | omega) _) | (with_reducible refine Below.alloc ?_ (by first | (simp; done) | (simp; omega) | omega) _) | (with_reducible refine Below.drew ?_) | (with_reducible refine below_drewN ?_ _) | (with_reducible exact hb) | (with_reducible refine Below.trans ?_ (Below.mono hb (by first | (simp; done) | (simp; omega) | omega))))))
        have hownd := own_keep (own_keep HO.out hgr (by omega)) (World.grownBy_alloc wd (.cells #[.int .i64 x] 3) (some w1.heap.size)) (by omega)
        clear hwd HTk c1 c2 g1 g2 hx HO
        go_wp2_with (at_builtin; (refine wpList_append_own _ rfl _ _ 32 rfl (w1.heap.size + 2) 3 i0 (.int .i64 0) 1 8 Try.underlying32 hi hz0 hz1 hz2 rfl (by decide) _ _ _ rfl hownd ⟨wd.heap.size, 0, none⟩ 1 1 [.int .i64 x] rfl ?c1 ?c2 ?c3 ?c4 ?c5 ?c6 ?_); rotate_left 6; intro v w2 hown1 hgrow hnil)
        case c1 => rfl
        case c2 => exact cell_one_new _ _ _
        case c3 => exact ints_oneCell .i64 [x]
        case c4 => unfold maxLen; omega
        case c5 => omega
        case c6 => simp; omega
        have hlow : ∀ j, v0.ownBlock = some j → w1.heap.size + 2 ≤ j := fun j hj => (hownd.lt j hj).1
        have hne : ∀ b, b < w1.heap.size + 2 → some b ≠ v0.ownBlock := fun b hb hj => by have := hlow b hj.symm; omega
        have hz2 : wd.heap.size < w2.heap.size := by have := hgrow.size; simp only [World.size_alloc] at this; omega
        have hzC : w1.heap.size < wd.heap.size := by omega
        have hzD : w1.heap.size + 1 < wd.heap.size := by omega
        have hcz : ∀ b o, b < w1.heap.size + 2 → w2.cell? ⟨b, o, none⟩ = (wd.alloc (.cells #[.int .i64 x] 3)).cell? ⟨b, o, none⟩ := fun b o hb => World.cell?_of_block (hgrow.block b (by simp; omega) (hne b hb))
        have hfz : ∀ b o, b < w1.heap.size + 2 → w2.frozen? ⟨b, o, none⟩ = (wd.alloc (.cells #[.int .i64 x] 3)).frozen? ⟨b, o, none⟩ := fun b o hb => World.frozen?_of_block (hgrow.block b (by simp; omega) (hne b hb))
        have m1 : w2.cell? ⟨w1.heap.size, 0, none⟩ = some (.int .i64 (s + M + x)) := by rw [hcz _ _ (by omega)]; go_cell
        have m2 : w2.frozen? ⟨w1.heap.size, 0, none⟩ = false := by rw [hfz _ _ (by omega)]; go_cell
        have m3 : w2.cell? ⟨w1.heap.size + 1, 0, none⟩ = some (.int .i64 s) := by rw [hcz _ _ (by omega)]; go_cell
        have m4 : w2.frozen? ⟨w1.heap.size + 1, 0, none⟩ = false := by rw [hfz _ _ (by omega)]; go_cell
        have HBe : Hid (Below w.heap.size w w2) := hid (((HBd.out).alloc (by have := HBd.out.size; omega) _).grown hgrow (by have := HBd.out.size; simp; omega) (fun j hj => by have := hlow j hj; omega))
        clear hcz hfz hne hlow hgrow hnil hownd
        exact ⟨⟨k + 1, v, rfl, by omega, by omega, by go_num, by rw [HS.out], by rw [HL.out, List.map_append]; exact hown1, by rw [HS.out, m1]; congr 2; omega, m2, m3, m4, HBe.out, by omega⟩, by simp [intOf]; omega⟩
      · have h1000' : decide ((k : Int) < 1000) = false := by simp; omega
        have hres := tickF_firsts s f k (fun i => (HF.out i).1) (by omega)
        have HTk := hid (tick_own (w1.heap.size + 1) (w1.heap.size + 2) k s v0 (firsts f k) wr c2 g2 HO.out (firsts_len f k) (by omega) H.out)
        rw [hres] at HTk
        clear hres
        generalize sumTo f k = M at *
        go_wp2_with fail
        refine HTk.out.mono ?_
        rintro e w2 ⟨rfl, rfl⟩
        go_wp2_with fail
        refine (now_any w1.heap.size (s + M) _ ?_).mono ?_
        · clear HTk; go_cell
        rintro e w3 ⟨rfl, rfl⟩
        go_wp2_with fail
        go_ret
        exact ⟨rfl, by have hb := HB.out; have hz1 := hs; exact (by repeat (first | (with_reducible exact Below.refl _ _) | (with_reducible refine Below.setCell ?_ (by first | (simp; done) | (simp; omega) | omega) _) | (with_reducible refine Below.alloc ?_ (by first | (simp; done) | (simp; omega) | omega) _) | (with_reducible refine Below.drew ?_) | (with_reducible refine below_drewN ?_ _) | (with_reducible exact hb) | (with_reducible refine Below.trans ?_ (Below.mono hb (by first | (simp; done) | (simp; omega) | omega)))))⟩
    · have hk3 : ¬ k < len := hlt
      have hres := tickF_firsts s f k (fun i => (HF.out i).1) (by omega)
      have HTk := hid (tick_own (w1.heap.size + 1) (w1.heap.size + 2) k s v0 (firsts f k) wr c2 g2 HO.out (firsts_len f k) (by omega) H.out)
      rw [hres] at HTk
      clear hres
      generalize sumTo f k = M at *
      go_wp2_with fail
      refine HTk.out.mono ?_
      rintro e w2 ⟨rfl, rfl⟩
      go_wp2_with fail
      refine (now_any w1.heap.size (s + M) _ ?_).mono ?_
      · clear HTk; go_cell
      rintro e w3 ⟨rfl, rfl⟩
      go_wp2_with fail
      go_ret
      exact ⟨rfl, by have hb := HB.out; have hz1 := hs; exact (by repeat (first | (with_reducible exact Below.refl _ _) | (with_reducible refine Below.setCell ?_ (by first | (simp; done) | (simp; omega) | omega) _) | (with_reducible refine Below.alloc ?_ (by first | (simp; done) | (simp; omega) | omega) _) | (with_reducible refine Below.drew ?_) | (with_reducible refine below_drewN ?_ _) | (with_reducible exact hb) | (with_reducible refine Below.trans ?_ (Below.mono hb (by first | (simp; done) | (simp; omega) | omega)))))⟩

theorem wf_u32 {n : Int} (h : (Lit.int .u32 n).wf = true) : 0 ≤ n ∧ n ≤ 4294967295 := by
  have := Go.bounds_u32 h
  omega

theorem ticksAll (a0 : Int) (a1 : Option Addr) (len1 cap1 : Nat) (z1 : List Int) (w : World) (w0 : (Lit.int .u32 a0).wf = true) (w1 : IsRow .u32 w a1 len1 cap1 z1) :
    Calls Try.prog 6 #[.int .u32 a0, .slice a1 len1 cap1] w fun e w' => e = .returned (.bool true) ∧ Below w.heap.size w w' := by
  have h0 := wf_u32 w0
  refine ticks_core a0 (fun i => z1.getD i 0) _ len1 cap1 a1 rfl w h0.1 h0.2 (hid ?_) (hid ?_)
  · intro i
    have hz : ∀ n ∈ z1, (Lit.int .u32 n).wf = true := by
      rcases w1 with ⟨_, _, _, rfl⟩ | ⟨x, _, _, _, _, _, hw⟩
      · intro n hn; cases hn
      · exact hw
    by_cases hi : i < z1.length
    · have := wf_u32 (hz (z1.getD i 0) (by simp [List.getD, hi]))
      exact this
    · simp [List.getD, hi]
  · intro hl
    obtain ⟨p, q, rfl, hp, _, hlen, hc, _⟩ := w1.at hl
    refine ⟨p, q, rfl, hp, fun i hi => ?_⟩
    rw [hc i hi]
    simp [List.getD, hi]

end Go.Proofs.Ytekfmpnfpoapfaa.WldF
