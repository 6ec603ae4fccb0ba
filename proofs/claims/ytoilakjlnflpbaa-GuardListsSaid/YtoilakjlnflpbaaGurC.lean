/- The first rule that blocks: the closure, IndexFunc, first, guard.Systems. -/
import Derived.Test.YtoilakjlnflpbaaGurB
namespace Go.Proofs.Ytoilakjlnflpbaa.GurC
open Go.ChangeShapes Go.WideShapes Go.ChangeAt Go.RowKit Go.Deep Base Opn WldF WldG Mem GurA NumM NumE RulA Txt LisA LisD GuaA GuaB GuaE
set_option linter.unusedVariables false

/-- the first below n that is so, or n -/
def firstN (P : Nat → Bool) : Nat → Nat
  | 0 => 0
  | n + 1 => if firstN P n < n then firstN P n else if P n then n else n + 1
theorem firstN_no {P : Nat → Bool} : ∀ {n : Nat}, (∀ j, j < n → P j = false) → firstN P n = n
  | 0, _ => rfl
  | n + 1, h => by
    have e := firstN_no (fun j hj => h j (Nat.lt_succ_of_lt hj))
    show (if firstN P n < n then firstN P n else if P n then n else n + 1) = n + 1
    rw [e, if_neg (by omega), if_neg (by rw [h n (by omega)]; decide)]
theorem firstN_yes {P : Nat → Bool} : ∀ {n k : Nat}, k < n → P k = true → (∀ j, j < k → P j = false) → firstN P n = k
  | n + 1, k, hk, hp, hno => by
    show (if firstN P n < n then firstN P n else if P n then n else n + 1) = k
    by_cases e : k < n
    · rw [firstN_yes e hp hno, if_pos e]
    · obtain rfl : k = n := by omega
      rw [firstN_no hno, if_neg (by omega), if_pos hp]
theorem firstN_le (P : Nat → Bool) : ∀ n, firstN P n ≤ n
  | 0 => Nat.le_refl _
  | n + 1 => by
    show (if firstN P n < n then firstN P n else if P n then n else n + 1) ≤ n + 1
    split
    · omega
    · split <;> omega

/-- what IndexFunc tells -/
def idxN (P : Nat → Bool) (n : Nat) : Int := if firstN P n < n then (firstN P n : Int) else -1
theorem idxN_yes {P : Nat → Bool} {n k : Nat} (h : firstN P n = k) (hk : k < n) : idxN P n = k := by unfold idxN; rw [h, if_pos hk]
theorem idxN_no {P : Nat → Bool} {n : Nat} (h : firstN P n = n) : idxN P n = -1 := by unfold idxN; rw [h, if_neg (Nat.lt_irrefl _)]

theorem kc {w w' : World} {g o : Nat} {v : Value} (h : Below w.heap.size w w') (hc : w.cell? ⟨g, o, none⟩ = some v) : w'.cell? ⟨g, o, none⟩ = some v := (h.cell (p := ⟨g, o, none⟩) (World.block_lt_of_cell? _ _ hc)).trans hc
theorem blw {B : Nat} {w w1 w2 : World} (h : Below B w w1) (h2 : Below w1.heap.size w1 w2) (hs : B ≤ w.heap.size := by first | exact Nat.le_refl _ | omega) : Below B w w2 := h.trans (h2.mono (Nat.le_trans hs h.size))
theorem one (w : World) (X : Array Value) (t : TypeId) {k : Nat} {v : Value} (hk : X[k]? = some v) : (w.alloc (.cells X t)).cell? ⟨w.heap.size, k, none⟩ = some v := by
  unfold World.cell?
  rw [heap_alloc_new]
  simpa using hk

/-- what the closure hands on lies there: now's one row behind b1, the tokens in b2 -/
structure Cap (w : World) (b1 b2 : Nat) (qp th rt ld cp mo le n : Int) : Prop where
  now : ∃ g o c, w.cell? ⟨b1, 0, none⟩ = some (.slice (some ⟨g, o, none⟩) 1 c) ∧ (∀ j, j < 7 → w.cell? ⟨g, o + j, none⟩ = some (.int .i64 (nf qp th rt ld cp mo le j)))
  tok : w.cell? ⟨b2, 0, none⟩ = some (.int .i64 n)

theorem Cap.below {w w' : World} {b1 b2 : Nat} {qp th rt ld cp mo le n : Int} (h : Cap w b1 b2 qp th rt ld cp mo le n) (hb : Below w.heap.size w w') : Cap w' b1 b2 qp th rt ld cp mo le n := by
  obtain ⟨g, o, c, h1, h2⟩ := h.now
  have k1 := World.block_lt_of_cell? _ _ h1
  have k2 := World.block_lt_of_cell? _ _ h.tok
  have k3 := World.block_lt_of_cell? _ _ (h2 0 (by omega))
  exact ⟨⟨g, o, c, (hb.cell (p := ⟨b1, 0, none⟩) k1).trans h1, fun j hj => (hb.cell (p := ⟨g, o + j, none⟩) k3).trans (h2 j hj)⟩, (hb.cell (p := ⟨b2, 0, none⟩) k2).trans h.tok⟩

set_option maxRecDepth 20000 in
set_option maxHeartbeats 1000000 in
theorem clos_core (b1 b2 : Nat) (qp th rt ld cp mo le n : Int) (x0 x1 x2 x3 x4 : Int) (s : ByteArray) (b : Bool) (hb : s.toList.isEmpty = !b) (w : World) (HC : Hid (Cap w b1 b2 qp th rt ld cp mo le n))
    (H0 : Hid (∀ w, Calls Try.prog 33 #[.agg #[.int .i64 qp, .int .i64 th, .int .i64 rt, .int .i64 ld, .int .i64 cp, .int .i64 mo, .int .i64 le], .agg #[.int .i64 x0, .int .i64 x1, .int .i64 x2, .int .i64 x3, .int .i64 x4], .int .i64 n] w fun x w' => x = .returned (.string s) ∧ Below w.heap.size w w')) :
    Calls Try.prog 32 #[.agg #[.int .i64 x0, .int .i64 x1, .int .i64 x2, .int .i64 x3, .int .i64 x4], .pointer (some ⟨b1, 0, none⟩), .pointer (some ⟨b2, 0, none⟩)] w fun x w' => x = .returned (.bool b) ∧ Below w.heap.size w w' := by
  obtain ⟨W, hW⟩ : ∃ W, w.alloc (.cells #[.int .i64 x0, .int .i64 x1, .int .i64 x2, .int .i64 x3, .int .i64 x4] 38) = W := ⟨_, rfl⟩
  have hbel : Below w.heap.size w W := by rw [← hW]; exact (Below.refl _ w).alloc (Nat.le_refl _) _
  have hc := HC.out.below hbel
  obtain ⟨g, o, c, c1, hc2⟩ := hc.now
  have c2 := hc.tok
  have y0 : W.cell? ⟨g, o, none⟩ = some (.int .i64 qp) := hc2 0 (by omega)
  have y1 : W.cell? ⟨g, o + 1, none⟩ = some (.int .i64 th) := hc2 1 (by omega)
  have y2 : W.cell? ⟨g, o + 2, none⟩ = some (.int .i64 rt) := hc2 2 (by omega)
  have y3 : W.cell? ⟨g, o + 3, none⟩ = some (.int .i64 ld) := hc2 3 (by omega)
  have y4 : W.cell? ⟨g, o + 4, none⟩ = some (.int .i64 cp) := hc2 4 (by omega)
  have y5 : W.cell? ⟨g, o + 5, none⟩ = some (.int .i64 mo) := hc2 5 (by omega)
  have y6 : W.cell? ⟨g, o + 6, none⟩ = some (.int .i64 le) := hc2 6 (by omega)
  have z0 : W.cell? ⟨w.heap.size, 0, none⟩ = some (.int .i64 x0) := by rw [← hW]; exact one w _ _ rfl
  have z1 : W.cell? ⟨w.heap.size, 1, none⟩ = some (.int .i64 x1) := by rw [← hW]; exact one w _ _ rfl
  have z2 : W.cell? ⟨w.heap.size, 2, none⟩ = some (.int .i64 x2) := by rw [← hW]; exact one w _ _ rfl
  have z3 : W.cell? ⟨w.heap.size, 3, none⟩ = some (.int .i64 x3) := by rw [← hW]; exact one w _ _ rfl
  have z4 : W.cell? ⟨w.heap.size, 4, none⟩ = some (.int .i64 x4) := by rw [← hW]; exact one w _ _ rfl
  have HB := hid hbel
  have H := hid H0.out
  clear hbel hc hc2 HC H0
  go_enter Try.func32, Try.ntmps32
  go_wp2_with fail
  go_region_held3 (fun w' => w'.cell? ⟨b1, 0, none⟩ = some (.slice (some ⟨g, o, none⟩) 1 c) ∧ w'.cell? ⟨b2, 0, none⟩ = some (.int .i64 n) ∧ w'.cell? ⟨g, o, none⟩ = some (.int .i64 qp) ∧ w'.cell? ⟨g, o + 1, none⟩ = some (.int .i64 th) ∧ w'.cell? ⟨g, o + 2, none⟩ = some (.int .i64 rt) ∧ w'.cell? ⟨g, o + 3, none⟩ = some (.int .i64 ld) ∧ w'.cell? ⟨g, o + 4, none⟩ = some (.int .i64 cp) ∧ w'.cell? ⟨g, o + 5, none⟩ = some (.int .i64 mo) ∧ w'.cell? ⟨g, o + 6, none⟩ = some (.int .i64 le) ∧ w'.cell? ⟨w.heap.size, 0, none⟩ = some (.int .i64 x0) ∧ w'.cell? ⟨w.heap.size, 1, none⟩ = some (.int .i64 x1) ∧ w'.cell? ⟨w.heap.size, 2, none⟩ = some (.int .i64 x2) ∧ w'.cell? ⟨w.heap.size, 3, none⟩ = some (.int .i64 x3) ∧ w'.cell? ⟨w.heap.size, 4, none⟩ = some (.int .i64 x4)) (go_keep)
    (first
      | (go_at_call 33; (with_reducible refine (H.out _).mono ?_); rintro e w4 ⟨rfl, hb4⟩
         have c1 : w4.cell? ⟨b1, 0, none⟩ = some (.slice (some ⟨g, o, none⟩) 1 c) := kc hb4 (by first | exact c1 | assumption)
         have c2 : w4.cell? ⟨b2, 0, none⟩ = some (.int .i64 n) := kc hb4 (by first | exact c2 | assumption)
         have y0 : w4.cell? ⟨g, o, none⟩ = some (.int .i64 qp) := kc hb4 (by first | exact y0 | assumption)
         have y1 : w4.cell? ⟨g, o + 1, none⟩ = some (.int .i64 th) := kc hb4 (by first | exact y1 | assumption)
         have y2 : w4.cell? ⟨g, o + 2, none⟩ = some (.int .i64 rt) := kc hb4 (by first | exact y2 | assumption)
         have y3 : w4.cell? ⟨g, o + 3, none⟩ = some (.int .i64 ld) := kc hb4 (by first | exact y3 | assumption)
         have y4 : w4.cell? ⟨g, o + 4, none⟩ = some (.int .i64 cp) := kc hb4 (by first | exact y4 | assumption)
         have y5 : w4.cell? ⟨g, o + 5, none⟩ = some (.int .i64 mo) := kc hb4 (by first | exact y5 | assumption)
         have y6 : w4.cell? ⟨g, o + 6, none⟩ = some (.int .i64 le) := kc hb4 (by first | exact y6 | assumption)
         have z0 : w4.cell? ⟨w.heap.size, 0, none⟩ = some (.int .i64 x0) := kc hb4 (by first | exact z0 | assumption)
         have z1 : w4.cell? ⟨w.heap.size, 1, none⟩ = some (.int .i64 x1) := kc hb4 (by first | exact z1 | assumption)
         have z2 : w4.cell? ⟨w.heap.size, 2, none⟩ = some (.int .i64 x2) := kc hb4 (by first | exact z2 | assumption)
         have z3 : w4.cell? ⟨w.heap.size, 3, none⟩ = some (.int .i64 x3) := kc hb4 (by first | exact z3 | assumption)
         have z4 : w4.cell? ⟨w.heap.size, 4, none⟩ = some (.int .i64 x4) := kc hb4 (by first | exact z4 | assumption)
         have HB := hid (blw (by first | exact HB.out | exact HB.out.drew) hb4)))
  all_goals
    go_wp2_with fail
    go_ret
    exact ⟨rfl, HB.out⟩

set_option maxRecDepth 20000 in
set_option maxHeartbeats 1000000 in
theorem index_sys (b1 b2 : Nat) (a : Option Addr) (n cap : Nat) (F : Nat → Nat → Int) (P : Nat → Bool) (w : World) (hn : n ≤ 9223372036854775807) (HI : Hid (RowsI w a n 5 F))
    (H0 : Hid (∀ k, k < n → ∀ w', Below w.heap.size w w' → Calls Try.prog 32 #[.agg #[.int .i64 (F k 0), .int .i64 (F k 1), .int .i64 (F k 2), .int .i64 (F k 3), .int .i64 (F k 4)], .pointer (some ⟨b1, 0, none⟩), .pointer (some ⟨b2, 0, none⟩)] w' fun x w2 => x = .returned (.bool (P k)) ∧ Below w'.heap.size w' w2)) :
    Calls Try.prog 57 #[.slice a n cap, .func (Fn.func 32) #[] #[.pointer (some ⟨b1, 0, none⟩), .pointer (some ⟨b2, 0, none⟩)]] w fun e w' => e = .returned (.int .i64 (idxN P n)) ∧ Below w.heap.size w w' := by
  go_enter Try.func57, Try.ntmps57
  go_wp2_with fail
  go_loopw [8] (fun i wr => ∃ k : Nat, k ≤ n ∧ i = .int .i64 k ∧ (∀ j, j < k → P j = false) ∧ Below w.heap.size w wr) (fun i _ => n - (intOf i).toNat)
  case atStart => exact ⟨0, Nat.zero_le _, rfl, fun j h => by omega, Below.refl _ _⟩
  case round =>
    obtain ⟨k, hk, rfl, hno, hbel⟩ := hrel
    have HNo := hid hno
    have HB := hid hbel
    clear hno hbel
    by_cases hlt : k < n
    · obtain ⟨g, o, rfl, hg, hc⟩ := HI.out.1 (by omega)
      have c0 : wr.cell? ⟨g, o + k * 5, none⟩ = some (.int .i64 (F k 0)) := (HB.out.cell (p := ⟨g, o + k * 5 + 0, none⟩) hg).trans (hc k hlt 0 (by omega))
      have c1 : wr.cell? ⟨g, o + k * 5 + 1, none⟩ = some (.int .i64 (F k 1)) := (HB.out.cell (p := ⟨g, o + k * 5 + 1, none⟩) hg).trans (hc k hlt 1 (by omega))
      have c2 : wr.cell? ⟨g, o + k * 5 + 2, none⟩ = some (.int .i64 (F k 2)) := (HB.out.cell (p := ⟨g, o + k * 5 + 2, none⟩) hg).trans (hc k hlt 2 (by omega))
      have c3 : wr.cell? ⟨g, o + k * 5 + 3, none⟩ = some (.int .i64 (F k 3)) := (HB.out.cell (p := ⟨g, o + k * 5 + 3, none⟩) hg).trans (hc k hlt 3 (by omega))
      have c4 : wr.cell? ⟨g, o + k * 5 + 4, none⟩ = some (.int .i64 (F k 4)) := (HB.out.cell (p := ⟨g, o + k * 5 + 4, none⟩) hg).trans (hc k hlt 4 (by omega))
      have HA := hid (H0.out k hlt wr HB.out)
      clear hc
      obtain ⟨b, hb⟩ : ∃ b, P k = b := ⟨_, rfl⟩
      have HP := hid hb
      rw [hb] at HA
      clear hb
      generalize F k 0 = x0 at *
      generalize F k 1 = x1 at *
      generalize F k 2 = x2 at *
      generalize F k 3 = x3 at *
      generalize F k 4 = x4 at *
      cases b with
      | true =>
        have HE : Hid (firstN P n = k) := hid (firstN_yes hlt HP.out HNo.out)
        go_wp2_with fail
        refine HA.out.mono ?_
        rintro e w1 ⟨rfl, hb1⟩
        have HB1 := hid (blw HB.out hb1)
        clear hb1
        go_wp2_with fail
        go_ret
        exact ⟨by rw [idxN_yes HE.out hlt]; rfl, HB1.out⟩
      | false =>
        go_wp2_with fail
        refine HA.out.mono ?_
        rintro e w1 ⟨rfl, hb1⟩
        have HB1 := hid (blw HB.out hb1)
        clear hb1
        go_wp2_with fail
        go_roundw
        case rel => exact ⟨k + 1, by omega, by go_num, fun j h1 => (by
          rcases Nat.lt_or_ge j k with e | e
          · exact HNo.out j e
          · obtain rfl : j = k := by omega
            exact HP.out), HB1.out⟩
        case measure => simp [intOf]; omega
    · obtain rfl : k = n := by omega
      have HE : Hid (firstN P k = k) := hid (firstN_no HNo.out)
      go_wp2_with fail
      go_ret
      exact ⟨by rw [idxN_no HE.out]; rfl, HB.out⟩

set_option maxHeartbeats 400000 in
theorem first_sys (b1 b2 : Nat) (a : Option Addr) (n cap : Nat) (F : Nat → Nat → Int) (P : Nat → Bool) (w : World) (hn : n ≤ 9223372036854775807) (HI : Hid (RowsI w a n 5 F))
    (H0 : Hid (∀ k, k < n → ∀ w', Below w.heap.size w w' → Calls Try.prog 32 #[.agg #[.int .i64 (F k 0), .int .i64 (F k 1), .int .i64 (F k 2), .int .i64 (F k 3), .int .i64 (F k 4)], .pointer (some ⟨b1, 0, none⟩), .pointer (some ⟨b2, 0, none⟩)] w' fun x w2 => x = .returned (.bool (P k)) ∧ Below w'.heap.size w' w2)) :
    Calls Try.prog 31 #[.slice a n cap, .func (Fn.func 32) #[] #[.pointer (some ⟨b1, 0, none⟩), .pointer (some ⟨b2, 0, none⟩)]] w fun e w' => e = .returned (.tuple #[.int .i64 (firstN P n : Nat), .bool (decide (firstN P n = n))]) ∧ Below w.heap.size w w' := by
  have H := hid (index_sys b1 b2 a n cap F P w hn HI H0)
  have hle := firstN_le P n
  have h1 := fun h => idxN_yes (P := P) (n := n) rfl h
  have h2 := fun h => idxN_no (P := P) (n := n) h
  generalize idxN P n = r at *
  generalize firstN P n = i at *
  clear HI H0
  go_enter Try.func31, Try.ntmps31
  go_wp2_with fail
  refine H.out.mono ?_
  rintro e w1 ⟨rfl, hb1⟩
  have HB := hid hb1
  clear hb1 H
  by_cases h : i < n
  · obtain rfl := h1 h
    clear h1 h2
    go_wp2_with fail
    go_ret2
    exact ⟨by first | rfl | (simp; done) | (simp; omega), HB.out⟩
  · obtain rfl : i = n := by omega
    obtain rfl := h2 rfl
    clear h1 h2
    go_wp2_with fail
    go_ret2
    exact ⟨by first | rfl | (simp; done) | (simp; omega), HB.out⟩

/-- what Systems tells: of n rules F, tokens t, and m that are so now (the first of them the seven) -/
def badAt (F : Nat → Nat → Int) : Nat → Bool := fun k => !sysB (F k 0) (F k 1) (F k 2) (F k 3) (F k 4)
def blkAt (F : Nat → Nat → Int) (qp th rt ld cp mo le t : Int) : Nat → Bool := fun k => !decide (blkS qp th rt ld cp mo le (F k 0) (F k 1) (F k 2) (F k 3) (F k 4) t = ⟨#[]⟩)
def sysR (F : Nat → Nat → Int) (n : Nat) (qp th rt ld cp mo le t : Int) : Int × Bool × Int :=
  if firstN (badAt F) n < n then (0, false, 33)
  else if nowB qp th rt ld cp mo le && inR t 1 1099511627776 then (((firstN (blkAt F qp th rt ld cp mo le t) n : Nat) : Int), decide (firstN (blkAt F qp th rt ld cp mo le t) n = n), 0)
  else (0, false, 2)
def trip (r : Int × Bool × Int) : Value := .tuple #[.int .i64 r.1, .bool r.2.1, .int .i64 r.2.2]
theorem sysR_bad {F : Nat → Nat → Int} {n k : Nat} {qp th rt ld cp mo le t : Int} (hk : k < n) (h : badAt F k = true) (hno : ∀ j, j < k → badAt F j = false) : sysR F n qp th rt ld cp mo le t = (0, false, 33) := by
  unfold sysR
  rw [if_pos]
  rw [firstN_yes hk h hno]
  exact hk
theorem sysR_range {F : Nat → Nat → Int} {n : Nat} {qp th rt ld cp mo le t : Int} (hno : ∀ j, j < n → badAt F j = false) (h : (nowB qp th rt ld cp mo le && inR t 1 1099511627776) = false) : sysR F n qp th rt ld cp mo le t = (0, false, 2) := by
  unfold sysR
  rw [firstN_no hno, if_neg (Nat.lt_irrefl _), h]
  rfl
theorem sysR_ok {F : Nat → Nat → Int} {n : Nat} {qp th rt ld cp mo le t : Int} (hno : ∀ j, j < n → badAt F j = false) (h : (nowB qp th rt ld cp mo le && inR t 1 1099511627776) = true) : sysR F n qp th rt ld cp mo le t = (((firstN (blkAt F qp th rt ld cp mo le t) n : Nat) : Int), decide (firstN (blkAt F qp th rt ld cp mo le t) n = n), 0) := by
  unfold sysR
  rw [firstN_no hno, if_neg (Nat.lt_irrefl _), h]
  rfl

set_option maxHeartbeats 400000 in
theorem Systems_form (a va : Option Addr) (n cap m vc : Nat) (t : Int) (hm : m ≠ 1) (w : World) :
    Calls Try.prog 10 #[.slice a n cap, .int .i64 t, .slice va m vc] w fun e w' => e = .returned (trip (0, false, 6)) ∧ Below w.heap.size w w' := by
  have hm1 : ((m : Int) == 1) = false := by simp; omega
  go_enter Try.func10, Try.ntmps10
  go_wp2_with fail
  go_ret3
  exact ⟨rfl, ((Below.refl _ w).alloc (Nat.le_refl _) _).alloc (by simp) _⟩

set_option maxRecDepth 20000 in
set_option maxHeartbeats 4000000 in
theorem Systems_core (a : Option Addr) (g o n cap vc : Nat) (F : Nat → Nat → Int) (qp th rt ld cp mo le t : Int) (r : Int × Bool × Int) (c : Bool) (P : Nat → Bool) (w : World) (hn : n ≤ 9223372036854775807)
    (R0 : Hid (∀ k, k < n → badAt F k = true → (∀ j, j < k → badAt F j = false) → r = (0, false, 33)))
    (R1 : Hid ((∀ j, j < n → badAt F j = false) → c = false → r = (0, false, 2)))
    (R2 : Hid ((∀ j, j < n → badAt F j = false) → c = true → r = (((firstN P n : Nat) : Int), decide (firstN P n = n), 0)))
    (HI : Hid (RowsI w a n 5 F)) (HV : Hid (g < w.heap.size ∧ ∀ j, j < 7 → w.cell? ⟨g, o + j, none⟩ = some (.int .i64 (nf qp th rt ld cp mo le j))))
    (H0 : Hid (∀ x0 x1 x2 x3 x4 w, Calls Try.prog 29 #[.agg #[.int .i64 x0, .int .i64 x1, .int .i64 x2, .int .i64 x3, .int .i64 x4]] w fun x w' => x = .returned (.int .i64 (sysE x0 x1 x2 x3 x4)) ∧ Below w.heap.size w w'))
    (H1 : Hid (∀ w, Calls Try.prog 30 #[.agg #[.int .i64 qp, .int .i64 th, .int .i64 rt, .int .i64 ld, .int .i64 cp, .int .i64 mo, .int .i64 le], .int .i64 t] w fun x w' => x = .returned (.bool c) ∧ Below w.heap.size w w'))
    (H2 : Hid (c = true → ∀ k, k < n → ∀ b1 b2 w, Cap w b1 b2 qp th rt ld cp mo le t → Calls Try.prog 32 #[.agg #[.int .i64 (F k 0), .int .i64 (F k 1), .int .i64 (F k 2), .int .i64 (F k 3), .int .i64 (F k 4)], .pointer (some ⟨b1, 0, none⟩), .pointer (some ⟨b2, 0, none⟩)] w fun x w' => x = .returned (.bool (P k)) ∧ Below w.heap.size w w')) :
    Calls Try.prog 10 #[.slice a n cap, .int .i64 t, .slice (some ⟨g, o, none⟩) 1 vc] w fun e w' => e = .returned (trip r) ∧ Below w.heap.size w w' := by
  obtain ⟨W, hW⟩ : ∃ W, (w.alloc (.cells #[.int .i64 t] 3)).alloc (.cells #[.slice (some ⟨g, o, none⟩) 1 vc] 25) = W := ⟨_, rfl⟩
  have hbel : Below w.heap.size w W := by rw [← hW]; exact ((Below.refl _ w).alloc (Nat.le_refl _) _).alloc (by simp) _
  obtain ⟨c0, c1, hsz, -⟩ := two w _ _ _ _ W hW
  have q0 : W.cell? ⟨w.heap.size, 0, none⟩ = some (.int .i64 t) := c0 0 _ rfl
  have q1 : W.cell? ⟨w.heap.size + 1, 0, none⟩ = some (.slice (some ⟨g, o, none⟩) 1 vc) := c1 0 _ rfl
  have HCap : Hid (Cap W (w.heap.size + 1) w.heap.size qp th rt ld cp mo le t) := hid ⟨⟨g, o, vc, q1, fun j hj => (hbel.cell (p := ⟨g, o + j, none⟩) HV.out.1).trans (HV.out.2 j hj)⟩, q0⟩
  have HI := hid (HI.out.below hbel)
  have HQ0 := hid q0
  have HQ1 := hid q1
  have HVW : Hid (g < W.heap.size ∧ ∀ j, j < 7 → W.cell? ⟨g, o + j, none⟩ = some (.int .i64 (nf qp th rt ld cp mo le j))) := hid ⟨Nat.lt_of_lt_of_le HV.out.1 hbel.size, fun j hj => (hbel.cell (p := ⟨g, o + j, none⟩) HV.out.1).trans (HV.out.2 j hj)⟩
  have HB0 := hid hbel
  have HSZ := hid hsz
  clear c0 c1 hbel HV hsz
  go_enter Try.func10, Try.ntmps10
  go_wp2_with fail
  go_loopw [19] (fun i wr => ∃ k : Nat, k ≤ n ∧ i = .int .i64 k ∧ (∀ j, j < k → badAt F j = false) ∧ Below W.heap.size W wr) (fun i _ => n - (intOf i).toNat)
  case atStart => exact ⟨0, Nat.zero_le _, rfl, fun j h => by omega, Below.refl _ _⟩
  case round =>
    obtain ⟨k, hk, rfl, hno, hbel⟩ := hrel
    have HNo := hid hno
    have HB := hid hbel
    clear hno hbel q0 q1
    by_cases hlt : k < n
    · obtain ⟨g', o', rfl, hg, hc⟩ := HI.out.1 (by omega)
      have c0 : wr.cell? ⟨g', o' + k * 5, none⟩ = some (.int .i64 (F k 0)) := (HB.out.cell (p := ⟨g', o' + k * 5 + 0, none⟩) hg).trans (hc k hlt 0 (by omega))
      have c1 : wr.cell? ⟨g', o' + k * 5 + 1, none⟩ = some (.int .i64 (F k 1)) := (HB.out.cell (p := ⟨g', o' + k * 5 + 1, none⟩) hg).trans (hc k hlt 1 (by omega))
      have c2 : wr.cell? ⟨g', o' + k * 5 + 2, none⟩ = some (.int .i64 (F k 2)) := (HB.out.cell (p := ⟨g', o' + k * 5 + 2, none⟩) hg).trans (hc k hlt 2 (by omega))
      have c3 : wr.cell? ⟨g', o' + k * 5 + 3, none⟩ = some (.int .i64 (F k 3)) := (HB.out.cell (p := ⟨g', o' + k * 5 + 3, none⟩) hg).trans (hc k hlt 3 (by omega))
      have c4 : wr.cell? ⟨g', o' + k * 5 + 4, none⟩ = some (.int .i64 (F k 4)) := (HB.out.cell (p := ⟨g', o' + k * 5 + 4, none⟩) hg).trans (hc k hlt 4 (by omega))
      clear hc
      obtain ⟨b, hb⟩ : ∃ b, sysB (F k 0) (F k 1) (F k 2) (F k 3) (F k 4) = b := ⟨_, rfl⟩
      have HS := hid (H0.out (F k 0) (F k 1) (F k 2) (F k 3) (F k 4))
      have HP : Hid (badAt F k = !b) := hid (by unfold badAt; rw [hb])
      unfold sysE at HS
      rw [hb] at HS
      have hsW : W.heap.size ≤ wr.heap.size := HB.out.size
      have HBA := hid (HB.out.alloc hsW (.cells #[.int .i64 (F k 0), .int .i64 (F k 1), .int .i64 (F k 2), .int .i64 (F k 3), .int .i64 (F k 4)] 38))
      clear hb
      generalize F k 0 = x0 at *
      generalize F k 1 = x1 at *
      generalize F k 2 = x2 at *
      generalize F k 3 = x3 at *
      generalize F k 4 = x4 at *
      cases b with
      | true =>
        replace HS := hid HS.out
        rw [if_pos rfl] at HS
        go_wp2_with fail
        refine (HS.out _).mono ?_
        rintro e w1 ⟨rfl, hb1⟩
        have HB1 := hid (blw HBA.out hb1)
        clear hb1
        go_wp2_with fail
        go_roundw
        case rel => exact ⟨k + 1, by omega, by go_num, fun j h1 => (by
          rcases Nat.lt_or_ge j k with e | e
          · exact HNo.out j e
          · obtain rfl : j = k := by omega
            exact HP.out), HB1.out⟩
        case measure => simp [intOf]; omega
      | false =>
        rw [if_neg (by decide)] at HS
        obtain rfl := R0.out k hlt HP.out HNo.out
        go_wp2_with fail
        refine (HS.out _).mono ?_
        rintro e w1 ⟨rfl, hb1⟩
        have HB1 := hid (blw HBA.out hb1)
        clear hb1
        go_wp2_with fail
        go_ret3
        exact ⟨rfl, HB0.out.trans (HB1.out.mono HB0.out.size)⟩
    · obtain rfl : k = n := by omega
      have hz := HSZ.out
      have p0 : wr.cell? ⟨w.heap.size, 0, none⟩ = some (.int .i64 t) := (HB.out.cell (p := ⟨w.heap.size, 0, none⟩) (by show w.heap.size < _; omega)).trans HQ0.out
      have p1 : wr.cell? ⟨w.heap.size + 1, 0, none⟩ = some (.slice (some ⟨g, o, none⟩) 1 vc) := (HB.out.cell (p := ⟨w.heap.size + 1, 0, none⟩) (by show w.heap.size + 1 < _; omega)).trans HQ1.out
      have y0 : wr.cell? ⟨g, o, none⟩ = some (.int .i64 qp) := (HB.out.cell (p := ⟨g, o + 0, none⟩) HVW.out.1).trans (HVW.out.2 0 (by omega))
      have y1 : wr.cell? ⟨g, o + 1, none⟩ = some (.int .i64 th) := (HB.out.cell (p := ⟨g, o + 1, none⟩) HVW.out.1).trans (HVW.out.2 1 (by omega))
      have y2 : wr.cell? ⟨g, o + 2, none⟩ = some (.int .i64 rt) := (HB.out.cell (p := ⟨g, o + 2, none⟩) HVW.out.1).trans (HVW.out.2 2 (by omega))
      have y3 : wr.cell? ⟨g, o + 3, none⟩ = some (.int .i64 ld) := (HB.out.cell (p := ⟨g, o + 3, none⟩) HVW.out.1).trans (HVW.out.2 3 (by omega))
      have y4 : wr.cell? ⟨g, o + 4, none⟩ = some (.int .i64 cp) := (HB.out.cell (p := ⟨g, o + 4, none⟩) HVW.out.1).trans (HVW.out.2 4 (by omega))
      have y5 : wr.cell? ⟨g, o + 5, none⟩ = some (.int .i64 mo) := (HB.out.cell (p := ⟨g, o + 5, none⟩) HVW.out.1).trans (HVW.out.2 5 (by omega))
      have y6 : wr.cell? ⟨g, o + 6, none⟩ = some (.int .i64 le) := (HB.out.cell (p := ⟨g, o + 6, none⟩) HVW.out.1).trans (HVW.out.2 6 (by omega))
      clear hz
      go_upto_region 10 with fail
      go_cut [34] (fun s wx => s = .bool (!c) ∧ Below W.heap.size W wx)
      case first =>
        go_region_held3 (fun w' => w'.cell? ⟨w.heap.size, 0, none⟩ = some (.int .i64 t) ∧ w'.cell? ⟨w.heap.size + 1, 0, none⟩ = some (.slice (some ⟨g, o, none⟩) 1 vc) ∧ w'.cell? ⟨g, o, none⟩ = some (.int .i64 qp) ∧ w'.cell? ⟨g, o + 1, none⟩ = some (.int .i64 th) ∧ w'.cell? ⟨g, o + 2, none⟩ = some (.int .i64 rt) ∧ w'.cell? ⟨g, o + 3, none⟩ = some (.int .i64 ld) ∧ w'.cell? ⟨g, o + 4, none⟩ = some (.int .i64 cp) ∧ w'.cell? ⟨g, o + 5, none⟩ = some (.int .i64 mo) ∧ w'.cell? ⟨g, o + 6, none⟩ = some (.int .i64 le)) (go_keep)
          (first
            | (go_at_call 30; (with_reducible refine (H1.out _).mono ?_); rintro e w4 ⟨rfl, hb4⟩
               have p0 : w4.cell? ⟨w.heap.size, 0, none⟩ = some (.int .i64 t) := kc hb4 (by first | exact p0 | assumption)
               have p1 : w4.cell? ⟨w.heap.size + 1, 0, none⟩ = some (.slice (some ⟨g, o, none⟩) 1 vc) := kc hb4 (by first | exact p1 | assumption)
               have y0 : w4.cell? ⟨g, o, none⟩ = some (.int .i64 qp) := kc hb4 (by first | exact y0 | assumption)
               have y1 : w4.cell? ⟨g, o + 1, none⟩ = some (.int .i64 th) := kc hb4 (by first | exact y1 | assumption)
               have y2 : w4.cell? ⟨g, o + 2, none⟩ = some (.int .i64 rt) := kc hb4 (by first | exact y2 | assumption)
               have y3 : w4.cell? ⟨g, o + 3, none⟩ = some (.int .i64 ld) := kc hb4 (by first | exact y3 | assumption)
               have y4 : w4.cell? ⟨g, o + 4, none⟩ = some (.int .i64 cp) := kc hb4 (by first | exact y4 | assumption)
               have y5 : w4.cell? ⟨g, o + 5, none⟩ = some (.int .i64 mo) := kc hb4 (by first | exact y5 | assumption)
               have y6 : w4.cell? ⟨g, o + 6, none⟩ = some (.int .i64 le) := kc hb4 (by first | exact y6 | assumption)
               have HB := hid (blw (by first | exact HB.out | exact HB.out.drew) hb4)))
        all_goals
          go_wp2_with fail
          go_meet
          exact ⟨rfl, HB.out⟩
      case rest =>
        obtain ⟨rfl, hbx⟩ := hcut
        have HBX := hid hbx
        clear hbx p0 p1 y0 y1 y2 y3 y4 y5 y6
        cases c with
        | false =>
          obtain rfl := R1.out HNo.out rfl
          go_wp2_with fail
          go_ret3
          exact ⟨rfl, HB0.out.trans (HBX.out.mono HB0.out.size)⟩
        | true =>
          obtain rfl := R2.out HNo.out rfl
          have HCx := hid (HCap.out.below HBX.out)
          have HF := fun wx (hx : Below W.heap.size W wx) => first_sys (w.heap.size + 1) w.heap.size a k cap F P wx hn (hid (HI.out.below hx)) (hid fun k hk w' hb => H2.out rfl k hk _ _ w' ((HCap.out.below hx).below hb))
          have HF := hid HF
          go_wp2_with fail
          refine (HF.out _ (by first | exact HBX.out | exact HBX.out.drew)).mono ?_
          rintro e w5 ⟨rfl, hb5⟩
          have HB5 := hid (blw (by first | exact HBX.out | exact HBX.out.drew) hb5)
          clear hb5
          go_wp2_with fail
          go_ret3
          exact ⟨rfl, HB0.out.trans (HB5.out.mono HB0.out.size)⟩

theorem clos_any (b1 b2 : Nat) (qp th rt ld cp mo le t : Int) (F : Nat → Nat → Int) (k : Nat) (hn : inR t 1 1099511627776 = true) (hm : nowB qp th rt ld cp mo le = true) (w : World) (HC : Cap w b1 b2 qp th rt ld cp mo le t) :
    Calls Try.prog 32 #[.agg #[.int .i64 (F k 0), .int .i64 (F k 1), .int .i64 (F k 2), .int .i64 (F k 3), .int .i64 (F k 4)], .pointer (some ⟨b1, 0, none⟩), .pointer (some ⟨b2, 0, none⟩)] w fun x w' => x = .returned (.bool (blkAt F qp th rt ld cp mo le t k)) ∧ Below w.heap.size w w' :=
  clos_core b1 b2 qp th rt ld cp mo le t _ _ _ _ _ (blkS qp th rt ld cp mo le (F k 0) (F k 1) (F k 2) (F k 3) (F k 4) t) _ (by rw [empty_eq]; unfold blkAt; simp) w (hid HC) (hid fun w => blocking_any qp th rt ld cp mo le _ _ _ _ _ t hn hm w)

theorem Systems_any (a : Option Addr) (g o n cap vc : Nat) (F : Nat → Nat → Int) (qp th rt ld cp mo le t : Int) (w : World) (hn : n ≤ 9223372036854775807)
    (HI : RowsI w a n 5 F) (HV : g < w.heap.size ∧ ∀ j, j < 7 → w.cell? ⟨g, o + j, none⟩ = some (.int .i64 (nf qp th rt ld cp mo le j))) :
    Calls Try.prog 10 #[.slice a n cap, .int .i64 t, .slice (some ⟨g, o, none⟩) 1 vc] w fun e w' => e = .returned (trip (sysR F n qp th rt ld cp mo le t)) ∧ Below w.heap.size w w' :=
  Systems_core a g o n cap vc F qp th rt ld cp mo le t _ (nowB qp th rt ld cp mo le && inR t 1 1099511627776) (blkAt F qp th rt ld cp mo le t) w hn (hid fun k hk h hno => sysR_bad hk h hno) (hid fun hno h => sysR_range hno h) (hid fun hno h => sysR_ok hno h) (hid HI) (hid HV)
    (hid fun x0 x1 x2 x3 x4 w => System_any x0 x1 x2 x3 x4 w) (hid fun w => mayBe_any qp th rt ld cp mo le t w) (hid fun h k _ b1 b2 w hc => clos_any b1 b2 qp th rt ld cp mo le t F k (by simp only [Bool.and_eq_true] at h; exact h.2) (by simp only [Bool.and_eq_true] at h; exact h.1) w hc)

end Go.Proofs.Ytoilakjlnflpbaa.GurC
