/- The first list of a resource that blocks: guard.Lists and the document's. -/
import Derived.Test.YtoilakjlnflpbaaGurC
import Derived.Test.YtoilakjlnflpbaaGuaD
namespace Go.Proofs.Ytoilakjlnflpbaa.GulA
open Go.ChangeShapes Go.WideShapes Go.ChangeAt Go.RowKit Go.Deep Base NumM NumE RulA Txt ValA LisA LisB LisC LisD GuaA GuaB GuaC GuaD GuaE
open GurC (firstN firstN_no firstN_yes firstN_le idxN idxN_yes idxN_no kc blw one)
set_option linter.unusedVariables false

/-- an authority list: its cells, and its origins -/
structure Au where
  res : ByteArray
  white : Bool
  ta : Option Addr
  tc : Nat
  ss : List (List UInt8)
def av (x : Au) : List Value := [.string x.res, .bool x.white, .slice x.ta x.ss.length x.tc]

structure AuR (w : World) (a : Option Addr) (n : Nat) (L : Nat → Au) : Prop where
  at_ : 0 < n → ∃ g o, a = some ⟨g, o, none⟩ ∧ g < w.heap.size ∧ ∀ i, i < n → ∀ (j : Nat) v, (av (L i))[j]? = some v → w.cell? ⟨g, o + i * 3 + j, none⟩ = some v
  txt : ∀ i, i < n → TAt w w.heap.size (L i).ta (L i).ss
  fit : ∀ i, i < n → (L i).res.size ≤ maxLen ∧ (L i).ss.length ≤ 9223372036854775807 ∧ ∀ x ∈ (L i).ss, x.length ≤ maxLen

theorem AuR.below {w w' : World} {a : Option Addr} {n : Nat} {L : Nat → Au} (h : AuR w a n L) (hb : Below w.heap.size w w') : AuR w' a n L := by
  refine ⟨fun h0 => ?_, fun i hi => TAt.low (h.txt i hi) hb, h.fit⟩
  obtain ⟨g, o, rfl, hg, hc⟩ := h.at_ h0
  exact ⟨g, o, rfl, Nat.lt_of_lt_of_le hg hb.size, fun i hi j v hv => (hb.cell (p := ⟨g, o + i * 3 + j, none⟩) hg).trans (hc i hi j v hv)⟩

def blkL (L : Nat → Au) (res o : ByteArray) : Nat → Bool := fun k => decide ((L k).res = res) && !listB (L k).res (L k).white (L k).ss o

set_option maxRecDepth 20000 in
set_option maxHeartbeats 1000000 in
theorem closl_core (b1 b2 : Nat) (r res o : ByteArray) (white : Bool) (ta : Option Addr) (tn tc : Nat) (c b : Bool) (hc : decide (r = res) = c) (w : World)
    (q1 : w.cell? ⟨b1, 0, none⟩ = some (.string res)) (q2 : w.cell? ⟨b2, 0, none⟩ = some (.string o))
    (H0 : Hid (∀ w', Below w.heap.size w w' → Calls Try.prog 25 #[.agg #[.string r, .bool white, .slice ta tn tc], .string o] w' fun x w2 => x = .returned (.bool b) ∧ Below w'.heap.size w' w2)) :
    Calls Try.prog 47 #[.agg #[.string r, .bool white, .slice ta tn tc], .pointer (some ⟨b1, 0, none⟩), .pointer (some ⟨b2, 0, none⟩)] w fun x w' => x = .returned (.bool (c && !b)) ∧ Below w.heap.size w w' := by
  obtain ⟨W, hW⟩ : ∃ W, w.alloc (.cells #[.string r, .bool white, .slice ta tn tc] 57) = W := ⟨_, rfl⟩
  have hbel : Below w.heap.size w W := by rw [← hW]; exact (Below.refl _ w).alloc (Nat.le_refl _) _
  have e1 : (r.toList == res.toList) = c := by rw [text_eq]; exact hc
  have c1 : W.cell? ⟨b1, 0, none⟩ = some (.string res) := kc hbel q1
  have c2 : W.cell? ⟨b2, 0, none⟩ = some (.string o) := kc hbel q2
  have z0 : W.cell? ⟨w.heap.size, 0, none⟩ = some (.string r) := by rw [← hW]; exact GurC.one w _ _ rfl
  have z1 : W.cell? ⟨w.heap.size, 1, none⟩ = some (.bool white) := by rw [← hW]; exact GurC.one w _ _ rfl
  have z2 : W.cell? ⟨w.heap.size, 2, none⟩ = some (.slice ta tn tc) := by rw [← hW]; exact GurC.one w _ _ rfl
  have HB := hid hbel
  have H := hid (H0.out W hbel)
  clear hbel H0 q1 q2 hc
  cases c with
  | true =>
    go_enter Try.func47, Try.ntmps47
    go_wp2_with fail
    refine H.out.mono ?_
    rintro x w1 ⟨rfl, hb1⟩
    have HB1 := hid (blw HB.out hb1)
    clear hb1 H
    go_wp2_with fail
    go_ret
    exact ⟨by simp, HB1.out⟩
  | false =>
    go_enter Try.func47, Try.ntmps47
    go_wp2_with fail
    go_ret
    exact ⟨by simp, HB.out⟩

set_option maxRecDepth 20000 in
set_option maxHeartbeats 1000000 in
theorem index_list (b1 b2 : Nat) (a : Option Addr) (n cap : Nat) (L : Nat → Au) (P : Nat → Bool) (w : World) (hn : n ≤ 9223372036854775807) (HI : Hid (AuR w a n L))
    (H0 : Hid (∀ k, k < n → ∀ w', Below w.heap.size w w' → Calls Try.prog 47 #[.agg #[.string (L k).res, .bool (L k).white, .slice (L k).ta (L k).ss.length (L k).tc], .pointer (some ⟨b1, 0, none⟩), .pointer (some ⟨b2, 0, none⟩)] w' fun x w2 => x = .returned (.bool (P k)) ∧ Below w'.heap.size w' w2)) :
    Calls Try.prog 65 #[.slice a n cap, .func (Fn.func 47) #[] #[.pointer (some ⟨b1, 0, none⟩), .pointer (some ⟨b2, 0, none⟩)]] w fun e w' => e = .returned (.int .i64 (idxN P n)) ∧ Below w.heap.size w w' := by
  go_enter Try.func65, Try.ntmps65
  go_wp2_with fail
  go_loopw [8] (fun i wr => ∃ k : Nat, k ≤ n ∧ i = .int .i64 k ∧ (∀ j, j < k → P j = false) ∧ Below w.heap.size w wr) (fun i _ => n - (intOf i).toNat)
  case atStart => exact ⟨0, Nat.zero_le _, rfl, fun j h => by omega, Below.refl _ _⟩
  case round =>
    obtain ⟨k, hk, rfl, hno, hbel⟩ := hrel
    have HNo := hid hno
    have HB := hid hbel
    clear hno hbel
    by_cases hlt : k < n
    · obtain ⟨g, o, rfl, hg, hc⟩ := HI.out.at_ (by omega)
      have c0 : wr.cell? ⟨g, o + k * 3, none⟩ = some (.string (L k).res) := (HB.out.cell (p := ⟨g, o + k * 3 + 0, none⟩) hg).trans (hc k hlt 0 _ rfl)
      have c1 : wr.cell? ⟨g, o + k * 3 + 1, none⟩ = some (.bool (L k).white) := (HB.out.cell (p := ⟨g, o + k * 3 + 1, none⟩) hg).trans (hc k hlt 1 _ rfl)
      have c2 : wr.cell? ⟨g, o + k * 3 + 2, none⟩ = some (.slice (L k).ta (L k).ss.length (L k).tc) := (HB.out.cell (p := ⟨g, o + k * 3 + 2, none⟩) hg).trans (hc k hlt 2 _ rfl)
      have HA := hid (H0.out k hlt wr HB.out)
      clear hc
      obtain ⟨b, hb⟩ : ∃ b, P k = b := ⟨_, rfl⟩
      have HP := hid hb
      rw [hb] at HA
      clear hb
      generalize (L k).res = x0 at *
      generalize (L k).white = x1 at *
      generalize (L k).ta = x2 at *
      generalize (L k).ss.length = x3 at *
      generalize (L k).tc = x4 at *
      cases b with
      | true =>
        have HE : Hid (firstN P n = k) := hid (firstN_yes hlt HP.out HNo.out)
        go_wp2_with fail
        refine HA.out.mono ?_
        rintro e w1 ⟨rfl, hb1⟩
        have HB1 := hid (blw HB.out hb1)
        clear hb1
        go_wp2_with fail
        go_ret
        exact ⟨by rw [idxN_yes HE.out hlt]; rfl, HB1.out⟩
      | false =>
        go_wp2_with fail
        refine HA.out.mono ?_
        rintro e w1 ⟨rfl, hb1⟩
        have HB1 := hid (blw HB.out hb1)
        clear hb1
        go_wp2_with fail
        go_roundw
        case rel => exact ⟨k + 1, by omega, by go_num, fun j h1 => (by
          rcases Nat.lt_or_ge j k with e | e
          · exact HNo.out j e
          · obtain rfl : j = k := by omega
            exact HP.out), HB1.out⟩
        case measure => simp [intOf]; omega
    · obtain rfl : k = n := by omega
      have HE : Hid (firstN P k = k) := hid (firstN_no HNo.out)
      go_wp2_with fail
      go_ret
      exact ⟨by rw [idxN_no HE.out]; rfl, HB.out⟩

set_option maxHeartbeats 400000 in
theorem first_list (b1 b2 : Nat) (a : Option Addr) (n cap : Nat) (L : Nat → Au) (P : Nat → Bool) (w : World) (hn : n ≤ 9223372036854775807) (HI : Hid (AuR w a n L))
    (H0 : Hid (∀ k, k < n → ∀ w', Below w.heap.size w w' → Calls Try.prog 47 #[.agg #[.string (L k).res, .bool (L k).white, .slice (L k).ta (L k).ss.length (L k).tc], .pointer (some ⟨b1, 0, none⟩), .pointer (some ⟨b2, 0, none⟩)] w' fun x w2 => x = .returned (.bool (P k)) ∧ Below w'.heap.size w' w2)) :
    Calls Try.prog 46 #[.slice a n cap, .func (Fn.func 47) #[] #[.pointer (some ⟨b1, 0, none⟩), .pointer (some ⟨b2, 0, none⟩)]] w fun e w' => e = .returned (.tuple #[.int .i64 (firstN P n : Nat), .bool (decide (firstN P n = n))]) ∧ Below w.heap.size w w' := by
  have H := hid (index_list b1 b2 a n cap L P w hn HI H0)
  have hle := firstN_le P n
  have h1 := fun h => idxN_yes (P := P) (n := n) rfl h
  have h2 := fun h => idxN_no (P := P) (n := n) h
  generalize idxN P n = r at *
  generalize firstN P n = i at *
  clear HI H0
  go_enter Try.func46, Try.ntmps46
  go_wp2_with fail
  refine H.out.mono ?_
  rintro e w1 ⟨rfl, hb1⟩
  have HB := hid hb1
  clear hb1 H
  by_cases h : i < n
  · obtain rfl := h1 h
    clear h1 h2
    go_wp2_with fail
    go_ret2
    exact ⟨by first | rfl | (simp; done) | (simp; omega), HB.out⟩
  · obtain rfl : i = n := by omega
    obtain rfl := h2 rfl
    clear h1 h2
    go_wp2_with fail
    go_ret2
    exact ⟨by first | rfl | (simp; done) | (simp; omega), HB.out⟩

set_option maxHeartbeats 400000 in
theorem Lists_any (a : Option Addr) (n cap : Nat) (L : Nat → Au) (res o : ByteArray) (w : World) (hn : n ≤ 9223372036854775807) (HI : AuR w a n L) :
    Calls Try.prog 23 #[.slice a n cap, .string res, .string o] w fun e w' => e = .returned (.tuple #[.int .i64 (firstN (blkL L res o) n : Nat), .bool (decide (firstN (blkL L res o) n = n))]) ∧ Below w.heap.size w w' := by
  obtain ⟨W, hW⟩ : ∃ W, (w.alloc (.cells #[.string res] 9)).alloc (.cells #[.string o] 9) = W := ⟨_, rfl⟩
  have hbel : Below w.heap.size w W := by rw [← hW]; exact ((Below.refl _ w).alloc (Nat.le_refl _) _).alloc (by simp) _
  obtain ⟨c0, c1, hsz, -⟩ := two w _ _ _ _ W hW
  have q0 : W.cell? ⟨w.heap.size, 0, none⟩ = some (.string res) := c0 0 _ rfl
  have q1 : W.cell? ⟨w.heap.size + 1, 0, none⟩ = some (.string o) := c1 0 _ rfl
  have HF := hid (first_list w.heap.size (w.heap.size + 1) a n cap L (blkL L res o) W hn (hid (HI.below hbel)) (hid fun k hk w' hb =>
    closl_core w.heap.size (w.heap.size + 1) (L k).res res o (L k).white (L k).ta (L k).ss.length (L k).tc _ (listB (L k).res (L k).white (L k).ss o) rfl w' (kc hb q0) (kc hb q1)
      (hid fun w2 hb2 => GList_any (L k).res (L k).white (L k).ta (L k).tc (L k).ss o w2 (HI.fit k hk).1 (HI.fit k hk).2.1 (HI.fit k hk).2.2 (((HI.below hbel).below (hb.trans (hb2.mono hb.size))).txt k hk))))
  have HB := hid hbel
  clear hbel q0 q1 c0 c1 hsz HI
  generalize firstN (blkL L res o) n = i at *
  go_enter Try.func23, Try.ntmps23
  go_wp2_with fail
  refine HF.out.mono ?_
  rintro e w1 ⟨rfl, hb1⟩
  have HB1 := hid (blw HB.out hb1)
  clear hb1
  go_wp2_with fail
  go_ret2
  exact ⟨rfl, HB1.out⟩

set_option maxRecDepth 20000 in
set_option maxHeartbeats 1000000 in
theorem RLists_any (a : Option Addr) (n cap : Nat) (L : Nat → Au) (res o : ByteArray) (w : World) (hn : n ≤ 9223372036854775807) (HI : Hid (AuR w a n L)) :
    Calls Try.prog 24 #[.slice a n cap, .string res, .string o] w fun e w' => e = .returned (.tuple #[.int .i64 (firstN (blkL L res o) n : Nat), .bool (decide (firstN (blkL L res o) n = n))]) ∧ Below w.heap.size w w' := by
  obtain ⟨P, hP⟩ : ∃ P, blkL L res o = P := ⟨_, rfl⟩
  rw [hP]
  have HPP := hid hP
  clear hP
  go_enter Try.func24, Try.ntmps24
  go_wp2_with fail
  go_loopw [8] (fun i wr => ∃ k : Nat, k ≤ n ∧ i = .int .i64 k ∧ (∀ j, j < k → P j = false) ∧ Below w.heap.size w wr) (fun i _ => n - (intOf i).toNat)
  case atStart => exact ⟨0, Nat.zero_le _, rfl, fun j h => by omega, Below.refl _ _⟩
  case round =>
    obtain ⟨k, hk, rfl, hno, hbel⟩ := hrel
    have HNo := hid hno
    have HB := hid hbel
    clear hno hbel
    by_cases hlt : k < n
    · obtain ⟨g, p, rfl, hg, hc⟩ := HI.out.at_ (by omega)
      have c0 : wr.cell? ⟨g, p + k * 3, none⟩ = some (.string (L k).res) := (HB.out.cell (p := ⟨g, p + k * 3 + 0, none⟩) hg).trans (hc k hlt 0 _ rfl)
      have c1 : wr.cell? ⟨g, p + k * 3 + 1, none⟩ = some (.bool (L k).white) := (HB.out.cell (p := ⟨g, p + k * 3 + 1, none⟩) hg).trans (hc k hlt 1 _ rfl)
      have c2 : wr.cell? ⟨g, p + k * 3 + 2, none⟩ = some (.slice (L k).ta (L k).ss.length (L k).tc) := (HB.out.cell (p := ⟨g, p + k * 3 + 2, none⟩) hg).trans (hc k hlt 2 _ rfl)
      have hf := HI.out.fit k hlt
      have HA := hid (RList_any (L k).res (L k).white (L k).ta (L k).tc (L k).ss o wr (hid hf.1) hf.2.1 (hid hf.2.2) (hid ((HI.out.below HB.out).txt k hlt)))
      obtain ⟨b, hb⟩ : ∃ b, listB (L k).res (L k).white (L k).ss o = b := ⟨_, rfl⟩
      obtain ⟨c, hcc⟩ : ∃ c, decide ((L k).res = res) = c := ⟨_, rfl⟩
      have e1 : ((L k).res.toList == res.toList) = c := by rw [text_eq]; exact hcc
      have HP : Hid (P k = (c && !b)) := hid (by rw [← HPP.out]; unfold blkL; rw [hcc, hb])
      rw [hb] at HA
      clear hb hc hf hcc
      generalize (L k).res = x0 at *
      generalize (L k).white = x1 at *
      generalize (L k).ta = x2 at *
      generalize (L k).ss.length = x3 at *
      generalize (L k).tc = x4 at *
      cases c with
      | false =>
        go_wp2_with fail
        go_roundw
        case rel => exact ⟨k + 1, by omega, by go_num, fun j h1 => (by
          rcases Nat.lt_or_ge j k with e | e
          · exact HNo.out j e
          · obtain rfl : j = k := by omega
            rw [HP.out]; rfl), HB.out⟩
        case measure => simp [intOf]; omega
      | true =>
        cases b with
        | false =>
          have HE : Hid (firstN P n = k) := hid (firstN_yes hlt HP.out HNo.out)
          go_wp2_with fail
          refine HA.out.mono ?_
          rintro e w1 ⟨rfl, hb1⟩
          have HB1 := hid (blw HB.out hb1)
          clear hb1
          go_wp2_with fail
          go_ret2
          exact ⟨by rw [HE.out, show decide (k = n) = false from by simp; omega]; rfl, HB1.out⟩
        | true =>
          go_wp2_with fail
          refine HA.out.mono ?_
          rintro e w1 ⟨rfl, hb1⟩
          have HB1 := hid (blw HB.out hb1)
          clear hb1
          go_wp2_with fail
          go_roundw
          case rel => exact ⟨k + 1, by omega, by go_num, fun j h1 => (by
            rcases Nat.lt_or_ge j k with e | e
            · exact HNo.out j e
            · obtain rfl : j = k := by omega
              rw [HP.out]; rfl), HB1.out⟩
          case measure => simp [intOf]; omega
    · obtain rfl : k = n := by omega
      have HE : Hid (firstN P k = k) := hid (firstN_no HNo.out)
      go_wp2_with fail
      go_ret2
      exact ⟨by rw [HE.out, show decide (k = k) = true from by simp]; rfl, HB.out⟩

end Go.Proofs.Ytoilakjlnflpbaa.GulA
