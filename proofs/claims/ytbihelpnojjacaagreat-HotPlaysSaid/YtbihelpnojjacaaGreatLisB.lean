/- Are texts apart; lists of origins, and system rules, looked at: by the program and by the document. -/
import Derived.Test.YtbihelpnojjacaaGreatLisA
import Derived.Test.YtbihelpnojjacaaGreatAptP
import Derived.Test.YtbihelpnojjacaaGreatShelf
import Derived.Lib.OwnBridge
import Derived.Sort.OwnSorted
namespace Go.Proofs.YtbihelpnojjacaaGreat.LisB
open Go.ChangeShapes Go.WideShapes Go.ChangeAt Go.RowKit Base RulA Txt ValA LisA AptP
open Go.Sort Go.Lib
set_option linter.unusedVariables false

set_option maxHeartbeats 400000 in
theorem collect_any (B1 : Nat) (a : Option Addr) (cap : Nat) (ss : List (List UInt8)) (hss : ss.length ≤ 4096) (w : World) (h1 : w.cell? ⟨B1, 0, none⟩ = some (.slice a ss.length cap)) (hT : TAt w w.heap.size a ss) :
    Calls Tryz.prog 158 #[.func (Fn.func 160) #[] #[.pointer (some ⟨B1, 0, none⟩)]] w fun e w' => (∃ x, e = .returned x ∧ w'.ownsRow w.heap.size 9 1 x ss.length (ss.map encStr)) ∧ Below w.heap.size w w' := by
  have HA := hid (appendSeq_any B1 a cap ss hss w h1 hT)
  clear h1 hT
  go_enter Tryz.func158, Tryz.ntmps158
  go_wp2_with fail
  refine HA.out.mono ?_
  rintro e w1 ⟨⟨x, rfl, hrow⟩, hb⟩
  have HR := hid hrow
  have HB := hid hb
  clear hrow hb HA
  go_wp2_with fail
  go_ret
  exact ⟨⟨_, rfl, HR.out⟩, HB.out⟩

/-- what the sort leaves -/
def Srtd (ss : List (List UInt8)) (w : World) (e : Ending) (w' : World) : Prop :=
  ((ss = [] ∧ e = .returned (.slice none 0 0)) ∨ ∃ g cap, e = .returned (.slice (some ⟨g, 0, none⟩) ss.length cap) ∧ ss.length ≤ cap ∧ w.heap.size ≤ g ∧ g < w'.heap.size ∧ Holds encStr w' g 0 (ordered ss).toArray) ∧ Below w.heap.size w w'

def Bhd (ss : List (List UInt8)) (w1 : World) (gb : Nat) (w2 : World) : Prop := ∃ n os, w2 = grow (putRow encStr (Sort.ahead w1 n) gb 0 (ordered ss).toArray) os

set_option maxRecDepth 20000 in
set_option maxHeartbeats 1000000 in
theorem sorted_any (B1 : Nat) (a : Option Addr) (cap : Nat) (ss : List (List UInt8)) (hss : ss.length ≤ 4096) (w : World) (h1 : w.cell? ⟨B1, 0, none⟩ = some (.slice a ss.length cap)) (hT : TAt w w.heap.size a ss) :
    Calls Tryz.prog 147 #[.func (Fn.func 160) #[] #[.pointer (some ⟨B1, 0, none⟩)]] w (Srtd ss w) := by
  have HA := hid (collect_any B1 a cap ss hss w h1 hT)
  clear h1 hT
  go_enter Tryz.func147, Tryz.ntmps147
  go_wp2_with fail
  refine HA.out.mono ?_
  rintro e w1 ⟨⟨x, rfl, hrow⟩, hb⟩
  rcases hrow.2 with ⟨rfl, hz⟩ | ⟨gb, cap', cur, rfl, hbase, hgb, r1, r2, r3, r4⟩
  · have hss0 : ss = [] := List.eq_nil_of_length_eq_zero hz
    subst hss0
    have HB := hid hb
    have HN := hid (Tryz.slices_Sort_string_none none 0 w1)
    clear hrow hb HA
    go_wp2_with fail
    refine HN.out.mono ?_
    rintro e w2 ⟨rfl, rfl⟩
    clear HN
    go_wp2_with fail
    go_ret
    exact ⟨.inl ⟨rfl, rfl⟩, HB.out⟩
  · have hH : Holds encStr w1 gb 0 ss.toArray := holds_of_block hgb (by simpa using r4)
    have hgl : gb < w1.heap.size := (Array.getElem?_eq_some_iff.1 hgb).1
    have HS : Hid (Calls Tryz.prog 159 #[.slice (some ⟨gb, 0, none⟩) ss.length cap'] w1 fun e w2 => e = .returned (.tuple #[]) ∧ Bhd ss w1 gb w2) := hid (Tryz.slices_Sort_string gb 0 cap' ss w1 hH hgl (by omega))
    have HB := hid hb
    have HG : Hid (gb < w1.heap.size ∧ w.heap.size ≤ gb ∧ ss.length ≤ cap') := hid ⟨hgl, hbase, r1⟩
    have HX : Hid (∀ nn os, (grow (putRow encStr (Sort.ahead w1 nn) gb 0 (ordered ss).toArray) os).ownsRow w.heap.size 9 1 (.slice (some ⟨gb, 0, none⟩) ss.length cap') ss.length ((ordered ss).map encStr)) := hid fun nn os => ownsRow_sorted (by simp) hbase hgb r1 r2 r3
    clear hrow hb HA hH hgl hbase hgb r1 r2 r3 r4
    have HN := hid (rfl : ss.length = ss.length)
    go_wp2_with fail
    refine HS.out.mono ?_
    rintro e w2 ⟨rfl, hw2⟩
    have HW := hid hw2
    clear HS hw2
    go_wp2_with fail
    go_ret
    obtain ⟨g1, g2, g3⟩ := HG.out
    obtain ⟨nn, os, hw⟩ := HW.out
    refine ⟨.inr ⟨gb, cap', ?_, ?_, g2, ?_, ?_⟩, ?_⟩
    · rfl
    · exact g3
    · have h1 : gb < (grow (putRow encStr (Sort.ahead w1 nn) gb 0 (ordered ss).toArray) os).heap.size := Nat.lt_of_lt_of_le g1 (grownBy_sorted (w := w1) (g := gb) (n := nn) (os := os) (ordered ss).toArray).size
      rw [hw]; exact h1
    · have h2 := HX.out nn os
      have hw' : w2 = grow (putRow encStr (Sort.ahead w1 nn) gb 0 (ordered ss).toArray) os := hw
      rw [← hw'] at h2
      rcases h2.2 with ⟨h0, _⟩ | ⟨g', c', cur', hv, _, hgb', _, _, _, r4'⟩
      · cases h0
      · cases hv
        refine holds_of_block hgb' ?_
        rw [Nat.mul_one] at r4'
        rw [show (ordered ss).length = ss.length from List.length_mergeSort ss]
        exact r4'
    · rw [hw]
      exact HB.out.grown (grownBy_sorted _) HB.out.size (fun j hj => by cases hj; exact g2)

set_option maxHeartbeats 400000 in
theorem compact_post (ss : List (List UInt8)) (hss : ss.length ≤ 4096) (w : World) (B : Nat) (v : Value) (hv : (ss = [] ∧ v = .slice none 0 0) ∨ ∃ g cap, v = .slice (some ⟨g, 0, none⟩) ss.length cap ∧ ss.length ≤ cap ∧ B ≤ g ∧ g < w.heap.size ∧ Holds encStr w g 0 (ordered ss).toArray) :
    Calls Tryz.prog 146 #[v] w fun e w' => (∃ a n cap, e = .returned (.slice a n cap) ∧ (n = ss.length ↔ ss.Nodup)) ∧ Below B w w' := by
  rcases hv with ⟨rfl, rfl⟩ | ⟨g, cap, rfl, hc, hB, hg, hH⟩
  · refine (Tryz.slices_Compact_string_empty none 0 w).mono ?_
    rintro e w' ⟨rfl, rfl⟩
    exact ⟨⟨none, 0, 0, rfl, by simp⟩, Below.refl _ _⟩
  · have hl : (ordered ss).length = ss.length := List.length_mergeSort ss
    have h := Tryz.slices_Compact_string g 0 cap (ordered ss) w hH (by omega) (by omega)
    rw [hl] at h
    refine h.mono ?_
    rintro e w' ⟨rfl, q, rfl⟩
    exact ⟨⟨_, _, _, rfl, apart_iff ss⟩, below_putRow (Below.refl _ _) hB⟩

set_option maxHeartbeats 400000 in
theorem values_any (a : Option Addr) (n cap : Nat) (w : World) :
    Calls Tryz.prog 148 #[.slice a n cap] w fun e w' => e = .returned (.func (Fn.func 160) #[] #[.pointer (some ⟨w.heap.size, 0, none⟩)]) ∧ w' = w.alloc (.cells #[.slice a n cap] 43) := by
  go_enter Tryz.func148, Tryz.ntmps148
  go_wp2_with fail
  go_ret
  exact ⟨rfl, rfl⟩

set_option maxHeartbeats 1000000 in
theorem apart_any (a : Option Addr) (cap : Nat) (ss : List (List UInt8)) (hss : ss.length ≤ 4096) (w : World) (HT : Hid (TAt w w.heap.size a ss)) :
    Calls Tryz.prog 119 #[.slice a ss.length cap] w fun e w' => e = .returned (.bool (decide ss.Nodup)) ∧ Below w.heap.size w w' := by
  have HV := hid (values_any a ss.length cap w)
  have hb0 : Below w.heap.size w (w.alloc (.cells #[.slice a ss.length cap] 43)) := (Below.refl _ w).alloc (Nat.le_refl _) _
  have HS := hid (sorted_any w.heap.size a cap ss hss (w.alloc (.cells #[.slice a ss.length cap] 43)) (Go.Boxed.new w 43 (.slice a ss.length cap)).cell ((HT.out.below hb0).mono (by simp)))
  have HB0 := hid hb0
  clear hb0
  obtain ⟨n, hn⟩ : ∃ n, ss.length = n := ⟨_, rfl⟩
  rw [hn] at HV HS HB0 ⊢
  have HN := hid hn
  clear hn
  go_enter Tryz.func119, Tryz.ntmps119
  go_wp2_with fail
  refine HV.out.mono ?_
  rintro e w1 ⟨rfl, hw1⟩
  have HW1 := hid hw1
  clear HV hw1
  rw [← HW1.out] at HS HB0
  go_wp2_with fail
  refine HS.out.mono ?_
  rintro e w2 ⟨hv, hb2⟩
  have hsz := HB0.out.size
  obtain ⟨v, rfl⟩ : ∃ v, e = .returned v := by
    rcases hv with ⟨_, rfl⟩ | ⟨g, c, rfl, _⟩
    · exact ⟨_, rfl⟩
    · exact ⟨_, rfl⟩
  have HC := hid (compact_post ss hss w2 w.heap.size v (by
    rcases hv with ⟨h1, h2⟩ | ⟨g, c, h2, h3, h4, h5, h6⟩
    · exact .inl ⟨h1, by injection h2⟩
    · exact .inr ⟨g, c, by injection h2, h3, by omega, h5, h6⟩))
  have HB2 := hid (HB0.out.trans (hb2.mono hsz))
  clear HS hv hb2 hsz
  go_wp2_with fail
  refine HC.out.mono ?_
  rintro e w3 ⟨⟨a3, n3, c3, rfl, hnd⟩, hb3⟩
  have HB3 := hid (HB2.out.trans hb3)
  rw [HN.out] at hnd
  have HD := hid hnd
  clear HC hb3 hnd
  by_cases h : n3 = n
  · subst h
    have HR : Hid (decide ss.Nodup = true) := hid (by simpa using HD.out.1 rfl)
    go_wp2_with fail
    go_ret
    exact ⟨ret_bool (by rw [HR.out]), HB3.out⟩
  · have HR : Hid (decide ss.Nodup = false) := hid (by simpa using fun e => h (HD.out.2 e))
    have hne : ((n3 : Int) == n) = false := by simp; omega
    have hne2 : (n3 == n) = false := by simpa using h
    clear h
    go_wp2_with fail
    go_ret
    exact ⟨ret_bool (by rw [HR.out]), HB3.out⟩

end Go.Proofs.YtbihelpnojjacaaGreat.LisB
