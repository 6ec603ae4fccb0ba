/- Whether a list lets an origin pass: by the program and by the document. -/
import Derived.Test.YtoilakjlnflpbaaLisC
import Derived.Test.YtoilakjlnflpbaaGuaB
namespace Go.Proofs.Ytoilakjlnflpbaa.GuaD
open Go.ChangeShapes Go.WideShapes Go.ChangeAt Go.RowKit Base RulA Txt ValA LisA LisB LisC GuaB
set_option linter.unusedVariables false

def hasS (ss : List (List UInt8)) (o : ByteArray) : Bool := ss.any fun x => decide (bs x = o)
def listB (res : ByteArray) (white : Bool) (ss : List (List UInt8)) (o : ByteArray) : Bool := decide (listE res ss = 0) && (decide (o = ⟨#[]⟩) || (hasS ss o == white))

theorem TAt.heap {w w' : World} {n0 : Nat} {a : Option Addr} {ss : List (List UInt8)} (h : TAt w n0 a ss) (e : w'.heap = w.heap) : TAt w' n0 a ss := fun h0 => by
  obtain ⟨g, o, ha, hg, hc⟩ := h h0
  exact ⟨g, o, ha, hg, fun i x hx => (World.cell?_of_block (a := ⟨g, o + i, none⟩) (by rw [e])).trans (hc i x hx)⟩

set_option maxRecDepth 20000 in
set_option maxHeartbeats 1000000 in
theorem glist_core (res : ByteArray) (white : Bool) (a : Option Addr) (n cap : Nat) (o : ByteArray) (e : Int) (e0 b1 c r : Bool) (he : (e0 = true ∧ e = 0) ∨ (e0 = false ∧ e ≠ 0)) (hb : o.toList.isEmpty = b1) (R : Hid ((e0 && (b1 || (c == white))) = r)) (w : World)
    (H0 : Hid (∀ w', Below w.heap.size w w' → Calls Try.prog 48 #[.agg #[.string res, .bool white, .slice a n cap]] w' fun x w2 => x = .returned (.int .i64 e) ∧ Below w'.heap.size w' w2))
    (H1 : Hid (∀ w' wx, Below w.heap.size w w' → wx.heap = w'.heap → Calls Try.prog 49 #[.slice a n cap, .string o] wx fun x w2 => x = .returned (.bool c) ∧ wx = w2)) :
    Calls Try.prog 25 #[.agg #[.string res, .bool white, .slice a n cap], .string o] w fun x w' => x = .returned (.bool r) ∧ Below w.heap.size w w' := by
  have hb0 : Below w.heap.size w (w.alloc (.cells #[.string res, .bool white, .slice a n cap] 57)) := (Below.refl _ w).alloc (Nat.le_refl _) _
  have HB0 := hid hb0
  clear hb0
  go_enter Try.func25, Try.ntmps25
  go_wp2_with fail
  refine (H0.out _ HB0.out).mono ?_
  rintro x w1 ⟨rfl, hb1⟩
  have HB1 := hid (HB0.out.trans (hb1.mono HB0.out.size))
  have c1 : w1.cell? ⟨w.heap.size, 1, none⟩ = some (.bool white) := (hb1.cell (p := ⟨w.heap.size, 1, none⟩) (by simp)).trans (by go_cell)
  have c2 : w1.cell? ⟨w.heap.size, 2, none⟩ = some (.slice a n cap) := (hb1.cell (p := ⟨w.heap.size, 2, none⟩) (by simp)).trans (by go_cell)
  clear hb1 H0
  rcases he with ⟨rfl, rfl⟩ | ⟨rfl, he⟩
  · cases b1 with
    | true =>
      go_wp2_with fail
      go_region
      go_wp2_with fail
      go_ret
      exact ⟨ret_bool (by rw [← R.out]; simp), by first | exact HB1.out.drew | exact HB1.out⟩
    | false =>
      have HC := hid (H1.out w1 w1.drew HB1.out rfl)
      go_wp2_with fail
      go_quiet ((go_at_call 49; exact Calls.quiet_of_same ((H1.out w1 _ HB1.out (by rfl)).mono fun _ _ h => ⟨h.1, h.2.symm⟩)))
      have hq := below_drewN HB1.out nq
      go_wp2_with fail
      go_ret
      exact ⟨ret_bool (by rw [← R.out]; simp), hq⟩
  · have he1 : (e != 0) = true := by simpa using he
    clear he
    go_wp2_with fail
    go_ret
    exact ⟨ret_bool (by rw [← R.out]; rfl), HB1.out⟩

theorem GList_any (res : ByteArray) (white : Bool) (a : Option Addr) (cap : Nat) (ss : List (List UInt8)) (o : ByteArray) (w : World) (hr : res.size ≤ maxLen) (hss : ss.length ≤ 9223372036854775807) (hL : ∀ x ∈ ss, x.length ≤ maxLen) (hT : TAt w w.heap.size a ss) :
    Calls Try.prog 25 #[.agg #[.string res, .bool white, .slice a ss.length cap], .string o] w fun x w' => x = .returned (.bool (listB res white ss o)) ∧ Below w.heap.size w w' :=
  glist_core res white a ss.length cap o (listE res ss) (decide (listE res ss = 0)) (decide (o = ⟨#[]⟩)) (hasS ss o) _ (by
    by_cases h : listE res ss = 0
    · exact .inl ⟨by simpa using h, h⟩
    · exact .inr ⟨by simpa using h, h⟩) (empty_eq o) (hid rfl) w (hid fun w' hb => List_any res white a cap ss w' hr hss hL (TAt.low hT hb))
    (hid fun w' wx hb hh => contains_any a cap ss o wx hss (hid (TAt.heap (by have h := TAt.low hT hb; rwa [← hh] at h) hh)))

set_option maxRecDepth 20000 in
set_option maxHeartbeats 1000000 in
theorem RList_any (res : ByteArray) (white : Bool) (a : Option Addr) (cap : Nat) (ss : List (List UInt8)) (o : ByteArray) (w : World) (HR : Hid (res.size ≤ maxLen)) (hss : ss.length ≤ 9223372036854775807) (HL : Hid (∀ x ∈ ss, x.length ≤ maxLen)) (HT : Hid (TAt w w.heap.size a ss)) :
    Calls Try.prog 26 #[.agg #[.string res, .bool white, .slice a ss.length cap], .string o] w fun x w' => x = .returned (.bool (listB res white ss o)) ∧ Below w.heap.size w w' := by
  have hb0 : Below w.heap.size w (w.alloc (.cells #[.string res, .bool white, .slice a ss.length cap] 57)) := (Below.refl _ w).alloc (Nat.le_refl _) _
  have H0 := hid (rlist_core res white a cap ss _ HR hss HL (hid (TAt.low HT.out hb0)))
  have HB0 := hid hb0
  obtain ⟨n, hn⟩ : ∃ n, ss.length = n := ⟨_, rfl⟩
  rw [hn] at hss H0 HB0 hb0 ⊢
  have HN := hid hn
  clear hn hb0
  obtain ⟨e, he0⟩ : ∃ e, listE res ss = e := ⟨_, rfl⟩
  rw [he0] at H0
  have HE := hid he0
  clear he0
  obtain ⟨b1, hb1⟩ : ∃ b1, decide (o = (⟨#[]⟩ : ByteArray)) = b1 := ⟨_, rfl⟩
  have hb := (empty_eq o).trans hb1
  have HB1' := hid hb1
  clear hb1
  go_enter Try.func26, Try.ntmps26
  go_wp2_with fail
  refine H0.out.mono ?_
  rintro x w1 ⟨rfl, hb1⟩
  have HB1 := hid (HB0.out.trans (hb1.mono HB0.out.size))
  have c1 : w1.cell? ⟨w.heap.size, 1, none⟩ = some (.bool white) := (hb1.cell (p := ⟨w.heap.size, 1, none⟩) (by simp)).trans (by go_cell)
  have c2 : w1.cell? ⟨w.heap.size, 2, none⟩ = some (.slice a n cap) := (hb1.cell (p := ⟨w.heap.size, 2, none⟩) (by simp)).trans (by go_cell)
  have HT1 : Hid (TAt w1 w.heap.size a ss) := hid (HT.out.below HB1.out)
  clear hb1 H0
  by_cases he : e = 0
  · subst he
    cases b1 with
    | true =>
      go_wp2_with fail
      go_ret
      exact ⟨ret_bool (by unfold listB; rw [HE.out, HB1'.out]; rfl), HB1.out⟩
    | false =>
      obtain ⟨p, hp⟩ : ∃ p, w.heap.size = p := ⟨_, rfl⟩
      rw [hp] at c1 c2 HB1 HT1
      have HP := hid hp
      rw [hp]
      clear hp
      go_wp2_with fail
      clear hb
      go_loopw [5] (fun i wr => ∃ k : Nat, k ≤ n ∧ i = .int .i64 k ∧ (∀ (j : Nat) y, j < k → ss[j]? = some y → decide (bs y = o) = false) ∧ w1 = wr) (fun i _ => n - (intOf i).toNat)
      case atStart => exact ⟨0, Nat.zero_le _, rfl, fun j y h => by omega, rfl⟩
      case round =>
        obtain ⟨k, hk, rfl, hno, rfl⟩ := hrel
        have HNo := hid hno
        clear hno
        by_cases hlt : k < n
        · obtain ⟨g, q, rfl, hg, hc⟩ := HT1.out (by rw [HN.out]; omega)
          obtain ⟨x, hx⟩ : ∃ x, ss[k]? = some x := ⟨ss[k]'(by rw [HN.out]; exact hlt), List.getElem?_eq_getElem _⟩
          have x0 : w1.cell? ⟨g, q + k, none⟩ = some (.string ⟨x.toArray⟩) := hc k x hx
          have HX := hid hx
          obtain ⟨b, hb⟩ : ∃ b, decide (bs x = o) = b := ⟨_, rfl⟩
          have e1 : (x == o.toList) = b := by rw [show x = (bs x).toList from (bs_list x).symm, text_eq]; exact hb
          have HBb := hid hb
          clear hc hx hb
          cases b with
          | true =>
            have HE2 : Hid (hasS ss o = true) := hid (List.any_eq_true.2 ⟨x, List.mem_of_getElem? HX.out, HBb.out⟩)
            go_wp2_with fail
            go_ret
            exact ⟨ret_bool (by unfold listB; rw [HE.out, HB1'.out, HE2.out]; cases white <;> rfl), by rw [HP.out]; exact HB1.out⟩
          | false =>
            go_wp2_with fail
            go_roundw
            case rel => exact ⟨k + 1, by omega, by go_num, fun j y h1 h2 => (by
              rcases Nat.lt_or_ge j k with e | e
              · exact HNo.out j y e h2
              · obtain rfl : j = k := by omega
                rw [HX.out] at h2; cases h2; exact HBb.out), by trivial⟩
            case measure => simp [intOf]; omega
        · obtain rfl : k = n := by omega
          have HE2 : Hid (hasS ss o = false) := hid (by
            unfold hasS
            rw [List.any_eq_false]
            intro x hx
            obtain ⟨i, hi, rfl⟩ := List.getElem_of_mem hx
            rw [HNo.out i ss[i] (by rw [← HN.out]; exact hi) (List.getElem?_eq_getElem hi)]; simp)
          go_wp2_with fail
          go_ret
          exact ⟨ret_bool (by unfold listB; rw [HE.out, HB1'.out, HE2.out]; cases white <;> rfl), by rw [HP.out]; exact HB1.out⟩
  · have he1 : (e != 0) = true := by simpa using he
    have HF : Hid (decide (e = 0) = false) := hid (by simpa using he)
    clear he
    go_wp2_with fail
    go_ret
    exact ⟨ret_bool (by unfold listB; rw [HE.out, HF.out]; rfl), HB1.out⟩

end Go.Proofs.Ytoilakjlnflpbaa.GuaD
