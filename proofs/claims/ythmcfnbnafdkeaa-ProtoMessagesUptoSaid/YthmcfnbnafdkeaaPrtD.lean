/- Requests and answers as bytes: the program's Answer, and the document's. -/
import Derived.Test.YthmcfnbnafdkeaaPrtC
import Derived.Test.YthmcfnbnafdkeaaPrtR
import Derived.Test.YthmcfnbnafdkeaaPrtN
import Derived.Test.YthmcfnbnafdkeaaFrmI
namespace Go.Proofs.Ythmcfnbnafdkeaa.PrtD
open Go.ChangeShapes Go.WideShapes Go.ChangeAt Go.RowKit Base Wri FrmP FrmA FrmD FrmE FrmF FrmR FrmX FrmL FrmC2 FrmK FrmK2 RulA PrtA PrtB PrtC PrtR PrtN
set_option linter.unusedVariables false
set_option linter.unusedSimpArgs false

theorem rightA_nums {a : Aw} (h : rightA a = true) : ∃ id left wait token status : Nat, a = ⟨id, status, left, wait, token⟩ ∧ id < 2147483648 ∧ left ≤ 1099511627776 ∧ wait ≤ 1099511627776 ∧ token < 2147483648 ∧ status ≤ 8 ∧ 1 ≤ status := by
  obtain ⟨id, status, left, wait, token⟩ := a
  unfold rightA at h
  simp only [Bool.and_eq_true] at h
  obtain ⟨⟨⟨⟨h1, h2⟩, h3⟩, h4⟩, h5⟩ := h
  have := inR_iff.1 h1
  have := inR_iff.1 h2
  have := inR_iff.1 h3
  have := inR_iff.1 h4
  have := inR_iff.1 h5
  exact ⟨id.toNat, left.toNat, wait.toNat, token.toNat, status.toNat, by congr 1 <;> omega, by omega, by omega, by omega, by omega, by omega, by omega⟩

set_option maxRecDepth 20000 in
set_option maxHeartbeats 2000000 in
theorem answer_any (a : Aw) (w : World) (hs0 : 0 ≤ a.status) (hs1 : a.status ≤ 255) :
    Calls Try.prog 29 #[av a] w fun e w' => Told2 w (rightA a) (encA a) e w' := by
  cases hr : rightA a with
  | false =>
    obtain ⟨id, status, left, wait, token⟩ := a
    have HR := hid (fun w => rightA_any id status left wait token w hs0 hs1)
    rw [hr] at HR
    clear hr
    unfold av
    go_enter Try.func29, Try.ntmps29
    go_wp2_with (go_at_call 35; refine (HR.out _).mono ?_; rintro e w1 ⟨rfl, hb1⟩; have HB := hid hb1; clear hb1)
    go_ret2
    exact ⟨none, 0, rfl, World.ownsRow_nil _ _ _ _, (by repeat (first | (with_reducible exact Below.refl _ _) | (with_reducible refine Below.setCell ?_ (by first | (simp; done) | (simp; omega) | omega) _) | (with_reducible refine Below.alloc ?_ (by first | (simp; done) | (simp; omega) | omega) _) | (with_reducible refine Below.drew ?_) | (with_reducible refine Below.trans ?_ (Below.mono HB.out (by first | (simp; done) | (simp; omega) | omega)))))⟩
  | true =>
    obtain ⟨id, left, wait, token, status, he, h1, h2, h3, h4, h5, h6⟩ := rightA_nums hr
    subst he
    have HR := hid (fun w => rightA_any id status left wait token w hs0 hs1)
    rw [hr] at HR
    have HE : Hid (encA ⟨id, status, left, wait, token⟩ = bytesA id left wait token status) := hid (by simp [encA])
    rw [HE.out]
    clear hr hs0 hs1
    unfold av
    go_enter Try.func29, Try.ntmps29
    go_wp2_with (go_at_call 35
                 refine (HR.out _).mono ?_
                 rintro e w1 ⟨rfl, hb1⟩
                 have HB := hid hb1
                 have hbk : w1.heap[w.heap.size]? = some (.cells #[.int .i64 (id : Nat), .int .u8 (status : Nat), .int .i64 (left : Nat), .int .i64 (wait : Nat), .int .i64 (token : Nat)] 54 (0, 0)) := (hb1.block _ (by simp)).trans (heap_alloc_new _ _)
                 have c0 : w1.cell? ⟨w.heap.size, 0, none⟩ = some (.int .i64 (id : Nat)) := by simp [World.cell?, hbk]
                 have c1 : w1.cell? ⟨w.heap.size, 1, none⟩ = some (.int .u8 (status : Nat)) := by simp [World.cell?, hbk]
                 have c2 : w1.cell? ⟨w.heap.size, 2, none⟩ = some (.int .i64 (left : Nat)) := by simp [World.cell?, hbk]
                 have c3 : w1.cell? ⟨w.heap.size, 3, none⟩ = some (.int .i64 (wait : Nat)) := by simp [World.cell?, hbk]
                 have c4 : w1.cell? ⟨w.heap.size, 4, none⟩ = some (.int .i64 (token : Nat)) := by simp [World.cell?, hbk]
                 have hlt1 : w.heap.size < w1.heap.size := (Array.getElem?_eq_some_iff.1 hbk).1
                 clear hb1 hbk)
    refine (wanswer_any w.heap.size w1.heap.size id left wait token status (.slice none 0 0) _ (wt_new w1 90 (by decide) w.heap.size) (by simp; omega) (by omega) (by omega) (by omega) (by omega) (by omega)).mono ?_
    rintro e w2 ⟨rfl, v2, x2, hown, hwr⟩
    obtain ⟨va, vc, rfl⟩ := owns_shape hown
    have HO := hid (And.intro hown hwr)
    clear hown hwr c0 c1 c2 c3 c4
    have hbl : Hid (Below w.heap.size w w1) := hid (((Below.refl w.heap.size w).alloc (Nat.le_refl _) _).trans (HB.out.mono (by simp)))
    go_wp2_with fail
    go_ret2
    refine ⟨va, vc, rfl, HO.out.1, ?_⟩
    have h3 := HO.out.2.below w.heap.size (by simp; omega) (fun k e => by
      rcases e with e | e
      · omega
      · cases e)
    exact (hbl.out.alloc (by omega) _).trans h3

set_option maxRecDepth 20000 in
set_option maxHeartbeats 4000000 in
theorem rrightA_any (id status left wait token : Int) (w : World) (h0 : 0 ≤ status) (h1 : status ≤ 255) :
    Calls Try.prog 36 #[.agg #[.int .i64 id, .int .u8 status, .int .i64 left, .int .i64 wait, .int .i64 token]] w fun e w' => e = .returned (.bool (rightA ⟨id, status, left, wait, token⟩)) ∧ Below w.heap.size w w' := by
  have H1 := hid (fun w => rin_any id 0 2147483647 w)
  have H3 := hid (fun w => rin_any left 0 1099511627776 w)
  have H4 := hid (fun w => rin_any wait 0 1099511627776 w)
  have H5 := hid (fun w => rin_any token 0 2147483647 w)
  have HR : Hid (rightA ⟨id, status, left, wait, token⟩ = (inR id 0 2147483647 && inR status 1 8 && inR left 0 1099511627776 && inR wait 0 1099511627776 && inR token 0 2147483647)) := hid rfl
  rw [HR.out]
  clear HR
  generalize inR id 0 2147483647 = b1 at *
  generalize inR left 0 1099511627776 = b3 at *
  generalize inR wait 0 1099511627776 = b4 at *
  generalize inR token 0 2147483647 = b5 at *
  have key : (inR status 1 8 = true ∧ decide (1 ≤ status) = true ∧ decide (status ≤ 8) = true) ∨ (inR status 1 8 = false ∧ decide (1 ≤ status) = false) ∨ (inR status 1 8 = false ∧ decide (1 ≤ status) = true ∧ decide (status ≤ 8) = false) := by
    by_cases p1 : 1 ≤ status
    · by_cases p2 : status ≤ 8
      · exact .inl ⟨inR_iff.2 ⟨p1, p2⟩, decide_eq_true p1, decide_eq_true p2⟩
      · exact .inr (.inr ⟨inR_not.2 (fun h => p2 h.2), decide_eq_true p1, decide_eq_false p2⟩)
    · exact .inr (.inl ⟨inR_not.2 (fun h => p1 h.1), decide_eq_false p1⟩)
  rcases key with ⟨e2, g1, g2⟩ | ⟨e2, g1⟩ | ⟨e2, g1, g2⟩
  all_goals rw [e2]
  all_goals clear e2
  all_goals cases b1
  all_goals (try cases b3)
  all_goals (try cases b4)
  all_goals (try cases b5)
  all_goals go_enter Try.func36, Try.ntmps36
  all_goals go_wp2_with (go_at_call 63; (first | with_reducible refine (H1.out _).mono ?_ | with_reducible refine (H3.out _).mono ?_ | with_reducible refine (H4.out _).mono ?_ | with_reducible refine (H5.out _).mono ?_); rintro e w1 ⟨rfl, rfl⟩)
  all_goals go_ret
  all_goals exact ⟨rfl, (by repeat (first | (with_reducible exact Below.refl _ _) | (with_reducible refine Below.setCell ?_ (by first | (simp; done) | (simp; omega) | omega) _) | (with_reducible refine Below.alloc ?_ (by first | (simp; done) | (simp; omega) | omega) _) | (with_reducible refine Below.drew ?_)))⟩

set_option maxRecDepth 20000 in
set_option maxHeartbeats 4000000 in
theorem eight_any (n : Nat) (hn : n < 9223372036854775808) (w : World) : Calls Try.prog 59 #[.int .i64 (n : Nat)] w fun e w' => ∃ a c, e = .returned (.slice a 8 c) ∧ w'.ownsRow w.heap.size 5 1 (.slice a 8 c) 8 ((enc n).map bv) ∧ Below w.heap.size w w' := by
  obtain ⟨i0, hi, hz0, hz1, hz2⟩ := info_parts infoU8'
  go_enter Try.func59, Try.ntmps59
  go_wp2_with fail
  go_loopw [3, 4] (fun v i wr => ∃ (k : Nat) (a : Option Addr) (c : Nat), k ≤ 8 ∧ v = .slice a k c ∧ i = .int .i64 (56 - 8 * (k : Int)) ∧ wr.ownsRow w.heap.size 5 1 (.slice a k c) k (((enc n).take k).map bv) ∧ Below w.heap.size w wr) (fun _ i _ => (intOf i + 8).toNat)
  case atStart => exact ⟨0, none, 0, Nat.zero_le _, rfl, rfl, World.ownsRow_nil _ _ _ _, Below.refl _ _⟩
  case round =>
    obtain ⟨k, a, c, hk, rfl, rfl, hown, hb⟩ := hrel
    have hown1 : ∀ x : Int, (wr.alloc (.cells #[.int .u8 x] 5)).ownsRow w.heap.size 5 1 (.slice a k c) k (((enc n).take k).map bv) := fun x => World.ownsRow.alloc hown _
    have HO := hid hown1
    have HO0 := hid hown
    have HB := hid hb
    have hsz := hb.size
    clear hown hb hown1
    by_cases hlt : k < 8
    · have HE := hid (enc_take n hlt)
      have hk8 : k = 0 ∨ k = 1 ∨ k = 2 ∨ k = 3 ∨ k = 4 ∨ k = 5 ∨ k = 6 ∨ k = 7 := by omega
      clear hk hlt
      rcases hk8 with rfl | rfl | rfl | rfl | rfl | rfl | rfl | rfl
      all_goals
        go_wp2_with (at_builtin
                     refine wpList_append_own_at _ rfl _ _ 28 rfl w.heap.size 5 i0 (.int .u8 0) 1 1 Try.underlying28 hi hz0 hz1 hz2 rfl (by decide) _ _ _ rfl (HO.out _) ⟨wr.heap.size, 0, none⟩ 1 1 [.int .u8 _] rfl rfl (AlbC.cell_one _ _ _) (by intro u hu; obtain rfl := List.mem_singleton.1 hu; rfl) (by unfold maxLen; omega) (by omega) (by simp; omega) ?_
                     intro v4 w4 hown4 hgrow4 _ hat4
                     obtain ⟨vb, vd, rfl⟩ := owns_shape hown4
                     have hb4 : Below w.heap.size w w4 := Below.grown (HB.out.alloc hsz _) hgrow4 (by simp; omega) (fun g e => (HO0.out.lt g e).1)
                     have H4 := hid (And.intro hown4 hb4)
                     clear hown4 hgrow4 hat4 hb4)
        go_roundw
        case rel =>
          refine ⟨_, vb, vd, by omega, rfl, by go_num, ?_, H4.out.2⟩
          rw [HE.out, List.map_append]
          have h4 := H4.out.1
          exact (congrArg (fun l => w4.ownsRow w.heap.size 5 1 (.slice vb _ vd) _ l) (by simp [enc, bv] <;> omega)).mp h4
        case measure => simp [intOf]
    · obtain rfl : k = 8 := by omega
      have hall : (enc n).take 8 = enc n := rfl
      rw [hall] at HO0
      go_wp2_with fail
      go_ret
      exact ⟨a, c, rfl, HO0.out, HB.out⟩

end Go.Proofs.Ythmcfnbnafdkeaa.PrtD
