/- The law ProtoReads: requests and answers read as the document says. -/
import Derived.Test.YtbpajgkhajheaaaPrtJ
import Derived.Test.YtbpajgkhajheaaaFrmV
import Derived.Deep.RegionHeld3
import Derived.Test.YtbpajgkhajheaaaFrmL
import Derived.Test.YtbpajgkhajheaaaVrw
import Derived.Test.YtbpajgkhajheaaaOpn
import Derived.Test.YtbpajgkhajheaaaFrmZ
import Derived.Test.YtbpajgkhajheaaaRows
import Derived.WalkKit
import Derived.ProofKit
import Derived.OpenShut
import Derived.ShutString
import Derived.ChangeOld
import Derived.Below
import Derived.SizedLaws
import Derived.ChangeShapes

/- ReadRequest and ReadAnswer: the document's. -/
namespace Go.Proofs.Ytbpajgkhajheaaa.PrtK
open Go.ChangeShapes Go.WideShapes Go.ChangeAt Go.RowKit Base Wri Vrw FrmP FrmA FrmD FrmE FrmF FrmR FrmX FrmL FrmC2 FrmK FrmK2 FrmV RulA PrtA PrtB PrtC PrtR PrtN PrtD PrtE PrtF PrtG PrtH PrtI PrtJ
set_option linter.unusedVariables false
set_option linter.unusedSimpArgs false

set_option maxRecDepth 20000 in
set_option maxHeartbeats 4000000 in
theorem rreadAnswer_any (a : Option Addr) (c : Nat) (b : Bs) (w : World) (HB : Hid (BAt w w.heap.size a b)) (hc : b.length ≤ c) (hc2 : c ≤ 9223372036854775807) (hb : b.length ≤ 9223372036854775000) :
    Calls Try.prog 49 #[.slice a b.length c] w fun e w' => e = .returned (toldAnswer b) ∧ Below w.heap.size w w' := by
  rcases Nat.lt_or_ge b.length 33 with h33 | h33
  · have HT : Hid (toldAnswer b = .tuple #[.agg #[.int .i64 0, .int .u8 0, .int .i64 0, .int .i64 0, .int .i64 0], .int .i64 6, .int .i64 (b.length : Nat)]) := hid (by
      have := endA_short h33
      unfold toldAnswer wholeB wholeP
      rw [this]
      rfl)
    rw [HT.out]
    clear HT
    obtain ⟨PL, hPL⟩ : ∃ PL, b.length = PL := ⟨_, rfl⟩
    rw [hPL] at h33 hc hb ⊢
    clear hPL
    go_enter Try.func49, Try.ntmps49
    go_wp2_with fail
    obtain ⟨wz, hwz⟩ : ∃ wz, w.alloc (.cells #[.int .i64 0, .int .u8 0, .int .i64 0, .int .i64 0, .int .i64 0] 62) = wz := ⟨_, rfl⟩
    have hkr : wz.heap[w.heap.size]? = some (.cells #[.int .i64 0, .int .u8 0, .int .i64 0, .int .i64 0, .int .i64 0] 62 (0, 0)) := by rw [← hwz]; exact heap_alloc_new _ _
    have hbz : Below w.heap.size w wz := by rw [← hwz]; exact (Below.refl _ _).alloc (Nat.le_refl _) _
    rw [hwz]
    have r0 : wz.cell? ⟨w.heap.size, 0, none⟩ = some (.int .i64 0) := by simp [World.cell?, hkr]
    have r1 : wz.cell? ⟨w.heap.size, 1, none⟩ = some (.int .u8 0) := by simp [World.cell?, hkr]
    have r2 : wz.cell? ⟨w.heap.size, 2, none⟩ = some (.int .i64 0) := by simp [World.cell?, hkr]
    have r3 : wz.cell? ⟨w.heap.size, 3, none⟩ = some (.int .i64 0) := by simp [World.cell?, hkr]
    have r4 : wz.cell? ⟨w.heap.size, 4, none⟩ = some (.int .i64 0) := by simp [World.cell?, hkr]
    refine bodyPost_ret (v := .tuple #[.agg #[.int .i64 0, .int .u8 0, .int .i64 0, .int .i64 0, .int .i64 0], .int .i64 6, .int .i64 (PL : Nat)]) (by simp [results, Try.results49, go_sem, r0, r1, r2, r3, r4]) rfl ?_
    exact ⟨rfl, hbz⟩
  · obtain ⟨e1, e2, e3⟩ := there h33
    by_cases hm : 33 < b.length
    · have HT : Hid (toldAnswer b = .tuple #[.agg #[.int .i64 0, .int .u8 0, .int .i64 0, .int .i64 0, .int .i64 0], .int .i64 6, .int .i64 (33 : Nat)]) := hid (by
        unfold toldAnswer wholeB wholeP
        rw [e1]
        simp [hm])
      rw [HT.out]
      clear HT e1 e2 e3
      generalize b.length = L at *
      go_enter Try.func49, Try.ntmps49
      go_wp2_with fail
      obtain ⟨wz, hwz⟩ : ∃ wz, w.alloc (.cells #[.int .i64 0, .int .u8 0, .int .i64 0, .int .i64 0, .int .i64 0] 62) = wz := ⟨_, rfl⟩
      have hkr : wz.heap[w.heap.size]? = some (.cells #[.int .i64 0, .int .u8 0, .int .i64 0, .int .i64 0, .int .i64 0] 62 (0, 0)) := by rw [← hwz]; exact heap_alloc_new _ _
      have hbz : Below w.heap.size w wz := by rw [← hwz]; exact (Below.refl _ _).alloc (Nat.le_refl _) _
      rw [hwz]
      have r0 : wz.cell? ⟨w.heap.size, 0, none⟩ = some (.int .i64 0) := by simp [World.cell?, hkr]
      have r1 : wz.cell? ⟨w.heap.size, 1, none⟩ = some (.int .u8 0) := by simp [World.cell?, hkr]
      have r2 : wz.cell? ⟨w.heap.size, 2, none⟩ = some (.int .i64 0) := by simp [World.cell?, hkr]
      have r3 : wz.cell? ⟨w.heap.size, 3, none⟩ = some (.int .i64 0) := by simp [World.cell?, hkr]
      have r4 : wz.cell? ⟨w.heap.size, 4, none⟩ = some (.int .i64 0) := by simp [World.cell?, hkr]
      refine bodyPost_ret (v := .tuple #[.agg #[.int .i64 0, .int .u8 0, .int .i64 0, .int .i64 0, .int .i64 0], .int .i64 6, .int .i64 33]) (by simp [results, Try.results49, go_sem, r0, r1, r2, r3, r4]) rfl ?_
      exact ⟨rfl, hbz⟩
    · have hL : b.length = 33 := by omega
      have HT : Hid (toldAnswer b = if rightA (awO b) then .tuple #[av (awO b), .int .i64 0, .int .i64 0] else .tuple #[.agg #[.int .i64 0, .int .u8 0, .int .i64 0, .int .i64 0, .int .i64 0], .int .i64 6, .int .i64 0]) := hid (by
        unfold toldAnswer wholeB wholeP
        rw [e1]
        simp [hL])
      rw [HT.out]
      clear HT
      obtain ⟨g, o, hag, hg, hcl⟩ := HB.out (by omega)
      have z0 : w.cell? ⟨g, o, none⟩ = some (.int .u8 (wantO b : Nat)) := by
        have := hcl 0 (b.getD 0 0) (by rw [List.getD_eq_getElem?_getD, List.getElem?_eq_getElem (show 0 < b.length by omega)]; rfl)
        rw [e2]
        exact this
      obtain ⟨a1, c1, s1, b1, -, -, -⟩ := slice_from a c 1 b (by omega) hc HB.out
      obtain ⟨a2, c2, s2, b2, -, -, -⟩ := slice_from a c 9 b (by omega) hc HB.out
      obtain ⟨a3, c3, s3, b3, -, -, -⟩ := slice_from a c 17 b (by omega) hc HB.out
      obtain ⟨a4, c4, s4, b4, -, -, -⟩ := slice_from a c 25 b (by omega) hc HB.out
      have l1 : (b.drop 1).length = b.length - 1 := List.length_drop
      have l2 : (b.drop 9).length = b.length - 9 := List.length_drop
      have l3 : (b.drop 17).length = b.length - 17 := List.length_drop
      have l4 : (b.drop 25).length = b.length - 25 := List.length_drop
      have H1 := hid (fun (wx : World) (hx : Below w.heap.size w wx) => number_any a1 c1 (b.drop 1) wx (by omega) (by omega) (hid ((b1.below hx).mono hx.size)))
      have H2 := hid (fun (wx : World) (hx : Below w.heap.size w wx) => number_any a2 c2 (b.drop 9) wx (by omega) (by omega) (hid ((b2.below hx).mono hx.size)))
      have H3 := hid (fun (wx : World) (hx : Below w.heap.size w wx) => number_any a3 c3 (b.drop 17) wx (by omega) (by omega) (hid ((b3.below hx).mono hx.size)))
      have H4 := hid (fun (wx : World) (hx : Below w.heap.size w wx) => number_any a4 c4 (b.drop 25) wx (by omega) (by omega) (hid ((b4.below hx).mono hx.size)))
      rw [show num ((b.drop 1).take 8) = nO b 0 from (e3 0 (by omega)).symm, l1] at H1
      rw [show num ((b.drop 9).take 8) = nO b 1 from (e3 1 (by omega)).symm, l2] at H2
      rw [show num ((b.drop 17).take 8) = nO b 2 from (e3 2 (by omega)).symm, l3] at H3
      rw [show num ((b.drop 25).take 8) = nO b 3 from (e3 3 (by omega)).symm, l4] at H4
      rw [l1] at s1
      rw [l2] at s2
      rw [l3] at s3
      rw [l4] at s4
      subst hag
      rw [hL] at s1 s2 s3 s4 H1 H2 H3 H4 hc ⊢
      have t1 : ∀ wx, Sem.run Try.prog (Instr.sliceAt 23 (.slice (some ⟨g, o, none⟩) 33 c) (some (.int .i64 1)) none none) wx = .ok (.slice a1 32 c1) wx := s1
      have t2 : ∀ wx, Sem.run Try.prog (Instr.sliceAt 23 (.slice (some ⟨g, o, none⟩) 33 c) (some (.int .i64 9)) none none) wx = .ok (.slice a2 24 c2) wx := s2
      have t3 : ∀ wx, Sem.run Try.prog (Instr.sliceAt 23 (.slice (some ⟨g, o, none⟩) 33 c) (some (.int .i64 17)) none none) wx = .ok (.slice a3 16 c3) wx := s3
      have t4 : ∀ wx, Sem.run Try.prog (Instr.sliceAt 23 (.slice (some ⟨g, o, none⟩) 33 c) (some (.int .i64 25)) none none) wx = .ok (.slice a4 8 c4) wx := s4
      clear s1 s2 s3 s4 l1 l2 l3 l4 b1 b2 b3 b4 e1 e2 e3 hcl h33 hm
      have HR := hid (fun w => rrightA_any (nO b 0) (wantO b : Nat) (nO b 1) (nO b 2) (nO b 3) w (by omega) (by have := UInt8.toNat_lt ((nx b zero 1).getD 0 0); show ((((nx b zero 1).getD 0 0).toNat : Nat) : Int) ≤ 255; omega))
      rw [show rightA ⟨nO b 0, (wantO b : Nat), nO b 1, nO b 2, nO b 3⟩ = rightA (awO b) from rfl] at HR
      cases hr : rightA (awO b) with
      | false =>
        rw [hr] at HR
        go_enter Try.func49, Try.ntmps49
        go_wp2_with fail
        go_region_held3 (fun w' => w'.cell? ⟨g, o, none⟩ = some (.int .u8 (wantO b : Nat))) (first | assumption | go_keep) (first
          | (go_at_call 74
             (first | with_reducible refine (H1.out _ (by repeat (first | (with_reducible exact Below.refl _ _) | (with_reducible refine Below.setCell ?_ (by first | (simp; done) | (simp; omega) | omega) _) | (with_reducible refine Below.alloc ?_ (by first | (simp; done) | (simp; omega) | omega) _) | (with_reducible refine Below.drew ?_)))).mono ?_ | with_reducible refine (H2.out _ (by repeat (first | (with_reducible exact Below.refl _ _) | (with_reducible refine Below.setCell ?_ (by first | (simp; done) | (simp; omega) | omega) _) | (with_reducible refine Below.alloc ?_ (by first | (simp; done) | (simp; omega) | omega) _) | (with_reducible refine Below.drew ?_)))).mono ?_ | with_reducible refine (H3.out _ (by repeat (first | (with_reducible exact Below.refl _ _) | (with_reducible refine Below.setCell ?_ (by first | (simp; done) | (simp; omega) | omega) _) | (with_reducible refine Below.alloc ?_ (by first | (simp; done) | (simp; omega) | omega) _) | (with_reducible refine Below.drew ?_)))).mono ?_ | with_reducible refine (H4.out _ (by repeat (first | (with_reducible exact Below.refl _ _) | (with_reducible refine Below.setCell ?_ (by first | (simp; done) | (simp; omega) | omega) _) | (with_reducible refine Below.alloc ?_ (by first | (simp; done) | (simp; omega) | omega) _) | (with_reducible refine Below.drew ?_)))).mono ?_)
             rintro e w9 ⟨rfl, rfl⟩))
        all_goals
          obtain ⟨wz, hwz⟩ : ∃ wz, ((w.alloc (.cells #[.int .i64 0, .int .u8 0, .int .i64 0, .int .i64 0, .int .i64 0] 62)).alloc (.cells #[.int .i64 (nO b 0), .int .u8 (wantO b : Nat), .int .i64 (nO b 1), .int .i64 (nO b 2), .int .i64 (nO b 3)] 62)).drew = wz := ⟨_, rfl⟩
          have hbz : Below w.heap.size w wz := by
            rw [← hwz]
            exact Below.drew (((Below.refl _ _).alloc (Nat.le_refl _) _).alloc (by simp) _)
          have hkz : wz.heap[w.heap.size]? = some (.cells #[.int .i64 0, .int .u8 0, .int .i64 0, .int .i64 0, .int .i64 0] 62 (0, 0)) := by
            rw [← hwz]
            exact (AlbC.heap_alloc_old _ _ _ (by simp)).trans (heap_alloc_new _ _)
          have hkq : wz.heap[w.heap.size + 1]? = some (.cells #[.int .i64 (nO b 0), .int .u8 (wantO b : Nat), .int .i64 (nO b 1), .int .i64 (nO b 2), .int .i64 (nO b 3)] 62 (0, 0)) := by
            rw [← hwz]
            have := heap_alloc_new (w.alloc (.cells #[.int .i64 0, .int .u8 0, .int .i64 0, .int .i64 0, .int .i64 0] 62)) (.cells #[.int .i64 (nO b 0), .int .u8 (wantO b : Nat), .int .i64 (nO b 1), .int .i64 (nO b 2), .int .i64 (nO b 3)] 62)
            rw [show (w.alloc (.cells #[.int .i64 0, .int .u8 0, .int .i64 0, .int .i64 0, .int .i64 0] 62)).heap.size = w.heap.size + 1 from by simp] at this
            exact this
          rw [hwz]
          clear hwz
          have c0 : wz.cell? ⟨w.heap.size + 1, 0, none⟩ = some (.int .i64 (nO b 0)) := by simp [World.cell?, hkq]
          have c1 : wz.cell? ⟨w.heap.size + 1, 1, none⟩ = some (.int .u8 (wantO b : Nat)) := by simp [World.cell?, hkq]
          have c2 : wz.cell? ⟨w.heap.size + 1, 2, none⟩ = some (.int .i64 (nO b 1)) := by simp [World.cell?, hkq]
          have c3 : wz.cell? ⟨w.heap.size + 1, 3, none⟩ = some (.int .i64 (nO b 2)) := by simp [World.cell?, hkq]
          have c4 : wz.cell? ⟨w.heap.size + 1, 4, none⟩ = some (.int .i64 (nO b 3)) := by simp [World.cell?, hkq]
          go_wp2_with fail
          refine (HR.out _).mono ?_
          rintro e w9 ⟨rfl, hb9⟩
          have hk9 := (hb9.block _ (Array.getElem?_eq_some_iff.1 hkz).1).trans hkz
          have hq9 := (hb9.block _ (Array.getElem?_eq_some_iff.1 hkq).1).trans hkq
          have HB9 := hid (hbz.trans (hb9.mono hbz.size))
          have r0 : w9.cell? ⟨w.heap.size, 0, none⟩ = some (.int .i64 0) := by simp [World.cell?, hk9]
          have f0 : w9.frozen? ⟨w.heap.size, 0, none⟩ = false := by simp [World.frozen?, hk9]
          have q0 : w9.cell? ⟨w.heap.size + 1, 0, none⟩ = some (.int .i64 (nO b 0)) := by simp [World.cell?, hq9]
          have r1 : w9.cell? ⟨w.heap.size, 1, none⟩ = some (.int .u8 0) := by simp [World.cell?, hk9]
          have f1 : w9.frozen? ⟨w.heap.size, 1, none⟩ = false := by simp [World.frozen?, hk9]
          have q1 : w9.cell? ⟨w.heap.size + 1, 1, none⟩ = some (.int .u8 (wantO b : Nat)) := by simp [World.cell?, hq9]
          have r2 : w9.cell? ⟨w.heap.size, 2, none⟩ = some (.int .i64 0) := by simp [World.cell?, hk9]
          have f2 : w9.frozen? ⟨w.heap.size, 2, none⟩ = false := by simp [World.frozen?, hk9]
          have q2 : w9.cell? ⟨w.heap.size + 1, 2, none⟩ = some (.int .i64 (nO b 1)) := by simp [World.cell?, hq9]
          have r3 : w9.cell? ⟨w.heap.size, 3, none⟩ = some (.int .i64 0) := by simp [World.cell?, hk9]
          have f3 : w9.frozen? ⟨w.heap.size, 3, none⟩ = false := by simp [World.frozen?, hk9]
          have q3 : w9.cell? ⟨w.heap.size + 1, 3, none⟩ = some (.int .i64 (nO b 2)) := by simp [World.cell?, hq9]
          have r4 : w9.cell? ⟨w.heap.size, 4, none⟩ = some (.int .i64 0) := by simp [World.cell?, hk9]
          have f4 : w9.frozen? ⟨w.heap.size, 4, none⟩ = false := by simp [World.frozen?, hk9]
          have q4 : w9.cell? ⟨w.heap.size + 1, 4, none⟩ = some (.int .i64 (nO b 3)) := by simp [World.cell?, hq9]
          clear hb9 hk9 hq9 hkz hkq hbz c0 c1 c2 c3 c4
          go_wp2_with fail
          have KK := set5 (y0 := .int .i64 0) (y1 := .int .u8 0) (y2 := .int .i64 0) (y3 := .int .i64 0) (y4 := .int .i64 0) r0 r1 r2 r3 r4
          obtain ⟨k60, k61, k62, k63, k64⟩ := KK
          refine bodyPost_ret (v := .tuple #[.agg #[.int .i64 0, .int .u8 0, .int .i64 0, .int .i64 0, .int .i64 0], .int .i64 6, .int .i64 0]) (by simp [results, Try.results49, go_sem, k60, k61, k62, k63, k64]) rfl ?_
          exact ⟨rfl, (Below.setCell (Below.setCell (Below.setCell (Below.setCell (Below.setCell HB9.out (Nat.le_refl _) _) (Nat.le_refl _) _) (Nat.le_refl _) _) (Nat.le_refl _) _) (Nat.le_refl _) _)⟩
      | true =>
        rw [hr] at HR
        go_enter Try.func49, Try.ntmps49
        go_wp2_with fail
        go_region_held3 (fun w' => w'.cell? ⟨g, o, none⟩ = some (.int .u8 (wantO b : Nat))) (first | assumption | go_keep) (first
          | (go_at_call 74
             (first | with_reducible refine (H1.out _ (by repeat (first | (with_reducible exact Below.refl _ _) | (with_reducible refine Below.setCell ?_ (by first | (simp; done) | (simp; omega) | omega) _) | (with_reducible refine Below.alloc ?_ (by first | (simp; done) | (simp; omega) | omega) _) | (with_reducible refine Below.drew ?_)))).mono ?_ | with_reducible refine (H2.out _ (by repeat (first | (with_reducible exact Below.refl _ _) | (with_reducible refine Below.setCell ?_ (by first | (simp; done) | (simp; omega) | omega) _) | (with_reducible refine Below.alloc ?_ (by first | (simp; done) | (simp; omega) | omega) _) | (with_reducible refine Below.drew ?_)))).mono ?_ | with_reducible refine (H3.out _ (by repeat (first | (with_reducible exact Below.refl _ _) | (with_reducible refine Below.setCell ?_ (by first | (simp; done) | (simp; omega) | omega) _) | (with_reducible refine Below.alloc ?_ (by first | (simp; done) | (simp; omega) | omega) _) | (with_reducible refine Below.drew ?_)))).mono ?_ | with_reducible refine (H4.out _ (by repeat (first | (with_reducible exact Below.refl _ _) | (with_reducible refine Below.setCell ?_ (by first | (simp; done) | (simp; omega) | omega) _) | (with_reducible refine Below.alloc ?_ (by first | (simp; done) | (simp; omega) | omega) _) | (with_reducible refine Below.drew ?_)))).mono ?_)
             rintro e w9 ⟨rfl, rfl⟩))
        all_goals
          obtain ⟨wz, hwz⟩ : ∃ wz, ((w.alloc (.cells #[.int .i64 0, .int .u8 0, .int .i64 0, .int .i64 0, .int .i64 0] 62)).alloc (.cells #[.int .i64 (nO b 0), .int .u8 (wantO b : Nat), .int .i64 (nO b 1), .int .i64 (nO b 2), .int .i64 (nO b 3)] 62)).drew = wz := ⟨_, rfl⟩
          have hbz : Below w.heap.size w wz := by
            rw [← hwz]
            exact Below.drew (((Below.refl _ _).alloc (Nat.le_refl _) _).alloc (by simp) _)
          have hkz : wz.heap[w.heap.size]? = some (.cells #[.int .i64 0, .int .u8 0, .int .i64 0, .int .i64 0, .int .i64 0] 62 (0, 0)) := by
            rw [← hwz]
            exact (AlbC.heap_alloc_old _ _ _ (by simp)).trans (heap_alloc_new _ _)
          have hkq : wz.heap[w.heap.size + 1]? = some (.cells #[.int .i64 (nO b 0), .int .u8 (wantO b : Nat), .int .i64 (nO b 1), .int .i64 (nO b 2), .int .i64 (nO b 3)] 62 (0, 0)) := by
            rw [← hwz]
            have := heap_alloc_new (w.alloc (.cells #[.int .i64 0, .int .u8 0, .int .i64 0, .int .i64 0, .int .i64 0] 62)) (.cells #[.int .i64 (nO b 0), .int .u8 (wantO b : Nat), .int .i64 (nO b 1), .int .i64 (nO b 2), .int .i64 (nO b 3)] 62)
            rw [show (w.alloc (.cells #[.int .i64 0, .int .u8 0, .int .i64 0, .int .i64 0, .int .i64 0] 62)).heap.size = w.heap.size + 1 from by simp] at this
            exact this
          rw [hwz]
          clear hwz
          have c0 : wz.cell? ⟨w.heap.size + 1, 0, none⟩ = some (.int .i64 (nO b 0)) := by simp [World.cell?, hkq]
          have c1 : wz.cell? ⟨w.heap.size + 1, 1, none⟩ = some (.int .u8 (wantO b : Nat)) := by simp [World.cell?, hkq]
          have c2 : wz.cell? ⟨w.heap.size + 1, 2, none⟩ = some (.int .i64 (nO b 1)) := by simp [World.cell?, hkq]
          have c3 : wz.cell? ⟨w.heap.size + 1, 3, none⟩ = some (.int .i64 (nO b 2)) := by simp [World.cell?, hkq]
          have c4 : wz.cell? ⟨w.heap.size + 1, 4, none⟩ = some (.int .i64 (nO b 3)) := by simp [World.cell?, hkq]
          go_wp2_with fail
          refine (HR.out _).mono ?_
          rintro e w9 ⟨rfl, hb9⟩
          have hk9 := (hb9.block _ (Array.getElem?_eq_some_iff.1 hkz).1).trans hkz
          have hq9 := (hb9.block _ (Array.getElem?_eq_some_iff.1 hkq).1).trans hkq
          have HB9 := hid (hbz.trans (hb9.mono hbz.size))
          have r0 : w9.cell? ⟨w.heap.size, 0, none⟩ = some (.int .i64 0) := by simp [World.cell?, hk9]
          have f0 : w9.frozen? ⟨w.heap.size, 0, none⟩ = false := by simp [World.frozen?, hk9]
          have q0 : w9.cell? ⟨w.heap.size + 1, 0, none⟩ = some (.int .i64 (nO b 0)) := by simp [World.cell?, hq9]
          have r1 : w9.cell? ⟨w.heap.size, 1, none⟩ = some (.int .u8 0) := by simp [World.cell?, hk9]
          have f1 : w9.frozen? ⟨w.heap.size, 1, none⟩ = false := by simp [World.frozen?, hk9]
          have q1 : w9.cell? ⟨w.heap.size + 1, 1, none⟩ = some (.int .u8 (wantO b : Nat)) := by simp [World.cell?, hq9]
          have r2 : w9.cell? ⟨w.heap.size, 2, none⟩ = some (.int .i64 0) := by simp [World.cell?, hk9]
          have f2 : w9.frozen? ⟨w.heap.size, 2, none⟩ = false := by simp [World.frozen?, hk9]
          have q2 : w9.cell? ⟨w.heap.size + 1, 2, none⟩ = some (.int .i64 (nO b 1)) := by simp [World.cell?, hq9]
          have r3 : w9.cell? ⟨w.heap.size, 3, none⟩ = some (.int .i64 0) := by simp [World.cell?, hk9]
          have f3 : w9.frozen? ⟨w.heap.size, 3, none⟩ = false := by simp [World.frozen?, hk9]
          have q3 : w9.cell? ⟨w.heap.size + 1, 3, none⟩ = some (.int .i64 (nO b 2)) := by simp [World.cell?, hq9]
          have r4 : w9.cell? ⟨w.heap.size, 4, none⟩ = some (.int .i64 0) := by simp [World.cell?, hk9]
          have f4 : w9.frozen? ⟨w.heap.size, 4, none⟩ = false := by simp [World.frozen?, hk9]
          have q4 : w9.cell? ⟨w.heap.size + 1, 4, none⟩ = some (.int .i64 (nO b 3)) := by simp [World.cell?, hq9]
          clear hb9 hk9 hq9 hkz hkq hbz c0 c1 c2 c3 c4
          go_wp2_with fail
          have KK := set5 (y0 := .int .i64 (nO b 0)) (y1 := .int .u8 (wantO b : Nat)) (y2 := .int .i64 (nO b 1)) (y3 := .int .i64 (nO b 2)) (y4 := .int .i64 (nO b 3)) r0 r1 r2 r3 r4
          obtain ⟨k60, k61, k62, k63, k64⟩ := KK
          refine bodyPost_ret (v := .tuple #[.agg #[.int .i64 (nO b 0), .int .u8 (wantO b : Nat), .int .i64 (nO b 1), .int .i64 (nO b 2), .int .i64 (nO b 3)], .int .i64 0, .int .i64 0]) (by simp [results, Try.results49, go_sem, k60, k61, k62, k63, k64]) rfl ?_
          exact ⟨rfl, (Below.setCell (Below.setCell (Below.setCell (Below.setCell (Below.setCell HB9.out (Nat.le_refl _) _) (Nat.le_refl _) _) (Nat.le_refl _) _) (Nat.le_refl _) _) (Nat.le_refl _) _)⟩

set_option maxRecDepth 20000 in
set_option maxHeartbeats 4000000 in
theorem rreadRequest_any (a : Option Addr) (c : Nat) (b : Bs) (w : World) (HB : Hid (BAt w w.heap.size a b)) (hc : b.length ≤ c) (hc2 : c ≤ 9223372036854775807) (hb : b.length ≤ 9223372036854775000) :
    Calls Try.prog 47 #[.slice a b.length c] w fun e w' => e = .returned (toldRequest b) ∧ Below w.heap.size w w' := by
  have hlt : lenT b < 256 := UInt8.toNat_lt (b.getD 33 0)
  by_cases h34 : b.length < 34
  · have HT : Hid (toldRequest b = .tuple #[.agg #[.int .i64 0, .int .u8 0, .int .i64 0, .int .i64 0, .string ⟨#[]⟩, .int .i64 0], .int .i64 6, .int .i64 (b.length : Nat)]) := hid (by
      have := endR_short (.inl h34)
      unfold toldRequest wholeB wholeP
      rw [this]
      rfl)
    rw [HT.out]
    clear HT
    obtain ⟨PL, hPL⟩ : ∃ PL, b.length = PL := ⟨_, rfl⟩
    rw [hPL] at h34 hc hb ⊢
    clear hPL
    go_enter Try.func47, Try.ntmps47
    go_wp2_with fail
    obtain ⟨wz, hwz⟩ : ∃ wz, w.alloc (.cells #[.int .i64 0, .int .u8 0, .int .i64 0, .int .i64 0, .string ⟨#[]⟩, .int .i64 0] 59) = wz := ⟨_, rfl⟩
    have hkr : wz.heap[w.heap.size]? = some (.cells #[.int .i64 0, .int .u8 0, .int .i64 0, .int .i64 0, .string ⟨#[]⟩, .int .i64 0] 59 (0, 0)) := by rw [← hwz]; exact heap_alloc_new _ _
    have hbz : Below w.heap.size w wz := by rw [← hwz]; exact (Below.refl _ _).alloc (Nat.le_refl _) _
    rw [hwz]
    have r0 : wz.cell? ⟨w.heap.size, 0, none⟩ = some (.int .i64 0) := by simp [World.cell?, hkr]
    have r1 : wz.cell? ⟨w.heap.size, 1, none⟩ = some (.int .u8 0) := by simp [World.cell?, hkr]
    have r2 : wz.cell? ⟨w.heap.size, 2, none⟩ = some (.int .i64 0) := by simp [World.cell?, hkr]
    have r3 : wz.cell? ⟨w.heap.size, 3, none⟩ = some (.int .i64 0) := by simp [World.cell?, hkr]
    have r4 : wz.cell? ⟨w.heap.size, 4, none⟩ = some (.string ⟨#[]⟩) := by simp [World.cell?, hkr]
    have r5 : wz.cell? ⟨w.heap.size, 5, none⟩ = some (.int .i64 0) := by simp [World.cell?, hkr]
    refine bodyPost_ret (v := .tuple #[.agg #[.int .i64 0, .int .u8 0, .int .i64 0, .int .i64 0, .string ⟨#[]⟩, .int .i64 0], .int .i64 6, .int .i64 (PL : Nat)]) (by simp [results, Try.results47, go_sem, r0, r1, r2, r3, r4, r5]) rfl ?_
    exact ⟨rfl, hbz⟩
  · obtain ⟨g, o, hag, hg, hcl⟩ := HB.out (by omega)
    subst hag
    have z33 : w.cell? ⟨g, o + 33, none⟩ = some (.int .u8 (lenT b : Nat)) := hcl 33 (b.getD 33 0) (by rw [List.getD_eq_getElem?_getD, List.getElem?_eq_getElem (show 33 < b.length by omega)]; rfl)
    by_cases hs : b.length < 34 + lenT b
    · have HT : Hid (toldRequest b = .tuple #[.agg #[.int .i64 0, .int .u8 0, .int .i64 0, .int .i64 0, .string ⟨#[]⟩, .int .i64 0], .int .i64 6, .int .i64 (b.length : Nat)]) := hid (by
        have := endR_short (.inr hs)
        unfold toldRequest wholeB wholeP
        rw [this]
        rfl)
      rw [HT.out]
      clear HT hcl
      obtain ⟨PL, hPL⟩ : ∃ PL, b.length = PL := ⟨_, rfl⟩
      rw [hPL] at h34 hs hc hb ⊢
      clear hPL
      generalize lenT b = t at *
      go_enter Try.func47, Try.ntmps47
      go_wp2_with fail
      obtain ⟨wz, hwz⟩ : ∃ wz, w.alloc (.cells #[.int .i64 0, .int .u8 0, .int .i64 0, .int .i64 0, .string ⟨#[]⟩, .int .i64 0] 59) = wz := ⟨_, rfl⟩
      have hkr : wz.heap[w.heap.size]? = some (.cells #[.int .i64 0, .int .u8 0, .int .i64 0, .int .i64 0, .string ⟨#[]⟩, .int .i64 0] 59 (0, 0)) := by rw [← hwz]; exact heap_alloc_new _ _
      have hbz : Below w.heap.size w wz := by rw [← hwz]; exact (Below.refl _ _).alloc (Nat.le_refl _) _
      rw [hwz]
      have r0 : wz.cell? ⟨w.heap.size, 0, none⟩ = some (.int .i64 0) := by simp [World.cell?, hkr]
      have r1 : wz.cell? ⟨w.heap.size, 1, none⟩ = some (.int .u8 0) := by simp [World.cell?, hkr]
      have r2 : wz.cell? ⟨w.heap.size, 2, none⟩ = some (.int .i64 0) := by simp [World.cell?, hkr]
      have r3 : wz.cell? ⟨w.heap.size, 3, none⟩ = some (.int .i64 0) := by simp [World.cell?, hkr]
      have r4 : wz.cell? ⟨w.heap.size, 4, none⟩ = some (.string ⟨#[]⟩) := by simp [World.cell?, hkr]
      have r5 : wz.cell? ⟨w.heap.size, 5, none⟩ = some (.int .i64 0) := by simp [World.cell?, hkr]
      refine bodyPost_ret (v := .tuple #[.agg #[.int .i64 0, .int .u8 0, .int .i64 0, .int .i64 0, .string ⟨#[]⟩, .int .i64 0], .int .i64 6, .int .i64 (PL : Nat)]) (by simp [results, Try.results47, go_sem, r0, r1, r2, r3, r4, r5]) rfl ?_
      exact ⟨rfl, hbz⟩
    · obtain ⟨e1, e4⟩ := endR_there (b := b) (by omega)
      obtain ⟨_, e2, e3⟩ := there (b := b) (by omega)
      by_cases hm : 34 + lenT b < b.length
      · have HT : Hid (toldRequest b = .tuple #[.agg #[.int .i64 0, .int .u8 0, .int .i64 0, .int .i64 0, .string ⟨#[]⟩, .int .i64 0], .int .i64 6, .int .i64 ((34 : Int) + (lenT b : Nat))]) := hid (by
          unfold toldRequest wholeB wholeP
          rw [e1]
          simp [hm])
        rw [HT.out]
        clear HT e1 e2 e3 e4 hcl
        generalize b.length = L at *
        generalize lenT b = t at *
        go_enter Try.func47, Try.ntmps47
        go_wp2_with fail
        obtain ⟨wz, hwz⟩ : ∃ wz, w.alloc (.cells #[.int .i64 0, .int .u8 0, .int .i64 0, .int .i64 0, .string ⟨#[]⟩, .int .i64 0] 59) = wz := ⟨_, rfl⟩
        have hkr : wz.heap[w.heap.size]? = some (.cells #[.int .i64 0, .int .u8 0, .int .i64 0, .int .i64 0, .string ⟨#[]⟩, .int .i64 0] 59 (0, 0)) := by rw [← hwz]; exact heap_alloc_new _ _
        have hbz : Below w.heap.size w wz := by rw [← hwz]; exact (Below.refl _ _).alloc (Nat.le_refl _) _
        rw [hwz]
        have r0 : wz.cell? ⟨w.heap.size, 0, none⟩ = some (.int .i64 0) := by simp [World.cell?, hkr]
        have r1 : wz.cell? ⟨w.heap.size, 1, none⟩ = some (.int .u8 0) := by simp [World.cell?, hkr]
        have r2 : wz.cell? ⟨w.heap.size, 2, none⟩ = some (.int .i64 0) := by simp [World.cell?, hkr]
        have r3 : wz.cell? ⟨w.heap.size, 3, none⟩ = some (.int .i64 0) := by simp [World.cell?, hkr]
        have r4 : wz.cell? ⟨w.heap.size, 4, none⟩ = some (.string ⟨#[]⟩) := by simp [World.cell?, hkr]
        have r5 : wz.cell? ⟨w.heap.size, 5, none⟩ = some (.int .i64 0) := by simp [World.cell?, hkr]
        refine bodyPost_ret (v := .tuple #[.agg #[.int .i64 0, .int .u8 0, .int .i64 0, .int .i64 0, .string ⟨#[]⟩, .int .i64 0], .int .i64 6, .int .i64 ((34 : Int) + (t : Nat))]) (by simp [results, Try.results47, go_sem, r0, r1, r2, r3, r4, r5]) rfl ?_
        exact ⟨rfl, hbz⟩
      · have hL : b.length = 34 + lenT b := by omega
        have HT : Hid (toldRequest b = if rightQ (rqO b) then .tuple #[rv (rqO b), .int .i64 0, .int .i64 0] else .tuple #[.agg #[.int .i64 0, .int .u8 0, .int .i64 0, .int .i64 0, .string ⟨#[]⟩, .int .i64 0], .int .i64 6, .int .i64 0]) := hid (by
          unfold toldRequest wholeB wholeP
          rw [e1]
          simp [hL])
        rw [HT.out]
        clear HT
        have HAG : Hid (True) := hid trivial
        have z0 : w.cell? ⟨g, o, none⟩ = some (.int .u8 (wantO b : Nat)) := by
          have := hcl 0 (b.getD 0 0) (by rw [List.getD_eq_getElem?_getD, List.getElem?_eq_getElem (show 0 < b.length by omega)]; rfl)
          rw [e2]
          exact this
        obtain ⟨a1, c1, s1, b1, -, -, -⟩ := slice_from (some ⟨g, o, none⟩) c 1 b (by omega) hc HB.out
        obtain ⟨a2, c2, s2, b2, -, -, -⟩ := slice_from (some ⟨g, o, none⟩) c 9 b (by omega) hc HB.out
        obtain ⟨a3, c3, s3, b3, -, -, -⟩ := slice_from (some ⟨g, o, none⟩) c 17 b (by omega) hc HB.out
        obtain ⟨a4, c4, s4, b4, -, -, -⟩ := slice_from (some ⟨g, o, none⟩) c 25 b (by omega) hc HB.out
        have l1 : (b.drop 1).length = b.length - 1 := List.length_drop
        have l2 : (b.drop 9).length = b.length - 9 := List.length_drop
        have l3 : (b.drop 17).length = b.length - 17 := List.length_drop
        have l4 : (b.drop 25).length = b.length - 25 := List.length_drop
        have H1 := hid (fun (wx : World) (hx : Below w.heap.size w wx) => number_any a1 c1 (b.drop 1) wx (by omega) (by omega) (hid ((b1.below hx).mono hx.size)))
        have H2 := hid (fun (wx : World) (hx : Below w.heap.size w wx) => number_any a2 c2 (b.drop 9) wx (by omega) (by omega) (hid ((b2.below hx).mono hx.size)))
        have H3 := hid (fun (wx : World) (hx : Below w.heap.size w wx) => number_any a3 c3 (b.drop 17) wx (by omega) (by omega) (hid ((b3.below hx).mono hx.size)))
        have H4 := hid (fun (wx : World) (hx : Below w.heap.size w wx) => number_any a4 c4 (b.drop 25) wx (by omega) (by omega) (hid ((b4.below hx).mono hx.size)))
        rw [show num ((b.drop 1).take 8) = nO b 0 from (e3 0 (by omega)).symm, l1] at H1
        rw [show num ((b.drop 9).take 8) = nO b 1 from (e3 1 (by omega)).symm, l2] at H2
        rw [show num ((b.drop 17).take 8) = nO b 2 from (e3 2 (by omega)).symm, l3] at H3
        rw [show num ((b.drop 25).take 8) = nO b 3 from (e3 3 (by omega)).symm, l4] at H4
        rw [l1] at s1
        rw [l2] at s2
        rw [l3] at s3
        rw [l4] at s4
        obtain ⟨a5, c5, s5, b5, -, -, -⟩ := slice_from (some ⟨g, o, none⟩) c 34 b (by omega) hc HB.out
        have l5 : (b.drop 34).length = b.length - 34 := List.length_drop
        have hcv : ∀ wx, Below w.heap.size w wx → Sem.run Try.prog (convert 23 9 (.slice a5 (lenT b) c5)) wx = .ok (.string (txR b)) wx := fun wx hx => by
          have h5 := conv_str (W := wx) (n0 := w.heap.size) (x := a5) (s := b.drop 34) (k := c5) (b5.below hx)
          rw [l5, hL, Nat.add_sub_cancel_left] at h5
          rw [e4, List.take_of_length_le (by rw [l5]; omega)]
          exact h5
        have HCV := hid hcv
        rw [hL] at s1 s2 s3 s4 H1 H2 H3 H4 hc hb s5 ⊢
        rw [show (b.drop 34).length = lenT b by rw [l5]; omega] at s5
        obtain ⟨L, hLL⟩ : ∃ L, 34 + lenT b = L := ⟨_, rfl⟩
        rw [hLL] at s1 s2 s3 s4 H1 H2 H3 H4 hc hb s5 ⊢
        have t1 : ∀ wx, Sem.run Try.prog (Instr.sliceAt 23 (.slice (some ⟨g, o, none⟩) L c) (some (.int .i64 1)) none none) wx = .ok (.slice a1 (L - 1) c1) wx := s1
        have t2 : ∀ wx, Sem.run Try.prog (Instr.sliceAt 23 (.slice (some ⟨g, o, none⟩) L c) (some (.int .i64 9)) none none) wx = .ok (.slice a2 (L - 9) c2) wx := s2
        have t3 : ∀ wx, Sem.run Try.prog (Instr.sliceAt 23 (.slice (some ⟨g, o, none⟩) L c) (some (.int .i64 17)) none none) wx = .ok (.slice a3 (L - 17) c3) wx := s3
        have t4 : ∀ wx, Sem.run Try.prog (Instr.sliceAt 23 (.slice (some ⟨g, o, none⟩) L c) (some (.int .i64 25)) none none) wx = .ok (.slice a4 (L - 25) c4) wx := s4
        have t5 : ∀ wx, Sem.run Try.prog (Instr.sliceAt 23 (.slice (some ⟨g, o, none⟩) L c) (some (.int .i64 34)) none none) wx = .ok (.slice a5 (lenT b) c5) wx := s5
        obtain ⟨M1, hM1⟩ : ∃ M1, L - 1 = M1 := ⟨_, rfl⟩
        obtain ⟨M2, hM2⟩ : ∃ M2, L - 9 = M2 := ⟨_, rfl⟩
        obtain ⟨M3, hM3⟩ : ∃ M3, L - 17 = M3 := ⟨_, rfl⟩
        obtain ⟨M4, hM4⟩ : ∃ M4, L - 25 = M4 := ⟨_, rfl⟩
        rw [hM1] at t1 H1
        rw [hM2] at t2 H2
        rw [hM3] at t3 H3
        rw [hM4] at t4 H4
        have hL34 : L = 34 + lenT b := hLL.symm
        have HTX := hid (tx_small b (stN b (st1 b) 4))
        clear s1 s2 s3 s4 s5 l1 l2 l3 l4 l5 b1 b2 b3 b4 b5 e1 e2 e3 e4 hcl hm hs hcv hM1 hM2 hM3 hM4 hLL HAG
        have HR := hid (fun w => rright_any (nO b 0) (wantO b : Nat) (nO b 1) (nO b 2) (nO b 3) (txR b) w (by show (txO b _).length ≤ maxLen; have := HTX.out; unfold maxLen; omega) (hid (fun w => rname_any (txR b) w (by show (txO b _).length ≤ maxLen; have := HTX.out; unfold maxLen; omega))))
        rw [show rightQ ⟨nO b 0, (wantO b : Nat), nO b 1, nO b 2, txR b, nO b 3⟩ = rightQ (rqO b) from rfl] at HR
        clear HTX
        have d1 : decide ((L : Int) < 34) = false := decide_eq_false (by omega)
        have d2 : decide ((L : Int) < 34 + (lenT b : Nat)) = false := decide_eq_false (by omega)
        have d3 : decide ((34 : Int) + (lenT b : Nat) < L) = false := decide_eq_false (by omega)
        have hL0 : 34 ≤ L := by omega
        have hL1 : (0 : Int) < L := by omega
        have hL2 : 0 < L := by omega
        clear hL34 hL h34 HB
        generalize lenT b = t at *
        cases hr : rightQ (rqO b) with
        | false =>
          rw [hr] at HR
          go_enter Try.func47, Try.ntmps47
          go_wp2_with fail
          go_region_held3 (fun w' => w'.cell? ⟨g, o, none⟩ = some (.int .u8 (wantO b : Nat)) ∧ Sem.run Try.prog (convert 23 9 (.slice a5 t c5)) w' = .ok (.string (txR b)) w') (first | assumption | (refine ⟨?_, ?_⟩ <;> first | assumption | go_keep | exact HCV.out _ (by repeat (first | (with_reducible exact Below.refl _ _) | (with_reducible refine Below.setCell ?_ (by first | (simp; done) | (simp; omega) | omega) _) | (with_reducible refine Below.alloc ?_ (by first | (simp; done) | (simp; omega) | omega) _) | (with_reducible refine Below.drew ?_))))) (first
            | (go_at_call 74
               (first | with_reducible refine (H1.out _ (by repeat (first | (with_reducible exact Below.refl _ _) | (with_reducible refine Below.setCell ?_ (by first | (simp; done) | (simp; omega) | omega) _) | (with_reducible refine Below.alloc ?_ (by first | (simp; done) | (simp; omega) | omega) _) | (with_reducible refine Below.drew ?_)))).mono ?_ | with_reducible refine (H2.out _ (by repeat (first | (with_reducible exact Below.refl _ _) | (with_reducible refine Below.setCell ?_ (by first | (simp; done) | (simp; omega) | omega) _) | (with_reducible refine Below.alloc ?_ (by first | (simp; done) | (simp; omega) | omega) _) | (with_reducible refine Below.drew ?_)))).mono ?_ | with_reducible refine (H3.out _ (by repeat (first | (with_reducible exact Below.refl _ _) | (with_reducible refine Below.setCell ?_ (by first | (simp; done) | (simp; omega) | omega) _) | (with_reducible refine Below.alloc ?_ (by first | (simp; done) | (simp; omega) | omega) _) | (with_reducible refine Below.drew ?_)))).mono ?_ | with_reducible refine (H4.out _ (by repeat (first | (with_reducible exact Below.refl _ _) | (with_reducible refine Below.setCell ?_ (by first | (simp; done) | (simp; omega) | omega) _) | (with_reducible refine Below.alloc ?_ (by first | (simp; done) | (simp; omega) | omega) _) | (with_reducible refine Below.drew ?_)))).mono ?_)
               rintro e w9 ⟨rfl, rfl⟩))
          all_goals
            obtain ⟨wz, hwz⟩ : ∃ wz, ((w.alloc (.cells #[.int .i64 0, .int .u8 0, .int .i64 0, .int .i64 0, .string ⟨#[]⟩, .int .i64 0] 59)).alloc (.cells #[.int .i64 (nO b 0), .int .u8 (wantO b : Nat), .int .i64 (nO b 1), .int .i64 (nO b 2), .string (txR b), .int .i64 (nO b 3)] 59)).drew = wz := ⟨_, rfl⟩
            have hbz : Below w.heap.size w wz := by
              rw [← hwz]
              exact Below.drew (((Below.refl _ _).alloc (Nat.le_refl _) _).alloc (by simp) _)
            have hkz : wz.heap[w.heap.size]? = some (.cells #[.int .i64 0, .int .u8 0, .int .i64 0, .int .i64 0, .string ⟨#[]⟩, .int .i64 0] 59 (0, 0)) := by
              rw [← hwz]
              exact (AlbC.heap_alloc_old _ _ _ (by simp)).trans (heap_alloc_new _ _)
            have hkq : wz.heap[w.heap.size + 1]? = some (.cells #[.int .i64 (nO b 0), .int .u8 (wantO b : Nat), .int .i64 (nO b 1), .int .i64 (nO b 2), .string (txR b), .int .i64 (nO b 3)] 59 (0, 0)) := by
              rw [← hwz]
              have := heap_alloc_new (w.alloc (.cells #[.int .i64 0, .int .u8 0, .int .i64 0, .int .i64 0, .string ⟨#[]⟩, .int .i64 0] 59)) (.cells #[.int .i64 (nO b 0), .int .u8 (wantO b : Nat), .int .i64 (nO b 1), .int .i64 (nO b 2), .string (txR b), .int .i64 (nO b 3)] 59)
              rw [show (w.alloc (.cells #[.int .i64 0, .int .u8 0, .int .i64 0, .int .i64 0, .string ⟨#[]⟩, .int .i64 0] 59)).heap.size = w.heap.size + 1 from by simp] at this
              exact this
            rw [hwz]
            clear hwz
            have c0 : wz.cell? ⟨w.heap.size + 1, 0, none⟩ = some (.int .i64 (nO b 0)) := by simp [World.cell?, hkq]
            have c1 : wz.cell? ⟨w.heap.size + 1, 1, none⟩ = some (.int .u8 (wantO b : Nat)) := by simp [World.cell?, hkq]
            have c2 : wz.cell? ⟨w.heap.size + 1, 2, none⟩ = some (.int .i64 (nO b 1)) := by simp [World.cell?, hkq]
            have c3 : wz.cell? ⟨w.heap.size + 1, 3, none⟩ = some (.int .i64 (nO b 2)) := by simp [World.cell?, hkq]
            have c4 : wz.cell? ⟨w.heap.size + 1, 4, none⟩ = some (.string (txR b)) := by simp [World.cell?, hkq]
            have c5 : wz.cell? ⟨w.heap.size + 1, 5, none⟩ = some (.int .i64 (nO b 3)) := by simp [World.cell?, hkq]
            go_wp2_with fail
            refine (HR.out _).mono ?_
            rintro e w9 ⟨rfl, hb9⟩
            have hk9 := (hb9.block _ (Array.getElem?_eq_some_iff.1 hkz).1).trans hkz
            have hq9 := (hb9.block _ (Array.getElem?_eq_some_iff.1 hkq).1).trans hkq
            have HB9 := hid (hbz.trans (hb9.mono hbz.size))
            have r0 : w9.cell? ⟨w.heap.size, 0, none⟩ = some (.int .i64 0) := by simp [World.cell?, hk9]
            have f0 : w9.frozen? ⟨w.heap.size, 0, none⟩ = false := by simp [World.frozen?, hk9]
            have q0 : w9.cell? ⟨w.heap.size + 1, 0, none⟩ = some (.int .i64 (nO b 0)) := by simp [World.cell?, hq9]
            have r1 : w9.cell? ⟨w.heap.size, 1, none⟩ = some (.int .u8 0) := by simp [World.cell?, hk9]
            have f1 : w9.frozen? ⟨w.heap.size, 1, none⟩ = false := by simp [World.frozen?, hk9]
            have q1 : w9.cell? ⟨w.heap.size + 1, 1, none⟩ = some (.int .u8 (wantO b : Nat)) := by simp [World.cell?, hq9]
            have r2 : w9.cell? ⟨w.heap.size, 2, none⟩ = some (.int .i64 0) := by simp [World.cell?, hk9]
            have f2 : w9.frozen? ⟨w.heap.size, 2, none⟩ = false := by simp [World.frozen?, hk9]
            have q2 : w9.cell? ⟨w.heap.size + 1, 2, none⟩ = some (.int .i64 (nO b 1)) := by simp [World.cell?, hq9]
            have r3 : w9.cell? ⟨w.heap.size, 3, none⟩ = some (.int .i64 0) := by simp [World.cell?, hk9]
            have f3 : w9.frozen? ⟨w.heap.size, 3, none⟩ = false := by simp [World.frozen?, hk9]
            have q3 : w9.cell? ⟨w.heap.size + 1, 3, none⟩ = some (.int .i64 (nO b 2)) := by simp [World.cell?, hq9]
            have r4 : w9.cell? ⟨w.heap.size, 4, none⟩ = some (.string ⟨#[]⟩) := by simp [World.cell?, hk9]
            have f4 : w9.frozen? ⟨w.heap.size, 4, none⟩ = false := by simp [World.frozen?, hk9]
            have q4 : w9.cell? ⟨w.heap.size + 1, 4, none⟩ = some (.string (txR b)) := by simp [World.cell?, hq9]
            have r5 : w9.cell? ⟨w.heap.size, 5, none⟩ = some (.int .i64 0) := by simp [World.cell?, hk9]
            have f5 : w9.frozen? ⟨w.heap.size, 5, none⟩ = false := by simp [World.frozen?, hk9]
            have q5 : w9.cell? ⟨w.heap.size + 1, 5, none⟩ = some (.int .i64 (nO b 3)) := by simp [World.cell?, hq9]
            clear hb9 hk9 hq9 hkz hkq hbz c0 c1 c2 c3 c4 c5
            go_wp2_with fail
            have KK := set6 (y0 := .int .i64 0) (y1 := .int .u8 0) (y2 := .int .i64 0) (y3 := .int .i64 0) (y4 := .string ⟨#[]⟩) (y5 := .int .i64 0) r0 r1 r2 r3 r4 r5
            obtain ⟨k60, k61, k62, k63, k64, k65⟩ := KK
            refine bodyPost_ret (v := .tuple #[.agg #[.int .i64 0, .int .u8 0, .int .i64 0, .int .i64 0, .string ⟨#[]⟩, .int .i64 0], .int .i64 6, .int .i64 0]) (by simp [results, Try.results47, go_sem, k60, k61, k62, k63, k64, k65]) rfl ?_
            exact ⟨rfl, (Below.setCell (Below.setCell (Below.setCell (Below.setCell (Below.setCell (Below.setCell HB9.out (Nat.le_refl _) _) (Nat.le_refl _) _) (Nat.le_refl _) _) (Nat.le_refl _) _) (Nat.le_refl _) _) (Nat.le_refl _) _)⟩
        | true =>
          rw [hr] at HR
          go_enter Try.func47, Try.ntmps47
          go_wp2_with fail
          go_region_held3 (fun w' => w'.cell? ⟨g, o, none⟩ = some (.int .u8 (wantO b : Nat)) ∧ Sem.run Try.prog (convert 23 9 (.slice a5 t c5)) w' = .ok (.string (txR b)) w') (first | assumption | (refine ⟨?_, ?_⟩ <;> first | assumption | go_keep | exact HCV.out _ (by repeat (first | (with_reducible exact Below.refl _ _) | (with_reducible refine Below.setCell ?_ (by first | (simp; done) | (simp; omega) | omega) _) | (with_reducible refine Below.alloc ?_ (by first | (simp; done) | (simp; omega) | omega) _) | (with_reducible refine Below.drew ?_))))) (first
            | (go_at_call 74
               (first | with_reducible refine (H1.out _ (by repeat (first | (with_reducible exact Below.refl _ _) | (with_reducible refine Below.setCell ?_ (by first | (simp; done) | (simp; omega) | omega) _) | (with_reducible refine Below.alloc ?_ (by first | (simp; done) | (simp; omega) | omega) _) | (with_reducible refine Below.drew ?_)))).mono ?_ | with_reducible refine (H2.out _ (by repeat (first | (with_reducible exact Below.refl _ _) | (with_reducible refine Below.setCell ?_ (by first | (simp; done) | (simp; omega) | omega) _) | (with_reducible refine Below.alloc ?_ (by first | (simp; done) | (simp; omega) | omega) _) | (with_reducible refine Below.drew ?_)))).mono ?_ | with_reducible refine (H3.out _ (by repeat (first | (with_reducible exact Below.refl _ _) | (with_reducible refine Below.setCell ?_ (by first | (simp; done) | (simp; omega) | omega) _) | (with_reducible refine Below.alloc ?_ (by first | (simp; done) | (simp; omega) | omega) _) | (with_reducible refine Below.drew ?_)))).mono ?_ | with_reducible refine (H4.out _ (by repeat (first | (with_reducible exact Below.refl _ _) | (with_reducible refine Below.setCell ?_ (by first | (simp; done) | (simp; omega) | omega) _) | (with_reducible refine Below.alloc ?_ (by first | (simp; done) | (simp; omega) | omega) _) | (with_reducible refine Below.drew ?_)))).mono ?_)
               rintro e w9 ⟨rfl, rfl⟩))
          all_goals
            obtain ⟨wz, hwz⟩ : ∃ wz, ((w.alloc (.cells #[.int .i64 0, .int .u8 0, .int .i64 0, .int .i64 0, .string ⟨#[]⟩, .int .i64 0] 59)).alloc (.cells #[.int .i64 (nO b 0), .int .u8 (wantO b : Nat), .int .i64 (nO b 1), .int .i64 (nO b 2), .string (txR b), .int .i64 (nO b 3)] 59)).drew = wz := ⟨_, rfl⟩
            have hbz : Below w.heap.size w wz := by
              rw [← hwz]
              exact Below.drew (((Below.refl _ _).alloc (Nat.le_refl _) _).alloc (by simp) _)
            have hkz : wz.heap[w.heap.size]? = some (.cells #[.int .i64 0, .int .u8 0, .int .i64 0, .int .i64 0, .string ⟨#[]⟩, .int .i64 0] 59 (0, 0)) := by
              rw [← hwz]
              exact (AlbC.heap_alloc_old _ _ _ (by simp)).trans (heap_alloc_new _ _)
            have hkq : wz.heap[w.heap.size + 1]? = some (.cells #[.int .i64 (nO b 0), .int .u8 (wantO b : Nat), .int .i64 (nO b 1), .int .i64 (nO b 2), .string (txR b), .int .i64 (nO b 3)] 59 (0, 0)) := by
              rw [← hwz]
              have := heap_alloc_new (w.alloc (.cells #[.int .i64 0, .int .u8 0, .int .i64 0, .int .i64 0, .string ⟨#[]⟩, .int .i64 0] 59)) (.cells #[.int .i64 (nO b 0), .int .u8 (wantO b : Nat), .int .i64 (nO b 1), .int .i64 (nO b 2), .string (txR b), .int .i64 (nO b 3)] 59)
              rw [show (w.alloc (.cells #[.int .i64 0, .int .u8 0, .int .i64 0, .int .i64 0, .string ⟨#[]⟩, .int .i64 0] 59)).heap.size = w.heap.size + 1 from by simp] at this
              exact this
            rw [hwz]
            clear hwz
            have c0 : wz.cell? ⟨w.heap.size + 1, 0, none⟩ = some (.int .i64 (nO b 0)) := by simp [World.cell?, hkq]
            have c1 : wz.cell? ⟨w.heap.size + 1, 1, none⟩ = some (.int .u8 (wantO b : Nat)) := by simp [World.cell?, hkq]
            have c2 : wz.cell? ⟨w.heap.size + 1, 2, none⟩ = some (.int .i64 (nO b 1)) := by simp [World.cell?, hkq]
            have c3 : wz.cell? ⟨w.heap.size + 1, 3, none⟩ = some (.int .i64 (nO b 2)) := by simp [World.cell?, hkq]
            have c4 : wz.cell? ⟨w.heap.size + 1, 4, none⟩ = some (.string (txR b)) := by simp [World.cell?, hkq]
            have c5 : wz.cell? ⟨w.heap.size + 1, 5, none⟩ = some (.int .i64 (nO b 3)) := by simp [World.cell?, hkq]
            go_wp2_with fail
            refine (HR.out _).mono ?_
            rintro e w9 ⟨rfl, hb9⟩
            have hk9 := (hb9.block _ (Array.getElem?_eq_some_iff.1 hkz).1).trans hkz
            have hq9 := (hb9.block _ (Array.getElem?_eq_some_iff.1 hkq).1).trans hkq
            have HB9 := hid (hbz.trans (hb9.mono hbz.size))
            have r0 : w9.cell? ⟨w.heap.size, 0, none⟩ = some (.int .i64 0) := by simp [World.cell?, hk9]
            have f0 : w9.frozen? ⟨w.heap.size, 0, none⟩ = false := by simp [World.frozen?, hk9]
            have q0 : w9.cell? ⟨w.heap.size + 1, 0, none⟩ = some (.int .i64 (nO b 0)) := by simp [World.cell?, hq9]
            have r1 : w9.cell? ⟨w.heap.size, 1, none⟩ = some (.int .u8 0) := by simp [World.cell?, hk9]
            have f1 : w9.frozen? ⟨w.heap.size, 1, none⟩ = false := by simp [World.frozen?, hk9]
            have q1 : w9.cell? ⟨w.heap.size + 1, 1, none⟩ = some (.int .u8 (wantO b : Nat)) := by simp [World.cell?, hq9]
            have r2 : w9.cell? ⟨w.heap.size, 2, none⟩ = some (.int .i64 0) := by simp [World.cell?, hk9]
            have f2 : w9.frozen? ⟨w.heap.size, 2, none⟩ = false := by simp [World.frozen?, hk9]
            have q2 : w9.cell? ⟨w.heap.size + 1, 2, none⟩ = some (.int .i64 (nO b 1)) := by simp [World.cell?, hq9]
            have r3 : w9.cell? ⟨w.heap.size, 3, none⟩ = some (.int .i64 0) := by simp [World.cell?, hk9]
            have f3 : w9.frozen? ⟨w.heap.size, 3, none⟩ = false := by simp [World.frozen?, hk9]
            have q3 : w9.cell? ⟨w.heap.size + 1, 3, none⟩ = some (.int .i64 (nO b 2)) := by simp [World.cell?, hq9]
            have r4 : w9.cell? ⟨w.heap.size, 4, none⟩ = some (.string ⟨#[]⟩) := by simp [World.cell?, hk9]
            have f4 : w9.frozen? ⟨w.heap.size, 4, none⟩ = false := by simp [World.frozen?, hk9]
            have q4 : w9.cell? ⟨w.heap.size + 1, 4, none⟩ = some (.string (txR b)) := by simp [World.cell?, hq9]
            have r5 : w9.cell? ⟨w.heap.size, 5, none⟩ = some (.int .i64 0) := by simp [World.cell?, hk9]
            have f5 : w9.frozen? ⟨w.heap.size, 5, none⟩ = false := by simp [World.frozen?, hk9]
            have q5 : w9.cell? ⟨w.heap.size + 1, 5, none⟩ = some (.int .i64 (nO b 3)) := by simp [World.cell?, hq9]
            clear hb9 hk9 hq9 hkz hkq hbz c0 c1 c2 c3 c4 c5
            go_wp2_with fail
            have KK := set6 (y0 := .int .i64 (nO b 0)) (y1 := .int .u8 (wantO b : Nat)) (y2 := .int .i64 (nO b 1)) (y3 := .int .i64 (nO b 2)) (y4 := .string (txR b)) (y5 := .int .i64 (nO b 3)) r0 r1 r2 r3 r4 r5
            obtain ⟨k60, k61, k62, k63, k64, k65⟩ := KK
            refine bodyPost_ret (v := .tuple #[.agg #[.int .i64 (nO b 0), .int .u8 (wantO b : Nat), .int .i64 (nO b 1), .int .i64 (nO b 2), .string (txR b), .int .i64 (nO b 3)], .int .i64 0, .int .i64 0]) (by simp [results, Try.results47, go_sem, k60, k61, k62, k63, k64, k65]) rfl ?_
            exact ⟨rfl, (Below.setCell (Below.setCell (Below.setCell (Below.setCell (Below.setCell (Below.setCell HB9.out (Nat.le_refl _) _) (Nat.le_refl _) _) (Nat.le_refl _) _) (Nat.le_refl _) _) (Nat.le_refl _) _) (Nat.le_refl _) _)⟩

end Go.Proofs.Ytbpajgkhajheaaa.PrtK

/- Bytes handed in with marked room behind them, and kept; a reader's Fork. -/
namespace Go.Proofs.Ytbpajgkhajheaaa.FrmH
open Go.ChangeShapes Go.WideShapes Go.ChangeAt Go.RowKit Base Wri Vrw FrmP FrmA FrmD FrmE FrmQ FrmR FrmX FrmY FrmL
set_option linter.unusedVariables false
set_option linter.unusedSimpArgs false

/-- bytes, and the marks behind them -/
def markB (s : Bs) : Nat → Value := fun j => if j < s.length then bv (s.getD j 0) else .int .u8 (160 + (j : Int) - s.length)
theorem markB_in {s : Bs} {k : Nat} {x : UInt8} (h : s[k]? = some x) : markB s k = bv x := by
  unfold markB
  rw [if_pos (List.getElem?_eq_some_iff.1 h).1]
  simp [List.getD, h]
theorem markB_out {s : Bs} {k : Nat} (h : s.length ≤ k) : markB s k = .int .u8 (160 + (k : Int) - s.length) := by unfold markB; rw [if_neg (by omega)]

theorem vrow_bat {w : World} {g n n0 : Nat} {s : Bs} (h : VRow w g n (markB s)) (hn : s.length ≤ n) (hg : g < n0) : BAt w n0 (some ⟨g, 0, none⟩) s := fun _ => ⟨g, 0, rfl, hg, fun i x hx => by
  have hi := (List.getElem?_eq_some_iff.1 hx).1
  rw [Nat.zero_add, (h i (by omega)).1, markB_in hx]⟩

set_option maxRecDepth 20000 in
set_option maxHeartbeats 1000000 in
theorem hand_bytes (a : Option Addr) (cap : Nat) (s : Bs) (w : World) (hn : s.length ≤ 8796093022208) (HB : Hid (BAt w w.heap.size a s)) :
    Calls Try.prog 9 #[.slice a s.length cap] w fun e w' => e = .returned (.slice (some ⟨w.heap.size, 0, none⟩) s.length (s.length + 9)) ∧ VRow w' w.heap.size (s.length + 9) (markB s) ∧ Below w.heap.size w w' ∧ w.heap.size < w'.heap.size := by
  obtain ⟨i0, hi, hz0, hz1, hz2⟩ := info_parts infoU8
  obtain ⟨L, hL⟩ : ∃ L, s.length = L := ⟨_, rfl⟩
  have HL := hid hL
  rw [hL] at hn ⊢
  clear hL
  go_enter Try.func9, Try.ntmps9
  go_wp2_with (at_make; refine wpList_make_full _ rfl _ _ 23 rfl w.heap.size 5 i0 (.int .u8 0) 1 Try.underlying23 hi hz0 hz1 .i64 .i64 ((L : Int) + 9) ((L : Int) + 9) (L + 9) rfl rfl (by omega) (by omega) ?b2 ?b3 (Nat.le_refl _) ?_; rotate_left 2; intro w1 hown hgrow)
  case b2 => rw [hz2]; omega
  case b3 => unfold maxLen; omega
  have HB1 : Hid (Below w.heap.size w w1) := hid ((Below.refl _ _).grown hgrow (Nat.le_refl _) (fun _ e => by cases e))
  have HR1 : Hid (VRow w1 w.heap.size (L + 9) (fillV (fun _ => .int .u8 0) 0 (markB s))) := hid (by
    have hz : ∀ j, j < (L + 9) * 1 → (madeCells (Value.int IntKind.u8 0).cells ((L + 9) * 1)).toList[j]? = some (fillV (fun _ => .int .u8 0) 0 (markB s) j) := by
      intro j hj
      have hj2 : j < L + 9 := by omega
      simp [madeCells, Value.cells, hj2, fillV, Nat.mod_one]
    have := VRow.owned hown hz
    rwa [Nat.mul_one] at this)
  have hs1 : w.heap.size < w1.heap.size := (hown.lt w.heap.size rfl).2
  clear hown hgrow
  obtain ⟨B, hB⟩ : ∃ B, w.heap.size = B := ⟨_, rfl⟩
  rw [hB] at HB1 HR1 hs1 HB ⊢
  go_loopw [4] (fun i wr => ∃ k : Nat, k ≤ L ∧ i = .int .i64 k ∧ VRow wr B (L + 9) (fillV (fun _ => .int .u8 0) k (markB s)) ∧ Below B w wr ∧ B < wr.heap.size) (fun i _ => L - (intOf i).toNat)
  case atStart => exact ⟨0, Nat.zero_le _, rfl, HR1.out, HB1.out, hs1⟩
  case round =>
    obtain ⟨k, hk, rfl, hrow, hbel, hsz⟩ := hrel
    have HR := hid hrow
    have HBl := hid hbel
    clear hrow hbel
    by_cases hlt : k < L
    · obtain ⟨g, o, rfl, hg, hc⟩ := HB.out (by rw [HL.out]; omega)
      obtain ⟨x, hx⟩ : ∃ x, s[k]? = some x := ⟨s[k]'(by rw [HL.out]; exact hlt), List.getElem?_eq_getElem _⟩
      have h1 : wr.cell? ⟨g, o + k, none⟩ = some (.int .u8 (x.toNat : Int)) := (HBl.out.cell (p := ⟨g, o + k, none⟩) hg).trans (hc k x hx)
      have h2 := (HR.out k (by omega)).1
      have h3 := (HR.out k (by omega)).2
      have hgs : g < wr.heap.size := by omega
      have HN := hid (HR.out.set k (by omega) (markB s k))
      rw [fillV_set, markB_in hx] at HN
      have HB2 := hid (HBl.out.setCell (p := ⟨B, k, none⟩) (Nat.le_refl _) (bv x))
      unfold bv at HN HB2
      clear hc hx
      generalize (x.toNat : Int) = y at *
      unfold fillV at h2
      rw [if_neg (Nat.lt_irrefl k)] at h2
      go_wp2_with fail
      go_roundw
      case rel => exact ⟨k + 1, by omega, by go_num, HN.out, HB2.out, by simpa using hsz⟩
      case measure => simp [intOf]; omega
    · obtain rfl : k = L := by omega
      go_wp2_with fail
      go_loopw [5] (fun i wr => ∃ m : Nat, m ≤ k + 9 ∧ i = .int .i64 m ∧ k ≤ m ∧ VRow wr B (k + 9) (fillV (fun _ => .int .u8 0) m (markB s)) ∧ Below B w wr ∧ B < wr.heap.size) (fun i _ => (k + 9) - (intOf i).toNat)
      case atStart => exact ⟨k, by omega, rfl, Nat.le_refl _, HR.out, HBl.out, hsz⟩
      case round =>
        obtain ⟨m, hm, rfl, hkm, hrow, hbel, hsz2⟩ := hrel
        have HR3 := hid hrow
        have HB3 := hid hbel
        clear hrow hbel
        by_cases hml : m < k + 9
        · have h2 := (HR3.out m (by omega)).1
          have h3 := (HR3.out m (by omega)).2
          have HN := hid (HR3.out.set m (by omega) (markB s m))
          rw [fillV_set, markB_out (by rw [HL.out]; exact hkm), HL.out] at HN
          have HB4 := hid (HB3.out.setCell (p := ⟨B, m, none⟩) (Nat.le_refl _) (.int .u8 (160 + (m : Int) - k)))
          unfold fillV at h2
          rw [if_neg (Nat.lt_irrefl m)] at h2
          go_wp2_with fail
          go_roundw
          case rel => exact ⟨m + 1, by omega, by go_num, by omega, HN.out, HB4.out, by simpa using hsz2⟩
          case measure => simp [intOf]; omega
        · obtain rfl : m = k + 9 := by omega
          go_wp2_with fail
          go_ret
          subst hB
          exact ⟨rfl, HR3.out.congr (fun j hj => by simp [fillV, hj]), HB3.out, hsz2⟩

set_option maxRecDepth 20000 in
set_option maxHeartbeats 1000000 in
theorem kept_bytes (a : Option Addr) (g cap : Nat) (s : Bs) (w : World) (hn : s.length ≤ 8796093022208) (hg : g < w.heap.size) (HB : Hid (BAt w w.heap.size a s)) (hr : VRow w g (s.length + 9) (markB s)) :
    Calls Try.prog 17 #[.slice (some ⟨g, 0, none⟩) s.length (s.length + 9), .slice a s.length cap] w fun e w' => e = .returned (.bool true) ∧ ∃ m, w.drewN m = w' := by
  have HS := hid (same_bytes (some ⟨g, 0, none⟩) a (s.length + 9) cap s w (by omega) (hid (vrow_bat hr (by omega) hg)) HB)
  have HR := hid hr
  obtain ⟨L, hL⟩ : ∃ L, s.length = L := ⟨_, rfl⟩
  have HL := hid hL
  rw [hL] at hn HS HR ⊢
  clear hr hL
  go_enter Try.func17, Try.ntmps17
  go_wp2_with fail
  refine HS.out.mono ?_
  rintro e w1 ⟨rfl, m1, hw1⟩
  clear HS
  go_wp2_with fail
  go_loopw [6] (fun i wr => ∃ k m : Nat, k ≤ L + 9 ∧ L ≤ k ∧ i = .int .i64 k ∧ w.drewN m = wr) (fun i _ => L + 9 - (intOf i).toNat)
  case atStart => exact ⟨L, m1, by omega, Nat.le_refl _, rfl, hw1⟩
  case round =>
    obtain ⟨k, m, hk, hnk, rfl, hwr⟩ := hrel
    by_cases hlt : k < L + 9
    · have h1 : wr.cell? ⟨g, k, none⟩ = some (.int .u8 (160 + (k : Int) - L)) := by
        rw [← hwr]
        have := (HR.out k hlt).1
        rw [markB_out (by rw [HL.out]; exact hnk), HL.out] at this
        exact this
      have HW := hid hwr
      clear hwr hw1
      go_wp2_with fail
      go_roundw
      case rel => exact ⟨k + 1, m, by omega, by omega, by go_num, HW.out⟩
      case measure => simp [intOf]; omega
    · go_wp2
      go_ret
      exact ⟨rfl, m, hwr⟩

end Go.Proofs.Ytbpajgkhajheaaa.FrmH

/- How many rows a slice that came in may have, by what it weighs. -/
namespace Go.Proofs.Ytbpajgkhajheaaa.Room
open Go.ChangeShapes Go.WideShapes Go.Deep Go.RowKit Opn

theorem rows_room {H : Type} {enc : TypeId × Value → H} {P : Program} {w : World} {base : Nat} {spare : Nat → Bool} {held : Bool} {t e : TypeId} {fuel : Nat} {a0 : Option Addr} {len cap : Nat} {x : DataW H × List MemPlace} (ht : P.underlying t = some (.slice e))
    (h : DataW.trod enc P w base spare held fuel t [.slice a0 len cap] = some x) (hw : ∀ m ∈ x.1.weights P t, m ≤ reachBytes) : len * P.bytesOf e ≤ reachBytes := by
  rcases open_slice ht h with ⟨hn, _⟩ | ⟨a, l, c, m, n, D, Pl, hcs, _, hl, hm, hmm, hx, hi⟩
  · simp at hn
    rw [hn.2.1, Nat.zero_mul]; exact Nat.zero_le _
  · simp at hcs
    obtain ⟨rfl, rfl, rfl⟩ := hcs
    have hx1 := congrArg Prod.fst hx
    dsimp only at hx1
    rw [hx1] at hw
    unfold DataW.weights at hw
    rw [ht] at hw
    have := hw _ List.mem_cons_self
    simp at this
    exact Nat.le_trans (Nat.mul_le_mul_right _ (Nat.le_add_right _ _)) this

end Go.Proofs.Ytbpajgkhajheaaa.Room

/- Requests and answers there and back: pure. -/
namespace Go.Proofs.Ytbpajgkhajheaaa.PrtP
open Go.ChangeShapes Go.WideShapes Go.ChangeAt Go.RowKit Base FrmP FrmA RulA PrtA PrtB PrtC PrtD PrtF PrtG PrtH PrtI PrtJ
set_option linter.unusedVariables false
set_option linter.unusedSimpArgs false

theorem wrap_small {n : Nat} (h : n < 9223372036854775808) : wrap64 ((n : Nat) : Int) = (n : Int) := by unfold wrap64; omega

theorem sofar_enc (n : Nat) (h : n < 9223372036854775808) : sofar 0 (enc n) 8 = n := by
  simp [sofar, enc, List.getD]
  omega
theorem num_enc (n : Nat) (h : n < 9223372036854775808) : num (enc n) = (n : Int) := by
  unfold num
  rw [enc_len, sofar_enc n h, wrap_small h]

/-- eight bytes that say a number that is not below nought -/
theorem enc_num {s : Bs} (hl : s.length = 8) (h0 : 0 ≤ num s) : enc (num s).toNat = s := by
  match s, hl with
  | [a, b, c, d, e, f, g, h], _ =>
    have ha := UInt8.toNat_lt a
    have hb := UInt8.toNat_lt b
    have hc := UInt8.toNat_lt c
    have hd := UInt8.toNat_lt d
    have he := UInt8.toNat_lt e
    have hf := UInt8.toNat_lt f
    have hg := UInt8.toNat_lt g
    have hh := UInt8.toNat_lt h
    have hS : sofar 0 [a, b, c, d, e, f, g, h] 8 = ((((((a.toNat * 256 + b.toNat) * 256 + c.toNat) * 256 + d.toNat) * 256 + e.toNat) * 256 + f.toNat) * 256 + g.toNat) * 256 + h.toNat := by simp [sofar, List.getD]
    unfold num at h0 ⊢
    rw [show ([a, b, c, d, e, f, g, h] : Bs).length = 8 from rfl, hS] at h0 ⊢
    obtain ⟨S, hSS⟩ : ∃ S, ((((((a.toNat * 256 + b.toNat) * 256 + c.toNat) * 256 + d.toNat) * 256 + e.toNat) * 256 + f.toNat) * 256 + g.toNat) * 256 + h.toNat = S := ⟨_, rfl⟩
    rw [hSS] at h0 ⊢
    have hlt : S < 9223372036854775808 := by
      unfold wrap64 at h0
      omega
    rw [wrap_small hlt, Int.toNat_natCast]
    unfold enc
    have key : ∀ (m : Nat) (x : UInt8), m % 256 = x.toNat → UInt8.ofNat m = x := fun m x hx => by
      apply UInt8.toNat.inj
      rw [UInt8.toNat_ofNat']
      exact hx
    rw [key (S / 72057594037927936) a (by omega), key (S / 281474976710656) b (by omega), key (S / 1099511627776) c (by omega), key (S / 4294967296) d (by omega), key (S / 16777216) e (by omega), key (S / 65536) f (by omega), key (S / 256) g (by omega), key S h (by omega)]

theorem bytesR_len (id flow count token want : Nat) (t : ByteArray) : (bytesR id flow count token want t).length = 34 + t.size := by
  unfold bytesR
  simp only [List.length_append, List.length_singleton, encs_len, List.length_cons, List.length_nil]
  have : t.data.toList.length = t.size := rfl
  omega
theorem bytesA_len (id left wait token status : Nat) : (bytesA id left wait token status).length = 33 := by
  unfold bytesA
  simp only [List.length_append, List.length_singleton, encs_len, List.length_cons, List.length_nil]

/-- a request that is right comes back -/
theorem read_back {r : Rq} (h : rightQ r = true) : toldRequest (encR r) = .tuple #[rv r, .int .i64 0, .int .i64 0] := by
  obtain ⟨id, flow, count, token, want, he, h1, h2, h3, h4, h5, h6, h7⟩ := right_nums h
  obtain ⟨t, ht⟩ : ∃ t, r.text = t := ⟨_, rfl⟩
  rw [ht] at he h7
  subst he
  have hE : encR ⟨id, want, flow, count, t, token⟩ = bytesR id flow count token want t := by simp [encR]
  rw [hE]
  obtain ⟨b, hb⟩ : ∃ b, bytesR id flow count token want t = b := ⟨_, rfl⟩
  have hl : b.length = 34 + t.size := by rw [← hb]; exact bytesR_len _ _ _ _ _ _
  have hlt : lenT b = t.size := by
    rw [← hb]
    unfold lenT bytesR
    simp [encs, enc, List.getD]
    omega
  rw [hb]
  obtain ⟨e1, e4⟩ := endR_there (b := b) (by omega)
  obtain ⟨_, e2, e3⟩ := there (b := b) (by omega)
  have hw : wantO b = want := by
    rw [e2, ← hb]
    unfold bytesR
    simp [List.getD]
    omega
  have n0 : nO b 0 = id := by
    rw [e3 0 (by omega), ← hb, ← num_enc id (by omega)]
    congr 1
  have n1 : nO b 1 = flow := by
    rw [e3 1 (by omega), ← hb, ← num_enc flow (by omega)]
    congr 1
  have n2 : nO b 2 = count := by
    rw [e3 2 (by omega), ← hb, ← num_enc count (by omega)]
    congr 1
  have n3 : nO b 3 = token := by
    rw [e3 3 (by omega), ← hb, ← num_enc token (by omega)]
    congr 1
  have ht2 : txR b = t := by
    rw [e4, hlt]
    have : (b.drop 34).take t.size = t.data.toList := by
      rw [← hb]
      exact List.take_of_length_le (Nat.le_refl _)
    rw [this]
  have hq : rqO b = ⟨id, want, flow, count, t, token⟩ := by
    unfold rqO
    rw [n0, n1, n2, n3, hw, ht2]
  unfold toldRequest wholeB
  rw [hq, h, e1]
  simp [hl, hlt]

theorem answer_back {a : Aw} (h : rightA a = true) : toldAnswer (encA a) = .tuple #[av a, .int .i64 0, .int .i64 0] := by
  obtain ⟨id, left, wait, token, status, he, h1, h2, h3, h4, h5, h6⟩ := rightA_nums h
  subst he
  have hE : encA ⟨id, status, left, wait, token⟩ = bytesA id left wait token status := by simp [encA]
  rw [hE]
  obtain ⟨b, hb⟩ : ∃ b, bytesA id left wait token status = b := ⟨_, rfl⟩
  have hl : b.length = 33 := by rw [← hb]; exact bytesA_len _ _ _ _ _
  rw [hb]
  obtain ⟨e1, e2, e3⟩ := there (b := b) (by omega)
  have hw : wantO b = status := by
    rw [e2, ← hb]
    unfold bytesA
    simp [List.getD]
    omega
  have n0 : nO b 0 = id := by
    rw [e3 0 (by omega), ← hb, ← num_enc id (by omega)]
    congr 1
  have n1 : nO b 1 = left := by
    rw [e3 1 (by omega), ← hb, ← num_enc left (by omega)]
    congr 1
  have n2 : nO b 2 = wait := by
    rw [e3 2 (by omega), ← hb, ← num_enc wait (by omega)]
    congr 1
  have n3 : nO b 3 = token := by
    rw [e3 3 (by omega), ← hb, ← num_enc token (by omega)]
    congr 1
  have hq : awO b = ⟨id, status, left, wait, token⟩ := by
    unfold awO
    rw [n0, n1, n2, n3, hw]
  unfold toldAnswer wholeB
  rw [hq, h, e1]
  simp [hl]

end Go.Proofs.Ytbpajgkhajheaaa.PrtP

/- What must be, whatever is asked of requests; the law ProtoReads. -/
namespace Go.Proofs.Ytbpajgkhajheaaa.PrtQ
open Go.ChangeShapes Go.WideShapes Go.ChangeAt Go.RowKit Base Wri Vrw FrmP FrmA FrmD FrmE FrmF FrmR FrmX FrmL FrmC2 FrmK FrmK2 FrmH RulA PrtA PrtB PrtC PrtD PrtE PrtF PrtG PrtH PrtI PrtJ PrtK PrtP
set_option linter.unusedVariables false
set_option linter.unusedSimpArgs false

/-- an own row, as its bytes lie -/
theorem own_bytes {W : World} {B n k : Nat} {x : Option Addr} {s : Bs} (h : W.ownsRow B 5 1 (.slice x n k) n (s.map bv)) (hn : n = s.length) : n ≤ k ∧ k ≤ 9223372036854775807 ∧ (∀ ad, x = some ad → ad.block < W.heap.size) ∧ (∀ n0, (∀ ad, x = some ad → ad.block < n0) → BAt W n0 x s) := by
  obtain ⟨h1, h2, h3, h4, h5⟩ := own_room h hn
  refine ⟨h1, h2, fun ad e => ?_, fun n0 h6 h0 => ?_⟩
  · rcases h.2 with ⟨e1, _⟩ | ⟨g, cap, cur, e1, _⟩
    · injection e1 with e2 _ _; rw [e2] at e; cases e
    · injection e1 with e2 _ _
      rw [e2] at e
      cases e
      subst e2
      exact (h.lt g rfl).2
  · obtain ⟨g, o, e, hg, hc⟩ := h4 h0
    exact ⟨g, o, e, h6 _ e, hc⟩

def rq7 : Rq := ⟨1, 4, 0, 0, ⟨#[]⟩, 7⟩
theorem rq7_right : rightQ rq7 = true := by decide +kernel
theorem rq7_bytes : encR rq7 = [4, 0, 0, 0, 0, 0, 0, 0, 1, 0, 0, 0, 0, 0, 0, 0, 0, 0, 0, 0, 0, 0, 0, 0, 0, 0, 0, 0, 0, 0, 0, 0, 7, 0] := by decide +kernel

set_option maxRecDepth 20000 in
set_option maxHeartbeats 4000000 in
theorem live_any (w : World) : Calls Try.prog 40 #[] w fun e w' => e = .returned (.bool true) ∧ Below w.heap.size w w' := by
  have HQ := hid (request_any rq7 w (by decide))
  rw [show rv rq7 = .agg #[.int .i64 1, .int .u8 4, .int .i64 0, .int .i64 0, .string ⟨#[]⟩, .int .i64 7] from rfl, rq7_right] at HQ
  go_enter Try.func40, Try.ntmps40
  go_wp2_with fail
  refine HQ.out.mono ?_
  rintro e w1 ⟨va, vc, he, hown, hb1⟩
  have ho : outB true (encR rq7) = encR rq7 := rfl
  rw [ho] at he hown
  have hlen : (encR rq7).length = 34 := by rw [rq7_bytes]; rfl
  obtain ⟨k1, k2, k3, k4⟩ := own_bytes hown rfl
  have HR := hid (readRequest_any va vc (encR rq7) w1 (hid k4) k1 k2 k3)
  rw [read_back rq7_right, show rv rq7 = .agg #[.int .i64 1, .int .u8 4, .int .i64 0, .int .i64 0, .string ⟨#[]⟩, .int .i64 7] from rfl, hlen] at HR
  rw [hlen] at he
  have he : e = .returned (.tuple #[.slice va 34 vc, .int .i64 0]) := he
  subst he
  obtain ⟨g, o, rfl, hg, hc⟩ := k4 w1.heap.size k3 (by rw [hlen]; omega)
  rw [rq7_bytes] at hc
  have z0 : w1.cell? ⟨g, o, none⟩ = some (.int .u8 4) := hc 0 4 rfl
  have z8 : w1.cell? ⟨g, o + 8, none⟩ = some (.int .u8 1) := hc 8 1 rfl
  have z32 : w1.cell? ⟨g, o + 32, none⟩ = some (.int .u8 7) := hc 32 7 rfl
  have HB1 := hid hb1
  have hgl : g < w1.heap.size := hg
  have hvc : 34 ≤ vc := by rw [hlen] at k1; exact k1
  clear hown hb1 k1 k2 k3 k4 hc hlen ho HQ hg
  go_wp2_with fail
  refine HR.out.mono ?_
  rintro e w2 ⟨rfl, hb2⟩
  have y0 := (hb2.cell (p := ⟨g, o, none⟩) hgl).trans z0
  have y8 := (hb2.cell (p := ⟨g, o + 8, none⟩) hgl).trans z8
  have y32 := (hb2.cell (p := ⟨g, o + 32, none⟩) hgl).trans z32
  have hgl2 : g < w2.heap.size := Nat.lt_of_lt_of_le hgl hb2.size
  have HB2 := hid (HB1.out.trans (hb2.mono HB1.out.size))
  clear hb2 z0 z8 z32 HR
  go_wp2_with fail
  go_ret
  exact ⟨rfl, HB2.out.alloc HB2.out.size _⟩

end Go.Proofs.Ytbpajgkhajheaaa.PrtQ

/- Bytes of any length handed in with marked room behind them, and kept; bytes as an argument; the law ProtoReads. -/
namespace Go.Proofs.Ytbpajgkhajheaaa.PrtU
open Go.ChangeShapes Go.WideShapes Go.ChangeAt Go.RowKit Go.Deep Base Opn Wri Vrw FrmP FrmA FrmD FrmE FrmQ FrmR FrmX FrmY FrmL FrmH
set_option linter.unusedVariables false
set_option linter.unusedSimpArgs false

set_option maxRecDepth 20000 in
set_option maxHeartbeats 1000000 in
theorem hand_any (a : Option Addr) (cap : Nat) (s : Bs) (w : World) (hn : s.length ≤ 140737488351232) (HB : Hid (BAt w w.heap.size a s)) :
    Calls Try.prog 9 #[.slice a s.length cap] w fun e w' => e = .returned (.slice (some ⟨w.heap.size, 0, none⟩) s.length (s.length + 9)) ∧ VRow w' w.heap.size (s.length + 9) (markB s) ∧ Below w.heap.size w w' ∧ w.heap.size < w'.heap.size := by
  obtain ⟨i0, hi, hz0, hz1, hz2⟩ := info_parts infoU8
  obtain ⟨L, hL⟩ : ∃ L, s.length = L := ⟨_, rfl⟩
  have HL := hid hL
  rw [hL] at hn ⊢
  clear hL
  go_enter Try.func9, Try.ntmps9
  go_wp2_with (at_make; refine wpList_make_full _ rfl _ _ 23 rfl w.heap.size 5 i0 (.int .u8 0) 1 Try.underlying23 hi hz0 hz1 .i64 .i64 ((L : Int) + 9) ((L : Int) + 9) (L + 9) rfl rfl (by omega) (by omega) ?b2 ?b3 (Nat.le_refl _) ?_; rotate_left 2; intro w1 hown hgrow)
  case b2 => rw [hz2]; omega
  case b3 => unfold maxLen; omega
  have HB1 : Hid (Below w.heap.size w w1) := hid ((Below.refl _ _).grown hgrow (Nat.le_refl _) (fun _ e => by cases e))
  have HR1 : Hid (VRow w1 w.heap.size (L + 9) (fillV (fun _ => .int .u8 0) 0 (markB s))) := hid (by
    have hz : ∀ j, j < (L + 9) * 1 → (madeCells (Value.int IntKind.u8 0).cells ((L + 9) * 1)).toList[j]? = some (fillV (fun _ => .int .u8 0) 0 (markB s) j) := by
      intro j hj
      have hj2 : j < L + 9 := by omega
      simp [madeCells, Value.cells, hj2, fillV, Nat.mod_one]
    have := VRow.owned hown hz
    rwa [Nat.mul_one] at this)
  have hs1 : w.heap.size < w1.heap.size := (hown.lt w.heap.size rfl).2
  clear hown hgrow
  obtain ⟨B, hB⟩ : ∃ B, w.heap.size = B := ⟨_, rfl⟩
  rw [hB] at HB1 HR1 hs1 HB ⊢
  go_loopw [4] (fun i wr => ∃ k : Nat, k ≤ L ∧ i = .int .i64 k ∧ VRow wr B (L + 9) (fillV (fun _ => .int .u8 0) k (markB s)) ∧ Below B w wr ∧ B < wr.heap.size) (fun i _ => L - (intOf i).toNat)
  case atStart => exact ⟨0, Nat.zero_le _, rfl, HR1.out, HB1.out, hs1⟩
  case round =>
    obtain ⟨k, hk, rfl, hrow, hbel, hsz⟩ := hrel
    have HR := hid hrow
    have HBl := hid hbel
    clear hrow hbel
    by_cases hlt : k < L
    · obtain ⟨g, o, rfl, hg, hc⟩ := HB.out (by rw [HL.out]; omega)
      obtain ⟨x, hx⟩ : ∃ x, s[k]? = some x := ⟨s[k]'(by rw [HL.out]; exact hlt), List.getElem?_eq_getElem _⟩
      have h1 : wr.cell? ⟨g, o + k, none⟩ = some (.int .u8 (x.toNat : Int)) := (HBl.out.cell (p := ⟨g, o + k, none⟩) hg).trans (hc k x hx)
      have h2 := (HR.out k (by omega)).1
      have h3 := (HR.out k (by omega)).2
      have hgs : g < wr.heap.size := by omega
      have HN := hid (HR.out.set k (by omega) (markB s k))
      rw [fillV_set, markB_in hx] at HN
      have HB2 := hid (HBl.out.setCell (p := ⟨B, k, none⟩) (Nat.le_refl _) (bv x))
      unfold bv at HN HB2
      clear hc hx
      generalize (x.toNat : Int) = y at *
      unfold fillV at h2
      rw [if_neg (Nat.lt_irrefl k)] at h2
      go_wp2_with fail
      go_roundw
      case rel => exact ⟨k + 1, by omega, by go_num, HN.out, HB2.out, by simpa using hsz⟩
      case measure => simp [intOf]; omega
    · obtain rfl : k = L := by omega
      go_wp2_with fail
      go_loopw [5] (fun i wr => ∃ m : Nat, m ≤ k + 9 ∧ i = .int .i64 m ∧ k ≤ m ∧ VRow wr B (k + 9) (fillV (fun _ => .int .u8 0) m (markB s)) ∧ Below B w wr ∧ B < wr.heap.size) (fun i _ => (k + 9) - (intOf i).toNat)
      case atStart => exact ⟨k, by omega, rfl, Nat.le_refl _, HR.out, HBl.out, hsz⟩
      case round =>
        obtain ⟨m, hm, rfl, hkm, hrow, hbel, hsz2⟩ := hrel
        have HR3 := hid hrow
        have HB3 := hid hbel
        clear hrow hbel
        by_cases hml : m < k + 9
        · have h2 := (HR3.out m (by omega)).1
          have h3 := (HR3.out m (by omega)).2
          have HN := hid (HR3.out.set m (by omega) (markB s m))
          rw [fillV_set, markB_out (by rw [HL.out]; exact hkm), HL.out] at HN
          have HB4 := hid (HB3.out.setCell (p := ⟨B, m, none⟩) (Nat.le_refl _) (.int .u8 (160 + (m : Int) - k)))
          unfold fillV at h2
          rw [if_neg (Nat.lt_irrefl m)] at h2
          go_wp2_with fail
          go_roundw
          case rel => exact ⟨m + 1, by omega, by go_num, by omega, HN.out, HB4.out, by simpa using hsz2⟩
          case measure => simp [intOf]; omega
        · obtain rfl : m = k + 9 := by omega
          go_wp2_with fail
          go_ret
          subst hB
          exact ⟨rfl, HR3.out.congr (fun j hj => by simp [fillV, hj]), HB3.out, hsz2⟩

set_option maxRecDepth 20000 in
set_option maxHeartbeats 1000000 in
theorem kept_any (a : Option Addr) (g cap : Nat) (s : Bs) (w : World) (hn : s.length ≤ 140737488351232) (hg : g < w.heap.size) (HB : Hid (BAt w w.heap.size a s)) (hr : VRow w g (s.length + 9) (markB s)) :
    Calls Try.prog 17 #[.slice (some ⟨g, 0, none⟩) s.length (s.length + 9), .slice a s.length cap] w fun e w' => e = .returned (.bool true) ∧ ∃ m, w.drewN m = w' := by
  have HS := hid (same_bytes (some ⟨g, 0, none⟩) a (s.length + 9) cap s w (by omega) (hid (vrow_bat hr (by omega) hg)) HB)
  have HR := hid hr
  obtain ⟨L, hL⟩ : ∃ L, s.length = L := ⟨_, rfl⟩
  have HL := hid hL
  rw [hL] at hn HS HR ⊢
  clear hr hL
  go_enter Try.func17, Try.ntmps17
  go_wp2_with fail
  refine HS.out.mono ?_
  rintro e w1 ⟨rfl, m1, hw1⟩
  clear HS
  go_wp2_with fail
  go_loopw [6] (fun i wr => ∃ k m : Nat, k ≤ L + 9 ∧ L ≤ k ∧ i = .int .i64 k ∧ w.drewN m = wr) (fun i _ => L + 9 - (intOf i).toNat)
  case atStart => exact ⟨L, m1, by omega, Nat.le_refl _, rfl, hw1⟩
  case round =>
    obtain ⟨k, m, hk, hnk, rfl, hwr⟩ := hrel
    by_cases hlt : k < L + 9
    · have h1 : wr.cell? ⟨g, k, none⟩ = some (.int .u8 (160 + (k : Int) - L)) := by
        rw [← hwr]
        have := (HR.out k hlt).1
        rw [markB_out (by rw [HL.out]; exact hnk), HL.out] at this
        exact this
      have HW := hid hwr
      clear hwr hw1
      go_wp2_with fail
      go_roundw
      case rel => exact ⟨k + 1, m, by omega, by omega, by go_num, HW.out⟩
      case measure => simp [intOf]; omega
    · go_wp2
      go_ret
      exact ⟨rfl, m, hwr⟩

theorem bytes_of {H : Type} {enc : TypeId × Value → H} {w : World} {base : Nat} {held : Bool} {k : Nat} {v : Value} {z : DataW H × List MemPlace} (h : DataW.trod enc Try.prog w base (fun _ => true) held k 23 [v] = some z) :
    ∃ (a : Option Addr) (cap : Nat) (s : Bs), v = .slice a s.length cap ∧ BAt w w.heap.size a s ∧ s.length ≤ cap ∧ cap ≤ maxLen := by
  rcases open_slice1 Try.underlying23 (by kernel_rfl) h with ⟨hn, _⟩ | ⟨a, l, c, m, n, V, D, Pl, hcs, _, hl, hm, hmm, hx, hi⟩
  · simp at hn
    exact ⟨none, 0, [], hn, fun h => absurd h (by decide), Nat.le_refl _, Nat.zero_le _⟩
  · simp at hcs hmm
    have each : ∀ i, i < m → ∃ x : UInt8, w.cell? (a.add i) = some (bv x) := fun i him => by
      obtain ⟨h1, h2⟩ := hi i him
      obtain ⟨n0, e0, _, hw⟩ := DataW.trod_int Try.underlying5 h2
      simp at e0
      have hb : 0 ≤ n0 ∧ n0 ≤ 255 := by
        simp [Lit.wf, IntKind.min, IntKind.max, IntKind.bits, IntKind.signed] at hw
        omega
      refine ⟨UInt8.ofNat n0.toNat, ?_⟩
      rw [h1, e0]
      unfold bv
      congr 2
      simp
      omega
    obtain ⟨f, hf⟩ := choose2 (n := m) (0 : UInt8) each
    have hsl : ((List.range l).map f).length = l := by simp
    refine ⟨some a, c, (List.range l).map f, by rw [hsl]; exact hcs, fun h0 => ?_, by rw [hsl]; exact hl, ?_⟩
    · rw [hsl] at h0
      obtain ⟨b, off, spot⟩ := a
      have h00 := hf 0 (by omega)
      have hspot : spot = none := by simpa [Addr.add] using World.cell?_spot h00
      subst hspot
      refine ⟨b, off, rfl, World.block_lt_of_cell? _ _ h00, fun i x hx => ?_⟩
      rw [List.getElem?_map] at hx
      have hil : i < l := by
        apply Decidable.byContradiction
        intro hc
        rw [List.getElem?_eq_none (by simp; omega)] at hx
        cases hx
      rw [List.getElem?_range hil] at hx
      simp at hx
      have := hf i (by omega)
      rw [Go.WideShapes.add_plain, hx] at this
      exact this
    · exact Nat.le_trans (by omega) hm

theorem bytes_sized {H : Type} {enc : TypeId × Value → H} {W : World} {base : Nat} {held : Bool} {a0 : Option Addr} {len0 cap0 : Nat} {d : DataW H} {p : List MemPlace}
    (h : DataW.Trod enc Try.prog W base (fun _ => true) held 23 (.slice a0 len0 cap0) d p) (hz : ∀ m ∈ d.weights Try.prog 23, m ≤ reachBytes) : ∃ s : Bs, s.length = len0 ∧ BAt W W.heap.size a0 s ∧ len0 ≤ cap0 ∧ cap0 ≤ maxLen ∧ len0 ≤ 140737488351232 := by
  obtain ⟨fuel, hf⟩ := h
  have hf' : DataW.trod enc Try.prog W base (fun _ => true) held fuel 23 [.slice a0 len0 cap0] = some (d, p) := by simpa [Value.cells] using hf
  have hr := Room.rows_room Try.underlying23 hf' hz
  rw [show Try.prog.bytesOf 5 = 1 by kernel_rfl] at hr
  unfold reachBytes at hr
  obtain ⟨a, cap, s, e, h1, h2, h3⟩ := bytes_of hf'
  injection e with e1 e2 e3
  subst e1 e2 e3
  exact ⟨s, rfl, h1, h2, h3, by omega⟩

end Go.Proofs.Ytbpajgkhajheaaa.PrtU

/- The law ProtoReads. -/
namespace Go.Proofs.Ytbpajgkhajheaaa.PrtV
open Go.ChangeShapes Go.WideShapes Go.ChangeAt Go.RowKit Go.Deep Base Wri Vrw FrmP FrmA FrmD FrmE FrmF FrmR FrmX FrmL FrmC2 FrmK FrmK2 FrmH RulA PrtA PrtB PrtC PrtD PrtE PrtF PrtG PrtH PrtI PrtJ PrtK PrtP PrtQ PrtU
set_option linter.unusedVariables false
set_option linter.unusedSimpArgs false

theorem toldR_shape (b : Bs) : ∃ (x0 x1 x2 x3 : Int) (t : ByteArray) (x5 e p : Int), toldRequest b = .tuple #[.agg #[.int .i64 x0, .int .u8 x1, .int .i64 x2, .int .i64 x3, .string t, .int .i64 x5], .int .i64 e, .int .i64 p] := by
  unfold toldRequest
  split <;> exact ⟨_, _, _, _, _, _, _, _, rfl⟩
theorem toldA_shape (b : Bs) : ∃ (x0 x1 x2 x3 x4 e p : Int), toldAnswer b = .tuple #[.agg #[.int .i64 x0, .int .u8 x1, .int .i64 x2, .int .i64 x3, .int .i64 x4], .int .i64 e, .int .i64 p] := by
  unfold toldAnswer
  split <;> exact ⟨_, _, _, _, _, _, _, rfl⟩

theorem size_alloc (W : World) (o : Obj) : (W.alloc o).heap.size = W.heap.size + 1 := by simp

def Six (W : World) (p : Nat) (a b c d e f : Value) : Prop := W.cell? ⟨p, 0, none⟩ = some a ∧ W.cell? ⟨p, 1, none⟩ = some b ∧ W.cell? ⟨p, 2, none⟩ = some c ∧ W.cell? ⟨p, 3, none⟩ = some d ∧ W.cell? ⟨p, 4, none⟩ = some e ∧ W.cell? ⟨p, 5, none⟩ = some f
def Five (W : World) (p : Nat) (a b c d e : Value) : Prop := W.cell? ⟨p, 0, none⟩ = some a ∧ W.cell? ⟨p, 1, none⟩ = some b ∧ W.cell? ⟨p, 2, none⟩ = some c ∧ W.cell? ⟨p, 3, none⟩ = some d ∧ W.cell? ⟨p, 4, none⟩ = some e
theorem cells6 {W W' : World} {p n : Nat} {a b c d e f : Value} (h : Six W p a b c d e f) (hb : Below n W W') (hp : p < n) : Six W' p a b c d e f :=
  ⟨(hb.cell (p := ⟨p, 0, none⟩) hp).trans h.1, (hb.cell (p := ⟨p, 1, none⟩) hp).trans h.2.1, (hb.cell (p := ⟨p, 2, none⟩) hp).trans h.2.2.1, (hb.cell (p := ⟨p, 3, none⟩) hp).trans h.2.2.2.1, (hb.cell (p := ⟨p, 4, none⟩) hp).trans h.2.2.2.2.1, (hb.cell (p := ⟨p, 5, none⟩) hp).trans h.2.2.2.2.2⟩
theorem cells5 {W W' : World} {p n : Nat} {a b c d e : Value} (h : Five W p a b c d e) (hb : Below n W W') (hp : p < n) : Five W' p a b c d e :=
  ⟨(hb.cell (p := ⟨p, 0, none⟩) hp).trans h.1, (hb.cell (p := ⟨p, 1, none⟩) hp).trans h.2.1, (hb.cell (p := ⟨p, 2, none⟩) hp).trans h.2.2.1, (hb.cell (p := ⟨p, 3, none⟩) hp).trans h.2.2.2.1, (hb.cell (p := ⟨p, 4, none⟩) hp).trans h.2.2.2.2⟩
theorem six_new {W : World} {a b c d e f : Value} {t : TypeId} : Six (W.alloc (.cells #[a, b, c, d, e, f] t)) W.heap.size a b c d e f := by
  refine ⟨?_, ?_, ?_, ?_, ?_, ?_⟩ <;> (unfold World.cell?; rw [heap_alloc_new]; rfl)
theorem five_new {W : World} {a b c d e : Value} {t : TypeId} : Five (W.alloc (.cells #[a, b, c, d, e] t)) W.heap.size a b c d e := by
  refine ⟨?_, ?_, ?_, ?_, ?_⟩ <;> (unfold World.cell?; rw [heap_alloc_new]; rfl)

set_option maxRecDepth 20000 in
set_option maxHeartbeats 4000000 in
theorem reads_core (a : Option Addr) (c : Nat) (s : Bs) (w : World) (hn : s.length ≤ 140737488351232) (hc : s.length ≤ c) (hc2 : c ≤ 9223372036854775807) (HB : Hid (BAt w w.heap.size a s)) :
    Calls Try.prog 6 #[.slice a s.length c] w fun e w' => e = .returned (.bool true) ∧ Below w.heap.size w w' := by
  have HH := hid (hand_any a c s w hn HB)
  obtain ⟨x0, x1, x2, x3, t, x5, xe, xp, hR⟩ := toldR_shape s
  obtain ⟨y0, y1, y2, y3, y4, ye, yp, hA⟩ := toldA_shape s
  have K2 : Hid (∀ W', Below w.heap.size w W' → Calls Try.prog 47 #[.slice a s.length c] W' fun e w' => e = .returned (toldRequest s) ∧ Below W'.heap.size W' w') := hid fun W' hb => rreadRequest_any a c s W' (hid ((HB.out.below hb).mono hb.size)) hc hc2 (by omega)
  have K4 : Hid (∀ W', Below w.heap.size w W' → Calls Try.prog 49 #[.slice a s.length c] W' fun e w' => e = .returned (toldAnswer s) ∧ Below W'.heap.size W' w') := hid fun W' hb => rreadAnswer_any a c s W' (hid ((HB.out.below hb).mono hb.size)) hc hc2 (by omega)
  have K1 : Hid (∀ w1 W', VRow w1 w.heap.size (s.length + 9) (markB s) → w.heap.size < w1.heap.size → Below w1.heap.size w1 W' → Calls Try.prog 46 #[.slice (some ⟨w.heap.size, 0, none⟩) s.length (s.length + 9)] W' fun e w' => e = .returned (toldRequest s) ∧ Below W'.heap.size W' w') := hid fun w1 W' hr hs hb => readRequest_any _ (s.length + 9) s W' (hid fun n0 h => vrow_bat (hr.of_block (hb.block _ hs)) (by omega) (h _ rfl)) (by omega) (by omega) (fun ad e => by cases e; exact Nat.lt_of_lt_of_le hs hb.size)
  have K3 : Hid (∀ w1 W', VRow w1 w.heap.size (s.length + 9) (markB s) → w.heap.size < w1.heap.size → Below w1.heap.size w1 W' → Calls Try.prog 48 #[.slice (some ⟨w.heap.size, 0, none⟩) s.length (s.length + 9)] W' fun e w' => e = .returned (toldAnswer s) ∧ Below W'.heap.size W' w') := hid fun w1 W' hr hs hb => readAnswer_any _ (s.length + 9) s W' (hid fun n0 h => vrow_bat (hr.of_block (hb.block _ hs)) (by omega) (h _ rfl)) (by omega) (by omega) (fun ad e => by cases e; exact Nat.lt_of_lt_of_le hs hb.size)
  have K5 : Hid (∀ w1 W', VRow w1 w.heap.size (s.length + 9) (markB s) → w.heap.size < w1.heap.size → Below w1.heap.size w1 W' → Below w.heap.size w W' → Calls Try.prog 17 #[.slice (some ⟨w.heap.size, 0, none⟩) s.length (s.length + 9), .slice a s.length c] W' fun e w' => e = .returned (.bool true) ∧ ∃ m, W'.drewN m = w') := hid fun w1 W' hr hs hb hb0 => kept_any a w.heap.size c s W' hn (Nat.lt_of_lt_of_le hs hb.size) (hid ((HB.out.below hb0).mono hb0.size)) (hr.of_block (hb.block _ hs))
  rw [hR] at K1 K2
  rw [hA] at K3 K4
  obtain ⟨L, hL⟩ : ∃ L, s.length = L := ⟨_, rfl⟩
  rw [hL] at HH K1 K2 K3 K4 K5 hn hc ⊢
  clear hL hR hA
  obtain ⟨B, hB⟩ : ∃ B, w.heap.size = B := ⟨_, rfl⟩
  rw [hB] at HH K1 K2 K3 K4 K5 ⊢
  have HBe := hid hB
  clear hB HB
  go_enter Try.func6, Try.ntmps6
  go_wp2_with fail
  refine HH.out.mono ?_
  rintro e w1 ⟨rfl, hrow, hb1, hs1⟩
  have HR := hid hrow
  have HB1 := hid hb1
  have HS1 := hid hs1
  clear hrow hb1 hs1
  go_wp2_with fail
  refine (K1.out w1 _ HR.out HS1.out (Below.refl _ _)).mono ?_
  rintro e w2 ⟨rfl, hb2⟩
  have HB2 := hid hb2
  clear hb2
  go_wp2_with fail
  have A2 := hid ((HB2.out.alloc HB2.out.size (.cells #[.int .i64 x0, .int .u8 x1, .int .i64 x2, .int .i64 x3, .string t, .int .i64 x5] 59)))
  have E2 := hid (HB1.out.trans (A2.out.mono (Nat.le_of_lt HS1.out)))
  refine (K2.out _ E2.out).mono ?_
  rintro e w3 ⟨rfl, hb3⟩
  have hz3 : w2.heap.size < w3.heap.size := Nat.lt_of_lt_of_le (by rw [size_alloc]; exact Nat.lt_succ_self _) hb3.size
  have z := cells6 six_new hb3 (by rw [size_alloc]; exact Nat.lt_succ_self _)
  have A3 := hid (A2.out.trans (hb3.mono A2.out.size))
  have E3 := hid (E2.out.trans (hb3.mono (HBe.out ▸ E2.out.size)))
  clear hb3
  obtain ⟨p2, hp2⟩ : ∃ p, w2.heap.size = p := ⟨_, rfl⟩
  rw [hp2] at z hz3 ⊢
  have Z3 := hid z
  have QZ3 := hid hz3
  clear z hp2 A2 E2 HB2 hz3
  go_wp2_with fail
  have A3a := hid (A3.out.alloc A3.out.size (.cells #[.int .i64 x0, .int .u8 x1, .int .i64 x2, .int .i64 x3, .string t, .int .i64 x5] 59))
  have E3a := hid (E3.out.alloc (HBe.out ▸ E3.out.size) (.cells #[.int .i64 x0, .int .u8 x1, .int .i64 x2, .int .i64 x3, .string t, .int .i64 x5] 59))
  have I3 := hid ((Below.refl w3.heap.size w3).alloc (Nat.le_refl _) (.cells #[.int .i64 x0, .int .u8 x1, .int .i64 x2, .int .i64 x3, .string t, .int .i64 x5] 59))
  refine (K3.out w1 _ HR.out HS1.out A3a.out).mono ?_
  rintro e w4 ⟨rfl, hb⟩
  have hz : w3.heap.size < w4.heap.size := Nat.lt_of_lt_of_le (by rw [size_alloc]; exact Nat.lt_succ_self _) hb.size
  have Z4 := hid (cells6 (cells6 Z3.out I3.out QZ3.out) hb (by rw [size_alloc]; exact Nat.lt_succ_of_lt QZ3.out))
  have QZ4 := hid (Nat.lt_trans QZ3.out hz)
  have nw := cells6 six_new hb (by rw [size_alloc]; exact Nat.lt_succ_self _)
  have A4 := hid (A3a.out.trans (hb.mono A3a.out.size))
  have E4 := hid (E3a.out.trans (hb.mono (HBe.out ▸ E3a.out.size)))
  clear hb
  obtain ⟨p3, hp⟩ : ∃ p, w3.heap.size = p := ⟨_, rfl⟩
  rw [hp] at nw hz ⊢
  have N4 := hid nw
  have QN4 := hid hz
  clear nw hz hp A3 E3 A3a E3a I3 Z3 QZ3
  go_wp2_with fail
  have A4a := hid (A4.out.alloc A4.out.size (.cells #[.int .i64 y0, .int .u8 y1, .int .i64 y2, .int .i64 y3, .int .i64 y4] 62))
  have E4a := hid (E4.out.alloc (HBe.out ▸ E4.out.size) (.cells #[.int .i64 y0, .int .u8 y1, .int .i64 y2, .int .i64 y3, .int .i64 y4] 62))
  have I4 := hid ((Below.refl w4.heap.size w4).alloc (Nat.le_refl _) (.cells #[.int .i64 y0, .int .u8 y1, .int .i64 y2, .int .i64 y3, .int .i64 y4] 62))
  refine (K4.out _ E4a.out).mono ?_
  rintro e w5 ⟨rfl, hb⟩
  have hz : w4.heap.size < w5.heap.size := Nat.lt_of_lt_of_le (by rw [size_alloc]; exact Nat.lt_succ_self _) hb.size
  have Z5 := hid (cells6 (cells6 Z4.out I4.out QZ4.out) hb (by rw [size_alloc]; exact Nat.lt_succ_of_lt QZ4.out))
  have QZ5 := hid (Nat.lt_trans QZ4.out hz)
  have N5 := hid (cells6 (cells6 N4.out I4.out QN4.out) hb (by rw [size_alloc]; exact Nat.lt_succ_of_lt QN4.out))
  have QN5 := hid (Nat.lt_trans QN4.out hz)
  have nw := cells5 five_new hb (by rw [size_alloc]; exact Nat.lt_succ_self _)
  have A5 := hid (A4a.out.trans (hb.mono A4a.out.size))
  have E5 := hid (E4a.out.trans (hb.mono (HBe.out ▸ E4a.out.size)))
  clear hb
  obtain ⟨p4, hp⟩ : ∃ p, w4.heap.size = p := ⟨_, rfl⟩
  rw [hp] at nw hz ⊢
  have F5 := hid nw
  have QF5 := hid hz
  clear nw hz hp A4 E4 A4a E4a I4 Z4 QZ4 N4 QN4
  go_wp2_with fail
  have A5a := hid (A5.out.alloc A5.out.size (.cells #[.int .i64 y0, .int .u8 y1, .int .i64 y2, .int .i64 y3, .int .i64 y4] 62))
  have E5a := hid (E5.out.alloc (HBe.out ▸ E5.out.size) (.cells #[.int .i64 y0, .int .u8 y1, .int .i64 y2, .int .i64 y3, .int .i64 y4] 62))
  have I5 := hid ((Below.refl w5.heap.size w5).alloc (Nat.le_refl _) (.cells #[.int .i64 y0, .int .u8 y1, .int .i64 y2, .int .i64 y3, .int .i64 y4] 62))
  refine (PrtQ.live_any _).mono ?_
  rintro e w6 ⟨rfl, hb⟩
  have hz : w5.heap.size < w6.heap.size := Nat.lt_of_lt_of_le (by rw [size_alloc]; exact Nat.lt_succ_self _) hb.size
  have Z6 := hid (cells6 (cells6 Z5.out I5.out QZ5.out) hb (by rw [size_alloc]; exact Nat.lt_succ_of_lt QZ5.out))
  have QZ6 := hid (Nat.lt_trans QZ5.out hz)
  have N6 := hid (cells6 (cells6 N5.out I5.out QN5.out) hb (by rw [size_alloc]; exact Nat.lt_succ_of_lt QN5.out))
  have QN6 := hid (Nat.lt_trans QN5.out hz)
  have F6 := hid (cells5 (cells5 F5.out I5.out QF5.out) hb (by rw [size_alloc]; exact Nat.lt_succ_of_lt QF5.out))
  have QF6 := hid (Nat.lt_trans QF5.out hz)
  have nw := cells5 five_new hb (by rw [size_alloc]; exact Nat.lt_succ_self _)
  have A6 := hid (A5a.out.trans (hb.mono A5a.out.size))
  have E6 := hid (E5a.out.trans (hb.mono (HBe.out ▸ E5a.out.size)))
  clear hb
  obtain ⟨p5, hp⟩ : ∃ p, w5.heap.size = p := ⟨_, rfl⟩
  rw [hp] at nw hz ⊢
  have G6 := hid nw
  have QG6 := hid hz
  clear nw hz hp A5 E5 A5a E5a I5 Z5 QZ5 N5 QN5 F5 QF5
  obtain ⟨a0, a1, a2, a3, a4, a5⟩ := Z6.out
  obtain ⟨b0, b1, b2, b3, b4, b5⟩ := N6.out
  obtain ⟨c0, c1, c2, c3, c4⟩ := F6.out
  obtain ⟨d0, d1, d2, d3, d4⟩ := G6.out
  have HK := hid (K5.out w1 w6 HR.out HS1.out A6.out E6.out)
  clear Z6 N6 F6 G6 QZ6 QN6 QF6 QG6 K1 K2 K3 K4 K5 HR HS1 HB1 HH A6
  go_wp2_with fail
  refine HK.out.mono ?_
  rintro e w7 ⟨rfl, m, rfl⟩
  clear HK
  go_wp2_with fail
  go_ret
  exact ⟨rfl, below_drewN E6.out m⟩

theorem main {H : Type} {enc : TypeId × Value → H} {W : World} {base : Nat} {held : Bool} (a0 : Option Addr) (len0 cap0 : Nat) {d : DataW H} {p : List MemPlace}
    (h : DataW.Trod enc Try.prog W base (fun _ => true) held 23 (.slice a0 len0 cap0) d p) (hz : ∀ m ∈ d.weights Try.prog 23, m ≤ reachBytes) :
    Calls Try.prog 6 #[.slice a0 len0 cap0] W fun e w' => e = .returned (.bool true) ∧ Below W.heap.size W w' := by
  obtain ⟨s, rfl, hB, h1, h2, h3⟩ := bytes_sized h hz
  exact reads_core a0 cap0 s W h3 h1 (by simpa [maxLen] using h2) (hid hB)

end Go.Proofs.Ytbpajgkhajheaaa.PrtV

namespace Go.Proofs.Ytbpajgkhajheaaa.protoReads
open Go.ChangeShapes Go.WideShapes Go.ChangeAt Go.RowKit Go.Deep
open Go.ChangeMaps (open_string shut_string)
set_option linter.unusedVariables false

theorem own : ownKnob Try.prog.godebug = none := by kernel_rfl
theorem laidOut : laidOutB Try.prog = true := by kernel_rfl

set_option maxRecDepth 100000 in
theorem lifted (os : Os) (started : os.Started) (H : Type) (enc : TypeId × Value → H) :
    ReturnsInHanded {} Try.checked os 6 .any (Rows.protoReadsSpec.pre6 enc Try.prog Try.f6 Rows.protoReadsRow.domain false) (Rows.protoReadsSpec.post enc Try.prog Try.f6 false true false false) := by
  refine returnsInHanded_of_change_sized (C := Try.checked) own started (by kernel_rfl) Try.func6
    (ChangeSpec.witness6 (enc := enc) (C := Try.checked) false ⟨#[], #[.slice none 0 0], []⟩ 8 (by kernel_rfl) (by kernel_rfl) (by kernel_rfl) (by kernel_rfl)) ?_
  intro W base args ds gs before hval0 hW hcnd hsz0 _
  have hval : ∀ (j : Nat) t v, Try.f6.params[j]? = some t → args[j]? = some v → Value.okWide Try.prog W .any base t v := hval0
  have hW' := hW
  obtain ⟨p, q, hA0, hV, rfl, hfz, hnd⟩ := hW
  have hA : DataW.TrodAll enc Try.prog W 0 (fun _ => true) true Try.f6.params.toList args.toList ds p := hA0
  rw [Try.params6] at hA hval
  obtain ⟨v0, vs0, d0, ds0, p0, q0, hargs, rfl, rfl, h0, r0⟩ := trodAll_cons hA
  obtain ⟨rfl, rfl, rfl⟩ := trodAll_nil r0
  obtain rfl : args = #[v0] := by cases args; simp_all
  obtain ⟨rfl, rfl⟩ := trodVars_none hV
  obtain ⟨a0, len0, cap0, rfl⟩ := okWide_slice Try.underlying23 (hval 0 23 v0 rfl rfl)
  have k0 := h0
  have lt0 : ∀ x ∈ p0, x.block < W.heap.size := by obtain ⟨m, hm⟩ := k0; exact DataW.trod_lt m _ _ _ hm
  clear hA0 hval0
  refine (PrtV.main a0 len0 cap0 h0 (fun m hm => by have := List.all_eq_true.1 hsz0 m (DataW.weights_mem_each (j := 0) rfl rfl m hm); simpa using this)).mono fun e W' ⟨he, bel⟩ => ?_
  subst he
  exact ⟨_, rfl, _, _, _, [], _, [], hW', trodAll_mk1 (shut_bool Try.underlying4 _), (trodAll_cons_mk (Below.trod laidOut (by kernel_rfl) (of_decide_eq_true (by kernel_rfl)) k0 bel lt0) trodAll_mk0), rfl, bel.frame _, fun h => by cases h⟩

theorem over : Rows.protoReadsRow.holds Try.pinned (OpenSpec.ofChange Rows.protoReadsSpec) :=
  OpenClaim.holds_of_wide 6 Try.f6 rfl rfl rfl rfl rfl rfl rfl ⟨rfl, rfl, rfl, rfl, rfl⟩ rfl rfl rfl rfl rfl (by kernel_rfl) Try.func6 (by kernel_rfl)
    (of_decide_eq_true (by kernel_rfl)) (by unfold Func.isWrapper; first | (rw [if_pos (by decide +kernel)]; kernel_rfl) | (rw [if_neg (by decide +kernel)]; exact ⟨rfl, rfl⟩))
    (fun os started H enc _ => lifted os started H enc)

theorem proved : Rows.ProtoReadsSaid := over
#print axioms proved
end Go.Proofs.Ytbpajgkhajheaaa.protoReads
