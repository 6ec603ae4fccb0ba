/- A sketch's Estimate, Total, New. -/
import Derived.Test.YtnpldfacnmhemaaSkL
namespace Go.Proofs.Ytnpldfacnmhemaa.SkM
open Go.ChangeShapes Go.WideShapes Go.ChangeAt Go.RowKit Base Wri Map WldF WldG SkK SkA SkB SkC SkD SkE SkF SkG SkH SkI SkJ SkL

variable {w w' : World} {p q last t : Nat} {go : Option Nat} {X : Shp} {ns : List Note} {qs : List Nat} {mpf : Nat → Nat}

set_option maxRecDepth 20000 in
set_option maxHeartbeats 1000000 in
theorem estimate_any (h : Full w p go X q last ns qs mpf) (ht : last ≤ t) (ht2 : t ≤ 1152921504606846976) (s : ByteArray) (hs : s.size ≤ maxLen) :
    Calls Try.prog 48 #[.pointer (some ⟨p, 0, none⟩), .int .i64 t, .string s] w fun e w' => e = .returned (.int .i64 (estN q X ns t s)) ∧ Below w.heap.size w w' := by
  obtain ⟨_, v, hp, _⟩ := h.sk
  obtain ⟨-, -, c2, c3, c4, -, -, -⟩ := sv_cells hp
  have HP := hid (places_any p X.seed X.ro X.co s w hs ⟨h.ok.r1, h.ok.r2⟩ ⟨h.ok.c1, h.ok.c2⟩ c2 c3 c4)
  have H := hid h
  have hr1 := h.ok.r2
  have hc1 := h.ok.c1
  have hc2 := h.ok.c2
  have hcol : ∀ r, colN X.seed X.co r s < 4096 := fun r => Nat.lt_of_lt_of_le (Nat.mod_lt _ (by omega)) hc2
  have HCol := hid hcol
  clear h hp c2 c3 c4 hcol hc1 hc2
  go_enter Try.func48, Try.ntmps48
  go_wp2_with fail
  refine HP.out.mono ?_
  rintro e w1 ⟨g, rfl, hg, hpl, hb1⟩
  have HPl := hid hpl
  have HB1 := hid hb1
  clear HP hpl hb1
  obtain ⟨ro, hro⟩ : ∃ ro, X.ro = ro := ⟨_, rfl⟩
  rw [hro] at HPl hr1 ⊢
  have HRo := hid hro
  clear hro
  go_wp2_with fail
  go_loopw [7, 14] (fun m j wr => ∃ k : Nat, k ≤ ro ∧ m = .int .i64 (least k (fun r => rowN q X ns t r (colN X.seed X.co r s)) : Nat) ∧ j = .int .i64 k ∧ Below w.heap.size w wr ∧ Pl wr g ro ro (fun r => colN X.seed X.co r s)) (fun _ j _ => ro - (intOf j).toNat)
  case atStart => exact ⟨0, Nat.zero_le _, rfl, rfl, HB1.out, HPl.out⟩
  case round =>
    clear HB1 HPl
    obtain ⟨k, hk, rfl, rfl, hb, hpl⟩ := hrel
    have HB := hid hb
    have HPl := hid hpl
    by_cases hlt : k < ro
    · obtain ⟨k0, k1⟩ := hpl.cells k hlt
      have hck := HCol.out k
      have hgw := hpl.lt
      have hsw := hb.size
      have hL : Hid (least (k + 1) (fun r => rowN q X ns t r (colN X.seed X.co r s)) = min (least k (fun r => rowN q X ns t r (colN X.seed X.co r s))) (rowN q X ns t k (colN X.seed X.co k s))) := hid (least_succ _ _)
      obtain ⟨c, hc⟩ : ∃ c, colN X.seed X.co k s = c := ⟨_, rfl⟩
      rw [hc] at k1 hck hL
      have hbx : Below w.heap.size w (wr.alloc (.cells #[.int .i64 k, .int .i64 c] 91)) := hb.alloc hsw _
      have hnp := heap_alloc_new wr (.cells #[.int .i64 k, .int .i64 c] 91)
      have HS := hid (row_sum (H.out.below hbx) ht ht2 k c wr.heap.size (by rw [HRo.out]; exact hlt) hck (by simp) (by unfold World.cell?; rw [hnp]; rfl) (by unfold World.cell?; rw [hnp]; rfl))
      obtain ⟨m, hm⟩ : ∃ m, least k (fun r => rowN q X ns t r (colN X.seed X.co r s)) = m := ⟨_, rfl⟩
      obtain ⟨y, hy⟩ : ∃ y, rowN q X ns t k c = y := ⟨_, rfl⟩
      rw [hm, hy] at hL
      rw [hy] at HS
      rw [hm]
      have HBx := hid hbx
      clear hc hm hy hbx hnp hb hpl
      go_wp2_with fail
      refine HS.out.mono ?_
      rintro e w2 ⟨rfl, hb2⟩
      have HB2 := hid (HBx.out.trans (hb2.mono (by simp; omega)))
      have HP2 : Hid (Pl w2 g ro ro (fun r => colN X.seed X.co r s)) := hid (HPl.out.of_block ((hb2.block g (by simp; omega)).trans (Below.heap_alloc _ _ _ hgw)))
      have hmin : Hid ((min (m : Int) (y : Int)) = ((min m y : Nat) : Int)) := hid (by omega)
      clear hb2 HS k0 k1
      go_wp2_with fail
      go_roundw
      case rel => exact ⟨k + 1, by omega, by rw [hL.out]; first | exact congrArg (Value.int .i64) hmin.out | (congr 1; omega), by go_num, HB2.out, HP2.out⟩
      case measure => simp [intOf]; omega
    · obtain rfl : k = ro := by omega
      clear hb hpl
      go_wp2_with fail
      go_ret
      refine ⟨?_, HB.out⟩
      unfold estN
      rw [HRo.out]
      rfl

set_option maxHeartbeats 1000000 in
theorem Estimate_yes (h : Full w p go X q last ns qs mpf) (ht : last ≤ t) (ht2 : t ≤ 1152921504606846976) (s : ByteArray) (hs : s.size ≤ maxLen) :
    Calls Try.prog 28 #[.pointer (some ⟨p, 0, none⟩), .int .i64 t, .string s] w fun e w' => e = .returned (.tuple #[.int .i64 (estN q X ns t s), .int .i64 0]) ∧ Below w.heap.size w w' := by
  obtain ⟨_, v, hp, _⟩ := h.sk
  obtain ⟨-, -, -, -, -, c5, -, -⟩ := sv_cells hp
  have HR := hid (refuses_any p last t true w c5)
  have e : refT last t true = 0 := by unfold refT; rw [if_neg (by simp; omega), if_neg (by omega)]
  rw [e] at HR
  have HE := hid (estimate_any h ht ht2 s hs)
  clear h hp c5 e
  go_enter Try.func28, Try.ntmps28
  go_wp2_with fail
  refine HR.out.mono ?_
  rintro e w1 ⟨rfl, rfl⟩
  go_wp2_with fail
  refine HE.out.mono ?_
  rintro e w1 ⟨rfl, hb⟩
  have HB := hid hb
  clear hb HE HR
  go_wp2_with fail
  go_ret2
  exact ⟨rfl, HB.out⟩

set_option maxHeartbeats 1000000 in
theorem Total_yes (h : Full w p go X q last ns qs mpf) (ht : last ≤ t) (ht2 : t ≤ 1152921504606846976) :
    Calls Try.prog 29 #[.pointer (some ⟨p, 0, none⟩), .int .i64 t] w fun e w' => e = .returned (.tuple #[.int .i64 (totalN q X.bk ns t), .int .i64 0]) ∧ Below w.heap.size w w' := by
  obtain ⟨_, v, hp, _⟩ := h.sk
  obtain ⟨-, -, -, -, -, c5, -, -⟩ := sv_cells hp
  have HR := hid (refuses_any p last t true w c5)
  have e : refT last t true = 0 := by unfold refT; rw [if_neg (by simp; omega), if_neg (by omega)]
  rw [e] at HR
  have HE := hid (total_sum h ht ht2)
  clear h hp c5 e
  go_enter Try.func29, Try.ntmps29
  go_wp2_with fail
  refine HR.out.mono ?_
  rintro e w1 ⟨rfl, rfl⟩
  go_wp2_with fail
  refine HE.out.mono ?_
  rintro e w1 ⟨rfl, hb⟩
  have HB := hid hb
  clear hb HE HR
  go_wp2_with fail
  go_ret2
  exact ⟨rfl, HB.out⟩

set_option maxRecDepth 20000 in
set_option maxHeartbeats 1000000 in
theorem New_yes (X : Shp) (q : Nat) (ho : Ok X q) (w : World) :
    Calls Try.prog 5 #[.int .i64 X.wd, .int .i64 X.bk, .int .i64 X.ro, .int .i64 X.co, .int .u64 X.seed] w fun e w' => ∃ p, e = .returned (.tuple #[.pointer (some ⟨p, 0, none⟩), .int .i64 0]) ∧ w.heap.size ≤ p ∧ Full w' p none X q 0 [] [] (fun _ => 0) ∧ Below w.heap.size w w' := by
  have hq := ho.we
  have HR := hid (refused_any X.wd X.bk X.ro X.co (w.alloc (.cells #[.int .i64 X.wd, .int .i64 X.bk, .int .i64 X.ro, .int .i64 X.co] 79)))
  have e : refZ X.wd X.bk X.ro X.co = 0 := by
    have h1 := ho.w1
    have h2 := ho.b1
    have h3 := ho.b2
    have h4 := ho.r1
    have h5 := ho.r2
    have h6 := ho.c1
    have h7 := ho.c2
    have h8 := ho.q0
    have hw : 1 ≤ X.wd := by rw [hq]; exact Nat.mul_pos h8 h2
    have hd : (X.wd : Int) % (X.bk : Int) = 0 := by
      rw [hq]
      exact Int.emod_eq_zero_of_dvd ⟨(q : Int), by rw [Int.natCast_mul, Int.mul_comm]⟩
    unfold refZ inB
    rw [if_pos (by simp; omega), if_pos hd]
  rw [e] at HR
  have HO := hid ho
  clear ho hq e
  unfold szv at HR
  go_enter Try.func5, Try.ntmps5
  go_wp2_with fail
  refine HR.out.mono ?_
  rintro e w1 ⟨rfl, hb1⟩
  have k0 : w1.cell? ⟨w.heap.size, 0, none⟩ = some (.int .i64 X.wd) := (hb1.cell (p := ⟨w.heap.size, 0, none⟩) (by simp)).trans (by go_cell)
  have k1 : w1.cell? ⟨w.heap.size, 1, none⟩ = some (.int .i64 X.bk) := (hb1.cell (p := ⟨w.heap.size, 1, none⟩) (by simp)).trans (by go_cell)
  have k2 : w1.cell? ⟨w.heap.size, 2, none⟩ = some (.int .i64 X.ro) := (hb1.cell (p := ⟨w.heap.size, 2, none⟩) (by simp)).trans (by go_cell)
  have k3 : w1.cell? ⟨w.heap.size, 3, none⟩ = some (.int .i64 X.co) := (hb1.cell (p := ⟨w.heap.size, 3, none⟩) (by simp)).trans (by go_cell)
  have HB1 : Hid (Below w.heap.size w w1) := hid (((Below.refl _ w).alloc (Nat.le_refl _) _).trans (hb1.mono (by simp)))
  clear hb1 HR
  go_wp2_with fail
  go_ret2
  refine ⟨w1.heap.size, rfl, HB1.out.size, ⟨HO.out, ⟨by simp, .slice none 0 0, ?_, .inl ⟨rfl, rfl, rfl⟩⟩, (fun _ h => by cases h), (fun _ h => by cases h), (fun _ h => by cases h), Inv.zero _ _, by omega⟩, HB1.out.alloc HB1.out.size _⟩
  exact heap_alloc_new w1 _

end Go.Proofs.Ytnpldfacnmhemaa.SkM
