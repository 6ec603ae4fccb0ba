/- The rules of some numbers, gone through. -/
import Derived.Test.YtakmfcnmcjbbgaaRejF
namespace Go.Proofs.Ytakmfcnmcjbbgaa.RejM
set_option linter.unusedVariables false
open Go.ChangeShapes Go.WideShapes Go.ChangeAt Go.RowKit Base RejA RejB RejD RejE RejF Txt
open Go.Shelf

def IAt (w : World) (a : Option Addr) (n : Nat) (f : Nat → Int) : Prop := 0 < n → ∃ g o, a = some ⟨g, o, none⟩ ∧ g < w.heap.size ∧ ∀ i, i < n → w.cell? ⟨g, o + i, none⟩ = some (.int .i64 (f i))
structure Il (w : World) (n0 : Nat) (a : Option Addr) (n : Nat) (f : Nat → Int) : Prop where
  il : IAt w a n f
  low : 0 < n → ∀ x, a = some x → x.block < n0
theorem Il.kq {w w' : World} {n0 : Nat} {a : Option Addr} {n : Nat} {f : Nat → Int} (h : Il w n0 a n f) (hb : Below n0 w w') (hn : n0 ≤ w.heap.size) : Il w' n0 a n f := by
  refine ⟨fun h0 => ?_, h.low⟩
  obtain ⟨g, o, rfl, hg, hc⟩ := h.il h0
  have hl : g < n0 := h.low h0 _ rfl
  exact ⟨g, o, rfl, Nat.lt_of_lt_of_le hl (Nat.le_trans hn hb.size), fun i hi => (hb.cell (p := ⟨g, o + i, none⟩) hl).trans (hc i hi)⟩
theorem IAt.lowed {w : World} {a : Option Addr} {n : Nat} {f : Nat → Int} (h : IAt w a n f) : Il w w.heap.size a n f := ⟨h, fun h0 x e => by
  obtain ⟨g, o, rfl, hg, _⟩ := h h0
  cases e
  exact hg⟩

/-- is it a rule's number? -/
def inR (n : Nat) (k : Int) : Bool := decide (0 ≤ k) && decide (k < n)
/-- the rules of the first j numbers -/
def picks (n : Nat) (L : Nat → Flow) (f : Nat → Int) (j : Nat) : List Flow := ((List.range j).filter fun i => inR n (f i)).map fun i => L (f i).toNat
theorem picks_yes {n : Nat} {L : Nat → Flow} {f : Nat → Int} {j : Nat} (h : inR n (f j) = true) : picks n L f (j + 1) = picks n L f j ++ [L (f j).toNat] := by
  unfold picks; rw [List.range_succ, List.filter_append, List.map_append]; simp [h]
theorem picks_no {n : Nat} {L : Nat → Flow} {f : Nat → Int} {j : Nat} (h : inR n (f j) = false) : picks n L f (j + 1) = picks n L f j := by
  unfold picks; rw [List.range_succ, List.filter_append, List.map_append]; simp [h]
theorem picks_pre (n : Nat) (L : Nat → Flow) (f : Nat → Int) {j k : Nat} (h : j ≤ k) : picks n L f j <+: picks n L f k := by
  induction k with
  | zero => obtain rfl : j = 0 := by omega
            exact List.prefix_refl _
  | succ k ih =>
    rcases Nat.lt_or_ge k j with e | e
    · obtain rfl : j = k + 1 := by omega
      exact List.prefix_refl _
    · refine (ih e).trans ?_
      cases hb : inR n (f k) with
      | true => rw [picks_yes hb]; exact List.prefix_append _ _
      | false => rw [picks_no hb]; exact List.prefix_refl _

attribute [local go_sem] Oper.semAt_some

set_option maxRecDepth 100000 in
set_option maxHeartbeats 4000000 in
theorem named1_in (m : Nat) (hm : 1 ≤ m) (l B1 B2 n0 : Nat) (a a2 : Option Addr) (n cap n2 cap2 : Nat) (L : Nat → Flow) (f : Nat → Int) (hn : n ≤ 9223372036854775807) (hn2 : n2 ≤ 9223372036854775807) (J Jx : List Flow → World → Prop)
    (hY : ∀ pre F W, J pre W → pre.length < (picks n L f n2).length → YieldAt Fence.wide (m - 1) Try.prog l #[.agg (fv F)] W fun e W' =>
      (e = .returned (.bool true) ∧ J (pre ++ [F]) W' ∧ Kq n0 B1 B2 W W') ∨ (e = .returned (.bool false) ∧ Jx (pre ++ [F]) W'))
    (W : World) (hl0 : n0 ≤ W.heap.size) (HB1 : Hid (W.cell? ⟨B1, 0, none⟩ = some (.slice a2 n2 cap2))) (HB2 : Hid (W.cell? ⟨B2, 0, none⟩ = some (.slice a n cap))) (HF : Hid (Fl W n0 a n L)) (HI : Hid (Il W n0 a2 n2 f)) (h0 : J [] W) :
    CallsIn Fence.wide m Try.prog 31 #[.func (.yield l) #[] #[], .pointer (some ⟨B1, 0, none⟩), .pointer (some ⟨B2, 0, none⟩)] W fun e W' => (∃ v, e = .returned v) ∧
      ((∃ ys, ys = picks n L f n2 ∧ J ys W') ∨ (∃ pre, pre <+: picks n L f n2 ∧ Jx pre W')) := by
  refine callsIn_of_wp Try.func31 rfl trivial ?_ rfl
  simp only [Try.ntmps31, List.size_toArray, List.length_cons, List.length_nil, Nat.reduceAdd, Nat.reduceSub, Array.replicate_succ, Array.replicate_zero, List.push_toArray, List.append_toArray, List.nil_append, List.cons_append]
  have b1 := HB1.out
  have hB1 := World.block_lt_of_cell? _ _ HB1.out
  have hB2 := World.block_lt_of_cell? _ _ HB2.out
  gi_wp2
  gi_loopw [8] (fun i wr => ∃ k : Nat, k ≤ n2 ∧ i = .int .i64 k ∧ J (picks n L f k) wr ∧ Kq n0 B1 B2 W wr) (fun i _ => n2 - (intOf i).toNat)
  case atStart => exact ⟨0, Nat.zero_le _, rfl, h0, Kq.refl _ _ _ _⟩
  case round =>
    obtain ⟨k, hk, rfl, hJs, hkq⟩ := hrel
    have HK := hid hkq
    have HJs := hid hJs
    have hs := hkq.1.size
    have q2 : wr.cell? ⟨B2, 0, none⟩ = some (.slice a n cap) := (World.cell?_of_block (a := ⟨B2, 0, none⟩) hkq.2.2).trans HB2.out
    have HFr := hid (HF.out.kq hkq.1 hl0)
    have HIr := hid (HI.out.kq hkq.1 hl0)
    clear hkq hJs b1
    by_cases hlt : k < n2
    · obtain ⟨g2, o2, rfl, hg2, hc2⟩ := HIr.out.il (by omega)
      have x0 := hc2 k hlt
      have hB2r : B2 < wr.heap.size := Nat.lt_of_lt_of_le hB2 hs
      clear hc2
      have HMN : Hid (inR n (f k) = false → picks n L f (k + 1) = picks n L f k) := hid picks_no
      have HMY : Hid (inR n (f k) = true → picks n L f (k + 1) = picks n L f k ++ [L (f k).toNat]) := hid picks_yes
      generalize f k = z at *
      by_cases hz0 : 0 ≤ z
      · have d1 : decide (0 ≤ z) = true := by simpa using hz0
        by_cases hzn : z < n
        · have d2 : decide (z < (n : Int)) = true := by simpa using hzn
          have HM := hid (HMY.out (by unfold inR; rw [d1, d2]; rfl))
          obtain ⟨i, rfl⟩ : ∃ i : Nat, z = i := ⟨z.toNat, by omega⟩
          rw [Int.toNat_natCast] at HM
          obtain ⟨g, o, rfl, hg, hc⟩ := HFr.out.fl.at_ (by omega)
          have hc := hc i (by omega)
          have hin : (i : Int) < n := hzn
          have hi0 : (0 : Int) ≤ (i : Int) := hz0
          have hiN : i < n := by omega
          obtain ⟨F, hF⟩ : ∃ F, L i = F := ⟨_, rfl⟩
          rw [hF] at hc HM
          have c0 : wr.cell? ⟨g, o + i * 12, none⟩ = some (.string F.res) := hc 0 _ rfl
          have c1 : wr.cell? ⟨g, o + i * 12 + 1, none⟩ = some (.string F.org) := hc 1 _ rfl
          have c2 : wr.cell? ⟨g, o + i * 12 + 2, none⟩ = some (.bool F.thr) := hc 2 _ rfl
          have c3 : wr.cell? ⟨g, o + i * 12 + 3, none⟩ = some (.int .i64 F.cnt) := hc 3 _ rfl
          have c4 : wr.cell? ⟨g, o + i * 12 + 4, none⟩ = some (.int .u8 F.strat) := hc 4 _ rfl
          have c5 : wr.cell? ⟨g, o + i * 12 + 5, none⟩ = some (.string F.ref) := hc 5 _ rfl
          have c6 : wr.cell? ⟨g, o + i * 12 + 6, none⟩ = some (.int .u8 F.shape) := hc 6 _ rfl
          have c7 : wr.cell? ⟨g, o + i * 12 + 7, none⟩ = some (.int .i64 F.warm) := hc 7 _ rfl
          have c8 : wr.cell? ⟨g, o + i * 12 + 8, none⟩ = some (.int .i64 F.queue) := hc 8 _ rfl
          have c9 : wr.cell? ⟨g, o + i * 12 + 9, none⟩ = some (.bool F.clus) := hc 9 _ rfl
          have c10 : wr.cell? ⟨g, o + i * 12 + 10, none⟩ = some (.int .i64 F.id_) := hc 10 _ rfl
          have c11 : wr.cell? ⟨g, o + i * 12 + 11, none⟩ = some (.bool F.fall) := hc 11 _ rfl
          have hlen : (picks n L f k).length < (picks n L f n2).length := by
            have h1 := (picks_pre n L f (show k + 1 ≤ n2 by omega)).length_le
            rw [HM.out, List.length_append] at h1
            simp at h1
            omega
          obtain ⟨fn, tmps, assign, body, hy, hR⟩ := hY (picks n L f k) F wr HJs.out hlen
          unfold fv at hy
          clear hc hF hlen HMN HMY
          gi_wp2
          refine hR.mono ?_
          rintro e W3 (⟨rfl, hJ3, hk3⟩ | ⟨rfl, hJx3⟩)
          · have HJ3 := hid hJ3
            have HK3 := hid (HK.out.trans hk3)
            clear hJ3 hk3 hy hR c0 c1 c2 c3 c4 c5 c6 c7 c8 c9 c10 c11 q2 x0
            gi_wp2
            go_roundw
            case rel => exact ⟨k + 1, by omega, by go_num, by rw [HM.out]; exact HJ3.out, HK3.out⟩
            case measure => simp [intOf]; omega
          · have HJx3 := hid hJx3
            clear hJx3 hy hR c0 c1 c2 c3 c4 c5 c6 c7 c8 c9 c10 c11 q2 x0
            gi_wp2
            refine bodyPost_ret (results_none rfl _ _ _) rfl ?_
            refine ⟨⟨_, rfl⟩, .inr ⟨_, ?_, HJx3.out⟩⟩
            rw [← HM.out]
            exact picks_pre n L f (by omega)
        · have d2 : decide (z < (n : Int)) = false := by simpa using hzn
          have HM := hid (HMN.out (by unfold inR; rw [d1, d2]; rfl))
          clear HMN HMY
          gi_wp2
          refine ⟨fun _ h => (by cases h), ?_⟩
          gi_wp2
          go_roundw
          case rel => exact ⟨k + 1, by omega, by go_num, by rw [HM.out]; exact HJs.out, HK.out⟩
          case measure => simp [intOf]; omega
      · have d1 : decide (0 ≤ z) = false := by simpa using hz0
        have HM := hid (HMN.out (by unfold inR; rw [d1]; rfl))
        clear HMN HMY
        gi_wp2
        refine ⟨fun _ h => (by cases h), ?_⟩
        gi_wp2
        go_roundw
        case rel => exact ⟨k + 1, by omega, by go_num, by rw [HM.out]; exact HJs.out, HK.out⟩
        case measure => simp [intOf]; omega
    · obtain rfl : k = n2 := by omega
      gi_wp2
      go_end0
      exact ⟨⟨_, rfl⟩, .inl ⟨_, rfl, HJs.out⟩⟩

/-- what the iterator gives -/
theorem named_stops (m : Nat) (hm : 1 ≤ m) (B1 B2 n0 : Nat) (a a2 : Option Addr) (n cap n2 cap2 : Nat) (L : Nat → Flow) (f : Nat → Int) (hn : n ≤ 9223372036854775807) (hn2 : n2 ≤ 9223372036854775807) (w : World) (hl0 : n0 ≤ w.heap.size) (h1 : w.cell? ⟨B1, 0, none⟩ = some (.slice a2 n2 cap2)) (h2 : w.cell? ⟨B2, 0, none⟩ = some (.slice a n cap)) (hF : Fl w n0 a n L) (hI : Il w n0 a2 n2 f) :
    SeqStopsK Fence.wide m Try.prog 31 #[.pointer (some ⟨B1, 0, none⟩), .pointer (some ⟨B2, 0, none⟩)] (fun F : Flow => #[.agg (fv F)]) (Kq n0 B1 B2) (fun ys => ys = picks n L f n2) (fun pre => pre <+: picks n L f n2) (picks n L f n2).length w := fun l J Jx W hW hJ hJx hY h0 =>
  named1_in m hm l B1 B2 n0 a a2 n cap n2 cap2 L f hn hn2 J Jx (fun pre F W hj hl => hY pre F W hj hl) W (Nat.le_trans hl0 hW.size) (hid ((hW.cell (p := ⟨B1, 0, none⟩) (World.block_lt_of_cell? _ _ h1)).trans h1)) (hid ((hW.cell (p := ⟨B2, 0, none⟩) (World.block_lt_of_cell? _ _ h2)).trans h2)) (hid (hF.kq (hW.mono hl0) hl0)) (hid (hI.kq (hW.mono hl0) hl0)) h0

end Go.Proofs.Ytakmfcnmcjbbgaa.RejM
