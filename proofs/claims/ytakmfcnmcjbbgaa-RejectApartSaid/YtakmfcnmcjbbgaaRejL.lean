/- RejectApart. -/
import Derived.Test.YtakmfcnmcjbbgaaRejK
import Derived.Test.YtakmfcnmcjbbgaaRejX
import Derived.Deep.RegionHeld3
import Derived.Deep.AppendLies
import Derived.Deep.DeepCutAuto
import Derived.BigQuiet
namespace Go.Proofs.Ytakmfcnmcjbbgaa.RejL
set_option linter.unusedVariables false
open Go.ChangeShapes Go.WideShapes Go.ChangeAt Go.RowKit Go.Deep Base RejA RejB RejC RejD RejE RejF RejG RejI RejK Txt

theorem owns_one {w : World} {H B : Nat} {F : Flow} (h : w.heap[H]? = some (.cells (fv F) 25)) (hB : B ≤ H) : w.ownsRow B 25 12 (.slice (some ⟨H, 0, none⟩) 1 1) 1 (fv F).toList :=
  ⟨rfl, .inr ⟨H, 1, fv F, rfl, hB, h, by simp, by simp [maxLen], rfl, rfl⟩⟩

theorem wrap_id {z : Int} (h1 : 0 ≤ z) (h2 : z ≤ 9223372036854775807) : wrap64 z = z ∧ IntKind.i64.wrap z = z := ⟨by unfold wrap64; omega, by rw [IntKind.wrap_i64]; omega⟩

theorem Mine_any' (a : Option Addr) (n cap : Nat) (L : Nat → Flow) (c : Cal) (cs : Array Value) (w : World) (hc : cv c = cs) (hn : n ≤ 4000000000000) (hF : Flows w a n L) :
    Calls Try.prog 16 #[.slice a n cap, .agg cs] w fun e w' => (∃ x, e = .returned x ∧ w'.ownsRow w.heap.size 3 1 x (mines n L c n).length (vals (mines n L c n))) ∧ Below w.heap.size w w' := by
  subst hc; exact Mine_any a n cap L c w hn hF

def AP (w1 : World) (l : List Nat) (s : Value) (wx : World) : Prop :=
  (∃ va m vc, s = .slice va m vc ∧ m = l.length ∧ (0 < l.length → ∃ g, va = some ⟨g, 0, none⟩ ∧ g < wx.heap.size ∧ ∀ i, i < l.length → wx.cell? ⟨g, i, none⟩ = some (.int .i64 (l.getD i 0 : Nat)))) ∧ Below w1.heap.size w1 wx

theorem ap_of {w1 wx : World} {B : Nat} {l : List Nat} {x : Value} (h : wx.ownsRow B 3 1 x l.length (vals l)) (hb : Below w1.heap.size w1 wx) : AP w1 l x wx := by
  obtain ⟨va, vc, rfl⟩ := Wri.owns_shape h
  exact ⟨⟨va, _, vc, rfl, rfl, fun h0 => (vals_at h h0).2⟩, hb⟩

set_option maxRecDepth 100000 in
set_option maxHeartbeats 4000000 in
theorem apart_core (a : Option Addr) (n cap : Nat) (L : Nat → Flow) (res org : ByteArray) (thr : Bool) (cnt : Int) (strat : Nat) (ref : ByteArray) (shape : Nat) (warm queue : Int) (clus : Bool) (id_ : Int) (fall : Bool) (at_ : Int) (cres cctx corg : ByteArray) (inb : Bool) (ccnt : Int) (ca : Option Addr) (cn ccap : Nat)
    (F0 : Flow) (C0 : Cal) (HFc : Hid (F0 = (⟨res, org, thr, cnt, strat, ref, shape, warm, queue, clus, id_, fall⟩ : Flow) ∧ C0 = (⟨at_, cres, cctx, corg, inb, ccnt, ca, cn, ccap⟩ : Cal))) (w : World) (hnm : n ≤ 1172812402930) (HF : Hid (Flows w a n L)) (HS : Hid (F0.res.size ≤ maxLen ∧ F0.org.size ≤ maxLen ∧ F0.ref.size ≤ maxLen)) :
    Calls Try.prog 7 #[.slice a n cap, .agg #[.int .i64 at_, .string cres, .string cctx, .string corg, .bool inb, .int .i64 ccnt, .slice ca cn ccap], .agg #[.string res, .string org, .bool thr, .int .i64 cnt, .int .u8 strat, .string ref, .int .u8 shape, .int .i64 warm, .int .i64 queue, .bool clus, .int .i64 id_, .bool fall]] w fun e w' => e = .returned (.bool true) ∧ Below w.heap.size w w' := by
  obtain ⟨i0, hi, hz0, hz1, hz2⟩ := info_parts infoFlow
  have HFV := hid (show fv F0 = #[.string res, .string org, .bool thr, .int .i64 cnt, .int .u8 strat, .string ref, .int .u8 shape, .int .i64 warm, .int .i64 queue, .bool clus, .int .i64 id_, .bool fall] from by rw [HFc.out.1]; rfl)
  have HCV := hid (show cv C0 = #[.int .i64 at_, .string cres, .string cctx, .string corg, .bool inb, .int .i64 ccnt, .slice ca cn ccap] from by rw [HFc.out.2]; rfl)
  have HRes := hid (show F0.res = res ∧ C0.res = cres from by rw [HFc.out.1, HFc.out.2]; exact ⟨rfl, rfl⟩)
  have HB0 : Hid (Below w.heap.size w ((w.alloc (.cells #[.int .i64 at_, .string cres, .string cctx, .string corg, .bool inb, .int .i64 ccnt, .slice ca cn ccap] 28)).alloc (.cells #[.string res, .string org, .bool thr, .int .i64 cnt, .int .u8 strat, .string ref, .int .u8 shape, .int .i64 warm, .int .i64 queue, .bool clus, .int .i64 id_, .bool fall] 25))) := hid (((Below.refl w.heap.size w).alloc (Nat.le_refl _) _).alloc (by simp) _)
  have y0 : ((w.alloc (.cells #[.int .i64 at_, .string cres, .string cctx, .string corg, .bool inb, .int .i64 ccnt, .slice ca cn ccap] 28)).alloc (.cells #[.string res, .string org, .bool thr, .int .i64 cnt, .int .u8 strat, .string ref, .int .u8 shape, .int .i64 warm, .int .i64 queue, .bool clus, .int .i64 id_, .bool fall] 25)).cell? ⟨w.heap.size, 0, none⟩ = some (.int .i64 at_) := by go_cell
  have y1 : ((w.alloc (.cells #[.int .i64 at_, .string cres, .string cctx, .string corg, .bool inb, .int .i64 ccnt, .slice ca cn ccap] 28)).alloc (.cells #[.string res, .string org, .bool thr, .int .i64 cnt, .int .u8 strat, .string ref, .int .u8 shape, .int .i64 warm, .int .i64 queue, .bool clus, .int .i64 id_, .bool fall] 25)).cell? ⟨w.heap.size, 1, none⟩ = some (.string cres) := by go_cell
  have y2 : ((w.alloc (.cells #[.int .i64 at_, .string cres, .string cctx, .string corg, .bool inb, .int .i64 ccnt, .slice ca cn ccap] 28)).alloc (.cells #[.string res, .string org, .bool thr, .int .i64 cnt, .int .u8 strat, .string ref, .int .u8 shape, .int .i64 warm, .int .i64 queue, .bool clus, .int .i64 id_, .bool fall] 25)).cell? ⟨w.heap.size, 2, none⟩ = some (.string cctx) := by go_cell
  have y3 : ((w.alloc (.cells #[.int .i64 at_, .string cres, .string cctx, .string corg, .bool inb, .int .i64 ccnt, .slice ca cn ccap] 28)).alloc (.cells #[.string res, .string org, .bool thr, .int .i64 cnt, .int .u8 strat, .string ref, .int .u8 shape, .int .i64 warm, .int .i64 queue, .bool clus, .int .i64 id_, .bool fall] 25)).cell? ⟨w.heap.size, 3, none⟩ = some (.string corg) := by go_cell
  have y4 : ((w.alloc (.cells #[.int .i64 at_, .string cres, .string cctx, .string corg, .bool inb, .int .i64 ccnt, .slice ca cn ccap] 28)).alloc (.cells #[.string res, .string org, .bool thr, .int .i64 cnt, .int .u8 strat, .string ref, .int .u8 shape, .int .i64 warm, .int .i64 queue, .bool clus, .int .i64 id_, .bool fall] 25)).cell? ⟨w.heap.size, 4, none⟩ = some (.bool inb) := by go_cell
  have y5 : ((w.alloc (.cells #[.int .i64 at_, .string cres, .string cctx, .string corg, .bool inb, .int .i64 ccnt, .slice ca cn ccap] 28)).alloc (.cells #[.string res, .string org, .bool thr, .int .i64 cnt, .int .u8 strat, .string ref, .int .u8 shape, .int .i64 warm, .int .i64 queue, .bool clus, .int .i64 id_, .bool fall] 25)).cell? ⟨w.heap.size, 5, none⟩ = some (.int .i64 ccnt) := by go_cell
  have y6 : ((w.alloc (.cells #[.int .i64 at_, .string cres, .string cctx, .string corg, .bool inb, .int .i64 ccnt, .slice ca cn ccap] 28)).alloc (.cells #[.string res, .string org, .bool thr, .int .i64 cnt, .int .u8 strat, .string ref, .int .u8 shape, .int .i64 warm, .int .i64 queue, .bool clus, .int .i64 id_, .bool fall] 25)).cell? ⟨w.heap.size, 6, none⟩ = some (.slice ca cn ccap) := by go_cell
  have x0 : ((w.alloc (.cells #[.int .i64 at_, .string cres, .string cctx, .string corg, .bool inb, .int .i64 ccnt, .slice ca cn ccap] 28)).alloc (.cells #[.string res, .string org, .bool thr, .int .i64 cnt, .int .u8 strat, .string ref, .int .u8 shape, .int .i64 warm, .int .i64 queue, .bool clus, .int .i64 id_, .bool fall] 25)).cell? ⟨w.heap.size + 1, 0, none⟩ = some (.string res) := by go_cell
  have x1 : ((w.alloc (.cells #[.int .i64 at_, .string cres, .string cctx, .string corg, .bool inb, .int .i64 ccnt, .slice ca cn ccap] 28)).alloc (.cells #[.string res, .string org, .bool thr, .int .i64 cnt, .int .u8 strat, .string ref, .int .u8 shape, .int .i64 warm, .int .i64 queue, .bool clus, .int .i64 id_, .bool fall] 25)).cell? ⟨w.heap.size + 1, 1, none⟩ = some (.string org) := by go_cell
  have x2 : ((w.alloc (.cells #[.int .i64 at_, .string cres, .string cctx, .string corg, .bool inb, .int .i64 ccnt, .slice ca cn ccap] 28)).alloc (.cells #[.string res, .string org, .bool thr, .int .i64 cnt, .int .u8 strat, .string ref, .int .u8 shape, .int .i64 warm, .int .i64 queue, .bool clus, .int .i64 id_, .bool fall] 25)).cell? ⟨w.heap.size + 1, 2, none⟩ = some (.bool thr) := by go_cell
  have x3 : ((w.alloc (.cells #[.int .i64 at_, .string cres, .string cctx, .string corg, .bool inb, .int .i64 ccnt, .slice ca cn ccap] 28)).alloc (.cells #[.string res, .string org, .bool thr, .int .i64 cnt, .int .u8 strat, .string ref, .int .u8 shape, .int .i64 warm, .int .i64 queue, .bool clus, .int .i64 id_, .bool fall] 25)).cell? ⟨w.heap.size + 1, 3, none⟩ = some (.int .i64 cnt) := by go_cell
  have x4 : ((w.alloc (.cells #[.int .i64 at_, .string cres, .string cctx, .string corg, .bool inb, .int .i64 ccnt, .slice ca cn ccap] 28)).alloc (.cells #[.string res, .string org, .bool thr, .int .i64 cnt, .int .u8 strat, .string ref, .int .u8 shape, .int .i64 warm, .int .i64 queue, .bool clus, .int .i64 id_, .bool fall] 25)).cell? ⟨w.heap.size + 1, 4, none⟩ = some (.int .u8 strat) := by go_cell
  have x5 : ((w.alloc (.cells #[.int .i64 at_, .string cres, .string cctx, .string corg, .bool inb, .int .i64 ccnt, .slice ca cn ccap] 28)).alloc (.cells #[.string res, .string org, .bool thr, .int .i64 cnt, .int .u8 strat, .string ref, .int .u8 shape, .int .i64 warm, .int .i64 queue, .bool clus, .int .i64 id_, .bool fall] 25)).cell? ⟨w.heap.size + 1, 5, none⟩ = some (.string ref) := by go_cell
  have x6 : ((w.alloc (.cells #[.int .i64 at_, .string cres, .string cctx, .string corg, .bool inb, .int .i64 ccnt, .slice ca cn ccap] 28)).alloc (.cells #[.string res, .string org, .bool thr, .int .i64 cnt, .int .u8 strat, .string ref, .int .u8 shape, .int .i64 warm, .int .i64 queue, .bool clus, .int .i64 id_, .bool fall] 25)).cell? ⟨w.heap.size + 1, 6, none⟩ = some (.int .u8 shape) := by go_cell
  have x7 : ((w.alloc (.cells #[.int .i64 at_, .string cres, .string cctx, .string corg, .bool inb, .int .i64 ccnt, .slice ca cn ccap] 28)).alloc (.cells #[.string res, .string org, .bool thr, .int .i64 cnt, .int .u8 strat, .string ref, .int .u8 shape, .int .i64 warm, .int .i64 queue, .bool clus, .int .i64 id_, .bool fall] 25)).cell? ⟨w.heap.size + 1, 7, none⟩ = some (.int .i64 warm) := by go_cell
  have x8 : ((w.alloc (.cells #[.int .i64 at_, .string cres, .string cctx, .string corg, .bool inb, .int .i64 ccnt, .slice ca cn ccap] 28)).alloc (.cells #[.string res, .string org, .bool thr, .int .i64 cnt, .int .u8 strat, .string ref, .int .u8 shape, .int .i64 warm, .int .i64 queue, .bool clus, .int .i64 id_, .bool fall] 25)).cell? ⟨w.heap.size + 1, 8, none⟩ = some (.int .i64 queue) := by go_cell
  have x9 : ((w.alloc (.cells #[.int .i64 at_, .string cres, .string cctx, .string corg, .bool inb, .int .i64 ccnt, .slice ca cn ccap] 28)).alloc (.cells #[.string res, .string org, .bool thr, .int .i64 cnt, .int .u8 strat, .string ref, .int .u8 shape, .int .i64 warm, .int .i64 queue, .bool clus, .int .i64 id_, .bool fall] 25)).cell? ⟨w.heap.size + 1, 9, none⟩ = some (.bool clus) := by go_cell
  have x10 : ((w.alloc (.cells #[.int .i64 at_, .string cres, .string cctx, .string corg, .bool inb, .int .i64 ccnt, .slice ca cn ccap] 28)).alloc (.cells #[.string res, .string org, .bool thr, .int .i64 cnt, .int .u8 strat, .string ref, .int .u8 shape, .int .i64 warm, .int .i64 queue, .bool clus, .int .i64 id_, .bool fall] 25)).cell? ⟨w.heap.size + 1, 10, none⟩ = some (.int .i64 id_) := by go_cell
  have x11 : ((w.alloc (.cells #[.int .i64 at_, .string cres, .string cctx, .string corg, .bool inb, .int .i64 ccnt, .slice ca cn ccap] 28)).alloc (.cells #[.string res, .string org, .bool thr, .int .i64 cnt, .int .u8 strat, .string ref, .int .u8 shape, .int .i64 warm, .int .i64 queue, .bool clus, .int .i64 id_, .bool fall] 25)).cell? ⟨w.heap.size + 1, 11, none⟩ = some (.bool fall) := by go_cell
  have z0 : w.heap.size + 1 < ((w.alloc (.cells #[.int .i64 at_, .string cres, .string cctx, .string corg, .bool inb, .int .i64 ccnt, .slice ca cn ccap] 28)).alloc (.cells #[.string res, .string org, .bool thr, .int .i64 cnt, .int .u8 strat, .string ref, .int .u8 shape, .int .i64 warm, .int .i64 queue, .bool clus, .int .i64 id_, .bool fall] 25)).heap.size := by simp
  go_enter Try.func7, Try.ntmps7
  go_upto_region 1 with fail
  generalize ((w.alloc (.cells #[.int .i64 at_, .string cres, .string cctx, .string corg, .bool inb, .int .i64 ccnt, .slice ca cn ccap] 28)).alloc (.cells #[.string res, .string org, .bool thr, .int .i64 cnt, .int .u8 strat, .string ref, .int .u8 shape, .int .i64 warm, .int .i64 queue, .bool clus, .int .i64 id_, .bool fall] 25)) = w0 at *
  cases d1 : decide (res = cres) with
  | true =>
    have e1 : (res.toList == cres.toList) = true := by rw [text_eq]; exact d1
    go_wp2_with fail
    refine (live_any w0).mono ?_
    rintro e w1 ⟨rfl, hb1⟩
    have HB1 := hid (bl HB0.out hb1)
    clear hb1
    go_wp2_with fail
    go_ret
    exact ⟨rfl, HB1.out⟩
  | false =>
    have e1 : (res.toList == cres.toList) = false := by rw [text_eq]; exact d1
    have HNE : Hid (F0.res ≠ C0.res) := hid (by rw [HRes.out.1, HRes.out.2]; simpa using d1)
    clear d1
    have HM0 := Mine_any a n cap L C0 w0 (by omega) (HF.out.below HB0.out)
    rw [HCV.out] at HM0
    have HM := hid HM0
    clear HM0
    go_wp2_with fail
    refine HM.out.mono ?_
    rintro e w1 ⟨⟨x1, rfl, hx1⟩, hb1⟩
    obtain ⟨va1, vc1, rfl⟩ := Wri.owns_shape hx1
    have y0 : w1.cell? ⟨w.heap.size, 0, none⟩ = some (.int .i64 at_) := kc hb1 (by assumption)
    have y1 : w1.cell? ⟨w.heap.size, 1, none⟩ = some (.string cres) := kc hb1 (by assumption)
    have y2 : w1.cell? ⟨w.heap.size, 2, none⟩ = some (.string cctx) := kc hb1 (by assumption)
    have y3 : w1.cell? ⟨w.heap.size, 3, none⟩ = some (.string corg) := kc hb1 (by assumption)
    have y4 : w1.cell? ⟨w.heap.size, 4, none⟩ = some (.bool inb) := kc hb1 (by assumption)
    have y5 : w1.cell? ⟨w.heap.size, 5, none⟩ = some (.int .i64 ccnt) := kc hb1 (by assumption)
    have y6 : w1.cell? ⟨w.heap.size, 6, none⟩ = some (.slice ca cn ccap) := kc hb1 (by assumption)
    have x0 : w1.cell? ⟨w.heap.size + 1, 0, none⟩ = some (.string res) := kc hb1 (by assumption)
    have x1 : w1.cell? ⟨w.heap.size + 1, 1, none⟩ = some (.string org) := kc hb1 (by assumption)
    have x2 : w1.cell? ⟨w.heap.size + 1, 2, none⟩ = some (.bool thr) := kc hb1 (by assumption)
    have x3 : w1.cell? ⟨w.heap.size + 1, 3, none⟩ = some (.int .i64 cnt) := kc hb1 (by assumption)
    have x4 : w1.cell? ⟨w.heap.size + 1, 4, none⟩ = some (.int .u8 strat) := kc hb1 (by assumption)
    have x5 : w1.cell? ⟨w.heap.size + 1, 5, none⟩ = some (.string ref) := kc hb1 (by assumption)
    have x6 : w1.cell? ⟨w.heap.size + 1, 6, none⟩ = some (.int .u8 shape) := kc hb1 (by assumption)
    have x7 : w1.cell? ⟨w.heap.size + 1, 7, none⟩ = some (.int .i64 warm) := kc hb1 (by assumption)
    have x8 : w1.cell? ⟨w.heap.size + 1, 8, none⟩ = some (.int .i64 queue) := kc hb1 (by assumption)
    have x9 : w1.cell? ⟨w.heap.size + 1, 9, none⟩ = some (.bool clus) := kc hb1 (by assumption)
    have x10 : w1.cell? ⟨w.heap.size + 1, 10, none⟩ = some (.int .i64 id_) := kc hb1 (by assumption)
    have x11 : w1.cell? ⟨w.heap.size + 1, 11, none⟩ = some (.bool fall) := kc hb1 (by assumption)
    have HB1 := hid (bl HB0.out hb1)
    have HX1 := hid hx1
    have z1 : w.heap.size + 1 < w1.heap.size := Nat.lt_of_lt_of_le z0 hb1.size
    clear hb1 hx1 HM HB0
    go_upto_region 4 with fail
    have HBA : Hid (Below w1.heap.size w1 (w1.alloc (.cells #[.string res, .string org, .bool thr, .int .i64 cnt, .int .u8 strat, .string ref, .int .u8 shape, .int .i64 warm, .int .i64 queue, .bool clus, .int .i64 id_, .bool fall] 25)).drew) := hid (((Below.refl w1.heap.size w1).alloc (Nat.le_refl _) _).drew)
    have HOwn : Hid ((w1.alloc (.cells #[.string res, .string org, .bool thr, .int .i64 cnt, .int .u8 strat, .string ref, .int .u8 shape, .int .i64 warm, .int .i64 queue, .bool clus, .int .i64 id_, .bool fall] 25)).drew.ownsRow w1.heap.size 25 12 (.slice (some ⟨w1.heap.size, 0, none⟩) 1 1) 1 (fv F0).toList) := hid (owns_one (by rw [HFV.out]; exact heap_alloc_new w1 _) (Nat.le_refl _))
    have HMA : Hid (mines (n + 1) (RejK.ahead L F0) C0 (n + 1) = (mines n L C0 n).map (· + 1)) := hid (mines_ahead HNE.out n (Nat.le_refl _))
    have kb : Below w1.heap.size w1 w1.drew := (Below.refl w1.heap.size w1).drew
    go_cut [8] (fun s8 wx => AP w1 ((mines n L C0 n).map (· + 1)) s8 wx)
    case first =>
      rcases Nat.eq_zero_or_pos n with hn00 | hn0
      · subst hn00
        cases a <;> (
          go_region_held3 (fun w' => w'.cell? ⟨w.heap.size, 0, none⟩ = some (.int .i64 at_) ∧ w'.cell? ⟨w.heap.size, 1, none⟩ = some (.string cres) ∧ w'.cell? ⟨w.heap.size, 2, none⟩ = some (.string cctx) ∧ w'.cell? ⟨w.heap.size, 3, none⟩ = some (.string corg) ∧ w'.cell? ⟨w.heap.size, 4, none⟩ = some (.bool inb) ∧ w'.cell? ⟨w.heap.size, 5, none⟩ = some (.int .i64 ccnt) ∧ w'.cell? ⟨w.heap.size, 6, none⟩ = some (.slice ca cn ccap) ∧ w'.cell? ⟨w.heap.size + 1, 0, none⟩ = some (.string res) ∧ w'.cell? ⟨w.heap.size + 1, 1, none⟩ = some (.string org) ∧ w'.cell? ⟨w.heap.size + 1, 2, none⟩ = some (.bool thr) ∧ w'.cell? ⟨w.heap.size + 1, 3, none⟩ = some (.int .i64 cnt) ∧ w'.cell? ⟨w.heap.size + 1, 4, none⟩ = some (.int .u8 strat) ∧ w'.cell? ⟨w.heap.size + 1, 5, none⟩ = some (.string ref) ∧ w'.cell? ⟨w.heap.size + 1, 6, none⟩ = some (.int .u8 shape) ∧ w'.cell? ⟨w.heap.size + 1, 7, none⟩ = some (.int .i64 warm) ∧ w'.cell? ⟨w.heap.size + 1, 8, none⟩ = some (.int .i64 queue) ∧ w'.cell? ⟨w.heap.size + 1, 9, none⟩ = some (.bool clus) ∧ w'.cell? ⟨w.heap.size + 1, 10, none⟩ = some (.int .i64 id_) ∧ w'.cell? ⟨w.heap.size + 1, 11, none⟩ = some (.bool fall)) (first | assumption | go_keep)
            (first
              | (go_at_call 16; refine (Mine_any' (some ⟨w1.heap.size, 0, none⟩) (0 + 1) 1 (RejK.ahead L F0) C0 _ _ HCV.out (by omega) (flows_ahead (n := 0) (by simpa [flatF] using HOwn.out) HF.out.s1 HF.out.s2 HF.out.s3 HS.out.1 HS.out.2.1 HS.out.2.2)).mono ?_; rintro e w4 ⟨⟨x4, rfl, hx4⟩, hb4⟩
                 have y0 : w4.cell? ⟨w.heap.size, 0, none⟩ = some (.int .i64 at_) := (hb4.cell (p := ⟨_, _, none⟩) (by first | omega | (simp; omega))).trans (by first | assumption | go_cell)
                 have y1 : w4.cell? ⟨w.heap.size, 1, none⟩ = some (.string cres) := (hb4.cell (p := ⟨_, _, none⟩) (by first | omega | (simp; omega))).trans (by first | assumption | go_cell)
                 have y2 : w4.cell? ⟨w.heap.size, 2, none⟩ = some (.string cctx) := (hb4.cell (p := ⟨_, _, none⟩) (by first | omega | (simp; omega))).trans (by first | assumption | go_cell)
                 have y3 : w4.cell? ⟨w.heap.size, 3, none⟩ = some (.string corg) := (hb4.cell (p := ⟨_, _, none⟩) (by first | omega | (simp; omega))).trans (by first | assumption | go_cell)
                 have y4 : w4.cell? ⟨w.heap.size, 4, none⟩ = some (.bool inb) := (hb4.cell (p := ⟨_, _, none⟩) (by first | omega | (simp; omega))).trans (by first | assumption | go_cell)
                 have y5 : w4.cell? ⟨w.heap.size, 5, none⟩ = some (.int .i64 ccnt) := (hb4.cell (p := ⟨_, _, none⟩) (by first | omega | (simp; omega))).trans (by first | assumption | go_cell)
                 have y6 : w4.cell? ⟨w.heap.size, 6, none⟩ = some (.slice ca cn ccap) := (hb4.cell (p := ⟨_, _, none⟩) (by first | omega | (simp; omega))).trans (by first | assumption | go_cell)
                 have x0 : w4.cell? ⟨w.heap.size + 1, 0, none⟩ = some (.string res) := (hb4.cell (p := ⟨_, _, none⟩) (by first | omega | (simp; omega))).trans (by first | assumption | go_cell)
                 have x1 : w4.cell? ⟨w.heap.size + 1, 1, none⟩ = some (.string org) := (hb4.cell (p := ⟨_, _, none⟩) (by first | omega | (simp; omega))).trans (by first | assumption | go_cell)
                 have x2 : w4.cell? ⟨w.heap.size + 1, 2, none⟩ = some (.bool thr) := (hb4.cell (p := ⟨_, _, none⟩) (by first | omega | (simp; omega))).trans (by first | assumption | go_cell)
                 have x3 : w4.cell? ⟨w.heap.size + 1, 3, none⟩ = some (.int .i64 cnt) := (hb4.cell (p := ⟨_, _, none⟩) (by first | omega | (simp; omega))).trans (by first | assumption | go_cell)
                 have x4 : w4.cell? ⟨w.heap.size + 1, 4, none⟩ = some (.int .u8 strat) := (hb4.cell (p := ⟨_, _, none⟩) (by first | omega | (simp; omega))).trans (by first | assumption | go_cell)
                 have x5 : w4.cell? ⟨w.heap.size + 1, 5, none⟩ = some (.string ref) := (hb4.cell (p := ⟨_, _, none⟩) (by first | omega | (simp; omega))).trans (by first | assumption | go_cell)
                 have x6 : w4.cell? ⟨w.heap.size + 1, 6, none⟩ = some (.int .u8 shape) := (hb4.cell (p := ⟨_, _, none⟩) (by first | omega | (simp; omega))).trans (by first | assumption | go_cell)
                 have x7 : w4.cell? ⟨w.heap.size + 1, 7, none⟩ = some (.int .i64 warm) := (hb4.cell (p := ⟨_, _, none⟩) (by first | omega | (simp; omega))).trans (by first | assumption | go_cell)
                 have x8 : w4.cell? ⟨w.heap.size + 1, 8, none⟩ = some (.int .i64 queue) := (hb4.cell (p := ⟨_, _, none⟩) (by first | omega | (simp; omega))).trans (by first | assumption | go_cell)
                 have x9 : w4.cell? ⟨w.heap.size + 1, 9, none⟩ = some (.bool clus) := (hb4.cell (p := ⟨_, _, none⟩) (by first | omega | (simp; omega))).trans (by first | assumption | go_cell)
                 have x10 : w4.cell? ⟨w.heap.size + 1, 10, none⟩ = some (.int .i64 id_) := (hb4.cell (p := ⟨_, _, none⟩) (by first | omega | (simp; omega))).trans (by first | assumption | go_cell)
                 have x11 : w4.cell? ⟨w.heap.size + 1, 11, none⟩ = some (.bool fall) := (hb4.cell (p := ⟨_, _, none⟩) (by first | omega | (simp; omega))).trans (by first | assumption | go_cell)
                 have kb : Below w1.heap.size w1 w4 := HBA.out.trans (hb4.mono HBA.out.size)
                 have HX4 := hid hx4
                 clear hx4 hb4)
              | fail)
          all_goals
            have HXF := HX4.out
            rw [HMA.out] at HXF
            have HAP := hid (ap_of HXF kb)
            clear HXF
            go_wp2_with fail
            go_meet
            exact HAP.out)
      · obtain ⟨g, q, rfl, hg, hcf⟩ := (HF.out.below HB1.out).at_ hn0
        have HNW : Hid (∀ j u, (flatF n L)[j]? = some u → (w1.alloc (.cells #[.string res, .string org, .bool thr, .int .i64 cnt, .int .u8 strat, .string ref, .int .u8 shape, .int .i64 warm, .int .i64 queue, .bool clus, .int .i64 id_, .bool fall] 25)).drew.cell? ⟨g, q + j, none⟩ = some u) := hid (fun j u hj => by
          obtain ⟨i, k, h1, h2, h3⟩ := flatF_cut n L j u hj
          rw [h2, ← Nat.add_assoc]
          exact (HBA.out.cell (p := ⟨g, q + i * 12 + k, none⟩) hg).trans (hcf i h1 k u h3))
        clear hcf
        go_region_held3 (fun w' => w'.cell? ⟨w.heap.size, 0, none⟩ = some (.int .i64 at_) ∧ w'.cell? ⟨w.heap.size, 1, none⟩ = some (.string cres) ∧ w'.cell? ⟨w.heap.size, 2, none⟩ = some (.string cctx) ∧ w'.cell? ⟨w.heap.size, 3, none⟩ = some (.string corg) ∧ w'.cell? ⟨w.heap.size, 4, none⟩ = some (.bool inb) ∧ w'.cell? ⟨w.heap.size, 5, none⟩ = some (.int .i64 ccnt) ∧ w'.cell? ⟨w.heap.size, 6, none⟩ = some (.slice ca cn ccap) ∧ w'.cell? ⟨w.heap.size + 1, 0, none⟩ = some (.string res) ∧ w'.cell? ⟨w.heap.size + 1, 1, none⟩ = some (.string org) ∧ w'.cell? ⟨w.heap.size + 1, 2, none⟩ = some (.bool thr) ∧ w'.cell? ⟨w.heap.size + 1, 3, none⟩ = some (.int .i64 cnt) ∧ w'.cell? ⟨w.heap.size + 1, 4, none⟩ = some (.int .u8 strat) ∧ w'.cell? ⟨w.heap.size + 1, 5, none⟩ = some (.string ref) ∧ w'.cell? ⟨w.heap.size + 1, 6, none⟩ = some (.int .u8 shape) ∧ w'.cell? ⟨w.heap.size + 1, 7, none⟩ = some (.int .i64 warm) ∧ w'.cell? ⟨w.heap.size + 1, 8, none⟩ = some (.int .i64 queue) ∧ w'.cell? ⟨w.heap.size + 1, 9, none⟩ = some (.bool clus) ∧ w'.cell? ⟨w.heap.size + 1, 10, none⟩ = some (.int .i64 id_) ∧ w'.cell? ⟨w.heap.size + 1, 11, none⟩ = some (.bool fall)) (first | assumption | go_keep)
          (first
            | (go_at_call 16; refine (Mine_any' (some ⟨g1, 0, none⟩) (n + 1) c1 (RejK.ahead L F0) C0 _ _ HCV.out (by omega) (flows_ahead HOwn3.out HF.out.s1 HF.out.s2 HF.out.s3 HS.out.1 HS.out.2.1 HS.out.2.2)).mono ?_; rintro e w4 ⟨⟨x4, rfl, hx4⟩, hb4⟩
               have y0 : w4.cell? ⟨w.heap.size, 0, none⟩ = some (.int .i64 at_) := (hb4.cell (p := ⟨_, _, none⟩) (by have := kb.size; dsimp only; omega)).trans (by assumption)
               have y1 : w4.cell? ⟨w.heap.size, 1, none⟩ = some (.string cres) := (hb4.cell (p := ⟨_, _, none⟩) (by have := kb.size; dsimp only; omega)).trans (by assumption)
               have y2 : w4.cell? ⟨w.heap.size, 2, none⟩ = some (.string cctx) := (hb4.cell (p := ⟨_, _, none⟩) (by have := kb.size; dsimp only; omega)).trans (by assumption)
               have y3 : w4.cell? ⟨w.heap.size, 3, none⟩ = some (.string corg) := (hb4.cell (p := ⟨_, _, none⟩) (by have := kb.size; dsimp only; omega)).trans (by assumption)
               have y4 : w4.cell? ⟨w.heap.size, 4, none⟩ = some (.bool inb) := (hb4.cell (p := ⟨_, _, none⟩) (by have := kb.size; dsimp only; omega)).trans (by assumption)
               have y5 : w4.cell? ⟨w.heap.size, 5, none⟩ = some (.int .i64 ccnt) := (hb4.cell (p := ⟨_, _, none⟩) (by have := kb.size; dsimp only; omega)).trans (by assumption)
               have y6 : w4.cell? ⟨w.heap.size, 6, none⟩ = some (.slice ca cn ccap) := (hb4.cell (p := ⟨_, _, none⟩) (by have := kb.size; dsimp only; omega)).trans (by assumption)
               have x0 : w4.cell? ⟨w.heap.size + 1, 0, none⟩ = some (.string res) := (hb4.cell (p := ⟨_, _, none⟩) (by have := kb.size; dsimp only; omega)).trans (by assumption)
               have x1 : w4.cell? ⟨w.heap.size + 1, 1, none⟩ = some (.string org) := (hb4.cell (p := ⟨_, _, none⟩) (by have := kb.size; dsimp only; omega)).trans (by assumption)
               have x2 : w4.cell? ⟨w.heap.size + 1, 2, none⟩ = some (.bool thr) := (hb4.cell (p := ⟨_, _, none⟩) (by have := kb.size; dsimp only; omega)).trans (by assumption)
               have x3 : w4.cell? ⟨w.heap.size + 1, 3, none⟩ = some (.int .i64 cnt) := (hb4.cell (p := ⟨_, _, none⟩) (by have := kb.size; dsimp only; omega)).trans (by assumption)
               have x4 : w4.cell? ⟨w.heap.size + 1, 4, none⟩ = some (.int .u8 strat) := (hb4.cell (p := ⟨_, _, none⟩) (by have := kb.size; dsimp only; omega)).trans (by assumption)
               have x5 : w4.cell? ⟨w.heap.size + 1, 5, none⟩ = some (.string ref) := (hb4.cell (p := ⟨_, _, none⟩) (by have := kb.size; dsimp only; omega)).trans (by assumption)
               have x6 : w4.cell? ⟨w.heap.size + 1, 6, none⟩ = some (.int .u8 shape) := (hb4.cell (p := ⟨_, _, none⟩) (by have := kb.size; dsimp only; omega)).trans (by assumption)
               have x7 : w4.cell? ⟨w.heap.size + 1, 7, none⟩ = some (.int .i64 warm) := (hb4.cell (p := ⟨_, _, none⟩) (by have := kb.size; dsimp only; omega)).trans (by assumption)
               have x8 : w4.cell? ⟨w.heap.size + 1, 8, none⟩ = some (.int .i64 queue) := (hb4.cell (p := ⟨_, _, none⟩) (by have := kb.size; dsimp only; omega)).trans (by assumption)
               have x9 : w4.cell? ⟨w.heap.size + 1, 9, none⟩ = some (.bool clus) := (hb4.cell (p := ⟨_, _, none⟩) (by have := kb.size; dsimp only; omega)).trans (by assumption)
               have x10 : w4.cell? ⟨w.heap.size + 1, 10, none⟩ = some (.int .i64 id_) := (hb4.cell (p := ⟨_, _, none⟩) (by have := kb.size; dsimp only; omega)).trans (by assumption)
               have x11 : w4.cell? ⟨w.heap.size + 1, 11, none⟩ = some (.bool fall) := (hb4.cell (p := ⟨_, _, none⟩) (by have := kb.size; dsimp only; omega)).trans (by assumption)
               have kb : Below w1.heap.size w1 w4 := kb.trans (hb4.mono kb.size)
               have HX4 := hid hx4
               clear hx4 hb4)
            | (refine step_append_lies _ rfl _ _ 40 rfl w1.heap.size 25 i0 (.agg #[.string ⟨#[]⟩, .string ⟨#[]⟩, .bool false, .int .i64 0, .int .u8 0, .string ⟨#[]⟩, .int .u8 0, .int .i64 0, .int .i64 0, .bool false, .int .i64 0, .bool false]) 12 120 Try.underlying40 hi hz0 hz1 hz2 rfl (by decide) (.slice (some ⟨w1.heap.size, 0, none⟩) 1 1) 1 (fv F0).toList rfl HOwn.out ⟨g, q, none⟩ n cap (flatF n L) rfl (flatF_len n L) (fun j u hu => by (rw [Go.WideShapes.add_plain]; exact HNW.out j u hu)) (flatF_one n L) hn0 (by unfold maxLen; omega) (by omega) (by exact HBA.out.size) _ rfl ?_; intro g1 c1 w3 hown hgr hat hlt3; rw [Nat.add_comm 1 n] at hown ⊢; have hb3 : Below w1.heap.size w1 w3 := HBA.out.grown hgr HBA.out.size (own_up (Nat.le_refl _))
               have y0 : w3.cell? ⟨w.heap.size, 0, none⟩ = some (.int .i64 at_) := (hb3.cell (p := ⟨_, _, none⟩) (by dsimp only; omega)).trans (by assumption)
               have y1 : w3.cell? ⟨w.heap.size, 1, none⟩ = some (.string cres) := (hb3.cell (p := ⟨_, _, none⟩) (by dsimp only; omega)).trans (by assumption)
               have y2 : w3.cell? ⟨w.heap.size, 2, none⟩ = some (.string cctx) := (hb3.cell (p := ⟨_, _, none⟩) (by dsimp only; omega)).trans (by assumption)
               have y3 : w3.cell? ⟨w.heap.size, 3, none⟩ = some (.string corg) := (hb3.cell (p := ⟨_, _, none⟩) (by dsimp only; omega)).trans (by assumption)
               have y4 : w3.cell? ⟨w.heap.size, 4, none⟩ = some (.bool inb) := (hb3.cell (p := ⟨_, _, none⟩) (by dsimp only; omega)).trans (by assumption)
               have y5 : w3.cell? ⟨w.heap.size, 5, none⟩ = some (.int .i64 ccnt) := (hb3.cell (p := ⟨_, _, none⟩) (by dsimp only; omega)).trans (by assumption)
               have y6 : w3.cell? ⟨w.heap.size, 6, none⟩ = some (.slice ca cn ccap) := (hb3.cell (p := ⟨_, _, none⟩) (by dsimp only; omega)).trans (by assumption)
               have x0 : w3.cell? ⟨w.heap.size + 1, 0, none⟩ = some (.string res) := (hb3.cell (p := ⟨_, _, none⟩) (by dsimp only; omega)).trans (by assumption)
               have x1 : w3.cell? ⟨w.heap.size + 1, 1, none⟩ = some (.string org) := (hb3.cell (p := ⟨_, _, none⟩) (by dsimp only; omega)).trans (by assumption)
               have x2 : w3.cell? ⟨w.heap.size + 1, 2, none⟩ = some (.bool thr) := (hb3.cell (p := ⟨_, _, none⟩) (by dsimp only; omega)).trans (by assumption)
               have x3 : w3.cell? ⟨w.heap.size + 1, 3, none⟩ = some (.int .i64 cnt) := (hb3.cell (p := ⟨_, _, none⟩) (by dsimp only; omega)).trans (by assumption)
               have x4 : w3.cell? ⟨w.heap.size + 1, 4, none⟩ = some (.int .u8 strat) := (hb3.cell (p := ⟨_, _, none⟩) (by dsimp only; omega)).trans (by assumption)
               have x5 : w3.cell? ⟨w.heap.size + 1, 5, none⟩ = some (.string ref) := (hb3.cell (p := ⟨_, _, none⟩) (by dsimp only; omega)).trans (by assumption)
               have x6 : w3.cell? ⟨w.heap.size + 1, 6, none⟩ = some (.int .u8 shape) := (hb3.cell (p := ⟨_, _, none⟩) (by dsimp only; omega)).trans (by assumption)
               have x7 : w3.cell? ⟨w.heap.size + 1, 7, none⟩ = some (.int .i64 warm) := (hb3.cell (p := ⟨_, _, none⟩) (by dsimp only; omega)).trans (by assumption)
               have x8 : w3.cell? ⟨w.heap.size + 1, 8, none⟩ = some (.int .i64 queue) := (hb3.cell (p := ⟨_, _, none⟩) (by dsimp only; omega)).trans (by assumption)
               have x9 : w3.cell? ⟨w.heap.size + 1, 9, none⟩ = some (.bool clus) := (hb3.cell (p := ⟨_, _, none⟩) (by dsimp only; omega)).trans (by assumption)
               have x10 : w3.cell? ⟨w.heap.size + 1, 10, none⟩ = some (.int .i64 id_) := (hb3.cell (p := ⟨_, _, none⟩) (by dsimp only; omega)).trans (by assumption)
               have x11 : w3.cell? ⟨w.heap.size + 1, 11, none⟩ = some (.bool fall) := (hb3.cell (p := ⟨_, _, none⟩) (by dsimp only; omega)).trans (by assumption)
               have kb : Below w1.heap.size w1 w3 := hb3
               have HOwn3 := hid hown
               clear hown hgr hat hb3))
        all_goals
          have HXF := HX4.out
          rw [HMA.out] at HXF
          have HAP := hid (ap_of HXF kb)
          clear HXF
          go_wp2_with fail
          go_meet
          exact HAP.out
    case rest =>
      obtain ⟨⟨va2, m2, vc2, rfl, hm2, hg2⟩, hb2⟩ := hcut
      have HG2 := hid hg2
      have HB2 := hid hb2
      have HIn : Hid (∀ i, i < (mines n L C0 n).length → (mines n L C0 n).getD i 0 < n) := hid (fun i hi => by
        have hmem : (mines n L C0 n).getD i 0 ∈ mines n L C0 n := by
          rw [List.getD_eq_getElem?_getD, List.getElem?_eq_getElem hi]
          exact List.getElem_mem hi
        unfold mines at hmem
        exact List.mem_range.1 (List.mem_filter.1 hmem).1)
      rw [List.length_map] at hm2
      subst hm2
      have HV1 := hid (fun h0 => (vals_at HX1.out h0).2)
      have hlen := mines_len n L C0 n
      have HGet : Hid (∀ i, ((mines n L C0 n).map (· + 1)).length = (mines n L C0 n).length ∧ (i < (mines n L C0 n).length → ((mines n L C0 n).map (· + 1)).getD i 0 = (mines n L C0 n).getD i 0 + 1)) := hid (fun i => ⟨by simp, fun hi => by simp [List.getD, hi]⟩)
      generalize (mines n L C0 n).map (· + 1) = l2 at *
      generalize mines n L C0 n = l at *
      generalize hm : l.length = m at *
      have hmn : m ≤ n := hlen
      have HL2 := hid ((HGet.out 0).1)
      clear hm hlen hg2 hb2 kb HMA HBA HOwn HX1 i0 hi hz0 hz1 hz2
      go_wp2_with fail
      go_loopw [9] (fun i wr => ∃ k : Nat, k ≤ m ∧ i = .int .i64 k ∧ Below wc.heap.size wc wr) (fun i _ => m - (intOf i).toNat)
      case atStart => exact ⟨0, Nat.zero_le _, rfl, Below.refl _ _⟩
      case round =>
        obtain ⟨k, hk, rfl, hb⟩ := hrel
        have HB := hid hb
        clear hb
        by_cases hlt : k < m
        · obtain ⟨g1, rfl, hg1, hc1⟩ := HV1.out (by omega)
          obtain ⟨g2, rfl, hg2, hc2⟩ := HG2.out (by rw [HL2.out]; omega)
          have hx := HIn.out k hlt
          have hk2 := hc2 k (by rw [HL2.out]; exact hlt)
          rw [(HGet.out k).2 hlt] at hk2
          have hk1 := hc1 k hlt
          have c1 : wr.cell? ⟨g1, k, none⟩ = some (.int .i64 (l.getD k 0 : Nat)) := (HB.out.cell (p := ⟨g1, k, none⟩) (Nat.lt_of_lt_of_le hg1 HB2.out.size)).trans ((HB2.out.cell (p := ⟨g1, k, none⟩) hg1).trans hk1)
          have c2 : wr.cell? ⟨g2, k, none⟩ = some (.int .i64 (l.getD k 0 + 1 : Nat)) := (HB.out.cell (p := ⟨g2, k, none⟩) hg2).trans hk2
          clear hc1 hc2 hk1 hk2
          generalize l.getD k 0 = x at *
          obtain ⟨y, hy⟩ : ∃ y, x + 1 = y := ⟨_, rfl⟩
          rw [hy] at c2
          obtain ⟨hw1, hw2⟩ := wrap_id (z := (x : Int) + 1) (by omega) (by omega)
          have hxy : (x : Int) + 1 = (y : Int) := by rw [← hy]; rfl
          rw [hxy] at hw1 hw2
          have e7 : wrap64 ((x : Int) + 1) = (y : Int) := by rw [hxy]; exact hw1
          have e8 : IntKind.i64.wrap ((x : Int) + 1) = (y : Int) := by rw [hxy]; exact hw2
          clear hw1 hw2 hxy hx
          have hki : (k : Int) < m := by omega
          have hki2 : decide ((k : Int) < m) = true := by simp; omega
          clear hy
          go_wp2_with fail
          go_quiet (fail)
          have HBq := hid (HB.out.trans (show Below wc.heap.size wr (wr.drewN nq) from ⟨rfl, rfl, rfl, Nat.le_refl _, fun _ _ => rfl⟩))
          clear c1 c2 HB
          generalize wr.drewN nq = wd at *
          go_wp2_with fail
          go_roundw
          case rel => exact ⟨k + 1, by omega, by go_num, HBq.out⟩
          case measure => simp [intOf]; omega
        · have hd : decide ((k : Int) < m) = false := by simp; omega
          have hd2 : decide (k < m) = false := by simp; omega
          have HBf := hid (HB1.out.trans ((HB2.out.trans (HB.out.mono HB2.out.size)).mono HB1.out.size))
          clear HB
          go_wp2_with fail
          refine (live_any wr).mono ?_
          rintro e w5 ⟨rfl, hb5⟩
          have HB5 := hid (bl HBf.out hb5)
          clear hb5
          go_wp2_with fail
          go_ret
          exact ⟨rfl, HB5.out⟩

theorem main {H : Type} {enc : TypeId × Value → H} {W : World} {base : Nat} {spare : Nat → Bool} {held : Bool} {d0 : DataW H} {p0 : List MemPlace} (a0 : Option Addr) (len0 cap0 : Nat)
    (h0 : DataW.Trod enc Try.prog W base spare held 40 (.slice a0 len0 cap0) d0 p0) (hz : ∀ m ∈ d0.weights Try.prog 40, m ≤ reachBytes) (C : Cal) (F : Flow) (f1 : F.res.size ≤ maxLen) (f2 : F.org.size ≤ maxLen) (f3 : F.ref.size ≤ maxLen) (f4 : (Lit.int .i64 F.cnt).wf = true) :
    Calls Try.prog 7 #[.slice a0 len0 cap0, .agg (cv C), .agg (fv F)] W fun e w' => e = .returned (.bool true) ∧ Below W.heap.size W w' := by
  obtain ⟨hn, L, hL⟩ := RejX.flows_of h0
  obtain ⟨fuel, hf⟩ := h0
  have hr := Room.rows_room Try.underlying40 (by simpa [Value.cells] using hf) hz
  rw [show Try.prog.bytesOf 25 = 120 by kernel_rfl] at hr
  unfold reachBytes at hr
  obtain ⟨res, org, thr, cnt, strat, ref, shape, warm, queue, clus, id_, fall⟩ := F
  obtain ⟨at_, cres, cctx, corg, inb, ccnt, ca, cn, ccap⟩ := C
  exact apart_core a0 len0 cap0 L res org thr cnt strat ref shape warm queue clus id_ fall at_ cres cctx corg inb ccnt ca cn ccap _ _ (hid ⟨rfl, rfl⟩) W (by omega) (hid hL) (hid ⟨f1, f2, f3⟩)

end Go.Proofs.Ytakmfcnmcjbbgaa.RejL
