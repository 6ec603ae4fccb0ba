/- StreamOrder: what the law itself keeps. -/
import Derived.Test.YtgkfiolgipgbkaaStmN
import Derived.BigQuiet
namespace Go.Proofs.Ytgkfiolgipgbkaa.StmP
open Go.ChangeShapes Go.WideShapes Go.ChangeAt Go.RowKit Base Wri Map FrmP FrmA StmA StmB StmC StmD StmE StmF VaiA StmG StmH StmI StmJ StmK StmL StmM StmN
set_option linter.unusedVariables false
set_option linter.unusedSimpArgs false

set_option maxRecDepth 20000 in
set_option maxHeartbeats 1000000 in
theorem same_bytes (a a' : Option Addr) (cap cap' : Nat) (s : Bs) (w : World) (hn : s.length ≤ 9223372036854775807) (H : Hid (BAt w w.heap.size a s)) (H' : Hid (BAt w w.heap.size a' s)) :
    Calls Try.prog 18 #[.slice a s.length cap, .slice a' s.length cap'] w fun e w' => e = .returned (.bool true) ∧ ∃ m, w.drewN m = w' := by
  obtain ⟨n, hln⟩ : ∃ n, s.length = n := ⟨_, rfl⟩
  have HL := hid hln
  rw [hln] at hn ⊢
  clear hln
  go_enter Try.func18, Try.ntmps18
  go_wp2
  go_loopw [5] (fun i wr => ∃ k m : Nat, k ≤ n ∧ i = .int .i64 k ∧ w.drewN m = wr) (fun i _ => n - (intOf i).toNat)
  case atStart => exact ⟨0, 0, Nat.zero_le _, rfl, rfl⟩
  case round =>
    obtain ⟨k, m, hk, rfl, hwr⟩ := hrel
    have HW := hid hwr
    by_cases hlt : k < n
    · obtain ⟨g, o, rfl, _, hc⟩ := H.out (by rw [HL.out]; omega)
      obtain ⟨g', o', rfl, _, hc'⟩ := H'.out (by rw [HL.out]; omega)
      obtain ⟨x, hx⟩ : ∃ x, s[k]? = some x := ⟨s[k]'(by rw [HL.out]; exact hlt), List.getElem?_eq_getElem _⟩
      have h1 : wr.cell? ⟨g, o + k, none⟩ = some (.int .u8 (x.toNat : Int)) := by rw [← hwr]; exact hc k x hx
      have h2 : wr.cell? ⟨g', o' + k, none⟩ = some (.int .u8 (x.toNat : Int)) := by rw [← hwr]; exact hc' k x hx
      clear hwr hc hc' hx
      generalize (x.toNat : Int) = y at *
      go_wp2_with fail
      go_quiet (fail)
      go_wp2_with fail
      go_roundw
      case rel => exact ⟨k + 1, m + _, by omega, by go_num, by rw [← HW.out, World.drewN_drewN]⟩
      case measure => simp [intOf]; omega
    · go_wp2
      go_ret
      exact ⟨rfl, m, hwr⟩

/-- what the law keeps: what was written, read and moved of each end -/
structure LawM (w wr : World) (B bw br bm : Nat) (own : Nat → Nat) (W R : Nat → Bs) (M : Nat → Nat) (xw xr : Nat → Value) : Prop where
  bel : Below B w wr
  base : ∀ g, g < B → own g = FT
  hw : wr.heap[bw]? = some (.cells #[xw 0, xw 1] 41 (0, 0))
  hr : wr.heap[br]? = some (.cells #[xr 0, xr 1] 41 (0, 0))
  hm : wr.heap[bm]? = some (.cells #[.int .i64 (M 0 : Nat), .int .i64 (M 1 : Nat)] 42 (0, 0))
  qw : ∀ e, e < 2 → Que wr B (xw e) (W e)
  qr : ∀ e, e < 2 → Que wr B (xr e) (R e)
  tw : own bw = FT + 5
  tr : own br = FT + 6
  tm : own bm = FT + 7
  tqw : ∀ e, e < 2 → ∀ g, (xw e).ownBlock = some g → own g = FT + 1 + e
  tqr : ∀ e, e < 2 → ∀ g, (xr e).ownBlock = some g → own g = FT + 3 + e
  lo : B ≤ wr.heap.size

theorem ft_no (n : Nat) : ¬ NetR (FT + n) := by unfold NetR; show ¬ 10000000000000 + n < 10000000000000; omega

/-- blocks of the law's tags stay, and keep their tags -/
theorem LawM.keep {w wr wr' : World} {B bw br bm : Nat} {own own' : Nat → Nat} {W R : Nat → Bs} {M : Nat → Nat} {xw xr : Nat → Value} (h : LawM w wr B bw br bm own W R M xw xr) (hb : Below B w wr') (hs : wr.heap.size ≤ wr'.heap.size)
    (hk : ∀ g n, g < wr.heap.size → own g = FT + n → wr'.heap[g]? = wr.heap[g]? ∧ own' g = own g) : LawM w wr' B bw br bm own' W R M xw xr := by
  have k1 := hk bw 5 (Array.getElem?_eq_some_iff.1 h.hw).1 h.tw
  have k2 := hk br 6 (Array.getElem?_eq_some_iff.1 h.hr).1 h.tr
  have k3 := hk bm 7 (Array.getElem?_eq_some_iff.1 h.hm).1 h.tm
  have k4 : ∀ e, e < 2 → ∀ g, (xw e).ownBlock = some g → wr'.heap[g]? = wr.heap[g]? ∧ own' g = own g := fun e he g hg => hk g (1 + e) ((h.qw e he).lt g hg).2 (by rw [h.tqw e he g hg, Nat.add_assoc])
  have k5 : ∀ e, e < 2 → ∀ g, (xr e).ownBlock = some g → wr'.heap[g]? = wr.heap[g]? ∧ own' g = own g := fun e he g hg => hk g (3 + e) ((h.qr e he).lt g hg).2 (by rw [h.tqr e he g hg, Nat.add_assoc])
  exact ⟨hb, fun g hg => by rw [(hk g 0 (Nat.lt_of_lt_of_le hg h.lo) (h.base g hg)).2, h.base g hg], k1.1.trans h.hw, k2.1.trans h.hr, k3.1.trans h.hm, fun e he => (h.qw e he).keep (fun g hg => (k4 e he g hg).1), fun e he => (h.qr e he).keep (fun g hg => (k5 e he g hg).1),
    by rw [k1.2, h.tw], by rw [k2.2, h.tr], by rw [k3.2, h.tm], fun e he g hg => by rw [(k4 e he g hg).2, h.tqw e he g hg], fun e he g hg => by rw [(k5 e he g hg).2, h.tqr e he g hg], Nat.le_trans h.lo hs⟩

theorem LawM.net {w wr wr' : World} {B bw br bm : Nat} {own own' : Nat → Nat} {W R : Nat → Bs} {M : Nat → Nat} {xw xr : Nat → Value} (h : LawM w wr B bw br bm own W R M xw xr) (hs : Stp wr wr' own own' NetR) : LawM w wr' B bw br bm own' W R M xw xr := by
  refine h.keep ⟨hs.wr.os.trans h.bel.os, hs.wr.tape.trans h.bel.tape, hs.wr.output.trans h.bel.output, Nat.le_trans h.bel.size hs.wr.size, fun g hg => ?_⟩ hs.wr.size (fun g n hg ho => hs.keep hg (by rw [ho]; exact ft_no n))
  exact (hs.wr.block g (Nat.lt_of_lt_of_le hg h.lo) (by rw [h.base g hg]; exact ft_no 0)).trans (h.bel.block g hg)
theorem LawM.alloc {w wr wr' : World} {B bw br bm : Nat} {own : Nat → Nat} {W R : Nat → Bs} {M : Nat → Nat} {xw xr : Nat → Value} (h : LawM w wr B bw br bm own W R M xw xr) (hb : Below wr.heap.size wr wr') (t : Nat) : LawM w wr' B bw br bm (later own wr.heap.size t) W R M xw xr :=
  h.keep (h.bel.trans (hb.mono h.lo)) hb.size (fun g n hg ho => ⟨hb.block g hg, later_old hg⟩)
theorem LawM.drewN {w wr : World} {B bw br bm : Nat} {own : Nat → Nat} {W R : Nat → Bs} {M : Nat → Nat} {xw xr : Nat → Value} (h : LawM w wr B bw br bm own W R M xw xr) (m : Nat) : LawM w (wr.drewN m) B bw br bm own W R M xw xr :=
  h.keep ⟨h.bel.os, h.bel.tape, h.bel.output, h.bel.size, h.bel.block⟩ (Nat.le_refl _) (fun g n hg ho => ⟨rfl, rfl⟩)
theorem LawM.mine {w wr : World} {B bw br bm : Nat} {own : Nat → Nat} {W R : Nat → Bs} {M : Nat → Nat} {xw xr : Nat → Value} {v : Value} (h : LawM w wr B bw br bm own W R M xw xr) (hv : ∀ g, v.ownBlock = some g → own g = 4) : LawM w wr B bw br bm (mine own v) W R M xw xr :=
  h.keep h.bel (Nat.le_refl _) (fun g n hg ho => ⟨rfl, if_neg (fun e => by have h1 := hv g e; have h2 : own g = 10000000000000 + n := ho; omega)⟩)

def upd {α : Type} (f : Nat → α) (e : Nat) (x : α) : Nat → α := fun i => if i = e then x else f i
theorem upd_same {α : Type} (f : Nat → α) (e : Nat) (x : α) : upd f e x e = x := if_pos rfl
theorem upd_other {α : Type} {f : Nat → α} {e i : Nat} {x : α} (h : i ≠ e) : upd f e x i = f i := if_neg h

/-- more is kept of what an end wrote -/
theorem LawM.appW {w wr w1 : World} {B bw br bm e : Nat} {own : Nat → Nat} {W R : Nat → Bs} {M : Nat → Nat} {xw xr : Nat → Value} {v : Value} {s : Bs} (h : LawM w wr B bw br bm own W R M xw xr) (he : e < 2) (hq : Que w1 B v s) (hg : wr.grownBy w1 (xw e).ownBlock) (hat : v.ownBlock = (xw e).ownBlock ∨ v.ownBlock = some wr.heap.size) :
    LawM w (w1.setCell ⟨bw, e, none⟩ v) B bw br bm (later own wr.heap.size (FT + 1 + e)) (upd W e s) R M (upd xw e v) xr ∧ Stp wr (w1.setCell ⟨bw, e, none⟩ v) own (later own wr.heap.size (FT + 1 + e)) (fun t => FT < t) := by
  have hx : ∀ g, (xw e).ownBlock = some g → B ≤ g ∧ g < wr.heap.size ∧ own g = FT + 1 + e := fun g e2 => ⟨((h.qw e he).lt g e2).1, ((h.qw e he).lt g e2).2, h.tqw e he g e2⟩
  have hbw := (Array.getElem?_eq_some_iff.1 h.hw).1
  have hBw : B ≤ bw := Decidable.byContradiction fun e2 => by have h1 := h.base bw (by omega); rw [h.tw] at h1; omega
  have hk : ∀ g, g < wr.heap.size → g ≠ bw → (xw e).ownBlock ≠ some g → (w1.setCell ⟨bw, e, none⟩ v).heap[g]? = wr.heap[g]? := fun g h1 h2 h3 => (Below.heap_setCell _ _ _ _ h2).trans (hg.block g h1 (fun e2 => h3 e2.symm))
  have hsz : (w1.setCell ⟨bw, e, none⟩ v).heap.size = w1.heap.size := by simp
  have hs1 := hg.size
  have hblk : (w1.setCell ⟨bw, e, none⟩ v).heap[bw]? = some (.cells #[upd xw e v 0, upd xw e v 1] 41 (0, 0)) := by
    have h1 := blk_set (i := e) ((hg.block bw hbw (fun e2 => by have := (hx bw e2.symm).2.2; rw [h.tw] at this; omega)).trans h.hw) v
    rw [h1]
    rcases (show e = 0 ∨ e = 1 by omega) with rfl | rfl <;> simp [upd]
  refine ⟨⟨?_, fun g hg2 => by rw [later_old (Nat.lt_of_lt_of_le hg2 h.lo), h.base g hg2], hblk, ?_, ?_, fun i hi => ?_, fun i hi => ?_, by rw [later_old hbw, h.tw], by rw [later_old (Array.getElem?_eq_some_iff.1 h.hr).1, h.tr], by rw [later_old (Array.getElem?_eq_some_iff.1 h.hm).1, h.tm], fun i hi g e2 => ?_, fun i hi g e2 => by rw [later_old ((h.qr i hi).lt g e2).2, h.tqr i hi g e2], by rw [hsz]; exact Nat.le_trans h.lo hs1⟩, ⟨⟨hg.os, hg.tape, hg.output, by rw [hsz]; exact hs1, fun g h1 h2 => ?_⟩, fun g hg2 => later_old hg2⟩⟩
  · exact (Below.grown h.bel hg h.lo (fun g e2 => (hx g e2).1)).setCell (p := ⟨bw, e, none⟩) hBw v
  · exact (hk br (Array.getElem?_eq_some_iff.1 h.hr).1 (fun e2 => by have h1 := h.tr; rw [e2, h.tw] at h1; omega) (fun e2 => by have h1 := (hx br e2).2.2; rw [h.tr] at h1; omega)).trans h.hr
  · exact (hk bm (Array.getElem?_eq_some_iff.1 h.hm).1 (fun e2 => by have h1 := h.tm; rw [e2, h.tw] at h1; omega) (fun e2 => by have h1 := (hx bm e2).2.2; rw [h.tm] at h1; omega)).trans h.hm
  · by_cases e3 : i = e
    · subst e3
      rw [upd_same, upd_same]
      refine hq.keep (fun g e2 => Below.heap_setCell _ _ _ _ (fun e4 => ?_))
      have e4 : g = bw := e4
      rcases hat with h1 | h1
      · rw [h1] at e2; have := (hx g e2).2.2; rw [e4, h.tw] at this; omega
      · rw [h1] at e2; cases e2; omega
    · rw [upd_other e3, upd_other e3]
      exact (h.qw i hi).keep (fun g e2 => hk g ((h.qw i hi).lt g e2).2 (fun e4 => by have h1 := h.tqw i hi g e2; rw [e4, h.tw] at h1; omega) (fun e4 => by have h1 := h.tqw i hi g e2; have h2 := (hx g e4).2.2; omega))
  · exact (h.qr i hi).keep (fun g e2 => hk g ((h.qr i hi).lt g e2).2 (fun e4 => by have h1 := h.tqr i hi g e2; rw [e4, h.tw] at h1; omega) (fun e4 => by have h1 := h.tqr i hi g e2; have h2 := (hx g e4).2.2; omega))
  · by_cases e3 : i = e
    · subst e3
      rw [upd_same] at e2
      rcases hat with h1 | h1
      · rw [h1] at e2; rw [later_old (hx g e2).2.1]; exact (hx g e2).2.2
      · rw [h1] at e2; cases e2; exact later_new (Nat.le_refl _)
    · rw [upd_other e3] at e2
      rw [later_old ((h.qw i hi).lt g e2).2, h.tqw i hi g e2]
  · exact hk g h1 (fun e2 => h2 (by rw [e2, h.tw]; omega)) (fun e2 => h2 (by have := (hx g e2).2.2; omega))

/-- the two lists change places: what is shown of the one holds of the other -/
theorem LawM.appR {w wr w1 : World} {B bw br bm e : Nat} {own : Nat → Nat} {W R : Nat → Bs} {M : Nat → Nat} {xw xr : Nat → Value} {v : Value} {s : Bs} (h : LawM w wr B bw br bm own W R M xw xr) (he : e < 2) (hq : Que w1 B v s) (hg : wr.grownBy w1 (xr e).ownBlock) (hat : v.ownBlock = (xr e).ownBlock ∨ v.ownBlock = some wr.heap.size) :
    LawM w (w1.setCell ⟨br, e, none⟩ v) B bw br bm (later own wr.heap.size (FT + 3 + e)) W (upd R e s) M xw (upd xr e v) ∧ Stp wr (w1.setCell ⟨br, e, none⟩ v) own (later own wr.heap.size (FT + 3 + e)) (fun t => FT < t) := by
  have hx : ∀ g, (xr e).ownBlock = some g → B ≤ g ∧ g < wr.heap.size ∧ own g = FT + 3 + e := fun g e2 => ⟨((h.qr e he).lt g e2).1, ((h.qr e he).lt g e2).2, h.tqr e he g e2⟩
  have hbr := (Array.getElem?_eq_some_iff.1 h.hr).1
  have hBr : B ≤ br := Decidable.byContradiction fun e2 => by have h1 := h.base br (by omega); rw [h.tr] at h1; omega
  have hk : ∀ g, g < wr.heap.size → g ≠ br → (xr e).ownBlock ≠ some g → (w1.setCell ⟨br, e, none⟩ v).heap[g]? = wr.heap[g]? := fun g h1 h2 h3 => (Below.heap_setCell _ _ _ _ h2).trans (hg.block g h1 (fun e2 => h3 e2.symm))
  have hsz : (w1.setCell ⟨br, e, none⟩ v).heap.size = w1.heap.size := by simp
  have hs1 := hg.size
  have hblk : (w1.setCell ⟨br, e, none⟩ v).heap[br]? = some (.cells #[upd xr e v 0, upd xr e v 1] 41 (0, 0)) := by
    have h1 := blk_set (i := e) ((hg.block br hbr (fun e2 => by have := (hx br e2.symm).2.2; rw [h.tr] at this; omega)).trans h.hr) v
    rw [h1]
    rcases (show e = 0 ∨ e = 1 by omega) with rfl | rfl <;> simp [upd]
  refine ⟨⟨?_, fun g hg2 => by rw [later_old (Nat.lt_of_lt_of_le hg2 h.lo), h.base g hg2], ?_, hblk, ?_, fun i hi => ?_, fun i hi => ?_, by rw [later_old (Array.getElem?_eq_some_iff.1 h.hw).1, h.tw], by rw [later_old hbr, h.tr], by rw [later_old (Array.getElem?_eq_some_iff.1 h.hm).1, h.tm], fun i hi g e2 => by rw [later_old ((h.qw i hi).lt g e2).2, h.tqw i hi g e2], fun i hi g e2 => ?_, by rw [hsz]; exact Nat.le_trans h.lo hs1⟩, ⟨⟨hg.os, hg.tape, hg.output, by rw [hsz]; exact hs1, fun g h1 h2 => ?_⟩, fun g hg2 => later_old hg2⟩⟩
  · exact (Below.grown h.bel hg h.lo (fun g e2 => (hx g e2).1)).setCell (p := ⟨br, e, none⟩) hBr v
  · exact (hk bw (Array.getElem?_eq_some_iff.1 h.hw).1 (fun e2 => by have h1 := h.tw; rw [e2, h.tr] at h1; omega) (fun e2 => by have h1 := (hx bw e2).2.2; rw [h.tw] at h1; omega)).trans h.hw
  · exact (hk bm (Array.getElem?_eq_some_iff.1 h.hm).1 (fun e2 => by have h1 := h.tm; rw [e2, h.tr] at h1; omega) (fun e2 => by have h1 := (hx bm e2).2.2; rw [h.tm] at h1; omega)).trans h.hm
  · exact (h.qw i hi).keep (fun g e2 => hk g ((h.qw i hi).lt g e2).2 (fun e4 => by have h1 := h.tqw i hi g e2; rw [e4, h.tr] at h1; omega) (fun e4 => by have h1 := h.tqw i hi g e2; have h2 := (hx g e4).2.2; omega))
  · by_cases e3 : i = e
    · subst e3
      rw [upd_same, upd_same]
      refine hq.keep (fun g e2 => Below.heap_setCell _ _ _ _ (fun e4 => ?_))
      have e4 : g = br := e4
      rcases hat with h1 | h1
      · rw [h1] at e2; have := (hx g e2).2.2; rw [e4, h.tr] at this; omega
      · rw [h1] at e2; cases e2; omega
    · rw [upd_other e3, upd_other e3]
      exact (h.qr i hi).keep (fun g e2 => hk g ((h.qr i hi).lt g e2).2 (fun e4 => by have h1 := h.tqr i hi g e2; rw [e4, h.tr] at h1; omega) (fun e4 => by have h1 := h.tqr i hi g e2; have h2 := (hx g e4).2.2; omega))
  · by_cases e3 : i = e
    · subst e3
      rw [upd_same] at e2
      rcases hat with h1 | h1
      · rw [h1] at e2; rw [later_old (hx g e2).2.1]; exact (hx g e2).2.2
      · rw [h1] at e2; cases e2; exact later_new (Nat.le_refl _)
    · rw [upd_other e3] at e2
      rw [later_old ((h.qr i hi).lt g e2).2, h.tqr i hi g e2]
  · exact hk g h1 (fun e2 => h2 (by rw [e2, h.tr]; omega)) (fun e2 => h2 (by have := (hx g e2).2.2; omega))

theorem LawM.setM {w wr : World} {B bw br bm e m : Nat} {own : Nat → Nat} {W R : Nat → Bs} {M : Nat → Nat} {xw xr : Nat → Value} (h : LawM w wr B bw br bm own W R M xw xr) (he : e < 2) :
    LawM w (wr.setCell ⟨bm, e, none⟩ (.int .i64 (m : Nat))) B bw br bm own W R (upd M e m) xw xr ∧ Stp wr (wr.setCell ⟨bm, e, none⟩ (.int .i64 (m : Nat))) own own (fun t => FT < t) := by
  have hBm : B ≤ bm := Decidable.byContradiction fun e2 => by have h1 := h.base bm (by omega); rw [h.tm] at h1; omega
  have hk : ∀ g, g ≠ bm → (wr.setCell ⟨bm, e, none⟩ (.int .i64 (m : Nat))).heap[g]? = wr.heap[g]? := fun g hg => Below.heap_setCell _ _ _ _ hg
  refine ⟨⟨h.bel.setCell (p := ⟨bm, e, none⟩) hBm _, h.base, (hk bw (fun e2 => by have h1 := h.tw; rw [e2, h.tm] at h1; omega)).trans h.hw, (hk br (fun e2 => by have h1 := h.tr; rw [e2, h.tm] at h1; omega)).trans h.hr, ?_,
    fun i hi => (h.qw i hi).keep (fun g e2 => hk g (fun e4 => by have h1 := h.tqw i hi g e2; rw [e4, h.tm] at h1; omega)), fun i hi => (h.qr i hi).keep (fun g e2 => hk g (fun e4 => by have h1 := h.tqr i hi g e2; rw [e4, h.tm] at h1; omega)), h.tw, h.tr, h.tm, h.tqw, h.tqr, by simpa using h.lo⟩, ?_⟩
  · rw [blk_set h.hm]
    rcases (show e = 0 ∨ e = 1 by omega) with rfl | rfl <;> simp [upd]
  · exact Stp.set (by rw [h.tm]; omega)

/-- what the law writes is none of the network's -/
theorem isn_law {w w' : World} {B p nc : Nat} {own own' : Nat → Nat} {S : Nst} (h : IsNet w B own p S nc) (hs : Stp w w' own own' (fun t => FT < t)) : IsNet w' B own' p S nc := by
  obtain ⟨mo, mc, vd, K, h⟩ := h
  exact ⟨mo, mc, vd, K, h.keep (fun g hg h1 h2 => hs.keep hg (fun e => by have e : 10000000000000 < own g := e; omega))⟩

end Go.Proofs.Ytgkfiolgipgbkaa.StmP
