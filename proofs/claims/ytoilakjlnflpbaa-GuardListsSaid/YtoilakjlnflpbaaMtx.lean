/- Lists of texts handed in with marked room behind them. -/
import Derived.Test.YtoilakjlnflpbaaValA
import Derived.Test.YtoilakjlnflpbaaWldG
import Derived.Laws.BytesString
import Derived.Laws.Cells
import Derived.OwnWalk
import Derived.BigQuiet
import Derived.Deep.RegionHeld3
import Derived.Deep.DeepCutAuto
import Derived.Test.YtoilakjlnflpbaaTxt
namespace Go.Proofs.Ytoilakjlnflpbaa.Mtx
open Go.ChangeShapes Go.WideShapes Go.ChangeAt Go.RowKit Base Wri ValA WldG Txt
open Go.Shelf
set_option linter.unusedVariables false

/-- the mark of a number from 700 on -/
def markS (d : Nat) : List UInt8 := [109, 97, 114, 107, 32, UInt8.ofNat (97 + (700 + d) % 26), UInt8.ofNat (97 + (700 + d) / 26 % 26), UInt8.ofNat (97 + (700 + d) / 676 % 26)]

theorem conv3 (w : World) (x y z : Int) (t : TypeId) : (convert 131 9 (.slice (some ⟨w.heap.size, 0, none⟩) 3 3)).run Try.prog (w.alloc (.cells #[.int .u8 x, .int .u8 y, .int .u8 z] t)) =
    .ok (.string ⟨#[UInt8.ofNat x.toNat, UInt8.ofNat y.toNat, UInt8.ofNat z.toNat]⟩) (w.alloc (.cells #[.int .u8 x, .int .u8 y, .int .u8 z] t)) := by
  rw [run_convert_bytes_string _ _ _ _ _ _ _ Try.underlying131 Try.underlying5 Try.underlying9]
  rw [run_bytesToString _ _ _ _ [x, y, z] ?_]
  · rfl
  · have := run_loadCells_list (P := Try.prog) (w := w.alloc (.cells #[.int .u8 x, .int .u8 y, .int .u8 z] t)) ⟨w.heap.size, 0, none⟩ [.int .u8 x, .int .u8 y, .int .u8 z] (fun j v hj => by
      rw [Go.WideShapes.add_plain, Nat.zero_add]
      unfold World.cell?
      rw [heap_alloc_new]
      simpa using hj)
    exact this

set_option maxRecDepth 100000 in
set_option maxHeartbeats 400000 in
theorem text_core (i : Int) (r : List UInt8) (hr : r = [UInt8.ofNat (wrap64 (97 + i.tmod 26) % 256).toNat, UInt8.ofNat (wrap64 (97 + (wrap64 (i.tdiv 26)).tmod 26) % 256).toNat, UInt8.ofNat (wrap64 (97 + (wrap64 (i.tdiv 676)).tmod 26) % 256).toNat]) (w : World) :
    Calls Try.prog 64 #[.int .i64 i] w fun e w' => e = .returned (.string ⟨([109, 97, 114, 107, 32] ++ r).toArray⟩) ∧ Below w.heap.size w w' := by
  have kc := conv3 w (wrap64 (97 + i.tmod 26) % 256) (wrap64 (97 + (wrap64 (i.tdiv 26)).tmod 26) % 256) (wrap64 (97 + (wrap64 (i.tdiv 676)).tmod 26) % 256) 5
  go_enter Try.func64, Try.ntmps64
  go_wp2_with fail
  go_ret
  subst hr
  exact ⟨rfl, (Below.refl _ w).alloc (Nat.le_refl _) _⟩

theorem marks_are : ∀ d : Nat, d < 9 → ([109, 97, 114, 107, 32] ++ [UInt8.ofNat (wrap64 (97 + ((700 : Int) + (d : Int)).tmod 26) % 256).toNat, UInt8.ofNat (wrap64 (97 + (wrap64 (((700 : Int) + (d : Int)).tdiv 26)).tmod 26) % 256).toNat, UInt8.ofNat (wrap64 (97 + (wrap64 (((700 : Int) + (d : Int)).tdiv 676)).tmod 26) % 256).toNat] : List UInt8) = markS d := by decide +kernel

theorem text_any (d : Nat) (hd : d < 9) (w : World) : Calls Try.prog 64 #[.int .i64 (700 + d)] w fun e w' => e = .returned (.string ⟨(markS d).toArray⟩) ∧ Below w.heap.size w w' :=
  text_core (700 + d) _ rfl w |>.mono fun e w' ⟨h1, h2⟩ => ⟨by rw [h1, marks_are d hd], h2⟩

/-- a row of texts in block g, not frozen -/
def SRow (w : World) (g n : Nat) (f : Nat → List UInt8) : Prop := ∀ j, j < n → w.cell? ⟨g, j, none⟩ = some (.string ⟨(f j).toArray⟩) ∧ w.frozen? ⟨g, j, none⟩ = false
theorem SRow.of_block {w w' : World} {g n : Nat} {f : Nat → List UInt8} (h : SRow w g n f) (e : w'.heap[g]? = w.heap[g]?) : SRow w' g n f :=
  fun j hj => ⟨(World.cell?_of_block (a := ⟨g, j, none⟩) e).trans (h j hj).1, (World.frozen?_of_block (a := ⟨g, j, none⟩) e).trans (h j hj).2⟩
theorem SRow.set {w : World} {g n : Nat} {f : Nat → List UInt8} (h : SRow w g n f) (i : Nat) (hi : i < n) (x : List UInt8) : SRow (w.setCell ⟨g, i, none⟩ (.string ⟨x.toArray⟩)) g n (fun j => if j = i then x else f j) := by
  intro j hj
  rw [World.frozen?_setCell]
  refine ⟨?_, (h j hj).2⟩
  by_cases e : j = i
  · subst e; simp only [if_true]; exact World.cell?_setCell_same w _ _ (h j hj).1
  · simp only [e, if_false]; rw [World.cell?_setCell_other w _ _ _ (by intro e2; cases e2; exact e rfl)]; exact (h j hj).1
theorem SRow.congr {w : World} {g n : Nat} {f f' : Nat → List UInt8} (h : SRow w g n f) (e : ∀ j, j < n → f j = f' j) : SRow w g n f' := fun j hj => by rw [← e j hj]; exact h j hj
theorem SRow.owned {w : World} {base g n cap : Nat} {e : TypeId} {xs : List Value} {f : Nat → List UInt8} (h : w.ownsRow base e 1 (.slice (some ⟨g, 0, none⟩) n cap) n xs) (hx : ∀ j, j < n → xs[j]? = some (.string ⟨(f j).toArray⟩)) : SRow w g n f := by
  obtain ⟨hl, h⟩ := h
  rcases h with ⟨h0, _⟩ | ⟨g', cap', cur, hv, hg, hh, hc, hm, hs, hcur⟩
  · cases h0
  · cases hv
    intro j hj
    have e : cur[j]? = some (.string ⟨(f j).toArray⟩) := by
      have h1 : (cur.toList.take (n * 1))[j]? = xs[j]? := by rw [hcur]
      rw [List.getElem?_take, if_pos (by omega), hx j hj] at h1
      rw [← Array.getElem?_toList, h1]
    exact ⟨by simp [World.cell?, hh, e], by simp [World.frozen?, hh]⟩

/-- texts, and the marks behind them -/
def markT (ss : List (List UInt8)) : Nat → List UInt8 := fun j => if j < ss.length then ss.getD j [] else markS (j - ss.length)
def fillT (k : Nat) (g : Nat → List UInt8) : Nat → List UInt8 := fun j => if j < k then g j else []
theorem fillT_set (k : Nat) (g : Nat → List UInt8) : (fun j => if j = k then g k else fillT k g j) = fillT (k + 1) g := by
  funext j
  unfold fillT
  by_cases h : j = k
  · subst h; simp
  · by_cases h2 : j < k
    · simp [h, h2, Nat.lt_succ_of_lt h2]
    · simp [h, h2]; omega
theorem markT_in {ss : List (List UInt8)} {k : Nat} {x : List UInt8} (h : ss[k]? = some x) : markT ss k = x := by
  unfold markT
  rw [if_pos (List.getElem?_eq_some_iff.1 h).1]
  simp [List.getD, h]
theorem markT_out {ss : List (List UInt8)} {k : Nat} (h : ss.length ≤ k) : markT ss k = markS (k - ss.length) := by
  unfold markT
  rw [if_neg (by omega)]

theorem infoStr : (Try.prog.info? 9).map (fun i => (i.zero, i.size, i.bytes)) = some (some (.string ⟨#[]⟩), 1, 16) := by kernel_rfl

set_option maxRecDepth 20000 in
set_option maxHeartbeats 1000000 in
theorem hand_texts (a : Option Addr) (cap : Nat) (ss : List (List UInt8)) (w : World) (hn : ss.length ≤ 8796093022208) (HT : Hid (TAt w w.heap.size a ss)) :
    Calls Try.prog 45 #[.slice a ss.length cap] w fun e w' => e = .returned (.slice (some ⟨w.heap.size, 0, none⟩) ss.length (ss.length + 9)) ∧ SRow w' w.heap.size (ss.length + 9) (markT ss) ∧ Below w.heap.size w w' ∧ w.heap.size < w'.heap.size := by
  obtain ⟨i0, hi, hz0, hz1, hz2⟩ := info_parts infoStr
  go_enter Try.func45, Try.ntmps45
  go_wp2_with (at_make; refine wpList_make_full _ rfl _ _ 55 rfl w.heap.size 9 i0 (.string ⟨#[]⟩) 1 Try.underlying55 hi hz0 hz1 .i64 .i64 ((ss.length : Int) + 9) ((ss.length : Int) + 9) (ss.length + 9) rfl rfl (by omega) (by omega) ?b2 ?b3 (Nat.le_refl _) ?_; rotate_left 2; intro w1 hown hgrow)
  case b2 => rw [hz2]; omega
  case b3 => unfold maxLen; omega
  have HB1 : Hid (Below w.heap.size w w1) := hid ((Below.refl _ _).grown hgrow (Nat.le_refl _) (fun _ e => by cases e))
  have HR1 : Hid (SRow w1 w.heap.size (ss.length + 9) (fillT 0 (markT ss))) := hid (SRow.owned hown (fun j hj => by simp [madeCells, Value.cells, hj, fillT, Nat.mod_one]))
  have hs1 : w.heap.size < w1.heap.size := (hown.lt w.heap.size rfl).2
  clear hown hgrow
  obtain ⟨B, hB⟩ : ∃ B, w.heap.size = B := ⟨_, rfl⟩
  rw [hB] at HB1 HR1 hs1 HT ⊢
  go_loopw [4] (fun i wr => ∃ k : Nat, k ≤ ss.length ∧ i = .int .i64 k ∧ SRow wr B (ss.length + 9) (fillT k (markT ss)) ∧ Below B w wr ∧ B < wr.heap.size) (fun i _ => ss.length - (intOf i).toNat)
  case atStart => exact ⟨0, Nat.zero_le _, rfl, HR1.out, HB1.out, hs1⟩
  case round =>
    obtain ⟨k, hk, rfl, hrow, hbel, hsz⟩ := hrel
    have HR := hid hrow
    have HB := hid hbel
    clear hrow hbel
    by_cases hlt : k < ss.length
    · obtain ⟨g, o, rfl, hg, hc⟩ := HT.out (by omega)
      obtain ⟨x, hx⟩ : ∃ x, ss[k]? = some x := ⟨_, List.getElem?_eq_getElem hlt⟩
      have h1 : wr.cell? ⟨g, o + k, none⟩ = some (.string ⟨x.toArray⟩) := (HB.out.cell (p := ⟨g, o + k, none⟩) hg).trans (hc k x hx)
      have h2 := (HR.out k (by omega)).1
      have h3 := (HR.out k (by omega)).2
      have hgs : g < wr.heap.size := by omega
      have HN := hid (HR.out.set k (by omega) (markT ss k))
      rw [fillT_set, markT_in hx] at HN
      have HB2 := hid (HB.out.setCell (p := ⟨B, k, none⟩) (Nat.le_refl _) (.string ⟨x.toArray⟩))
      clear hc hx
      generalize fillT k _ k = v at *
      go_wp2_with fail
      go_roundw
      case rel => exact ⟨k + 1, by omega, by go_num, HN.out, HB2.out, by simpa using hsz⟩
      case measure => simp [intOf]; omega
    · have hke : k = ss.length := by omega
      subst hke
      go_wp2_with fail
      go_loopw [5] (fun i wr => ∃ m : Nat, m ≤ ss.length + 9 ∧ i = .int .i64 m ∧ ss.length ≤ m ∧ SRow wr B (ss.length + 9) (fillT m (markT ss)) ∧ Below B w wr ∧ B < wr.heap.size) (fun i _ => (ss.length + 9) - (intOf i).toNat)
      case atStart => exact ⟨ss.length, by omega, rfl, Nat.le_refl _, HR.out, HB.out, hsz⟩
      case round =>
        obtain ⟨m, hm, rfl, hkm, hrow, hbel, hsz2⟩ := hrel
        have HR3 := hid hrow
        have HB3 := hid hbel
        clear hrow hbel
        by_cases hml : m < ss.length + 9
        · have HX := hid (text_any (m - ss.length) (by omega) wr)
          rw [show (700 : Int) + ((m - ss.length : Nat) : Int) = 700 + (m : Int) - (ss.length : Int) by omega] at HX
          go_wp2_with fail
          refine HX.out.mono ?_
          rintro e w2 ⟨rfl, hb2⟩
          have HR4 := hid (HR3.out.of_block (hb2.block B hsz2))
          have hsz4 : B < w2.heap.size := Nat.lt_of_lt_of_le hsz2 hb2.size
          have h2 := (HR4.out m (by omega)).1
          have h3 := (HR4.out m (by omega)).2
          have HN := hid (HR4.out.set m (by omega) (markT ss m))
          rw [fillT_set, markT_out hkm] at HN
          have HB4 := hid (Below.setCell (p := ⟨B, m, none⟩) (HB3.out.trans (hb2.mono (by omega))) (Nat.le_refl _) (.string ⟨(markS (m - ss.length)).toArray⟩))
          clear hb2 HX
          generalize fillT m _ m = v at *
          generalize (markS (m - ss.length)) = u at *
          go_wp2_with fail
          go_roundw
          case rel => exact ⟨m + 1, by omega, by go_num, by omega, HN.out, HB4.out, by simpa using hsz4⟩
          case measure => simp [intOf]; omega
        · have hme : m = ss.length + 9 := by omega
          subst hme
          go_wp2_with fail
          go_ret
          subst hB
          exact ⟨rfl, HR3.out.congr (fun j hj => by simp [fillT, hj]), HB3.out, hsz2⟩

theorem SRow.tat {w : World} {g n n0 : Nat} {ss : List (List UInt8)} (h : SRow w g n (markT ss)) (hn : ss.length ≤ n) (hg : g < n0) : TAt w n0 (some ⟨g, 0, none⟩) ss := fun _ => ⟨g, 0, rfl, hg, fun i x hx => by
  have hi := (List.getElem?_eq_some_iff.1 hx).1
  rw [Nat.zero_add, (h i (by omega)).1, markT_in hx]⟩

set_option maxHeartbeats 400000 in
theorem stexts_none (a a' : Option Addr) (cap cap' : Nat) (w : World) :
    Calls Try.prog 74 #[.slice a 0 cap, .slice a' 0 cap'] w fun e w' => e = .returned (.bool true) ∧ ∃ m, w.drewN m = w' := by
  go_enter Try.func74, Try.ntmps74
  go_wp2
  go_loop [5] (fun i => i = .int .i64 0) (fun i => 0)
  case atStart => rfl
  case round =>
    obtain rfl := hrel
    go_wp2
    go_ret
    exact ⟨rfl, 0, rfl⟩

set_option maxRecDepth 20000 in
set_option maxHeartbeats 1000000 in
theorem stexts_core (g o g' o' n cap cap' : Nat) (ss : List (List UInt8)) (hlen : ss.length = n) (w : World) (hn : n ≤ 9223372036854775807)
    (H : Hid (∀ i x, ss[i]? = some x → w.cell? ⟨g, o + i, none⟩ = some (encStr x))) (H' : Hid (∀ i x, ss[i]? = some x → w.cell? ⟨g', o' + i, none⟩ = some (encStr x))) :
    Calls Try.prog 74 #[.slice (some ⟨g, o, none⟩) n cap, .slice (some ⟨g', o', none⟩) n cap'] w fun e w' => e = .returned (.bool true) ∧ ∃ m, w.drewN m = w' := by
  have HN := hid hlen
  clear hlen
  go_enter Try.func74, Try.ntmps74
  go_wp2
  go_loopw [5] (fun i wr => ∃ k m : Nat, k ≤ n ∧ i = .int .i64 k ∧ w.drewN m = wr) (fun i _ => n - (intOf i).toNat)
  case atStart => exact ⟨0, 0, Nat.zero_le _, rfl, rfl⟩
  case round =>
    obtain ⟨k, m, hk, rfl, hwr⟩ := hrel
    by_cases hlt : k < n
    · obtain ⟨x, hx⟩ : ∃ x, ss[k]? = some x := ⟨ss[k]'(by rw [HN.out]; exact hlt), List.getElem?_eq_getElem _⟩
      have h1 : wr.cell? ⟨g, o + k, none⟩ = some (.string ⟨x.toArray⟩) := by rw [← hwr]; exact H.out k x hx
      have h2 : wr.cell? ⟨g', o' + k, none⟩ = some (.string ⟨x.toArray⟩) := by rw [← hwr]; exact H'.out k x hx
      have HW := hid hwr
      clear hwr hx
      go_wp2_with fail
      go_quiet (fail)
      go_wp2_with fail
      go_roundw
      case rel => exact ⟨k + 1, m + _, by omega, by go_num, by rw [← HW.out, World.drewN_drewN]⟩
      case measure => simp [intOf]; omega
    · go_wp2
      go_ret
      exact ⟨rfl, m, hwr⟩

theorem stexts_any (a a' : Option Addr) (cap cap' : Nat) (ss : List (List UInt8)) (w : World) (hn : ss.length ≤ 9223372036854775807) (H : TAt w w.heap.size a ss) (H' : TAt w w.heap.size a' ss) :
    Calls Try.prog 74 #[.slice a ss.length cap, .slice a' ss.length cap'] w fun e w' => e = .returned (.bool true) ∧ ∃ m, w.drewN m = w' := by
  by_cases h0 : ss.length = 0
  · rw [h0]; exact stexts_none a a' cap cap' w
  · obtain ⟨g, o, rfl, _, hr⟩ := H (by omega)
    obtain ⟨g', o', rfl, _, hr'⟩ := H' (by omega)
    exact stexts_core g o g' o' ss.length cap cap' ss rfl w hn (hid hr) (hid hr')

theorem belN {B : Nat} {w w1 : World} (h : Below B w w1) (n : Nat) : Below B w (w1.drewN n) := ⟨h.os, h.tape, h.output, h.size, h.block⟩

set_option maxRecDepth 20000 in
set_option maxHeartbeats 1000000 in
theorem kept_texts (a : Option Addr) (g cap : Nat) (ss : List (List UInt8)) (w : World) (hn : ss.length ≤ 8796093022208) (hg : g < w.heap.size) (HT : TAt w w.heap.size a ss) (hr : SRow w g (ss.length + 9) (markT ss)) :
    Calls Try.prog 55 #[.slice (some ⟨g, 0, none⟩) ss.length (ss.length + 9), .slice a ss.length cap] w fun e w' => e = .returned (.bool true) ∧ Below w.heap.size w w' := by
  have HS := hid (stexts_any (some ⟨g, 0, none⟩) a (ss.length + 9) cap ss w (by omega) (hr.tat (by omega) hg) HT)
  have HR := hid hr
  clear hr HT
  go_enter Try.func55, Try.ntmps55
  go_wp2_with fail
  refine HS.out.mono ?_
  rintro e w1 ⟨rfl, m1, hw1⟩
  have hb1 : Below w.heap.size w w1 := by rw [← hw1]; exact belN (Below.refl _ _) _
  have HB1 := hid hb1
  clear HS hw1 hb1
  go_wp2_with fail
  go_loopw [6] (fun i wr => ∃ k : Nat, k ≤ ss.length + 9 ∧ ss.length ≤ k ∧ i = .int .i64 k ∧ Below w.heap.size w wr) (fun i _ => ss.length + 9 - (intOf i).toNat)
  case atStart => exact ⟨ss.length, by omega, Nat.le_refl _, rfl, HB1.out⟩
  case round =>
    obtain ⟨k, hk, hnk, rfl, hbel⟩ := hrel
    have HB := hid hbel
    clear hbel
    by_cases hlt : k < ss.length + 9
    · have h1 : wr.cell? ⟨g, k, none⟩ = some (.string ⟨(markS (k - ss.length)).toArray⟩) := by
        rw [← markT_out hnk]; exact (HB.out.cell (p := ⟨g, k, none⟩) hg).trans (HR.out k hlt).1
      have HX := hid (text_any (k - ss.length) (by omega))
      have ew : IntKind.i64.wrap (IntKind.i64.wrap (700 + (k : Int)) - (ss.length : Int)) = 700 + ((k - ss.length : Nat) : Int) := by
        rw [show (700 : Int) + ((k - ss.length : Nat) : Int) = 700 + (k : Int) - (ss.length : Int) by omega]
        rw [IntKind.wrap_i64, IntKind.wrap_i64]
        omega
      rw [← ew] at HX
      clear ew
      generalize (markS (k - ss.length)) = u at *
      have hss : (u == u) = true := by simp
      go_upto_region 7 with fail
      go_cut [34] (fun s wx => s = .bool false ∧ Below w.heap.size w wx)
      case first =>
        go_region_held3 (fun w' => w'.cell? ⟨g, k, none⟩ = some (.string ⟨u.toArray⟩)) (go_keep)
          (first
            | (go_at_call 64; (with_reducible refine (HX.out _).mono ?_); rintro e w4 ⟨rfl, hb4⟩
               have h1 : w4.cell? ⟨g, k, none⟩ = some (.string ⟨u.toArray⟩) := (hb4.cell (p := ⟨g, k, none⟩) (World.block_lt_of_cell? _ _ (by assumption))).trans (by assumption)
               have HB := hid ((by first | exact HB.out | exact HB.out.drew : Below w.heap.size w _).trans (hb4.mono (by first | exact HB.out.size | (have := HB.out.size; simpa using this))))))
        all_goals
          go_wp2_with fail
          go_meet
          exact ⟨by simp, HB.out⟩
      case rest =>
        obtain ⟨rfl, hbx⟩ := hcut
        have HBX := hid hbx
        clear hbx h1
        go_wp2_with fail
        go_roundw
        case rel => exact ⟨k + 1, by omega, by omega, by go_num, HBX.out⟩
        case measure => simp [intOf]; omega
    · go_wp2_with fail
      go_ret
      exact ⟨rfl, HB.out⟩

end Go.Proofs.Ytoilakjlnflpbaa.Mtx
