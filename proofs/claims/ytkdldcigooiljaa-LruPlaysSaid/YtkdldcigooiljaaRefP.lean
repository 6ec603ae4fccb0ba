/- The document's bounded map: Drop and Keys. -/
import Derived.Test.YtkdldcigooiljaaRefO
import Derived.Test.YtkdldcigooiljaaLruE
namespace Go.Proofs.Ytkdldcigooiljaa.RefP
open Go.ChangeShapes Go.WideShapes Go.ChangeAt Go.RowKit Base Wri Str LruA RefL RefM RefN RefO
open LruE (Strs)

variable {w0 w w' : World} {rb most : Nat} {v : Value} {ps : List (ByteArray × Int)}

/-- without the first of a key -/
def outP (s : ByteArray) (ps : List (ByteArray × Int)) : List (ByteArray × Int) := match placeF s ps with | some i => ps.eraseIdx i | none => ps
def outsP (f : Nat → ByteArray) : Nat → List (ByteArray × Int) → List (ByteArray × Int)
  | 0, ps => ps
  | n + 1, ps => outP (f n) (outsP f n ps)

theorem outP_len (s : ByteArray) (ps : List (ByteArray × Int)) : (outP s ps).length ≤ ps.length := by
  unfold outP
  split
  · rw [List.length_eraseIdx]; split <;> omega
  · exact Nat.le_refl _
theorem outsP_len (f : Nat → ByteArray) (n : Nat) (ps : List (ByteArray × Int)) : (outsP f n ps).length ≤ ps.length := by
  induction n with
  | zero => exact Nat.le_refl _
  | succ n ih => exact Nat.le_trans (outP_len _ _) ih

set_option maxRecDepth 20000 in
set_option maxHeartbeats 1000000 in
theorem rdrop_any (h : RM w0 w rb most v ps) (hl : ps.length ≤ 4096) (hb : w0.heap.size ≤ w.heap.size) (a : Option Addr) (n cap : Nat) (f : Nat → ByteArray) (hn : n ≤ 9223372036854775807) (hf : Strs w a n f) (hfar : 0 < n → ∀ g o, a = some ⟨g, o, none⟩ → g < w0.heap.size) :
    Calls Try.prog 64 #[ptr rb, .slice a n cap] w fun e w' => e = .returned (.int .i64 ((ps.length : Int) - (outsP f n ps).length)) ∧ RPost w0 w rb most v (outsP f n ps) w' := by
  have H := hid h
  have HF := hid (And.intro hf hfar)
  have hlb := h.lb
  clear h hf hfar
  unfold ptr
  go_enter Try.func64, Try.ntmps64
  go_wp2_with fail
  go_loopw [5, 6] (fun d i wr => ∃ k : Nat, k ≤ n ∧ i = .int .i64 k ∧ d = .int .i64 ((ps.length : Int) - (outsP f k ps).length) ∧ RPost w0 w rb most v (outsP f k ps) wr) (fun _ i _ => n - (intOf i).toNat)
  case atStart => exact ⟨0, Nat.zero_le _, rfl, by simp [outsP], ⟨v, H.out, fun g e => .inl e⟩, Wr.refl _ _⟩
  case round =>
    obtain ⟨k, hk, rfl, rfl, ⟨v1, h1, hv1⟩, hW⟩ := hrel
    have HR := hid h1
    have HV := hid hv1
    have HW := hid hW
    have hol := outsP_len f k ps
    obtain ⟨q, hq⟩ : ∃ q, (outsP f k ps).length = q := ⟨_, rfl⟩
    rw [hq] at hol ⊢
    have HQ := hid hq
    have hszw := hW.size
    clear h1 hv1 hW hq
    by_cases hlt : k < n
    · obtain ⟨hf, hfar⟩ := HF.out
      obtain ⟨g, o, rfl, hg, hc⟩ := hf (by omega)
      have hfg := hfar (by omega) g o rfl
      have c0 : wr.cell? ⟨g, o + k, none⟩ = some (.string (f k)) := (HW.out.cell (o + k) hg (fun e => by
        rcases e with e | e
        · omega
        · have := (H.out.row.lt g e).1; omega)).trans (hc k hlt)
      have hgs : g < wr.heap.size := by omega
      have HP := hid (place_any (f k) HR.out (by rw [HQ.out]; omega))
      clear hc hfar hf
      rcases hpl : placeF (f k) (outsP f k ps) with _ | i
      · have HSt : Hid (outsP f (k + 1) ps = outsP f k ps) := hid (by show outP (f k) (outsP f k ps) = _; unfold outP; rw [hpl])
        have hpi : placeI (f k) (outsP f k ps) = -1 := by unfold placeI; rw [hpl]
        rw [hpi] at HP
        clear hpl hpi
        unfold ptr at *
        go_wp2_with fail
        refine HP.out.mono ?_
        rintro e w2 ⟨rfl, rfl⟩
        go_wp2_with fail
        go_roundw
        case rel => exact ⟨k + 1, by omega, by go_num, by rw [HSt.out, HQ.out], ⟨v1, HSt.out ▸ HR.out, HV.out⟩, HW.out⟩
        case measure => simp [intOf]; omega
      · obtain ⟨p, hp, _⟩ := placeF_some hpl
        have hil := (List.getElem?_eq_some_iff.1 hp).1
        have HSt : Hid (outsP f (k + 1) ps = (outsP f k ps).eraseIdx i) := hid (by show outP (f k) (outsP f k ps) = _; unfold outP; rw [hpl])
        have hpi : placeI (f k) (outsP f k ps) = i := by unfold placeI; rw [hpl]
        rw [hpi] at HP
        have HO := hid (out_any i HR.out hil (by rw [HQ.out]; omega) (Nat.le_trans hb hszw))
        have hq1 : 1 ≤ q := by have := HQ.out; omega
        have HLen : Hid ((outsP f (k + 1) ps).length + 1 = q) := hid (by rw [HSt.out, List.length_eraseIdx, if_pos hil, HQ.out]; omega)
        clear hpl hpi hp hil
        unfold ptr at *
        go_wp2_with fail
        refine HP.out.mono ?_
        rintro e w2 ⟨rfl, rfl⟩
        go_wp2_with fail
        refine HO.out.mono ?_
        rintro e w3 ⟨rfl, ⟨v3, h3, hv3⟩, hw3⟩
        have H3 := hid (And.intro h3 (And.intro hv3 hw3))
        clear h3 hv3 hw3 HO HP
        go_wp2_with fail
        go_roundw
        case rel =>
          obtain ⟨h3, hv3, hw3⟩ := H3.out
          refine ⟨k + 1, by omega, by go_num, ?_, ⟨v3, HSt.out ▸ h3, fun b e => .inr (Nat.le_trans hszw (hv3 b e))⟩, HW.out.trans (hw3.mono (fun b e => .inl e))⟩
          have := HLen.out
          congr 1
          omega
        case measure => simp [intOf]; omega
    · obtain rfl : k = n := by omega
      go_wp2_with fail
      go_ret
      exact ⟨by rw [HQ.out]; rfl, ⟨v1, HR.out, HV.out⟩, HW.out⟩

theorem infoStr : (Try.prog.info? 9).map (fun i => (i.zero, i.size, i.bytes)) = some (some (.string ⟨#[]⟩), 1, 16) := by kernel_rfl

/-- a list of texts that a call owns -/
def OwnS (B : Nat) (w : World) (v : Value) (ss : List ByteArray) : Prop := w.ownsRow B 9 1 v ss.length (ss.map Value.string)

set_option maxRecDepth 20000 in
set_option maxHeartbeats 1000000 in
theorem rkeys_any (h : RM w0 w rb most v ps) (hl : ps.length ≤ 4096) :
    Calls Try.prog 25 #[ptr rb] w fun e w' => (∃ x, e = .returned x ∧ OwnS w.heap.size w' x (ps.map (·.1))) ∧ Below w.heap.size w w' := by
  obtain ⟨i0, hi, hz0, hz1, hz2⟩ := info_parts infoStr
  have H := hid h
  have hlt := h.lt
  obtain ⟨va, vc, rfl⟩ := owns_shape h.row
  obtain ⟨n, hn⟩ : ∃ n, ps.length = n := ⟨_, rfl⟩
  rw [hn] at hl H
  have HN := hid hn
  clear h hn
  unfold ptr
  go_enter Try.func25, Try.ntmps25
  go_wp2_with fail
  go_loopw [3, 4] (fun l i wr => ∃ (k : Nat) (x : Value), x = l ∧ k ≤ n ∧ i = .int .i64 k ∧ OwnS w.heap.size wr x ((ps.take k).map (·.1)) ∧ Below w.heap.size w wr) (fun _ i _ => n - (intOf i).toNat)
  case atStart => exact ⟨0, _, rfl, Nat.zero_le _, rfl, ⟨rfl, .inl ⟨rfl, by simp⟩⟩, Below.refl _ _⟩
  case round =>
    obtain ⟨k, x, rfl, hk, rfl, hO, hB⟩ := hrel
    have HO := hid hO
    have HB := hid hB
    have hszw := hB.size
    have hR := H.out.below hB
    have k1 := hR.cells.2.1
    have hltr := hR.lt
    have HR := hid hR
    clear hO hB hR
    by_cases hlt2 : k < n
    · obtain ⟨g, c, hv, _, _, hg, hcc⟩ := HR.out.at_ (by rw [HN.out]; omega)
      obtain ⟨p, hp⟩ : ∃ p, ps[k]? = some p := ⟨ps[k]'(by rw [HN.out]; exact hlt2), List.getElem?_eq_getElem _⟩
      have c0 : wr.cell? ⟨g, k * 2, none⟩ = some (.string p.1) := hcc _ _ (cellsP_get hp).1
      injection hv with e1 e2 e3
      subst e1
      have HT : Hid ((ps.take (k + 1)).map (·.1) = (ps.take k).map (·.1) ++ [p.1]) := hid (by rw [List.take_add_one, hp, List.map_append]; rfl)
      have hlk : ((ps.take k).map (·.1)).length = k := by rw [List.length_map, List.length_take]; have := HN.out; omega
      have hown1 : (wr.alloc (.cells #[.string p.1] 9)).ownsRow w.heap.size 9 1 x k (((ps.take k).map (·.1)).map Value.string) := by
        have := HO.out
        unfold OwnS at this
        rw [hlk] at this
        exact World.ownsRow.alloc this _
      clear hcc e2 e3 hp hlk
      go_wp2_with (at_builtin; (first
        | (refine wpList_append_own_at _ rfl _ _ 35 rfl w.heap.size 9 i0 (.string ⟨#[]⟩) 1 16 Try.underlying35 hi hz0 hz1 hz2 rfl (by decide) x k _ rfl hown1 ⟨wr.heap.size, 0, none⟩ 1 1 [.string p.1] rfl (by rfl) (cell_one_new _ _ _) (by intro u hu; obtain rfl := List.mem_singleton.1 hu; rfl) (by unfold maxLen; omega) (by omega) (by simp; omega) ?_; intro v5 w5 hown5 hgr5 hnil5 hat5
           have HO5 : Hid (OwnS w.heap.size w5 v5 ((ps.take (k + 1)).map (·.1))) := hid (by
             rw [HT.out]
             unfold OwnS
             rw [List.length_append, List.map_append, show ((ps.take k).map (·.1)).length = k by rw [List.length_map, List.length_take]; have := HN.out; omega]
             exact hown5)
           have HB5 : Hid (Below w.heap.size w w5) := hid ((HB.out.alloc hszw _).grown hgr5 (by simp; omega) (fun b e => (hown1.lt b e).1))
           clear hown5 hgr5 hnil5 hat5 hown1)))
      go_roundw
      case rel => exact ⟨k + 1, v5, rfl, by omega, by go_num, HO5.out, HB5.out⟩
      case measure => simp [intOf]; omega
    · obtain rfl : k = n := by omega
      go_wp2_with fail
      go_ret
      exact ⟨⟨_, rfl, by have := HO.out; rw [List.take_of_length_le (by rw [HN.out]; exact Nat.le_refl _)] at this; exact this⟩, HB.out⟩

end Go.Proofs.Ytkdldcigooiljaa.RefP
