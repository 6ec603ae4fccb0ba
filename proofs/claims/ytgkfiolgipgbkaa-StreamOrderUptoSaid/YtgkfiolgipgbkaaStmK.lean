/- New networks; ports that are opened; connections that are dialled. -/
import Derived.Test.YtgkfiolgipgbkaaStmJ
namespace Go.Proofs.Ytgkfiolgipgbkaa.StmK
open Go.ChangeShapes Go.WideShapes Go.ChangeAt Go.RowKit Base Wri Map FrmP FrmA StmA StmB StmC StmD StmE StmF VaiA StmG StmH StmI StmJ
set_option linter.unusedVariables false
set_option linter.unusedSimpArgs false

def con0 : Con := ⟨⟨[], [], false⟩, ⟨[], [], false⟩⟩
def net0 : Nst := ⟨fun _ => false, [], fun _ => none⟩

theorem heap_keep {w : World} {o : Obj} {g : Nat} {x : Obj} (h : w.heap[g]? = some x) : (w.alloc o).heap[g]? = some x := (heap_alloc_old w o (Array.getElem?_eq_some_iff.1 h).1).trans h

set_option maxRecDepth 20000 in
set_option maxHeartbeats 1000000 in
theorem newPorts_any (w : World) : Calls Try.prog 25 #[] w fun x w' => x = .returned (.agg #[.map (some (w.heap.size + 1))]) ∧ w'.heap[w.heap.size + 1]? = some (.map #[] 0) ∧ Below w.heap.size w w' ∧ w'.heap.size = w.heap.size + 2 := by
  have hmk : (Instr.makeMap 56 none).run Try.prog (w.alloc (.cells #[.map none] 58)) = .ok (.map (some (w.heap.size + 1))) ((w.alloc (.cells #[.map none] 58)).alloc (.map #[] 0)) := by
    have := run_makeMap (P := Try.prog) 56 (w.alloc (.cells #[.map none] 58))
    simpa using this
  have b1 := bel_alloc w (.cells #[.map none] 58)
  have b2 := bel_next b1 (.map #[] 0)
  have h2 : ((w.alloc (.cells #[.map none] 58)).alloc (.map #[] 0)).heap[w.heap.size + 1]? = some (.map #[] 0) := by
    have := heap_alloc_new (w.alloc (.cells #[.map none] 58)) (.map #[] 0)
    simpa using this
  have c0 : ((w.alloc (.cells #[.map none] 58)).alloc (.map #[] 0)).heap[w.heap.size]? = some (.cells #[.map none] 58 (0, 0)) := heap_keep (heap_alloc_new w _)
  have hs : ((w.alloc (.cells #[.map none] 58)).alloc (.map #[] 0)).heap.size = w.heap.size + 2 := by simp
  obtain ⟨W, hW⟩ : ∃ W, (w.alloc (.cells #[.map none] 58)).alloc (.map #[] 0) = W := ⟨_, rfl⟩
  rw [hW] at hmk b2 h2 c0 hs
  have d0 : W.cell? ⟨w.heap.size, 0, none⟩ = some (.map none) := blk_cell c0 rfl
  have f0 : W.frozen? ⟨w.heap.size, 0, none⟩ = false := blk_frozen c0
  have HX := hid (And.intro b2 (And.intro h2 hs))
  clear b1 b2 h2 c0 hs hW
  go_enter Try.func25, Try.ntmps25
  go_wp2_with fail
  have d1 := World.cell?_setCell_same W ⟨w.heap.size, 0, none⟩ (.map (some (w.heap.size + 1))) d0
  refine bodyPost_ret (v := .agg #[.map (some (w.heap.size + 1))]) (by simp [results, Try.results25, d1, go_sem]) rfl ?_
  exact ⟨rfl, (Below.heap_setCell _ _ _ _ (by simp)).trans HX.out.2.1, HX.out.1.setCell (p := ⟨w.heap.size, 0, none⟩) (Nat.le_refl _) _, by simp [HX.out.2.2]⟩

set_option maxRecDepth 20000 in
set_option maxHeartbeats 1000000 in
theorem new_any (own : Nat → Nat) (w : World) : Calls Try.prog 7 #[] w fun x w' => ∃ p own', x = .returned (.pointer (some ⟨p, 0, none⟩)) ∧ IsNet w' w.heap.size own' p net0 0 ∧ Stp w w' own own' NetR := by
  have HP := hid (newPorts_any w)
  go_enter Try.func7, Try.ntmps7
  go_wp2_with fail
  refine HP.out.mono ?_
  rintro x w1 ⟨rfl, h1, hb, hs⟩
  have hmk : (Instr.makeMap 60 none).run Try.prog w1 = .ok (.map (some w1.heap.size)) (w1.alloc (.map #[] 0)) := run_makeMap _ _
  have HH := hid (And.intro h1 (And.intro hb hs))
  clear h1 hb hs HP
  go_wp2_with fail
  go_ret
  obtain ⟨h1, hb, hs⟩ := HH.out
  have hb2 := (hb.alloc hb.size (.map #[] 0))
  have hb3 := hb2.alloc hb2.size (.cells #[.map (some (w.heap.size + 1)), .slice none 0 0, .map (some w1.heap.size)] 62)
  refine ⟨w1.heap.size + 1, fun g => if g < w.heap.size then own g else if g = w1.heap.size + 1 then 0 else if g = w.heap.size + 1 then 1 else if g = w1.heap.size then 3 else 4, by simp, ⟨w.heap.size + 1, w1.heap.size, .slice none 0 0, fun _ => 0, ?_⟩, Wr.ofBelow hb3, fun g hg => if_pos hg⟩
  refine ⟨?_, ⟨fun _ => none, 0, ⟨#[], 0, heap_keep (heap_keep h1), rfl, by simp, by simp, by simp⟩, fun i => rfl⟩, World.ownsRow_nil _ _ _ _, ⟨fun _ => none, ⟨#[], 0, heap_keep (heap_alloc_new w1 _), rfl, by simp, by simp, by simp⟩, fun i => (by split <;> rfl)⟩, fun j C h => (by cases h), ?_, ?_, fun g e => (by cases e), ?_, Nat.zero_le _, (by omega)⟩
  · have := heap_alloc_new (w1.alloc (.map #[] 0)) (.cells #[.map (some (w.heap.size + 1)), .slice none 0 0, .map (some w1.heap.size)] 62)
    simpa using this
  · show (if w1.heap.size + 1 < w.heap.size then _ else _) = 0
    rw [if_neg (by omega), if_pos rfl]
  · show (if w.heap.size + 1 < w.heap.size then _ else _) = 1
    rw [if_neg (by omega), if_neg (by omega), if_pos rfl]
  · show (if w1.heap.size < w.heap.size then _ else _) = 3
    rw [if_neg (by omega), if_neg (by omega), if_neg (by omega), if_pos rfl]

/-- the error of a call with ports -/
def portE (ss : List Int) : Int := if ss.any noPort then 2 else 0
set_option maxRecDepth 20000 in
set_option maxHeartbeats 1000000 in
theorem refuses_any (p : Nat) (a : Option Addr) (cap : Nat) (ss : List Int) (w : World) (hss : ss.length ≤ 9223372036854775807) (HA : Hid (NAt w w.heap.size a ss)) :
    Calls Try.prog 47 #[.pointer (some ⟨p, 0, none⟩), .slice a ss.length cap] w fun x w' => x = .returned (.int .i64 (portE ss)) ∧ w' = w := by
  have HC := hid (has_port noPort a cap ss w hss HA (hid fun x _ => noPort_any x w))
  unfold portE
  generalize ss.any noPort = b at *
  generalize ss.length = n at *
  cases b
  all_goals
    go_enter Try.func47, Try.ntmps47
    go_wp2_with (go_at_call 63; refine HC.out.mono ?_; rintro x w1 ⟨rfl, rfl⟩)
    go_ret
    exact ⟨rfl, rfl⟩

theorem pmap_ext {W : World} {b : Nat} {op op' : Int → Bool} (h : PMap W b op) (e : ∀ i, op i = op' i) : PMap W b op' := (funext e : op = op') ▸ h

theorem pmap_put {W w1 : World} {mo : Nat} {op : Int → Bool} {i : Int} (h0 : -9223372036854775808 ≤ i) (h1 : i ≤ 9223372036854775807) (h : PMap W mo op) :
    ∃ w', (Instr.mapUpdate 56 (.map (some mo)) (.int .i64 i) (.agg #[])).run Try.prog W = .ok () w' ∧ PMap w' mo (fun j => op j || decide (j = i)) ∧ Wr (fun g => g = mo) W w' := by
  obtain ⟨F, n, hF, hF2⟩ := h
  obtain ⟨w', hr, hm, hw⟩ := hF.store keyedI Try.underlying56 (val := .agg #[]) (keyI h0 h1)
  refine ⟨w', hr, ⟨_, _, hm, fun j => ?_⟩, hw⟩
  by_cases e : j = i
  · subst e
    rw [put_same]
    simp
  · rw [put_other (by intro e2; cases e2; exact e rfl), hF2 j]
    simp [e]

set_option maxRecDepth 20000 in
set_option maxHeartbeats 1000000 in
theorem listen_any (mo : Nat) (op : Int → Bool) (a : Option Addr) (cap : Nat) (ss : List Int) (w : World) (hss : ss.length ≤ 9223372036854775807) (HA : Hid (NAt w w.heap.size a ss)) (hm : PMap w mo op) (hok : Hid (∀ x ∈ ss, noPort x = false)) (hmo : Hid (∀ g o, a = some ⟨g, o, none⟩ → g ≠ mo)) :
    Calls Try.prog 48 #[.agg #[.map (some mo)], .slice a ss.length cap] w fun x w' => x = .returned (.tuple #[]) ∧ PMap w' mo (fun j => op j || ss.contains j) ∧ Wr (fun g => g = mo) w w' := by
  have HM : Hid (mo < w.heap.size ∧ PMap w mo op) := hid ⟨hm.lt, hm⟩
  obtain ⟨n, hn⟩ : ∃ n, ss.length = n := ⟨_, rfl⟩
  have HN := hid hn
  rw [hn] at hss ⊢
  clear hn hm
  go_enter Try.func48, Try.ntmps48
  go_wp2
  have HBX : Hid (Below w.heap.size w (w.alloc (.cells #[.map (some mo)] 58))) := hid (bel_alloc _ _)
  have HB0 : Hid ((w.alloc (.cells #[.map (some mo)] 58)).cell? ⟨w.heap.size, 0, none⟩ = some (.map (some mo))) := hid (alloc_cell _ _ _)
  go_loopw [8] (fun i wr => ∃ k : Nat, k ≤ n ∧ i = .int .i64 k ∧ PMap wr mo (fun j => op j || (ss.take k).contains j) ∧ Wr (fun g => g = mo) w wr ∧ wr.cell? ⟨w.heap.size, 0, none⟩ = some (.map (some mo))) (fun i _ => n - (intOf i).toNat)
  case atStart =>
    refine ⟨0, Nat.zero_le _, rfl, ?_, Wr.ofBelow HBX.out, HB0.out⟩
    exact pmap_ext (HM.out.2.of_block (HBX.out.block mo HM.out.1)) (fun i => by simp)
  case round =>
    obtain ⟨k, hk, rfl, hp, hw, hc⟩ := hrel
    have HP := hid hp
    have HW := hid hw
    clear hp hw
    by_cases hlt : k < n
    · obtain ⟨g, o, rfl, hg, hcc⟩ := HA.out (by rw [HN.out]; omega)
      obtain ⟨x, hx⟩ : ∃ x, ss[k]? = some x := ⟨ss[k]'(by rw [HN.out]; exact hlt), List.getElem?_eq_getElem _⟩
      have x0 : wr.cell? ⟨g, o + k, none⟩ = some (.int .i64 x) := (HW.out.cell (o + k) hg (hmo.out g o rfl)).trans (hcc k x hx)
      have hxo := hok.out x (List.mem_of_getElem? hx)
      have hxb : 1 ≤ x ∧ x ≤ 65535 := by unfold noPort at hxo; simp at hxo; omega
      obtain ⟨w', hr, hp', hw'⟩ := pmap_put (w1 := wr) (i := x) (by omega) (by omega) HP.out
      have hT : ss.take (k + 1) = ss.take k ++ [x] := by rw [List.take_add_one, hx]; rfl
      have HX : Hid (PMap w' mo (fun j => op j || (ss.take (k + 1)).contains j) ∧ Wr (fun g => g = mo) w w' ∧ w'.cell? ⟨w.heap.size, 0, none⟩ = some (.map (some mo))) := hid ⟨by
        refine pmap_ext hp' (fun i => ?_)
        rw [hT]
        have : (ss.take k ++ [x]).contains i = ((ss.take k).contains i || decide (i = x)) := by
          rw [Bool.eq_iff_iff]; simp
        rw [this, Bool.or_assoc], HW.out.trans hw', (hw'.cell 0 (World.block_lt_of_cell? _ _ hc) (fun e => by have e : w.heap.size = mo := e; have := HM.out.1; omega)).trans hc⟩
      clear hcc hx hxo hxb hp' hw' hT
      go_wp2_with fail
      go_roundw
      case rel => exact ⟨k + 1, by omega, by go_num, HX.out.1, HX.out.2.1, HX.out.2.2⟩
      case measure => simp [intOf]; omega
    · obtain rfl : k = n := by omega
      have HF : Hid (PMap wr mo (fun j => op j || ss.contains j)) := hid (by have := HP.out; rwa [List.take_of_length_le (by rw [HN.out]; exact Nat.le_refl _)] at this)
      go_wp2
      go_end0
      exact ⟨rfl, HF.out, HW.out⟩

end Go.Proofs.Ytgkfiolgipgbkaa.StmK
