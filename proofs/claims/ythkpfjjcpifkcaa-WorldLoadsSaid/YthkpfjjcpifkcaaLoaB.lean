/- Samples as the program's; Clone of samples. -/
import Derived.Test.YthkpfjjcpifkcaaLoaA
import Derived.Deep.RegionHeld3
import Derived.Lib.SliceRun
import Derived.BigQuiet
import Derived.Deep.QuietTactic
import Derived.Deep.AppendLies
import Derived.StillTactics
import Derived.WalkSpells
import Derived.Laws.Pointers
import Derived.OwnWalk
namespace Go.Proofs.Ythkpfjjcpifkcaa.LoaB
open Go.ChangeShapes Go.WideShapes Go.ChangeAt Go.RowKit Base WldF Wri LoaA
set_option linter.unusedVariables false

theorem infoSam : (Try.prog.info? 64).map (fun i => (i.zero, i.size, i.bytes)) = some (some (.agg #[.int .i64 0, .int .i64 0, .int .i64 0]), 3, 24) := by kernel_rfl

/-- the cells of one sample, laid anew -/
theorem cells3 (w : World) (x y z : Value) (t : TypeId) : ∀ j u, [x, y, z][j]? = some u → (w.alloc (.cells #[x, y, z] t)).cell? ((⟨w.heap.size, 0, none⟩ : Addr).add j) = some u := by
  intro j u hj
  rw [Go.WideShapes.add_plain, Nat.zero_add]
  unfold World.cell?
  rw [heap_alloc_new]
  simpa using hj

set_option maxRecDepth 20000 in
set_option maxHeartbeats 1000000 in
theorem samples_any (a : Option Addr) (n cap : Nat) (F : Nat → Nat → Int) (w : World) (hn : n ≤ 5864062014805) (hS : Sm w a n F) :
    Calls Try.prog 14 #[.slice a n cap] w fun e w' => ∃ v, e = .returned v ∧ w'.ownsRow w.heap.size 64 3 v n (flat F n) ∧ (n = 0 → v = .slice none 0 0) ∧ Below w.heap.size w w' := by
  obtain ⟨i0, hi, hz0, hz1, hz2⟩ := info_parts infoSam
  have HS := hid hS
  clear hS
  go_enter Try.func14, Try.ntmps14
  go_wp2
  go_loopw [3, 4] (fun o i wr => ∃ (k : Nat) (v : Value), v = o ∧ k ≤ n ∧ i = .int .i64 k ∧ wr.ownsRow w.heap.size 64 3 v k (flat F k) ∧ (k = 0 → v = .slice none 0 0) ∧ Below w.heap.size w wr) (fun _ i _ => n - (intOf i).toNat)
  case atStart => exact ⟨0, .slice none 0 0, rfl, Nat.zero_le _, rfl, ⟨rfl, .inl ⟨rfl, rfl⟩⟩, fun _ => rfl, Below.refl _ _⟩
  case round =>
    obtain ⟨k, v, rfl, hk, rfl, hown, hnil, hbel⟩ := hrel
    have HN := hid hnil
    clear hnil
    have HO := hid hown
    have HB := hid hbel
    clear hown hbel
    obtain ⟨va, vc, rfl⟩ := owns_shape HO.out
    by_cases hlt : k < n
    · obtain ⟨g, o, rfl, hg, hc⟩ := HS.out (by omega)
      have c0 : wr.cell? ⟨g, o + k * 3, none⟩ = some (.int .i64 (F k 0)) := (HB.out.cell (p := ⟨g, o + k * 3 + 0, none⟩) hg).trans (hc k hlt 0 (by omega))
      have c1 : wr.cell? ⟨g, o + k * 3 + 1, none⟩ = some (.int .i64 (F k 1)) := (HB.out.cell (p := ⟨g, o + k * 3 + 1, none⟩) hg).trans (hc k hlt 1 (by omega))
      have c2 : wr.cell? ⟨g, o + k * 3 + 2, none⟩ = some (.int .i64 (F k 2)) := (HB.out.cell (p := ⟨g, o + k * 3 + 2, none⟩) hg).trans (hc k hlt 2 (by omega))
      have HF := hid (flat_succ F k)
      clear hc
      generalize F k 0 = x at *
      generalize F k 1 = y at *
      generalize F k 2 = z at *
      go_wp2_with fail
      have ag : (Value.slice va k vc).ownBlock ≠ some g := fun e => by have := (HO.out.lt g e).1; omega
      have hgr : g < wr.heap.size := by have := HB.out.size; omega
      have hsz := HB.out.size
      have hk0 : (0 : Int) ≤ (k : Int) := Int.natCast_nonneg _
      have hk1 : (k : Int) < (n : Int) := by omega
      go_region_held3 (fun w' => w'.cell? ⟨g, o + k * 3, none⟩ = some (.int .i64 x) ∧ w'.cell? ⟨g, o + k * 3 + 1, none⟩ = some (.int .i64 y) ∧ w'.cell? ⟨g, o + k * 3 + 2, none⟩ = some (.int .i64 z))
        (first
          | go_keep
          | (go_split_ands
             refine ⟨?_, ?_, ?_⟩
             · (rw [hgrow.cell_far _ (by simp; omega) (Ne.symm ag)]; assumption)
             · (rw [hgrow.cell_far _ (by simp; omega) (Ne.symm ag)]; assumption)
             · (rw [hgrow.cell_far _ (by simp; omega) (Ne.symm ag)]; assumption)))
        ((refine step_append_lies _ (by rfl) _ _ _ (by rfl) w.heap.size 64 i0 _ 3 24 Try.underlying48 hi hz0 hz1 hz2 rfl (by omega) (.slice va k vc) k (flat F k) (by rfl) ((HO.out.alloc _).drew)
            ⟨wr.heap.size, 0, none⟩ 1 1 [.int .i64 x, .int .i64 y, .int .i64 z] (by rfl) (by rfl) (World.news_of_block (cs := #[.int .i64 x, .int .i64 y, .int .i64 z]) (t := 64) (fr := (0, 0)) (heap_alloc_new wr _)) (by simp [Value.oneCell'])
            (by omega) (by unfold maxLen; omega) (by omega) (by simp; omega) (wr.heap.size + 1) (by simp) ?_; intro gg cp w1 hown1 hgrow hat hltg))
      rw [HF.out] at hown1
      have HO1 := hid hown1
      have HB1 : Hid (Below w.heap.size w w1) := hid (((HB.out.alloc hsz _).drew).grown hgrow (by simp; omega) (fun j e => (HO.out.lt j e).1))
      clear hown1 hgrow hat c0 c1 c2 HO HB ag hgr
      go_wp2_with fail
      exact ⟨⟨k + 1, _, rfl, by omega, by go_num, HO1.out, fun h => by omega, HB1.out⟩, by simp [intOf]; omega⟩
    · obtain rfl : k = n := by omega
      go_wp2_with fail
      go_ret
      exact ⟨_, rfl, HO.out, HN.out, HB.out⟩

set_option maxRecDepth 20000 in
set_option maxHeartbeats 1000000 in
theorem clone_nil (w : World) :
    Calls Try.prog 48 #[.slice none 0 0] w fun e w' => e = .returned (.slice none 0 0) ∧ w = w' := by
  have hq := fun wx => Lib.run_eql_slice_nil (P := Try.prog) wx 48 64 none 0 0 0 0 Try.underlying48
  go_enter Try.func48, Try.ntmps48
  go_wp2_with fail
  go_ret
  exact ⟨rfl, rfl⟩

set_option maxRecDepth 20000 in
set_option maxHeartbeats 1000000 in
theorem clone_some (a : Option Addr) (n cap : Nat) (F : Nat → Nat → Int) (w : World) (hn : n ≤ 4096) (h0 : 0 < n) (hS : Sm w a n F) :
    Calls Try.prog 48 #[.slice a n cap] w fun e w' => ∃ v, e = .returned v ∧ w'.ownsRow w.heap.size 64 3 v n (flat F n) ∧ Below w.heap.size w w' := by
  obtain ⟨i0, hi, hz0, hz1, hz2⟩ := info_parts infoSam
  obtain ⟨g, o, rfl, hg, hnews⟩ := hS.news h0
  have HN := hid hnews
  clear hnews
  have hq := fun wx => Lib.run_eql_slice_nil (P := Try.prog) wx 48 64 (some ⟨g, o, none⟩) n cap 0 0 Try.underlying48
  have hown1 : (w.alloc (.cells #[] 64)).ownsRow w.heap.size 64 3 (.slice (some ⟨w.heap.size, 0, none⟩) 0 0) 0 [] := ⟨rfl, .inr ⟨w.heap.size, 0, #[], rfl, Nat.le_refl _, heap_alloc_new w _, Nat.le_refl _, by decide, rfl, rfl⟩⟩
  go_enter Try.func48, Try.ntmps48
  go_wp2_with (at_builtin; (refine wpList_append_own_at _ rfl _ _ 48 rfl w.heap.size 64 i0 (.agg #[.int .i64 0, .int .i64 0, .int .i64 0]) 3 24 Try.underlying48 hi hz0 hz1 hz2 rfl (by decide) (Value.slice (some ⟨w.heap.size, 0, none⟩) 0 0) _ _ rfl hown1 ⟨g, o, none⟩ n cap (flat F n) rfl ?c1 ?c2 ?c3 ?c4 ?c5 ?c6 ?_); rotate_left 6; intro v6 w6 hown6 hgr6 hnil6 hat6)
  case c1 => exact flat_len F n
  case c2 => exact fun j u hj => ((Below.refl _ w).alloc (Nat.le_refl _) _).cell (p := (⟨g, o, none⟩ : Addr).add j) (by rw [Go.WideShapes.add_plain]; exact hg) |>.trans (HN.out j u hj)
  case c3 => exact flat_one F n
  case c4 => unfold maxLen; omega
  case c5 => omega
  case c6 => simp
  rw [List.nil_append, Nat.zero_add] at hown6
  have HO := hid hown6
  have HB : Hid (Below w.heap.size w w6) := hid (((Below.refl _ w).alloc (Nat.le_refl _) _).grown hgr6 (by simp) (fun k e => by cases e; exact Nat.le_refl _))
  clear hown6 hgr6 hnil6 hat6
  obtain ⟨va, vc, rfl⟩ := owns_shape HO.out
  go_wp2_with fail
  go_ret
  exact ⟨_, rfl, HO.out, HB.out⟩

/-- a list of samples of the call's own, nil where it is empty -/
structure Has (w : World) (B : Nat) (v : Value) (n : Nat) (F : Nat → Nat → Int) : Prop where
  own : w.ownsRow B 64 3 v n (flat F n)
  nil : n = 0 → v = .slice none 0 0

theorem Has.none (w : World) (B : Nat) (F : Nat → Nat → Int) : Has w B (.slice none 0 0) 0 F := ⟨⟨rfl, .inl ⟨rfl, rfl⟩⟩, fun _ => rfl⟩

theorem clone_any (v : Value) (B n : Nat) (F : Nat → Nat → Int) (w : World) (hn : n ≤ 4096) (h : Has w B v n F) :
    Calls Try.prog 48 #[v] w fun e w' => ∃ v', e = .returned v' ∧ Has w' w.heap.size v' n F ∧ Below w.heap.size w w' := by
  obtain ⟨a, c, rfl, hS, _⟩ := Sm.owned h.own
  by_cases h0 : n = 0
  · have e := h.nil h0
    cases e
    exact (clone_nil w).mono fun e w' ⟨h1, h2⟩ => ⟨_, h1, Has.none _ _ _, h2 ▸ Below.refl _ _⟩
  · exact (clone_some a n c F w hn (by omega) hS).mono fun e w' ⟨v', h1, h2, h3⟩ => ⟨v', h1, ⟨h2, fun h => absurd h h0⟩, h3⟩

set_option maxRecDepth 20000 in
set_option maxHeartbeats 1000000 in
theorem same_yes (a a' : Option Addr) (n cap cap' : Nat) (F : Nat → Nat → Int) (w : World) (hn : n ≤ 9223372036854775807) (hS : Sm w a n F) (hS' : Sm w a' n F) :
    Calls Try.prog 20 #[.slice a n cap, .slice a' n cap'] w fun e w' => e = .returned (.bool true) ∧ ∃ m, w.drewN m = w' := by
  have H := hid hS
  have H' := hid hS'
  clear hS hS'
  go_enter Try.func20, Try.ntmps20
  go_wp2
  go_loopw [5] (fun i wr => ∃ k m : Nat, k ≤ n ∧ i = .int .i64 k ∧ w.drewN m = wr) (fun i _ => n - (intOf i).toNat)
  case atStart => exact ⟨0, 0, Nat.zero_le _, rfl, rfl⟩
  case round =>
    obtain ⟨k, m, hk, rfl, hwr⟩ := hrel
    by_cases hlt : k < n
    · obtain ⟨g, o, rfl, hg, hc⟩ := H.out (by omega)
      obtain ⟨g', o', rfl, hg', hc'⟩ := H'.out (by omega)
      have h1 : wr.cell? ⟨g, o + k * 3, none⟩ = some (.int .i64 (F k 0)) := by rw [← hwr]; exact hc k hlt 0 (by omega)
      have h2 : wr.cell? ⟨g, o + k * 3 + 1, none⟩ = some (.int .i64 (F k 1)) := by rw [← hwr]; exact hc k hlt 1 (by omega)
      have h3 : wr.cell? ⟨g, o + k * 3 + 2, none⟩ = some (.int .i64 (F k 2)) := by rw [← hwr]; exact hc k hlt 2 (by omega)
      have k1 : wr.cell? ⟨g', o' + k * 3, none⟩ = some (.int .i64 (F k 0)) := by rw [← hwr]; exact hc' k hlt 0 (by omega)
      have k2 : wr.cell? ⟨g', o' + k * 3 + 1, none⟩ = some (.int .i64 (F k 1)) := by rw [← hwr]; exact hc' k hlt 1 (by omega)
      have k3 : wr.cell? ⟨g', o' + k * 3 + 2, none⟩ = some (.int .i64 (F k 2)) := by rw [← hwr]; exact hc' k hlt 2 (by omega)
      have HW := hid hwr
      clear hwr hc hc'
      generalize F k 0 = x at *
      generalize F k 1 = y at *
      generalize F k 2 = z at *
      have hk1 : (k : Int) < (n : Int) := by omega
      go_wp2_with fail
      go_quiet (fail)
      go_wp2
      go_roundw
      case rel => exact ⟨k + 1, m + _, by omega, by go_num, by rw [← HW.out, World.drewN_drewN]⟩
      case measure => simp [intOf]; omega
    · go_wp2
      go_ret
      exact ⟨rfl, m, hwr⟩

end Go.Proofs.Ythkpfjjcpifkcaa.LoaB
