/- Contracts of forget and bucket. -/
import Derived.Test.YtnloedhcginopaaWinE
import Derived.OwnWalk
import Derived.Maps.AppendAt
namespace Go.Proofs.Ytnloedhcginopaa.WinF
open Go.ChangeShapes Go.WideShapes Go.ChangeAt Go.RowKit Base WinM WinA WinB WinC WinD WinE WldF WldG

set_option maxHeartbeats 400000 in
theorem indexNil (F : Nat) (w : World) :
    Calls Try.prog 98 #[.slice none 0 0, .func (Fn.func 93) #[] #[.pointer (some ⟨F, 0, none⟩)]] w fun e w' => e = .returned (.int .i64 (-1)) ∧ w = w' := by
  go_enter Try.func98, Try.ntmps98
  go_wp2
  go_loop [8] (fun i => i = .int .i64 0) (fun _ => 0)
  case atStart => rfl
  case round =>
    obtain rfl := hrel
    go_wp2
    go_ret
    exact ⟨rfl, rfl⟩

set_option maxHeartbeats 400000 in
theorem deleteNil (F : Nat) (w : World) :
    Calls Try.prog 92 #[.slice none 0 0, .func (Fn.func 93) #[] #[.pointer (some ⟨F, 0, none⟩)]] w fun e w' => e = .returned (.slice none 0 0) ∧ w = w' := by
  go_enter Try.func92, Try.ntmps92
  go_wp2_with fail
  refine (indexNil F _).mono ?_
  rintro e w1 ⟨rfl, rfl⟩
  go_wp2
  go_ret
  exact ⟨rfl, rfl⟩

/-- what DeleteFunc comes to, of whatever window's buckets -/
theorem delete_any (F : Nat) (go : Option Nat) (v : Value) (bs : List Bkt) (lim : Int) (w : World) (h : Holds w go v bs) (hn : bs.length ≤ 9223372036854775807) (hF : F < w.heap.size) (hFg : go ≠ some F) (hl : w.cell? ⟨F, 0, none⟩ = some (.int .i64 lim)) :
    Calls Try.prog 92 #[v, .func (Fn.func 93) #[] #[.pointer (some ⟨F, 0, none⟩)]] w
      fun e w' => ∃ a n c, e = .returned (.slice a n c) ∧ Holds w' go (.slice a n c) (stays lim bs) ∧ Lets (fun k => go = some k) w w' := by
  rcases h with ⟨rfl, rfl, rfl⟩ | ⟨g, cap, f, rfl, rfl, hb, hf⟩
  · refine (deleteNil F w).mono ?_
    rintro e w' ⟨rfl, rfl⟩
    exact ⟨_, _, _, rfl, .inl ⟨rfl, rfl, rfl⟩, Lets.refl _ _⟩
  · have hc := hb.le
    unfold maxLen at hc
    refine (deleteBk g cap bs.length F f lim w hn (by omega) hF (fun e => hFg (by rw [e])) hl (hid hb)).mono ?_
    rintro e w' ⟨m, f', rfl, hst, hb', hk⟩
    have hlen : m = (stays lim bs).length := by rw [← hf, ← hst, toL_len]
    refine ⟨_, _, _, rfl, .inr ⟨g, cap, f', rfl, by rw [← hlen], by rw [← hlen]; exact hb', by rw [← hlen, hst, hf]⟩, (Lets.ofKeeps hk).mono fun k e => by rw [e]⟩

set_option maxRecDepth 20000 in
set_option maxHeartbeats 1000000 in
theorem forget_any (p : Nat) (go : Option Nat) (s : Win) (lim : Int) (w : World) (h : IsWin w p go s) (hn : s.bs.length ≤ 9223372036854775807) :
    Calls Try.prog 81 #[.pointer (some ⟨p, 0, none⟩), .int .i64 lim] w
      fun e w' => e = .returned (.tuple #[]) ∧ IsWin w' p go { s with bs := stays lim s.bs } ∧ Lets (fun k => k = p ∨ go = some k) w w' := by
  have hp := h.lt
  obtain ⟨c0, c1, c2, v, c3, hv⟩ := h.cells
  have HW := hid h
  have HV := hid hv
  have f3 := h.frozen 3
  have hg2 := h.lt2
  have HG2 := hid hg2
  clear h hv hg2
  go_enter Try.func81, Try.ntmps81
  go_wp2_with fail
  refine (delete_any w.heap.size go v s.bs lim _ (HV.out.of_block fun g e => Below.heap_alloc _ _ _ (HG2.out g e)) hn (by simp) (fun e => by have := HG2.out _ e; omega) (by simp)).mono ?_
  rintro e w1 ⟨va, vn, vc, rfl, hv', hl⟩
  have hl2 : Lets (fun k => go = some k) w w1 := (Lets.ofBelow ((Below.refl _ w).alloc (Nat.le_refl _) _)).trans hl
  have hpg : ¬ go = some p := HW.out.1
  have hw1 : IsWin w1 p go s ∨ True := .inr trivial
  have hb : w1.heap[p]? = w.heap[p]? := hl2.block p hp hpg
  have k3 : w1.cell? ⟨p, 3, none⟩ = some v := (World.cell?_of_block (a := ⟨p, 3, none⟩) hb).trans c3
  have g3 : w1.frozen? ⟨p, 3, none⟩ = false := (World.frozen?_of_block (a := ⟨p, 3, none⟩) hb).trans f3
  have HL2 := hid hl2
  have HV' := hid hv'
  have HBk := hid hb
  clear hl hl2 hv' hb hw1 c0 c1 c2 c3 f3
  go_wp2
  go_end0
  refine ⟨rfl, ⟨HW.out.1, .slice va vn vc, ?_, HV'.out.of_block fun g e => heap_setCell_other _ _ _ _ (fun e2 => HW.out.1 (by rw [e, e2]))⟩, (HL2.out.mono fun k e => .inr e).set _ _ (.inl (.inl rfl))⟩
  obtain ⟨_, v0, h1, _⟩ := HW.out
  rw [← HBk.out] at h1
  exact heap_setCell_same _ _ _ _ _ _ h1

/-- the row's cells, one behind the other -/
def flat (f : Nat → Bkt) (n : Nat) : List Value := (toL f n).flatMap bv

end Go.Proofs.Ytnloedhcginopaa.WinF
