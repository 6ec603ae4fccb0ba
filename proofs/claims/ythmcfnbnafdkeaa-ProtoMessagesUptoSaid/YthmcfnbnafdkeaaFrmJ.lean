/- The document's reader in memory; its small calls. -/
import Derived.Test.YthmcfnbnafdkeaaFrmI
namespace Go.Proofs.Ythmcfnbnafdkeaa.FrmJ
open Go.ChangeShapes Go.WideShapes Go.ChangeAt Go.RowKit Base Wri FrmP FrmA FrmD FrmE FrmF FrmQ FrmR FrmX FrmY FrmL FrmI
set_option linter.unusedVariables false
set_option linter.unusedSimpArgs false

/-- the document's reader at p: what it has gathered lies somewhere -/
structure IsDr (W : World) (p : Nat) (a : Option Addr) (c : Nat) (r : Rd) : Prop where
  blk : W.heap[p]? = some (.cells #[.slice a r.g.length c, .bool r.broken] 76 (0, 0))
  bytes : BAt W W.heap.size a r.g
  room : r.g.length ≤ c ∧ c ≤ 9223372036854775807

theorem IsDr.cells {W : World} {p c : Nat} {a : Option Addr} {r : Rd} (h : IsDr W p a c r) : W.cell? ⟨p, 0, none⟩ = some (.slice a r.g.length c) ∧ W.cell? ⟨p, 1, none⟩ = some (.bool r.broken) ∧ W.frozen? ⟨p, 0, none⟩ = false ∧ W.frozen? ⟨p, 1, none⟩ = false := by
  have := h.blk
  refine ⟨?_, ?_, ?_, ?_⟩ <;> simp [World.cell?, World.frozen?, this]
theorem IsDr.lt {W : World} {p c : Nat} {a : Option Addr} {r : Rd} (h : IsDr W p a c r) : p < W.heap.size := (Array.getElem?_eq_some_iff.1 h.blk).1
theorem IsDr.keep {W W' : World} {p c : Nat} {a : Option Addr} {r : Rd} (h : IsDr W p a c r) (hs : W.heap.size ≤ W'.heap.size) (hp : W'.heap[p]? = W.heap[p]?) (hk : ∀ ad, a = some ad → ad.block < W.heap.size → W'.heap[ad.block]? = W.heap[ad.block]?) : IsDr W' p a c r :=
  ⟨hp.trans h.blk, fun h0 => by
    obtain ⟨g, q, e, hg, hc⟩ := h.bytes h0
    exact ⟨g, q, e, Nat.lt_of_lt_of_le hg hs, fun i x hx => (World.cell?_of_block (a := ⟨g, q + i, none⟩) (show W'.heap[g]? = W.heap[g]? from hk ⟨g, q, none⟩ e hg)).trans (hc i x hx)⟩, h.room⟩
theorem IsDr.below {W W' : World} {p c : Nat} {a : Option Addr} {r : Rd} (h : IsDr W p a c r) (hb : Below W.heap.size W W') : IsDr W' p a c r := h.keep hb.size (hb.block p h.lt) (fun ad _ hl => hb.block _ hl)
theorem IsDr.drewN {W : World} {p c : Nat} {a : Option Addr} {r : Rd} (h : IsDr W p a c r) (m : Nat) : IsDr (W.drewN m) p a c r := ⟨h.blk, h.bytes, h.room⟩

set_option maxRecDepth 20000 in
set_option maxHeartbeats 400000 in
theorem rnew_any (w : World) : Calls Try.prog 10 #[] w fun e w' => e = .returned (.pointer (some ⟨w.heap.size, 0, none⟩)) ∧ w.alloc (.cells #[.slice none 0 0, .bool false] 76) = w' := by
  go_enter Try.func10, Try.ntmps10
  go_wp2_with fail
  go_ret
  exact ⟨rfl, rfl⟩
theorem new_dr (w : World) : IsDr (w.alloc (.cells #[.slice none 0 0, .bool false] 76)) w.heap.size none 0 Rd.zero := ⟨heap_alloc_new _ _, fun h => absurd h (by decide), Nat.le_refl _, by omega⟩

set_option maxRecDepth 20000 in
set_option maxHeartbeats 400000 in
theorem rleft_any (p n c : Nat) (a : Option Addr) (w : World) (hn : n ≤ 9223372036854775807) (h : w.cell? ⟨p, 0, none⟩ = some (.slice a n c)) : Calls Try.prog 19 #[.pointer (some ⟨p, 0, none⟩)] w fun e w' => e = .returned (.int .i64 (n : Nat)) ∧ w' = w := by
  go_enter Try.func19, Try.ntmps19
  go_wp2_with fail
  go_ret
  exact ⟨rfl, rfl⟩
set_option maxRecDepth 20000 in
set_option maxHeartbeats 400000 in
theorem rbroken_any (p : Nat) (b : Bool) (w : World) (h : w.cell? ⟨p, 1, none⟩ = some (.bool b)) : Calls Try.prog 23 #[.pointer (some ⟨p, 0, none⟩)] w fun e w' => e = .returned (.bool b) ∧ w' = w := by
  go_enter Try.func23, Try.ntmps23
  go_wp2_with fail
  go_ret
  exact ⟨rfl, rfl⟩

set_option maxRecDepth 20000 in
set_option maxHeartbeats 2000000 in
theorem rmissing_any (p c : Nat) (a : Option Addr) (r : Rd) (w : World) (h : IsDr w p a c r) (hok : r.Ok) : Calls Try.prog 21 #[.pointer (some ⟨p, 0, none⟩)] w fun e w' => e = .returned (.int .i64 (r.missing : Nat)) ∧ ∃ m, w.drewN m = w' := by
  obtain ⟨x0, x1, _, _⟩ := h.cells
  obtain ⟨hr1, hr2⟩ := h.room
  cases hb : r.broken with
  | true =>
    have HM : Hid (r.missing = 0) := hid (by unfold Rd.missing; rw [if_pos hb])
    rw [hb] at x1
    rw [HM.out]
    clear hb h hok
    generalize r.g.length = n at *
    go_enter Try.func21, Try.ntmps21
    go_wp2_with fail
    go_ret
    exact ⟨rfl, 0, rfl⟩
  | false =>
    rw [hb] at x1
    have hr : r = ⟨r.g, false⟩ := by cases r; simp_all
    rcases open_room hok.open_ hok.fine with h4 | ⟨h4, h5, h6⟩
    · have HM : Hid (r.missing = 4 - r.g.length) := hid (by rw [hr]; exact Rd.missing_short h4)
      rw [HM.out]
      clear hb h hok hr
      generalize r.g.length = n at *
      go_enter Try.func21, Try.ntmps21
      go_wp2_with fail
      go_ret
      exact ⟨by simp; omega, 0, rfl⟩
    · have HM : Hid (r.missing = 4 + num4 r.g - r.g.length) := hid (by rw [hr]; exact Rd.missing_long h4)
      obtain ⟨hn1, h7⟩ := ok4_iff.1 h5
      obtain ⟨_, _, hnum⟩ := num4_small h7
      obtain ⟨x2, hx2⟩ : ∃ x, r.g[2]? = some x := ⟨_, List.getElem?_eq_getElem (show 2 < r.g.length by omega)⟩
      obtain ⟨x3, hx3⟩ : ∃ x, r.g[3]? = some x := ⟨_, List.getElem?_eq_getElem (show 3 < r.g.length by omega)⟩
      rw [hd_get hx2, hd_get hx3] at hnum
      obtain ⟨g, o, rfl, hg, hcb⟩ := h.bytes (by omega)
      have z2 : w.cell? ⟨g, o + 2, none⟩ = some (.int .u8 (x2.toNat : Int)) := hcb 2 x2 hx2
      have z3 : w.cell? ⟨g, o + 3, none⟩ = some (.int .u8 (x3.toNat : Int)) := hcb 3 x3 hx3
      have hxl2 := UInt8.toNat_lt x2
      have hxl3 := UInt8.toNat_lt x3
      rw [HM.out]
      clear hb h hok hr h5 hcb hx2 hx3 HM
      generalize num4 r.g = u at *
      generalize r.g.length = n at *
      generalize x2.toNat = y2 at *
      generalize x3.toNat = y3 at *
      go_enter Try.func21, Try.ntmps21
      go_wp2_with fail
      all_goals go_quiet (fail)
      all_goals go_wp2_with fail
      all_goals go_ret
      all_goals exact ⟨by simp; omega, _, rfl⟩

end Go.Proofs.Ythmcfnbnafdkeaa.FrmJ
