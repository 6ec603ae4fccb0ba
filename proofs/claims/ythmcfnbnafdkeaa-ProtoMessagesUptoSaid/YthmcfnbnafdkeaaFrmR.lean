/- A reader in memory; its small calls. -/
import Derived.Test.YthmcfnbnafdkeaaFrmQ
import Derived.Test.YthmcfnbnafdkeaaFrmF
import Derived.Deep.AppendLies
namespace Go.Proofs.Ythmcfnbnafdkeaa.FrmR
open Go.ChangeShapes Go.WideShapes Go.ChangeAt Go.RowKit Base Wri FrmP FrmA FrmB FrmC FrmD FrmE FrmF FrmQ
set_option linter.unusedVariables false
set_option linter.unusedSimpArgs false

/-- a reader at p: what it has gathered lies in a row of its own -/
structure IsRd (W : World) (B p : Nat) (va : Value) (r : Rd) : Prop where
  blk : W.heap[p]? = some (.cells #[va, .bool r.broken] 74 (0, 0))
  own : W.ownsRow B 5 1 va r.g.length (r.g.map bv)

theorem IsRd.cells {W : World} {B p : Nat} {va : Value} {r : Rd} (h : IsRd W B p va r) : W.cell? ⟨p, 0, none⟩ = some va ∧ W.cell? ⟨p, 1, none⟩ = some (.bool r.broken) ∧ W.frozen? ⟨p, 0, none⟩ = false ∧ W.frozen? ⟨p, 1, none⟩ = false := by
  have := h.blk
  refine ⟨?_, ?_, ?_, ?_⟩ <;> simp [World.cell?, World.frozen?, this]
theorem IsRd.lt {W : World} {B p : Nat} {va : Value} {r : Rd} (h : IsRd W B p va r) : p < W.heap.size := (Array.getElem?_eq_some_iff.1 h.blk).1
theorem IsRd.keep {W W' : World} {B p : Nat} {va : Value} {r : Rd} (h : IsRd W B p va r) (hp : W'.heap[p]? = W.heap[p]?) (hk : ∀ g, va.ownBlock = some g → W'.heap[g]? = W.heap[g]?) : IsRd W' B p va r := ⟨hp.trans h.blk, owns_keep h.own hk⟩
theorem IsRd.below {W W' : World} {B p : Nat} {va : Value} {r : Rd} (h : IsRd W B p va r) (hb : Below W.heap.size W W') : IsRd W' B p va r := h.keep (hb.block p h.lt) (fun g e => hb.block g (h.own.lt g e).2)
theorem IsRd.drewN {W : World} {B p : Nat} {va : Value} {r : Rd} (h : IsRd W B p va r) (m : Nat) : IsRd (W.drewN m) B p va r := ⟨h.blk, h.own⟩
/-- the bytes gathered, as they lie -/
theorem IsRd.slice {W : World} {B p : Nat} {va : Value} {r : Rd} (h : IsRd W B p va r) : ∃ a c, va = .slice a r.g.length c ∧ BAt W W.heap.size a r.g ∧ (0 < r.g.length → ∃ g, a = some ⟨g, 0, none⟩ ∧ B ≤ g ∧ g < W.heap.size ∧ g ≠ p ∧ r.g.length ≤ c ∧ c ≤ maxLen) := by
  have hlt := h.own.lt
  have hcl : ∀ g, va.ownBlock = some g → ∀ j u, (r.g.map bv)[j]? = some u → W.cell? ((⟨g, 0, none⟩ : Addr).add j) = some u := fun g e => h.own.cells e
  rcases h.own.2 with ⟨rfl, h0⟩ | ⟨g, cap, cur, rfl, hb, hh, hc, hm, hs, hcur⟩
  · exact ⟨none, 0, by rw [h0], fun h1 => by omega, fun h1 => by omega⟩
  · refine ⟨some ⟨g, 0, none⟩, cap, rfl, fun h1 => ⟨g, 0, rfl, (hlt g rfl).2, fun i x hx => ?_⟩, fun h1 => ⟨g, rfl, hb, (hlt g rfl).2, ?_, hc, hm⟩⟩
    · have := hcl g rfl i (bv x) (by rw [List.getElem?_map, hx]; rfl)
      rwa [Go.WideShapes.add_plain] at this
    · rintro rfl
      rw [h.blk] at hh
      have := Option.some.inj hh
      injection this with _ e _
      exact absurd e (by decide)

set_option maxRecDepth 20000 in
set_option maxHeartbeats 400000 in
theorem New_any (w : World) : Calls Try.prog 9 #[] w fun e w' => e = .returned (.pointer (some ⟨w.heap.size, 0, none⟩)) ∧ w.alloc (.cells #[.slice none 0 0, .bool false] 74) = w' := by
  go_enter Try.func9, Try.ntmps9
  go_wp2_with fail
  go_ret
  exact ⟨rfl, rfl⟩
theorem new_rd (w : World) (B : Nat) : IsRd (w.alloc (.cells #[.slice none 0 0, .bool false] 74)) B w.heap.size (.slice none 0 0) Rd.zero := ⟨heap_alloc_new _ _, World.ownsRow_nil _ _ _ _⟩

set_option maxRecDepth 20000 in
set_option maxHeartbeats 400000 in
theorem left_any (p n c : Nat) (a : Option Addr) (w : World) (hn : n ≤ 9223372036854775807) (h : w.cell? ⟨p, 0, none⟩ = some (.slice a n c)) : Calls Try.prog 18 #[.pointer (some ⟨p, 0, none⟩)] w fun e w' => e = .returned (.int .i64 (n : Nat)) ∧ w' = w := by
  go_enter Try.func18, Try.ntmps18
  go_wp2_with fail
  go_ret
  exact ⟨rfl, rfl⟩
set_option maxRecDepth 20000 in
set_option maxHeartbeats 400000 in
theorem broken_any (p : Nat) (b : Bool) (w : World) (h : w.cell? ⟨p, 1, none⟩ = some (.bool b)) : Calls Try.prog 22 #[.pointer (some ⟨p, 0, none⟩)] w fun e w' => e = .returned (.bool b) ∧ w' = w := by
  go_enter Try.func22, Try.ntmps22
  go_wp2_with fail
  go_ret
  exact ⟨rfl, rfl⟩

set_option maxRecDepth 20000 in
set_option maxHeartbeats 1000000 in
theorem missing_any (B p : Nat) (va : Value) (r : Rd) (w : World) (h : IsRd w B p va r) (hok : r.Ok) : Calls Try.prog 20 #[.pointer (some ⟨p, 0, none⟩)] w fun e w' => e = .returned (.int .i64 (r.missing : Nat)) ∧ ∃ m, w.drewN m = w' := by
  obtain ⟨x0, x1, _, _⟩ := h.cells
  obtain ⟨a, c, rfl, hba, _⟩ := h.slice
  have hl := hok.left
  cases hb : r.broken with
  | true =>
    have HM : Hid (r.missing = 0) := hid (by unfold Rd.missing; rw [if_pos hb])
    rw [hb] at x1
    rw [HM.out]
    clear hb hba h hok
    go_enter Try.func20, Try.ntmps20
    go_wp2_with fail
    go_ret
    exact ⟨rfl, 0, rfl⟩
  | false =>
    rw [hb] at x1
    have hr : r = ⟨r.g, false⟩ := by cases r; simp_all
    rcases open_room hok.open_ hok.fine with h4 | ⟨h4, h5, h6⟩
    · have HC := hid (sizeOf_no a c r.g w (by omega) (hid hba) (by unfold isz; simp; intro h5; omega))
      have HM : Hid (r.missing = 4 - r.g.length) := hid (by rw [hr]; exact Rd.missing_short h4)
      rw [HM.out]
      clear hb hba h hok hr
      generalize r.g.length = n at *
      go_enter Try.func20, Try.ntmps20
      go_wp2_with fail
      refine HC.out.mono ?_
      rintro e w1 ⟨rfl, m, rfl⟩
      have y0 : (w.drewN m).cell? ⟨p, 0, none⟩ = some (.slice a n c) := x0
      clear HC
      go_wp2_with fail
      go_ret
      exact ⟨by simp; omega, m, rfl⟩
    · have HC := hid (sizeOf_yes a c r.g w (by omega) (hid hba) h4 h5)
      have HM : Hid (r.missing = 4 + num4 r.g - r.g.length) := hid (by rw [hr]; exact Rd.missing_long h4)
      have h7 := (ok4_iff.1 h5).2
      rw [HM.out]
      clear hb hba h hok hr h5
      generalize num4 r.g = u at *
      generalize r.g.length = n at *
      go_enter Try.func20, Try.ntmps20
      go_wp2_with fail
      refine HC.out.mono ?_
      rintro e w1 ⟨rfl, m, rfl⟩
      have y0 : (w.drewN m).cell? ⟨p, 0, none⟩ = some (.slice a n c) := x0
      clear HC
      go_wp2_with fail
      go_ret
      exact ⟨by simp; omega, m, rfl⟩

end Go.Proofs.Ythmcfnbnafdkeaa.FrmR
