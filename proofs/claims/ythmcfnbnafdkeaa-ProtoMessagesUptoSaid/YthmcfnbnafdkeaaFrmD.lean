/- A copy of bytes, the call's own. -/
import Derived.Test.YthmcfnbnafdkeaaFrmC
import Derived.Lib.SliceRun
namespace Go.Proofs.Ythmcfnbnafdkeaa.FrmD
open Go.ChangeShapes Go.WideShapes Go.ChangeAt Go.RowKit Base Wri FrmP FrmA FrmB FrmC
open Go.Shelf
set_option linter.unusedVariables false
set_option linter.unusedSimpArgs false

theorem infoU8 : (Try.prog.info? 5).map (fun i => (i.zero, i.size, i.bytes)) = some (some (.int .u8 0), 1, 1) := by kernel_rfl

theorem news_of {w : World} {g o : Nat} {s : Bs} (h : ∀ i x, s[i]? = some x → w.cell? ⟨g, o + i, none⟩ = some (bv x)) : ∀ j u, (s.map bv)[j]? = some u → w.cell? ((⟨g, o, none⟩ : Addr).add j) = some u := by
  intro j u hj
  rw [List.getElem?_map] at hj
  cases hx : s[j]? with
  | none => rw [hx] at hj; cases hj
  | some x =>
    rw [hx] at hj
    obtain rfl : bv x = u := by simpa using hj
    rw [Go.WideShapes.add_plain]
    exact h j x hx
theorem one_cells (s : Bs) : ∀ u ∈ s.map bv, u.oneCell' = true := by
  intro u hu
  obtain ⟨x, _, rfl⟩ := List.mem_map.1 hu
  rfl

theorem owns_zero (w : World) (base : Nat) (e : TypeId) (h : base ≤ w.heap.size) : (w.alloc (.cells #[] e)).ownsRow base e 1 (.slice (some ⟨w.heap.size, 0, none⟩) 0 0) 0 [] :=
  ⟨rfl, .inr ⟨w.heap.size, 0, #[], rfl, h, heap_alloc_new _ _, Nat.le_refl _, by decide, rfl, rfl⟩⟩

set_option maxRecDepth 20000 in
set_option maxHeartbeats 1000000 in
theorem clone_some (g o cap : Nat) (s : Bs) (w : World) (hs : s.length ≤ 17592186044416) (h : ∀ i x, s[i]? = some x → w.cell? ⟨g, o + i, none⟩ = some (bv x)) (hg : g < w.heap.size) :
    Calls Try.prog 45 #[.slice (some ⟨g, o, none⟩) s.length cap] w fun e w' => ∃ v, e = .returned v ∧ w'.ownsRow w.heap.size 5 1 v s.length (s.map bv) ∧ Below w.heap.size w w' := by
  obtain ⟨i0, hi, hz0, hz1, hz2⟩ := info_parts infoU8
  go_enter Try.func45, Try.ntmps45
  have he : ∀ wx, (binOp .eql 28 (.slice (some ⟨g, o, none⟩) s.length cap) (.slice none 0 0)).run Try.prog wx = .ok (.bool false) wx := fun wx => Go.Lib.run_eql_slice_nil wx _ 5 _ _ _ _ _ Try.underlying28
  obtain ⟨w1, hw1⟩ : ∃ w1, w.alloc (.cells #[] 5) = w1 := ⟨_, rfl⟩
  have hown0 := owns_zero w w.heap.size 5 (Nat.le_refl _)
  have hb0 : Below w.heap.size w (w.alloc (.cells #[] 5)) := (Below.refl _ _).alloc (Nat.le_refl _) _
  have hnews : ∀ i x, s[i]? = some x → (w.alloc (.cells #[] 5)).cell? ⟨g, o + i, none⟩ = some (bv x) := fun i x hx => (hb0.cell (p := ⟨g, o + i, none⟩) hg).trans (h i x hx)
  obtain ⟨n, hn⟩ : ∃ n, s.length = n := ⟨_, rfl⟩
  have HN := hid hn
  rw [hn] at he hs ⊢
  have HX := hid (And.intro hown0 (And.intro hb0 hnews))
  clear hown0 hb0 hnews h hn hw1
  go_wp2_with (at_builtin; refine wpList_append_own_at _ rfl _ _ 28 rfl w.heap.size 5 i0 (.int .u8 0) 1 1 Try.underlying28 hi hz0 hz1 hz2 rfl (by decide) (.slice (some ⟨w.heap.size, 0, none⟩) 0 0) 0 [] rfl HX.out.1 ⟨g, o, none⟩ n cap (s.map bv) rfl (by rw [List.length_map, HN.out, Nat.mul_one]) (news_of HX.out.2.2) (one_cells s) (by unfold maxLen; omega) (by omega) (by simp) ?_; intro v w2 hown hgrow _ _)
  go_ret
  rw [Nat.zero_add, List.nil_append] at hown
  exact ⟨v, rfl, hown, HX.out.2.1.trans (Below.grown (Below.refl _ _) hgrow (by simp) (fun k e => by simp [Value.ownBlock] at e; omega))⟩

set_option maxHeartbeats 400000 in
theorem clone_nil (w : World) (c c' : Nat) : Calls Try.prog 45 #[.slice none c c'] w fun e w' => e = .returned (.slice none 0 0) ∧ w' = w := by
  have he : ∀ wx, (binOp .eql 28 (.slice none c c') (.slice none 0 0)).run Try.prog wx = .ok (.bool true) wx := fun wx => Go.Lib.run_eql_slice_nil wx _ 5 _ _ _ _ _ Try.underlying28
  go_enter Try.func45, Try.ntmps45
  go_wp2_with fail
  go_ret
  exact ⟨rfl, rfl⟩

end Go.Proofs.Ythmcfnbnafdkeaa.FrmD
