/- Lists of bytes, owned or cut out of an array of one's own: one byte stored, one byte appended. -/
import Derived.Test.YtbpajgkhajheaaaAlbC
import Derived.Test.YtbpajgkhajheaaaAloF
import Derived.Laws.OwnMore
import Derived.Laws.Append
namespace Go.Proofs.Ytbpajgkhajheaaa.AlbD
open Go.ChangeShapes Go.WideShapes Go.ChangeAt Go.RowKit Base AloA WldF Wri AlbC
set_option linter.unusedVariables false

/-- a list of so many bytes: a row of one's own, or cut out of one, with no place behind it -/
def Pb (w : World) (B : Nat) (v : Value) (n : Nat) (xs : List Value) : Prop :=
  w.ownsRow B 5 1 v n xs ∨ ∃ g o cur, v = .slice (some ⟨g, o, none⟩) n n ∧ 0 < n ∧ n ≤ maxLen ∧ B ≤ g ∧ w.heap[g]? = some (.cells cur 5 (0, 0)) ∧ o + n ≤ cur.size ∧ xs.length = n ∧ ∀ (j : Nat) u, xs[j]? = some u → cur[o + j]? = some u

variable {w w' : World} {B n y : Nat} {v u : Value} {xs : List Value}

theorem Pb.len (h : Pb w B v n xs) : xs.length = n := by
  rcases h with h | ⟨g, o, cur, _, _, _, _, _, _, h, _⟩
  · have := h.1; omega
  · exact h
theorem Pb.shape (h : Pb w B v n xs) : ∃ a c, v = .slice a n c := by
  rcases h with h | ⟨g, o, cur, rfl, _⟩
  · exact owns_shape h
  · exact ⟨_, _, rfl⟩
theorem Pb.lt (h : Pb w B v n xs) (g : Nat) (hg : v.ownBlock = some g) : B ≤ g ∧ g < w.heap.size := by
  rcases h with h | ⟨g', o, cur, rfl, _, _, hb, hh, _⟩
  · exact h.lt g hg
  · cases hg
    exact ⟨hb, (Array.getElem?_eq_some_iff.1 hh).1⟩
theorem Pb.keep (h : Pb w B v n xs) (hk : ∀ g, v.ownBlock = some g → w'.heap[g]? = w.heap[g]?) : Pb w' B v n xs := by
  rcases h with h | ⟨g, o, cur, rfl, h0, hm, hb, hh, r⟩
  · exact .inl (owns_keep h hk)
  · exact .inr ⟨g, o, cur, rfl, h0, hm, hb, (hk g rfl).trans hh, r⟩
theorem Pb.wr {R : Nat → Prop} (h : Pb w B v n xs) (hw : Wr R w w') (hk : ∀ g, v.ownBlock = some g → ¬ R g) : Pb w' B v n xs := h.keep (fun g hg => hw.block g (h.lt g hg).2 (hk g hg))
theorem Pb.at_ (h : Pb w B v n xs) (hn : 0 < n) : ∃ g o c, v = .slice (some ⟨g, o, none⟩) n c ∧ g < w.heap.size ∧ ∀ (i : Nat) x, xs[i]? = some x → w.cell? ⟨g, o + i, none⟩ = some x ∧ w.frozen? ⟨g, o + i, none⟩ = false := by
  rcases h with h | ⟨g, o, cur, rfl, h0, hm, hb, hh, hs, hl, hx⟩
  · obtain ⟨g, c, rfl, hb, hg, hc⟩ := owns_at h hn
    refine ⟨g, 0, c, rfl, hg, fun i x hx => ⟨?_, World.ownsRow.frozenAt h _⟩⟩
    rw [Nat.zero_add]
    exact hc i x (by have := (List.getElem?_eq_some_iff.1 hx).1; have := h.1; omega) hx
  · refine ⟨g, o, n, rfl, (Array.getElem?_eq_some_iff.1 hh).1, fun i x hi => ⟨?_, ?_⟩⟩
    · simp [World.cell?, hh, hx i x hi]
    · simp [World.frozen?, hh]
theorem Pb.set {g o c : Nat} (h : Pb w B (.slice (some ⟨g, o, none⟩) n c) n xs) (y : Nat) (u : Value) : Pb (w.setCell ⟨g, o + y, none⟩ u) B (.slice (some ⟨g, o, none⟩) n c) n (xs.set y u) := by
  rcases h with h | ⟨g', o', cur, e, h0, hm, hb, hh, hs, hl, hx⟩
  · have ho : o = 0 := by
      rcases h.2 with ⟨e, _⟩ | ⟨g', c', cur, e, _⟩
      · cases e
      · cases e; rfl
    subst ho
    rw [Nat.zero_add]
    exact .inl (World.ownsRow.stored h y u).1
  · cases e
    refine .inr ⟨g, o, cur.setIfInBounds (o + y) u, rfl, h0, hm, hb, heap_setCell_same w g (o + y) cur 5 u hh, by simpa using hs, by simpa using hl, fun j x hj => ?_⟩
    rw [List.getElem?_set] at hj
    rw [Array.getElem?_setIfInBounds]
    split at hj
    · rename_i e
      subst e
      rw [if_pos rfl]
      split at hj
      · rw [if_pos (by omega)]; exact hj
      · cases hj
    · rename_i e
      rw [if_neg (by omega)]
      exact hx j x hj

theorem infoU8 : (Try.prog.info? 5).map (fun i => (i.zero, i.size, i.bytes)) = some (some (.int .u8 0), 1, 1) := by kernel_rfl

/-- one byte appended -/
theorem one_run (h : Pb w B v n xs) (hB : B ≤ w.heap.size) (a : Addr) (c : Nat) (hu : w.cell? a = some u) (h1 : u.oneCell' = true) (hn : n ≤ 17592186044416) :
    ∃ v' w', (Builtin.append_ #[23, 23] 23 #[v, .slice (some a) 1 c]).run Try.prog w = .ok v' w' ∧ w'.ownsRow B 5 1 v' (n + 1) (xs ++ [u]) ∧ w.grownBy w' v.ownBlock ∧ (v'.ownBlock = v.ownBlock ∨ v'.ownBlock = some w.heap.size) ∧
      (∀ g o c' o' c'', v = .slice (some ⟨g, o, none⟩) n c' → v' = .slice (some ⟨g, o', none⟩) (n + 1) c'' → o' = o) ∧ ∀ g o c', v = .slice (some ⟨g, o, none⟩) n c' → ∀ q, q < n → w'.cell? ⟨g, o + q, none⟩ = w.cell? ⟨g, o + q, none⟩ := by
  obtain ⟨i0, hi, hz0, hz1, hz2⟩ := info_parts infoU8
  rcases h with h | ⟨g, o, cur, rfl, h0, hm, hb, hh, hs, hl, hx⟩
  · obtain ⟨v', w', k1, k2, k3, k4, k5⟩ := AloF.run_one w B 23 23 5 i0 (.int .u8 0) 1 Try.underlying23 hi hz0 hz1 hz2 rfl v n xs h a c u hu h1 (by unfold maxLen; omega) (by omega) hB
    have zero : ∀ (w0 : World) (v0 : Value) (n0 : Nat) (xs0 : List Value) g o c', w0.ownsRow B 5 1 v0 n0 xs0 → v0 = .slice (some ⟨g, o, none⟩) n0 c' → o = 0 := fun w0 v0 n0 xs0 g o c' h e => by
      subst e
      rcases h.2 with ⟨e, _⟩ | ⟨g', c', cur, e, _⟩
      · cases e
      · cases e; rfl
    refine ⟨v', w', k1, k2, k3, k4, fun g o c' o' c'' e e' => by rw [zero _ _ _ _ _ _ _ h e, zero _ _ _ _ _ _ _ k2 e'], fun g o c' e q hq => ?_⟩
    have ho : o = 0 := zero _ _ _ _ _ _ _ h e
    subst ho
    rw [Nat.zero_add]
    exact k5 g (by rw [e]; rfl) q hq
  · have hrun := run_append_grow (P := Try.prog) (w := w) 23 23 5 i0 (.int .u8 0) Try.underlying23 hi hz0 ⟨g, o, none⟩ n n xs (by rw [hz1, hl, Nat.mul_one]) (fun j u hj => by
      rw [Go.WideShapes.add_plain]
      simp [World.cell?, hh, hx j u hj]) a 1 c [u] (by rw [hz1]; rfl) (fun j x hj => by
      match j, hj with
      | 0, hj => simp at hj; subst hj; simpa [Addr.add] using hu
      | k + 1, hj => simp at hj) (by omega) (by omega) (growslice_fits (by omega) (by rw [hz2]; omega))
    have hge := grownCap_ge w (n + 1) n 5
    have hcm : grownCap w (n + 1) n 5 ≤ maxLen := grownCap_le_maxLen w (n + 1) n 5 (by unfold maxLen; omega)
    have hlt : g < w.heap.size := (Array.getElem?_eq_some_iff.1 hh).1
    refine ⟨_, _, hrun, ⟨by simp [hl], .inr ⟨w.heap.size, _, _, rfl, hB, heap_alloc_new w.drew _, hge, hcm, ?_, ?_⟩⟩, ⟨rfl, rfl, rfl, by simp, fun k hk _ => AlbC.heap_alloc_old w.drew _ k hk⟩, Or.inr rfl, fun g' o' c' o'' c'' e e' => (by cases e; cases e'; omega), fun g' o' c' e q hq => ?_⟩
    · simp only [Array.size_append, List.size_toArray, size_zeroCells, Value.cells, hl, List.length_cons, List.length_nil]
      simp
      omega
    · simp only [Array.toList_append, List.append_assoc]
      rw [← List.append_assoc]
      have : (n + 1) * 1 = (xs ++ [u]).length := by simp [hl]
      rw [this]
      exact List.take_left
    · cases e
      exact World.cell?_of_block (a := ⟨g, o + q, none⟩) (AlbC.heap_alloc_old w.drew _ g hlt)

end Go.Proofs.Ytbpajgkhajheaaa.AlbD
