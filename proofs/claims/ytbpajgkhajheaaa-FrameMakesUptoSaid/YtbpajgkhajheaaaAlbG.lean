/- A book's lists of bytes: what the growing loops leave. -/
import Derived.Test.YtbpajgkhajheaaaAlbE
namespace Go.Proofs.Ytbpajgkhajheaaa.AlbG
open Go.ChangeShapes Go.WideShapes Go.ChangeAt Go.RowKit Base AloA WldF Wri AlbC AlbD AlbE
set_option linter.unusedVariables false

variable {w w1 wr w5 w6 : World} {B n y m N : Nat} {v gv gv' va va' u : Value} {ys : List Value} {L : Nat → Value} {l : Nat → Nat} {o : Obj}

/-- m lists grown, one after the other, and kept in a list -/
structure Al (w1 : World) (B N : Nat) (L : Nat → Value) (l : Nat → Nat) (m : Nat) (va : Value) (ys : List Value) (wr : World) : Prop where
  wrote : Wr (Mine N L) w1 wr
  len : ys.length = m
  all : wr.ownsRow w1.heap.size 23 1 va m ys
  own : ∀ j, m ≤ j → j < N → Pb wr B (L j) (l j) (List.replicate (l j) (mkB j))
  seen : ∀ j, j < m → ∃ g f c, ys[j]? = some (.slice (some ⟨g, f, none⟩) (l j + 20) c) ∧ g < wr.heap.size ∧ ((L j).ownBlock = some g ∨ w1.heap.size ≤ g) ∧ va.ownBlock ≠ some g ∧ ∀ q, q < l j + 20 → wr.cell? ⟨g, f + q, none⟩ = some (mkB j)
  orig : ∀ j, j < N → ∀ g f c, L j = .slice (some ⟨g, f, none⟩) (l j) c → ∀ q, q < l j → wr.cell? ⟨g, f + q, none⟩ = some (mkB j)

theorem Al.start (h : ∀ j, j < N → Pb w1 B (L j) (l j) (List.replicate (l j) (mkB j))) : Al w1 B N L l 0 (.slice none 0 0) [] w1 :=
  ⟨Wr.refl _ _, rfl, ⟨rfl, .inl ⟨rfl, rfl⟩⟩, fun j _ hj => h j hj, fun j hj => by omega, fun j hj g f c e q hq => by
    obtain ⟨g', o', c', e2, _, hc⟩ := (h j hj).at_ (by omega)
    rw [e] at e2
    cases e2
    exact (hc q _ (by simp [hq])).1⟩

theorem Al.step (hoff : ∀ j g, j < N → (L j).ownBlock = some g → g < w1.heap.size) (hap : ∀ i k g, i < N → k < N → (L i).ownBlock = some g → (L k).ownBlock = some g → i = k) (h : Al w1 B N L l m va ys wr) (hm : m < N) (ha : App wr B (L m) (l m) (mkB m) 20 gv w5)
    (hown : w6.ownsRow w1.heap.size 23 1 va' (m + 1) (ys ++ [gv])) (hgr : (w5.alloc o).grownBy w6 va.ownBlock) (hat : va'.ownBlock = va.ownBlock ∨ va'.ownBlock = some (w5.alloc o).heap.size) : Al w1 B N L l (m + 1) va' (ys ++ [gv]) w6 := by
  have hal : Below w5.heap.size w5 (w5.alloc o) := (Below.refl _ _).alloc (Nat.le_refl _) _
  have hs1 := h.wrote.size
  have hs2 := ha.wrote.size
  have hs3 := hal.size
  have hva := h.all.lt
  have hlen := h.len
  -- a block that is neither list m's nor the list of lists'
  have far : ∀ k, k < wr.heap.size → (L m).ownBlock ≠ some k → va.ownBlock ≠ some k → w6.heap[k]? = wr.heap[k]? := fun k hk h1 h2 =>
    (hgr.block k (by omega) (fun e => h2 e.symm)).trans ((hal.block k (by omega)).trans (ha.wrote.block k hk h1))
  have vaL : ∀ j g, j < N → (L j).ownBlock = some g → va.ownBlock ≠ some g := fun j g hj hg e => by
    have := hoff j g hj hg
    have := (hva g e).1
    omega
  refine ⟨?_, by simp [hlen], hown, fun j hmj hj => ?_, fun j hj => ?_, fun j hj g f c eL q hq => ?_⟩
  · refine Wr.on (Wr.on (Wr.on h.wrote ha.wrote (fun k e => .inl ⟨m, hm, e⟩)) (Wr.ofBelow (R := fun _ => False) hal) (fun k e => e.elim)) (Wr.ofGrown hgr (R := fun k => va.ownBlock = some k) (fun k e => e)) (fun k e => .inr (hva k e).1)
  · refine (h.own j (by omega) hj).keep (fun k hk => far k ?_ (fun e => ?_) (vaL j k hj hk))
    · have := hoff j k hj hk; omega
    · have := hap j m k hj hm hk e; omega
  · by_cases e : j = m
    · subst e
      obtain ⟨g, f, c, e1, hg2, hc⟩ := ha.own.at_ (by omega)
      have hgL : (L j).ownBlock = some g ∨ wr.heap.size ≤ g := by
        rcases ha.at_ with h1 | ⟨k, h1, h2⟩
        · left; rw [← h1, e1]; rfl
        · right; rw [e1] at h1; cases h1; exact h2
      have hvg : va.ownBlock ≠ some g := fun e2 => by
        rcases hgL with h1 | h1
        · exact vaL j g hm h1 e2
        · have := (hva g e2).2; omega
      refine ⟨g, f, c, by rw [e1, List.getElem?_append_right (by omega), hlen]; simp, ?_, hgL.imp id (fun h1 => by omega), ?_, fun q hq => ?_⟩
      · have := hgr.size; omega
      · rcases hat with h1 | h1
        · rw [h1]; exact hvg
        · rw [h1]; intro e2; have := Option.some.inj e2; omega
      · exact (World.cell?_of_block (a := ⟨g, f + q, none⟩) ((hgr.block g (by omega) (fun e2 => hvg e2.symm)).trans (hal.block g hg2))).trans (hc q (mkB j) (by simp [hq])).1
    · obtain ⟨g, f, c, e1, hg2, hgL, hvg, hc⟩ := h.seen j (by omega)
      have hLm : (L m).ownBlock ≠ some g := fun e2 => by
        rcases hgL with h1 | h1
        · exact e (hap j m g (by omega) hm h1 e2)
        · have := hoff m g hm e2; omega
      refine ⟨g, f, c, by rw [List.getElem?_append_left (by omega)]; exact e1, by have := hgr.size; omega, hgL, ?_, fun q hq => ?_⟩
      · rcases hat with h1 | h1
        · rw [h1]; exact hvg
        · rw [h1]; intro e2; have := Option.some.inj e2; omega
      · exact (World.cell?_of_block (a := ⟨g, f + q, none⟩) (far g hg2 hLm hvg)).trans (hc q hq)
  · have hg : (L j).ownBlock = some g := by rw [eL]; rfl
    by_cases e : j = m
    · subst e
      have hgl := hoff j g hm hg
      exact (World.cell?_of_block (a := ⟨g, f + q, none⟩) ((hgr.block g (by omega) (fun e2 => vaL j g hm hg e2.symm)).trans (hal.block g (by omega)))).trans (ha.orig g f c eL q hq)
    · have hgl := hoff j g hj hg
      exact (World.cell?_of_block (a := ⟨g, f + q, none⟩) (far g (by omega) (fun e2 => e (hap j m g hj hm hg e2)) (vaL j g hj hg))).trans (h.orig j hj g f c eL q hq)

end Go.Proofs.Ytbpajgkhajheaaa.AlbG
