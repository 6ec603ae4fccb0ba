/- Both warm-ups and the forks that are looked at in the end. -/
import Derived.Test.YtamofanfgdjmnaaWrrF
namespace Go.Proofs.Ytamofanfgdjmnaa.WrrG
set_option linter.unusedVariables false
open Go.ChangeShapes Go.WideShapes Go.ChangeAt Go.RowKit Base WrmP NumM NumC NumE NumA RefA RefB LawA WrmA WrmB WrmF WrmG WrmH WrmI WrmJ Wri WrrA WrrB WrrC WrrD WrrE WrrF

abbrev Pr := Nat × Nat × Wm
def flatP (l : List Pr) : List Value := l.flatMap fun e => [ptr e.1, ptr e.2.1]
theorem flatP_snoc (l : List Pr) (e : Pr) : flatP (l ++ [e]) = flatP l ++ [ptr e.1, ptr e.2.1] := by simp [flatP]
theorem flatP_len (l : List Pr) : (flatP l).length = l.length * 2 := by
  induction l with
  | nil => rfl
  | cons e l ih => show (ptr e.1 :: ptr e.2.1 :: flatP l).length = _; simp [ih]; omega
theorem flatP_get (l : List Pr) : ∀ (i : Nat) (e : Pr), l[i]? = some e → (flatP l)[i * 2]? = some (ptr e.1) ∧ (flatP l)[i * 2 + 1]? = some (ptr e.2.1) := by
  induction l with
  | nil => intro i e h; simp at h
  | cons a l ih =>
    intro i e h
    show (ptr a.1 :: ptr a.2.1 :: flatP l)[i * 2]? = _ ∧ (ptr a.1 :: ptr a.2.1 :: flatP l)[i * 2 + 1]? = _
    cases i with
    | zero => simp at h; subst h; simp
    | succ i =>
      rw [show (i + 1) * 2 = i * 2 + 1 + 1 by omega, show i * 2 + 1 + 1 + 1 = (i * 2 + 1) + 1 + 1 by omega]
      simp only [List.getElem?_cons_succ] at h ⊢
      exact ih i e h

abbrev Bx (w : World) (nb p q : Nat) : Prop := w.heap[nb]? = some (.cells #[ptr p, ptr q] 32)
theorem ne_pr {w : World} {p q : Nat} {m m' : Wm} (h : At w p m) (h' : RAt w q m') : p ≠ q := by
  intro e
  subst e
  unfold At at h
  unfold RAt at h'
  rw [h] at h'
  simp at h'
theorem ne_pb {w : World} {p nb x y : Nat} {m : Wm} (h : At w p m) (h' : Bx w nb x y) : nb ≠ p := by
  intro e
  subst e
  unfold At at h
  unfold Bx at h'
  rw [h] at h'
  simp at h'
theorem ne_qb {w : World} {q nb x y : Nat} {m : Wm} (h : RAt w q m) (h' : Bx w nb x y) : nb ≠ q := by
  intro e
  subst e
  unfold RAt at h
  unfold Bx at h'
  rw [h] at h'
  simp at h'
theorem row_p {w : World} {B p n : Nat} {v : Value} {xs : List Value} {m : Wm} (h : w.ownsRow B 32 2 v n xs) (hp : At w p m) : ∀ g, v.ownBlock = some g → g ≠ p := by
  rintro g hg rfl
  rcases h.2 with ⟨rfl, _⟩ | ⟨gg, cp, cur, rfl, _, hgg, _⟩
  · simp [Value.ownBlock] at hg
  · obtain rfl : gg = g := by simpa [Value.ownBlock] using hg
    unfold At at hp
    rw [hp] at hgg
    cases hgg
theorem row_q {w : World} {B q n : Nat} {v : Value} {xs : List Value} {m : Wm} (h : w.ownsRow B 32 2 v n xs) (hp : RAt w q m) : ∀ g, v.ownBlock = some g → g ≠ q := by
  rintro g hg rfl
  rcases h.2 with ⟨rfl, _⟩ | ⟨gg, cp, cur, rfl, _, hgg, _⟩
  · simp [Value.ownBlock] at hg
  · obtain rfl : gg = g := by simpa [Value.ownBlock] using hg
    unfold RAt at hp
    rw [hp] at hgg
    cases hgg

structure St (w : World) (nb : Nat) (wr : World) (v : Value) (p q : Nat) (m : Wm) (l : List Pr) : Prop where
  box : Bx wr nb p q
  hp : At wr p m
  hq : RAt wr q m
  ok : m.Ok
  row : wr.ownsRow w.heap.size 32 2 v l.length (flatP l)
  far : ∀ g, v.ownBlock = some g → g ≠ nb
  old : ∀ e ∈ l, At wr e.1 e.2.2 ∧ RAt wr e.2.1 e.2.2 ∧ e.2.2.Ok ∧ e.1 ≠ p ∧ e.2.1 ≠ q
  lo : w.heap.size ≤ nb ∧ w.heap.size ≤ p ∧ w.heap.size ≤ q
  bel : Below w.heap.size w wr

theorem row_lt {w : World} {B n : Nat} {v : Value} {xs : List Value} {e : TypeId} {s : Nat} (h : w.ownsRow B e s v n xs) : ∀ g, v.ownBlock = some g → g < w.heap.size := by
  intro g hg
  rcases h.2 with ⟨rfl, _⟩ | ⟨gg, cp, cur, rfl, _, hgg, _⟩
  · simp [Value.ownBlock] at hg
  · obtain rfl : gg = g := by simpa [Value.ownBlock] using hg
    exact (Array.getElem?_eq_some_iff.1 hgg).1

theorem St.below {w wr w' : World} {nb p q : Nat} {v : Value} {m : Wm} {l : List Pr} (h : St w nb wr v p q m l) (hb : Below wr.heap.size wr w') : St w nb w' v p q m l :=
  { box := (hb.block nb (Array.getElem?_eq_some_iff.1 h.box).1).trans h.box, hp := h.hp.below hb h.hp.lt, hq := h.hq.below hb h.hq.lt, ok := h.ok, row := owns_keep h.row (fun g hg => hb.block g (row_lt h.row g hg)), far := h.far,
    old := fun e he => by obtain ⟨a, b, c, d, f⟩ := h.old e he; exact ⟨a.below hb a.lt, b.below hb b.lt, c, d, f⟩, lo := h.lo, bel := h.bel.trans (hb.mono h.bel.size) }

theorem St.does {w wr w' : World} {nb p q : Nat} {v : Value} {m m' : Wm} {l : List Pr} (h : St w nb wr v p q m l) (hw : Wr (one p q) wr w') (ha : At w' p m') (hq : RAt w' q m') (ok : m'.Ok) : St w nb w' v p q m' l := by
  have n1 := ne_pb h.hp h.box
  have n2 := ne_qb h.hq h.box
  refine { box := (hw.block nb (Array.getElem?_eq_some_iff.1 h.box).1 (fun e => e.elim n1 n2)).trans h.box, hp := ha, hq := hq, ok := ok, row := owns_keep h.row (fun g hg => hw.block g (row_lt h.row g hg) (fun e => e.elim (row_p h.row h.hp g hg) (row_q h.row h.hq g hg))), far := h.far, old := fun e he => ?_, lo := h.lo, bel := h.bel.trans (hw.below _ h.bel.size (fun k hk => hk.elim (fun e => e ▸ h.lo.2.1) (fun e => e ▸ h.lo.2.2))) }
  obtain ⟨a, b, c, d, f⟩ := h.old e he
  exact ⟨a.wr hw (fun x => x.elim d (ne_pr a h.hq)), b.wr hw (fun x => x.elim (fun y => ne_pr h.hp b y.symm) f), c, d, f⟩

/-- a list with both more, in memory -/
structure Sm (w : World) (nb : Nat) (wr : World) (v : Value) (p q : Nat) (m : Wm) (l : List Pr) : Prop where
  box : Bx wr nb p q
  ok : m.Ok
  row : wr.ownsRow w.heap.size 32 2 v l.length (flatP l)
  far : ∀ g, v.ownBlock = some g → g ≠ nb
  hp : At wr p m
  hq : RAt wr q m
  old : ∀ e ∈ l, At wr e.1 e.2.2 ∧ RAt wr e.2.1 e.2.2 ∧ e.2.2.Ok
  lo : w.heap.size ≤ nb
  bel : Below w.heap.size w wr

theorem St.push {w wr w' : World} {nb p q : Nat} {v v' : Value} {m : Wm} {l : List Pr} {o : Obj} (h : St w nb wr v p q m l) (hown : w'.ownsRow w.heap.size 32 2 v' (l.length + 1) (flatP l ++ [ptr p, ptr q])) (hgr : (wr.alloc o).grownBy w' v.ownBlock)
    (hat : v'.ownBlock = v.ownBlock ∨ v'.ownBlock = some (wr.alloc o).heap.size) : Sm w nb w' v' p q m (l ++ [(p, q, m)]) := by
  have hal : Below wr.heap.size wr (wr.alloc o) := (Below.refl _ _).alloc (Nat.le_refl _) _
  have h2 := h.below hal
  have hlb : nb < (wr.alloc o).heap.size := (Array.getElem?_eq_some_iff.1 h2.box).1
  have kp : ∀ k, k < (wr.alloc o).heap.size → some k ≠ v.ownBlock → w'.heap[k]? = (wr.alloc o).heap[k]? := fun k hk hn => hgr.block k hk hn
  have hlow : ∀ g, v.ownBlock = some g → w.heap.size ≤ g := fun g hg => by
    rcases h.row.2 with ⟨rfl, _⟩ | ⟨gg, cp, cur, rfl, hb, hgg, _⟩
    · simp [Value.ownBlock] at hg
    · obtain rfl : gg = g := by simpa [Value.ownBlock] using hg
      exact hb
  have hat2 : ∀ e : Pr, At (wr.alloc o) e.1 e.2.2 → RAt (wr.alloc o) e.2.1 e.2.2 → At w' e.1 e.2.2 ∧ RAt w' e.2.1 e.2.2 := fun e a b =>
    ⟨(kp _ a.lt (fun x => row_p h2.row a _ x.symm rfl)).trans a, (kp _ b.lt (fun x => row_q h2.row b _ x.symm rfl)).trans b⟩
  refine { box := (kp nb hlb (fun x => h2.far _ x.symm rfl)).trans h2.box, ok := h2.ok, row := by rw [flatP_snoc, List.length_append]; exact hown, far := fun g hg => ?_, hp := (hat2 (p, q, m) h2.hp h2.hq).1, hq := (hat2 (p, q, m) h2.hp h2.hq).2, old := fun e he => ?_, lo := h2.lo.1, bel := h2.bel.grown hgr h2.bel.size (fun j e => hlow j e) }
  · rcases hat with e | e
    · exact h2.far g (e ▸ hg)
    · rw [e] at hg
      have h3 := Option.some.inj hg
      omega
  · rcases List.mem_append.1 he with he | he
    · obtain ⟨a, b, c, d, f⟩ := h2.old e he
      exact ⟨(hat2 e a b).1, (hat2 e a b).2, c⟩
    · obtain rfl := List.mem_singleton.1 he
      exact ⟨(hat2 _ h2.hp h2.hq).1, (hat2 _ h2.hp h2.hq).2, h2.ok⟩

theorem Sm.forked {w wr w' : World} {nb p q p' q' : Nat} {v : Value} {m : Wm} {l : List Pr} (h : Sm w nb wr v p q m l) (hb : Below wr.heap.size wr w') (ha : At w' p' m) (hq : RAt w' q' m) (l1 : wr.heap.size ≤ p') (l2 : wr.heap.size ≤ q') :
    St w nb ((w'.setCell ⟨nb, 0, none⟩ (ptr p')).setCell ⟨nb, 1, none⟩ (ptr q')) v p' q' m l := by
  have hlb : nb < wr.heap.size := (Array.getElem?_eq_some_iff.1 h.box).1
  have hbx : Bx w' nb p q := (hb.block nb hlb).trans h.box
  have hs := heap_setCell_same _ _ 1 _ _ (ptr q') (heap_setCell_same _ _ 0 _ _ (ptr p') hbx)
  have hw : Wr (fun k => k = nb) w' ((w'.setCell ⟨nb, 0, none⟩ (ptr p')).setCell ⟨nb, 1, none⟩ (ptr q')) := (Wr.set (R := fun k => k = nb) ⟨nb, 0, none⟩ (ptr p') rfl).trans (Wr.set (R := fun k => k = nb) ⟨nb, 1, none⟩ (ptr q') rfl)
  have hrow : w'.ownsRow w.heap.size 32 2 v l.length (flatP l) := owns_keep h.row (fun g hg => hb.block g (row_lt h.row g hg))
  refine { box := ?_, hp := ha.wr hw (fun e => by omega), hq := hq.wr hw (fun e => by omega), ok := h.ok, row := owns_keep hrow (fun g hg => hw.block g (row_lt hrow g hg) (h.far g hg)), far := h.far, old := fun e he => ?_, lo := ⟨h.lo, Nat.le_trans h.bel.size l1, Nat.le_trans h.bel.size l2⟩, bel := (h.bel.trans (hb.mono h.bel.size)).trans (hw.below _ (Nat.le_trans h.bel.size hb.size) (fun k hk => by subst hk; exact h.lo)) }
  · unfold Bx
    rw [hs]
    simp
  · obtain ⟨a, b, c⟩ := h.old e he
    have a' := a.below hb a.lt
    have b' := b.below hb b.lt
    exact ⟨a'.wr hw (fun x => ne_pb a' hbx x.symm), b'.wr hw (fun x => ne_qb b' hbx x.symm), c, by have := a.lt; omega, by have := b.lt; omega⟩

end Go.Proofs.Ytamofanfgdjmnaa.WrrG
