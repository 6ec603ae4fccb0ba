/- What lies in memory in the loop of WorldClocks: both clocks, the old ones, and what these stood at. -/
import Derived.Test.YtcfejifckcbdlaaWclA
namespace Go.Proofs.Ytcfejifckcbdlaa.WclB
open Go.ChangeShapes Go.WideShapes Go.ChangeAt Go.RowKit Base ClkM Clk WldA WldF WldG Mem Wri WclA

def ptr (b : Nat) : Value := .pointer (some ⟨b, 0, none⟩)

structure Wc (w0 : World) (cb rb : Nat) (sc sr : Int) (bs : List Nat) (ss : List Int) (vo vs : Value) (wr : World) : Prop where
  c : wr.cell? ⟨cb, 0, none⟩ = some (.int .i64 sc)
  cf : wr.frozen? ⟨cb, 0, none⟩ = false
  r : wr.cell? ⟨rb, 0, none⟩ = some (.int .i64 sr)
  rf : wr.frozen? ⟨rb, 0, none⟩ = false
  cr : cb ≠ rb
  lc : w0.heap.size ≤ cb
  lr : w0.heap.size ≤ rb
  old : ∀ (i b : Nat), bs[i]? = some b → w0.heap.size ≤ b ∧ b < wr.heap.size ∧ b ≠ rb ∧ ∀ x : Int, ss[i]? = some x → wr.cell? ⟨b, 0, none⟩ = some (.int .i64 x)
  own1 : wr.ownsRow w0.heap.size 23 1 vo bs.length (bs.map ptr)
  own2 : wr.ownsRow w0.heap.size 3 1 vs ss.length (ss.map (Value.int .i64))
  f1 : ∀ g, vo.ownBlock = some g → g ≠ cb ∧ g ≠ rb ∧ g ∉ bs
  f2 : ∀ g, vs.ownBlock = some g → g ≠ cb ∧ g ≠ rb ∧ g ∉ bs
  f12 : ∀ g, vo.ownBlock = some g → vs.ownBlock ≠ some g
  bel : Below w0.heap.size w0 wr

variable {w0 wr w' : World} {cb rb : Nat} {sc sr t : Int} {bs : List Nat} {ss : List Int} {vo vs v' : Value}

theorem Wc.size (h : Wc w0 cb rb sc sr bs ss vo vs wr) : w0.heap.size ≤ wr.heap.size := h.bel.size
theorem Wc.clt (h : Wc w0 cb rb sc sr bs ss vo vs wr) : cb < wr.heap.size := World.block_lt_of_cell? _ _ h.c
theorem Wc.rlt (h : Wc w0 cb rb sc sr bs ss vo vs wr) : rb < wr.heap.size := World.block_lt_of_cell? _ _ h.r

theorem Wc.below (h : Wc w0 cb rb sc sr bs ss vo vs wr) (hb : Below wr.heap.size wr w') : Wc w0 cb rb sc sr bs ss vo vs w' where
  c := (hb.cell (p := ⟨cb, 0, none⟩) h.clt).trans h.c
  cf := (hb.frozen (p := ⟨cb, 0, none⟩) h.clt).trans h.cf
  r := (hb.cell (p := ⟨rb, 0, none⟩) h.rlt).trans h.r
  rf := (hb.frozen (p := ⟨rb, 0, none⟩) h.rlt).trans h.rf
  cr := h.cr
  lc := h.lc
  lr := h.lr
  old := fun i b hi => by
    obtain ⟨h1, h2, h3, h4⟩ := h.old i b hi
    exact ⟨h1, Nat.lt_of_lt_of_le h2 hb.size, h3, fun x hx => (hb.cell (p := ⟨b, 0, none⟩) h2).trans (h4 x hx)⟩
  own1 := owns_keep h.own1 fun g hg => hb.block g (h.own1.lt g hg).2
  own2 := owns_keep h.own2 fun g hg => hb.block g (h.own2.lt g hg).2
  f1 := h.f1
  f2 := h.f2
  f12 := h.f12
  bel := h.bel.trans (hb.mono h.size)

theorem Wc.alloc (h : Wc w0 cb rb sc sr bs ss vo vs wr) (o : Obj) : Wc w0 cb rb sc sr bs ss vo vs (wr.alloc o) := h.below ((Below.refl _ _).alloc (Nat.le_refl _) o)
theorem Wc.drewN (h : Wc w0 cb rb sc sr bs ss vo vs wr) (n : Nat) : Wc w0 cb rb sc sr bs ss vo vs (wr.drewN n) := h.below ⟨rfl, rfl, rfl, Nat.le_refl _, fun _ _ => rfl⟩

theorem Wc.setC (h : Wc w0 cb rb sc sr bs ss vo vs wr) (hf : ∀ b ∈ bs, b ≠ cb) (t : Int) : Wc w0 cb rb t sr bs ss vo vs (wr.setCell ⟨cb, 0, none⟩ (.int .i64 t)) where
  c := World.cell?_setCell_same _ _ _ h.c
  cf := by rw [World.frozen?_setCell]; exact h.cf
  r := by rw [World.cell?_setCell_other _ _ _ _ (by intro e; exact h.cr (congrArg Addr.block e))]; exact h.r
  rf := by rw [World.frozen?_setCell]; exact h.rf
  cr := h.cr
  lc := h.lc
  lr := h.lr
  old := fun i b hi => by
    obtain ⟨h1, h2, h3, h4⟩ := h.old i b hi
    exact ⟨h1, by simpa using h2, h3, fun x hx => by rw [World.cell?_setCell_other _ _ _ _ (by intro e; exact hf b (List.mem_of_getElem? hi) (congrArg Addr.block e).symm)]; exact h4 x hx⟩
  own1 := owns_keep h.own1 fun g hg => heap_setCell_other _ _ _ _ (h.f1 g hg).1
  own2 := owns_keep h.own2 fun g hg => heap_setCell_other _ _ _ _ (h.f2 g hg).1
  f1 := h.f1
  f2 := h.f2
  f12 := h.f12
  bel := h.bel.setCell h.lc _

theorem Wc.setR (h : Wc w0 cb rb sc sr bs ss vo vs wr) (t : Int) : Wc w0 cb rb sc t bs ss vo vs (wr.setCell ⟨rb, 0, none⟩ (.int .i64 t)) where
  c := by rw [World.cell?_setCell_other _ _ _ _ (by intro e; exact h.cr (congrArg Addr.block e).symm)]; exact h.c
  cf := by rw [World.frozen?_setCell]; exact h.cf
  r := World.cell?_setCell_same _ _ _ h.r
  rf := by rw [World.frozen?_setCell]; exact h.rf
  cr := h.cr
  lc := h.lc
  lr := h.lr
  old := fun i b hi => by
    obtain ⟨h1, h2, h3, h4⟩ := h.old i b hi
    exact ⟨h1, by simpa using h2, h3, fun x hx => by rw [World.cell?_setCell_other _ _ _ _ (by intro e; exact h3 (congrArg Addr.block e).symm)]; exact h4 x hx⟩
  own1 := owns_keep h.own1 fun g hg => heap_setCell_other _ _ _ _ (h.f1 g hg).2.1
  own2 := owns_keep h.own2 fun g hg => heap_setCell_other _ _ _ _ (h.f2 g hg).2.1
  f1 := h.f1
  f2 := h.f2
  f12 := h.f12
  bel := h.bel.setCell h.lr _

theorem Wc.pushO (h : Wc w0 cb rb sc sr bs ss vo vs wr) (hl : ss.length = bs.length) (ho : w'.ownsRow w0.heap.size 23 1 v' (bs.length + 1) (bs.map ptr ++ [ptr cb])) (hg : wr.grownBy w' vo.ownBlock) (hv : v'.ownBlock = vo.ownBlock ∨ v'.ownBlock = some wr.heap.size) :
    Wc w0 cb rb sc sr (bs ++ [cb]) ss v' vs w' := by
  have hc := h.clt
  have hr := h.rlt
  have hlt : ∀ g, v'.ownBlock = some g → g ≠ cb ∧ g ≠ rb ∧ g ∉ bs ++ [cb] := fun g e => by
    rcases hv with hv | hv
    · have := h.f1 g (hv.symm.trans e)
      exact ⟨this.1, this.2.1, by simp [this.1, this.2.2]⟩
    · rw [hv] at e; obtain rfl := Option.some.inj e
      refine ⟨by omega, by omega, fun hm => ?_⟩
      rcases List.mem_append.1 hm with hm | hm
      · obtain ⟨i, hi⟩ := List.getElem?_of_mem hm
        have := (h.old i _ hi).2.1
        omega
      · have := List.mem_singleton.1 hm; omega
  have hk : ∀ k, k < wr.heap.size → vo.ownBlock ≠ some k → w'.heap[k]? = wr.heap[k]? := fun k h1 h2 => hg.block k h1 (fun e => h2 e.symm)
  have n1 : vo.ownBlock ≠ some cb := fun e => (h.f1 _ e).1 rfl
  have n2 : vo.ownBlock ≠ some rb := fun e => (h.f1 _ e).2.1 rfl
  refine { c := (World.cell?_of_block (a := ⟨cb, 0, none⟩) (hk cb hc n1)).trans h.c, cf := (World.frozen?_of_block (a := ⟨cb, 0, none⟩) (hk cb hc n1)).trans h.cf, r := (World.cell?_of_block (a := ⟨rb, 0, none⟩) (hk rb hr n2)).trans h.r, rf := (World.frozen?_of_block (a := ⟨rb, 0, none⟩) (hk rb hr n2)).trans h.rf, cr := h.cr, lc := h.lc, lr := h.lr, old := fun i b hi => ?_, own1 := by simpa using ho, own2 := owns_keep h.own2 fun g e => hk g (h.own2.lt g e).2 (fun e2 => h.f12 g e2 e), f1 := hlt, f2 := fun g e => ?_, f12 := fun g e e2 => ?_, bel := h.bel.grown hg h.size (fun k e => (h.own1.lt k e).1) }
  · rcases Nat.lt_or_ge i bs.length with hi2 | hi2
    · rw [List.getElem?_append_left hi2] at hi
      obtain ⟨h1, h2, h3, h4⟩ := h.old i b hi
      exact ⟨h1, Nat.lt_of_lt_of_le h2 hg.size, h3, fun x hx => (World.cell?_of_block (a := ⟨b, 0, none⟩) (hk b h2 (fun e => (h.f1 _ e).2.2 (List.mem_of_getElem? hi)))).trans (h4 x hx)⟩
    · rw [List.getElem?_append_right hi2] at hi
      have hb : b = cb := by
        cases hj : i - bs.length with
        | zero => rw [hj] at hi; simpa using hi.symm
        | succ j => rw [hj] at hi; simp at hi
      subst hb
      refine ⟨h.lc, Nat.lt_of_lt_of_le hc hg.size, h.cr, fun x hx => ?_⟩
      rw [List.getElem?_eq_none (by omega)] at hx
      cases hx
  · obtain ⟨h1, h2, h3⟩ := h.f2 g e
    exact ⟨h1, h2, by simp [h1, h3]⟩
  · rcases hv with hv | hv
    · exact h.f12 g (hv.symm.trans e) e2
    · rw [hv] at e; obtain rfl := Option.some.inj e; have := (h.own2.lt _ e2).2; omega

theorem Wc.pushS (h : Wc w0 cb rb sc sc (bs ++ [cb]) ss vo vs wr) (hl : ss.length = bs.length) (ho : w'.ownsRow w0.heap.size 3 1 v' (ss.length + 1) (ss.map (Value.int .i64) ++ [.int .i64 sc])) (hg : wr.grownBy w' vs.ownBlock) (hv : v'.ownBlock = vs.ownBlock ∨ v'.ownBlock = some wr.heap.size) :
    Wc w0 cb rb sc sc (bs ++ [cb]) (ss ++ [sc]) vo v' w' := by
  have hc := h.clt
  have hr := h.rlt
  have hk : ∀ k, k < wr.heap.size → vs.ownBlock ≠ some k → w'.heap[k]? = wr.heap[k]? := fun k h1 h2 => hg.block k h1 (fun e => h2 e.symm)
  have n1 : vs.ownBlock ≠ some cb := fun e => (h.f2 _ e).1 rfl
  have n2 : vs.ownBlock ≠ some rb := fun e => (h.f2 _ e).2.1 rfl
  have c' := (World.cell?_of_block (a := ⟨cb, 0, none⟩) (hk cb hc n1)).trans h.c
  refine { c := c', cf := (World.frozen?_of_block (a := ⟨cb, 0, none⟩) (hk cb hc n1)).trans h.cf, r := (World.cell?_of_block (a := ⟨rb, 0, none⟩) (hk rb hr n2)).trans h.r, rf := (World.frozen?_of_block (a := ⟨rb, 0, none⟩) (hk rb hr n2)).trans h.rf, cr := h.cr, lc := h.lc, lr := h.lr, old := fun i b hi => ?_, own2 := by simpa using ho, own1 := owns_keep h.own1 fun g e => hk g (h.own1.lt g e).2 (fun e2 => h.f12 g e e2), f1 := h.f1, f2 := fun g e => ?_, f12 := fun g e e2 => ?_, bel := h.bel.grown hg h.size (fun k e => (h.own2.lt k e).1) }
  · obtain ⟨h1, h2, h3, h4⟩ := h.old i b hi
    refine ⟨h1, Nat.lt_of_lt_of_le h2 hg.size, h3, fun x hx => ?_⟩
    rcases Nat.lt_or_ge i ss.length with hi2 | hi2
    · rw [List.getElem?_append_left hi2] at hx
      exact (World.cell?_of_block (a := ⟨b, 0, none⟩) (hk b h2 (fun e => (h.f2 _ e).2.2 (List.mem_of_getElem? hi)))).trans (h4 x hx)
    · rw [List.getElem?_append_right hi2] at hx
      rw [List.getElem?_append_right (by omega)] at hi
      have hj : i - ss.length = 0 := by
        cases hj : i - ss.length with
        | zero => rfl
        | succ j => rw [hj] at hx; simp at hx
      rw [hj] at hx
      rw [show i - bs.length = 0 by omega] at hi
      simp at hx hi
      subst hx hi
      exact c'
  · rcases hv with hv | hv
    · exact h.f2 g (hv.symm.trans e)
    · rw [hv] at e; obtain rfl := Option.some.inj e
      refine ⟨by omega, by omega, fun hm => ?_⟩
      obtain ⟨i, hi⟩ := List.getElem?_of_mem hm
      have := (h.old i _ hi).2.1
      omega
  · rcases hv with hv | hv
    · exact h.f12 g e (hv.symm.trans e2)
    · rw [hv] at e2; obtain rfl := Option.some.inj e2; have := (h.own1.lt _ e).2; omega

theorem Wc.fork (h : Wc w0 cb rb sc sr bs ss vo vs wr) : Wc w0 wr.heap.size rb sc sr bs ss vo vs (wr.alloc (.cells #[.int .i64 sc] 90)) ∧ ∀ b ∈ bs, b ≠ wr.heap.size := by
  have h2 := h.alloc (.cells #[.int .i64 sc] 90)
  have hr := h.rlt
  have hlt : ∀ b ∈ bs, b ≠ wr.heap.size := fun b hb e => by
    obtain ⟨i, hi⟩ := List.getElem?_of_mem hb
    have := (h.old i _ hi).2.1
    omega
  have hn := heap_alloc_new wr (.cells #[.int .i64 sc] 90)
  exact ⟨{ h2 with c := by unfold World.cell?; rw [hn]; rfl, cf := by unfold World.frozen?; rw [hn]; rfl, cr := by omega, lc := h.size, f1 := fun g e => ⟨by have := (h.own1.lt g e).2; omega, (h.f1 g e).2⟩, f2 := fun g e => ⟨by have := (h.own2.lt g e).2; omega, (h.f2 g e).2⟩ }, hlt⟩

end Go.Proofs.Ytcfejifckcbdlaa.WclB
