/- Ways and connections in memory: what a way's calls do there. -/
import Derived.Test.YtgkfiolgipgbkaaStmB
namespace Go.Proofs.Ytgkfiolgipgbkaa.StmC
open Go.ChangeShapes Go.WideShapes Go.ChangeAt Go.RowKit Base Wri FrmP FrmA StmA StmB
set_option linter.unusedVariables false
set_option linter.unusedSimpArgs false

theorem blk_set {w : World} {k i : Nat} {cs : Array Value} {T : TypeId} {fr : Nat × Nat} (h : w.heap[k]? = some (.cells cs T fr)) (v : Value) : (w.setCell ⟨k, i, none⟩ v).heap[k]? = some (.cells (cs.setIfInBounds i v) T fr) := by
  simp [World.setCell, Array.getElem?_modify, h]
theorem blk_cell {w : World} {k i : Nat} {cs : Array Value} {T : TypeId} {fr : Nat × Nat} {v : Value} (h : w.heap[k]? = some (.cells cs T fr)) (hi : cs[i]? = some v) : w.cell? ⟨k, i, none⟩ = some v := by simp [World.cell?, h, hi]
theorem blk_frozen {w : World} {k i : Nat} {cs : Array Value} {T : TypeId} (h : w.heap[k]? = some (.cells cs T (0, 0))) : w.frozen? ⟨k, i, none⟩ = false := by simp [World.frozen?, h]
theorem set_same {cs : Array Value} {i : Nat} {x v : Value} (h : cs[i]? = some x) : (cs.setIfInBounds i v)[i]? = some v := by
  have := (Array.getElem?_eq_some_iff.1 h).1
  simp [this]
theorem set_other {cs : Array Value} {i j : Nat} {v : Value} (h : j ≠ i) : (cs.setIfInBounds i v)[j]? = cs[j]? := Array.getElem?_setIfInBounds_ne (fun e => h e.symm)

/-- what one end wrote: under way, come; has it closed? -/
structure Wy where
  u : Bs
  c : Bs
  b : Bool
structure Con where
  w0 : Wy
  w1 : Wy

/-- a way in three cells; its queues' blocks bear tags -/
structure WyAt (W : World) (B : Nat) (own : Nat → Nat) (t : Nat) (cs : Array Value) (o : Nat) (x : Wy) (xu xc : Value) : Prop where
  cu : cs[o]? = some xu
  cc : cs[o + 1]? = some xc
  cb : cs[o + 2]? = some (.bool x.b)
  qu : Que W B xu x.u
  qc : Que W B xc x.c
  tu : ∀ g, xu.ownBlock = some g → own g = t
  tc : ∀ g, xc.ownBlock = some g → own g = t + 1

theorem WyAt.keep {W W' : World} {B t o : Nat} {own own' : Nat → Nat} {cs cs' : Array Value} {x : Wy} {xu xc : Value} (h : WyAt W B own t cs o x xu xc) (h0 : cs'[o]? = cs[o]?) (h1 : cs'[o + 1]? = cs[o + 1]?) (h2 : cs'[o + 2]? = cs[o + 2]?)
    (hk : ∀ g, g < W.heap.size → own g = t ∨ own g = t + 1 → W'.heap[g]? = W.heap[g]? ∧ own' g = own g) : WyAt W' B own' t cs' o x xu xc :=
  ⟨h0.trans h.cu, h1.trans h.cc, h2.trans h.cb, h.qu.keep (fun g e => (hk g (h.qu.lt g e).2 (.inl (h.tu g e))).1), h.qc.keep (fun g e => (hk g (h.qc.lt g e).2 (.inr (h.tc g e))).1),
    fun g e => by rw [(hk g (h.qu.lt g e).2 (.inl (h.tu g e))).2]; exact h.tu g e, fun g e => by rw [(hk g (h.qc.lt g e).2 (.inr (h.tc g e))).2]; exact h.tc g e⟩

/-- a connection in its block -/
def IsCon (W : World) (B : Nat) (own : Nat → Nat) (t k : Nat) (C : Con) : Prop :=
  ∃ cs a0 b0 a1 b1, W.heap[k]? = some (.cells cs 80 (0, 0)) ∧ own k = t ∧ B ≤ k ∧ WyAt W B own (t + 1) cs 0 C.w0 a0 b0 ∧ WyAt W B own (t + 3) cs 3 C.w1 a1 b1

theorem IsCon.keep {W W' : World} {B t k : Nat} {own own' : Nat → Nat} {C : Con} (h : IsCon W B own t k C) (hk : ∀ g, g < W.heap.size → t ≤ own g → own g ≤ t + 4 → W'.heap[g]? = W.heap[g]? ∧ own' g = own g) : IsCon W' B own' t k C := by
  obtain ⟨cs, a0, b0, a1, b1, h1, h2, h3, h4, h5⟩ := h
  have hlt := (Array.getElem?_eq_some_iff.1 h1).1
  obtain ⟨k1, k2⟩ := hk k hlt (by omega) (by omega)
  exact ⟨cs, a0, b0, a1, b1, k1.trans h1, by rw [k2, h2], h3, h4.keep rfl rfl rfl (fun g hg e => hk g hg (by omega) (by omega)), h5.keep rfl rfl rfl (fun g hg e => hk g hg (by omega) (by omega))⟩

/-- what a call on a way leaves of the connection's block -/
structure Left3 (w w' : World) (k t o : Nat) (own own' : Nat → Nat) (cs cs' : Array Value) : Prop where
  blk : w'.heap[k]? = some (.cells cs' 80 (0, 0))
  rest : ∀ j, j ≠ o → j ≠ o + 1 → j ≠ o + 2 → cs'[j]? = cs[j]?
  wr : Wr (fun g => g = k ∨ own g = t ∨ own g = t + 1) w w'
  tag : ∀ g, g < w.heap.size → own' g = own g

theorem Left3.from_wr {w w' : World} {k t o : Nat} {own : Nat → Nat} {cs : Array Value} (h : w.heap[k]? = some (.cells cs 80 (0, 0))) (hw : Wr (fun g => own g = t ∨ own g = t + 1) w w') (hk : own k ≠ t) (hk1 : own k ≠ t + 1) : Left3 w w' k t o own own cs cs :=
  ⟨(hw.block k (Array.getElem?_eq_some_iff.1 h).1 (fun e => e.elim hk hk1)).trans h, fun _ _ _ _ => rfl, hw.mono (fun g e => .inr e), fun _ _ => rfl⟩

/-- the tags behind a call: what is new is the call's -/
def later (own : Nat → Nat) (n t : Nat) : Nat → Nat := fun g => if g < n then own g else t
theorem later_old {own : Nat → Nat} {n t g : Nat} (h : g < n) : later own n t g = own g := if_pos h
theorem later_new {own : Nat → Nat} {n t g : Nat} (h : n ≤ g) : later own n t g = t := if_neg (by omega)

set_option maxHeartbeats 400000 in
theorem from_0 (k : Nat) (w : World) : Calls Try.prog 52 #[.pointer (some ⟨k, 0, none⟩), .int .i64 0] w fun e w' => e = .returned (.pointer (some ⟨k, 0, none⟩)) ∧ w' = w := by
  go_enter Try.func52, Try.ntmps52
  go_wp2_with fail
  go_ret
  exact ⟨rfl, rfl⟩
set_option maxHeartbeats 400000 in
theorem from_1 (k : Nat) (w : World) : Calls Try.prog 52 #[.pointer (some ⟨k, 0, none⟩), .int .i64 1] w fun e w' => e = .returned (.pointer (some ⟨k, 3, none⟩)) ∧ w' = w := by
  go_enter Try.func52, Try.ntmps52
  go_wp2_with fail
  go_ret
  exact ⟨rfl, rfl⟩
set_option maxHeartbeats 400000 in
theorem to_0 (k : Nat) (w : World) : Calls Try.prog 57 #[.pointer (some ⟨k, 0, none⟩), .int .i64 0] w fun e w' => e = .returned (.pointer (some ⟨k, 3, none⟩)) ∧ w' = w := by
  go_enter Try.func57, Try.ntmps57
  go_wp2_with fail
  go_ret
  exact ⟨rfl, rfl⟩
set_option maxHeartbeats 400000 in
theorem to_1 (k : Nat) (w : World) : Calls Try.prog 57 #[.pointer (some ⟨k, 0, none⟩), .int .i64 1] w fun e w' => e = .returned (.pointer (some ⟨k, 0, none⟩)) ∧ w' = w := by
  go_enter Try.func57, Try.ntmps57
  go_wp2_with fail
  go_ret
  exact ⟨rfl, rfl⟩

def overB (x : Wy) : Bool := x.b && (x.u.length == 0) && (x.c.length == 0)
set_option maxRecDepth 20000 in
set_option maxHeartbeats 1000000 in
theorem over_any (k o B t : Nat) (own : Nat → Nat) (cs : Array Value) (T : TypeId) (x : Wy) (xu xc : Value) (w : World) (hb : w.heap[k]? = some (.cells cs T (0, 0))) (hw : WyAt w B own t cs o x xu xc) :
    Calls Try.prog 59 #[.pointer (some ⟨k, o, none⟩)] w fun e w' => e = .returned (.bool (overB x)) ∧ w' = w := by
  obtain ⟨xu1, xu2, e1, -⟩ := hw.qu.shape
  obtain ⟨xc1, xc2, e2, -⟩ := hw.qc.shape
  have c0 := blk_cell hb hw.cu
  have c1 := blk_cell hb hw.cc
  have c2 := blk_cell hb hw.cb
  rw [e1] at c0
  rw [e2] at c1
  obtain ⟨u, c, b⟩ := x
  unfold overB
  dsimp only at *
  clear hw hb e1 e2
  generalize u.length = n at *
  generalize c.length = m at *
  have e1 : ∀ q : Nat, ((q : Int) == 0) = (q == 0) := fun q => by rw [Bool.eq_iff_iff]; simp
  cases b <;> by_cases hn : n = 0 <;> by_cases hm : m = 0
  all_goals
    go_enter Try.func59, Try.ntmps59
    go_wp2_with fail
    go_ret
    simp [hn, hm, e1]

/-- behind a take: the queue's cell is another one -/
theorem take_left {w w0 : World} {k o i t : Nat} {own : Nat → Nat} {cs : Array Value} {v1 : Value} (hb : w.heap[k]? = some (.cells cs 80 (0, 0))) (hw : Below w.heap.size w w0) (hi : i = o ∨ i = o + 1) : Left3 w (w0.setCell ⟨k, i, none⟩ v1) k t o own own cs (cs.setIfInBounds i v1) := by
  have hk := (Array.getElem?_eq_some_iff.1 hb).1
  refine ⟨blk_set ((hw.block k hk).trans hb) v1, fun j h0 h1 h2 => set_other (by omega), ?_, fun _ _ => rfl⟩
  exact (Wr.ofBelow (R := fun g => g = k ∨ own g = t ∨ own g = t + 1) hw).trans (Wr.set _ _ (.inl rfl))

theorem Left3.trans {w w1 w2 : World} {k t o : Nat} {own own1 own2 : Nat → Nat} {cs cs1 cs2 : Array Value} (h : Left3 w w1 k t o own own1 cs cs1) (h2 : Left3 w1 w2 k t o own1 own2 cs1 cs2) : Left3 w w2 k t o own own2 cs cs2 :=
  ⟨h2.blk, fun j j0 j1 j2 => (h2.rest j j0 j1 j2).trans (h.rest j j0 j1 j2), h.wr.on h2.wr (fun g e => by
    by_cases hg : g < w.heap.size
    · refine .inl (e.imp id fun e => ?_)
      rw [h.tag g hg] at e
      exact e
    · exact .inr (by omega)), fun g hg => by rw [h2.tag g (Nat.lt_of_lt_of_le hg h.wr.size), h.tag g hg]⟩

set_option maxRecDepth 20000 in
set_option maxHeartbeats 1000000 in
theorem move_any (k o B t m : Nat) (own : Nat → Nat) (cs : Array Value) (x : Wy) (xu xc : Value) (w : World) (hb : w.heap[k]? = some (.cells cs 80 (0, 0))) (hw : Hid (WyAt w B own t cs o x xu xc)) (hB : B ≤ w.heap.size) (hk : own k ≠ t) (hk1 : own k ≠ t + 1) (hs : x.u.length + x.c.length ≤ 1099511627776) :
    Calls Try.prog 55 #[.pointer (some ⟨k, o, none⟩), .int .i64 m] w fun e w' => e = .returned (.int .i64 (x.u.take m).length) ∧
      ∃ cs' own' xu' xc', Left3 w w' k t o own own' cs cs' ∧ WyAt w' B own' t cs' o ⟨x.u.drop m, x.c ++ x.u.take m, x.b⟩ xu' xc' := by
  have hT := hid (take_any k o B m xu x.u w (blk_cell hb hw.out.cu) (blk_frozen hb) (hid hw.out.qu) (by omega))
  have HB := hid hb
  have HK := hid (And.intro hk (And.intro hk1 (And.intro hB hs)))
  clear hb hk hk1 hB hs
  go_enter Try.func55, Try.ntmps55
  go_wp2_with fail
  refine hT.out.mono ?_
  rintro e w1 ⟨v, v1, w0, rfl, hv, rfl, hbel, hq1, ho1⟩
  obtain ⟨va, vc, rfl, hv1, hv2, hv3⟩ := hv.bat
  have hkw := (Array.getElem?_eq_some_iff.1 HB.out).1
  have hL1 : Left3 w (w0.setCell ⟨k, o, none⟩ v1) k t o own own cs (cs.setIfInBounds o v1) := take_left HB.out hbel (.inl rfl)
  have hgt : ∀ g, xc.ownBlock = some g → g < w.heap.size ∧ g ≠ k := fun g e => ⟨(hw.out.qc.lt g e).2, fun e2 => HK.out.2.1 (by rw [← e2]; exact hw.out.tc g e)⟩
  have hqc : Que (w0.setCell ⟨k, o, none⟩ v1) B xc x.c := hw.out.qc.keep (fun g e => (Below.heap_setCell _ _ _ _ (hgt g e).2).trans (hbel.block g (hgt g e).1))
  have hc1 : (cs.setIfInBounds o v1)[o + 1]? = some xc := (set_other (by omega)).trans hw.out.cc
  have htl : (x.u.take m).length ≤ x.u.length := by rw [List.length_take]; omega
  have hvk : va = none ∨ ∃ a, va = some a := by cases va <;> simp
  have hvn : ∀ g, (Value.slice va (x.u.take m).length vc).ownBlock = some g → g ≠ k := fun g e => by have := (hv.lt g e).1; omega
  have hbt : BAt (w0.setCell ⟨k, o, none⟩ v1) (w0.setCell ⟨k, o, none⟩ v1).heap.size va (x.u.take m) := fun h0 => by
    obtain ⟨g, oo, e, hg, hcc⟩ := hv3 h0
    subst e
    exact ⟨g, oo, rfl, by simpa using hg, fun i y hy => (World.cell?_of_block (a := ⟨g, oo + i, none⟩) (Below.heap_setCell _ _ _ _ (hvn g rfl))).trans (hcc i y hy)⟩
  have hP := hid (put_any k (o + 1) B xc x.c (x.u.take m) va vc _ (blk_cell hL1.blk hc1) (blk_frozen hL1.blk) (hid hqc) (hid hbt) (fun e => (hgt k e).2 rfl) (by have := HK.out.2.2.1; have := hbel.size; simp; omega) (by have := HK.out.2.2.2; omega))
  have HQ1 := hid (And.intro hq1 (And.intro ho1 (And.intro hL1 (And.intro hgt (And.intro hqc hbel)))))
  generalize hL : (x.u.take m).length = L at *
  have HL := hid hL
  clear hL
  clear hv hv1 hv2 hv3 hbel hq1 ho1 hL1 hgt hqc hc1 htl hvk hvn hbt hT
  generalize hW : w0.setCell ⟨k, o, none⟩ v1 = W at *
  have HWW := hid hW
  clear hW
  go_wp2_with fail
  refine hP.out.mono ?_
  rintro e w2 ⟨rfl, v2, w3, rfl, hq2, hg2, hat2⟩
  have H2 := hid (And.intro hq2 (And.intro hg2 hat2))
  clear hq2 hg2 hat2 hP
  go_wp2_with fail
  go_ret
  refine ⟨by rw [HL.out]; rfl, ?_⟩
  obtain ⟨hq1, ho1, hL1, hgt, hqc, hbel⟩ := HQ1.out
  obtain ⟨hq2, hg2, hat2⟩ := H2.out
  have hk3 : w3.heap[k]? = W.heap[k]? := hg2.block k (Array.getElem?_eq_some_iff.1 hL1.blk).1 (fun e => (hgt k e.symm).2 rfl)
  have hsz : w.heap.size ≤ W.heap.size := hL1.wr.size
  refine ⟨(cs.setIfInBounds o v1).setIfInBounds (o + 1) v2, later own w.heap.size (t + 1), v1, v2, ⟨blk_set (hk3.trans hL1.blk) v2, fun j h0 h1 h2 => (set_other (by omega)).trans (set_other (by omega)), ?_, fun g hg => later_old hg⟩, ?_⟩
  · refine hL1.wr.trans ((Wr.ofGrown (R := fun g => g = k ∨ own g = t ∨ own g = t + 1) hg2 (fun g e => .inr (.inr (hw.out.tc g e)))).trans (Wr.set _ _ (.inl rfl)))
  · have hout : ∀ g, v1.ownBlock = some g → own g = t ∧ g < w.heap.size ∧ g ≠ k := fun g e => ⟨hw.out.tu g (ho1 g e), (hw.out.qu.lt g (ho1 g e)).2, fun e2 => HK.out.1 (by rw [← e2]; exact hw.out.tu g (ho1 g e))⟩
    have hne : ∀ g, v1.ownBlock = some g → xc.ownBlock ≠ some g := fun g e e2 => by have h1 := (hout g e).1; have h2 := hw.out.tc g e2; omega
    have hv2k : ∀ g, v2.ownBlock = some g → g ≠ k := fun g e => by
      rcases hat2 with h | h
      · rw [h] at e; exact (hgt g e).2
      · rw [h] at e; cases e; have := (Array.getElem?_eq_some_iff.1 HB.out).1; omega
    have hbW : ∀ g, v1.ownBlock = some g → W.heap[g]? = w0.heap[g]? := fun g e => by rw [← HWW.out]; exact Below.heap_setCell _ _ _ _ (hout g e).2.2
    refine ⟨(set_other (by omega)).trans (set_same hw.out.cu), set_same ((set_other (by omega)).trans hw.out.cc), ((set_other (by omega)).trans (set_other (by omega))).trans hw.out.cb, ?_, ?_, fun g e => by rw [later_old (hout g e).2.1]; exact (hout g e).1, fun g e => ?_⟩
    · refine hq1.keep (fun g e => (Below.heap_setCell _ _ _ _ (hout g e).2.2).trans ?_)
      rw [hg2.block g (by have := (hout g e).2.1; omega) (fun e2 => hne g e e2.symm), hbW g e]
    · exact hq2.keep (fun g e => Below.heap_setCell _ _ _ _ (hv2k g e))
    · rcases hat2 with h | h
      · rw [h] at e
        rw [later_old (hgt g e).1]
        exact hw.out.tc g e
      · rw [h] at e
        cases e
        exact later_new hsz

end Go.Proofs.Ytgkfiolgipgbkaa.StmC
