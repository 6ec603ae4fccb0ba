/- What a network's calls do with a connection, once they have it. -/
import Derived.Test.YtgkfiolgipgbkaaStmC
namespace Go.Proofs.Ytgkfiolgipgbkaa.StmD
open Go.ChangeShapes Go.WideShapes Go.ChangeAt Go.RowKit Base Wri FrmP FrmA StmA StmB StmC
set_option linter.unusedVariables false
set_option linter.unusedSimpArgs false

def Con.at (C : Con) (e : Nat) : Wy := if e = 0 then C.w0 else C.w1
def Con.put (C : Con) (e : Nat) (x : Wy) : Con := if e = 0 then ⟨x, C.w1⟩ else ⟨C.w0, x⟩

/-- what a step writes: blocks of some tags, and new ones -/
structure Stp (w w' : World) (own own' : Nat → Nat) (R : Nat → Prop) : Prop where
  wr : Wr (fun g => R (own g)) w w'
  tag : ∀ g, g < w.heap.size → own' g = own g

theorem Stp.trans {w w1 w2 : World} {own own1 own2 : Nat → Nat} {R : Nat → Prop} (h : Stp w w1 own own1 R) (h2 : Stp w1 w2 own1 own2 R) : Stp w w2 own own2 R :=
  ⟨h.wr.on h2.wr (fun g e => by
    by_cases hg : g < w.heap.size
    · rw [h.tag g hg] at e; exact .inl e
    · exact .inr (by omega)), fun g hg => by rw [h2.tag g (Nat.lt_of_lt_of_le hg h.wr.size), h.tag g hg]⟩
theorem Stp.mono {w w1 : World} {own own1 : Nat → Nat} {R R' : Nat → Prop} (h : Stp w w1 own own1 R) (hr : ∀ t, R t → R' t) : Stp w w1 own own1 R' := ⟨h.wr.mono (fun g e => hr _ e), h.tag⟩
theorem Stp.keep {w w1 : World} {own own1 : Nat → Nat} {R : Nat → Prop} (h : Stp w w1 own own1 R) {g : Nat} (hg : g < w.heap.size) (hr : ¬ R (own g)) : w1.heap[g]? = w.heap[g]? ∧ own1 g = own g := ⟨h.wr.block g hg hr, h.tag g hg⟩
theorem Stp.cell {w w1 : World} {own own1 : Nat → Nat} {R : Nat → Prop} (h : Stp w w1 own own1 R) {g o : Nat} {v : Value} (hc : w.cell? ⟨g, o, none⟩ = some v) (hr : ¬ R (own g)) : w1.cell? ⟨g, o, none⟩ = some v := by
  have hg := World.block_lt_of_cell? _ _ hc
  exact (World.cell?_of_block (a := ⟨g, o, none⟩) (h.wr.block g hg hr)).trans hc
theorem Stp.froz {w w1 : World} {own own1 : Nat → Nat} {R : Nat → Prop} (h : Stp w w1 own own1 R) {g o : Nat} (hg : g < w.heap.size) (hf : w.frozen? ⟨g, o, none⟩ = false) (hr : ¬ R (own g)) : w1.frozen? ⟨g, o, none⟩ = false :=
  (World.frozen?_of_block (a := ⟨g, o, none⟩) (h.wr.block g hg hr)).trans hf
theorem Stp.set {w : World} {own : Nat → Nat} {R : Nat → Prop} {g o : Nat} {v : Value} (h : R (own g)) : Stp w (w.setCell ⟨g, o, none⟩ v) own own R := ⟨Wr.set _ _ h, fun _ _ => rfl⟩
theorem Stp.same (w : World) (own : Nat → Nat) (R : Nat → Prop) : Stp w w own own R := ⟨Wr.refl _ _, fun _ _ => rfl⟩
theorem Stp.below {w w' : World} {own : Nat → Nat} {R : Nat → Prop} (h : Below w.heap.size w w') : Stp w w' own own R := ⟨Wr.ofBelow h, fun _ _ => rfl⟩

/-- the tags of a connection -/
def In5 (t : Nat) (s : Nat) : Prop := t ≤ s ∧ s ≤ t + 4

theorem con_step0 {w w' : World} {B t k : Nat} {own own' : Nat → Nat} {cs cs' : Array Value} {C : Con} {x : Wy} {a1 b1 xu xc : Value} (hk : own k = t) (hB : B ≤ k) (hlt : k < w.heap.size) (hw : WyAt w B own (t + 3) cs 3 C.w1 a1 b1) (hl : Left3 w w' k (t + 1) 0 own own' cs cs') (hx : WyAt w' B own' (t + 1) cs' 0 x xu xc) : IsCon w' B own' t k (Con.put C 0 x) ∧ Stp w w' own own' (In5 t) := by
  refine ⟨⟨cs', xu, xc, a1, b1, hl.blk, by rw [hl.tag k hlt, hk], hB, hx, ?_⟩, ⟨hl.wr.mono (fun g e => ?_), hl.tag⟩⟩
  · refine hw.keep (hl.rest _ (by omega) (by omega) (by omega)) (hl.rest _ (by omega) (by omega) (by omega)) (hl.rest _ (by omega) (by omega) (by omega)) (fun g hg e => ⟨hl.wr.block g hg ?_, hl.tag g hg⟩)
    rintro (rfl | e2 | e2)
    · omega
    · omega
    · omega
  · unfold In5
    rcases e with rfl | e | e <;> omega
theorem con_step1 {w w' : World} {B t k : Nat} {own own' : Nat → Nat} {cs cs' : Array Value} {C : Con} {x : Wy} {a0 b0 xu xc : Value} (hk : own k = t) (hB : B ≤ k) (hlt : k < w.heap.size) (hw : WyAt w B own (t + 1) cs 0 C.w0 a0 b0) (hl : Left3 w w' k (t + 3) 3 own own' cs cs') (hx : WyAt w' B own' (t + 3) cs' 3 x xu xc) : IsCon w' B own' t k (Con.put C 1 x) ∧ Stp w w' own own' (In5 t) := by
  refine ⟨⟨cs', a0, b0, xu, xc, hl.blk, by rw [hl.tag k hlt, hk], hB, ?_, hx⟩, ⟨hl.wr.mono (fun g e => ?_), hl.tag⟩⟩
  · refine hw.keep (hl.rest _ (by omega) (by omega) (by omega)) (hl.rest _ (by omega) (by omega) (by omega)) (hl.rest _ (by omega) (by omega) (by omega)) (fun g hg e => ⟨hl.wr.block g hg ?_, hl.tag g hg⟩)
    rintro (rfl | e2 | e2)
    · omega
    · omega
    · omega
  · unfold In5
    rcases e with rfl | e | e <;> omega

/-- moved along -/
def Wy.mv (x : Wy) (m : Nat) : Wy := ⟨x.u.drop m, x.c ++ x.u.take m, x.b⟩
def Wy.rd (x : Wy) (m : Nat) : Wy := ⟨x.u, x.c.drop m, x.b⟩
def Wy.wt (x : Wy) (s : Bs) : Wy := ⟨x.u ++ s, x.c, x.b⟩
def Wy.sh (x : Wy) : Wy := ⟨x.u, x.c, true⟩

theorem IsCon.drew {W : World} {B t k : Nat} {own : Nat → Nat} {C : Con} (h : IsCon W B own t k C) : IsCon W.drew B own t k C := h.keep (fun g _ _ _ => ⟨rfl, rfl⟩)
theorem IsCon.lt {W : World} {B t k : Nat} {own : Nat → Nat} {C : Con} (h : IsCon W B own t k C) : k < W.heap.size ∧ own k = t ∧ B ≤ k := by
  obtain ⟨cs, a0, b0, a1, b1, h1, h2, h3, -⟩ := h
  exact ⟨(Array.getElem?_eq_some_iff.1 h1).1, h2, h3⟩

set_option maxRecDepth 20000 in
set_option maxHeartbeats 1000000 in
theorem move_con0 (k B t m : Nat) (own : Nat → Nat) (C : Con) (w : World) (h : IsCon w B own t k C) (hB : B ≤ w.heap.size) (hs : (Con.at C 0).u.length + (Con.at C 0).c.length ≤ 1099511627776) :
    Calls Try.prog 55 #[.pointer (some ⟨k, 0, none⟩), .int .i64 m] w fun e w' => e = .returned (.int .i64 ((Con.at C 0).u.take m).length) ∧ ∃ own', IsCon w' B own' t k (Con.put C 0 (Wy.mv (Con.at C 0) m)) ∧ Stp w w' own own' (In5 t) := by
  obtain ⟨cs, a0, b0, a1, b1, h1, h2, h3, h4, h5⟩ := h
  refine (move_any k 0 B (t + 1) m own cs _ a0 b0 w h1 (hid h4) hB (by omega) (by omega) hs).mono ?_
  rintro e w' ⟨rfl, cs', own', xu, xc, hl, hx⟩
  exact ⟨rfl, own', con_step0 h2 h3 (Array.getElem?_eq_some_iff.1 h1).1 h5 hl hx⟩

set_option maxRecDepth 20000 in
set_option maxHeartbeats 1000000 in
theorem move1_0 (k B t m p1 p2 p3 : Nat) (own : Nat → Nat) (C : Con) (w : World) (h : Hid (IsCon w B own t k C)) (hB : B ≤ w.heap.size) (hs : (Con.at C 0).u.length + (Con.at C 0).c.length ≤ 1099511627776) (c1 : w.cell? ⟨p1, 0, none⟩ = some (.int .i64 0)) (c2 : w.cell? ⟨p2, 0, none⟩ = some (.int .i64 m)) (c3 : w.cell? ⟨p3, 0, none⟩ = some (.int .i64 0)) (f3 : w.frozen? ⟨p3, 0, none⟩ = false) (o1 : own p1 = 4) (o2 : own p2 = 4) (o3 : own p3 = 4) (ht : 5 ≤ t) :
    Calls Try.prog 54 #[.pointer (some ⟨k, 0, none⟩), .pointer (some ⟨p1, 0, none⟩), .pointer (some ⟨p2, 0, none⟩), .pointer (some ⟨p3, 0, none⟩)] w fun e w' => e = .returned (.int .i64 0) ∧
      ∃ own', IsCon w' B own' t k (Con.put C 0 (Wy.mv (Con.at C 0) m)) ∧ Stp w w' own own' (fun s => In5 t s ∨ s = 4) ∧ w'.cell? ⟨p3, 0, none⟩ = some (.int .i64 ((Con.at C 0).u.take m).length) := by
  have HM := hid (move_con0 k B t m own C w.drew (IsCon.drew h.out) hB hs)
  have HP3 : Hid (p3 < w.heap.size ∧ own p3 = 4 ∧ 5 ≤ t) := hid ⟨World.block_lt_of_cell? _ _ c3, o3, ht⟩
  have C3 := hid c3
  have F3 := hid f3
  have HN : Hid (¬ In5 t (own p3)) := hid (fun e => by unfold In5 at e; omega)
  have HN2 : Hid (¬ In5 t (own p2)) := hid (fun e => by unfold In5 at e; omega)
  obtain ⟨L, hL⟩ : ∃ L, ((Con.at C 0).u.take m).length = L := ⟨_, rfl⟩
  rw [hL] at HM ⊢
  clear hs hB o1 o2 o3 ht f3 c3 hL
  go_enter Try.func54, Try.ntmps54
  go_wp2_with fail
  go_region_with (first
    | (go_at_call 52
       refine (from_0 k _).mono ?_
       rintro e w1 ⟨rfl, rfl⟩)
    | (go_at_call 55
       refine HM.out.mono ?_
       rintro e w1 ⟨rfl, own', hC, hS⟩
       have d3 : w1.cell? ⟨p3, 0, none⟩ = some (.int .i64 0) := hS.cell (w := w.drew) C3.out HN.out
       have g3 : w1.frozen? ⟨p3, 0, none⟩ = false := hS.froz (w := w.drew) (by simpa using HP3.out.1) F3.out HN.out
       have HX := hid (And.intro hC hS)
       clear hC hS))
  all_goals
    go_wp2_with fail
    go_ret
    obtain ⟨hC, hS⟩ := HX.out
    have hO : own' p3 = 4 := by rw [hS.tag p3 (by simpa using HP3.out.1)]; exact HP3.out.2.1
    have hS2 : Stp w w1 own own' (fun s => In5 t s ∨ s = 4) := ⟨⟨hS.wr.os, hS.wr.tape, hS.wr.output, hS.wr.size, fun g hg hn => hS.wr.block g hg (fun e => hn (.inl e))⟩, hS.tag⟩
    refine ⟨rfl, own', hC.keep (fun g hg h1 h2 => ⟨Below.heap_setCell _ _ _ _ (fun e => by have e : g = p3 := e; subst e; have := HP3.out; omega), rfl⟩), hS2.trans (Stp.set (.inr hO)), World.cell?_setCell_same _ _ _ d3⟩

set_option maxRecDepth 20000 in
set_option maxHeartbeats 1000000 in
theorem move_con1 (k B t m : Nat) (own : Nat → Nat) (C : Con) (w : World) (h : IsCon w B own t k C) (hB : B ≤ w.heap.size) (hs : (Con.at C 1).u.length + (Con.at C 1).c.length ≤ 1099511627776) :
    Calls Try.prog 55 #[.pointer (some ⟨k, 3, none⟩), .int .i64 m] w fun e w' => e = .returned (.int .i64 ((Con.at C 1).u.take m).length) ∧ ∃ own', IsCon w' B own' t k (Con.put C 1 (Wy.mv (Con.at C 1) m)) ∧ Stp w w' own own' (In5 t) := by
  obtain ⟨cs, a0, b0, a1, b1, h1, h2, h3, h4, h5⟩ := h
  refine (move_any k 3 B (t + 3) m own cs _ a1 b1 w h1 (hid h5) hB (by omega) (by omega) hs).mono ?_
  rintro e w' ⟨rfl, cs', own', xu, xc, hl, hx⟩
  exact ⟨rfl, own', con_step1 h2 h3 (Array.getElem?_eq_some_iff.1 h1).1 h4 hl hx⟩

set_option maxRecDepth 20000 in
set_option maxHeartbeats 1000000 in
theorem move1_1 (k B t m p1 p2 p3 : Nat) (own : Nat → Nat) (C : Con) (w : World) (h : Hid (IsCon w B own t k C)) (hB : B ≤ w.heap.size) (hs : (Con.at C 1).u.length + (Con.at C 1).c.length ≤ 1099511627776) (c1 : w.cell? ⟨p1, 0, none⟩ = some (.int .i64 1)) (c2 : w.cell? ⟨p2, 0, none⟩ = some (.int .i64 m)) (c3 : w.cell? ⟨p3, 0, none⟩ = some (.int .i64 0)) (f3 : w.frozen? ⟨p3, 0, none⟩ = false) (o1 : own p1 = 4) (o2 : own p2 = 4) (o3 : own p3 = 4) (ht : 5 ≤ t) :
    Calls Try.prog 54 #[.pointer (some ⟨k, 0, none⟩), .pointer (some ⟨p1, 0, none⟩), .pointer (some ⟨p2, 0, none⟩), .pointer (some ⟨p3, 0, none⟩)] w fun e w' => e = .returned (.int .i64 0) ∧
      ∃ own', IsCon w' B own' t k (Con.put C 1 (Wy.mv (Con.at C 1) m)) ∧ Stp w w' own own' (fun s => In5 t s ∨ s = 4) ∧ w'.cell? ⟨p3, 0, none⟩ = some (.int .i64 ((Con.at C 1).u.take m).length) := by
  have HM := hid (move_con1 k B t m own C w.drew (IsCon.drew h.out) hB hs)
  have HP3 : Hid (p3 < w.heap.size ∧ own p3 = 4 ∧ 5 ≤ t) := hid ⟨World.block_lt_of_cell? _ _ c3, o3, ht⟩
  have C3 := hid c3
  have F3 := hid f3
  have HN : Hid (¬ In5 t (own p3)) := hid (fun e => by unfold In5 at e; omega)
  have HN2 : Hid (¬ In5 t (own p2)) := hid (fun e => by unfold In5 at e; omega)
  obtain ⟨L, hL⟩ : ∃ L, ((Con.at C 1).u.take m).length = L := ⟨_, rfl⟩
  rw [hL] at HM ⊢
  clear hs hB o1 o2 o3 ht f3 c3 hL
  go_enter Try.func54, Try.ntmps54
  go_wp2_with fail
  go_region_with (first
    | (go_at_call 52
       refine (from_1 k _).mono ?_
       rintro e w1 ⟨rfl, rfl⟩)
    | (go_at_call 55
       refine HM.out.mono ?_
       rintro e w1 ⟨rfl, own', hC, hS⟩
       have d3 : w1.cell? ⟨p3, 0, none⟩ = some (.int .i64 0) := hS.cell (w := w.drew) C3.out HN.out
       have g3 : w1.frozen? ⟨p3, 0, none⟩ = false := hS.froz (w := w.drew) (by simpa using HP3.out.1) F3.out HN.out
       have HX := hid (And.intro hC hS)
       clear hC hS))
  all_goals
    go_wp2_with fail
    go_ret
    obtain ⟨hC, hS⟩ := HX.out
    have hO : own' p3 = 4 := by rw [hS.tag p3 (by simpa using HP3.out.1)]; exact HP3.out.2.1
    have hS2 : Stp w w1 own own' (fun s => In5 t s ∨ s = 4) := ⟨⟨hS.wr.os, hS.wr.tape, hS.wr.output, hS.wr.size, fun g hg hn => hS.wr.block g hg (fun e => hn (.inl e))⟩, hS.tag⟩
    refine ⟨rfl, own', hC.keep (fun g hg h1 h2 => ⟨Below.heap_setCell _ _ _ _ (fun e => by have e : g = p3 := e; subst e; have := HP3.out; omega), rfl⟩), hS2.trans (Stp.set (.inr hO)), World.cell?_setCell_same _ _ _ d3⟩

end Go.Proofs.Ytgkfiolgipgbkaa.StmD
