/- A node in memory; contract of note. -/
import Derived.Test.YtnloedhcginopaaStaA
import Derived.Deep.RegionWith
namespace Go.Proofs.Ytnloedhcginopaa.StaB
open Go.ChangeShapes Go.WideShapes Go.ChangeAt Go.RowKit Base WinM WinA WinB WinC WinD WinE WinF WinG WinH WinI WinJ WinK WinL StaA WldF WldG

structure Nd where
  entries : Int
  sec : Win
  pair : Win

/-- where a node lies: itself, its windows, their buckets -/
structure Spots where
  n : Nat
  p1 : Nat
  g1 : Option Nat
  p2 : Nat
  g2 : Option Nat

def Spots.Apart (S : Spots) : Prop :=
  S.n ≠ S.p1 ∧ S.n ≠ S.p2 ∧ S.p1 ≠ S.p2 ∧ S.g1 ≠ some S.n ∧ S.g1 ≠ some S.p2 ∧ S.g2 ≠ some S.n ∧ S.g2 ≠ some S.p1 ∧ ∀ g, S.g1 = some g → S.g2 ≠ some g
def Spots.Has (S : Spots) (k : Nat) : Prop := k = S.n ∨ k = S.p1 ∨ S.g1 = some k ∨ k = S.p2 ∨ S.g2 = some k

def IsNode (w : World) (S : Spots) (N : Nd) : Prop :=
  w.heap[S.n]? = some (.cells #[.int .i64 N.entries, .pointer (some ⟨S.p1, 0, none⟩), .pointer (some ⟨S.p2, 0, none⟩)] 85) ∧ IsWin w S.p1 S.g1 N.sec ∧ IsWin w S.p2 S.g2 N.pair ∧ S.Apart

theorem IsNode.lt {w : World} {S : Spots} {N : Nd} (h : IsNode w S N) : S.n < w.heap.size := (Array.getElem?_eq_some_iff.1 h.1).1
theorem IsNode.cells {w : World} {S : Spots} {N : Nd} (h : IsNode w S N) : w.cell? ⟨S.n, 0, none⟩ = some (.int .i64 N.entries) ∧ w.cell? ⟨S.n, 1, none⟩ = some (.pointer (some ⟨S.p1, 0, none⟩)) ∧ w.cell? ⟨S.n, 2, none⟩ = some (.pointer (some ⟨S.p2, 0, none⟩)) ∧ w.frozen? ⟨S.n, 0, none⟩ = false := by
  have h1 := h.1
  exact ⟨by simp [World.cell?, h1], by simp [World.cell?, h1], by simp [World.cell?, h1], by simp [World.frozen?, h1]⟩
theorem IsNode.keep {w w' : World} {S : Spots} {N : Nd} {R : Nat → Prop} (h : IsNode w S N) (hl : Lets R w w') (hr : ∀ k, S.Has k → ¬ R k) : IsNode w' S N := by
  have hn := h.lt
  obtain ⟨h1, h2, h3, h4⟩ := h
  exact ⟨(hl.block _ hn (hr _ (.inl rfl))).trans h1, h2.keep hl (hr _ (.inr (.inl rfl))) (fun g e => hr g (.inr (.inr (.inl e)))), h3.keep hl (hr _ (.inr (.inr (.inr (.inl rfl))))) (fun g e => hr g (.inr (.inr (.inr (.inr e))))), h4⟩
theorem IsNode.below {w w' : World} {S : Spots} {N : Nd} (h : IsNode w S N) (hl : Below w.heap.size w w') : IsNode w' S N := h.keep (R := fun _ => False) (Lets.ofBelow hl) (fun _ _ h => h)

/-- what a node keeps -/
structure Nd.Ok (N : Nd) (last : Nat) : Prop where
  w1 : N.sec.width = 1000000
  s1 : N.sec.size = 10
  w2 : N.pair.width = 2000000
  s2 : N.pair.size = 2
  l1 : N.sec.last = last
  l2 : N.pair.last = last
  f1 : ∀ x ∈ N.sec.bs, x.c.Fine
  f2 : ∀ x ∈ N.pair.bs, x.c.Fine
  n1 : N.sec.bs.length ≤ 1000
  n2 : N.pair.bs.length ≤ 1000
  e1 : 0 ≤ N.entries
  e2 : N.entries ≤ 4096

def Nd.noted (N : Nd) (at_ : Nat) (c : Cnt) : Nd := { N with sec := addM 100000 N.sec at_ c, pair := addM 1000000 N.pair at_ c }

/-- blocks that a call of a node may take anew -/
def Spots.Grew (S S' : Spots) (size : Nat) : Prop := S'.n = S.n ∧ S'.p1 = S.p1 ∧ S'.p2 = S.p2 ∧ (S'.g1 = S.g1 ∨ ∃ g, S'.g1 = some g ∧ size ≤ g) ∧ (S'.g2 = S.g2 ∨ ∃ g, S'.g2 = some g ∧ size ≤ g)

def NodePost (S : Spots) (N' : Nd) (w : World) (e : Ending) (w' : World) : Prop :=
  e = .returned (.int .i64 0) ∧ ∃ S', IsNode w' S' N' ∧ S.Grew S' w.heap.size ∧ Lets S.Has w w'

/-- the cells that note reads -/
def NoteS (S : Spots) (b : Nat) (c1 c2 c3 c4 c5 c6 : Int) (w' : World) : Prop :=
  w'.cell? ⟨S.n, 1, none⟩ = some (.pointer (some ⟨S.p1, 0, none⟩)) ∧ w'.cell? ⟨S.n, 2, none⟩ = some (.pointer (some ⟨S.p2, 0, none⟩)) ∧ w'.cell? ⟨b, 0, none⟩ = some (.int .i64 c1) ∧ w'.cell? ⟨b, 1, none⟩ = some (.int .i64 c2) ∧ w'.cell? ⟨b, 2, none⟩ = some (.int .i64 c3) ∧ w'.cell? ⟨b, 3, none⟩ = some (.int .i64 c4) ∧ w'.cell? ⟨b, 4, none⟩ = some (.int .i64 c5) ∧ w'.cell? ⟨b, 5, none⟩ = some (.int .i64 c6)

theorem NoteS.of_block {S : Spots} {b : Nat} {c1 c2 c3 c4 c5 c6 : Int} {w w' : World} (h : NoteS S b c1 c2 c3 c4 c5 c6 w) (e1 : w'.heap[S.n]? = w.heap[S.n]?) (e2 : w'.heap[b]? = w.heap[b]?) : NoteS S b c1 c2 c3 c4 c5 c6 w' := by
  obtain ⟨h1, h2, h3, h4, h5, h6, h7, h8⟩ := h
  exact ⟨(World.cell?_of_block (a := ⟨S.n, 1, none⟩) e1).trans h1, (World.cell?_of_block (a := ⟨S.n, 2, none⟩) e1).trans h2, (World.cell?_of_block (a := ⟨b, 0, none⟩) e2).trans h3, (World.cell?_of_block (a := ⟨b, 1, none⟩) e2).trans h4, (World.cell?_of_block (a := ⟨b, 2, none⟩) e2).trans h5, (World.cell?_of_block (a := ⟨b, 3, none⟩) e2).trans h6, (World.cell?_of_block (a := ⟨b, 4, none⟩) e2).trans h7, (World.cell?_of_block (a := ⟨b, 5, none⟩) e2).trans h8⟩

theorem IsNode.hasLt {w : World} {S : Spots} {N : Nd} (h : IsNode w S N) (k : Nat) (hk : S.Has k) : k < w.heap.size := by
  rcases hk with rfl | rfl | e | rfl | e
  · exact h.lt
  · exact h.2.1.lt
  · exact h.2.1.lt2 k e
  · exact h.2.2.1.lt
  · exact h.2.2.1.lt2 k e

set_option maxRecDepth 100000 in
set_option maxHeartbeats 4000000 in
theorem note_yes (S : Spots) (N : Nd) (last at_ : Nat) (c1 c2 c3 c4 c5 c6 : Int) (w : World) (h : IsNode w S N) (ho : N.Ok last) (hat : at_ ≤ 1152921504606846976) (hback : last ≤ at_) (hc : (Cnt.mk c1 c2 c3 c4 c5 c6).Right) :
    Calls Try.prog 49 #[.pointer (some ⟨S.n, 0, none⟩), .int .i64 at_, .agg #[.int .i64 c1, .int .i64 c2, .int .i64 c3, .int .i64 c4, .int .i64 c5, .int .i64 c6]] w (NodePost S (N.noted at_ ⟨c1, c2, c3, c4, c5, c6⟩) w) := by
  have hn := h.lt
  have hap := h.2.2.2
  have hlt := h.hasLt
  obtain ⟨wx, hwx⟩ : ∃ wx, ((w.alloc (.cells #[.int .i64 c1, .int .i64 c2, .int .i64 c3, .int .i64 c4, .int .i64 c5, .int .i64 c6] 32)).alloc (.cells #[.int .i64 c1, .int .i64 c2, .int .i64 c3, .int .i64 c4, .int .i64 c5, .int .i64 c6] 32)).drew = wx := ⟨_, rfl⟩
  have hbx : Below w.heap.size w wx := by rw [← hwx]; exact (((Below.refl _ w).alloc (Nat.le_refl _) _).alloc (by simp) _).drew
  have hsx : wx.heap.size = w.heap.size + 2 := by rw [← hwx]; simp
  have hx := h.below hbx
  have hz6 : At6 wx (w.heap.size + 1) 0 ⟨c1, c2, c3, c4, c5, c6⟩ := by clear hx hsx hbx; subst hwx; exact ⟨by go_cell, by go_cell, by go_cell, by go_cell, by go_cell, by go_cell⟩
  have hS0 : NoteS S w.heap.size c1 c2 c3 c4 c5 c6 wx := by
    obtain ⟨_, k1, k2, _⟩ := h.cells
    clear hz6 hx hsx hbx
    subst hwx
    exact ⟨by go_cell, by go_cell, by go_cell, by go_cell, by go_cell, by go_cell, by go_cell, by go_cell⟩
  have hnot : ∀ k, w.heap.size ≤ k → ¬ S.Has k := fun k hk hh => by have := hlt k hh; omega
  have HAdd := (add_yes S.p1 S.g1 N.sec 100000 at_ ⟨c1, c2, c3, c4, c5, c6⟩ (w.heap.size + 1) 0 1 wx hx.2.1 (by rw [ho.w1, ho.s1]) (by omega) (by rw [ho.s1]; omega) (by rw [ho.w1]; omega) hat (by rw [ho.l1]; omega) ho.f1 ho.n1 hc hz6 (by omega) (fun e => hnot _ (Nat.le_succ _) (.inr (.inl e))) (fun e => hnot _ (Nat.le_succ _) (.inr (.inr (.inl e))))).mono
    (R' := fun e w' => e = .returned (.int .i64 0) ∧ NoteS S w.heap.size c1 c2 c3 c4 c5 c6 w' ∧ w.heap.size + 2 ≤ w'.heap.size ∧ ∃ go', IsWin w' S.p1 go' (addM 100000 N.sec at_ ⟨c1, c2, c3, c4, c5, c6⟩) ∧ (go' = S.g1 ∨ ∃ g, go' = some g ∧ wx.heap.size ≤ g) ∧ Lets (fun k => k = S.p1 ∨ S.g1 = some k) wx w')
    (fun e w' hp => by
      obtain ⟨go', he, hw', hgo, hl⟩ := hp
      have hb := hl.block w.heap.size (by omega) (fun hh => hnot _ (Nat.le_refl _) (hh.elim (fun e => .inr (.inl e)) (fun e => .inr (.inr (.inl e)))))
      have hnn := hl.block S.n (by omega) (fun hh => hh.elim hap.1 hap.2.2.2.1)
      exact ⟨he, hS0.of_block hnn hb, by have := hl.size; omega, go', hw', hgo, hl⟩)
  have HA := hid HAdd
  obtain ⟨s1, s2, s3, s4, s5, s6, s7, s8⟩ := hS0
  obtain ⟨_, k1, k2, _⟩ := h.cells
  have HNd := hid h
  have HX := hid hx
  have HO := hid ho
  have HC := hid hc
  have HBack := hid hback
  have HBX := hid hbx
  have HSX := hid hsx
  have HNot := hid hnot
  clear h ho hc hback HAdd hx hbx hsx hz6 hnot hlt
  go_enter Try.func49, Try.ntmps49
  go_wp2_with fail
  go_region_held3 (fun w' => w'.cell? ⟨S.n, 1, none⟩ = some (.pointer (some ⟨S.p1, 0, none⟩)) ∧ w'.cell? ⟨S.n, 2, none⟩ = some (.pointer (some ⟨S.p2, 0, none⟩)) ∧ w'.cell? ⟨w.heap.size, 0, none⟩ = some (.int .i64 c1) ∧ w'.cell? ⟨w.heap.size, 1, none⟩ = some (.int .i64 c2) ∧ w'.cell? ⟨w.heap.size, 2, none⟩ = some (.int .i64 c3) ∧ w'.cell? ⟨w.heap.size, 3, none⟩ = some (.int .i64 c4) ∧ w'.cell? ⟨w.heap.size, 4, none⟩ = some (.int .i64 c5) ∧ w'.cell? ⟨w.heap.size, 5, none⟩ = some (.int .i64 c6))
    (first | assumption | go_keep) (first | (go_at_call 68; refine HA.out.mono ?_; rintro e w2 ⟨rfl, hS2, hsz2, go1, hwin1, hgo1, hl1⟩; unfold NoteS at hS2))
  have hwx2 := hwx
  clear hwx s1 s2 s3 s4 s5 s6 s7 s8 k1 k2 hwx2
  obtain ⟨wy, hwy⟩ : ∃ wy, (w2.alloc (.cells #[.int .i64 c1, .int .i64 c2, .int .i64 c3, .int .i64 c4, .int .i64 c5, .int .i64 c6] 32)).drew = wy := ⟨_, rfl⟩
  have hby : Below w2.heap.size w2 wy := by rw [← hwy]; exact ((Below.refl _ w2).alloc (Nat.le_refl _) _).drew
  have hl1' := HBX.out
  have HN2 := hid (hl1.block S.n (by have := HSX.out; omega) (fun hh => hh.elim hap.1 hap.2.2.2.1))
  have hlx : Lets S.Has w w2 := (Lets.ofBelow HBX.out).trans (hl1.mono fun k hk => hk.elim (fun e => .inr (.inl e)) (fun e => .inr (.inr (.inl e))))
  have hw2p : IsWin w2 S.p2 S.g2 N.pair := HX.out.2.2.1.keep hl1 (fun hh => hh.elim (fun e => hap.2.2.1 e.symm) hap.2.2.2.2.1) (fun g e hh => hh.elim (fun e2 => hap.2.2.2.2.2.2.1 (by rw [e, e2])) (fun e2 => hap.2.2.2.2.2.2.2 g e2 e))
  have hyp : IsWin wy S.p2 S.g2 N.pair := hw2p.keep (R := fun _ => False) (Lets.ofBelow hby) (fun h => h) (fun _ _ h => h)
  have hyw : IsWin wy S.p1 go1 (addM 100000 N.sec at_ ⟨c1, c2, c3, c4, c5, c6⟩) := hwin1.keep (R := fun _ => False) (Lets.ofBelow hby) (fun h => h) (fun _ _ h => h)
  have hz6 : At6 wy w2.heap.size 0 ⟨c1, c2, c3, c4, c5, c6⟩ := by clear hyp hyw hby; subst hwy; exact ⟨by go_cell, by go_cell, by go_cell, by go_cell, by go_cell, by go_cell⟩
  have hsy : wy.heap.size = w2.heap.size + 1 := by rw [← hwy]; simp
  have hS2y : NoteS S w.heap.size c1 c2 c3 c4 c5 c6 wy := NoteS.of_block hS2 (hby.block _ (by omega)) (hby.block _ (by omega))
  have hgo1lt := hwin1.lt2
  have HAdd2 := (add_yes S.p2 S.g2 N.pair 1000000 at_ ⟨c1, c2, c3, c4, c5, c6⟩ w2.heap.size 0 1 wy hyp (by rw [HO.out.w2, HO.out.s2]) (by omega) (by rw [HO.out.s2]; omega) (by rw [HO.out.w2]; omega) hat (by rw [HO.out.l2]; have := HBack.out; omega) HO.out.f2 HO.out.n2 HC.out hz6 (by omega) (fun e => by have := hw2p.lt; omega) (fun e => by have := hw2p.lt2 _ e; omega)).mono
    (R' := fun e w' => e = .returned (.int .i64 0) ∧ NoteS S w.heap.size c1 c2 c3 c4 c5 c6 w' ∧ ∃ go', IsWin w' S.p2 go' (addM 1000000 N.pair at_ ⟨c1, c2, c3, c4, c5, c6⟩) ∧ (go' = S.g2 ∨ ∃ g, go' = some g ∧ wy.heap.size ≤ g) ∧ Lets (fun k => k = S.p2 ∨ S.g2 = some k) wy w')
    (fun e w' hp => by
      obtain ⟨go', he, hw', hgo, hl⟩ := hp
      have hb := hl.block w.heap.size (by omega) (fun hh => HNot.out _ (Nat.le_refl _) (hh.elim (fun e => .inr (.inr (.inr (.inl e)))) (fun e => .inr (.inr (.inr (.inr e))))))
      have hnn := hl.block S.n (by omega) (fun hh => hh.elim hap.2.1 hap.2.2.2.2.2.1)
      exact ⟨he, hS2y.of_block hnn hb, go', hw', hgo, hl⟩)
  have HA2 := hid HAdd2
  have HYW := hid hyw
  have HY := hid hby
  have HSY := hid hsy
  have HLX := hid hlx
  have HGO1 := hid hgo1
  have HG1L := hid hgo1lt
  obtain ⟨s1, s2, s3, s4, s5, s6, s7, s8⟩ := hS2y
  obtain ⟨t1, t2, t3, t4, t5, t6, t7, t8⟩ := hS2
  clear HAdd2 hyp hyw hby hz6 hsy hlx hw2p hwin1 hgo1 hl1 HA hl1' hgo1lt
  go_wp2_with fail
  go_region_held3 (fun w' => w'.cell? ⟨S.n, 1, none⟩ = some (.pointer (some ⟨S.p1, 0, none⟩)) ∧ w'.cell? ⟨S.n, 2, none⟩ = some (.pointer (some ⟨S.p2, 0, none⟩)) ∧ w'.cell? ⟨w.heap.size, 0, none⟩ = some (.int .i64 c1) ∧ w'.cell? ⟨w.heap.size, 1, none⟩ = some (.int .i64 c2) ∧ w'.cell? ⟨w.heap.size, 2, none⟩ = some (.int .i64 c3) ∧ w'.cell? ⟨w.heap.size, 3, none⟩ = some (.int .i64 c4) ∧ w'.cell? ⟨w.heap.size, 4, none⟩ = some (.int .i64 c5) ∧ w'.cell? ⟨w.heap.size, 5, none⟩ = some (.int .i64 c6))
    (first | assumption | go_keep) (first | (go_at_call 68; refine HA2.out.mono ?_; rintro e w3 ⟨rfl, hS3, go2, hwin2, hgo2, hl2⟩; unfold NoteS at hS3))
  go_wp2
  go_ret
  have hl3 : Lets S.Has w w3 := (HLX.out.trans (Lets.ofBelow HY.out)).trans (hl2.mono fun k hk => hk.elim (fun e => .inr (.inr (.inr (.inl e)))) (fun e => .inr (.inr (.inr (.inr e)))))
  have hsz : wy.heap.size = w2.heap.size + 1 := HSY.out
  have hsx : wx.heap.size = w.heap.size + 2 := HSX.out
  have hg1n : ∀ g, go1 = some g → g ≠ S.n ∧ g ≠ S.p2 ∧ S.g2 ≠ some g := by
    intro g e
    rcases HGO1.out with e2 | ⟨g', e2, hg'⟩
    · rw [e2] at e
      exact ⟨fun h => hap.2.2.2.1 (by rw [e, h]), fun h => hap.2.2.2.2.1 (by rw [e, h]), hap.2.2.2.2.2.2.2 g e⟩
    · rw [e2] at e; cases e
      have hge : w.heap.size ≤ g := by omega
      exact ⟨fun h => HNot.out g hge (.inl h), fun h => HNot.out g hge (.inr (.inr (.inr (.inl h)))), fun h => HNot.out g hge (.inr (.inr (.inr (.inr h))))⟩
  have hg2n : ∀ g, go2 = some g → g ≠ S.n ∧ g ≠ S.p1 ∧ go1 ≠ some g := by
    intro g e
    rcases hgo2 with e2 | ⟨g', e2, hg'⟩
    · rw [e2] at e
      exact ⟨fun h => hap.2.2.2.2.2.1 (by rw [e, h]), fun h => hap.2.2.2.2.2.2.1 (by rw [e, h]), fun h => (hg1n g h).2.2 e⟩
    · rw [e2] at e; cases e
      have hge : w.heap.size ≤ g := by omega
      exact ⟨fun h => HNot.out g hge (.inl h), fun h => HNot.out g hge (.inr (.inl h)), fun h => by have := HG1L.out g h; omega⟩
  refine ⟨rfl, ⟨S.n, S.p1, go1, S.p2, go2⟩, ⟨?_, HYW.out.keep hl2 (fun hh => hh.elim (fun e => hap.2.2.1 e) (fun e => hap.2.2.2.2.2.2.1 e)) (fun g e hh => hh.elim (hg1n g e).2.1 (hg1n g e).2.2), hwin2, hap.1, hap.2.1, hap.2.2.1, fun e => (hg1n _ e).1 rfl, fun e => (hg1n _ e).2.1 rfl, fun e => (hg2n _ e).1 rfl, fun e => (hg2n _ e).2.1 rfl, fun g e e2 => (hg2n g e2).2.2 e⟩, ⟨rfl, rfl, rfl, ?_, ?_⟩, hl3⟩
  · have e1 := hl2.block S.n (by have := hl3.size; have := HLX.out.size; omega) (fun hh => hh.elim hap.2.1 hap.2.2.2.2.2.1)
    have e2 := HY.out.block S.n (by have := HLX.out.size; omega)
    show w3.heap[S.n]? = _
    rw [e1, e2, HN2.out]
    exact HX.out.1
  · exact HGO1.out.imp_right fun ⟨g, h, h2⟩ => ⟨g, h, by omega⟩
  · exact hgo2.imp_right fun ⟨g, h, h2⟩ => ⟨g, h, by have := HLX.out.size; omega⟩

end Go.Proofs.Ytnloedhcginopaa.StaB
