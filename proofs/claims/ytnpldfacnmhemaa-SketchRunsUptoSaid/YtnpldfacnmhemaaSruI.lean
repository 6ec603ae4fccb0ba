/- What lies in memory in a round of SketchRuns. -/
import Derived.Test.YtnpldfacnmhemaaSruH
namespace Go.Proofs.Ytnpldfacnmhemaa.SruI
open Go.ChangeShapes Go.WideShapes Go.ChangeAt Go.RowKit Go.Deep Base Wri Map WldA WldF WldG SkK SkA SkB SkC SkD SkE SkF SkG SkH SkI SkJ SkL SkM SkN SkP SkQ SkR SkS SkT SkU SruA SruB SruC SruD SruE SruF SruG SruH
set_option linter.unusedVariables false

def ptr0 (p : Nat) : Value := .pointer (some ⟨p, 0, none⟩)
def cellsO (os : List (Nat × Nat)) : List Value := os.flatMap fun x => [ptr0 x.1, ptr0 x.2]

theorem cellsO_len (os : List (Nat × Nat)) : (cellsO os).length = os.length * 2 := by
  induction os with
  | nil => rfl
  | cons x r ih => unfold cellsO at *; rw [List.flatMap_cons, List.length_append, ih]; simp; omega
theorem cellsO_app (a b : List (Nat × Nat)) : cellsO (a ++ b) = cellsO a ++ cellsO b := List.flatMap_append
theorem cellsO_get (os : List (Nat × Nat)) (i : Nat) (hi : i < os.length) : (cellsO os)[i * 2]? = some (ptr0 os[i].1) ∧ (cellsO os)[i * 2 + 1]? = some (ptr0 os[i].2) := by
  have e : os = os.take i ++ os[i] :: os.drop (i + 1) := by rw [List.getElem_cons_drop, List.take_append_drop]
  have hl : (cellsO (os.take i)).length = i * 2 := by rw [cellsO_len, List.length_take]; congr 1; omega
  have e2 : cellsO os = cellsO (os.take i) ++ ([ptr0 os[i].1, ptr0 os[i].2] ++ cellsO (os.drop (i + 1))) := by
    conv => lhs; rw [e]
    rw [cellsO_app]
    rfl
  rw [e2]
  refine ⟨?_, ?_⟩
  · rw [List.getElem?_append_right (by omega), hl, show i * 2 - i * 2 = 0 by omega]; rfl
  · rw [List.getElem?_append_right (by omega), hl, show i * 2 + 1 - i * 2 = 1 by omega]; rfl

/-- a pair that was forked -/
def Old (N bb : Nat) (ob : Option Nat) (w : World) (X : Shp) (q : Nat) (x : Nat × Nat) : Prop :=
  ∃ go last ns qs mpf B rv rs, Full w x.1 go X q last ns qs mpf ∧ IsRS w x.2 B X q last rv rs ∧ Alk ns rs ∧ ∀ k, Foot x.1 x.2 go qs mpf rv k → k < N ∧ k ≠ bb ∧ ob ≠ some k

structure Lst (N lo bb : Nat) (w : World) (ov : Value) (os : List (Nat × Nat)) (X : Shp) (q : Nat) : Prop where
  own : w.ownsRow lo 35 2 ov os.length (cellsO os)
  few : os.length ≤ 4
  low : ∀ g, ov.ownBlock = some g → g < N ∧ g ≠ bb
  each : ∀ x ∈ os, Old N bb ov.ownBlock w X q x

variable {N N' lo bb p b B q last l1 l2 m m' : Nat} {S : List Nat} {w0 w w' w1 w2 w3 w4 w5 wr : World} {go : Option Nat} {X : Shp} {ns rs rs2 : List Note} {qs : List Nat} {mpf : Nat → Nat} {rv ov : Value} {os : List (Nat × Nat)}

theorem Old.keep {ob ob' : Option Nat} {x : Nat × Nat} (h : Old N bb ob w X q x) (hN : N ≤ N') (hk : ∀ k, k < N → k ≠ bb → ob ≠ some k → w'.heap[k]? = w.heap[k]?) (ho : ∀ k, k < N → ob ≠ some k → ob' ≠ some k) : Old N' bb ob' w' X q x := by
  obtain ⟨go, last, ns, qs, mpf, B, rv, rs, h1, h2, h3, h4⟩ := h
  have hh : ∀ k, Foot x.1 x.2 go qs mpf rv k → w'.heap[k]? = w.heap[k]? := fun k e => hk k (h4 k e).1 (h4 k e).2.1 (h4 k e).2.2
  exact ⟨go, last, ns, qs, mpf, B, rv, rs, h1.keep fun k e => hh k (.inl e), h2.keep (hh _ (.inr (.inl rfl))) (fun g e => hh g (.inr (.inr e))), h3, fun k e => ⟨by have := (h4 k e).1; omega, (h4 k e).2.1, ho k (h4 k e).1 (h4 k e).2.2⟩⟩

theorem Lst.keep (h : Lst N lo bb w ov os X q) (hN : N ≤ N') (hk : ∀ k, k < N → k ≠ bb → w'.heap[k]? = w.heap[k]?) : Lst N' lo bb w' ov os X q :=
  ⟨owns_keep h.own (fun g hg => hk g (h.low g hg).1 (h.low g hg).2), h.few, fun g hg => ⟨by have := (h.low g hg).1; omega, (h.low g hg).2⟩, fun x hx => (h.each x hx).keep hN (fun k a b _ => hk k a b) (fun k _ e => e)⟩

/-- one round's memory: the pair at hand (in block bb), those of old (ov) -/
structure Rd (w0 : World) (S : List Nat) (bb : Nat) (ov : Value) (X : Shp) (q N p b last : Nat) (go : Option Nat) (ns : List Note) (qs : List Nat) (mpf : Nat → Nat) (B : Nat) (rv : Value) (rs : List Note) (os : List (Nat × Nat)) (m : Nat) (wr : World) : Prop where
  pr : Pr N S wr p b go X q last last ns qs mpf B rv rs rs
  few : rs.length ≤ m
  lst : Lst N w0.heap.size bb wr ov os X q
  bx : wr.heap[bb]? = some (.cells #[ptr0 p, ptr0 b] 35)
  bS : bb ∈ S
  bl : w0.heap.size ≤ bb
  Nl : w0.heap.size ≤ N
  Nw : N ≤ wr.heap.size
  bel : Below w0.heap.size w0 wr

theorem Rd.below (h : Rd w0 S bb ov X q N p b last go ns qs mpf B rv rs os m wr) (hb : Below wr.heap.size wr w') : Rd w0 S bb ov X q N p b last go ns qs mpf B rv rs os m w' := by
  have hN := h.Nw
  exact ⟨h.pr.below hb, h.few, h.lst.keep (Nat.le_refl _) (fun k hk _ => hb.block k (by omega)), (hb.block bb (h.pr.slt bb h.bS)).trans h.bx, h.bS, h.bl, h.Nl, Nat.le_trans hN hb.size, h.bel.trans (hb.mono h.bel.size)⟩
theorem Rd.more (h : Rd w0 S bb ov X q N p b last go ns qs mpf B rv rs os m wr) (d : Nat) (hd : wr.heap.size ≤ d) (hb : Below wr.heap.size wr w') (hd2 : d < w'.heap.size) : Rd w0 (d :: S) bb ov X q N p b last go ns qs mpf B rv rs os m w' := by
  have h2 := h.below hb
  exact ⟨h.pr.more d hd hb hd2, h2.few, h2.lst, h2.bx, List.mem_cons_of_mem _ h2.bS, h2.bl, h2.Nl, h2.Nw, h2.bel⟩
theorem Rd.less {S' : List Nat} (h : Rd w0 S bb ov X q N p b last go ns qs mpf B rv rs os m wr) (hs : ∀ k, k ∈ S' → k ∈ S) (hb : bb ∈ S') : Rd w0 S' bb ov X q N p b last go ns qs mpf B rv rs os m wr :=
  ⟨h.pr.less hs, h.few, h.lst, h.bx, hb, h.bl, h.Nl, h.Nw, h.bel⟩
theorem Rd.le (h : Rd w0 S bb ov X q N p b last go ns qs mpf B rv rs os m wr) (hm : m ≤ m') : Rd w0 S bb ov X q N p b last go ns qs mpf B rv rs os m' wr :=
  ⟨h.pr, Nat.le_trans h.few hm, h.lst, h.bx, h.bS, h.bl, h.Nl, h.Nw, h.bel⟩
/-- behind a call on the pair at hand -/
theorem Rd.kp {last' B' : Nat} {go' : Option Nat} {ns' : List Note} {qs' : List Nat} {mpf' : Nat → Nat} {rv' : Value} {rs' : List Note} (h : Rd w0 S bb ov X q N p b last go ns qs mpf B rv rs os m wr) (hk : Kp N S wr w') (hp : Pr N S w' p b go' X q last' last' ns' qs' mpf' B' rv' rs' rs') (hm : rs'.length ≤ m') : Rd w0 S bb ov X q N p b last' go' ns' qs' mpf' B' rv' rs' os m' w' :=
  ⟨hp, hm, h.lst.keep (Nat.le_refl _) (fun k hk2 _ => hk.bel.block k hk2), (hk.safe bb h.bS).trans h.bx, h.bS, h.bl, h.Nl, Nat.le_trans h.Nw hk.bel.size, h.bel.trans (hk.bel.mono h.Nl)⟩

/-- the pair at hand laid to those of old, both forked -/
theorem Rd.forked {p' b' : Nat} {go' : Option Nat} {mpf' : Nat → Nat} {rv' ov2 : Value} (h : Rd w0 S bb ov X q N p b last go ns qs mpf B rv rs os m wr) (hal : Below wr.heap.size wr w1)
    (hown : w2.ownsRow w0.heap.size 35 2 ov2 (os.length + 1) (cellsO os ++ [ptr0 p, ptr0 b])) (hgr : w1.grownBy w2 ov.ownBlock) (hat : ov2.ownBlock = ov.ownBlock ∨ ov2.ownBlock = some w1.heap.size) (h4 : os.length + 1 ≤ 4)
    (F1 : Full w3 p' go' X q last ns qs mpf') (F2 : ∀ k, Ft p' go' qs mpf' k → w2.heap.size ≤ k) (F3 : Below w2.heap.size w2 w3)
    (G1 : IsRS w4 b' w3.heap.size X q last rv' rs) (G2 : w3.heap.size ≤ b') (G3 : ∀ g, rv'.ownBlock = some g → w3.heap.size ≤ g) (G4 : Below w3.heap.size w3 w4)
    (hs : Wr (fun k => k = bb) w4 w5) (hbb : w5.heap[bb]? = some (.cells #[ptr0 p', ptr0 b'] 35)) :
    Rd w0 S bb ov2 X q w2.heap.size p' b' last go' ns qs mpf' w3.heap.size rv' rs (os ++ [(p, b)]) m w5 := by
  have hN := h.Nw
  have hNl := h.Nl
  have hbN := h.pr.slt bb h.bS
  have hbl := h.bl
  have s1 := hal.size
  have s2 := hgr.size
  have s3 := F3.size
  have s4 := G4.size
  have s5 := hs.size
  have k2 : ∀ k, k < wr.heap.size → ov.ownBlock ≠ some k → w2.heap[k]? = wr.heap[k]? := fun k hk e => (hgr.block k (by omega) (fun e2 => e e2.symm)).trans (hal.block k hk)
  have hob : ∀ k, k < wr.heap.size → ov.ownBlock ≠ some k → ov2.ownBlock ≠ some k := fun k hk e e2 => by
    rcases hat with e3 | e3
    · exact e (e3.symm.trans e2)
    · have := Option.some.inj (e2.symm.trans e3); omega
  have hup : ∀ k, Foot p b go qs mpf rv k → ov.ownBlock ≠ some k := fun k hk e => by
    have := (h.pr.up k hk).1
    have := (h.lst.low k e).1
    omega
  have hP2 : Pr N S w2 p b go X q last last ns qs mpf B rv rs rs := h.pr.keep (by omega) (fun k hk => k2 k (h.pr.lt hk) (hup k hk))
  have hP4 := hP2.forked F1 F2 F3 G1 G2 G3 G4
  have hP5 : Pr w2.heap.size S w5 p' b' go' X q last last ns qs mpf' w3.heap.size rv' rs rs := hP4.keep s5 (fun k hk => hs.block k (hP4.lt hk) (fun e => by have := (hP4.up k hk).1; omega))
  have hL2 : Lst w2.heap.size w0.heap.size bb w2 ov2 (os ++ [(p, b)]) X q := by
    refine ⟨?_, by rw [List.length_append]; exact h4, fun g hg => ?_, fun x hx => ?_⟩
    · rw [List.length_append, cellsO_app]
      exact hown
    · refine ⟨(hown.lt g hg).2, fun e => ?_⟩
      rcases hat with e3 | e3
      · exact (h.lst.low g (e3.symm.trans hg)).2 e
      · have := Option.some.inj (hg.symm.trans e3); omega
    · rcases List.mem_append.1 hx with hx | hx
      · exact (h.lst.each x hx).keep (by omega) (fun k a _ c => k2 k (by omega) c) (fun k a c => hob k (by omega) c)
      · rw [List.mem_singleton] at hx
        subst hx
        refine ⟨go, last, ns, qs, mpf, B, rv, rs, hP2.full, hP2.ref, hP2.alk, fun k hk => ⟨hP2.lt hk, fun e => ?_, hob k (h.pr.lt hk) (hup k hk)⟩⟩
        exact (h.pr.up k hk).2 (e ▸ h.bS)
  have hb25 : ∀ k, k < w2.heap.size → k ≠ bb → w5.heap[k]? = w2.heap[k]? := fun k hk e => (hs.block k (by omega) e).trans ((G4.block k (by omega)).trans (F3.block k hk))
  refine ⟨hP5, h.few, hL2.keep (Nat.le_refl _) hb25, hbb, h.bS, hbl, by omega, by omega, ?_⟩
  have b1 : Below w0.heap.size w0 w2 := (h.bel.trans (hal.mono h.bel.size)).trans ((Wr.ofGrown hgr (R := fun k => ov.ownBlock = some k) (fun k e => e.symm ▸ rfl)).below _ (by have := h.bel.size; omega) (fun k e => (h.lst.own.lt k e).1))
  exact ((b1.trans (F3.mono b1.size)).trans (G4.mono (by have := b1.size; omega))).trans (hs.below _ (by have := b1.size; omega) (fun k e => by rw [e]; exact hbl))

theorem Rd.pushed (h : Rd w0 S bb ov X q N p b last go ns qs mpf B rv rs os m wr) (hal : Below wr.heap.size wr w1) (hgr : w1.grownBy w2 ov.ownBlock) : Pr N S w2 p b go X q last last ns qs mpf B rv rs rs := by
  have s1 := hal.size
  have s2 := hgr.size
  refine h.pr.keep (by omega) (fun k hk => ?_)
  have hk2 := h.pr.lt hk
  refine (hgr.block k (by omega) (fun e => ?_)).trans (hal.block k hk2)
  have := (h.pr.up k hk).1
  have := (h.lst.low k e.symm).1
  omega

theorem fork_pr (h : Full w p go X q last ns qs mpf) : Calls Try.prog 8 #[.pointer (some ⟨p, 0, none⟩)] w (ForkPost w X q last ns qs) := by
  cases go with
  | none => exact fork_none h
  | some g => exact fork_some g h

theorem two_set {a c u v : Value} {t : TypeId} (h : w.heap[bb]? = some (.cells #[a, c] t)) : ((w.setCell ⟨bb, 0, none⟩ u).setCell ⟨bb, 1, none⟩ v).heap[bb]? = some (.cells #[u, v] t) := by
  have := heap_setCell_same _ bb 1 _ _ v (heap_setCell_same w bb 0 _ _ u h)
  simpa using this

theorem six {db : Nat} {u0 u1 u2 u3 v0 v1 : Value} {t t2 : TypeId} (h1 : w.heap[db]? = some (.cells #[u0, u1, u2, u3] t)) (h2 : w.heap[bb]? = some (.cells #[v0, v1] t2)) :
    w.cell? ⟨db, 0, none⟩ = some u0 ∧ w.cell? ⟨db, 1, none⟩ = some u1 ∧ w.cell? ⟨db, 2, none⟩ = some u2 ∧ w.cell? ⟨db, 3, none⟩ = some u3 ∧ w.cell? ⟨bb, 0, none⟩ = some v0 ∧ w.cell? ⟨bb, 1, none⟩ = some v1 := by
  unfold World.cell?
  dsimp only
  rw [h1, h2]
  exact ⟨rfl, rfl, rfl, rfl, rfl, rfl⟩

def RdE (w0 : World) (S : List Nat) (bb : Nat) (X : Shp) (q m : Nat) (ov : Value) (wr : World) : Prop :=
  ∃ N p b last go ns qs mpf B rv rs os, Rd w0 S bb ov X q N p b last go ns qs mpf B rv rs os m wr

/-- how many numbers the first k deeds have -/
def sumD (D : Nat → Deed) : Nat → Nat
  | 0 => 0
  | k + 1 => sumD D k + (D k).n
theorem sumD_le (D : Nat → Deed) {k n : Nat} (h : k ≤ n) : sumD D k ≤ sumD D n := by
  induction h with
  | refl => exact Nat.le_refl _
  | step _ ih => exact Nat.le_trans ih (Nat.le_add_right _ _)

end Go.Proofs.Ytnpldfacnmhemaa.SruI
