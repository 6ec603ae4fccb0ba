/- Where there is no map: the program's calls and the document's. -/
import Derived.Test.YtbihelpnojjacaaGreatMap
import Derived.StringKeys
import Derived.Deep.RegionHeld3
import Derived.Deep.QuietTactic
import Derived.BigQuiet
import Derived.BigRegion
import Derived.Test.YtbihelpnojjacaaGreatWri
import Derived.Laws.Closers25b
import Derived.RangeFuncNested
import Derived.RangeFuncBound
import Derived.RangeFuncCalls
import Derived.RangeFuncLeaves
import Derived.Shelf.Abstract
import Derived.Shelf.RegionOpen
import Derived.OwnWalkIn
import Derived.TacticsInMore
import Derived.LoopNIn
import Derived.LoopIn
import Derived.LaidEqlPtr
import Derived.Lib.Builder
import Derived.RangeFuncBox
import Derived.RangeFuncFrom
import Derived.RangeFuncWrites
import Derived.Maps.AppendAt
import Derived.Stop.RegionWithIn
import Derived.Deep.RegionHeldLaw
import Derived.Deep.RegionLaw
import Derived.Deep.AppendLies

/- A bounded map in memory: elements in a ring, and a map to them. -/
namespace Go.Proofs.YtbihelpnojjacaaGreat.LruA
open Go.ChangeShapes Go.WideShapes Go.ChangeAt Go.RowKit Base Wri Map

def ptr (b : Nat) : Value := .pointer (some ⟨b, 0, none⟩)

/-- x stands ahead of y -/
def link (w : World) (x y : Nat) : Prop := w.cell? ⟨x, 3, none⟩ = some (ptr y) ∧ w.cell? ⟨y, 2, none⟩ = some (ptr x)

def Pre (w : World) : Nat → List Nat → Prop
  | _, [] => True
  | p, x :: r => link w p x ∧ Pre w x r
def lst : Nat → List Nat → Nat
  | p, [] => p
  | _, x :: r => lst x r
/-- those of p and A that stand ahead of one of A -/
def srcs : Nat → List Nat → List Nat
  | _, [] => []
  | p, x :: r => p :: srcs x r

theorem lst_app (p : Nat) (A : List Nat) (e : Nat) (B : List Nat) : lst p (A ++ e :: B) = lst e B := by
  induction A generalizing p with
  | nil => rfl
  | cons x r ih => exact ih x
theorem lst_mem (p : Nat) (A : List Nat) : lst p A ∈ p :: A := by
  induction A generalizing p with
  | nil => exact List.mem_cons_self
  | cons x r ih => exact List.mem_cons_of_mem _ (ih x)
theorem srcs_sub (p : Nat) (A : List Nat) : ∀ x ∈ srcs p A, x ∈ p :: A := by
  induction A generalizing p with
  | nil => intro x h; cases h
  | cons y r ih =>
    intro x h
    rcases List.mem_cons.1 h with rfl | h
    · exact List.mem_cons_self
    · exact List.mem_cons_of_mem _ (ih y x h)
theorem lst_not (p : Nat) (A : List Nat) (h : (p :: A).Nodup) : lst p A ∉ srcs p A := by
  induction A generalizing p with
  | nil => intro h; cases h
  | cons y r ih =>
    obtain ⟨h1, h2⟩ := List.nodup_cons.1 h
    intro hm
    rcases List.mem_cons.1 hm with hm | hm
    · exact h1 (hm ▸ lst_mem y r)
    · exact ih y h2 hm

theorem Pre.app {w : World} {p : Nat} {A : List Nat} {e : Nat} {B : List Nat} : Pre w p (A ++ e :: B) ↔ Pre w p A ∧ link w (lst p A) e ∧ Pre w e B := by
  induction A generalizing p with
  | nil => simp [Pre, lst]
  | cons x r ih =>
    show link w p x ∧ Pre w x (r ++ e :: B) ↔ (link w p x ∧ Pre w x r) ∧ link w (lst x r) e ∧ Pre w e B
    rw [ih, and_assoc]
theorem Pre.keep {w w' : World} {p : Nat} {A : List Nat} (h : Pre w p A) (h3 : ∀ x ∈ srcs p A, w'.cell? ⟨x, 3, none⟩ = w.cell? ⟨x, 3, none⟩) (h2 : ∀ y ∈ A, w'.cell? ⟨y, 2, none⟩ = w.cell? ⟨y, 2, none⟩) : Pre w' p A := by
  induction A generalizing p with
  | nil => trivial
  | cons x r ih => exact ⟨⟨(h3 p List.mem_cons_self).trans h.1.1, (h2 x List.mem_cons_self).trans h.1.2⟩, ih h.2 (fun y hy => h3 y (List.mem_cons_of_mem _ hy)) (fun y hy => h2 y (List.mem_cons_of_mem _ hy))⟩

def Ring (w : World) (kn : Nat) (L : List Nat) : Prop := Pre w kn L ∧ link w (lst kn L) kn

/-- the one behind -/
def nxt (kn : Nat) : List Nat → Nat
  | [] => kn
  | b :: _ => b

theorem Ring.around {w : World} {kn e : Nat} {A B : List Nat} (h : Ring w kn (A ++ e :: B)) : link w (lst kn A) e ∧ link w e (nxt kn B) := by
  obtain ⟨h1, h2⟩ := h
  rw [lst_app] at h2
  obtain ⟨_, h4, h5⟩ := Pre.app.1 h1
  refine ⟨h4, ?_⟩
  cases B with
  | nil => exact h2
  | cons b r => exact h5.1

theorem Ring.first {w : World} {kn : Nat} {L : List Nat} (h : Ring w kn L) : link w kn (nxt kn L) := by
  cases L with
  | nil => exact h.2
  | cons b r => exact h.1.1

theorem cell_other {w : World} {x y i j : Nat} {v : Value} (h : ¬ (x = y ∧ i = j)) : (w.setCell ⟨y, j, none⟩ v).cell? ⟨x, i, none⟩ = w.cell? ⟨x, i, none⟩ :=
  World.cell?_setCell_other _ _ _ _ (by intro e; cases e; exact h ⟨rfl, rfl⟩)

theorem Ring.leave {w : World} {kn e : Nat} {A B : List Nat} (h : Ring w kn (A ++ e :: B)) (hn : (kn :: (A ++ e :: B)).Nodup) (u : ∃ u, w.cell? ⟨lst kn A, 3, none⟩ = some u) (u2 : ∃ u, w.cell? ⟨nxt kn B, 2, none⟩ = some u) :
    Ring ((w.setCell ⟨lst kn A, 3, none⟩ (ptr (nxt kn B))).setCell ⟨nxt kn B, 2, none⟩ (ptr (lst kn A))) kn (A ++ B) := by
  obtain ⟨h1, h2⟩ := h
  rw [lst_app] at h2
  obtain ⟨h3, h4, h5⟩ := Pre.app.1 h1
  obtain ⟨pa, hpa⟩ : ∃ pa, lst kn A = pa := ⟨_, rfl⟩
  obtain ⟨pb, hpb⟩ : ∃ pb, nxt kn B = pb := ⟨_, rfl⟩
  rw [hpa] at h4 u ⊢
  rw [hpb] at u2 ⊢
  have c3 : ∀ x, x ≠ pa → ((w.setCell ⟨pa, 3, none⟩ (ptr pb)).setCell ⟨pb, 2, none⟩ (ptr pa)).cell? ⟨x, 3, none⟩ = w.cell? ⟨x, 3, none⟩ := fun x hx => by
    rw [cell_other (by omega), cell_other (fun e => hx e.1)]
  have c2 : ∀ y, y ≠ pb → ((w.setCell ⟨pa, 3, none⟩ (ptr pb)).setCell ⟨pb, 2, none⟩ (ptr pa)).cell? ⟨y, 2, none⟩ = w.cell? ⟨y, 2, none⟩ := fun y hy => by
    rw [cell_other (fun e => hy e.1), cell_other (by omega)]
  have hl : link ((w.setCell ⟨pa, 3, none⟩ (ptr pb)).setCell ⟨pb, 2, none⟩ (ptr pa)) pa pb := by
    obtain ⟨u, hu⟩ := u
    obtain ⟨u2, hu2⟩ := u2
    exact ⟨by rw [cell_other (by omega)]; exact World.cell?_setCell_same _ _ _ hu, World.cell?_setCell_same _ _ _ (by rw [cell_other (by omega)]; exact hu2)⟩
  have hA : (kn :: A).Nodup := by
    refine hn.sublist ?_
    rw [← List.cons_append]
    exact List.sublist_append_left _ _
  have hmem : ∀ x ∈ kn :: A, x ∉ e :: B := by
    rw [← List.cons_append] at hn
    exact fun x hx hy => (List.nodup_append.1 hn).2.2 x hx x hy rfl
  have hpam : pa ∈ kn :: A := hpa ▸ lst_mem kn A
  have hpn : pa ∉ srcs kn A := hpa ▸ lst_not kn A hA
  have hk : kn ∉ A := (List.nodup_cons.1 hA).1
  have hB : (e :: B).Nodup := by
    rw [← List.cons_append] at hn
    exact (List.nodup_append.1 hn).2.1
  cases B with
  | nil =>
    obtain rfl : kn = pb := hpb
    rw [List.append_nil]
    exact ⟨h3.keep (fun x hx => c3 x (fun e1 => hpn (e1 ▸ hx))) (fun y hy => c2 y (fun e1 => hk (e1 ▸ hy))), by rw [hpa]; exact hl⟩
  | cons b r =>
    obtain rfl : b = pb := hpb
    have hbA : b ∉ kn :: A := fun hm => hmem b hm (by simp)
    have hbr : b ∉ r := (List.nodup_cons.1 (List.nodup_cons.1 hB).2).1
    refine ⟨Pre.app.2 ⟨h3.keep (fun x hx => c3 x (fun e1 => hpn (e1 ▸ hx))) (fun y hy => c2 y (fun e1 => hbA (List.mem_cons_of_mem _ (e1 ▸ hy)))), by rw [hpa]; exact hl, h5.2.keep (fun x hx => c3 x (fun e1 => ?_)) (fun y hy => c2 y (fun e1 => hbr (e1 ▸ hy)))⟩, ?_⟩
    · have := srcs_sub b r x hx
      exact hmem pa hpam (List.mem_cons_of_mem _ (e1 ▸ this))
    · rw [lst_app]
      have hm := lst_mem b r
      exact ⟨(c3 _ (fun e1 => hmem pa hpam (List.mem_cons_of_mem _ (e1 ▸ hm)))).trans h2.1, (c2 kn (fun e1 => hbA (e1 ▸ List.mem_cons_self))).trans h2.2⟩

theorem Ring.push {w : World} {kn e : Nat} {L : List Nat} (h : Ring w kn L) (hn : (kn :: L).Nodup) (he : e ∉ kn :: L) (u2 : ∃ u, w.cell? ⟨e, 2, none⟩ = some u) (u3 : ∃ u, w.cell? ⟨e, 3, none⟩ = some u) :
    Ring ((((w.setCell ⟨e, 2, none⟩ (ptr (lst kn L))).setCell ⟨e, 3, none⟩ (ptr kn)).setCell ⟨lst kn L, 3, none⟩ (ptr e)).setCell ⟨kn, 2, none⟩ (ptr e)) kn (L ++ [e]) := by
  obtain ⟨h1, h2⟩ := h
  have hlm := lst_mem kn L
  have hln := lst_not kn L hn
  obtain ⟨la, hla⟩ : ∃ la, lst kn L = la := ⟨_, rfl⟩
  rw [hla] at h2 hlm hln ⊢
  have hel : e ≠ la := fun e1 => he (e1 ▸ hlm)
  have hek : e ≠ kn := fun e1 => he (e1 ▸ List.mem_cons_self)
  obtain ⟨v2, hv2⟩ := u2
  obtain ⟨v3, hv3⟩ := u3
  have c3 : ∀ x, x ≠ la → x ≠ e → ((((w.setCell ⟨e, 2, none⟩ (ptr la)).setCell ⟨e, 3, none⟩ (ptr kn)).setCell ⟨la, 3, none⟩ (ptr e)).setCell ⟨kn, 2, none⟩ (ptr e)).cell? ⟨x, 3, none⟩ = w.cell? ⟨x, 3, none⟩ := fun x h3 h4 => by
    rw [cell_other (by omega), cell_other (by omega), cell_other (by omega), cell_other (by omega)]
  have c2 : ∀ y, y ≠ kn → y ≠ e → ((((w.setCell ⟨e, 2, none⟩ (ptr la)).setCell ⟨e, 3, none⟩ (ptr kn)).setCell ⟨la, 3, none⟩ (ptr e)).setCell ⟨kn, 2, none⟩ (ptr e)).cell? ⟨y, 2, none⟩ = w.cell? ⟨y, 2, none⟩ := fun y h3 h4 => by
    rw [cell_other (by omega), cell_other (by omega), cell_other (by omega), cell_other (by omega)]
  refine ⟨Pre.app.2 ⟨h1.keep (fun x hx => c3 x (fun e1 => hln (e1 ▸ hx)) (fun e1 => he (srcs_sub kn L e (e1 ▸ hx)))) (fun y hy => c2 y (fun e1 => (List.nodup_cons.1 hn).1 (e1 ▸ hy)) (fun e1 => he (List.mem_cons_of_mem _ (e1 ▸ hy)))), ?_, trivial⟩, ?_⟩
  · rw [hla]
    refine ⟨?_, ?_⟩
    · rw [cell_other (by omega)]
      exact World.cell?_setCell_same _ _ _ (by rw [cell_other (by omega), cell_other (by omega)]; exact h2.1)
    · rw [cell_other (by omega), cell_other (by omega), cell_other (by omega)]
      exact World.cell?_setCell_same _ _ _ hv2
  · rw [lst_app]
    show link _ e kn
    refine ⟨?_, ?_⟩
    · rw [cell_other (by omega), cell_other (by omega)]
      exact World.cell?_setCell_same _ _ _ (by rw [cell_other (by omega)]; exact hv3)
    · exact World.cell?_setCell_same _ _ _ (by rw [cell_other (by omega), cell_other (by omega), cell_other (by omega)]; exact h2.2)

end Go.Proofs.YtbihelpnojjacaaGreat.LruA

/- Contracts of a ring's parts: leave, push, first, a new chain. -/
namespace Go.Proofs.YtbihelpnojjacaaGreat.LruB
open Go.ChangeShapes Go.WideShapes Go.ChangeAt Go.RowKit Base Wri Map LruA

/-- an element's links may be written -/
structure Blk (w : World) (b : Nat) : Prop where
  c2 : ∃ u, w.cell? ⟨b, 2, none⟩ = some u
  c3 : ∃ u, w.cell? ⟨b, 3, none⟩ = some u
  fr : ∀ o, w.frozen? ⟨b, o, none⟩ = false

theorem Blk.of_block {w w' : World} {b : Nat} (h : Blk w b) (hb : w'.heap[b]? = w.heap[b]?) : Blk w' b :=
  ⟨h.c2.imp fun _ hu => (World.cell?_of_block (a := ⟨b, 2, none⟩) hb).trans hu, h.c3.imp fun _ hu => (World.cell?_of_block (a := ⟨b, 3, none⟩) hb).trans hu, fun o => (World.frozen?_of_block (a := ⟨b, o, none⟩) hb).trans (h.fr o)⟩

theorem cell_set {w : World} {a : Addr} {v : Value} {b i : Nat} (h : ∃ u, w.cell? ⟨b, i, none⟩ = some u) : ∃ u, (w.setCell a v).cell? ⟨b, i, none⟩ = some u := by
  obtain ⟨u, hu⟩ := h
  by_cases e : a = ⟨b, i, none⟩
  · subst e; exact ⟨v, World.cell?_setCell_same _ _ _ hu⟩
  · exact ⟨u, by rw [World.cell?_setCell_other _ _ _ _ (by first | exact e | exact fun h => e h.symm)]; exact hu⟩

theorem Blk.set {w : World} {b : Nat} (h : Blk w b) (a : Addr) (v : Value) : Blk (w.setCell a v) b :=
  ⟨cell_set h.c2, cell_set h.c3, fun o => by rw [World.frozen?_setCell]; exact h.fr o⟩
theorem Blk.lt {w : World} {b : Nat} (h : Blk w b) : b < w.heap.size := by
  obtain ⟨u, hu⟩ := h.c2
  exact World.block_lt_of_cell? _ _ hu

set_option maxRecDepth 20000 in
set_option maxHeartbeats 1000000 in
theorem leave_any (e pa pb : Nat) (w : World) (h1 : w.cell? ⟨e, 2, none⟩ = some (ptr pa)) (h2 : w.cell? ⟨e, 3, none⟩ = some (ptr pb)) (ha : Blk w pa) (hb : Blk w pb) :
    Calls Tryz.prog 150 #[ptr e] w fun r w' => r = .returned (.tuple #[]) ∧ ∃ m, ((w.setCell ⟨pa, 3, none⟩ (ptr pb)).setCell ⟨pb, 2, none⟩ (ptr pa)).drewN m = w' := by
  obtain ⟨u, hu⟩ := ha.c3
  obtain ⟨v, hv⟩ := hb.c2
  have f1 := ha.fr 3
  have f2 := hb.fr 2
  clear ha hb
  unfold ptr at *
  go_enter Tryz.func150, Tryz.ntmps150
  go_wp2_with fail
  go_region
  go_end0
  exact ⟨rfl, 1, rfl⟩

set_option maxRecDepth 20000 in
set_option maxHeartbeats 1000000 in
theorem push_any (kn la e : Nat) (w : World) (h1 : w.cell? ⟨kn, 2, none⟩ = some (ptr la)) (hk : Blk w kn) (hl : Blk w la) (he : Blk w e) (hek : e ≠ kn) (hel : e ≠ la) :
    Calls Tryz.prog 121 #[.agg #[ptr kn], ptr e] w fun r w' => r = .returned (.tuple #[]) ∧
      ∃ m, (((((w.setCell ⟨e, 2, none⟩ (ptr la)).setCell ⟨e, 3, none⟩ (ptr kn)).setCell ⟨la, 3, none⟩ (ptr e)).setCell ⟨kn, 2, none⟩ (ptr e)).alloc (.cells #[ptr kn] 145)).drewN m = w' := by
  have l1 := hk.lt
  have l2 := hl.lt
  have l3 := he.lt
  obtain ⟨u, hu⟩ := he.c2
  obtain ⟨v, hv⟩ := he.c3
  obtain ⟨u2, hu2⟩ := hl.c3
  have f1 := he.fr 2
  have f2 := he.fr 3
  have f3 := hl.fr 3
  have f4 := hk.fr 2
  clear hk hl he
  unfold ptr at *
  go_enter Tryz.func121, Tryz.ntmps121
  go_wp2_with fail
  go_region
  go_wp2_with fail
  go_region
  go_end0
  exact ⟨rfl, 2, rfl⟩

set_option maxHeartbeats 400000 in
theorem first_any (kn x : Nat) (w : World) (h1 : w.cell? ⟨kn, 3, none⟩ = some (ptr x)) :
    Calls Tryz.prog 124 #[.agg #[ptr kn]] w fun r w' => r = .returned (ptr x) ∧ w.alloc (.cells #[ptr kn] 145) = w' := by
  have l1 := World.block_lt_of_cell? _ _ h1
  unfold ptr at *
  go_enter Tryz.func124, Tryz.ntmps124
  go_wp2
  go_ret
  exact ⟨rfl, rfl⟩

set_option maxHeartbeats 400000 in
theorem newChain_any (w : World) :
    Calls Tryz.prog 120 #[] w fun r w' => r = .returned (.agg #[ptr (w.heap.size + 1)]) ∧ w'.heap[w.heap.size + 1]? = some (.cells #[.string ⟨#[]⟩, .int .i64 0, ptr (w.heap.size + 1), ptr (w.heap.size + 1)] 152) ∧ Below w.heap.size w w' ∧ w.heap.size + 1 < w'.heap.size := by
  unfold ptr at *
  go_enter Tryz.func120, Tryz.ntmps120
  go_wp2
  exact bodyPost_ret (v := .agg #[.pointer (some ⟨w.heap.size + 1, 0, none⟩)]) (by simp [results, Tryz.results120, go_sem]) rfl ⟨rfl, by have := heap_alloc_new (w.alloc (.cells #[.pointer (some ⟨w.heap.size + 1, 0, none⟩)] 145)) (.cells #[.string ⟨#[]⟩, .int .i64 0, .pointer (some ⟨w.heap.size + 1, 0, none⟩), .pointer (some ⟨w.heap.size + 1, 0, none⟩)] 152); simpa using this, ((Below.refl _ _).alloc (Nat.le_refl _) _).alloc (by simp) _, by simp⟩

end Go.Proofs.YtbihelpnojjacaaGreat.LruB

/- A bounded map as a list of what it holds: how calls change it. -/
namespace Go.Proofs.YtbihelpnojjacaaGreat.LruC
open Go.ChangeShapes Go.WideShapes Go.ChangeAt Go.RowKit Base Wri Map LruA LruB
open Go.Maps (Keyed)

structure Ent where
  b : Nat
  k : ByteArray
  v : Int

/-- where a map lies -/
structure Spot where
  mb : Nat
  kn : Nat
  pb : Nat
  most : Nat

def Has (S : Spot) (L : List Ent) (k : Nat) : Prop := k = S.mb ∨ k = S.kn ∨ k = S.pb ∨ ∃ x ∈ L, x.b = k

/-- L is what it holds: all but how the ring goes -/
structure LRest (w : World) (S : Spot) (L : List Ent) : Prop where
  map : w.heap[S.mb]? = some (.cells #[ptr S.kn, .int .i64 S.most, .map (some S.pb)] 148)
  knot : Blk w S.kn
  ents : ∀ x ∈ L, Blk w x.b ∧ w.cell? ⟨x.b, 0, none⟩ = some (.string x.k) ∧ w.cell? ⟨x.b, 1, none⟩ = some (.int .i64 x.v) ∧ x.k.size ≤ maxLen
  apart : (S.mb :: S.pb :: S.kn :: L.map Ent.b).Nodup
  keys : (L.map Ent.k).Nodup
  places : ∃ F, MapOf Tryz.prog 9 w S.pb F L.length ∧ ∀ s v, F (.string s) = some v ↔ ∃ x ∈ L, x.k = s ∧ v = ptr x.b
  m1 : 1 ≤ S.most
  m2 : S.most ≤ 4096

structure IsLru (w : World) (S : Spot) (L : List Ent) : Prop where
  rest : LRest w S L
  ring : Ring w S.kn (L.map Ent.b)
  len : L.length ≤ S.most

variable {w w' : World} {S : Spot} {L L' : List Ent} {R : List Nat}

theorem Ring.keep {w w' : World} {kn : Nat} {R : List Nat} (h : Ring w kn R) (hk : ∀ x ∈ kn :: R, w'.heap[x]? = w.heap[x]?) : Ring w' kn R := by
  refine ⟨h.1.keep (fun x hx => World.cell?_of_block (a := ⟨x, 3, none⟩) (hk x (srcs_sub kn R x hx))) (fun y hy => World.cell?_of_block (a := ⟨y, 2, none⟩) (hk y (List.mem_cons_of_mem _ hy))), ?_⟩
  exact ⟨(World.cell?_of_block (a := ⟨lst kn R, 3, none⟩) (hk _ (lst_mem kn R))).trans h.2.1, (World.cell?_of_block (a := ⟨kn, 2, none⟩) (hk kn List.mem_cons_self)).trans h.2.2⟩

theorem LRest.keep (h : LRest w S L) (hk : ∀ k, Has S L k → w'.heap[k]? = w.heap[k]?) : LRest w' S L where
  map := (hk _ (.inl rfl)).trans h.map
  knot := h.knot.of_block (hk _ (.inr (.inl rfl)))
  ents := fun x hx => by
    obtain ⟨h1, h2, h3, h4⟩ := h.ents x hx
    have e := hk x.b (.inr (.inr (.inr ⟨x, hx, rfl⟩)))
    exact ⟨h1.of_block e, (World.cell?_of_block (a := ⟨x.b, 0, none⟩) e).trans h2, (World.cell?_of_block (a := ⟨x.b, 1, none⟩) e).trans h3, h4⟩
  apart := h.apart
  keys := h.keys
  places := by
    obtain ⟨F, h1, h2⟩ := h.places
    exact ⟨F, h1.of_block (hk _ (.inr (.inr (.inl rfl)))), h2⟩
  m1 := h.m1
  m2 := h.m2

theorem LRest.lt (h : LRest w S L) (k : Nat) (hk : Has S L k) : k < w.heap.size := by
  rcases hk with rfl | rfl | rfl | ⟨x, hx, rfl⟩
  · exact (Array.getElem?_eq_some_iff.1 h.map).1
  · exact h.knot.lt
  · obtain ⟨F, h1, _⟩ := h.places
    exact h1.lt
  · exact (h.ents x hx).1.lt

theorem LRest.below (h : LRest w S L) (hb : Below w.heap.size w w') : LRest w' S L := h.keep fun k hk => hb.block k (h.lt k hk)

theorem IsLru.keep (h : IsLru w S L) (hk : ∀ k, Has S L k → w'.heap[k]? = w.heap[k]?) : IsLru w' S L :=
  ⟨h.rest.keep hk, Ring.keep h.ring (fun x hx => by
    rcases List.mem_cons.1 hx with rfl | hx
    · exact hk _ (.inr (.inl rfl))
    · obtain ⟨y, hy, rfl⟩ := List.mem_map.1 hx
      exact hk _ (.inr (.inr (.inr ⟨y, hy, rfl⟩)))), h.len⟩
theorem IsLru.below (h : IsLru w S L) (hb : Below w.heap.size w w') : IsLru w' S L := h.keep fun k hk => hb.block k (h.rest.lt k hk)
theorem IsLru.wr {Q : Nat → Prop} (h : IsLru w S L) (hw : Wr Q w w') (hq : ∀ k, Has S L k → ¬ Q k) : IsLru w' S L := h.keep fun k hk => hw.block k (h.rest.lt k hk) (hq k hk)

theorem LRest.perm (h : LRest w S L) (hp : L.Perm L') : LRest w S L' where
  map := h.map
  knot := h.knot
  ents := fun x hx => h.ents x (hp.mem_iff.2 hx)
  apart := ((((hp.map Ent.b).cons S.kn).cons S.pb).cons S.mb).nodup_iff.1 h.apart
  keys := (hp.map Ent.k).nodup_iff.1 h.keys
  places := by
    obtain ⟨F, h1, h2⟩ := h.places
    refine ⟨F, hp.length_eq ▸ h1, fun s v => (h2 s v).trans ?_⟩
    exact ⟨fun ⟨x, hx, e⟩ => ⟨x, hp.mem_iff.1 hx, e⟩, fun ⟨x, hx, e⟩ => ⟨x, hp.mem_iff.2 hx, e⟩⟩
  m1 := h.m1
  m2 := h.m2

theorem LRest.far (h : LRest w S L) (b : Nat) (hb : b = S.kn ∨ ∃ x ∈ L, x.b = b) : b ≠ S.mb ∧ b ≠ S.pb := by
  have := h.apart
  simp only [List.nodup_cons, List.mem_cons, List.mem_map, not_or] at this
  rcases hb with rfl | ⟨x, hx, rfl⟩
  · exact ⟨fun e => this.1.2.1 e.symm, fun e => this.2.1.1 e.symm⟩
  · exact ⟨fun e => this.1.2.2 ⟨x, hx, e⟩, fun e => this.2.1.2 ⟨x, hx, e⟩⟩

/-- a link of an element is written: all but the ring stays -/
theorem LRest.link (h : LRest w S L) (b i : Nat) (hb : b = S.kn ∨ ∃ x ∈ L, x.b = b) (hi : 2 ≤ i) (v : Value) : LRest (w.setCell ⟨b, i, none⟩ v) S L where
  map := by rw [heap_setCell_other _ _ _ _ (h.far b hb).1.symm]; exact h.map
  knot := h.knot.set _ _
  ents := fun x hx => by
    obtain ⟨h1, h2, h3, h4⟩ := h.ents x hx
    exact ⟨h1.set _ _, by rw [cell_other (by omega)]; exact h2, by rw [cell_other (by omega)]; exact h3, h4⟩
  apart := h.apart
  keys := h.keys
  places := by
    obtain ⟨F, h1, h2⟩ := h.places
    exact ⟨F, h1.of_block (heap_setCell_other _ _ _ _ (h.far b hb).2.symm), h2⟩
  m1 := h.m1
  m2 := h.m2

/-- one and its value -/
theorem LRest.only (h : LRest w S L) {x y : Ent} (hx : x ∈ L) (hy : y ∈ L) (e : x.k = y.k ∨ x.b = y.b) : x = y := by
  rcases e with e | e
  · have := h.keys
    obtain ⟨i, hi⟩ := List.getElem?_of_mem hx
    obtain ⟨j, hj⟩ := List.getElem?_of_mem hy
    have hij : i = j := by
      have h1 : (L.map Ent.k)[i]? = some x.k := by simp [hi]
      have h2 : (L.map Ent.k)[j]? = some x.k := by simp [hj, e]
      exact (List.getElem?_inj (by have := (List.getElem?_eq_some_iff.1 h1).1; exact this) this).1 (h1.trans h2.symm)
    subst hij
    rw [hi] at hj
    exact Option.some.inj hj
  · have := h.apart
    simp only [List.nodup_cons] at this
    have := this.2.2.2
    obtain ⟨i, hi⟩ := List.getElem?_of_mem hx
    obtain ⟨j, hj⟩ := List.getElem?_of_mem hy
    have hij : i = j := by
      have h1 : (L.map Ent.b)[i]? = some x.b := by simp [hi]
      have h2 : (L.map Ent.b)[j]? = some x.b := by simp [hj, e]
      exact (List.getElem?_inj (by have := (List.getElem?_eq_some_iff.1 h1).1; exact this) this).1 (h1.trans h2.symm)
    subst hij
    rw [hi] at hj
    exact Option.some.inj hj

theorem LRest.value {A B : List Ent} {x : Ent} (h : LRest w S (A ++ x :: B)) (n : Int) : LRest (w.setCell ⟨x.b, 1, none⟩ (.int .i64 n)) S (A ++ { x with v := n } :: B) where
  map := by rw [heap_setCell_other _ _ _ _ (h.far x.b (.inr ⟨x, by simp, rfl⟩)).1.symm]; exact h.map
  knot := h.knot.set _ _
  ents := fun y hy => by
    have hx := h.ents x (by simp)
    by_cases e : y = { x with v := n }
    · subst e
      exact ⟨hx.1.set _ _, by show World.cell? _ ⟨x.b, 0, none⟩ = _; rw [cell_other (by omega)]; exact hx.2.1, World.cell?_setCell_same _ _ _ hx.2.2.1, hx.2.2.2⟩
    · have hy2 : y ∈ A ++ B := by
        rcases List.mem_append.1 hy with hy | hy
        · exact List.mem_append.2 (.inl hy)
        · rcases List.mem_cons.1 hy with hy | hy
          · exact absurd hy e
          · exact List.mem_append.2 (.inr hy)
      have hy3 : y ∈ A ++ x :: B := by
        rcases List.mem_append.1 hy2 with hy | hy
        · exact List.mem_append.2 (.inl hy)
        · exact List.mem_append.2 (.inr (List.mem_cons_of_mem _ hy))
      obtain ⟨h1, h2, h3, h4⟩ := h.ents y hy3
      have hne : y.b ≠ x.b := fun e2 => by
        have hnd := h.keys
        have e3 := h.only hy3 (by simp) (.inr e2)
        subst e3
        rw [List.map_append, List.map_cons] at hnd
        have hnd2 := (List.perm_middle.nodup_iff.1 hnd)
        rw [← List.map_append] at hnd2
        exact (List.nodup_cons.1 hnd2).1 (List.mem_map.2 ⟨y, hy2, rfl⟩)
      exact ⟨h1.set _ _, by rw [cell_other (fun e => hne e.1)]; exact h2, by rw [cell_other (fun e => hne e.1)]; exact h3, h4⟩
  apart := by simpa using h.apart
  keys := by simpa using h.keys
  places := by
    obtain ⟨F, h1, h2⟩ := h.places
    refine ⟨F, ?_, fun s v => (h2 s v).trans ?_⟩
    · have : MapOf Tryz.prog 9 (w.setCell ⟨x.b, 1, none⟩ (.int .i64 n)) S.pb F (A ++ x :: B).length := h1.of_block (heap_setCell_other _ _ _ _ (h.far x.b (.inr ⟨x, by simp, rfl⟩)).2.symm)
      simpa using this
    · simp only [List.mem_append, List.mem_cons]
      constructor
      · rintro ⟨y, hy | rfl | hy, e⟩
        · exact ⟨y, .inl hy, e⟩
        · exact ⟨_, .inr (.inl rfl), e⟩
        · exact ⟨y, .inr (.inr hy), e⟩
      · rintro ⟨y, hy | rfl | hy, e⟩
        · exact ⟨y, .inl hy, e⟩
        · exact ⟨x, .inr (.inl rfl), e⟩
        · exact ⟨y, .inr (.inr hy), e⟩
  m1 := h.m1
  m2 := h.m2

theorem ring_value {kn : Nat} {R : List Nat} {b : Nat} {v : Value} (h : Ring w kn R) : Ring (w.setCell ⟨b, 1, none⟩ v) kn R :=
  ⟨h.1.keep (fun x _ => cell_other (by omega)) (fun y _ => cell_other (by omega)), (cell_other (by omega)).trans h.2.1, (cell_other (by omega)).trans h.2.2⟩

end Go.Proofs.YtbihelpnojjacaaGreat.LruC

/- Contracts of a bounded map's calls: find, touch, and those that tell. -/
namespace Go.Proofs.YtbihelpnojjacaaGreat.LruD
open Go.ChangeShapes Go.WideShapes Go.ChangeAt Go.RowKit Base Wri Map LruA LruB LruC
open Go.Maps (Keyed string_keyed)

variable {w w' : World} {S : Spot} {L L' : List Ent}

theorem keyed : Keyed Tryz.prog 9 := string_keyed Tryz.underlying9
theorem zeroE (w : World) : (zeroValue 143).run Tryz.prog w = .ok (.pointer none) w := by kernel_rfl

theorem LRest.mcell (h : LRest w S L) : w.cell? ⟨S.mb, 0, none⟩ = some (ptr S.kn) ∧ w.cell? ⟨S.mb, 1, none⟩ = some (.int .i64 S.most) ∧ w.cell? ⟨S.mb, 2, none⟩ = some (.map (some S.pb)) := by
  have := h.map
  exact ⟨by simp [World.cell?, this], by simp [World.cell?, this], by simp [World.cell?, this]⟩

theorem LRest.look (h : LRest w S L) (s : ByteArray) (hs : s.size ≤ maxLen) :
    (∀ x ∈ L, x.k = s → (Instr.lookup 146 (.map (some S.pb)) (.string s) false).run Tryz.prog w = .ok (ptr x.b) w) ∧
    ((∀ x ∈ L, x.k ≠ s) → (Instr.lookup 146 (.map (some S.pb)) (.string s) false).run Tryz.prog w = .ok (.pointer none) w) := by
  obtain ⟨F, h1, h2⟩ := h.places
  have hl := h1.look false keyed Tryz.underlying146 (zeroE w) (Go.WideMaps.keyOf_string_mk Tryz.underlying9 hs)
  refine ⟨fun x hx hk => ?_, fun hn => ?_⟩
  · have : F (.string s) = some (ptr x.b) := (h2 s _).2 ⟨x, hx, hk, rfl⟩
    rw [this] at hl
    simpa using hl
  · have : F (.string s) = none := by
      cases hF : F (.string s) with
      | none => rfl
      | some v => obtain ⟨x, hx, hk, _⟩ := (h2 s v).1 hF; exact absurd hk (hn x hx)
    rw [this] at hl
    simpa using hl

set_option maxHeartbeats 400000 in
theorem find_core (mb pb : Nat) (s : ByteArray) (r : Value) (w : World) (c2 : w.cell? ⟨mb, 2, none⟩ = some (.map (some pb))) (hl : (Instr.lookup 146 (.map (some pb)) (.string s) false).run Tryz.prog w = .ok r w) :
    Calls Tryz.prog 149 #[ptr mb, .string s] w fun e w' => e = .returned r ∧ w = w' := by
  unfold ptr
  go_enter Tryz.func149, Tryz.ntmps149
  go_wp2
  go_ret
  exact ⟨rfl, rfl⟩

theorem find_yes (h : LRest w S L) {x : Ent} (hx : x ∈ L) : Calls Tryz.prog 149 #[ptr S.mb, .string x.k] w fun e w' => e = .returned (ptr x.b) ∧ w = w' :=
  find_core _ _ _ _ _ (LRest.mcell h).2.2 ((LRest.look h x.k (h.ents x hx).2.2.2).1 x hx rfl)
theorem find_no (h : LRest w S L) {s : ByteArray} (hs : s.size ≤ maxLen) (hn : ∀ x ∈ L, x.k ≠ s) : Calls Tryz.prog 149 #[ptr S.mb, .string s] w fun e w' => e = .returned (.pointer none) ∧ w = w' :=
  find_core _ _ _ _ _ (LRest.mcell h).2.2 ((LRest.look h s hs).2 hn)

set_option maxHeartbeats 400000 in
theorem find_nil (s : ByteArray) (w : World) : Calls Tryz.prog 149 #[.pointer none, .string s] w fun e w' => e = .returned (.pointer none) ∧ w = w' := by
  go_enter Tryz.func149, Tryz.ntmps149
  go_wp2
  go_ret
  exact ⟨rfl, rfl⟩

set_option maxHeartbeats 400000 in
theorem tell_yes (b : Nat) (n : Int) (w : World) (h : w.cell? ⟨b, 1, none⟩ = some (.int .i64 n)) : Calls Tryz.prog 134 #[ptr b] w fun e w' => e = .returned (.tuple #[.int .i64 n, .bool true]) ∧ w = w' := by
  unfold ptr
  go_enter Tryz.func134, Tryz.ntmps134
  go_wp2
  go_ret2
  exact ⟨rfl, rfl⟩

set_option maxHeartbeats 400000 in
theorem tell_no (w : World) : Calls Tryz.prog 134 #[.pointer none] w fun e w' => e = .returned (.tuple #[.int .i64 0, .bool false]) ∧ w = w' := by
  go_enter Tryz.func134, Tryz.ntmps134
  go_wp2
  go_ret2
  exact ⟨rfl, rfl⟩

set_option maxHeartbeats 400000 in
theorem len_core (mb pb n : Nat) (w : World) (c2 : w.cell? ⟨mb, 2, none⟩ = some (.map (some pb))) (hl : ∀ ty, (Builtin.len_ #[146] ty #[.map (some pb)]).run Tryz.prog w = .ok (.int .i64 n) w) :
    Calls Tryz.prog 123 #[ptr mb] w fun e w' => e = .returned (.int .i64 n) ∧ w = w' := by
  have hl3 := hl 3
  clear hl
  unfold ptr
  go_enter Tryz.func123, Tryz.ntmps123
  go_wp2
  go_ret
  exact ⟨rfl, rfl⟩

theorem len_any (h : LRest w S L) : Calls Tryz.prog 123 #[ptr S.mb] w fun e w' => e = .returned (.int .i64 L.length) ∧ w = w' := by
  obtain ⟨F, h1, _⟩ := h.places
  exact len_core _ _ _ _ (LRest.mcell h).2.2 (fun ty => h1.len Tryz.underlying146 ty)

/-- what lies where it lay: all but what a map may write -/
theorem wr_link {b i : Nat} {v : Value} (hb : b = S.kn ∨ ∃ x ∈ L, x.b = b) : Wr (Has S L) w (w.setCell ⟨b, i, none⟩ v) :=
  Wr.set ⟨b, i, none⟩ v (hb.elim (fun e => .inr (.inl e)) (fun e => .inr (.inr (.inr e))))

theorem blk_of {w : World} (h : LRest w S L) {b : Nat} (hb : b = S.kn ∨ ∃ y ∈ L, y.b = b) : Blk w b := hb.elim (fun e => e ▸ h.knot) (fun ⟨y, hy, e⟩ => e ▸ (h.ents y hy).1)

theorem lrest_heap (h : LRest w S L) (e : w'.heap = w.heap) : LRest w' S L := h.keep fun k _ => by rw [e]
theorem ring_heap {kn : Nat} {R : List Nat} (h : Ring w kn R) (e : w'.heap = w.heap) : Ring w' kn R := Ring.keep h fun k _ => by rw [e]

theorem pushed {R : List Nat} {x : Ent} (h : LRest w S L) (hr : Ring w S.kn R) (hx : x ∈ L) (hxn : x.b ∉ S.kn :: R) (hnd : (S.kn :: R).Nodup) (hsub : ∀ b ∈ R, ∃ y ∈ L, y.b = b) :
    Calls Tryz.prog 121 #[.agg #[ptr S.kn], ptr x.b] w fun e w' => e = .returned (.tuple #[]) ∧ LRest w' S L ∧ Ring w' S.kn (R ++ [x.b]) ∧ Wr (Has S L) w w' := by
  have hlam := lst_mem S.kn R
  have hlam2 : lst S.kn R = S.kn ∨ ∃ y ∈ L, y.b = lst S.kn R := (List.mem_cons.1 hlam).elim .inl (fun e => .inr (hsub _ e))
  have hxm : x.b = S.kn ∨ ∃ y ∈ L, y.b = x.b := .inr ⟨x, hx, rfl⟩
  refine (push_any S.kn (lst S.kn R) x.b w hr.2.2 h.knot (blk_of h hlam2) (blk_of h hxm) (fun e => hxn (e ▸ List.mem_cons_self)) (fun e => hxn (e ▸ hlam))).mono ?_
  rintro e w' ⟨rfl, m, rfl⟩
  have h2 := (((h.link x.b 2 hxm (by omega) (ptr (lst S.kn R))).link x.b 3 hxm (by omega) (ptr S.kn)).link (lst S.kn R) 3 hlam2 (by omega) (ptr x.b)).link S.kn 2 (.inl rfl) (by omega) (ptr x.b)
  have hr2 := hr.push hnd hxn (blk_of h hxm).c2 (blk_of h hxm).c3
  have hb : ∀ (w1 : World) (o : Obj), Below w1.heap.size w1 ((w1.alloc o).drewN m) := fun w1 o => ⟨rfl, rfl, rfl, by simp [World.drewN], fun k hk => Below.heap_alloc w1 o k hk⟩
  refine ⟨rfl, h2.below (hb _ _), Ring.keep hr2 (fun k hk => (hb _ _).block k ?_), ((((wr_link hxm).trans (wr_link hxm)).trans (wr_link hlam2)).trans (wr_link (.inl rfl))).trans (Wr.ofBelow (hb _ _))⟩
  rcases List.mem_cons.1 hk with rfl | hk
  · exact h2.knot.lt
  · rcases List.mem_append.1 hk with hk | hk
    · exact (blk_of h2 (.inr (hsub _ hk))).lt
    · rw [List.mem_singleton.1 hk]; exact (blk_of h2 hxm).lt

theorem left {A B : List Ent} {x : Ent} (h : LRest w S (A ++ x :: B)) (hr : Ring w S.kn (A.map Ent.b ++ x.b :: B.map Ent.b)) :
    Calls Tryz.prog 150 #[ptr x.b] w fun e w' => e = .returned (.tuple #[]) ∧ LRest w' S (A ++ x :: B) ∧ Ring w' S.kn (A.map Ent.b ++ B.map Ent.b) ∧ Wr (Has S (A ++ x :: B)) w w' := by
  obtain ⟨hl1, hl2⟩ := hr.around
  have hpam : lst S.kn (A.map Ent.b) = S.kn ∨ ∃ y ∈ A ++ x :: B, y.b = lst S.kn (A.map Ent.b) := by
    rcases List.mem_cons.1 (lst_mem S.kn (A.map Ent.b)) with e | e
    · exact .inl e
    · obtain ⟨y, hy, e⟩ := List.mem_map.1 e
      exact .inr ⟨y, by simp [hy], e⟩
  have hpbm : nxt S.kn (B.map Ent.b) = S.kn ∨ ∃ y ∈ A ++ x :: B, y.b = nxt S.kn (B.map Ent.b) := by
    cases B with
    | nil => exact .inl rfl
    | cons y r => exact .inr ⟨y, by simp, rfl⟩
  have hnd : (S.kn :: (A.map Ent.b ++ x.b :: B.map Ent.b)).Nodup := by
    have := h.apart
    rw [List.map_append, List.map_cons] at this
    exact (List.nodup_cons.1 (List.nodup_cons.1 this).2).2
  refine (leave_any x.b _ _ w hl1.2 hl2.1 (blk_of h hpam) (blk_of h hpbm)).mono ?_
  rintro e w' ⟨rfl, m, rfl⟩
  have h1 := (h.link _ 3 hpam (by omega) (ptr (nxt S.kn (B.map Ent.b)))).link _ 2 hpbm (by omega) (ptr (lst S.kn (A.map Ent.b)))
  exact ⟨rfl, lrest_heap h1 rfl, ring_heap (hr.leave hnd (blk_of h hpam).c3 (blk_of h hpbm).c2) rfl, ((wr_link hpam).trans (wr_link hpbm)).drewN m⟩

/-- the ring's blocks without one -/
theorem apart_out {A B : List Ent} {x : Ent} (h : LRest w S (A ++ x :: B)) : x.b ∉ S.kn :: (A.map Ent.b ++ B.map Ent.b) ∧ (S.kn :: (A.map Ent.b ++ B.map Ent.b)).Nodup := by
  have hnd : (S.kn :: (A.map Ent.b ++ x.b :: B.map Ent.b)).Nodup := by
    have := h.apart
    rw [List.map_append, List.map_cons] at this
    exact (List.nodup_cons.1 (List.nodup_cons.1 this).2).2
  have hp : (S.kn :: (A.map Ent.b ++ x.b :: B.map Ent.b)).Perm (x.b :: S.kn :: (A.map Ent.b ++ B.map Ent.b)) := (List.Perm.cons _ List.perm_middle).trans (List.Perm.swap _ _ _)
  exact List.nodup_cons.1 (hp.nodup_iff.1 hnd)

theorem sub_out {A B : List Ent} {x : Ent} : ∀ b ∈ A.map Ent.b ++ B.map Ent.b, ∃ y ∈ A ++ x :: B, y.b = b := by
  intro b hb
  rw [← List.map_append] at hb
  obtain ⟨y, hy, e⟩ := List.mem_map.1 hb
  refine ⟨y, ?_, e⟩
  rcases List.mem_append.1 hy with hy | hy
  · simp [hy]
  · simp [hy]

theorem touch_yes {A B : List Ent} {x : Ent} (h : IsLru w S (A ++ x :: B)) :
    Calls Tryz.prog 122 #[ptr S.mb, .string x.k] w fun e w' => e = .returned (ptr x.b) ∧ IsLru w' S (A ++ B ++ [x]) ∧ Wr (Has S (A ++ x :: B)) w w' := by
  have hx : x ∈ A ++ x :: B := by simp
  have hr := h.ring
  rw [List.map_append, List.map_cons] at hr
  have HFY := hid (find_yes h.rest hx)
  have HL := hid (left h.rest hr)
  have HO := hid (apart_out h.rest)
  have hlen := h.len
  have HLen := hid hlen
  clear hr h hlen
  unfold ptr at *
  go_enter Tryz.func122, Tryz.ntmps122
  go_wp2_with fail
  refine HFY.out.mono ?_
  rintro e w3 ⟨rfl, rfl⟩
  go_wp2_with fail
  refine HL.out.mono ?_
  rintro e w3 ⟨rfl, h3, hr3, hw3⟩
  have hm := (LRest.mcell h3).1
  have HP := hid (pushed h3 hr3 hx HO.out.1 HO.out.2 sub_out)
  have HW := hid hw3
  clear HL HFY h3 hr3 hw3
  unfold ptr at *
  go_wp2_with fail
  refine HP.out.mono ?_
  rintro e w4 ⟨rfl, h4, hr4, hw4⟩
  have HF : Hid (IsLru w4 S (A ++ B ++ [x]) ∧ Wr (Has S (A ++ x :: B)) w w4) := hid ⟨⟨h4.perm (List.perm_middle.trans (List.perm_append_singleton x (A ++ B)).symm), by simpa using hr4, by have := HLen.out; simp at this ⊢; omega⟩, HW.out.trans hw4⟩
  clear HP h4 hr4 hw4 HW
  go_wp2_with fail
  go_ret
  exact ⟨rfl, HF.out⟩

theorem touch_no (h : LRest w S L) {s : ByteArray} (hs : s.size ≤ maxLen) (hn : ∀ x ∈ L, x.k ≠ s) :
    Calls Tryz.prog 122 #[ptr S.mb, .string s] w fun e w' => e = .returned (.pointer none) ∧ w = w' := by
  have HFN := hid (find_no h hs hn)
  clear h hn
  unfold ptr at *
  go_enter Tryz.func122, Tryz.ntmps122
  go_wp2_with fail
  refine HFN.out.mono ?_
  rintro e w3 ⟨rfl, rfl⟩
  go_wp2_with fail
  go_ret
  exact ⟨rfl, rfl⟩

end Go.Proofs.YtbihelpnojjacaaGreat.LruD

/- Contracts of a bounded map's calls: add, Drop, Get. -/
namespace Go.Proofs.YtbihelpnojjacaaGreat.LruE
open Go.ChangeShapes Go.WideShapes Go.ChangeAt Go.RowKit Base Wri Map LruA LruB LruC LruD
open Go.Maps (Keyed string_keyed)

variable {w w' : World} {S : Spot} {L L' : List Ent}

/-- one more, its place noted -/
theorem LRest.added (h : LRest w S L) {nb : Nat} {s : ByteArray} {v : Int} {u2 u3 : Value} {F : Value → Option Value} (hnb : w.heap[nb]? = some (.cells #[.string s, .int .i64 v, u2, u3] 152)) (hfar : ¬ Has S L nb) (hs : s.size ≤ maxLen) (hn : ∀ x ∈ L, x.k ≠ s)
    (hF : ∀ s v, F (.string s) = some v ↔ ∃ x ∈ L, x.k = s ∧ v = ptr x.b) (hM : MapOf Tryz.prog 9 w' S.pb (put F (.string s) (ptr nb)) (L.length + 1)) (hW : Wr (fun j => j = S.pb) w w') : LRest w' S (L ++ [⟨nb, s, v⟩]) := by
  have hap := h.apart
  have hnl : nb < w.heap.size := (Array.getElem?_eq_some_iff.1 hnb).1
  have f1 : nb ≠ S.mb := fun e => hfar (.inl e)
  have f2 : nb ≠ S.kn := fun e => hfar (.inr (.inl e))
  have f3 : nb ≠ S.pb := fun e => hfar (.inr (.inr (.inl e)))
  have f4 : ∀ x ∈ L, x.b ≠ nb := fun x hx e => hfar (.inr (.inr (.inr ⟨x, hx, e⟩)))
  have hnb' : w'.heap[nb]? = some (.cells #[.string s, .int .i64 v, u2, u3] 152) := (hW.block nb hnl f3).trans hnb
  simp only [List.nodup_cons, List.mem_cons, List.mem_map, not_or] at hap
  refine { map := (hW.block _ (h.lt _ (.inl rfl)) hap.1.1).trans h.map, knot := h.knot.of_block (hW.block _ (h.lt _ (.inr (.inl rfl))) (fun e => hap.2.1.1 e.symm)), ents := fun x hx => ?_, apart := ?_, keys := ?_, places := ⟨put F (.string s) (ptr nb), by simpa using hM, fun q u => ?_⟩, m1 := h.m1, m2 := h.m2 }
  · rcases List.mem_append.1 hx with hx | hx
    · obtain ⟨h1, h2, h3, h4⟩ := h.ents x hx
      have e := hW.block x.b h1.lt (fun e => hap.2.1.2 ⟨x, hx, e⟩)
      exact ⟨h1.of_block e, (World.cell?_of_block (a := ⟨x.b, 0, none⟩) e).trans h2, (World.cell?_of_block (a := ⟨x.b, 1, none⟩) e).trans h3, h4⟩
    · obtain rfl := List.mem_singleton.1 hx
      have hB : Blk w' nb := Blk.mk (Exists.intro u2 (by simp [World.cell?, hnb'])) (Exists.intro u3 (by simp [World.cell?, hnb'])) (fun o => by simp [World.frozen?, hnb'])
      exact ⟨hB, by simp [World.cell?, hnb'], by simp [World.cell?, hnb'], hs⟩
  · have hp : (S.mb :: S.pb :: S.kn :: (L ++ [(⟨nb, s, v⟩ : Ent)]).map Ent.b).Perm (nb :: S.mb :: S.pb :: S.kn :: L.map Ent.b) := by
      rw [List.map_append]
      exact ((((List.perm_append_singleton nb (L.map Ent.b)).cons S.kn).cons S.pb).cons S.mb).trans ((((List.Perm.swap nb S.kn _).cons S.pb).cons S.mb).trans (((List.Perm.swap nb S.pb _).cons S.mb).trans (List.Perm.swap nb S.mb _)))
    refine hp.nodup_iff.2 (List.nodup_cons.2 ⟨?_, h.apart⟩)
    simp only [List.mem_cons, List.mem_map, not_or]
    exact ⟨f1, f3, f2, fun ⟨x, hx, e⟩ => f4 x hx e⟩
  · have hp : ((L ++ [(⟨nb, s, v⟩ : Ent)]).map Ent.k).Perm (s :: L.map Ent.k) := by
      rw [List.map_append]
      exact List.perm_append_singleton s (L.map Ent.k)
    refine hp.nodup_iff.2 (List.nodup_cons.2 ⟨?_, h.keys⟩)
    simp only [List.mem_map]
    exact fun ⟨x, hx, e⟩ => hn x hx e
  · by_cases hq : q = s
    · subst hq
      rw [put_same]
      constructor
      · intro e; cases e; exact ⟨⟨nb, q, v⟩, by simp, rfl, rfl⟩
      · rintro ⟨x, hx, hk, rfl⟩
        rcases List.mem_append.1 hx with hx | hx
        · exact absurd hk (hn x hx)
        · obtain rfl := List.mem_singleton.1 hx; rfl
    · rw [put_other (fun e => hq (by injection e)), hF q u]
      constructor
      · rintro ⟨x, hx, hk⟩; exact ⟨x, by simp [hx], hk⟩
      · rintro ⟨x, hx, hk⟩
        rcases List.mem_append.1 hx with hx | hx
        · exact ⟨x, hx, hk⟩
        · obtain rfl := List.mem_singleton.1 hx; exact absurd hk.1.symm hq

/-- one less -/
theorem LRest.gone {A B : List Ent} {x : Ent} (h : LRest w S (A ++ x :: B)) {F : Value → Option Value} (hF : ∀ s v, F (.string s) = some v ↔ ∃ y ∈ A ++ x :: B, y.k = s ∧ v = ptr y.b)
    (hM : MapOf Tryz.prog 9 w' S.pb (del F (.string x.k)) ((A ++ x :: B).length - 1)) (hW : Wr (fun j => j = S.pb) w w') : LRest w' S (A ++ B) := by
  have hap := h.apart
  have hp : (A ++ x :: B).Perm (x :: (A ++ B)) := List.perm_middle
  have hin : ∀ y ∈ A ++ B, y ∈ A ++ x :: B := fun y hy => hp.mem_iff.2 (List.mem_cons_of_mem _ hy)
  have hne : ∀ y ∈ A ++ B, y.k ≠ x.k := fun y hy e => by
    have := (hp.map Ent.k).nodup_iff.1 h.keys
    exact (List.nodup_cons.1 this).1 (e ▸ List.mem_map.2 ⟨y, hy, rfl⟩)
  simp only [List.nodup_cons, List.mem_cons, List.mem_map, not_or] at hap
  refine { map := (hW.block _ (h.lt _ (.inl rfl)) hap.1.1).trans h.map, knot := h.knot.of_block (hW.block _ (h.lt _ (.inr (.inl rfl))) (fun e => hap.2.1.1 e.symm)), ents := fun y hy => ?_, apart := ?_, keys := ?_, places := ⟨del F (.string x.k), by simpa using hM, fun q u => ?_⟩, m1 := h.m1, m2 := h.m2 }
  · obtain ⟨h1, h2, h3, h4⟩ := h.ents y (hin y hy)
    have e := hW.block y.b h1.lt (fun e => hap.2.1.2 ⟨y, hin y hy, e⟩)
    exact ⟨h1.of_block e, (World.cell?_of_block (a := ⟨y.b, 0, none⟩) e).trans h2, (World.cell?_of_block (a := ⟨y.b, 1, none⟩) e).trans h3, h4⟩
  · refine h.apart.sublist (((((List.Sublist.append_left (List.sublist_cons_self x B) A).map Ent.b).cons_cons S.kn).cons_cons S.pb).cons_cons S.mb)
  · exact h.keys.sublist ((List.Sublist.append_left (List.sublist_cons_self x B) A).map Ent.k)
  · by_cases hq : q = x.k
    · subst hq
      rw [del_same]
      constructor
      · intro e; cases e
      · rintro ⟨y, hy, hk, _⟩; exact absurd hk (hne y hy)
    · rw [del_other (fun e => hq (by injection e)), hF q u]
      constructor
      · rintro ⟨y, hy, hk⟩
        rcases List.mem_cons.1 (hp.mem_iff.1 hy) with rfl | hy
        · exact absurd hk.1.symm hq
        · exact ⟨y, hy, hk⟩
      · rintro ⟨y, hy, hk⟩; exact ⟨y, hin y hy, hk⟩

set_option maxRecDepth 20000 in
set_option maxHeartbeats 1000000 in
theorem add_core (mb kn pb : Nat) (s : ByteArray) (v : Int) (w w2 : World) (Q : World → Prop) (hmb : mb < w.heap.size) (c2 : w.cell? ⟨mb, 2, none⟩ = some (.map (some pb))) (k0 : w2.cell? ⟨mb, 0, none⟩ = some (ptr kn))
    (hrun : (Instr.mapUpdate 146 (.map (some pb)) (.string s) (ptr (w.heap.size + 1))).run Tryz.prog ((w.alloc (.cells #[.string s, .int .i64 v] 150)).alloc (.cells #[.string s, .int .i64 v, .pointer none, .pointer none] 152)).drew = .ok () w2)
    (HP : Hid (Calls Tryz.prog 121 #[.agg #[ptr kn], ptr (w.heap.size + 1)] w2 fun e w' => e = .returned (.tuple #[]) ∧ Q w')) :
    Calls Tryz.prog 92 #[ptr mb, .agg #[.string s, .int .i64 v]] w fun e w' => e = .returned (.tuple #[]) ∧ Q w' := by
  unfold ptr at *
  go_enter Tryz.func92, Tryz.ntmps92
  go_wp2_with fail
  go_region
  go_wp2_with fail
  refine HP.out.mono ?_
  rintro e w4 ⟨rfl, hq⟩
  go_wp2_with fail
  go_end0
  exact ⟨rfl, hq⟩

theorem add_yes (h : IsLru w S L) {s : ByteArray} (hs : s.size ≤ maxLen) (hn : ∀ x ∈ L, x.k ≠ s) (hl : L.length < S.most) (v : Int) :
    Calls Tryz.prog 92 #[ptr S.mb, .agg #[.string s, .int .i64 v]] w fun e w' => e = .returned (.tuple #[]) ∧ IsLru w' S (L ++ [⟨w.heap.size + 1, s, v⟩]) ∧ Wr (Has S L) w w' := by
  obtain ⟨wz, hwz⟩ : ∃ wz, ((w.alloc (.cells #[.string s, .int .i64 v] 150)).alloc (.cells #[.string s, .int .i64 v, .pointer none, .pointer none] 152)).drew = wz := ⟨_, rfl⟩
  have hbz : Below w.heap.size w wz := by rw [← hwz]; exact (((Below.refl _ _).alloc (Nat.le_refl _) _).alloc (by simp) _).drew
  have hsz : wz.heap.size = w.heap.size + 2 := by rw [← hwz]; show ((w.alloc _).alloc _).heap.size = _; simp
  have hz := h.below hbz
  have hnb : wz.heap[w.heap.size + 1]? = some (.cells #[.string s, .int .i64 v, .pointer none, .pointer none] 152) := by
    rw [← hwz]
    have := heap_alloc_new (w.alloc (.cells #[.string s, .int .i64 v] 150)) (.cells #[.string s, .int .i64 v, .pointer none, .pointer none] 152)
    rw [World.size_alloc] at this
    exact this
  have hfar : ¬ Has S L (w.heap.size + 1) := fun hh => by have := h.rest.lt _ hh; omega
  obtain ⟨F, hM, hF⟩ := hz.rest.places
  have hnone : F (.string s) = none := by
    cases hc : F (.string s) with
    | none => rfl
    | some u => obtain ⟨x, hx, hk, _⟩ := (hF s u).1 hc; exact absurd hk (hn x hx)
  obtain ⟨w2, hrun, hM2, hW2⟩ := hM.store (val := ptr (w.heap.size + 1)) keyed Tryz.underlying146 (Go.WideMaps.keyOf_string_mk Tryz.underlying9 hs)
  rw [hnone] at hM2
  have h2 : LRest w2 S (L ++ [⟨w.heap.size + 1, s, v⟩]) := LRest.added hz.rest hnb hfar hs hn hF hM2 hW2
  have hpb : ∀ k ∈ S.kn :: L.map Ent.b, k ≠ S.pb := fun k hk e => by
    have := h.rest.apart
    rw [e] at hk
    exact (List.nodup_cons.1 (List.nodup_cons.1 this).2).1 hk
  have hr2 : Ring w2 S.kn (L.map Ent.b) := Ring.keep hz.ring (fun k hk => hW2.block k (by
    rcases List.mem_cons.1 hk with rfl | hk2
    · exact hz.rest.knot.lt
    · obtain ⟨y, hy, rfl⟩ := List.mem_map.1 hk2
      exact (hz.rest.ents y hy).1.lt) (hpb k hk))
  have hwr : Wr (Has S L) w w2 := (Wr.ofBelow hbz).trans (hW2.mono (fun k e => .inr (.inr (.inl e))))
  have hno : (⟨w.heap.size + 1, s, v⟩ : Ent).b ∉ S.kn :: L.map Ent.b := fun hm => by
    refine hfar ?_
    rcases List.mem_cons.1 hm with e | hm
    · exact .inr (.inl e)
    · obtain ⟨y, hy, e⟩ := List.mem_map.1 hm
      exact .inr (.inr (.inr ⟨y, hy, e⟩))
  have HP := pushed h2 hr2 (x := ⟨w.heap.size + 1, s, v⟩) (by simp) hno (by have := h.rest.apart; exact (List.nodup_cons.1 (List.nodup_cons.1 this).2).2) (fun b hb => by obtain ⟨y, hy, e⟩ := List.mem_map.1 hb; exact ⟨y, by simp [hy], e⟩)
  refine add_core S.mb S.kn S.pb s v w w2 (fun w' => IsLru w' S (L ++ [⟨w.heap.size + 1, s, v⟩]) ∧ Wr (Has S L) w w') (h.rest.lt _ (.inl rfl)) (LRest.mcell h.rest).2.2 (LRest.mcell h2).1 (by rw [hwz]; exact hrun) (hid (HP.mono ?_))
  rintro e w' ⟨rfl, q1, q2, q3⟩
  refine ⟨rfl, ⟨q1, by simpa using q2, by simp; omega⟩, hwr.on q3 (fun k hk => ?_)⟩
  rcases hk with e | e | e | ⟨x, hx, e⟩
  · exact .inl (.inl e)
  · exact .inl (.inr (.inl e))
  · exact .inl (.inr (.inr (.inl e)))
  · rcases List.mem_append.1 hx with hx | hx
    · exact .inl (.inr (.inr (.inr ⟨x, hx, e⟩)))
    · rw [List.mem_singleton.1 hx] at e
      exact .inr (by rw [← e]; exact Nat.le_succ _)

/-- a list of texts that lies somewhere -/
def Strs (w : World) (a : Option Addr) (n : Nat) (f : Nat → ByteArray) : Prop := 0 < n → ∃ g o, a = some ⟨g, o, none⟩ ∧ g < w.heap.size ∧ ∀ i, i < n → w.cell? ⟨g, o + i, none⟩ = some (.string (f i))

/-- those of other keys -/
def out (s : ByteArray) (L : List Ent) : List Ent := L.filter (fun x => decide (x.k ≠ s))
/-- what is left without the first n keys -/
def outs (f : Nat → ByteArray) : Nat → List Ent → List Ent
  | 0, L => L
  | n + 1, L => out (f n) (outs f n L)

theorem out_none {s : ByteArray} (hn : ∀ x ∈ L, x.k ≠ s) : out s L = L := by
  unfold out
  rw [List.filter_eq_self]
  intro x hx
  simpa using hn x hx
theorem out_mid {A B : List Ent} {x : Ent} (h : ((A ++ x :: B).map Ent.k).Nodup) : out x.k (A ++ x :: B) = A ++ B := by
  have hp : (A ++ x :: B).Perm (x :: (A ++ B)) := List.perm_middle
  have hne : ∀ y ∈ A ++ B, y.k ≠ x.k := fun y hy e => by
    have := (hp.map Ent.k).nodup_iff.1 h
    exact (List.nodup_cons.1 this).1 (e ▸ List.mem_map.2 ⟨y, hy, rfl⟩)
  unfold out
  rw [List.filter_append, List.filter_cons]
  simp only [ne_eq, not_true_eq_false, decide_false, Bool.false_eq_true, if_false]
  rw [← List.filter_append, List.filter_eq_self]
  intro y hy
  simpa using hne y hy

theorem has_mono {k : Nat} (h : Has S L' k) (hs : ∀ x ∈ L', x ∈ L) : Has S L k := by
  rcases h with e | e | e | ⟨x, hx, e⟩
  · exact .inl e
  · exact .inr (.inl e)
  · exact .inr (.inr (.inl e))
  · exact .inr (.inr (.inr ⟨x, hs x hx, e⟩))

theorem out_sub (s : ByteArray) (L : List Ent) : ∀ x ∈ out s L, x ∈ L := fun _ hx => (List.mem_filter.1 hx).1
theorem outs_sub (f : Nat → ByteArray) (n : Nat) (L : List Ent) : ∀ x ∈ outs f n L, x ∈ L := by
  induction n with
  | zero => exact fun _ h => h
  | succ n ih => exact fun x hx => ih x (out_sub _ _ x hx)
theorem outs_len (f : Nat → ByteArray) (n : Nat) (L : List Ent) : (outs f n L).length ≤ L.length := by
  induction n with
  | zero => exact Nat.le_refl _
  | succ n ih => exact Nat.le_trans (List.length_filter_le _ _) ih

/-- behind leave: the key is taken out of the places -/
theorem gone_step {A B : List Ent} {x : Ent} (h : LRest w S (A ++ x :: B)) (hr : Ring w S.kn (A.map Ent.b ++ B.map Ent.b)) (hl : (A ++ x :: B).length ≤ S.most) :
    ∃ w', (∀ ty, (Builtin.delete_ #[146, 9] ty #[.map (some S.pb), .string x.k]).run Tryz.prog w = .ok (.tuple #[]) w') ∧ IsLru w' S (A ++ B) ∧ Wr (Has S (A ++ x :: B)) w w' := by
  obtain ⟨F, hM, hF⟩ := h.places
  have hx : x ∈ A ++ x :: B := by simp
  have hsome : F (.string x.k) = some (ptr x.b) := (hF _ _).2 ⟨x, hx, rfl, rfl⟩
  have hk := Go.WideMaps.keyOf_string_mk Tryz.underlying9 (h.ents x hx).2.2.2
  obtain ⟨w', hrun, hM2, hW⟩ := hM.drop keyed Tryz.underlying146 0 hk
  rw [hsome] at hM2
  have hpb : ∀ k ∈ S.kn :: (A.map Ent.b ++ B.map Ent.b), k ≠ S.pb := fun k hk e => by
    have := h.apart
    rw [e, ← List.map_append] at hk
    refine (List.nodup_cons.1 (List.nodup_cons.1 this).2).1 ?_
    rcases List.mem_cons.1 hk with hk | hk
    · exact hk ▸ List.mem_cons_self
    · exact List.mem_cons_of_mem _ (((List.Sublist.append_left (List.sublist_cons_self x B) A).map Ent.b).subset hk)
  refine ⟨w', fun ty => ?_, ⟨LRest.gone h hF hM2 hW, ?_, by simp at hl ⊢; omega⟩, hW.mono (fun k e => .inr (.inr (.inl e)))⟩
  · have : (Builtin.delete_ #[146, 9] ty #[.map (some S.pb), .string x.k]) = (Builtin.delete_ #[146, 9] 0 #[.map (some S.pb), .string x.k]) := rfl
    rw [this]; exact hrun
  · rw [List.map_append]
    exact Ring.keep hr (fun k hk => hW.block k (by
      rcases List.mem_cons.1 hk with rfl | hk2
      · exact h.knot.lt
      · obtain ⟨y, hy, e⟩ := sub_out (x := x) k hk2
        exact e ▸ (h.ents y hy).1.lt) (hpb k hk))

set_option maxRecDepth 20000 in
set_option maxHeartbeats 1000000 in
theorem drop_any (h : IsLru w S L) (a : Option Addr) (n cap : Nat) (f : Nat → ByteArray) (hn : n ≤ 9223372036854775807) (hs : ∀ i, i < n → (f i).size ≤ maxLen) (hf : Strs w a n f) (hfar : 0 < n → ∀ g o, a = some ⟨g, o, none⟩ → ¬ Has S L g) :
    Calls Tryz.prog 125 #[ptr S.mb, .slice a n cap] w fun e w' => e = .returned (.int .i64 ((L.length : Int) - (outs f n L).length)) ∧ IsLru w' S (outs f n L) ∧ Wr (Has S L) w w' := by
  have H0 := hid h
  have HS := hid hs
  have HF := hid (And.intro hf hfar)
  have hll : L.length ≤ 4096 := Nat.le_trans h.len h.rest.m2
  clear h hs hf hfar
  unfold ptr
  go_enter Tryz.func125, Tryz.ntmps125
  go_wp2_with fail
  go_loopw [5, 11] (fun d i wr => ∃ k : Nat, k ≤ n ∧ i = .int .i64 k ∧ d = .int .i64 ((L.length : Int) - (outs f k L).length) ∧ IsLru wr S (outs f k L) ∧ Wr (Has S L) w wr) (fun _ i _ => n - (intOf i).toNat)
  case atStart => exact ⟨0, Nat.zero_le _, rfl, by simp [outs], H0.out, Wr.refl _ _⟩
  case round =>
    obtain ⟨k, hk, rfl, rfl, hL, hW⟩ := hrel
    have HL := hid hL
    have HW := hid hW
    have hol := outs_len f k L
    obtain ⟨q, hq⟩ : ∃ q, (outs f k L).length = q := ⟨_, rfl⟩
    rw [hq] at hol ⊢
    have HQ := hid hq
    clear hL hW hq
    by_cases hlt : k < n
    · obtain ⟨hf, hfar⟩ := HF.out
      obtain ⟨g, o, rfl, hg, hc⟩ := hf (by omega)
      have hfg := hfar (by omega) g o rfl
      have c0 : wr.cell? ⟨g, o + k, none⟩ = some (.string (f k)) := (HW.out.cell (o + k) hg hfg).trans (hc k hlt)
      have hgs : g < wr.heap.size := Nat.lt_of_lt_of_le hg HW.out.size
      clear hc hfar hf
      by_cases hin : ∃ x ∈ outs f k L, x.k = f k
      · obtain ⟨x, hx, hxk⟩ := hin
        obtain ⟨A, B, hAB⟩ := List.append_of_mem hx
        have hstep : outs f (k + 1) L = A ++ B := by
          show out (f k) (outs f k L) = _
          rw [← hxk, hAB]
          exact out_mid (hAB ▸ HL.out.rest.keys)
        have HLen1 : Hid (q = (A ++ B).length + 1) := hid (by rw [← HQ.out, hAB]; simp; omega)
        have hq1 : 1 ≤ q := by rw [HLen1.out]; omega
        have h1 := HL.out.rest
        have hr1 := HL.out.ring
        have hle := HL.out.len
        rw [hAB] at h1 hr1 hle
        rw [List.map_append, List.map_cons] at hr1
        have HFY := hid (find_yes h1 (x := x) (by simp))
        rw [hxk] at HFY
        have HLV := hid (left h1 hr1)
        have HSt := hid hstep
        have HAB := hid hAB
        clear h1 hr1 hx hstep hAB HL
        unfold ptr at *
        go_wp2_with fail
        refine HFY.out.mono ?_
        rintro e w2 ⟨rfl, rfl⟩
        go_wp2_with fail
        refine HLV.out.mono ?_
        rintro e w3 ⟨rfl, h3, hr3, hw3⟩
        obtain ⟨w4, hrun, h4, hw4⟩ := gone_step h3 hr3 hle
        have c2 := (LRest.mcell h3).2.2
        have hrun0 := hrun 0
        rw [hxk] at hrun0
        have HFin : Hid (IsLru w4 S (outs f (k + 1) L) ∧ Wr (Has S L) w w4) := hid ⟨HSt.out ▸ h4, (HW.out.trans (hw3.mono (fun j hj => has_mono hj (fun y hy => outs_sub f k L y (HAB.out ▸ hy))))).trans (hw4.mono (fun j hj => has_mono hj (fun y hy => outs_sub f k L y (HAB.out ▸ hy))))⟩
        clear HLV HFY h3 hr3 hw3 hrun h4 hw4 HW
        go_wp2_with fail
        go_roundw
        case rel =>
          refine ⟨k + 1, by omega, by go_num, ?_, HFin.out⟩
          have e1 := HLen1.out
          rw [HSt.out]
          congr 1
          omega
        case measure => simp [intOf]; omega
      · have hno : ∀ x ∈ outs f k L, x.k ≠ f k := fun x hx e => hin ⟨x, hx, e⟩
        have HSt : Hid (outs f (k + 1) L = outs f k L) := hid (out_none hno)
        have HFN := hid (find_no HL.out.rest (HS.out k hlt) hno)
        clear hno hin
        unfold ptr at *
        go_wp2_with fail
        refine HFN.out.mono ?_
        rintro e w2 ⟨rfl, rfl⟩
        go_wp2_with fail
        go_roundw
        case rel => exact ⟨k + 1, by omega, by go_num, by rw [HSt.out, HQ.out], HSt.out ▸ HL.out, HW.out⟩
        case measure => simp [intOf]; omega
    · obtain rfl : k = n := by omega
      go_wp2_with fail
      go_ret
      exact ⟨by rw [HQ.out]; rfl, HL.out, HW.out⟩

end Go.Proofs.YtbihelpnojjacaaGreat.LruE

/- Contracts of a bounded map's calls: Get, Put, New. -/
namespace Go.Proofs.YtbihelpnojjacaaGreat.LruF
open Go.ChangeShapes Go.WideShapes Go.ChangeAt Go.RowKit Base Wri Map LruA LruB LruC LruD LruE

variable {w w' : World} {S : Spot} {L L' : List Ent}

theorem get_yes {A B : List Ent} {x : Ent} (h : IsLru w S (A ++ x :: B)) :
    Calls Tryz.prog 98 #[ptr S.mb, .string x.k] w fun e w' => e = .returned (.tuple #[.int .i64 x.v, .bool true]) ∧ IsLru w' S (A ++ B ++ [x]) ∧ Wr (Has S (A ++ x :: B)) w w' := by
  have HT := hid (touch_yes h)
  clear h
  go_enter Tryz.func98, Tryz.ntmps98
  unfold ptr at *
  go_wp2_with fail
  refine HT.out.mono ?_
  rintro e w1 ⟨rfl, h1, hw1⟩
  have H1 := hid (And.intro h1 hw1)
  have HE := hid (tell_yes x.b x.v w1 (h1.rest.ents x (by simp)).2.2.1)
  clear HT h1 hw1
  unfold ptr at *
  go_wp2_with fail
  refine HE.out.mono ?_
  rintro e w2 ⟨rfl, rfl⟩
  go_wp2_with fail
  go_ret2
  exact ⟨rfl, H1.out⟩

theorem get_no (h : LRest w S L) {s : ByteArray} (hs : s.size ≤ maxLen) (hn : ∀ x ∈ L, x.k ≠ s) :
    Calls Tryz.prog 98 #[ptr S.mb, .string s] w fun e w' => e = .returned (.tuple #[.int .i64 0, .bool false]) ∧ w = w' := by
  have HT := hid (touch_no h hs hn)
  clear h hn
  go_enter Tryz.func98, Tryz.ntmps98
  unfold ptr at *
  go_wp2_with fail
  refine HT.out.mono ?_
  rintro e w1 ⟨rfl, rfl⟩
  go_wp2_with fail
  refine (tell_no _).mono ?_
  rintro e w2 ⟨rfl, rfl⟩
  go_wp2_with fail
  go_ret2
  exact ⟨rfl, rfl⟩

/-- the same list with another value at one key -/
theorem IsLru.value {A B : List Ent} {x : Ent} (h : IsLru w S (A ++ x :: B)) (n : Int) : IsLru (w.setCell ⟨x.b, 1, none⟩ (.int .i64 n)) S (A ++ { x with v := n } :: B) :=
  ⟨h.rest.value n, by have := ring_value (b := x.b) (v := .int .i64 n) h.ring; simpa using this, by simpa using h.len⟩

theorem put_there {A B : List Ent} {x : Ent} (h : IsLru w S (A ++ x :: B)) (n : Int) :
    Calls Tryz.prog 95 #[ptr S.mb, .string x.k, .int .i64 n] w fun e w' => e = .returned (.tuple #[.string ⟨#[]⟩, .bool false, .int .i64 0]) ∧ IsLru w' S (A ++ B ++ [{ x with v := n }]) ∧ Wr (Has S (A ++ x :: B)) w w' := by
  have HT := hid (touch_yes h)
  clear h
  unfold ptr at *
  go_enter Tryz.func95, Tryz.ntmps95
  go_wp2_with fail
  refine HT.out.mono ?_
  rintro e w1 ⟨rfl, h1, hw1⟩
  have c1 := (h1.rest.ents x (by simp)).2.2.1
  have f1 := (h1.rest.ents x (by simp)).1.fr 1
  have H1 := hid (IsLru.value (A := A ++ B) (B := []) h1 n)
  have HW := hid (hw1.trans (Wr.set (R := Has S (A ++ x :: B)) ⟨x.b, 1, none⟩ (.int .i64 n) (.inr (.inr (.inr ⟨x, by simp, rfl⟩)))))
  clear HT h1 hw1
  go_wp2_with fail
  go_ret3
  exact ⟨rfl, H1.out, HW.out⟩

theorem put_room (h : IsLru w S L) {s : ByteArray} (hs : s.size ≤ maxLen) (hn : ∀ x ∈ L, x.k ≠ s) (hl : L.length < S.most) (n : Int) :
    Calls Tryz.prog 95 #[ptr S.mb, .string s, .int .i64 n] w fun e w' => e = .returned (.tuple #[.string ⟨#[]⟩, .bool false, .int .i64 0]) ∧ (∃ nb, w.heap.size ≤ nb ∧ IsLru w' S (L ++ [⟨nb, s, n⟩])) ∧ Wr (Has S L) w w' := by
  have HT := hid (touch_no h.rest hs hn)
  have HL := hid (len_any (w := w.drew) (L := L) (lrest_heap h.rest rfl))
  have HA := hid (add_yes (w := w.drew) (L := L) ⟨lrest_heap h.rest rfl, ring_heap h.ring rfl, h.len⟩ hs hn hl n)
  have c1 := (LRest.mcell h.rest).2.1
  have hm := h.rest.m2
  clear h hn
  unfold ptr at *
  go_enter Tryz.func95, Tryz.ntmps95
  go_wp2_with fail
  refine HT.out.mono ?_
  rintro e w1 ⟨rfl, rfl⟩
  clear HT
  go_wp2_with fail
  go_region_held3 (fun w' => w'.cell? ⟨S.mb, 1, none⟩ = some (.int .i64 S.most)) (first | assumption | go_keep) (first | (go_at_call 123; go_loud (refine HL.out.mono ?_; rintro e w7 ⟨rfl, rfl⟩)))
  go_wp2_with fail
  refine HA.out.mono ?_
  rintro e w2 ⟨rfl, h2, hw2⟩
  have H2 := hid (And.intro h2 hw2)
  clear HA HL h2 hw2
  go_wp2_with fail
  go_ret3
  exact ⟨rfl, ⟨_, by show w.heap.size ≤ w.heap.size + 1; omega, H2.out.1⟩, (Wr.refl _ _).drewN 1 |>.trans H2.out.2⟩

set_option maxRecDepth 20000 in
set_option maxHeartbeats 1000000 in
theorem put_full {y : Ent} {r : List Ent} (h : IsLru w S (y :: r)) {s : ByteArray} (hs : s.size ≤ maxLen) (hn : ∀ x ∈ y :: r, x.k ≠ s) (hl : (y :: r).length = S.most) (n : Int) :
    Calls Tryz.prog 95 #[ptr S.mb, .string s, .int .i64 n] w fun e w' => e = .returned (.tuple #[.string y.k, .bool true, .int .i64 0]) ∧ (∃ nb, w.heap.size ≤ nb ∧ IsLru w' S (r ++ [⟨nb, s, n⟩])) ∧ Wr (Has S (y :: r)) w w' := by
  have HT := hid (touch_no h.rest hs hn)
  have hd : IsLru w.drew S (y :: r) := ⟨lrest_heap h.rest rfl, ring_heap h.ring rfl, h.len⟩
  have HL := hid (len_any hd.rest)
  have hm2 := h.rest.m2
  obtain ⟨q, hq⟩ : ∃ q, S.most = q := ⟨_, rfl⟩
  rw [hl, hq] at HL
  have c1 := (LRest.mcell h.rest).2.1
  rw [hq] at c1 hm2
  have c0 := (LRest.mcell hd.rest).1
  have hfirst := hd.ring.first.1
  have HF := hid (first_any S.kn y.b w.drew hfirst)
  have hk0 := (hd.rest.ents y (by simp)).2.1
  have hks := (hd.rest.ents y (by simp)).2.2.2
  have hyl := (hd.rest.ents y (by simp)).1.lt
  obtain ⟨w2, hw2⟩ : ∃ w2, w.drew.alloc (.cells #[ptr S.kn] 145) = w2 := ⟨_, rfl⟩
  rw [hw2] at HF
  have hb2 : Below w.heap.size w w2 := by rw [← hw2]; exact (Below.refl w.heap.size w).drew.alloc (Nat.le_refl _) _
  have h2 := h.below hb2
  have hk2 := (h2.rest.ents y (by simp)).2.1
  have h3 := h2.below ((Below.refl w2.heap.size w2).alloc (Nat.le_refl _) (.cells #[.string y.k] 9))
  have HD := hid (drop_any h3 (some ⟨w2.heap.size, 0, none⟩) 1 1 (fun _ => y.k) (by omega) (fun _ _ => hks) (fun _ => ⟨w2.heap.size, 0, rfl, by simp, fun i hi => by
    have hi0 : i = 0 := (by omega)
    subst hi0
    have hn := heap_alloc_new w2 (.cells #[.string y.k] 9)
    show World.cell? _ ⟨w2.heap.size, 0, none⟩ = _
    unfold World.cell?
    rw [hn]
    rfl⟩) (fun _ g o e hh => by
    have e2 := congrArg Addr.block (Option.some.inj e)
    have := h2.rest.lt g hh
    simp at e2; omega))
  have ho : outs (fun _ => y.k) 1 (y :: r) = r := out_mid (A := []) h.rest.keys
  rw [ho] at HD
  have HB2 := hid hb2
  have HN := hid hn
  have HQ := hid (And.intro hl hq)
  have c0' := (LRest.mcell h2.rest).1
  clear h hn hd hfirst hw2 hb2 h2 h3 ho hq hl
  unfold ptr at *
  go_enter Tryz.func95, Tryz.ntmps95
  go_wp2_with fail
  refine HT.out.mono ?_
  rintro e w1 ⟨rfl, rfl⟩
  clear HT
  go_wp2_with fail
  go_region_held3 (fun w' => w'.cell? ⟨S.mb, 1, none⟩ = some (.int .i64 q)) (first | assumption | go_keep) (first | (go_at_call 123; go_loud (refine HL.out.mono ?_; rintro e w7 ⟨rfl, rfl⟩)))
  go_wp2_with fail
  refine HF.out.mono ?_
  rintro e w3 ⟨rfl, rfl⟩
  clear HF
  go_wp2_with fail
  refine HD.out.mono ?_
  rintro e w4 ⟨rfl, h4, hw4⟩
  have hl4 : r.length < S.most := by have := HQ.out.1; simp at this; omega
  have HA := hid (add_yes h4 hs (fun x hx => HN.out x (by simp [hx])) hl4 n)
  have HW4 := hid (((Wr.ofBelow (R := Has S (y :: r)) HB2.out).on (Wr.ofBelow (R := Has S (y :: r)) ((Below.refl w2.heap.size w2).alloc (Nat.le_refl _) (.cells #[.string y.k] 9))) (fun k hk => .inl hk)).trans hw4)
  clear HD h4 hw4 hk2 c0'
  unfold ptr at *
  go_wp2_with fail
  refine HA.out.mono ?_
  rintro e w5 ⟨rfl, h5, hw5⟩
  have H5 := hid h5
  have HW5 := hid (HW4.out.on hw5 (fun k hk => .inl (has_mono hk (fun x hx => List.mem_cons_of_mem _ hx))))
  have hsz : w.heap.size ≤ w4.heap.size := HW4.out.size
  clear HA h5 hw5 HW4
  go_wp2_with fail
  go_ret3
  exact ⟨rfl, ⟨_, by omega, H5.out⟩, HW5.out⟩

set_option maxHeartbeats 400000 in
theorem empty_any (most : Nat) (w : World) (h1 : 1 ≤ most) (h2 : most ≤ 4096) :
    Calls Tryz.prog 89 #[.int .i64 most] w fun e w' => ∃ S : Spot, e = .returned (ptr S.mb) ∧ S.most = most ∧ IsLru w' S [] ∧ Below w.heap.size w w' ∧ (∀ k, Has S [] k → w.heap.size ≤ k) := by
  go_enter Tryz.func89, Tryz.ntmps89
  go_wp2_with fail
  refine (newChain_any w).mono ?_
  rintro e w1 ⟨rfl, hn, hb, hs⟩
  have HN := hid hn
  have HB := hid hb
  have hs2 := hb.size
  clear hn hb
  have hmk : (Instr.makeMap 146 none).run Tryz.prog w1 = .ok (.map (some w1.heap.size)) (w1.alloc (.map #[] 0)) := run_makeMap _ _
  have HFin : Hid (IsLru ((w1.alloc (.map #[] 0)).alloc (.cells #[ptr (w.heap.size + 1), .int .i64 most, .map (some w1.heap.size)] 148)) ⟨w1.heap.size + 1, w.heap.size + 1, w1.heap.size, most⟩ []) := hid (by
    have e1 : ((w1.alloc (.map #[] 0)).alloc (.cells #[ptr (w.heap.size + 1), .int .i64 most, .map (some w1.heap.size)] 148)).heap[w.heap.size + 1]? = _ := (Below.heap_alloc (w1.alloc (.map #[] 0)) _ _ (by simp; omega)).trans ((Below.heap_alloc w1 _ _ hs).trans HN.out)
    have e2 := heap_alloc_new (w1.alloc (.map #[] 0)) (.cells #[ptr (w.heap.size + 1), .int .i64 most, .map (some w1.heap.size)] 148)
    rw [World.size_alloc] at e2
    have c2 : ((w1.alloc (.map #[] 0)).alloc (.cells #[ptr (w.heap.size + 1), .int .i64 most, .map (some w1.heap.size)] 148)).cell? ⟨w.heap.size + 1, 2, none⟩ = some (ptr (w.heap.size + 1)) := by unfold World.cell?; rw [e1]; rfl
    have c3 : ((w1.alloc (.map #[] 0)).alloc (.cells #[ptr (w.heap.size + 1), .int .i64 most, .map (some w1.heap.size)] 148)).cell? ⟨w.heap.size + 1, 3, none⟩ = some (ptr (w.heap.size + 1)) := by unfold World.cell?; rw [e1]; rfl
    exact { rest := { map := e2, knot := ⟨⟨_, c2⟩, ⟨_, c3⟩, fun o => by unfold World.frozen?; rw [e1]; rfl⟩, ents := (fun x hx => by cases hx), apart := by simp; omega, keys := by simp, places := ⟨fun _ => none, (MapOf.made w1).of_block (Below.heap_alloc (w1.alloc (.map #[] 0)) _ _ (by simp)), by simp⟩, m1 := h1, m2 := h2 }, ring := ⟨trivial, c3, c2⟩, len := Nat.zero_le _ })
  unfold ptr at *
  go_wp2_with fail
  go_ret
  refine ⟨⟨w1.heap.size + 1, w.heap.size + 1, w1.heap.size, most⟩, rfl, rfl, HFin.out, (HB.out.alloc hs2 _).alloc (by simp; omega) _, ?_⟩
  rintro k (rfl | rfl | rfl | ⟨x, hx, _⟩)
  · show w.heap.size ≤ w1.heap.size + 1; omega
  · show w.heap.size ≤ w.heap.size + 1; omega
  · exact hs2
  · cases hx

set_option maxHeartbeats 400000 in
theorem new_yes (most : Nat) (w : World) (h1 : 1 ≤ most) (h2 : most ≤ 4096) :
    Calls Tryz.prog 55 #[.int .i64 most] w fun e w' => ∃ S : Spot, e = .returned (.tuple #[ptr S.mb, .int .i64 0]) ∧ S.most = most ∧ IsLru w' S [] ∧ Below w.heap.size w w' ∧ (∀ k, Has S [] k → w.heap.size ≤ k) := by
  go_enter Tryz.func55, Tryz.ntmps55
  go_wp2_with fail
  refine (empty_any most w h1 h2).mono ?_
  rintro e w1 ⟨S, rfl, h⟩
  have H := hid h
  clear h
  unfold ptr at *
  go_wp2_with fail
  go_ret2
  exact ⟨S, rfl, H.out⟩

set_option maxHeartbeats 400000 in
theorem new_no (most : Int) (w : World) (h : ¬ (1 ≤ most ∧ most ≤ 4096)) :
    Calls Tryz.prog 55 #[.int .i64 most] w fun e w' => e = .returned (.tuple #[.pointer none, .int .i64 2]) ∧ w = w' := by
  by_cases h1 : most < 1
  · clear h
    go_enter Tryz.func55, Tryz.ntmps55
    go_wp2_with fail
    go_ret2
    exact ⟨rfl, rfl⟩
  · have h2 : 4096 < most := by omega
    have h0 : 1 ≤ most := by omega
    clear h h1
    go_enter Tryz.func55, Tryz.ntmps55
    go_wp2_with fail
    go_ret2
    exact ⟨rfl, rfl⟩

end Go.Proofs.YtbihelpnojjacaaGreat.LruF

/- What must be of a bounded map whatever is asked. -/
namespace Go.Proofs.YtbihelpnojjacaaGreat.LruL
open Go.ChangeShapes Go.WideShapes Go.ChangeAt Go.RowKit Base Wri Map LruA LruB LruC LruD LruE LruF

theorem has_or {S : Spot} {L : List Ent} {nb : Nat} {s : ByteArray} {v : Int} {B : Nat} (h : ∀ k, Has S L k → B ≤ k) (hn : B ≤ nb) : ∀ k, Has S (L ++ [⟨nb, s, v⟩]) k → B ≤ k := by
  rintro k (e | e | e | ⟨x, hx, e⟩)
  · exact h k (.inl e)
  · exact h k (.inr (.inl e))
  · exact h k (.inr (.inr (.inl e)))
  · rcases List.mem_append.1 hx with hx | hx
    · exact h k (.inr (.inr (.inr ⟨x, hx, e⟩)))
    · rw [List.mem_singleton.1 hx] at e
      exact e ▸ hn

theorem has_sub {S : Spot} {L L' : List Ent} {B : Nat} (h : ∀ k, Has S L k → B ≤ k) (hs : ∀ x ∈ L', ∃ y ∈ L, y.b = x.b) : ∀ k, Has S L' k → B ≤ k := by
  rintro k (e | e | e | ⟨x, hx, e⟩)
  · exact h k (.inl e)
  · exact h k (.inr (.inl e))
  · exact h k (.inr (.inr (.inl e)))
  · obtain ⟨y, hy, e2⟩ := hs x hx
    exact h k (.inr (.inr (.inr ⟨y, hy, e2.trans e⟩)))

/-- a bounded map that a call owns -/
structure Own (w0 : World) (S : Spot) (L : List Ent) (w : World) : Prop where
  lru : IsLru w S L
  above : ∀ k, Has S L k → w0.heap.size ≤ k
  bel : Below w0.heap.size w0 w

variable {w0 w w' : World} {S : Spot} {L : List Ent}

theorem Own.below (h : Own w0 S L w) (hb : Below w.heap.size w w') : Own w0 S L w' := ⟨h.lru.below hb, h.above, h.bel.trans (hb.mono h.bel.size)⟩

theorem own_put_room (h : Own w0 S L w) {s : ByteArray} (hs : s.size ≤ maxLen) (hn : ∀ x ∈ L, x.k ≠ s) (hl : L.length < S.most) (n : Int) :
    Calls Tryz.prog 95 #[ptr S.mb, .string s, .int .i64 n] w fun e w' => e = .returned (.tuple #[.string ⟨#[]⟩, .bool false, .int .i64 0]) ∧ ∃ nb, Own w0 S (L ++ [⟨nb, s, n⟩]) w' := by
  refine (put_room h.lru hs hn hl n).mono ?_
  rintro e w' ⟨he, ⟨nb, hnb, h1⟩, hw⟩
  exact ⟨he, nb, h1, has_or h.above (Nat.le_trans h.bel.size hnb), h.bel.trans (hw.below _ h.bel.size h.above)⟩

theorem own_put_there {A B : List Ent} {x : Ent} (h : Own w0 S (A ++ x :: B) w) (n : Int) :
    Calls Tryz.prog 95 #[ptr S.mb, .string x.k, .int .i64 n] w fun e w' => e = .returned (.tuple #[.string ⟨#[]⟩, .bool false, .int .i64 0]) ∧ Own w0 S (A ++ B ++ [{ x with v := n }]) w' := by
  refine (put_there h.lru n).mono ?_
  rintro e w' ⟨he, h1, hw⟩
  refine ⟨he, h1, has_sub h.above (fun y hy => ?_), h.bel.trans (hw.below _ h.bel.size h.above)⟩
  rcases List.mem_append.1 hy with hy | hy
  · rcases List.mem_append.1 hy with hy | hy
    · exact ⟨y, by simp [hy], rfl⟩
    · exact ⟨y, by simp [hy], rfl⟩
  · rw [List.mem_singleton.1 hy]; exact ⟨x, by simp, rfl⟩

theorem own_put_full {y : Ent} {r : List Ent} (h : Own w0 S (y :: r) w) {s : ByteArray} (hs : s.size ≤ maxLen) (hn : ∀ x ∈ y :: r, x.k ≠ s) (hl : (y :: r).length = S.most) (n : Int) :
    Calls Tryz.prog 95 #[ptr S.mb, .string s, .int .i64 n] w fun e w' => e = .returned (.tuple #[.string y.k, .bool true, .int .i64 0]) ∧ ∃ nb, Own w0 S (r ++ [⟨nb, s, n⟩]) w' := by
  refine (put_full h.lru hs hn hl n).mono ?_
  rintro e w' ⟨he, ⟨nb, hnb, h1⟩, hw⟩
  exact ⟨he, nb, h1, has_or (has_sub h.above (fun x hx => ⟨x, List.mem_cons_of_mem _ hx, rfl⟩)) (Nat.le_trans h.bel.size hnb), h.bel.trans (hw.below _ h.bel.size h.above)⟩

theorem own_get {A B : List Ent} {x : Ent} (h : Own w0 S (A ++ x :: B) w) :
    Calls Tryz.prog 98 #[ptr S.mb, .string x.k] w fun e w' => e = .returned (.tuple #[.int .i64 x.v, .bool true]) ∧ Own w0 S (A ++ B ++ [x]) w' := by
  refine (get_yes h.lru).mono ?_
  rintro e w' ⟨he, h1, hw⟩
  refine ⟨he, h1, has_sub h.above (fun y hy => ?_), h.bel.trans (hw.below _ h.bel.size h.above)⟩
  rcases List.mem_append.1 hy with hy | hy
  · rcases List.mem_append.1 hy with hy | hy
    · exact ⟨y, by simp [hy], rfl⟩
    · exact ⟨y, by simp [hy], rfl⟩
  · rw [List.mem_singleton.1 hy]; exact ⟨x, by simp, rfl⟩

theorem own_new (most : Nat) (w : World) (h1 : 1 ≤ most) (h2 : most ≤ 4096) :
    Calls Tryz.prog 55 #[.int .i64 most] w fun e w' => ∃ S : Spot, e = .returned (.tuple #[ptr S.mb, .int .i64 0]) ∧ S.most = most ∧ Own w S [] w' := by
  refine (new_yes most w h1 h2).mono ?_
  rintro e w' ⟨S, he, hm, hl, hb, ha⟩
  exact ⟨S, he, hm, hl, ha, hb⟩

end Go.Proofs.YtbihelpnojjacaaGreat.LruL

/- Texts: when two are the same; lists of texts that came in. -/
namespace Go.Proofs.YtbihelpnojjacaaGreat.Str
open Go.ChangeShapes Go.WideShapes Go.ChangeAt Go.RowKit

theorem text_eq (a b : ByteArray) : (a.toList == b.toList) = decide (a = b) := by
  rw [ByteArray.toList_eq, ByteArray.toList_eq]
  by_cases h : a = b
  · subst h; simp
  · rw [decide_eq_false h, beq_eq_false_iff_ne]
    exact fun e => h (Go.WideShapes.bytes_inj e)

end Go.Proofs.YtbihelpnojjacaaGreat.Str

/- Two rows of texts are the same. -/
namespace Go.Proofs.YtbihelpnojjacaaGreat.Sam
open Go.ChangeShapes Go.WideShapes Go.ChangeAt Go.RowKit Base Str
open LruE (Strs)

end Go.Proofs.YtbihelpnojjacaaGreat.Sam

/- The chain's iterator. -/
namespace Go.Proofs.YtbihelpnojjacaaGreat.LruP
open Go.ChangeShapes Go.WideShapes Go.ChangeAt Go.RowKit Base Wri Map LruA LruB LruC
open Go.Shelf

set_option maxRecDepth 20000 in
set_option maxHeartbeats 400000 in
theorem all_any (kn : Nat) (w : World) :
    Calls Tryz.prog 64 #[.agg #[ptr kn]] w fun e w' => e = .returned (.func (Fn.func 94) #[] #[.pointer (some ⟨w.heap.size, 0, none⟩)]) ∧
      w' = w.alloc (.cells #[ptr kn] 145) := by
  unfold ptr
  go_enter Tryz.func64, Tryz.ntmps64
  go_wp2_with fail
  go_ret
  exact ⟨rfl, rfl⟩

attribute [local go_sem] Oper.semAt_some

/-- the value that is handed to a loop's body -/
def be (x : Ent) : Array Value := #[ptr x.b]

/-- what a round keeps: all below n0, and block b -/
def Kp (n0 b : Nat) (W W' : World) : Prop := Below n0 W W' ∧ W'.heap[b]? = W.heap[b]?
theorem Kp.refl (n0 b : Nat) (W : World) : Kp n0 b W W := ⟨Below.refl _ _, rfl⟩
theorem Kp.trans {n0 b : Nat} {A B C : World} (h : Kp n0 b A B) (h2 : Kp n0 b B C) : Kp n0 b A C := ⟨h.1.trans h2.1, h2.2.trans h.2⟩
theorem Kp.alloc {n0 b : Nat} {A B : World} (h : Kp n0 b A B) (hn : n0 ≤ B.heap.size) (hb : b < B.heap.size) (o : Obj) : Kp n0 b A (B.alloc o) := ⟨h.1.alloc hn o, (Below.heap_alloc B o b hb).trans h.2⟩

/-- who stands behind the k-th -/
theorem Ring.at_ {w : World} {kn : Nat} {R : List Nat} (h : Ring w kn R) (k : Nat) : w.cell? ⟨lst kn (R.take k), 3, none⟩ = some (ptr (nxt kn (R.drop k))) := by
  rcases Nat.lt_or_ge k R.length with hlt | hge
  · have e : R = R.take k ++ R[k] :: R.drop (k + 1) := by rw [List.getElem_cons_drop, List.take_append_drop]
    have hd : R.drop k = R[k] :: R.drop (k + 1) := (List.getElem_cons_drop hlt).symm
    rw [hd]
    rw [e] at h
    exact (Ring.around h).1.1
  · rw [List.take_of_length_le hge, List.drop_eq_nil_of_le hge]
    exact h.2.1

theorem heap_of_cell {w : World} {b i : Nat} {u : Value} (h : w.cell? ⟨b, i, none⟩ = some u) : ∃ c t z, w.heap[b]? = some (.cells c t z) := by
  unfold World.cell? at h
  split at h
  · exact ⟨_, _, _, by assumption⟩
  · cases h

theorem neq_other {P : Program} (w : World) {tp te : TypeId} {j : TypeInfo} {a b : Nat} (hp : P.underlying tp = some (.pointer te)) (hte : P.info? te = some j) (hsz : j.size ≠ 0) (hne : a ≠ b) (ha : Blk w a) (hb : Blk w b) :
    (binOp .neq tp (.pointer (some ⟨a, 0, none⟩)) (.pointer (some ⟨b, 0, none⟩))).run P w = .ok (.bool true) w := by
  obtain ⟨u, hu⟩ := ha.c2
  obtain ⟨v, hv⟩ := hb.c2
  obtain ⟨ca, ta, za, h1⟩ := heap_of_cell hu
  obtain ⟨cb, tb, zb, h2⟩ := heap_of_cell hv
  have f1 := ha.fr
  have f2 := hb.fr
  have hs : (sameAddr ⟨a, 0, none⟩ ⟨b, 0, none⟩).run P w = .ok false w := by
    simp [sameAddr, hne, noView, viewAt, World.shape?, h1, h2, mayBeOne, stringish, f1, f2]
  have h : ∀ d : Nat, (Op.equalIn (d + 1) tp (.pointer (some ⟨a, 0, none⟩)) (.pointer (some ⟨b, 0, none⟩))).run P w = .ok false w := fun d => by
    simp [Op.equalIn, run_underlying hp, sizeOf, typeInfo, hte, hsz, hs]
  simp only [binOp]
  simp [Op.equal, Op.maxDepth, h 9999]

theorem infoEl : (Tryz.prog.info? 152).map (fun i => i.size) = some 4 := by kernel_rfl

theorem neq_run {a b : Nat} {w : World} (h : a ≠ b) (ha : Blk w a) (hb : Blk w b) : (binOp .neq 143 (.pointer (some ⟨a, 0, none⟩)) (.pointer (some ⟨b, 0, none⟩))).run Tryz.prog w = .ok (.bool true) w := by
  obtain ⟨j, hj, hz⟩ := Option.map_eq_some_iff.1 infoEl
  exact neq_other w (tp := 143) (te := 152) Tryz.underlying143 hj (by rw [hz]; decide) h ha hb

theorem neq_same (a : Nat) (w : World) : (binOp .neq 143 (.pointer (some ⟨a, 0, none⟩)) (.pointer (some ⟨a, 0, none⟩))).run Tryz.prog w = .ok (.bool false) w := by
  obtain ⟨j, hj, hz⟩ := Option.map_eq_some_iff.1 infoEl
  exact Go.Lib.run_neq_ptr_same w (tp := 143) (te := 152) _ Tryz.underlying143 hj

theorem nxt_mem (kn : Nat) (R : List Nat) : nxt kn R = kn ∨ nxt kn R ∈ R := by
  cases R with
  | nil => exact .inl rfl
  | cons x r => exact .inr List.mem_cons_self

/-- how many are still to come -/
def left (R : List Nat) (v : Value) : Nat := match v with
  | .pointer (some a) => (R.dropWhile fun y => decide (y ≠ a.block)).length
  | _ => 0
theorem left_at {kn : Nat} {R : List Nat} (h : (kn :: R).Nodup) (k : Nat) : R.dropWhile (fun y => decide (y ≠ nxt kn (R.drop k))) = R.drop k := by
  induction k generalizing R with
  | zero =>
    cases R with
    | nil => rfl
    | cons x r => simp [nxt]
  | succ k ih =>
    cases R with
    | nil => rfl
    | cons x r =>
      obtain ⟨h1, h2⟩ := List.nodup_cons.1 h
      obtain ⟨h3, h4⟩ := List.nodup_cons.1 h2
      have hx : x ≠ nxt kn (r.drop k) := by
        rcases nxt_mem kn (r.drop k) with e | e
        · rw [e]; rintro rfl; exact h1 List.mem_cons_self
        · intro e2; rw [← e2] at e; exact h3 (List.mem_of_mem_drop e)
      show (x :: r).dropWhile (fun y => decide (y ≠ nxt kn (r.drop k))) = r.drop k
      rw [List.dropWhile_cons_of_pos (by simpa using hx)]
      exact ih (List.nodup_cons.2 ⟨fun e => h1 (List.mem_cons_of_mem _ e), h4⟩)
theorem left_num {kn : Nat} {R : List Nat} (h : (kn :: R).Nodup) (k : Nat) : left R (.pointer (some ⟨nxt kn (R.drop k), 0, none⟩)) = R.length - k := by
  show (R.dropWhile fun y => decide (y ≠ nxt kn (R.drop k))).length = _
  rw [left_at h, List.length_drop]

set_option maxRecDepth 100000 in
set_option maxHeartbeats 2000000 in
theorem all1_in (n : Nat) (hn : 1 ≤ n) (l B1 n0 kn : Nat) (L : List Ent) (J Jx : List Ent → World → Prop)
    (hY : ∀ pre x W, x ∈ L → J pre W → pre.length < L.length → YieldAt Fence.wide (n - 1) Tryz.prog l (be x) W fun e W' =>
      (e = .returned (.bool true) ∧ J (pre ++ [x]) W' ∧ Kp n0 B1 W W') ∨ (e = .returned (.bool false) ∧ Jx (pre ++ [x]) W'))
    (W : World) (h1 : W.cell? ⟨B1, 0, none⟩ = some (ptr kn)) (HR : Hid (Ring W kn (L.map Ent.b))) (hlow : Hid (∀ x ∈ kn :: L.map Ent.b, x < n0)) (hno : Hid ((kn :: L.map Ent.b).Nodup)) (hbk : Hid (∀ x ∈ kn :: L.map Ent.b, Blk W x)) (h0 : J [] W) :
    CallsIn Fence.wide n Tryz.prog 94 #[.func (.yield l) #[] #[], .pointer (some ⟨B1, 0, none⟩)] W fun e W' => (∃ v, e = .returned v) ∧
      ((∃ ys, ys = L ∧ J ys W') ∨ (∃ pre, pre <+: L ∧ Jx pre W')) := by
  refine callsIn_of_wp Tryz.func94 rfl trivial ?_ rfl
  simp only [Tryz.ntmps94, List.size_toArray, List.length_cons, List.length_nil, Nat.reduceAdd, Nat.reduceSub, Array.replicate_succ, Array.replicate_zero, List.push_toArray, List.append_toArray, List.nil_append, List.cons_append]
  unfold ptr at *
  have c0 : W.cell? ⟨kn, 3, none⟩ = some (.pointer (some ⟨nxt kn (L.map Ent.b), 0, none⟩)) := Ring.at_ HR.out 0
  gi_wp2
  gi_loopw [3] (fun e wr => ∃ k : Nat, k ≤ L.length ∧ e = .pointer (some ⟨nxt kn ((L.map Ent.b).drop k), 0, none⟩) ∧ J (L.take k) wr ∧ Kp n0 B1 W wr) (fun e _ => left (L.map Ent.b) e)
  case atStart => exact ⟨0, Nat.zero_le _, rfl, h0, Kp.refl _ _ _⟩
  case round =>
    obtain ⟨k, hk, rfl, hJs, hnx⟩ := hrel
    have hM := hid (left_num hno.out k)
    have k2 : wr.cell? ⟨B1, 0, none⟩ = some (.pointer (some ⟨kn, 0, none⟩)) := (World.cell?_of_block (a := ⟨B1, 0, none⟩) hnx.2).trans h1
    rcases Nat.lt_or_ge k L.length with hlt | hge
    · obtain ⟨x, hx⟩ : ∃ x, L[k]? = some x := ⟨L[k], List.getElem?_eq_getElem hlt⟩
      have hd : (L.map Ent.b).drop k = x.b :: (L.map Ent.b).drop (k + 1) := by
        rw [List.drop_eq_getElem_cons (by simpa using hlt)]
        congr 1
        rw [List.getElem?_eq_getElem hlt] at hx
        simpa using congrArg Ent.b (Option.some.inj hx)
      have hT : Hid (L.take (k + 1) = L.take k ++ [x]) := hid (by rw [List.take_add_one, hx]; rfl)
      have hmem : x.b ∈ L.map Ent.b := List.mem_map.2 ⟨x, List.mem_of_getElem? hx, rfl⟩
      have hne : x.b ≠ kn := fun e => (List.nodup_cons.1 hno.out).1 (e ▸ hmem)
      have hxl : x.b < n0 := hlow.out _ (List.mem_cons_of_mem _ hmem)
      have hnext : W.cell? ⟨x.b, 3, none⟩ = some (.pointer (some ⟨nxt kn ((L.map Ent.b).drop (k + 1)), 0, none⟩)) := by
        have := Ring.at_ HR.out (k + 1)
        have e : (L.map Ent.b).take (k + 1) = (L.map Ent.b).take k ++ x.b :: [] := by
          rw [← List.map_take, hT.out, List.map_append, List.map_take]; rfl
        rw [e, lst_app] at this
        exact this
      have hM1 := hid (left_num hno.out (k + 1))
      have hnk : nxt kn ((L.map Ent.b).drop k) = x.b := by rw [hd]; rfl
      rw [hnk] at hM ⊢
      obtain ⟨fn, tmps, assign, body, hy, hR⟩ := hY _ x _ (List.mem_of_getElem? hx) hJs (by rw [List.length_take]; omega)
      dsimp only [be, ptr] at hy
      have hneq := neq_run hne ((hbk.out _ (List.mem_cons_of_mem _ hmem)).of_block (hnx.1.block _ hxl)) ((hbk.out _ List.mem_cons_self).of_block (hnx.1.block _ (hlow.out _ List.mem_cons_self)))
      have HN := hid hnx
      have HNE := hid hnext
      clear hx hd hmem hnx hnext hJs hnk
      obtain ⟨nx, hnx2⟩ : ∃ nx, nxt kn ((L.map Ent.b).drop (k + 1)) = nx := ⟨_, rfl⟩
      rw [hnx2] at hM1 HNE
      have HNX := hid hnx2
      clear hnx2
      generalize nxt kn (L.map Ent.b) = nf at *
      gi_wp2
      refine hR.mono ?_
      rintro e W3 (⟨rfl, hJ3, hk3⟩ | ⟨rfl, hJx3⟩)
      · have HJ3 := hid hJ3
        have HK3 := hid hk3
        have c3 : W3.cell? ⟨x.b, 3, none⟩ = some (.pointer (some ⟨nx, 0, none⟩)) := by
          rw [World.cell?_of_block (a := ⟨x.b, 3, none⟩) (hk3.1.block _ hxl), World.cell?_of_block (a := ⟨x.b, 3, none⟩) (HN.out.1.block _ hxl)]
          exact HNE.out
        clear hJ3 hk3 hy hneq
        gi_wp2
        go_roundw
        case rel => exact ⟨k + 1, by omega, by rw [HNX.out], by rw [hT.out]; exact HJ3.out, HN.out.trans HK3.out⟩
        case measure =>
          have := hM.out
          have := hM1.out
          rw [List.length_map] at *
          omega
      · have HJx3 := hid hJx3
        clear hJx3 hy hneq
        gi_wp2
        go_end0
        refine ⟨⟨_, rfl⟩, .inr ⟨_, ?_, HJx3.out⟩⟩
        rw [← hT.out]
        exact List.take_prefix _ _
    · obtain rfl : k = L.length := by omega
      have hnk : nxt kn ((L.map Ent.b).drop L.length) = kn := by rw [List.drop_eq_nil_of_le (by simp)]; rfl
      have HJs : Hid (J L wr) := hid (by rw [← List.take_length (l := L)]; exact hJs)
      have hneq := neq_same kn wr
      rw [hnk]
      clear hJs hnk
      generalize nxt kn (L.map Ent.b) = nf at *
      gi_wp2
      refine ⟨fun _ h => (by cases h), ?_⟩
      gi_wp2
      go_end0
      exact ⟨⟨_, rfl⟩, .inl ⟨_, rfl, HJs.out⟩⟩

variable {S : Spot} {L : List Ent}

theorem mem_has {x : Nat} (h : x ∈ S.kn :: L.map Ent.b) : Has S L x := by
  rcases List.mem_cons.1 h with rfl | h
  · exact .inr (.inl rfl)
  · obtain ⟨y, hy, rfl⟩ := List.mem_map.1 h
    exact .inr (.inr (.inr ⟨y, hy, rfl⟩))

/-- an element of L -/
abbrev In (L : List Ent) := { x : Ent // x ∈ L }
def bi {L : List Ent} (x : In L) : Array Value := be x.1
def out {L : List Ent} (ys : List (In L)) : List Ent := ys.map Subtype.val
theorem out_snoc {L : List Ent} (ys : List (In L)) (x : In L) : out (ys ++ [x]) = out ys ++ [x.1] := by simp [out]
theorem out_len {L : List Ent} (ys : List (In L)) : (out ys).length = ys.length := by simp [out]

/-- what the chain's iterator gives: all, in their order -/
theorem all_stops (n : Nat) (hn : 1 ≤ n) (B1 n0 : Nat) (w : World) (hb1 : B1 < w.heap.size) (h : IsLru w S L) (hlow : ∀ k, Has S L k → k < n0) (h1 : w.cell? ⟨B1, 0, none⟩ = some (ptr S.kn)) :
    SeqStopsK Fence.wide n Tryz.prog 94 #[.pointer (some ⟨B1, 0, none⟩)] (bi (L := L)) (Kp n0 B1) (fun ys => out ys = L) (fun pre => out pre <+: L) L.length w := fun l J Jx W hW _ _ hY h0 => by
  have k1 := (hW.cell (p := ⟨B1, 0, none⟩) hb1).trans h1
  have hw' : IsLru W S L := h.below hW
  have hno : (S.kn :: L.map Ent.b).Nodup := (List.nodup_cons.1 (List.nodup_cons.1 hw'.rest.apart).2).2
  refine (all1_in n hn l B1 n0 S.kn L (fun pre W => ∃ ys : List (In L), out ys = pre ∧ J ys W) (fun pre W => ∃ ys : List (In L), out ys = pre ∧ Jx ys W) ?_ W k1 (hid hw'.ring) (hid fun x hx => hlow x (mem_has hx)) (hid hno) (hid fun x hx => ?_) ⟨[], rfl, h0⟩).mono ?_
  · rintro pre x W2 hx ⟨ys, rfl, hj⟩ hlt
    refine YieldAt.mono (hY ys ⟨x, hx⟩ W2 hj (by rw [out_len] at hlt; exact hlt)) ?_
    rintro e W3 (⟨he, hj3, hk⟩ | ⟨he, hj3⟩)
    · exact .inl ⟨he, ⟨_, out_snoc _ _, hj3⟩, hk⟩
    · exact .inr ⟨he, _, out_snoc _ _, hj3⟩
  · rcases List.mem_cons.1 hx with rfl | hx
    · exact hw'.rest.knot
    · obtain ⟨y, hy, rfl⟩ := List.mem_map.1 hx
      exact (hw'.rest.ents y hy).1
  · rintro e W' ⟨he, ⟨ys, hys, zs, hz, hj⟩ | ⟨pre, hp, zs, hz, hj⟩⟩
    · exact ⟨he, .inl ⟨zs, hz.trans hys, hj⟩⟩
    · exact ⟨he, .inr ⟨zs, (by subst hz; exact hp), hj⟩⟩

end Go.Proofs.YtbihelpnojjacaaGreat.LruP

/- A bounded map's keys. -/
namespace Go.Proofs.YtbihelpnojjacaaGreat.LruQ
open Go.ChangeShapes Go.WideShapes Go.ChangeAt Go.RowKit Base Wri Map LruA LruB LruC LruD LruP
open Go.Shelf
attribute [local go_sem] Oper.semAt_some
variable {S : Spot} {L : List Ent} {w : World}

/-- an append, kept whole -/
def app (ats : Array TypeId) (ty : TypeId) (args : Array Value) : Sem Value := Builtin.append_ ats ty args
theorem builtin_app {ats : Array TypeId} {ty : TypeId} {cs : Array Bool} {args : Array Value} : builtin .append ats ty cs args = (do pure (.value (← app ats ty args))) := rfl

theorem infoStr : (Tryz.prog.info? 9).map (fun i => (i.zero, i.size, i.bytes)) = some (some (.string ⟨#[]⟩), 1, 16) := by kernel_rfl

def ks (L : List Ent) : List Value := L.map fun x => Value.string x.k
theorem ks_snoc (L : List Ent) (x : Ent) : ks (L ++ [x]) = ks L ++ [.string x.k] := by simp [ks]
theorem kp_b {n0 b : Nat} {w : World} (hn : n0 ≤ w.heap.size) (hb : b < w.heap.size) : ∀ (W : World) (l : Nat) (o o' : Obj), w.heap.size ≤ l → W.heap[l]? = some o → o.isCells = false → o.isWalk = false → Kp n0 b W (W.putObj l o') := by
  intro W l o o' hl ho hc hw
  have hlW : l < W.heap.size := (Array.getElem?_eq_some_iff.1 ho).1
  exact ⟨belowK_b hn W l o o' hl ho hc hw, (grownBy_putObj' W l o').block b (by omega) (fun e => by cases e; omega)⟩
theorem boxed_own' {β : Type} (B : Nat) (t : TypeId) (v : Value) : Own (fun (_ : β) W => Boxed W B t v) := by
  rintro s X Y row hv hg hrow
  refine hv.kept hg (fun e' => ?_)
  obtain ⟨o, ho, hc⟩ := hrow B e'.symm
  rw [show X.heap[B]? = _ from hv] at ho; cases ho; cases hc

attribute [local go_sem ↓ high] builtin_app

set_option maxRecDepth 100000 in
set_option maxHeartbeats 1000000 in
theorem keys_any (h : IsLru w S L) :
    Calls Tryz.prog 39 #[ptr S.mb] w fun e w' => (∃ x, e = .returned x ∧ w'.ownsRow w.heap.size 9 1 x L.length (ks L)) ∧ Below w.heap.size w w' := by
  obtain ⟨i0, hi, hz0, hz1, hz2⟩ := info_parts infoStr
  refine callsIn_wide.1 (callsIn_of_wp_marks (n := 10) Tryz.func39 rfl trivial ?_ rfl)
  simp only [Tryz.ntmps39, List.size_toArray, List.length_cons, List.length_nil, Nat.reduceAdd, Nat.reduceSub, Array.replicate_succ, Array.replicate_zero, List.push_toArray, List.append_toArray, List.nil_append, List.cons_append]
  have c0 : w.cell? ⟨S.mb, 0, none⟩ = some (ptr S.kn) := (LRest.mcell h.rest).1
  have hmb : S.mb < w.heap.size := h.rest.lt _ (.inl rfl)
  have HA := hid (all_any S.kn (w.alloc (.cells #[.slice none 0 0] 43)))
  have H := hid h
  clear h
  unfold ptr at *
  gi_wp2
  refine ⟨trivial, ?_⟩
  refine (callsIn_wide.2 HA.out).mono ?_
  rintro e w2 ⟨rfl, rfl⟩
  clear HA
  gi_wp2
  have bO : Boxed ((w.alloc (.cells #[.slice none 0 0] 43)).alloc (.cells #[.pointer (some ⟨S.kn, 0, none⟩)] 145)) w.heap.size 43 (.slice none 0 0) := (Boxed.new w 43 (.slice none 0 0)).alloc _
  have bN := Boxed.new (w.alloc (.cells #[.slice none 0 0] 43)) 145 (.pointer (some ⟨S.kn, 0, none⟩))
  rw [World.size_alloc] at bN
  have hB0 : Below w.heap.size w ((w.alloc (.cells #[.slice none 0 0] 43)).alloc (.cells #[.pointer (some ⟨S.kn, 0, none⟩)] 145)) := ((Below.refl _ w).alloc (Nat.le_refl _) _).alloc (by simp) _
  have hsz2 : ((w.alloc (.cells #[.slice none 0 0] 43)).alloc (.cells #[.pointer (some ⟨S.kn, 0, none⟩)] 145)).heap.size = w.heap.size + 2 := by simp
  obtain ⟨w2, hw2⟩ : ∃ w2, (w.alloc (.cells #[.slice none 0 0] 43)).alloc (.cells #[.pointer (some ⟨S.kn, 0, none⟩)] 145) = w2 := ⟨_, rfl⟩
  rw [hw2] at bO bN hB0 hsz2 ⊢
  have hll : L.length ≤ 4096 := Nat.le_trans H.out.len H.out.rest.m2
  have hlt' : ∀ k, Has S L k → k < w.heap.size := fun k hk => H.out.rest.lt k hk
  refine wpIn_rangeFunc_ownG rfl (by omega) (gf := 94) (lb := #[.pointer (some ⟨w.heap.size + 1, 0, none⟩)]) rfl trivial (enters_of Tryz.func94 (by kernel_rfl) rfl)
    (all_stops (n := 9) (by omega) (w.heap.size + 1) w.heap.size w2 (by omega) (H.out.below hB0) hlt' bN.cell) Kp.trans (kp_b (by omega) (by omega)) (Below.refl _ _) (fun _ => rfl)
    (fun pre W => ((∃ v, Boxed W w.heap.size 43 v ∧ W.ownsRow w.heap.size 9 1 v (out pre).length (ks (out pre)) ∧ True) ∧ Boxed W (w.heap.size + 1) 145 (.pointer (some ⟨S.kn, 0, none⟩))) ∧ Below w.heap.size w W)
    (fun _ _ _ => False)
    (OwnFrom.and (OwnFrom.and (Own.from (holdsRow_own w.heap.size w.heap.size 43 9 1 (fun pre : List (In L) => (out pre).length) (fun pre => ks (out pre)) (fun _ _ => True)) _) (Own.from (boxed_own' _ _ _) _)) (ownFrom_below (Nat.le_refl _) (by omega)))
    (fun _ _ _ _ _ hs _ _ => hs)
    ⟨⟨⟨_, bO, World.ownsRow_nil _ _ _ _, trivial⟩, bN⟩, hB0⟩
    (fun x => { tmps := #[.pointer (some ⟨S.mb, 0, none⟩), undef, .slice none 0 0, .pointer (some ⟨w.heap.size, 0, none⟩), .pointer (some ⟨x.1.b, 0, none⟩), .pointer (some ⟨S.mb, 0, none⟩), .bool false, .pointer (some ⟨S.mb, 0, none⟩), .pointer (some ⟨S.mb, 0, none⟩), .pointer (some ⟨S.mb, 0, none⟩), .agg #[.pointer (some ⟨S.kn, 0, none⟩)], .func (Fn.func 94) #[] #[.pointer (some ⟨w.heap.size + 1, 0, none⟩)], .pointer (some ⟨x.1.b, 0, none⟩), undef, undef, undef, undef, undef, undef, undef, undef, undef], defers := [] }) ?assign ?body ?done ?stop
  case assign =>
    intro l x W K hK
    unfold bi be ptr
    gi_wp2
    exact hK
  case body =>
    rintro l pre x W ⟨⟨⟨v, hv, hrow, -⟩, hN⟩, hB⟩ hlt
    have hc : W.cell? ⟨w.heap.size, 0, none⟩ = some v := hv.cell
    obtain ⟨hb1, hk, -, -⟩ := H.out.rest.ents x.1 x.2
    have hxl : x.1.b < w.heap.size := hb1.lt
    have ck : W.cell? ⟨x.1.b, 0, none⟩ = some (.string x.1.k) := (hB.cell (p := ⟨x.1.b, 0, none⟩) hxl).trans hk
    have hol : (out pre).length < L.length := by rw [out_len]; exact hlt
    have hs := hB.size
    obtain ⟨m, hm⟩ : ∃ m, (out pre).length = m := ⟨_, rfl⟩
    rw [hm] at hrow hol
    have HM := hid hm
    obtain ⟨v', w1, hrun, hown', hgrow, -, -⟩ := run_append_own_at (P := Tryz.prog) (W.drew.alloc (.cells #[.string x.1.k] 9)) w.heap.size 43 43 9 i0 (.string ⟨#[]⟩) 1 16 Tryz.underlying43 hi hz0 hz1 hz2 rfl (by decide) v m (ks (out pre)) (World.ownsRow.alloc (w := W.drew) hrow _) ⟨W.heap.size, 0, none⟩ 1 1 [.string x.1.k] rfl (cell_one_new W.drew _ _) (by intro u hu; obtain rfl := List.mem_singleton.1 hu; rfl) (by unfold maxLen; omega) (by omega) (by simp; omega)
    obtain ⟨g', cap', rfl⟩ := ownsRow_succ hown'
    obtain ⟨hv1, hv2, hr2, hk2, hb2⟩ := Boxed.appended (W := W.drew) (n₀ := w.heap.size) hv (by decide) hrow hs (Nat.le_refl _) hown' hgrow
    have hc1 := hv1.cell
    have hf1 := hv1.frozen
    have HN1 : Hid (Boxed (w1.setCell ⟨w.heap.size, 0, none⟩ (.slice (some ⟨g', 0, none⟩) (m + 1) cap')) (w.heap.size + 1) 145 (.pointer (some ⟨S.kn, 0, none⟩))) := hid (by
      have h1 : Boxed (W.drew.alloc (.cells #[.string x.1.k] 9)) (w.heap.size + 1) 145 (.pointer (some ⟨S.kn, 0, none⟩)) := Boxed.alloc (W := W.drew) hN _
      have h2 := h1.kept hgrow (Boxed.not_row (W := W.drew) hN (by decide) hrow)
      exact h2.kept (grownBy_setCell' w1 _ _) (by simp))
    have hlt2 : w.heap.size < W.heap.size := hv.lt
    have hne2 : W.heap.size ≠ w.heap.size := by omega
    have hne3 : ¬ w.heap.size = W.heap.size := by omega
    have HF := hid (And.intro hv2 (And.intro hr2 (And.intro hk2 hb2)))
    have HNB := hid hN
    have HB := hid hB
    change Sem.run Tryz.prog (app _ _ _) (W.alloc (.cells #[.string x.1.k] 9)).drew = _ at hrun
    clear hv1 hv2 hr2 hk2 hb2 hgrow hown' hrow hN hB hb1 hk hm
    gi_wp2
    gi_region_with (fail)
    all_goals
      gi_wp2
      obtain ⟨hv2, hr2, hk3, hb3⟩ := HF.out
      have hb2 := (Below.refl w.heap.size W).drew.trans hb3
      have hk2 := (KeepsOthers.drew W).trans hk3
      refine ⟨hk2.from _, ⟨hb2, HN1.out.trans HNB.out.symm⟩, ⟨⟨_, hv2, ?_, trivial⟩, HN1.out⟩, HB.out.trans hb2⟩
      rw [out_snoc, ks_snoc, List.length_append, HM.out]
      exact hr2
  case done =>
    rintro D ys W hD hys ⟨⟨⟨v, hv, hrow, -⟩, hN⟩, hB⟩ hK
    have hc : W.cell? ⟨w.heap.size, 0, none⟩ = some v := hv.cell
    rw [hys] at hrow
    gi_wp2
    refine ⟨by simp, .inl ⟨_, _, rfl, run_takeDeferred hK, ?_⟩⟩
    exact ⟨_, results_tmp rfl _ _ _, ⟨v, rfl, ownsRow_putObj hrow _ hK rfl⟩, hB.trans (belowK_b (w := w) (Nat.le_refl _) W D _ _ (by omega) hK rfl rfl)⟩
  case stop =>
    rintro D c pre W _ _ h _
    exact h.elim

end Go.Proofs.YtbihelpnojjacaaGreat.LruQ

/- A bounded map to which elements are added whose keys may be there already: what holds of it. -/
namespace Go.Proofs.YtbihelpnojjacaaGreat.LruS
open Go.ChangeShapes Go.WideShapes Go.ChangeAt Go.RowKit Base Wri Map LruA LruB LruC LruD LruE LruF
open Go.Maps (Keyed string_keyed)

structure LW (w : World) (S : Spot) (L : List Ent) : Prop where
  map : w.heap[S.mb]? = some (.cells #[ptr S.kn, .int .i64 S.most, .map (some S.pb)] 148)
  knot : Blk w S.kn
  ents : ∀ x ∈ L, Blk w x.b ∧ w.cell? ⟨x.b, 0, none⟩ = some (.string x.k) ∧ w.cell? ⟨x.b, 1, none⟩ = some (.int .i64 x.v) ∧ x.k.size ≤ maxLen
  apart : (S.mb :: S.pb :: S.kn :: L.map Ent.b).Nodup
  places : ∃ F n, MapOf Tryz.prog 9 w S.pb F n ∧ ((L.map Ent.k).Nodup → n = L.length ∧ ∀ s v, F (.string s) = some v ↔ ∃ x ∈ L, x.k = s ∧ v = ptr x.b)
  m1 : 1 ≤ S.most
  m2 : S.most ≤ 4096

variable {w w' : World} {S : Spot} {L L' : List Ent} {R : List Nat}

theorem LW.of (h : LRest w S L) : LW w S L := ⟨h.map, h.knot, h.ents, h.apart, (let ⟨F, h1, h2⟩ := h.places; ⟨F, _, h1, fun _ => ⟨rfl, h2⟩⟩), h.m1, h.m2⟩
theorem LW.rest (h : LW w S L) (hk : (L.map Ent.k).Nodup) : LRest w S L := by
  obtain ⟨F, n, h1, h2⟩ := h.places
  obtain ⟨rfl, h3⟩ := h2 hk
  exact { map := h.map, knot := h.knot, ents := h.ents, apart := h.apart, keys := hk, places := ⟨F, h1, h3⟩, m1 := h.m1, m2 := h.m2 }

theorem LW.lt (h : LW w S L) (k : Nat) (hk : Has S L k) : k < w.heap.size := by
  rcases hk with rfl | rfl | rfl | ⟨x, hx, rfl⟩
  · exact (Array.getElem?_eq_some_iff.1 h.map).1
  · exact h.knot.lt
  · obtain ⟨F, n, h1, _⟩ := h.places
    exact h1.lt
  · exact (h.ents x hx).1.lt
theorem LW.keep (h : LW w S L) (hk : ∀ k, Has S L k → w'.heap[k]? = w.heap[k]?) : LW w' S L where
  map := (hk _ (.inl rfl)).trans h.map
  knot := h.knot.of_block (hk _ (.inr (.inl rfl)))
  ents := fun x hx => by
    obtain ⟨h1, h2, h3, h4⟩ := h.ents x hx
    have e := hk x.b (.inr (.inr (.inr ⟨x, hx, rfl⟩)))
    exact ⟨h1.of_block e, (World.cell?_of_block (a := ⟨x.b, 0, none⟩) e).trans h2, (World.cell?_of_block (a := ⟨x.b, 1, none⟩) e).trans h3, h4⟩
  apart := h.apart
  places := by
    obtain ⟨F, n, h1, h2⟩ := h.places
    exact ⟨F, n, h1.of_block (hk _ (.inr (.inr (.inl rfl)))), h2⟩
  m1 := h.m1
  m2 := h.m2
theorem LW.below (h : LW w S L) (hb : Below w.heap.size w w') : LW w' S L := h.keep fun k hk => hb.block k (h.lt k hk)
theorem LW.far (h : LW w S L) (b : Nat) (hb : b = S.kn ∨ ∃ x ∈ L, x.b = b) : b ≠ S.mb ∧ b ≠ S.pb := by
  have := h.apart
  simp only [List.nodup_cons, List.mem_cons, List.mem_map, not_or] at this
  rcases hb with rfl | ⟨x, hx, rfl⟩
  · exact ⟨fun e => this.1.2.1 e.symm, fun e => this.2.1.1 e.symm⟩
  · exact ⟨fun e => this.1.2.2 ⟨x, hx, e⟩, fun e => this.2.1.2 ⟨x, hx, e⟩⟩
theorem LW.link (h : LW w S L) (b i : Nat) (hb : b = S.kn ∨ ∃ x ∈ L, x.b = b) (hi : 2 ≤ i) (v : Value) : LW (w.setCell ⟨b, i, none⟩ v) S L where
  map := by rw [heap_setCell_other _ _ _ _ (h.far b hb).1.symm]; exact h.map
  knot := h.knot.set _ _
  ents := fun x hx => by
    obtain ⟨h1, h2, h3, h4⟩ := h.ents x hx
    exact ⟨h1.set _ _, by rw [cell_other (by omega)]; exact h2, by rw [cell_other (by omega)]; exact h3, h4⟩
  apart := h.apart
  places := by
    obtain ⟨F, n, h1, h2⟩ := h.places
    exact ⟨F, n, h1.of_block (heap_setCell_other _ _ _ _ (h.far b hb).2.symm), h2⟩
  m1 := h.m1
  m2 := h.m2
theorem LW.blk (h : LW w S L) {b : Nat} (hb : b = S.kn ∨ ∃ y ∈ L, y.b = b) : Blk w b := hb.elim (fun e => e ▸ h.knot) (fun ⟨y, hy, e⟩ => e ▸ (h.ents y hy).1)

/-- one more, its place noted -/
theorem LW.added (h : LW w S L) {nb n : Nat} {s : ByteArray} {v : Int} {u2 u3 : Value} {F : Value → Option Value} (hnb : w.heap[nb]? = some (.cells #[.string s, .int .i64 v, u2, u3] 152)) (hfar : ¬ Has S L nb) (hs : s.size ≤ maxLen)
    (hF : (L.map Ent.k).Nodup → n = L.length ∧ ∀ s v, F (.string s) = some v ↔ ∃ x ∈ L, x.k = s ∧ v = ptr x.b) (hM : MapOf Tryz.prog 9 w' S.pb (put F (.string s) (ptr nb)) (if (F (.string s)).isSome then n else n + 1)) (hW : Wr (fun j => j = S.pb) w w') : LW w' S (L ++ [⟨nb, s, v⟩]) := by
  have hap := h.apart
  have hnl : nb < w.heap.size := (Array.getElem?_eq_some_iff.1 hnb).1
  have f1 : nb ≠ S.mb := fun e => hfar (.inl e)
  have f2 : nb ≠ S.kn := fun e => hfar (.inr (.inl e))
  have f3 : nb ≠ S.pb := fun e => hfar (.inr (.inr (.inl e)))
  have f4 : ∀ x ∈ L, x.b ≠ nb := fun x hx e => hfar (.inr (.inr (.inr ⟨x, hx, e⟩)))
  have hnb' : w'.heap[nb]? = some (.cells #[.string s, .int .i64 v, u2, u3] 152) := (hW.block nb hnl f3).trans hnb
  simp only [List.nodup_cons, List.mem_cons, List.mem_map, not_or] at hap
  refine { map := (hW.block _ (h.lt _ (.inl rfl)) hap.1.1).trans h.map, knot := h.knot.of_block (hW.block _ (h.lt _ (.inr (.inl rfl))) (fun e => hap.2.1.1 e.symm)), ents := fun x hx => ?_, apart := ?_, places := ⟨put F (.string s) (ptr nb), _, hM, fun hk => ?_⟩, m1 := h.m1, m2 := h.m2 }
  · rcases List.mem_append.1 hx with hx | hx
    · obtain ⟨h1, h2, h3, h4⟩ := h.ents x hx
      have e := hW.block x.b h1.lt (fun e => hap.2.1.2 ⟨x, hx, e⟩)
      exact ⟨h1.of_block e, (World.cell?_of_block (a := ⟨x.b, 0, none⟩) e).trans h2, (World.cell?_of_block (a := ⟨x.b, 1, none⟩) e).trans h3, h4⟩
    · obtain rfl := List.mem_singleton.1 hx
      have hB : Blk w' nb := Blk.mk (Exists.intro u2 (by simp [World.cell?, hnb'])) (Exists.intro u3 (by simp [World.cell?, hnb'])) (fun o => by simp [World.frozen?, hnb'])
      exact ⟨hB, by simp [World.cell?, hnb'], by simp [World.cell?, hnb'], hs⟩
  · have hp : (S.mb :: S.pb :: S.kn :: (L ++ [(⟨nb, s, v⟩ : Ent)]).map Ent.b).Perm (nb :: S.mb :: S.pb :: S.kn :: L.map Ent.b) := by
      rw [List.map_append]
      exact ((((List.perm_append_singleton nb (L.map Ent.b)).cons S.kn).cons S.pb).cons S.mb).trans ((((List.Perm.swap nb S.kn _).cons S.pb).cons S.mb).trans (((List.Perm.swap nb S.pb _).cons S.mb).trans (List.Perm.swap nb S.mb _)))
    refine hp.nodup_iff.2 (List.nodup_cons.2 ⟨?_, h.apart⟩)
    simp only [List.mem_cons, List.mem_map, not_or]
    exact ⟨f1, f3, f2, fun ⟨x, hx, e⟩ => f4 x hx e⟩
  · have hp : ((L ++ [(⟨nb, s, v⟩ : Ent)]).map Ent.k).Perm (s :: L.map Ent.k) := by
      rw [List.map_append]
      exact List.perm_append_singleton s (L.map Ent.k)
    obtain ⟨hk1, hk2⟩ := List.nodup_cons.1 (hp.nodup_iff.1 hk)
    have hn : ∀ x ∈ L, x.k ≠ s := fun x hx e => hk1 (List.mem_map.2 ⟨x, hx, e⟩)
    obtain ⟨hF1, hF⟩ := hF hk2
    have hnone : F (.string s) = none := by
      cases hc : F (.string s) with
      | none => rfl
      | some u => obtain ⟨x, hx, hk, _⟩ := (hF s u).1 hc; exact absurd hk (hn x hx)
    refine ⟨by rw [hnone]; simp [hF1], fun q u => ?_⟩
    by_cases hq : q = s
    · subst hq
      rw [put_same]
      constructor
      · intro e; cases e; exact ⟨⟨nb, q, v⟩, by simp, rfl, rfl⟩
      · rintro ⟨x, hx, hk, rfl⟩
        rcases List.mem_append.1 hx with hx | hx
        · exact absurd hk (hn x hx)
        · obtain rfl := List.mem_singleton.1 hx; rfl
    · rw [put_other (fun e => hq (by injection e)), hF q u]
      constructor
      · rintro ⟨x, hx, hk⟩; exact ⟨x, by simp [hx], hk⟩
      · rintro ⟨x, hx, hk⟩
        rcases List.mem_append.1 hx with hx | hx
        · exact ⟨x, hx, hk⟩
        · obtain rfl := List.mem_singleton.1 hx; exact absurd hk.1.symm hq

theorem LW.pushed {R : List Nat} {x : Ent} (h : LW w S L) (hr : Ring w S.kn R) (hx : x ∈ L) (hxn : x.b ∉ S.kn :: R) (hnd : (S.kn :: R).Nodup) (hsub : ∀ b ∈ R, ∃ y ∈ L, y.b = b) :
    Calls Tryz.prog 121 #[.agg #[ptr S.kn], ptr x.b] w fun e w' => e = .returned (.tuple #[]) ∧ LW w' S L ∧ Ring w' S.kn (R ++ [x.b]) ∧ Wr (Has S L) w w' := by
  have hlam := lst_mem S.kn R
  have hlam2 : lst S.kn R = S.kn ∨ ∃ y ∈ L, y.b = lst S.kn R := (List.mem_cons.1 hlam).elim .inl (fun e => .inr (hsub _ e))
  have hxm : x.b = S.kn ∨ ∃ y ∈ L, y.b = x.b := .inr ⟨x, hx, rfl⟩
  refine (push_any S.kn (lst S.kn R) x.b w hr.2.2 h.knot (h.blk hlam2) (h.blk hxm) (fun e => hxn (e ▸ List.mem_cons_self)) (fun e => hxn (e ▸ hlam))).mono ?_
  rintro e w' ⟨rfl, m, rfl⟩
  have h2 := (((h.link x.b 2 hxm (by omega) (ptr (lst S.kn R))).link x.b 3 hxm (by omega) (ptr S.kn)).link (lst S.kn R) 3 hlam2 (by omega) (ptr x.b)).link S.kn 2 (.inl rfl) (by omega) (ptr x.b)
  have hr2 := hr.push hnd hxn (h.blk hxm).c2 (h.blk hxm).c3
  have hb : ∀ (w1 : World) (o : Obj), Below w1.heap.size w1 ((w1.alloc o).drewN m) := fun w1 o => ⟨rfl, rfl, rfl, by simp [World.drewN], fun k hk => Below.heap_alloc w1 o k hk⟩
  refine ⟨rfl, h2.below (hb _ _), Ring.keep hr2 (fun k hk => (hb _ _).block k ?_), ((((wr_link hxm).trans (wr_link hxm)).trans (wr_link hlam2)).trans (wr_link (.inl rfl))).trans (Wr.ofBelow (hb _ _))⟩
  rcases List.mem_cons.1 hk with rfl | hk
  · exact h2.knot.lt
  · rcases List.mem_append.1 hk with hk | hk
    · exact (h2.blk (.inr (hsub _ hk))).lt
    · rw [List.mem_singleton.1 hk]; exact (h2.blk hxm).lt

theorem wadd_any (h : LW w S L) (hring : Ring w S.kn (L.map Ent.b)) {s : ByteArray} (hs : s.size ≤ maxLen) (v : Int) :
    Calls Tryz.prog 92 #[ptr S.mb, .agg #[.string s, .int .i64 v]] w fun e w' => e = .returned (.tuple #[]) ∧ (LW w' S (L ++ [⟨w.heap.size + 1, s, v⟩]) ∧ Ring w' S.kn ((L ++ [(⟨w.heap.size + 1, s, v⟩ : Ent)]).map Ent.b)) ∧ Wr (Has S L) w w' := by
  obtain ⟨wz, hwz⟩ : ∃ wz, ((w.alloc (.cells #[.string s, .int .i64 v] 150)).alloc (.cells #[.string s, .int .i64 v, .pointer none, .pointer none] 152)).drew = wz := ⟨_, rfl⟩
  have hbz : Below w.heap.size w wz := by rw [← hwz]; exact (((Below.refl _ _).alloc (Nat.le_refl _) _).alloc (by simp) _).drew
  have hsz : wz.heap.size = w.heap.size + 2 := by rw [← hwz]; show ((w.alloc _).alloc _).heap.size = _; simp
  have hz := h.below hbz
  have hrz : Ring wz S.kn (L.map Ent.b) := Ring.keep hring (fun k hk => hbz.block k (by
    rcases List.mem_cons.1 hk with rfl | hk2
    · exact h.knot.lt
    · obtain ⟨y, hy, rfl⟩ := List.mem_map.1 hk2
      exact (h.ents y hy).1.lt))
  have hnb : wz.heap[w.heap.size + 1]? = some (.cells #[.string s, .int .i64 v, .pointer none, .pointer none] 152) := by
    rw [← hwz]
    have := heap_alloc_new (w.alloc (.cells #[.string s, .int .i64 v] 150)) (.cells #[.string s, .int .i64 v, .pointer none, .pointer none] 152)
    rw [World.size_alloc] at this
    exact this
  have hfar : ¬ Has S L (w.heap.size + 1) := fun hh => by have := h.lt _ hh; omega
  obtain ⟨F, n, hM, hF⟩ := hz.places
  obtain ⟨w2, hrun, hM2, hW2⟩ := hM.store (val := ptr (w.heap.size + 1)) keyed Tryz.underlying146 (Go.WideMaps.keyOf_string_mk Tryz.underlying9 hs)
  have h2 : LW w2 S (L ++ [⟨w.heap.size + 1, s, v⟩]) := LW.added hz hnb hfar hs hF hM2 hW2
  have hpb : ∀ k ∈ S.kn :: L.map Ent.b, k ≠ S.pb := fun k hk e => by
    have := h.apart
    rw [e] at hk
    exact (List.nodup_cons.1 (List.nodup_cons.1 this).2).1 hk
  have hr2 : Ring w2 S.kn (L.map Ent.b) := Ring.keep hrz (fun k hk => hW2.block k (by
    rcases List.mem_cons.1 hk with rfl | hk2
    · exact hz.knot.lt
    · obtain ⟨y, hy, rfl⟩ := List.mem_map.1 hk2
      exact (hz.ents y hy).1.lt) (hpb k hk))
  have hwr : Wr (Has S L) w w2 := (Wr.ofBelow hbz).trans (hW2.mono (fun k e => .inr (.inr (.inl e))))
  have hno : (⟨w.heap.size + 1, s, v⟩ : Ent).b ∉ S.kn :: L.map Ent.b := fun hm => by
    refine hfar ?_
    rcases List.mem_cons.1 hm with e | hm
    · exact .inr (.inl e)
    · obtain ⟨y, hy, e⟩ := List.mem_map.1 hm
      exact .inr (.inr (.inr ⟨y, hy, e⟩))
  have HP := h2.pushed hr2 (x := ⟨w.heap.size + 1, s, v⟩) (by simp) hno (by have := h.apart; exact (List.nodup_cons.1 (List.nodup_cons.1 this).2).2) (fun b hb => by obtain ⟨y, hy, e⟩ := List.mem_map.1 hb; exact ⟨y, by simp [hy], e⟩)
  have hm2 : w.cell? ⟨S.mb, 2, none⟩ = some (.map (some S.pb)) := by simp [World.cell?, h.map]
  have hm0 : w2.cell? ⟨S.mb, 0, none⟩ = some (ptr S.kn) := by simp [World.cell?, h2.map]
  refine add_core S.mb S.kn S.pb s v w w2 (fun w' => (LW w' S (L ++ [⟨w.heap.size + 1, s, v⟩]) ∧ Ring w' S.kn ((L ++ [(⟨w.heap.size + 1, s, v⟩ : Ent)]).map Ent.b)) ∧ Wr (Has S L) w w') (h.lt _ (.inl rfl)) hm2 hm0 (by rw [hwz]; exact hrun) (hid (HP.mono ?_))
  rintro e w' ⟨rfl, q1, q2, q3⟩
  refine ⟨rfl, ⟨q1, by simpa using q2⟩, hwr.on q3 (fun k hk => ?_)⟩
  rcases hk with e | e | e | ⟨x, hx, e⟩
  · exact .inl (.inl e)
  · exact .inl (.inr (.inl e))
  · exact .inl (.inr (.inr (.inl e)))
  · rcases List.mem_append.1 hx with hx | hx
    · exact .inl (.inr (.inr (.inr ⟨x, hx, e⟩)))
    · rw [List.mem_singleton.1 hx] at e
      exact .inr (by rw [← e]; exact Nat.le_succ _)

end Go.Proofs.YtbihelpnojjacaaGreat.LruS

/- The document's bounded map: a list of pairs. Contracts of place and out. -/
namespace Go.Proofs.YtbihelpnojjacaaGreat.RefL
open Go.ChangeShapes Go.WideShapes Go.ChangeAt Go.RowKit Base Wri Str LruA

def cellsP (ps : List (ByteArray × Int)) : List Value := ps.flatMap fun p => [.string p.1, .int .i64 p.2]
theorem cellsP_app (a b : List (ByteArray × Int)) : cellsP (a ++ b) = cellsP a ++ cellsP b := by simp [cellsP]
theorem cellsP_len (a : List (ByteArray × Int)) : (cellsP a).length = a.length * 2 := by
  induction a with
  | nil => rfl
  | cons x r ih => simp only [cellsP, List.flatMap_cons, List.length_append] at ih ⊢; simp [ih]; omega
theorem cellsP_get {ps : List (ByteArray × Int)} {i : Nat} {p : ByteArray × Int} (h : ps[i]? = some p) : (cellsP ps)[i * 2]? = some (.string p.1) ∧ (cellsP ps)[i * 2 + 1]? = some (.int .i64 p.2) := by
  induction ps generalizing i with
  | nil => simp at h
  | cons x r ih =>
    cases i with
    | zero => simp at h; subst h; exact ⟨rfl, rfl⟩
    | succ i =>
      have := ih (i := i) (by simpa using h)
      have e : (i + 1) * 2 = i * 2 + 2 := by omega
      rw [e]
      exact this
theorem cellsP_one : ∀ ps : List (ByteArray × Int), ∀ u ∈ cellsP ps, u.oneCell' = true := by
  intro ps u hu
  obtain ⟨p, _, hp⟩ := List.mem_flatMap.1 hu
  simp at hp
  rcases hp with rfl | rfl <;> rfl

theorem infoP : (Tryz.prog.info? 154).map (fun i => (i.zero, i.size, i.bytes)) = some (some (.agg #[.string ⟨#[]⟩, .int .i64 0]), 2, 24) := by kernel_rfl

/-- the document's map: in block rb, its pairs in the row of v -/
structure RM (w0 w : World) (rb most : Nat) (v : Value) (ps : List (ByteArray × Int)) : Prop where
  blk : w.heap[rb]? = some (.cells #[.int .i64 most, v] 122)
  row : w.ownsRow w0.heap.size 154 2 v ps.length (cellsP ps)
  far : ∀ g, v.ownBlock = some g → g ≠ rb
  lb : w0.heap.size ≤ rb

variable {w0 w w' : World} {rb most : Nat} {v : Value} {ps : List (ByteArray × Int)}

theorem RM.lt (h : RM w0 w rb most v ps) : rb < w.heap.size := (Array.getElem?_eq_some_iff.1 h.blk).1
theorem RM.keep (h : RM w0 w rb most v ps) (hk : ∀ k, (k = rb ∨ v.ownBlock = some k) → w'.heap[k]? = w.heap[k]?) : RM w0 w' rb most v ps :=
  ⟨(hk rb (.inl rfl)).trans h.blk, owns_keep h.row (fun g e => hk g (.inr e)), h.far, h.lb⟩
theorem RM.below (h : RM w0 w rb most v ps) (hb : Below w.heap.size w w') : RM w0 w' rb most v ps :=
  h.keep fun k hk => hb.block k (hk.elim (fun e => e ▸ h.lt) (fun e => (h.row.lt k e).2))
theorem RM.cells (h : RM w0 w rb most v ps) : w.cell? ⟨rb, 0, none⟩ = some (.int .i64 most) ∧ w.cell? ⟨rb, 1, none⟩ = some v ∧ w.frozen? ⟨rb, 1, none⟩ = false := by
  have := h.blk
  exact ⟨by simp [World.cell?, this], by simp [World.cell?, this], by simp [World.frozen?, this]⟩

/-- where its pairs lie -/
theorem RM.at_ (h : RM w0 w rb most v ps) (hn : 0 < ps.length) : ∃ g c, v = .slice (some ⟨g, 0, none⟩) ps.length c ∧ ps.length ≤ c ∧ c ≤ maxLen ∧ g < w.heap.size ∧ ∀ j u, (cellsP ps)[j]? = some u → w.cell? ⟨g, j, none⟩ = some u := by
  have hlt := h.row.lt
  obtain ⟨hl, h2⟩ := h.row
  rcases h2 with ⟨_, h0⟩ | ⟨g, cap, cur, rfl, hg, hh, hc, hm, hs, hcur⟩
  · omega
  · refine ⟨g, cap, rfl, hc, hm, (hlt g rfl).2, fun j u hu => ?_⟩
    have hj : j < ps.length * 2 := by
      have := (List.getElem?_eq_some_iff.1 hu).1
      rwa [cellsP_len] at this
    have h1 : (cur.toList.take (ps.length * 2))[j]? = (cellsP ps)[j]? := by rw [hcur]
    rw [List.getElem?_take, if_pos hj, hu] at h1
    have e : cur[j]? = some u := by rw [← Array.getElem?_toList, h1]
    simp [World.cell?, hh, e]

/-- the place of a key: from a place on -/
def placeF (s : ByteArray) : List (ByteArray × Int) → Option Nat
  | [] => none
  | p :: r => if p.1 = s then some 0 else (placeF s r).map (· + 1)
theorem placeF_some {s : ByteArray} {ps : List (ByteArray × Int)} {i : Nat} (h : placeF s ps = some i) : ∃ p, ps[i]? = some p ∧ p.1 = s := by
  induction ps generalizing i with
  | nil => cases h
  | cons x r ih =>
    unfold placeF at h
    split at h
    · cases h; exact ⟨x, rfl, by assumption⟩
    · obtain ⟨j, hj, rfl⟩ := Option.map_eq_some_iff.1 h
      obtain ⟨p, h1, h2⟩ := ih hj
      exact ⟨p, by simpa using h1, h2⟩
theorem placeF_app {s : ByteArray} {a : List (ByteArray × Int)} (h : ∀ p ∈ a, p.1 ≠ s) (b : List (ByteArray × Int)) : placeF s (a ++ b) = (placeF s b).map (· + a.length) := by
  induction a with
  | nil => simp
  | cons x r ih =>
    have h1 := h x List.mem_cons_self
    have h2 := ih (fun p hp => h p (List.mem_cons_of_mem _ hp))
    simp only [List.cons_append, placeF, if_neg h1, h2, List.length_cons, Option.map_map]
    cases placeF s b with
    | none => rfl
    | some j => simp; omega
theorem placeF_none {s : ByteArray} {ps : List (ByteArray × Int)} : placeF s ps = none ↔ ∀ p ∈ ps, p.1 ≠ s := by
  induction ps with
  | nil => simp [placeF]
  | cons x r ih =>
    unfold placeF
    by_cases h : x.1 = s
    · simp [h]
    · simp [h, ih]

/-- as a number: -1 of none -/
def placeI (s : ByteArray) (ps : List (ByteArray × Int)) : Int := match placeF s ps with | some i => (i : Int) | none => -1

set_option maxRecDepth 20000 in
set_option maxHeartbeats 1000000 in
theorem place_any (s : ByteArray) (h : RM w0 w rb most v ps) (hl : ps.length ≤ 9223372036854775807) :
    Calls Tryz.prog 81 #[ptr rb, .string s] w fun e w' => e = .returned (.int .i64 (placeI s ps)) ∧ w = w' := by
  obtain ⟨k0, k1, kf⟩ := h.cells
  obtain ⟨va, vc, rfl⟩ := owns_shape h.row
  have H := hid h
  have hlt := h.lt
  clear h
  unfold ptr
  go_enter Tryz.func81, Tryz.ntmps81
  go_wp2_with fail
  go_loop [5] (fun i => ∃ k : Nat, k ≤ ps.length ∧ i = .int .i64 k ∧ ∀ p ∈ ps.take k, p.1 ≠ s) (fun i => ps.length - (intOf i).toNat)
  case atStart => exact ⟨0, Nat.zero_le _, rfl, by simp⟩
  case round =>
    obtain ⟨k, hk, rfl, hno⟩ := hrel
    have HNo := hid hno
    clear hno
    by_cases hlt2 : k < ps.length
    · obtain ⟨g, c, hv, _, _, hg, hc⟩ := H.out.at_ (by omega)
      obtain ⟨p, hp⟩ : ∃ p, ps[k]? = some p := ⟨ps[k], List.getElem?_eq_getElem hlt2⟩
      have c0 : w.cell? ⟨g, k * 2, none⟩ = some (.string p.1) := hc _ _ (cellsP_get hp).1
      injection hv with e1 e2 e3
      subst e1
      have HP := hid hp
      clear hc e2 e3 hp
      by_cases hs : p.1 = s
      · have HR : Hid (placeI s ps = k) := hid (by
          have e : ps = ps.take k ++ ps.drop k := (List.take_append_drop k ps).symm
          unfold placeI
          rw [e, placeF_app HNo.out]
          have hd : ps.drop k = p :: ps.drop (k + 1) := by rw [List.drop_eq_getElem_cons hlt2]; congr 1; have := HP.out; rw [List.getElem?_eq_getElem hlt2] at this; exact Option.some.inj this
          rw [hd]
          simp [placeF, hs]
          omega)
        have hb : (p.1.toList == s.toList) = true := by rw [text_eq, decide_eq_true hs]
        clear hs
        go_wp2_with fail
        go_ret
        exact ⟨by rw [HR.out]; rfl, rfl⟩
      · have HS : Hid (∀ q ∈ ps.take (k + 1), q.1 ≠ s) := hid (fun q hq => by
          rw [List.take_add_one, HP.out] at hq
          rcases List.mem_append.1 hq with hq | hq
          · exact HNo.out q hq
          · rw [List.mem_singleton.1 hq]; exact hs)
        have hb : (p.1.toList == s.toList) = false := by rw [text_eq, decide_eq_false hs]
        clear hs
        go_wp2_with fail
        go_round
        case rel => exact ⟨k + 1, by omega, by go_num, HS.out⟩
        case measure => simp [intOf]; omega
    · have HR : Hid (placeI s ps = -1) := hid (by
        unfold placeI
        rw [placeF_none.2 (fun p hp => HNo.out p (by rw [List.take_of_length_le (by omega)]; exact hp))])
      go_wp2_with fail
      go_ret
      exact ⟨by rw [HR.out]; rfl, rfl⟩

theorem rm_set {i n most : Nat} {v v6 : Value} {w6 : World} (ho : w6.ownsRow w0.heap.size 154 2 v6 (0 + i + (n - (i + 1))) (([] ++ cellsP (ps.take i)) ++ cellsP (ps.drop (i + 1)))) (hb : w6.heap[rb]? = some (.cells #[.int .i64 most, v] 122))
    (ha : ∀ g, v6.ownBlock = some g → w.heap.size ≤ g) (hlt : rb < w.heap.size) (lb : w0.heap.size ≤ rb) (hi : i < ps.length) (hn : ps.length = n) : RM w0 (w6.setCell ⟨rb, 1, none⟩ v6) rb most v6 (ps.eraseIdx i) := by
  have far : ∀ g, v6.ownBlock = some g → g ≠ rb := fun g e => by have := ha g e; omega
  refine ⟨by have := heap_setCell_same _ rb 1 _ _ v6 hb; simpa using this, ?_, far, lb⟩
  have hl : (ps.eraseIdx i).length = 0 + i + (n - (i + 1)) := by rw [List.length_eraseIdx, if_pos hi]; omega
  have hc : cellsP (ps.eraseIdx i) = ([] ++ cellsP (ps.take i)) ++ cellsP (ps.drop (i + 1)) := by rw [List.eraseIdx_eq_take_drop_succ, cellsP_app]; rfl
  rw [hl, hc]
  exact owns_keep ho (fun g e => heap_setCell_other _ _ _ _ (far g e))

set_option maxRecDepth 20000 in
set_option maxHeartbeats 1000000 in
theorem out_any (i : Nat) (h : RM w0 w rb most v ps) (hi : i < ps.length) (hl : ps.length ≤ 4096) (hb : w0.heap.size ≤ w.heap.size) :
    Calls Tryz.prog 82 #[ptr rb, .int .i64 i] w fun e w' => e = .returned (.tuple #[]) ∧ (∃ v', RM w0 w' rb most v' (ps.eraseIdx i) ∧ (∀ g, v'.ownBlock = some g → w.heap.size ≤ g)) ∧ Wr (fun k => k = rb) w w' := by
  obtain ⟨i0, hi0, hz0, hz1, hz2⟩ := info_parts infoP
  obtain ⟨k0, k1, kf⟩ := h.cells
  obtain ⟨g, c, rfl, hc1, hc2, hg, hcc⟩ := h.at_ (by omega)
  have HC := hid hcc
  have H := hid h
  have hlt := h.lt
  unfold maxLen at hc2
  have hown0 : w.ownsRow w0.heap.size 154 2 (.slice none 0 0) 0 [] := ⟨rfl, .inl ⟨rfl, rfl⟩⟩
  clear h hcc
  unfold ptr
  go_enter Tryz.func82, Tryz.ntmps82
  obtain ⟨n, hn⟩ : ∃ n, ps.length = n := ⟨_, rfl⟩
  have hn1 : (cellsP (ps.take i)).length = i * 2 := by rw [cellsP_len, List.length_take]; omega
  have hn2 : (cellsP (ps.drop (i + 1))).length = (n - (i + 1)) * 2 := by rw [cellsP_len, List.length_drop]; omega
  have hnews1 : ∀ (j : Nat) u, (cellsP (ps.take i))[j]? = some u → w.cell? ((⟨g, 0, none⟩ : Addr).add j) = some u := fun j u hu => by
    rw [Go.WideShapes.add_plain, Nat.zero_add]
    refine HC.out j u ?_
    rw [← List.take_append_drop i ps, cellsP_app, List.getElem?_append_left (List.getElem?_eq_some_iff.1 hu).1]
    exact hu
  have hnews2 : ∀ (j : Nat) u, (cellsP (ps.drop (i + 1)))[j]? = some u → w.cell? ((⟨g, (i + 1) * 2, none⟩ : Addr).add j) = some u := fun j u hu => by
    rw [Go.WideShapes.add_plain]
    refine HC.out _ u ?_
    rw [← List.take_append_drop (i + 1) ps, cellsP_app, List.getElem?_append_right (by rw [cellsP_len, List.length_take]; omega), cellsP_len, List.length_take]
    rw [← hu]
    congr 1
    omega
  have HN2 := hid hnews2
  have HNL := hid (And.intro hn1 hn2)
  clear hnews2 hn2
  rw [hn] at hc1 hi hl k1 H
  by_cases hci : c = i + 1
  · subst hci
    go_wp2_with (at_builtin; (first
        | (refine wpList_append_own_at _ rfl _ _ 120 rfl w0.heap.size 154 i0 (.agg #[.string ⟨#[]⟩, .int .i64 0]) 2 24 Tryz.underlying120 hi0 hz0 hz1 hz2 rfl (by decide) _ _ _ rfl hown0 ⟨g, 0, none⟩ i (i + 1) (cellsP (ps.take i)) rfl hn1 hnews1 (cellsP_one _) (by unfold maxLen; omega) (by omega) hb ?_; intro v5 w5 hown5 hgr5 hnil5 hat5
           have HB5 : Hid (Below w.heap.size w w5) := hid ((Below.refl _ _).grown hgr5 (Nat.le_refl _) (fun k e => by cases e))
           have HR5 := hid (H.out.below HB5.out)
           have k15 := HR5.out.cells.2.1
           have kf5 := HR5.out.cells.2.2
           have h5lt : rb < w5.heap.size := HR5.out.lt
           have hnews5 : ∀ (j : Nat) u, (cellsP (ps.drop (i + 1)))[j]? = some u → w5.cell? ((⟨g, (i + 1) * 2, none⟩ : Addr).add j) = some u := fun j u hu => by
             have := HN2.out j u hu
             rw [Go.WideShapes.add_plain] at this ⊢
             exact (HB5.out.cell (p := ⟨g, (i + 1) * 2 + j, none⟩) hg).trans this
           have hb5 : w0.heap.size ≤ w5.heap.size := Nat.le_trans hb HB5.out.size
           have hn2 := HNL.out.2
           have hat5' : ∀ b, v5.ownBlock = some b → w.heap.size ≤ b := fun b e => by
             rcases hat5 with e2 | e2
             · rw [e2] at e; cases e
             · rw [e2] at e; cases e; exact Nat.le_refl _
           clear hgr5 hnil5 hat5 hown0 hnews1 hn1)
        | (refine wpList_append_own_at _ rfl _ _ 120 rfl w0.heap.size 154 i0 (.agg #[.string ⟨#[]⟩, .int .i64 0]) 2 24 Tryz.underlying120 hi0 hz0 hz1 hz2 rfl (by decide) _ _ _ rfl hown5 ⟨g, 0, none⟩ 0 0 [] rfl rfl (fun j u hu => by simp at hu) (fun u hu => by cases hu) (by unfold maxLen; omega) (by omega) hb5 ?_; intro v6 w6 hown6 hgr6 hnil6 hat6
           obtain ⟨va6, vc6, hv6⟩ := owns_shape hown6
           have hrbw : w6.heap[rb]? = w5.heap[rb]? := hgr6.block rb h5lt (fun e => by have := hat5' rb e.symm; omega)
           have h6b := hrbw.trans HR5.out.blk
           have k16 : w6.cell? ⟨rb, 1, none⟩ = some (.slice (some ⟨g, 0, none⟩) n (i + 1)) := by simp [World.cell?, h6b]
           have kf6 : w6.frozen? ⟨rb, 1, none⟩ = false := by simp [World.frozen?, h6b]
           have hat6' : ∀ b, v6.ownBlock = some b → w.heap.size ≤ b := fun b e => by
             rcases hat6 with e2 | e2
             · exact hat5' b (e2 ▸ e)
             · rw [e2] at e; cases e; exact HB5.out.size
           have HO6 : Hid (w6.ownsRow w0.heap.size 154 2 v6 (0 + i + (n - (i + 1))) (([] ++ cellsP (ps.take i)) ++ cellsP (ps.drop (i + 1)))) := hid (by rw [show n - (i + 1) = 0 by omega, show ps.drop (i + 1) = [] from List.drop_of_length_le (by omega)]; exact hown6)
           have HB6 := hid h6b
           have HA6 := hid hat6'
           have h6lt : rb < w6.heap.size := Nat.lt_of_lt_of_le h5lt hgr6.size
           have HW6 : Hid (Below w.heap.size w w6) := hid (HB5.out.grown hgr6 HB5.out.size hat5')
           clear hgr6 hnil6 hat6 hown5 hnews5 hn2 hown6 h6b hat6' hrbw k15 kf5 hat5'
           subst hv6)))
    go_end0
    have HRM : RM w0 (w6.setCell ⟨rb, 1, none⟩ (.slice va6 (0 + i + 0) vc6)) rb most (.slice va6 (0 + i + 0) vc6) (ps.eraseIdx i) := rm_set HO6.out HB6.out HA6.out hlt H.out.lb (by rw [hn]; exact hi) (by rw [hn])
    simp only [Nat.zero_add, Nat.add_zero] at HRM HA6
    exact ⟨rfl, ⟨_, HRM, HA6.out⟩, (Wr.ofBelow HW6.out).trans (Wr.set ⟨rb, 1, none⟩ _ rfl)⟩
  · have hcd : decide (c = i + 1) = false := by simpa using hci
    go_wp2_with (at_builtin; (first
        | (refine wpList_append_own_at _ rfl _ _ 120 rfl w0.heap.size 154 i0 (.agg #[.string ⟨#[]⟩, .int .i64 0]) 2 24 Tryz.underlying120 hi0 hz0 hz1 hz2 rfl (by decide) _ _ _ rfl hown0 ⟨g, 0, none⟩ i c (cellsP (ps.take i)) rfl hn1 hnews1 (cellsP_one _) (by unfold maxLen; omega) (by omega) hb ?_; intro v5 w5 hown5 hgr5 hnil5 hat5
           have HB5 : Hid (Below w.heap.size w w5) := hid ((Below.refl _ _).grown hgr5 (Nat.le_refl _) (fun k e => by cases e))
           have HR5 := hid (H.out.below HB5.out)
           have k15 := HR5.out.cells.2.1
           have kf5 := HR5.out.cells.2.2
           have h5lt : rb < w5.heap.size := HR5.out.lt
           have hnews5 : ∀ (j : Nat) u, (cellsP (ps.drop (i + 1)))[j]? = some u → w5.cell? ((⟨g, (i + 1) * 2, none⟩ : Addr).add j) = some u := fun j u hu => by
             have := HN2.out j u hu
             rw [Go.WideShapes.add_plain] at this ⊢
             exact (HB5.out.cell (p := ⟨g, (i + 1) * 2 + j, none⟩) hg).trans this
           have hb5 : w0.heap.size ≤ w5.heap.size := Nat.le_trans hb HB5.out.size
           have hn2 := HNL.out.2
           have hat5' : ∀ b, v5.ownBlock = some b → w.heap.size ≤ b := fun b e => by
             rcases hat5 with e2 | e2
             · rw [e2] at e; cases e
             · rw [e2] at e; cases e; exact Nat.le_refl _
           clear hgr5 hnil5 hat5 hown0 hnews1 hn1)
        | (refine wpList_append_own_at _ rfl _ _ 120 rfl w0.heap.size 154 i0 (.agg #[.string ⟨#[]⟩, .int .i64 0]) 2 24 Tryz.underlying120 hi0 hz0 hz1 hz2 rfl (by decide) _ _ _ rfl hown5 ⟨g, (i + 1) * 2, none⟩ (n - (i + 1)) (c - (i + 1)) (cellsP (ps.drop (i + 1))) rfl hn2 hnews5 (cellsP_one _) (by unfold maxLen; omega) (by omega) hb5 ?_; intro v6 w6 hown6 hgr6 hnil6 hat6
           obtain ⟨va6, vc6, hv6⟩ := owns_shape hown6
           have hrbw : w6.heap[rb]? = w5.heap[rb]? := hgr6.block rb h5lt (fun e => by have := hat5' rb e.symm; omega)
           have h6b := hrbw.trans HR5.out.blk
           have k16 : w6.cell? ⟨rb, 1, none⟩ = some (.slice (some ⟨g, 0, none⟩) n c) := by simp [World.cell?, h6b]
           have kf6 : w6.frozen? ⟨rb, 1, none⟩ = false := by simp [World.frozen?, h6b]
           have hat6' : ∀ b, v6.ownBlock = some b → w.heap.size ≤ b := fun b e => by
             rcases hat6 with e2 | e2
             · exact hat5' b (e2 ▸ e)
             · rw [e2] at e; cases e; exact HB5.out.size
           have HO6 := hid hown6
           have HB6 := hid h6b
           have HA6 := hid hat6'
           have h6lt : rb < w6.heap.size := Nat.lt_of_lt_of_le h5lt hgr6.size
           have HW6 : Hid (Below w.heap.size w w6) := hid (HB5.out.grown hgr6 HB5.out.size hat5')
           clear hgr6 hnil6 hat6 hown5 hnews5 hn2 hown6 h6b hat6' hrbw k15 kf5 hat5'
           subst hv6)))
    go_end0
    have HRM : RM w0 (w6.setCell ⟨rb, 1, none⟩ (.slice va6 (0 + i + (n - (i + 1))) vc6)) rb most (.slice va6 (0 + i + (n - (i + 1))) vc6) (ps.eraseIdx i) := rm_set HO6.out HB6.out HA6.out hlt H.out.lb (by rw [hn]; exact hi) (by rw [hn])
    simp only [Nat.zero_add] at HRM HA6
    exact ⟨rfl, ⟨_, HRM, HA6.out⟩, (Wr.ofBelow HW6.out).trans (Wr.set ⟨rb, 1, none⟩ _ rfl)⟩

end Go.Proofs.YtbihelpnojjacaaGreat.RefL

/- The document's bounded map: contracts of its calls. -/
namespace Go.Proofs.YtbihelpnojjacaaGreat.RefM
open Go.ChangeShapes Go.WideShapes Go.ChangeAt Go.RowKit Base Wri Str LruA RefL

variable {w0 w w' : World} {rb most : Nat} {v : Value} {ps : List (ByteArray × Int)}

/-- behind a call: the pairs in a row of the call's, or in the old one -/
def RPost (w0 w : World) (rb most : Nat) (v : Value) (ps' : List (ByteArray × Int)) (w' : World) : Prop :=
  (∃ v', RM w0 w' rb most v' ps' ∧ ∀ g, v'.ownBlock = some g → v.ownBlock = some g ∨ w.heap.size ≤ g) ∧ Wr (fun k => k = rb ∨ v.ownBlock = some k) w w'

theorem rm_push {va : Option Addr} {vc n : Nat} {v0 : Value} {w6 : World} {s : ByteArray} {x : Int} (ho : w6.ownsRow w0.heap.size 154 2 (.slice va (n + 1) vc) (n + 1) (cellsP ps ++ [.string s, .int .i64 x])) (hb : w6.heap[rb]? = some (.cells #[.int .i64 most, v0] 122))
    (ha : ∀ g, (Value.slice va (n + 1) vc).ownBlock = some g → g ≠ rb) (lb : w0.heap.size ≤ rb) (hn : ps.length = n) : RM w0 (w6.setCell ⟨rb, 1, none⟩ (.slice va (n + 1) vc)) rb most (.slice va (n + 1) vc) (ps ++ [(s, x)]) := by
  refine ⟨by have := heap_setCell_same _ rb 1 _ _ (.slice va (n + 1) vc) hb; simpa using this, ?_, ha, lb⟩
  have hl : (ps ++ [(s, x)]).length = n + 1 := by simp [hn]
  have hc : cellsP (ps ++ [(s, x)]) = cellsP ps ++ [.string s, .int .i64 x] := by rw [cellsP_app]; rfl
  rw [hl, hc]
  exact owns_keep ho (fun g e => heap_setCell_other _ _ _ _ (ha g e))


set_option maxRecDepth 20000 in
set_option maxHeartbeats 1000000 in
theorem rput_there {i : Nat} {s : ByteArray} (x : Int) (h : RM w0 w rb most v ps) (hp : placeI s ps = i) (hi : i < ps.length) (hl : ps.length ≤ 4096) (hb : w0.heap.size ≤ w.heap.size) :
    Calls Tryz.prog 49 #[ptr rb, .string s, .int .i64 x] w fun e w' => e = .returned (.tuple #[.string ⟨#[]⟩, .bool false, .int .i64 0]) ∧ RPost w0 w rb most v (ps.eraseIdx i ++ [(s, x)]) w' := by
  obtain ⟨i0, hi0, hz0, hz1, hz2⟩ := info_parts infoP
  have HP := hid (place_any s h (by omega))
  rw [hp] at HP
  have HO := hid (out_any i h hi hl hb)
  have H := hid h
  have hlen : (ps.eraseIdx i).length ≤ 4095 := by rw [List.length_eraseIdx, if_pos hi]; omega
  clear h hp
  unfold ptr at *
  go_enter Tryz.func49, Tryz.ntmps49
  go_wp2_with fail
  refine HP.out.mono ?_
  rintro e w1 ⟨rfl, rfl⟩
  go_wp2_with fail
  refine HO.out.mono ?_
  rintro e w2 ⟨rfl, ⟨v2, h2, hn2⟩, hw2⟩
  obtain ⟨va2, vc2, rfl⟩ := owns_shape h2.row
  obtain ⟨n, hn⟩ : ∃ n, (ps.eraseIdx i).length = n := ⟨_, rfl⟩
  have H2 := hid h2
  have HN2 := hid hn2
  have HW2 := hid hw2
  have hb2 : w0.heap.size ≤ w2.heap.size := Nat.le_trans hb hw2.size
  have k1 := h2.cells.2.1
  have hlt2 := h2.lt
  have hownP : (w2.alloc (.cells #[.string s, .int .i64 x] 154)).ownsRow w0.heap.size 154 2 (.slice va2 n vc2) n (cellsP (ps.eraseIdx i)) := by have := h2.row; rw [hn] at this; exact World.ownsRow.alloc this _
  rw [hn] at k1 H2 hlen HN2
  clear h2 hn2 hw2 HP HO
  go_wp2_with (at_builtin; (first
  | (refine wpList_append_own_at _ rfl _ _ 120 rfl w0.heap.size 154 i0 (.agg #[.string ⟨#[]⟩, .int .i64 0]) 2 24 Tryz.underlying120 hi0 hz0 hz1 hz2 rfl (by decide) (Value.slice va2 n vc2) _ _ rfl hownP ⟨w2.heap.size, 0, none⟩ 1 1 [.string s, .int .i64 x] rfl rfl (fun j u hu => by
       rw [Go.WideShapes.add_plain, Nat.zero_add]
       have hnn := heap_alloc_new w2 (.cells #[.string s, .int .i64 x] 154)
       unfold World.cell?
       rw [hnn]
       simpa using hu) (by intro u hu; simp at hu; rcases hu with rfl | rfl <;> rfl) (by unfold maxLen; omega) (by omega) (by simp; omega) ?_; intro v6 w6 hown6 hgr6 hnil6 hat6
     obtain ⟨va6, vc6, hv6⟩ := owns_shape hown6
     have hrbw : w6.heap[rb]? = w2.heap[rb]? := (hgr6.block rb (by have := H2.out.lt; simp; omega) (fun e => H2.out.far rb e.symm rfl)).trans (Below.heap_alloc w2 _ rb H2.out.lt)
     have h6b := hrbw.trans H2.out.blk
     have k16 : w6.cell? ⟨rb, 1, none⟩ = some (Value.slice va2 n vc2) := by simp [World.cell?, h6b]
     have kf6 : w6.frozen? ⟨rb, 1, none⟩ = false := by simp [World.frozen?, h6b]
     have hlt6 : rb < w6.heap.size := by have := hgr6.size; have := H2.out.lt; simp at *; omega
     have HO6 := hid hown6
     have HB6 := hid h6b
     have HA6 : Hid (∀ g, v6.ownBlock = some g → (Value.slice va2 n vc2).ownBlock = some g ∨ w2.heap.size ≤ g) := hid (fun g e => by
       rcases hat6 with e2 | e2
       · exact .inl (e2 ▸ e)
       · rw [e2] at e
         have := Option.some.inj e
         exact .inr (by simp at this; omega))
     have HW6 : Hid (Wr (fun k => k = rb ∨ (Value.slice va2 n vc2).ownBlock = some k) w2 w6) := hid ((Wr.ofBelow (R := fun k => k = rb ∨ (Value.slice va2 n vc2).ownBlock = some k) ((Below.refl w2.heap.size w2).alloc (Nat.le_refl _) (.cells #[.string s, .int .i64 x] 154))).trans (Wr.ofGrown hgr6 (fun k e => .inr e)))
     clear hgr6 hnil6 hat6 hown6 h6b hrbw hownP
     subst hv6)))
  go_ret3
  have HRM := rm_push (ps := ps.eraseIdx i) HO6.out HB6.out (fun g e => (HA6.out g e).elim (H2.out.far g) (fun e2 => by omega)) H2.out.lb hn
  exact ⟨rfl, ⟨_, HRM, fun g e => (HA6.out g e).elim (fun e2 => .inr (HN2.out g e2)) (fun e2 => .inr (Nat.le_trans HW2.out.size e2))⟩, ((HW2.out.mono (fun k e => .inl e)).on HW6.out (fun k e => e.elim (fun e => .inl (.inl e)) (fun e => .inr (HN2.out k e)))).trans (Wr.set ⟨rb, 1, none⟩ _ (.inl rfl))⟩

set_option maxRecDepth 20000 in
set_option maxHeartbeats 1000000 in
theorem rput_room {s : ByteArray} (x : Int) (h : RM w0 w rb most v ps) (hp : placeI s ps = -1) (hl : ps.length < most) (hm : most ≤ 4096) (hb : w0.heap.size ≤ w.heap.size) :
    Calls Tryz.prog 49 #[ptr rb, .string s, .int .i64 x] w fun e w' => e = .returned (.tuple #[.string ⟨#[]⟩, .bool false, .int .i64 0]) ∧ RPost w0 w rb most v (ps ++ [(s, x)]) w' := by
  obtain ⟨i0, hi0, hz0, hz1, hz2⟩ := info_parts infoP
  have HP := hid (place_any s h (by omega))
  rw [hp] at HP
  obtain ⟨va2, vc2, rfl⟩ := owns_shape h.row
  obtain ⟨n, hn⟩ : ∃ n, ps.length = n := ⟨_, rfl⟩
  obtain ⟨w2, hw2⟩ : ∃ w2, w.drew = w2 := ⟨_, rfl⟩
  have h2 : RM w0 w2 rb most (.slice va2 ps.length vc2) ps := by rw [← hw2]; exact h.keep fun _ _ => rfl
  have H2 := hid h2
  have hb2 : w0.heap.size ≤ w2.heap.size := by rw [← hw2]; exact hb
  have k1 := h2.cells.2.1
  have k01 := h.cells.2.1
  have k00 := h.cells.1
  have hlt1 := h.lt
  have hlt2 := h2.lt
  have hownP : (w2.alloc (.cells #[.string s, .int .i64 x] 154)).ownsRow w0.heap.size 154 2 (.slice va2 n vc2) n (cellsP ps) := by have := h2.row; rw [hn] at this; exact World.ownsRow.alloc this _
  rw [hn] at k1 k01 H2 hl
  have hlen : n ≤ 4095 := by omega
  have HW2 := hid hw2
  clear h h2 hp hw2
  unfold ptr at *
  go_enter Tryz.func49, Tryz.ntmps49
  go_wp2_with fail
  refine HP.out.mono ?_
  rintro e w1 ⟨rfl, rfl⟩
  clear HP
  go_wp2_with fail
  go_region
  rw [HW2.out]
  clear k01 k00 hlt1
  go_wp2_with (at_builtin; (first
  | (refine wpList_append_own_at _ rfl _ _ 120 rfl w0.heap.size 154 i0 (.agg #[.string ⟨#[]⟩, .int .i64 0]) 2 24 Tryz.underlying120 hi0 hz0 hz1 hz2 rfl (by decide) (Value.slice va2 n vc2) _ _ rfl hownP ⟨w2.heap.size, 0, none⟩ 1 1 [.string s, .int .i64 x] rfl rfl (fun j u hu => by
       rw [Go.WideShapes.add_plain, Nat.zero_add]
       have hnn := heap_alloc_new w2 (.cells #[.string s, .int .i64 x] 154)
       unfold World.cell?
       rw [hnn]
       simpa using hu) (by intro u hu; simp at hu; rcases hu with rfl | rfl <;> rfl) (by unfold maxLen; omega) (by omega) (by simp; omega) ?_; intro v6 w6 hown6 hgr6 hnil6 hat6
     obtain ⟨va6, vc6, hv6⟩ := owns_shape hown6
     have hrbw : w6.heap[rb]? = w2.heap[rb]? := (hgr6.block rb (by have := H2.out.lt; simp; omega) (fun e => H2.out.far rb e.symm rfl)).trans (Below.heap_alloc w2 _ rb H2.out.lt)
     have h6b := hrbw.trans H2.out.blk
     have k16 : w6.cell? ⟨rb, 1, none⟩ = some (Value.slice va2 n vc2) := by simp [World.cell?, h6b]
     have kf6 : w6.frozen? ⟨rb, 1, none⟩ = false := by simp [World.frozen?, h6b]
     have hlt6 : rb < w6.heap.size := by have := hgr6.size; have := H2.out.lt; simp at *; omega
     have HO6 := hid hown6
     have HB6 := hid h6b
     have HA6 : Hid (∀ g, v6.ownBlock = some g → (Value.slice va2 n vc2).ownBlock = some g ∨ w2.heap.size ≤ g) := hid (fun g e => by
       rcases hat6 with e2 | e2
       · exact .inl (e2 ▸ e)
       · rw [e2] at e
         have := Option.some.inj e
         exact .inr (by simp at this; omega))
     have HW6 : Hid (Wr (fun k => k = rb ∨ (Value.slice va2 n vc2).ownBlock = some k) w2 w6) := hid ((Wr.ofBelow (R := fun k => k = rb ∨ (Value.slice va2 n vc2).ownBlock = some k) ((Below.refl w2.heap.size w2).alloc (Nat.le_refl _) (.cells #[.string s, .int .i64 x] 154))).trans (Wr.ofGrown hgr6 (fun k e => .inr e)))
     clear hgr6 hnil6 hat6 hown6 h6b hrbw hownP
     subst hv6)))
  go_ret3
  have HRM := rm_push (ps := ps) HO6.out HB6.out (fun g e => (HA6.out g e).elim (H2.out.far g) (fun e2 => by omega)) H2.out.lb hn
  rw [hn]
  have hws : w2.heap.size = w.heap.size := by rw [← HW2.out]; rfl
  have HW1 : Wr (fun k => k = rb ∨ (Value.slice va2 n vc2).ownBlock = some k) w w2 := by rw [← HW2.out]; exact (Wr.refl _ _).drewN 1
  exact ⟨rfl, ⟨_, HRM, fun g e => (HA6.out g e).elim .inl (fun e2 => .inr (by omega))⟩, (HW1.trans HW6.out).trans (Wr.set ⟨rb, 1, none⟩ _ (.inl rfl))⟩

set_option maxRecDepth 20000 in
set_option maxHeartbeats 1000000 in
theorem rput_full {s : ByteArray} {p : ByteArray × Int} {r : List (ByteArray × Int)} (x : Int) (h : RM w0 w rb most v (p :: r)) (hp : placeI s (p :: r) = -1) (hl : (p :: r).length = most) (hm : most ≤ 4096) (hb : w0.heap.size ≤ w.heap.size) :
    Calls Tryz.prog 49 #[ptr rb, .string s, .int .i64 x] w fun e w' => e = .returned (.tuple #[.string p.1, .bool true, .int .i64 0]) ∧ RPost w0 w rb most v (r ++ [(s, x)]) w' := by
  obtain ⟨i0, hi0, hz0, hz1, hz2⟩ := info_parts infoP
  have HP := hid (place_any s h (by omega))
  rw [hp] at HP
  obtain ⟨g, c, rfl, hc1, _, hg, hcc⟩ := h.at_ (by simp)
  have g0 : w.cell? ⟨g, 0, none⟩ = some (.string p.1) := hcc 0 _ rfl
  have hd : RM w0 w.drew rb most (.slice (some ⟨g, 0, none⟩) (p :: r).length c) (p :: r) := h.keep fun _ _ => rfl
  have HO := hid (out_any 0 hd (by simp) (by omega) hb)
  obtain ⟨n, hn⟩ : ∃ n, r.length = n := ⟨_, rfl⟩
  have hmn : most = n + 1 := by rw [← hl, ← hn]; rfl
  subst hmn
  have k01 := h.cells.2.1
  have k00 := h.cells.1
  rw [hl] at k01 hc1
  rw [show ((0 : Nat) : Int) = 0 from rfl] at HO
  have hlt1 := h.lt
  have H := hid h
  have hgd : g < w.drew.heap.size := hg
  clear h hd hp hcc
  unfold ptr at *
  go_enter Tryz.func49, Tryz.ntmps49
  go_wp2_with fail
  refine HP.out.mono ?_
  rintro e w1 ⟨rfl, rfl⟩
  clear HP
  go_wp2_with fail
  go_region
  go_wp2_with fail
  refine HO.out.mono ?_
  rintro e w2 ⟨rfl, ⟨v2, h2, hn2⟩, hw2⟩
  have he0 : (p :: r).eraseIdx 0 = r := rfl
  rw [he0] at h2
  obtain ⟨va2, vc2, rfl⟩ := owns_shape h2.row
  have H2 := hid h2
  have HN2 := hid hn2
  have HW2 := hid hw2
  have hb2 : w0.heap.size ≤ w2.heap.size := Nat.le_trans hb hw2.size
  have k1 := h2.cells.2.1
  have hlt2 := h2.lt
  have hownP : (w2.alloc (.cells #[.string s, .int .i64 x] 154)).ownsRow w0.heap.size 154 2 (.slice va2 n vc2) n (cellsP r) := by have := h2.row; rw [hn] at this; exact World.ownsRow.alloc this _
  rw [hn] at k1 H2 HN2
  clear h2 hn2 hw2 HO k00 k01 g0
  go_wp2_with (at_builtin; (first
  | (refine wpList_append_own_at _ rfl _ _ 120 rfl w0.heap.size 154 i0 (.agg #[.string ⟨#[]⟩, .int .i64 0]) 2 24 Tryz.underlying120 hi0 hz0 hz1 hz2 rfl (by decide) (Value.slice va2 n vc2) _ _ rfl hownP ⟨w2.heap.size, 0, none⟩ 1 1 [.string s, .int .i64 x] rfl rfl (fun j u hu => by
       rw [Go.WideShapes.add_plain, Nat.zero_add]
       have hnn := heap_alloc_new w2 (.cells #[.string s, .int .i64 x] 154)
       unfold World.cell?
       rw [hnn]
       simpa using hu) (by intro u hu; simp at hu; rcases hu with rfl | rfl <;> rfl) (by unfold maxLen; omega) (by omega) (by simp; omega) ?_; intro v6 w6 hown6 hgr6 hnil6 hat6
     obtain ⟨va6, vc6, hv6⟩ := owns_shape hown6
     have hrbw : w6.heap[rb]? = w2.heap[rb]? := (hgr6.block rb (by have := H2.out.lt; simp; omega) (fun e => H2.out.far rb e.symm rfl)).trans (Below.heap_alloc w2 _ rb H2.out.lt)
     have h6b := hrbw.trans H2.out.blk
     have k16 : w6.cell? ⟨rb, 1, none⟩ = some (Value.slice va2 n vc2) := by simp [World.cell?, h6b]
     have kf6 : w6.frozen? ⟨rb, 1, none⟩ = false := by simp [World.frozen?, h6b]
     have hlt6 : rb < w6.heap.size := by have := hgr6.size; have := H2.out.lt; simp at *; omega
     have HO6 := hid hown6
     have HB6 := hid h6b
     have HA6 : Hid (∀ g, v6.ownBlock = some g → (Value.slice va2 n vc2).ownBlock = some g ∨ w2.heap.size ≤ g) := hid (fun g e => by
       rcases hat6 with e2 | e2
       · exact .inl (e2 ▸ e)
       · rw [e2] at e
         have := Option.some.inj e
         exact .inr (by simp at this; omega))
     have HW6 : Hid (Wr (fun k => k = rb ∨ (Value.slice va2 n vc2).ownBlock = some k) w2 w6) := hid ((Wr.ofBelow (R := fun k => k = rb ∨ (Value.slice va2 n vc2).ownBlock = some k) ((Below.refl w2.heap.size w2).alloc (Nat.le_refl _) (.cells #[.string s, .int .i64 x] 154))).trans (Wr.ofGrown hgr6 (fun k e => .inr e)))
     clear hgr6 hnil6 hat6 hown6 h6b hrbw hownP
     subst hv6)))
  go_ret3
  have HRM := rm_push (ps := r) HO6.out HB6.out (fun g e => (HA6.out g e).elim (H2.out.far g) (fun e2 => by omega)) H2.out.lb hn
  have hsz : w.heap.size ≤ w2.heap.size := HW2.out.size
  have HW1 : Wr (fun k => k = rb ∨ (Value.slice (some ⟨g, 0, none⟩) (p :: r).length c).ownBlock = some k) w w2 := ((Wr.refl _ w).drewN 1).trans (HW2.out.mono (fun k e => .inl e))
  exact ⟨rfl, ⟨_, HRM, fun b e => (HA6.out b e).elim (fun e2 => .inr (HN2.out b e2)) (fun e2 => .inr (by omega))⟩, (HW1.on HW6.out (fun k e => e.elim (fun e => .inl (.inl e)) (fun e => .inr (HN2.out k e)))).trans (Wr.set ⟨rb, 1, none⟩ _ (.inl rfl))⟩

end Go.Proofs.YtbihelpnojjacaaGreat.RefM

/- The document's bounded map: Get, Peek, Drop and those that tell. -/
namespace Go.Proofs.YtbihelpnojjacaaGreat.RefN
open Go.ChangeShapes Go.WideShapes Go.ChangeAt Go.RowKit Base Wri Str LruA RefL RefM

variable {w0 w w' : World} {rb most : Nat} {v : Value} {ps : List (ByteArray × Int)}

set_option maxHeartbeats 1000000 in
theorem rget_no {s : ByteArray} (h : RM w0 w rb most v ps) (hp : placeI s ps = -1) (hl : ps.length ≤ 4096) :
    Calls Tryz.prog 50 #[ptr rb, .string s] w fun e w' => e = .returned (.tuple #[.int .i64 0, .bool false]) ∧ w = w' := by
  have HP := hid (place_any s h (by omega))
  rw [hp] at HP
  clear h hp
  unfold ptr at *
  go_enter Tryz.func50, Tryz.ntmps50
  go_wp2_with fail
  refine HP.out.mono ?_
  rintro e w1 ⟨rfl, rfl⟩
  go_wp2_with fail
  go_ret2
  exact ⟨rfl, rfl⟩

set_option maxHeartbeats 1000000 in
theorem rnew_yes (most : Nat) (w : World) (h1 : 1 ≤ most) (h2 : most ≤ 4096) :
    Calls Tryz.prog 30 #[.int .i64 most] w fun e w' => e = .returned (.tuple #[ptr w.heap.size, .int .i64 0]) ∧ w.alloc (.cells #[.int .i64 most, .slice none 0 0] 122) = w' := by
  unfold ptr at *
  go_enter Tryz.func30, Tryz.ntmps30
  go_wp2
  go_ret2
  exact ⟨rfl, rfl⟩

set_option maxHeartbeats 1000000 in
theorem rnew_no (most : Int) (w : World) (h : ¬ (1 ≤ most ∧ most ≤ 4096)) :
    Calls Tryz.prog 30 #[.int .i64 most] w fun e w' => e = .returned (.tuple #[.pointer none, .int .i64 2]) ∧ w = w' := by
  by_cases h1 : most < 1
  · clear h
    go_enter Tryz.func30, Tryz.ntmps30
    go_wp2
    go_ret2
    exact ⟨rfl, rfl⟩
  · have h2 : 4096 < most := by omega
    have h0 : 1 ≤ most := by omega
    clear h h1
    go_enter Tryz.func30, Tryz.ntmps30
    go_wp2
    go_ret2
    exact ⟨rfl, rfl⟩

end Go.Proofs.YtbihelpnojjacaaGreat.RefN

/- The document's bounded map: Get of a key that is there. -/
namespace Go.Proofs.YtbihelpnojjacaaGreat.RefO
open Go.ChangeShapes Go.WideShapes Go.ChangeAt Go.RowKit Base Wri Str LruA RefL RefM RefN

variable {w0 w w' : World} {rb most : Nat} {v : Value} {ps : List (ByteArray × Int)}

set_option maxRecDepth 20000 in
set_option maxHeartbeats 2000000 in
theorem rget_yes {i : Nat} {s : ByteArray} {p : ByteArray × Int} (h : RM w0 w rb most v ps) (hp : placeI s ps = i) (hi : ps[i]? = some p) (hl : ps.length ≤ 4096) (hb : w0.heap.size ≤ w.heap.size) :
    Calls Tryz.prog 50 #[ptr rb, .string s] w fun e w' => e = .returned (.tuple #[.int .i64 p.2, .bool true]) ∧ RPost w0 w rb most v (ps.eraseIdx i ++ [p]) w' := by
  obtain ⟨i0, hi0, hz0, hz1, hz2⟩ := info_parts infoP
  have HP := hid (place_any s h (by omega))
  rw [hp] at HP
  have hil : i < ps.length := (List.getElem?_eq_some_iff.1 hi).1
  obtain ⟨g, c, rfl, hc1, _, hg, hcc⟩ := h.at_ (by omega)
  have g0 : w.cell? ⟨g, i * 2, none⟩ = some (.string p.1) := hcc _ _ (cellsP_get hi).1
  have g1 : w.cell? ⟨g, i * 2 + 1, none⟩ = some (.int .i64 p.2) := hcc _ _ (cellsP_get hi).2
  have k1 := h.cells.2.1
  have hlt := h.lt
  have hb1 : Below w.heap.size w (w.alloc (.cells #[.string p.1, .int .i64 p.2] 154)) := (Below.refl _ _).alloc (Nat.le_refl _) _
  have HO := hid (out_any i (h.below hb1) hil hl (Nat.le_trans hb hb1.size))
  have H := hid h
  have hlen : (ps.eraseIdx i).length ≤ 4095 := by rw [List.length_eraseIdx, if_pos hil]; omega
  obtain ⟨n, hn⟩ : ∃ n, (ps.eraseIdx i).length = n := ⟨_, rfl⟩
  rw [hn] at hlen
  have HN := hid hn
  clear h hp hcc hi hb1 hn
  unfold ptr at *
  go_enter Tryz.func50, Tryz.ntmps50
  go_wp2_with fail
  refine HP.out.mono ?_
  rintro e w1 ⟨rfl, rfl⟩
  go_wp2_with fail
  refine HO.out.mono ?_
  rintro e w2 ⟨rfl, ⟨v2, h2, hn2⟩, hw2⟩
  obtain ⟨va2, vc2, rfl⟩ := owns_shape h2.row
  have H2 := hid h2
  have HN2 := hid hn2
  have HW2 := hid hw2
  have hb2 : w0.heap.size ≤ w2.heap.size := by have := hw2.size; simp at this; omega
  have k12 := h2.cells.2.1
  have hlt2 := h2.lt
  have hpb := (hw2.block w.heap.size (by simp) (show ¬ (w.heap.size = rb) by omega)).trans (heap_alloc_new w (.cells #[.string p.1, .int .i64 p.2] 154))
  have p0 : w2.cell? ⟨w.heap.size, 0, none⟩ = some (.string p.1) := by simp [World.cell?, hpb]
  have p1 : w2.cell? ⟨w.heap.size, 1, none⟩ = some (.int .i64 p.2) := by simp [World.cell?, hpb]
  have hps : w.heap.size < w2.heap.size := (Array.getElem?_eq_some_iff.1 hpb).1
  have hownP : (w2.alloc (.cells #[.string p.1, .int .i64 p.2] 154)).drew.ownsRow w0.heap.size 154 2 (.slice va2 n vc2) n (cellsP (ps.eraseIdx i)) := by have := h2.row; rw [HN.out] at this; exact World.ownsRow.alloc this _
  rw [HN.out] at k12 H2 HN2
  have HPB := hid hpb
  clear h2 hn2 hw2 HP HO k1 g0 g1 hpb
  go_wp2_with fail
  go_region_law
    ((refine step_append_lies _ (by rfl) _ _ 120 (by rfl) w0.heap.size 154 i0 (.agg #[.string ⟨#[]⟩, .int .i64 0]) 2 24 Tryz.underlying120 hi0 hz0 hz1 hz2 rfl (by decide) (.slice va2 n vc2) n (cellsP (ps.eraseIdx i)) (by rfl) hownP ⟨w2.heap.size, 0, none⟩ 1 1 [.string p.1, .int .i64 p.2] (by rfl) rfl (fun j u hu => by
       rw [Go.WideShapes.add_plain, Nat.zero_add]
       have hnn := heap_alloc_new w2 (.cells #[.string p.1, .int .i64 p.2] 154)
       show World.cell? (w2.alloc _) _ = _
       unfold World.cell?
       rw [hnn]
       simpa using hu) (by intro u hu; simp at hu; rcases hu with rfl | rfl <;> rfl) (by decide) (by unfold maxLen; omega) (by omega) (by show w0.heap.size ≤ (w2.alloc _).heap.size; simp; omega) (w2.heap.size + 1) (by show (w2.alloc _).heap.size = _; simp) ?_; intro g6 c6 w6 hown6 hgr6 hat6 hlt6
      have hk6 : ∀ b, b < w2.heap.size → (Value.slice va2 n vc2).ownBlock ≠ some b → w6.heap[b]? = w2.heap[b]? := fun b h1 h2 => (hgr6.block b (by show b < (w2.alloc _).heap.size; simp; omega) (fun e => h2 e.symm)).trans (Below.heap_alloc w2 _ b h1)
      have hb6 := hk6 rb hlt2 (fun e => H2.out.far rb e rfl)
      have hp6 := hk6 w.heap.size hps (fun e => by have := HN2.out _ e; simp at this; omega)
      have q0 : w6.cell? ⟨rb, 1, none⟩ = some (.slice va2 n vc2) := (World.cell?_of_block (a := ⟨rb, 1, none⟩) hb6).trans k12
      have qf : w6.frozen? ⟨rb, 1, none⟩ = false := (World.frozen?_of_block (a := ⟨rb, 1, none⟩) hb6).trans H2.out.cells.2.2
      have q1 : w6.cell? ⟨w.heap.size, 0, none⟩ = some (.string p.1) := (World.cell?_of_block (a := ⟨w.heap.size, 0, none⟩) hp6).trans p0
      have q2 : w6.cell? ⟨w.heap.size, 1, none⟩ = some (.int .i64 p.2) := (World.cell?_of_block (a := ⟨w.heap.size, 1, none⟩) hp6).trans p1
      have HR6 := hid hown6
      have HB6 := hid (hb6.trans H2.out.blk)
      have HG6 := hid hgr6
      have HA6 := hid hat6
      have hl6 : rb < w6.heap.size := by have := hgr6.size; have e : (w2.alloc (.cells #[.string p.1, .int .i64 p.2] 154)).heap.size ≤ w6.heap.size := this; simp at e; omega
      clear hown6 hgr6 hat6 hlt6 hk6 hb6 hp6 hownP))
  all_goals
    go_wp2_with fail
    go_ret2
    have far6 : ∀ b, (Value.slice (some ⟨g6, 0, none⟩) (n + 1) c6).ownBlock = some b → b ≠ rb := fun b e => by
      have e2 : g6 = b := Option.some.inj e
      subst e2
      rcases HA6.out with e3 | e3
      · exact H2.out.far _ e3
      · omega
    have HRM := rm_push (ps := ps.eraseIdx i) HR6.out HB6.out far6 H2.out.lb HN.out
    have hsz : w.heap.size + 1 ≤ w2.heap.size := by omega
    have hwa : Wr (fun k => k = rb ∨ (Value.slice (some ⟨g, 0, none⟩) ps.length c).ownBlock = some k) w w2 := (Wr.ofBelow (((Below.refl w.heap.size w).alloc (Nat.le_refl _) (.cells #[.string p.1, .int .i64 p.2] 154)))).trans (HW2.out.mono (fun k e => .inl e))
    have hwb : Wr (fun k => (Value.slice va2 n vc2).ownBlock = some k) w2 w6 := (Wr.ofBelow ((((Below.refl w2.heap.size w2).alloc (Nat.le_refl _) (.cells #[.string p.1, .int .i64 p.2] 154))).drew)).trans (Wr.ofGrown HG6.out (fun k e => e))
    have hfr : ∀ b, (Value.slice va2 n vc2).ownBlock = some b → w.heap.size ≤ b := fun b e => by have := HN2.out b e; simp at this; omega
    refine ⟨rfl, ⟨_, HRM, fun b e => ?_⟩, (hwa.on hwb (fun k e => .inr (hfr k e))).trans (Wr.set ⟨rb, 1, none⟩ _ (.inl rfl))⟩
    have e2 : g6 = b := Option.some.inj e
    subst e2
    rcases HA6.out with e3 | e3
    · exact .inr (hfr _ e3)
    · exact .inr (by omega)

end Go.Proofs.YtbihelpnojjacaaGreat.RefO

/- The document's bounded map: Drop and Keys. -/
namespace Go.Proofs.YtbihelpnojjacaaGreat.RefP
open Go.ChangeShapes Go.WideShapes Go.ChangeAt Go.RowKit Base Wri Str LruA RefL RefM RefN RefO
open LruE (Strs)

variable {w0 w w' : World} {rb most : Nat} {v : Value} {ps : List (ByteArray × Int)}

/-- without the first of a key -/
def outP (s : ByteArray) (ps : List (ByteArray × Int)) : List (ByteArray × Int) := match placeF s ps with | some i => ps.eraseIdx i | none => ps
def outsP (f : Nat → ByteArray) : Nat → List (ByteArray × Int) → List (ByteArray × Int)
  | 0, ps => ps
  | n + 1, ps => outP (f n) (outsP f n ps)

theorem outP_len (s : ByteArray) (ps : List (ByteArray × Int)) : (outP s ps).length ≤ ps.length := by
  unfold outP
  split
  · rw [List.length_eraseIdx]; split <;> omega
  · exact Nat.le_refl _
theorem outsP_len (f : Nat → ByteArray) (n : Nat) (ps : List (ByteArray × Int)) : (outsP f n ps).length ≤ ps.length := by
  induction n with
  | zero => exact Nat.le_refl _
  | succ n ih => exact Nat.le_trans (outP_len _ _) ih

theorem infoStr : (Tryz.prog.info? 9).map (fun i => (i.zero, i.size, i.bytes)) = some (some (.string ⟨#[]⟩), 1, 16) := by kernel_rfl

/-- a list of texts that a call owns -/
def OwnS (B : Nat) (w : World) (v : Value) (ss : List ByteArray) : Prop := w.ownsRow B 9 1 v ss.length (ss.map Value.string)

set_option maxRecDepth 20000 in
set_option maxHeartbeats 1000000 in
theorem rkeys_any (h : RM w0 w rb most v ps) (hl : ps.length ≤ 4096) :
    Calls Tryz.prog 40 #[ptr rb] w fun e w' => (∃ x, e = .returned x ∧ OwnS w.heap.size w' x (ps.map (·.1))) ∧ Below w.heap.size w w' := by
  obtain ⟨i0, hi, hz0, hz1, hz2⟩ := info_parts infoStr
  have H := hid h
  have hlt := h.lt
  obtain ⟨va, vc, rfl⟩ := owns_shape h.row
  obtain ⟨n, hn⟩ : ∃ n, ps.length = n := ⟨_, rfl⟩
  rw [hn] at hl H
  have HN := hid hn
  clear h hn
  unfold ptr
  go_enter Tryz.func40, Tryz.ntmps40
  go_wp2_with fail
  go_loopw [3, 4] (fun l i wr => ∃ (k : Nat) (x : Value), x = l ∧ k ≤ n ∧ i = .int .i64 k ∧ OwnS w.heap.size wr x ((ps.take k).map (·.1)) ∧ Below w.heap.size w wr) (fun _ i _ => n - (intOf i).toNat)
  case atStart => exact ⟨0, _, rfl, Nat.zero_le _, rfl, ⟨rfl, .inl ⟨rfl, by simp⟩⟩, Below.refl _ _⟩
  case round =>
    obtain ⟨k, x, rfl, hk, rfl, hO, hB⟩ := hrel
    have HO := hid hO
    have HB := hid hB
    have hszw := hB.size
    have hR := H.out.below hB
    have k1 := hR.cells.2.1
    have hltr := hR.lt
    have HR := hid hR
    clear hO hB hR
    by_cases hlt2 : k < n
    · obtain ⟨g, c, hv, _, _, hg, hcc⟩ := HR.out.at_ (by rw [HN.out]; omega)
      obtain ⟨p, hp⟩ : ∃ p, ps[k]? = some p := ⟨ps[k]'(by rw [HN.out]; exact hlt2), List.getElem?_eq_getElem _⟩
      have c0 : wr.cell? ⟨g, k * 2, none⟩ = some (.string p.1) := hcc _ _ (cellsP_get hp).1
      injection hv with e1 e2 e3
      subst e1
      have HT : Hid ((ps.take (k + 1)).map (·.1) = (ps.take k).map (·.1) ++ [p.1]) := hid (by rw [List.take_add_one, hp, List.map_append]; rfl)
      have hlk : ((ps.take k).map (·.1)).length = k := by rw [List.length_map, List.length_take]; have := HN.out; omega
      have hown1 : (wr.alloc (.cells #[.string p.1] 9)).ownsRow w.heap.size 9 1 x k (((ps.take k).map (·.1)).map Value.string) := by
        have := HO.out
        unfold OwnS at this
        rw [hlk] at this
        exact World.ownsRow.alloc this _
      clear hcc e2 e3 hp hlk
      go_wp2_with (at_builtin; (first
        | (refine wpList_append_own_at _ rfl _ _ 43 rfl w.heap.size 9 i0 (.string ⟨#[]⟩) 1 16 Tryz.underlying43 hi hz0 hz1 hz2 rfl (by decide) x k _ rfl hown1 ⟨wr.heap.size, 0, none⟩ 1 1 [.string p.1] rfl (by rfl) (cell_one_new _ _ _) (by intro u hu; obtain rfl := List.mem_singleton.1 hu; rfl) (by unfold maxLen; omega) (by omega) (by simp; omega) ?_; intro v5 w5 hown5 hgr5 hnil5 hat5
           have HO5 : Hid (OwnS w.heap.size w5 v5 ((ps.take (k + 1)).map (·.1))) := hid (by
             rw [HT.out]
             unfold OwnS
             rw [List.length_append, List.map_append, show ((ps.take k).map (·.1)).length = k by rw [List.length_map, List.length_take]; have := HN.out; omega]
             exact hown5)
           have HB5 : Hid (Below w.heap.size w w5) := hid ((HB.out.alloc hszw _).grown hgr5 (by simp; omega) (fun b e => (hown1.lt b e).1))
           clear hown5 hgr5 hnil5 hat5 hown1)))
      go_roundw
      case rel => exact ⟨k + 1, v5, rfl, by omega, by go_num, HO5.out, HB5.out⟩
      case measure => simp [intOf]; omega
    · obtain rfl : k = n := by omega
      go_wp2_with fail
      go_ret
      exact ⟨⟨_, rfl, by have := HO.out; rw [List.take_of_length_le (by rw [HN.out]; exact Nat.le_refl _)] at this; exact this⟩, HB.out⟩

end Go.Proofs.YtbihelpnojjacaaGreat.RefP

/- The program's bounded map beside the document's: both hold the same. -/
namespace Go.Proofs.YtbihelpnojjacaaGreat.LruR
open Go.ChangeShapes Go.WideShapes Go.ChangeAt Go.RowKit Base Wri Map LruA LruB LruC LruD LruE LruF RefL RefM RefN RefO RefP

def kv (x : Ent) : ByteArray × Int := (x.k, x.v)
def kvs (L : List Ent) : List (ByteArray × Int) := L.map kv

variable {S : Spot} {L L' A B : List Ent} {x y : Ent} {s : ByteArray} {w0 w w' : World} {rb : Nat} {v : Value}

theorem kvs_app (A B : List Ent) : kvs (A ++ B) = kvs A ++ kvs B := List.map_append
theorem kvs_len (L : List Ent) : (kvs L).length = L.length := List.length_map _

theorem place_no (h : ∀ x ∈ L, x.k ≠ s) : placeF s (kvs L) = none :=
  placeF_none.2 fun p hp => by
    obtain ⟨x, hx, rfl⟩ := List.mem_map.1 hp
    exact h x hx
theorem placeI_no (h : ∀ x ∈ L, x.k ≠ s) : placeI s (kvs L) = -1 := by unfold placeI; rw [place_no h]

theorem nodup_ahead (h : ((A ++ x :: B).map Ent.k).Nodup) : ∀ y ∈ A, y.k ≠ x.k := fun y hy e => by
  rw [List.map_append, List.map_cons] at h
  exact (List.nodup_append.1 h).2.2 y.k (List.mem_map.2 ⟨y, hy, rfl⟩) x.k List.mem_cons_self e

theorem place_at (h : ((A ++ x :: B).map Ent.k).Nodup) : placeF x.k (kvs (A ++ x :: B)) = some A.length := by
  rw [kvs_app, placeF_app (fun p hp => by
    obtain ⟨y, hy, rfl⟩ := List.mem_map.1 hp
    exact nodup_ahead h y hy)]
  have : placeF x.k (kvs (x :: B)) = some 0 := by
    show (if x.k = x.k then some 0 else _) = _
    rw [if_pos rfl]
  rw [this, Option.map_some, kvs_len, Nat.zero_add]
theorem placeI_at (h : ((A ++ x :: B).map Ent.k).Nodup) : placeI x.k (kvs (A ++ x :: B)) = (A.length : Int) := by unfold placeI; rw [place_at h]

theorem kvs_get (A B : List Ent) (x : Ent) : (kvs (A ++ x :: B))[A.length]? = some (x.k, x.v) := by
  rw [kvs_app, ← kvs_len A, List.getElem?_append_right (Nat.le_refl _), Nat.sub_self]; rfl
theorem kvs_erase (A B : List Ent) (x : Ent) : (kvs (A ++ x :: B)).eraseIdx A.length = kvs (A ++ B) := by
  rw [kvs_app, ← kvs_len A, List.eraseIdx_append_of_length_le (Nat.le_refl _), Nat.sub_self, kvs_app]; rfl

theorem outP_no (h : ∀ x ∈ L, x.k ≠ s) : outP s (kvs L) = kvs L := by unfold outP; rw [place_no h]
theorem outP_at (h : ((A ++ x :: B).map Ent.k).Nodup) : outP x.k (kvs (A ++ x :: B)) = kvs (A ++ B) := by
  unfold outP; rw [place_at h]; exact kvs_erase A B x
theorem outP_out (h : (L.map Ent.k).Nodup) (s : ByteArray) : outP s (kvs L) = kvs (out s L) := by
  by_cases hin : ∃ x ∈ L, x.k = s
  · obtain ⟨x, hx, rfl⟩ := hin
    obtain ⟨A, B, rfl⟩ := List.append_of_mem hx
    rw [outP_at h, out_mid h]
  · have hn : ∀ x ∈ L, x.k ≠ s := fun x hx e => hin ⟨x, hx, e⟩
    rw [outP_no hn, out_none hn]
theorem nodup_outs (h : (L.map Ent.k).Nodup) (f : Nat → ByteArray) (n : Nat) : ((outs f n L).map Ent.k).Nodup := by
  induction n with
  | zero => exact h
  | succ n ih => exact List.Nodup.sublist ((List.filter_sublist).map _) ih
theorem outsP_outs (h : (L.map Ent.k).Nodup) (f : Nat → ByteArray) (n : Nat) : outsP f n (kvs L) = kvs (outs f n L) := by
  induction n with
  | zero => rfl
  | succ n ih =>
    show outP (f n) (outsP f n (kvs L)) = kvs (out (f n) (outs f n L))
    rw [ih, outP_out (nodup_outs h f n)]

/-- where the two lie -/
def Ft (S : Spot) (L : List Ent) (rb : Nat) (v : Value) (k : Nat) : Prop := Has S L k ∨ k = rb ∨ v.ownBlock = some k

/-- the program's map and the document's, the same in both -/
structure Two (w0 w : World) (S : Spot) (L : List Ent) (rb : Nat) (v : Value) : Prop where
  lru : IsLru w S L
  ref : RM w0 w rb S.most v (kvs L)
  ab : ∀ k, Has S L k → w0.heap.size ≤ k
  ap : ∀ k, Has S L k → k ≠ rb ∧ v.ownBlock ≠ some k

theorem Two.lt (h : Two w0 w S L rb v) {k : Nat} (hk : Ft S L rb v k) : k < w.heap.size := by
  rcases hk with hk | rfl | hk
  · exact h.lru.rest.lt k hk
  · exact h.ref.lt
  · exact (h.ref.row.lt k hk).2
theorem Two.up (h : Two w0 w S L rb v) {k : Nat} (hk : Ft S L rb v k) : w0.heap.size ≤ k := by
  rcases hk with hk | rfl | hk
  · exact h.ab k hk
  · exact h.ref.lb
  · exact (h.ref.row.lt k hk).1
theorem Two.keep (h : Two w0 w S L rb v) (hk : ∀ k, Ft S L rb v k → w'.heap[k]? = w.heap[k]?) : Two w0 w' S L rb v :=
  ⟨h.lru.keep fun k e => hk k (.inl e), h.ref.keep fun k e => hk k (.inr e), h.ab, h.ap⟩
theorem Two.below (h : Two w0 w S L rb v) (hb : Below w.heap.size w w') : Two w0 w' S L rb v := h.keep fun k e => hb.block k (h.lt e)
theorem Two.wr {Q : Nat → Prop} (h : Two w0 w S L rb v) (hw : Wr Q w w') (hq : ∀ k, Ft S L rb v k → ¬ Q k) : Two w0 w' S L rb v := h.keep fun k e => hw.block k (h.lt e) (hq k e)
theorem Two.len (h : Two w0 w S L rb v) : L.length ≤ 4096 := Nat.le_trans h.lru.len h.lru.rest.m2

/-- what a step on both leaves -/
def Then (w0 w : World) (S : Spot) (L : List Ent) (rb : Nat) (v : Value) (w' : World) : Prop :=
  ∃ L' v', Two w0 w' S L' rb v' ∧ Wr (Ft S L rb v) w w' ∧ ∀ k, Ft S L' rb v' k → Ft S L rb v k ∨ w.heap.size ≤ k

theorem Then.same (h : Two w0 w S L rb v) (hw : Wr (Ft S L rb v) w w') (hk : w'.heap = w.heap) : Then w0 w S L rb v w' := ⟨L, v, h.keep fun k _ => by rw [hk], hw, fun _ h => .inl h⟩

/-- one step of the program's, then one of the document's -/
theorem Two.step {L' : List Ent} {w1 w2 : World} (h : Two w0 w S L rb v) (h1 : IsLru w1 S L') (hw1 : Wr (Has S L) w w1) (hf : ∀ k, Has S L' k → Has S L k ∨ w.heap.size ≤ k)
    (h2 : RPost w0 w1 rb S.most v (kvs L') w2) : Then w0 w S L rb v w2 := by
  obtain ⟨⟨v', hr, hv⟩, hw2⟩ := h2
  have hlt := h.ref.lt
  have hfar : ∀ k, Has S L' k → k ≠ rb ∧ v.ownBlock ≠ some k := fun k hk => by
    rcases hf k hk with e | e
    · exact h.ap k e
    · exact ⟨fun e2 => by omega, fun e2 => by have := (h.ref.row.lt k e2).2; omega⟩
  refine ⟨L', v', ⟨h1.wr hw2 (fun k hk e => ?_), hr, fun k hk => ?_, fun k hk => ⟨(hfar k hk).1, fun e => ?_⟩⟩, ?_, fun k hk => ?_⟩
  · exact e.elim (hfar k hk).1 (hfar k hk).2
  · rcases hf k hk with e | e
    · exact h.ab k e
    · have := h.ref.lb; omega
  · rcases hv k e with e2 | e2
    · exact (hfar k hk).2 e2
    · have := h1.rest.lt k hk; omega
  · exact (hw1.mono (fun k e => .inl e)).trans (hw2.mono (fun k e => .inr e))
  · rcases hk with hk | hk | hk
    · exact (hf k hk).elim (fun e => .inl (.inl e)) .inr
    · exact .inl (.inr (.inl hk))
    · exact (hv k hk).elim (fun e => .inl (.inr (.inr e))) (fun e => .inr (Nat.le_trans hw1.size e))

/-- the document's map is there still behind the program's step -/
theorem Two.other {w1 : World} (h : Two w0 w S L rb v) (hw1 : Wr (Has S L) w w1) : RM w0 w1 rb S.most v (kvs L) :=
  h.ref.keep fun k hk => by
    refine hw1.block k (h.lt (.inr hk)) (fun e => ?_)
    exact hk.elim (h.ap k e).1 (h.ap k e).2

end Go.Proofs.YtbihelpnojjacaaGreat.LruR

/- A bounded map's Fork. -/
namespace Go.Proofs.YtbihelpnojjacaaGreat.LruT
open Go.ChangeShapes Go.WideShapes Go.ChangeAt Go.RowKit Base Wri Map LruA LruB LruC LruD LruE LruF LruP LruQ LruS
open LruR (kv kvs)
open Go.Shelf
attribute [local go_sem] Oper.semAt_some
variable {S S2 : Spot} {L L2 : List Ent} {w W W' : World}

theorem cells_of {w : World} {b i : Nat} (h : ∃ u, w.cell? ⟨b, i, none⟩ = some u) {o : Obj} (ho : w.heap[b]? = some o) : o.isCells = true := by
  obtain ⟨u, hu⟩ := h
  obtain ⟨c, t, z, hc⟩ := heap_of_cell hu
  rw [hc] at ho
  cases ho
  rfl

/-- what the map has are cells, but for its places -/
theorem has_cells (h : LW W S2 L2) {k : Nat} (hk : Has S2 L2 k) (hp : k ≠ S2.pb) {o : Obj} (ho : W.heap[k]? = some o) : o.isCells = true := by
  rcases hk with rfl | rfl | rfl | ⟨x, hx, rfl⟩
  · rw [h.map] at ho; cases ho; rfl
  · exact cells_of h.knot.c2 ho
  · exact absurd rfl hp
  · exact cells_of (h.ents x hx).1.c2 ho

/-- the fork, when so many have come -/
structure FI (w : World) (S2 : Spot) (B0 kn : Nat) (q : List Ent) (W : World) (L2 : List Ent) : Prop where
  kvs : kvs L2 = kvs q
  lw : LW W S2 L2
  ring : Ring W S2.kn (L2.map Ent.b)
  up : ∀ k, Has S2 L2 k → w.heap.size ≤ k ∧ k ≠ B0 ∧ k ≠ B0 + 1
  box : Boxed W B0 59 (.pointer (some ⟨S2.mb, 0, none⟩))
  bx1 : Boxed W (B0 + 1) 145 (.pointer (some ⟨kn, 0, none⟩))
  bel : Below w.heap.size w W

theorem FI.row {B0 kn : Nat} {q : List Ent} (h : FI w S2 B0 kn q W L2) {row : Option Nat} (hg : W.grownBy W' row) (hr : ∀ r, row = some r → (S2.pb < r ∧ w.heap.size ≤ r) ∧ ∃ o, W.heap[r]? = some o ∧ o.isCells = false) : FI w S2 B0 kn q W' L2 := by
  have hne : ∀ k, Has S2 L2 k → some k ≠ row := fun k hk e => by
    obtain ⟨⟨h1, _⟩, o, ho, hc⟩ := hr k e.symm
    rw [has_cells h.lw hk (by omega) ho] at hc
    cases hc
  have hnb : ∀ {B : Nat} {t : TypeId} {v : Value}, Boxed W B t v → some B ≠ row := fun {B t v} hb e => by
    obtain ⟨_, o, ho, hc⟩ := hr B e.symm
    rw [show W.heap[B]? = _ from hb] at ho; cases ho; cases hc
  have hk : ∀ k, Has S2 L2 k → W'.heap[k]? = W.heap[k]? := fun k hk => hg.block k (h.lw.lt k hk) (hne k hk)
  refine ⟨h.kvs, h.lw.keep hk, Ring.keep h.ring (fun x hx => hk x ?_), h.up, h.box.kept hg (hnb h.box), h.bx1.kept hg (hnb h.bx1), h.bel.grown hg h.bel.size (fun j e => (hr j e).1.2)⟩
  rcases List.mem_cons.1 hx with rfl | hx
  · exact .inr (.inl rfl)
  · obtain ⟨y, hy, rfl⟩ := List.mem_map.1 hx
    exact .inr (.inr (.inr ⟨y, hy, rfl⟩))

theorem FI.lru {B0 kn : Nat} {q : List Ent} (h : FI w S2 B0 kn q W L2) (hq : (q.map Ent.k).Nodup) (hl : q.length ≤ S2.most) : IsLru W S2 L2 := by
  have e : L2.map Ent.k = q.map Ent.k := by
    have := congrArg (List.map Prod.fst) h.kvs
    simpa [LruR.kvs, LruR.kv, Function.comp_def] using this
  have el : L2.length = q.length := by have := congrArg List.length e; simpa using this
  exact ⟨h.lw.rest (by rw [e]; exact hq), h.ring, by omega⟩

theorem FI.step {B0 kn : Nat} {q : List Ent} {w3 : World} (h : FI w S2 B0 kn q W L2) (x : Ent) (hw : Wr (Has S2 L2) W.drew w3) (h3 : LW w3 S2 (L2 ++ [⟨W.drew.heap.size + 1, x.k, x.v⟩])) (hr3 : Ring w3 S2.kn ((L2 ++ [(⟨W.drew.heap.size + 1, x.k, x.v⟩ : Ent)]).map Ent.b)) :
    FI w S2 B0 kn (q ++ [x]) w3 (L2 ++ [⟨W.drew.heap.size + 1, x.k, x.v⟩]) := by
  have l0 : B0 < W.heap.size := h.box.lt
  have l1 : B0 + 1 < W.heap.size := h.bx1.lt
  have lz : W.drew.heap.size = W.heap.size := rfl
  have lb := h.bel.size
  refine ⟨by rw [LruR.kvs_app, LruR.kvs_app, h.kvs]; rfl, h3, hr3, fun k hk => ?_, (hw.block B0 l0 (fun e => (h.up _ e).2.1 rfl)).trans h.box, (hw.block (B0 + 1) l1 (fun e => (h.up _ e).2.2 rfl)).trans h.bx1, (h.bel.drew).trans (hw.below w.heap.size lb (fun k e => (h.up k e).1))⟩
  rcases hk with e | e | e | ⟨y, hy, e⟩
  · exact h.up k (.inl e)
  · exact h.up k (.inr (.inl e))
  · exact h.up k (.inr (.inr (.inl e)))
  · rcases List.mem_append.1 hy with hy | hy
    · exact h.up k (.inr (.inr (.inr ⟨y, hy, e⟩)))
    · rw [List.mem_singleton.1 hy] at e
      subst e
      show _ ≤ W.drew.heap.size + 1 ∧ W.drew.heap.size + 1 ≠ _ ∧ W.drew.heap.size + 1 ≠ _
      omega

theorem FI.keeps {B0 kn B : Nat} {q : List Ent} {w3 : World} (h : FI w S2 B0 kn q W L2) (hB : S2.pb < B) (hw : Wr (Has S2 L2) W.drew w3) : KeepsFrom B W w3 :=
  ⟨hw.size, fun k o hk ho hc => (hw.block k (Array.getElem?_eq_some_iff.1 ho).1 (fun e => by
    have := has_cells h.lw e (by omega) ho
    rw [hc] at this
    cases this)).trans ho⟩

set_option maxRecDepth 100000 in
set_option maxHeartbeats 1000000 in
theorem fork_any (h : IsLru w S L) :
    Calls Tryz.prog 60 #[ptr S.mb] w fun e w' => (∃ S2 L2, e = .returned (ptr S2.mb) ∧ S2.most = S.most ∧ IsLru w' S2 L2 ∧ kvs L2 = kvs L ∧ ∀ k, Has S2 L2 k → w.heap.size ≤ k) ∧ Below w.heap.size w w' := by
  refine callsIn_wide.1 (callsIn_of_wp_marks (n := 10) Tryz.func60 rfl trivial ?_ rfl)
  simp only [Tryz.ntmps60, List.size_toArray, List.length_cons, List.length_nil, Nat.reduceAdd, Nat.reduceSub, Array.replicate_succ, Array.replicate_zero, List.push_toArray, List.append_toArray, List.nil_append, List.cons_append]
  have c0 : w.cell? ⟨S.mb, 0, none⟩ = some (ptr S.kn) := (LRest.mcell h.rest).1
  have c1 := (LRest.mcell h.rest).2.1
  have hmb : S.mb < w.heap.size := h.rest.lt _ (.inl rfl)
  have HE := hid (empty_any S.most w h.rest.m1 h.rest.m2)
  have H := hid h
  clear h
  unfold ptr at *
  gi_wp2
  refine ⟨trivial, ?_⟩
  refine (callsIn_wide.2 HE.out).mono ?_
  rintro e w1 ⟨S2, rfl, hm2, hL2, hb1, hup⟩
  have c01 := (hb1.cell (p := ⟨S.mb, 0, none⟩) hmb).trans c0
  have hs1 := hb1.size
  have hmb1 : S.mb < w1.heap.size := Nat.lt_of_lt_of_le hmb hs1
  have HL2 := hid hL2
  have HB1 := hid hb1
  have HUP := hid hup
  have HM2 := hid hm2
  have HA := hid (all_any S.kn (w1.alloc (.cells #[.pointer (some ⟨S2.mb, 0, none⟩)] 59)))
  clear HE hL2 hb1 hup hm2 c0 c1
  unfold ptr at *
  gi_wp2
  refine ⟨trivial, ?_⟩
  refine (callsIn_wide.2 HA.out).mono ?_
  rintro e w2 ⟨rfl, rfl⟩
  clear HA
  gi_wp2
  have bO : Boxed ((w1.alloc (.cells #[.pointer (some ⟨S2.mb, 0, none⟩)] 59)).alloc (.cells #[.pointer (some ⟨S.kn, 0, none⟩)] 145)) w1.heap.size 59 (.pointer (some ⟨S2.mb, 0, none⟩)) := (Boxed.new w1 59 _).alloc _
  have bN := Boxed.new (w1.alloc (.cells #[.pointer (some ⟨S2.mb, 0, none⟩)] 59)) 145 (.pointer (some ⟨S.kn, 0, none⟩))
  rw [World.size_alloc] at bN
  have hB0 : Below w1.heap.size w1 ((w1.alloc (.cells #[.pointer (some ⟨S2.mb, 0, none⟩)] 59)).alloc (.cells #[.pointer (some ⟨S.kn, 0, none⟩)] 145)) := ((Below.refl _ w1).alloc (Nat.le_refl _) _).alloc (by simp) _
  have hsz2 : ((w1.alloc (.cells #[.pointer (some ⟨S2.mb, 0, none⟩)] 59)).alloc (.cells #[.pointer (some ⟨S.kn, 0, none⟩)] 145)).heap.size = w1.heap.size + 2 := by simp
  obtain ⟨w2, hw2⟩ : ∃ w2, (w1.alloc (.cells #[.pointer (some ⟨S2.mb, 0, none⟩)] 59)).alloc (.cells #[.pointer (some ⟨S.kn, 0, none⟩)] 145) = w2 := ⟨_, rfl⟩
  rw [hw2] at bO bN hB0 hsz2 ⊢
  have hll : L.length ≤ S2.most := HM2.out ▸ H.out.len
  have hlt' : ∀ k, Has S L k → k < w.heap.size := fun k hk => H.out.rest.lt k hk
  have hb02 : Below w.heap.size w w2 := HB1.out.trans (hB0.mono hs1)
  have hlt2 : ∀ k, Has S2 [] k → k < w1.heap.size := fun k hk => HL2.out.rest.lt k hk
  have hpb2 : S2.pb < w1.heap.size := hlt2 _ (.inr (.inr (.inl rfl)))
  have h0 : FI w S2 w1.heap.size S.kn [] w2 [] := ⟨rfl, LW.of (HL2.out.below hB0).rest, (HL2.out.below hB0).ring, fun k hk => ⟨HUP.out k hk, by have := hlt2 k hk; omega, by have := hlt2 k hk; omega⟩, bO, bN, hb02⟩
  refine wpIn_rangeFunc_ownG rfl (by omega) (gf := 94) (lb := #[.pointer (some ⟨w1.heap.size + 1, 0, none⟩)]) rfl trivial (enters_of Tryz.func94 (by kernel_rfl) rfl)
    (all_stops (n := 9) (by omega) (w1.heap.size + 1) w.heap.size w2 (by omega) (H.out.below hb02) hlt' bN.cell) Kp.trans (kp_b (by omega) (by omega)) (Below.refl _ _) (fun _ => rfl)
    (fun pre W => ∃ L2, FI w S2 w1.heap.size S.kn (out pre) W L2)
    (fun _ _ _ => False)
    (fun s A B row hs hg hr => by
      obtain ⟨L2, hf⟩ := hs
      exact ⟨L2, hf.row hg (fun r e => ⟨by have := (hr r e).1; omega, (hr r e).2⟩)⟩)
    (fun _ _ _ _ _ hs _ _ => hs)
    ⟨[], h0⟩
    (fun x => { tmps := #[.pointer (some ⟨S.mb, 0, none⟩), undef, .pointer none, .pointer (some ⟨w1.heap.size, 0, none⟩), .pointer (some ⟨x.1.b, 0, none⟩), .pointer (some ⟨S.mb, 0, none⟩), .bool false, .pointer (some ⟨S.mb, 0, none⟩), .pointer (some ⟨S.mb, 0, none⟩), .pointer (some ⟨S.mb, 1, none⟩), .int .i64 S.most, .pointer (some ⟨S2.mb, 0, none⟩), .pointer (some ⟨S.mb, 0, none⟩), .pointer (some ⟨S.mb, 0, none⟩), .pointer (some ⟨S.mb, 0, none⟩), .agg #[.pointer (some ⟨S.kn, 0, none⟩)], .func (Fn.func 94) #[] #[.pointer (some ⟨w1.heap.size + 1, 0, none⟩)], .pointer (some ⟨x.1.b, 0, none⟩), undef, undef, undef, undef, undef, undef, undef], defers := [] }) ?assign ?body ?done ?stop
  case assign =>
    intro l x W K hK
    unfold bi be ptr
    gi_wp2
    exact hK
  case body =>
    rintro l pre x W ⟨L2, hf⟩ hlt
    obtain ⟨hb1, hk, hv, hsk⟩ := H.out.rest.ents x.1 x.2
    have hxl : x.1.b < w.heap.size := hb1.lt
    have ck : W.cell? ⟨x.1.b, 0, none⟩ = some (.string x.1.k) := (hf.bel.cell (p := ⟨x.1.b, 0, none⟩) hxl).trans hk
    have cv : W.cell? ⟨x.1.b, 1, none⟩ = some (.int .i64 x.1.v) := (hf.bel.cell (p := ⟨x.1.b, 1, none⟩) hxl).trans hv
    have cb : W.cell? ⟨w1.heap.size, 0, none⟩ = some (.pointer (some ⟨S2.mb, 0, none⟩)) := hf.box.cell
    have HF := hid hf
    have HW := hid (wadd_any (w := W.drew) (S := S2) (L := L2) (hf.lw.keep fun _ _ => rfl) (Ring.keep hf.ring fun _ _ => rfl) hsk x.1.v)
    clear hf hb1 hk hv hsk
    unfold ptr at *
    gi_wp2
    gi_region_with (refine ⟨trivial, ?_⟩; gi_at_call 92; refine (CallsIn.inRound l (callsIn_wide.2 HW.out)).mono ?_; rintro e w3 ⟨rfl, ⟨h3, hr3⟩, hw3⟩; clear HW)
    all_goals
      have HX := hid (HF.out.step x.1 hw3 h3 hr3)
      have HKF : Hid (KeepsFrom w2.heap.size W w3) := hid (HF.out.keeps (by omega) hw3)
      have hszW := HF.out.bel.size
      have HKp : Hid (Kp w.heap.size (w1.heap.size + 1) W w3) := hid ⟨((Below.refl w.heap.size W).drew).trans (hw3.below w.heap.size hszW (fun k e => (HF.out.up k e).1)), hw3.block (w1.heap.size + 1) HF.out.bx1.lt (fun e => (HF.out.up _ e).2.2 rfl)⟩
      clear hw3 h3 hr3
      gi_wp2
      exact ⟨HKF.out, HKp.out, _, by rw [out_snoc]; exact HX.out⟩
  case done =>
    rintro D ys W hD hys ⟨L2, hf⟩ hK
    have cb : W.cell? ⟨w1.heap.size, 0, none⟩ = some (.pointer (some ⟨S2.mb, 0, none⟩)) := hf.box.cell
    have HF := hid hf
    rw [hys] at HF
    clear hf
    gi_wp2
    have HF2 := HF.out.row (grownBy_putObj' W D (.deferred none)) (fun r e => by cases e; exact ⟨⟨by omega, by omega⟩, _, hK, rfl⟩)
    refine ⟨by simp, .inl ⟨_, _, rfl, run_takeDeferred hK, ?_⟩⟩
    exact ⟨_, results_tmp rfl _ _ _, ⟨S2, L2, rfl, HM2.out, HF2.lru H.out.rest.keys hll, HF2.kvs, fun k hk => (HF2.up k hk).1⟩, HF2.bel⟩
  case stop =>
    rintro D c pre W _ _ h _
    exact h.elim

theorem fork_nil (w : World) : Calls Tryz.prog 60 #[.pointer none] w fun e w' => e = .returned (.pointer none) ∧ w = w' := by
  go_enter Tryz.func60, Tryz.ntmps60
  go_wp2
  go_ret
  exact ⟨rfl, rfl⟩

end Go.Proofs.YtbihelpnojjacaaGreat.LruT

/- The document's bounded map: Fork; and where there is none. -/
namespace Go.Proofs.YtbihelpnojjacaaGreat.RefQ
open Go.ChangeShapes Go.WideShapes Go.ChangeAt Go.RowKit Base Wri Str LruA RefL RefM RefN RefO RefP
open LruQ (app builtin_app)

variable {w0 w w' : World} {rb most : Nat} {v : Value} {ps : List (ByteArray × Int)}

set_option maxRecDepth 20000 in
set_option maxHeartbeats 1000000 in
theorem rfork_none (c0 : w.cell? ⟨rb, 0, none⟩ = some (.int .i64 most)) (c1 : w.cell? ⟨rb, 1, none⟩ = some (.slice none 0 0)) (hlt : rb < w.heap.size) :
    Calls Tryz.prog 34 #[ptr rb] w fun e w' => e = .returned (ptr w.heap.size) ∧ (w.alloc (.cells #[.int .i64 most, .slice none 0 0] 122)).drew = w' := by
  unfold ptr
  go_enter Tryz.func34, Tryz.ntmps34
  go_wp2
  go_region
  all_goals
    go_wp2
    go_ret
    exact ⟨rfl, rfl⟩

theorem owns_base {w : World} {B B' n size : Nat} {e : TypeId} {v : Value} {xs : List Value} (h : w.ownsRow B e size v n xs) (hb : B' ≤ B) : w.ownsRow B' e size v n xs := by
  refine ⟨h.1, ?_⟩
  rcases h.2 with hn | ⟨g, cap, cur, rfl, hg, rest⟩
  · exact .inl hn
  · exact .inr ⟨g, cap, cur, rfl, Nat.le_trans hb hg, rest⟩

attribute [local go_sem ↓ high] builtin_app

set_option maxRecDepth 20000 in
set_option maxHeartbeats 1000000 in
theorem rfork_some (va va6 : Option Addr) (n vc vc6 : Nat) (w6 : World) (c0 : w.cell? ⟨rb, 0, none⟩ = some (.int .i64 most)) (c1 : w.cell? ⟨rb, 1, none⟩ = some (.slice va n vc)) (hlt : rb < w.heap.size)
    (hrun : (app #[120, 120] 120 #[.slice none 0 0, .slice va n vc]).run Tryz.prog (w.alloc (.cells #[.int .i64 most, .slice none 0 0] 122)).drew = .ok (.slice va6 n vc6) w6)
    (c6 : w6.cell? ⟨w.heap.size, 1, none⟩ = some (.slice none 0 0)) (f6 : w6.frozen? ⟨w.heap.size, 1, none⟩ = false) :
    Calls Tryz.prog 34 #[ptr rb] w fun e w' => e = .returned (ptr w.heap.size) ∧ w6.setCell ⟨w.heap.size, 1, none⟩ (.slice va6 n vc6) = w' := by
  unfold ptr
  go_enter Tryz.func34, Tryz.ntmps34
  go_wp2
  go_region
  all_goals
    go_wp2
    go_ret
    exact ⟨rfl, rfl⟩

theorem rfork_any (h : RM w0 w rb most v ps) (hl : ps.length ≤ 4096) (hb : w0.heap.size ≤ w.heap.size) :
    Calls Tryz.prog 34 #[ptr rb] w fun e w' => e = .returned (ptr w.heap.size) ∧ (∃ v', RM w0 w' w.heap.size most v' ps ∧ ∀ g, v'.ownBlock = some g → w.heap.size ≤ g) ∧ Below w.heap.size w w' := by
  obtain ⟨k0, k1, -⟩ := h.cells
  have hlt := h.lt
  have hn0 : w.heap.size < (w.alloc (.cells #[.int .i64 most, .slice none 0 0] 122)).heap.size := by simp
  have hbw : Below w.heap.size w (w.alloc (.cells #[.int .i64 most, .slice none 0 0] 122)).drew := ((Below.refl _ w).alloc (Nat.le_refl _) _).drew
  have hnew : (w.alloc (.cells #[.int .i64 most, .slice none 0 0] 122)).drew.heap[w.heap.size]? = some (.cells #[.int .i64 most, .slice none 0 0] 122) := heap_alloc_new w _
  rcases h.row.2 with ⟨rfl, hz⟩ | ⟨g, c, cur, rfl, hg, hh, hc1, hc2, hc3, hcur⟩
  · obtain rfl : ps = [] := List.length_eq_zero_iff.1 hz
    refine (rfork_none k0 k1 hlt).mono ?_
    rintro e w' ⟨he, rfl⟩
    exact ⟨he, ⟨_, ⟨hnew, ⟨rfl, .inl ⟨rfl, rfl⟩⟩, (fun g e => by cases e), hb⟩, (fun g e => by cases e)⟩, hbw⟩
  · obtain ⟨i0, hi0, hz0, hz1, hz2⟩ := info_parts infoP
    have hgl : g < w.heap.size := (Array.getElem?_eq_some_iff.1 hh).1
    have hrow := h.row
    have hll := cellsP_len ps
    obtain ⟨v6, w6, hrun, hown, hgr, hnil, hat⟩ := run_append_own_at (P := Tryz.prog) (w.alloc (.cells #[.int .i64 most, .slice none 0 0] 122)).drew w.heap.size 120 120 154 i0 (.agg #[.string ⟨#[]⟩, .int .i64 0]) 2 24 Tryz.underlying120 hi0 hz0 hz1 hz2 rfl (by decide) (.slice none 0 0) 0 [] (World.ownsRow_nil _ _ _ _) ⟨g, 0, none⟩ ps.length c (cellsP ps) hll
      (fun j u hj => by
        have hjl : j < ps.length * 2 := by rw [← hll]; exact (List.getElem?_eq_some_iff.1 hj).1
        have e1 : (⟨g, 0, none⟩ : Addr).add j = ⟨g, j, none⟩ := by rw [Go.WideShapes.add_plain, Nat.zero_add]
        rw [e1]
        have e2 := (hbw.cell (p := ⟨g, j, none⟩) hgl)
        rw [e2]
        unfold World.cell?
        rw [hh]
        have : cur.toList.take (ps.length * 2) = cellsP ps := hcur
        rw [← this, List.getElem?_take] at hj
        rw [if_pos hjl] at hj
        simpa using hj) (cellsP_one ps) (by unfold maxLen; omega) (by omega) (by show w.heap.size ≤ (w.alloc _).heap.size; simp)
    rw [Nat.zero_add, List.nil_append] at hown
    have hgr2 : Below w.heap.size w w6 := hbw.grown hgr (by show w.heap.size ≤ (w.alloc _).heap.size; simp) (fun j e => by cases e)
    have hb6 : w6.heap[w.heap.size]? = some (.cells #[.int .i64 most, .slice none 0 0] 122) := (hgr.block w.heap.size hn0 (fun e => by cases e)).trans hnew
    have hne : ∀ g2, v6.ownBlock = some g2 → w.heap.size < g2 := fun g2 e => by
      rcases hat with e2 | e2
      · rw [e2] at e; cases e
      · rw [e2] at e
        have := Option.some.inj e
        rw [← this]
        exact hn0
    obtain ⟨va6, vc6, rfl⟩ := owns_shape hown
    have hs6 := hgr2.size
    refine (rfork_some (some ⟨g, 0, none⟩) va6 ps.length c vc6 w6 k0 k1 hlt hrun (by simp [World.cell?, hb6]) (by simp [World.frozen?, hb6])).mono ?_
    rintro e w' ⟨he, rfl⟩
    exact ⟨he, ⟨_, ⟨by have := heap_setCell_same _ w.heap.size 1 _ _ (.slice va6 ps.length vc6) hb6; simpa using this, owns_keep (owns_base hown hb) (fun g2 e => heap_setCell_other _ _ _ _ (by have := hne g2 e; show g2 ≠ w.heap.size; omega)), fun g2 e => by have := hne g2 e; omega, hb⟩, fun g2 e => Nat.le_of_lt (hne g2 e)⟩, hgr2.setCell (Nat.le_refl _) _⟩

end Go.Proofs.YtbihelpnojjacaaGreat.RefQ

namespace Go.Proofs.YtbihelpnojjacaaGreat.LruU
open Go.ChangeShapes Go.WideShapes Go.ChangeAt Go.RowKit Base Wri LruA LruB LruC LruD LruE LruF

set_option maxHeartbeats 400000 in
theorem touch_nil (s : ByteArray) (w : World) : Calls Tryz.prog 122 #[.pointer none, .string s] w fun e w' => e = .returned (.pointer none) ∧ w = w' := by
  go_enter Tryz.func122, Tryz.ntmps122
  go_wp2_with fail
  refine (find_nil s w).mono ?_
  rintro e w1 ⟨rfl, rfl⟩
  go_wp2
  go_ret
  exact ⟨rfl, rfl⟩

set_option maxHeartbeats 400000 in
theorem put_nil (s : ByteArray) (n : Int) (w : World) : Calls Tryz.prog 95 #[.pointer none, .string s, .int .i64 n] w fun e w' => e = .returned (.tuple #[.string ⟨#[]⟩, .bool false, .int .i64 1]) ∧ w = w' := by
  go_enter Tryz.func95, Tryz.ntmps95
  go_wp2
  go_ret3
  exact ⟨rfl, rfl⟩

set_option maxHeartbeats 400000 in
theorem get_nil (s : ByteArray) (w : World) : Calls Tryz.prog 98 #[.pointer none, .string s] w fun e w' => e = .returned (.tuple #[.int .i64 0, .bool false]) ∧ w = w' := by
  go_enter Tryz.func98, Tryz.ntmps98
  go_wp2_with fail
  refine (touch_nil s w).mono ?_
  rintro e w1 ⟨rfl, rfl⟩
  go_wp2_with fail
  refine (tell_no w).mono ?_
  rintro e w1 ⟨rfl, rfl⟩
  go_wp2
  go_ret2
  exact ⟨rfl, rfl⟩

set_option maxRecDepth 20000 in
set_option maxHeartbeats 1000000 in
theorem drop_nil (a : Option Addr) (n cap : Nat) (f : Nat → ByteArray) (w : World) (hn : n ≤ 9223372036854775807) (hf : Strs w a n f) :
    Calls Tryz.prog 125 #[.pointer none, .slice a n cap] w fun e w' => e = .returned (.int .i64 0) ∧ ∃ m, w.drewN m = w' := by
  have HF := hid hf
  clear hf
  go_enter Tryz.func125, Tryz.ntmps125
  go_wp2_with fail
  go_loopw [5, 11] (fun d i wr => ∃ k m : Nat, k ≤ n ∧ i = .int .i64 k ∧ d = .int .i64 0 ∧ w.drewN m = wr) (fun _ i _ => n - (intOf i).toNat)
  case atStart => exact ⟨0, 0, Nat.zero_le _, rfl, rfl, rfl⟩
  case round =>
    obtain ⟨k, m, hk, rfl, rfl, rfl⟩ := hrel
    by_cases hlt : k < n
    · obtain ⟨g, o, rfl, hg, hc⟩ := HF.out (by omega)
      have c0 : (w.drewN m).cell? ⟨g, o + k, none⟩ = some (.string (f k)) := hc k hlt
      clear hc
      have HN := hid (find_nil (f k) (w.drewN m))
      generalize hwr : w.drewN m = wr at *
      have HWR := hid hwr
      clear hwr
      go_wp2_with fail
      refine HN.out.mono ?_
      rintro e w2 ⟨rfl, rfl⟩
      go_wp2_with fail
      go_roundw
      case rel => exact ⟨k + 1, m, by omega, by go_num, rfl, HWR.out⟩
      case measure => simp [intOf]; omega
    · obtain rfl : k = n := by omega
      generalize hwr : w.drewN m = wr at *
      have HWR := hid hwr
      clear hwr
      go_wp2_with fail
      go_ret
      exact ⟨rfl, m, HWR.out⟩

set_option maxHeartbeats 400000 in
theorem rplace_nil (s : ByteArray) (w : World) : Calls Tryz.prog 81 #[.pointer none, .string s] w fun e w' => e = .returned (.int .i64 (-1)) ∧ w = w' := by
  go_enter Tryz.func81, Tryz.ntmps81
  go_wp2
  go_loop [4] (fun i => i = .int .i64 0) (fun _ => 0)
  case atStart => rfl
  case round =>
    obtain rfl := hrel
    go_wp2
    go_ret
    exact ⟨rfl, rfl⟩

set_option maxHeartbeats 400000 in
theorem rput_nil (s : ByteArray) (n : Int) (w : World) : Calls Tryz.prog 49 #[.pointer none, .string s, .int .i64 n] w fun e w' => e = .returned (.tuple #[.string ⟨#[]⟩, .bool false, .int .i64 1]) ∧ w = w' := by
  go_enter Tryz.func49, Tryz.ntmps49
  go_wp2
  go_ret3
  exact ⟨rfl, rfl⟩

set_option maxHeartbeats 400000 in
theorem rget_nil (s : ByteArray) (w : World) : Calls Tryz.prog 50 #[.pointer none, .string s] w fun e w' => e = .returned (.tuple #[.int .i64 0, .bool false]) ∧ w = w' := by
  go_enter Tryz.func50, Tryz.ntmps50
  go_wp2_with fail
  refine (rplace_nil s w).mono ?_
  rintro e w1 ⟨rfl, rfl⟩
  go_wp2
  go_ret2
  exact ⟨rfl, rfl⟩

end Go.Proofs.YtbihelpnojjacaaGreat.LruU
