/- grow: keys have nodes, all of them or none. -/
import Derived.Test.YtnloedhcginopaaMap
import Derived.DeepKeys5
import Derived.Test.YtnloedhcginopaaRulA
import Derived.Test.YtnloedhcginopaaTxt
import Derived.Test.YtnloedhcginopaaWinE
import Derived.Deep.AppendLies
import Derived.Deep.DeepCutAuto
import Derived.Test.YtnloedhcginopaaStaC
import Derived.Maps.AppendAt
import Derived.Maps.RangeRun
import Derived.Test.YtnloedhcginopaaWinN
import Derived.Carry
import Derived.Deep.RegionHeld3

/- The keys of a tree as keys of maps. -/
namespace Go.Proofs.Ytnloedhcginopaa.TreA
open Go.ChangeShapes Go.WideShapes Go.ChangeAt Go.RowKit Base Wri Map
open Go.Maps (Keyed)

theorem laid : laidOutB Try.prog = true := by kernel_rfl
theorem keyed : Keyed Try.prog 30 := Keyed.of_law (deep_law_gate laid (by decide +kernel) (by decide +kernel) (by kernel_rfl) (by kernel_rfl))

structure Key where
  k : Nat
  c : ByteArray
  r : ByteArray
  o : ByteArray
deriving DecidableEq, Inhabited

/-- as a map's key may be -/
structure Key.Fit (x : Key) : Prop where
  k : x.k < 256
  c : x.c.size ≤ maxLen
  r : x.r.size ≤ maxLen
  o : x.o.size ≤ maxLen

def kv (x : Key) : Value := .agg #[.int .u8 x.k, .string x.c, .string x.r, .string x.o]

theorem kv_inj {x y : Key} (h : kv x = kv y) : x = y := by
  obtain ⟨a, b, c, d⟩ := x
  obtain ⟨a', b', c', d'⟩ := y
  unfold kv at h
  simp at h
  obtain ⟨h1, h2, h3, h4⟩ := h
  subst h2 h3 h4
  simp
  omega

theorem kty : Try.prog.keyType 30 = true := by kernel_rfl
theorem cellsK : Try.prog.cellsOf 30 = 4 := by kernel_rfl
theorem cells8 : Try.prog.cellsOf 28 = 1 := by kernel_rfl
theorem cellsS : Try.prog.cellsOf 9 = 1 := by kernel_rfl

theorem lits_of (d : Nat) (x : Key) (h : x.Fit) : ∃ a, Try.prog.keyLits (d + 1 + 1) 30 [.int .u8 x.k, .string x.c, .string x.r, .string x.o] = some a := by
  have hk : (Lit.int .u8 x.k).wf = true := by have := h.k; simp [Lit.wf, IntKind.min, IntKind.max, IntKind.bits, IntKind.signed]; omega
  unfold Program.keyLits
  rw [Try.underlying30]
  simp [cellsK, cells8, cellsS, Program.keyLits, Try.underlying28, Try.underlying9, hk, h.c, h.r, h.o]

theorem key_of (x : Key) (h : x.Fit) : ∃ kl, keyOf Try.prog 30 (kv x) = some kl := by
  have hp : 1 ≤ Try.prog.types.size := Nat.le_of_ble_eq_true (by kernel_rfl)
  obtain ⟨n, hn⟩ : ∃ n, Try.prog.types.size = n + 1 := ⟨Try.prog.types.size - 1, by omega⟩
  obtain ⟨a, ha⟩ := lits_of n x h
  unfold keyOf kv
  rw [Try.underlying30, kty]
  have h2 : Value.formed Try.prog 30 (.agg #[.int .u8 x.k, .string x.c, .string x.r, .string x.o]) = true := by simp [Value.formed, Try.underlying30, cellsK]
  have h3 : (Value.agg #[.int .u8 (x.k : Nat), .string x.c, .string x.r, .string x.o]).cells.toList = [.int .u8 (x.k : Nat), .string x.c, .string x.r, .string x.o] := rfl
  simp only [h2, h3, Bool.and_self, if_true]
  rw [hn, ha]
  exact ⟨_, rfl⟩

end Go.Proofs.Ytnloedhcginopaa.TreA

/- The keys of a call. -/
namespace Go.Proofs.Ytnloedhcginopaa.TreB
set_option linter.unusedVariables false
open Go.ChangeShapes Go.WideShapes Go.ChangeAt Go.RowKit Base Wri TreA RulA WinE

def kl (x : Key) : List Value := [.int .u8 x.k, .string x.c, .string x.r, .string x.o]
def cellsL (l : List Key) : List Value := l.flatMap kl
theorem cellsL_len (l : List Key) : (cellsL l).length = l.length * 4 := by
  induction l with
  | nil => rfl
  | cons x t ih => unfold cellsL at *; rw [List.flatMap_cons, List.length_append, ih, List.length_cons]; simp [kl]; omega
theorem cellsL_snoc (l : List Key) (x : Key) : cellsL (l ++ [x]) = cellsL l ++ kl x := by unfold cellsL; simp

/-- a row of keys of one's own, from block B on -/
def KRow (w : World) (B : Nat) (v : Value) (l : List Key) : Prop := w.ownsRow B 30 4 v l.length (cellsL l)
theorem KRow.mono {w : World} {B B' : Nat} {v : Value} {l : List Key} (h : KRow w B v l) (hb : B' ≤ B) : KRow w B' v l := by
  obtain ⟨h1, h2 | ⟨g, cap, cur, e, hg, rest⟩⟩ := h
  · exact ⟨h1, .inl h2⟩
  · exact ⟨h1, .inr ⟨g, cap, cur, e, Nat.le_trans hb hg, rest⟩⟩

theorem infoKey : (Try.prog.info? 30).map (fun i => (i.zero, i.size, i.bytes)) = some (some (.agg #[.int .u8 0, .string ⟨#[]⟩, .string ⟨#[]⟩, .string ⟨#[]⟩]), 4, 56) := by kernel_rfl

def emp : ByteArray := ⟨#[]⟩
def keysOf (c r o : ByteArray) (inb : Bool) : List Key :=
  [⟨3, c, r, emp⟩, ⟨4, emp, r, emp⟩] ++ (if o = emp then [] else [⟨5, emp, r, o⟩]) ++ [⟨2, c, emp, emp⟩] ++ (if inb then [⟨1, emp, emp, emp⟩] else [])

/-- the call's box at block b, and the row that grows behind it -/
structure Ks (w0 : World) (b : Nat) (bx : Array Value) (v : Value) (l : List Key) (w : World) : Prop where
  row : KRow w (b + 1) v l
  blk : w.heap[b]? = some (.cells bx 40)
  bel : Below b w0 w

theorem Ks.lt {w0 w : World} {b : Nat} {bx : Array Value} {v : Value} {l : List Key} (h : Ks w0 b bx v l w) : b < w.heap.size := (Array.getElem?_eq_some_iff.1 h.blk).1
theorem Ks.cell {w0 w : World} {b : Nat} {bx : Array Value} {v : Value} {l : List Key} (h : Ks w0 b bx v l w) (i : Nat) (x : Value) (hx : bx[i]? = some x) : w.cell? ⟨b, i, none⟩ = some x := by
  simp [World.cell?, h.blk, hx]
theorem Ks.push {w0 w w' : World} {b g cap : Nat} {bx : Array Value} {v : Value} {l : List Key} (x : Key) (o : Obj) (h : Ks w0 b bx v l w) (hown : w'.ownsRow (b + 1) 30 4 (.slice (some ⟨g, 0, none⟩) (l.length + 1) cap) (l.length + 1) (cellsL l ++ kl x)) (hgr : (w.alloc o).grownBy w' v.ownBlock) :
    Ks w0 b bx (.slice (some ⟨g, 0, none⟩) (l.length + 1) cap) (l ++ [x]) w' := by
  have hlt := h.lt
  have hne : ∀ k, v.ownBlock = some k → b + 1 ≤ k := fun k hk => (h.row.lt k hk).1
  refine ⟨?_, ?_, ?_⟩
  · unfold KRow
    rw [cellsL_snoc, List.length_append]
    exact hown
  · exact (hgr.block b (by simp; omega) (fun e => by have := hne b e.symm; omega)).trans ((heap_alloc_old w o hlt).trans h.blk)
  · exact (h.bel.alloc (by omega) o).grown hgr (by simp; omega) (fun k hk => by have := hne k hk; omega)
theorem Ks.own {w0 w : World} {b : Nat} {bx : Array Value} {v : Value} {l : List Key} (h : Ks w0 b bx v l w) (o : Obj) : (w.alloc o).ownsRow (b + 1) 30 4 v l.length (cellsL l) := World.ownsRow.alloc h.row o

theorem row_one (w : World) (x : Key) : ∀ (j : Nat) (u : Value), (kl x)[j]? = some u → (w.alloc (.cells (kl x).toArray 30)).cell? ((⟨w.heap.size, 0, none⟩ : Addr).add j) = some u := by
  intro j u hu
  rw [Go.WideShapes.add_plain, Nat.zero_add]
  have := heap_alloc_new w (.cells (kl x).toArray 30)
  simp only [World.cell?, this]
  simpa using hu

set_option maxRecDepth 20000 in
set_option maxHeartbeats 2000000 in
theorem keys_no (at_ : Int) (r c o : ByteArray) (inb : Bool) (cnt : Int) (ca : Option Addr) (cn cc : Nat) (b1 b2 b3 : Bool) (w : World)
    (H1 : Hid (∀ w, Calls Try.prog 61 #[.string r] w fun e w' => e = .returned (.bool b1) ∧ w = w')) (H2 : Hid (∀ w, Calls Try.prog 61 #[.string c] w fun e w' => e = .returned (.bool b2) ∧ w = w')) (H3 : Hid (∀ w, Calls Try.prog 61 #[.string o] w fun e w' => e = .returned (.bool b3) ∧ w = w'))
    (hr : b1 = false ∨ b1 = true ∧ (b2 = false ∨ b2 = true ∧ (o.toList == []) = false ∧ b3 = false)) :
    Calls Try.prog 42 #[.agg #[.int .i64 at_, .string r, .string c, .string o, .bool inb, .int .i64 cnt, .slice ca cn cc]] w fun e w' => e = .returned (.tuple #[.slice none 0 0, .int .i64 10]) ∧ Below w.heap.size w w' := by
  go_enter Try.func42, Try.ntmps42
  rcases hr with rfl | ⟨rfl, rfl | ⟨rfl, ho, rfl⟩⟩
  · go_wp2_with fail
    refine (H1.out _).mono ?_
    rintro e w1 ⟨rfl, rfl⟩
    go_wp2_with fail
    go_ret2
    exact ⟨rfl, (by repeat (first | (with_reducible exact Below.refl _ _) | (with_reducible refine Below.setCell ?_ (by first | (simp; done) | (simp; omega) | omega) _) | (with_reducible refine Below.alloc ?_ (by first | (simp; done) | (simp; omega) | omega) _) | (with_reducible refine Below.drew ?_)))⟩
  · go_wp2_with fail
    refine (H1.out _).mono ?_
    rintro e w1 ⟨rfl, rfl⟩
    go_wp2_with fail
    refine (H2.out _).mono ?_
    rintro e w1 ⟨rfl, rfl⟩
    go_wp2_with fail
    go_ret2
    exact ⟨rfl, (by repeat (first | (with_reducible exact Below.refl _ _) | (with_reducible refine Below.setCell ?_ (by first | (simp; done) | (simp; omega) | omega) _) | (with_reducible refine Below.alloc ?_ (by first | (simp; done) | (simp; omega) | omega) _) | (with_reducible refine Below.drew ?_)))⟩
  · go_wp2_with fail
    refine (H1.out _).mono ?_
    rintro e w1 ⟨rfl, rfl⟩
    go_wp2_with fail
    refine (H2.out _).mono ?_
    rintro e w1 ⟨rfl, rfl⟩
    go_wp2_with fail
    refine (H3.out _).mono ?_
    rintro e w1 ⟨rfl, rfl⟩
    go_wp2_with fail
    go_ret2
    exact ⟨rfl, (by repeat (first | (with_reducible exact Below.refl _ _) | (with_reducible refine Below.setCell ?_ (by first | (simp; done) | (simp; omega) | omega) _) | (with_reducible refine Below.alloc ?_ (by first | (simp; done) | (simp; omega) | omega) _) | (with_reducible refine Below.drew ?_)))⟩

set_option maxRecDepth 20000 in
set_option maxHeartbeats 4000000 in
theorem keys_yes (at_ : Int) (r c o : ByteArray) (inb : Bool) (cnt : Int) (ca : Option Addr) (cn cc : Nat) (w : World)
    (H1 : Hid (∀ w, Calls Try.prog 61 #[.string r] w fun e w' => e = .returned (.bool true) ∧ w = w')) (H2 : Hid (∀ w, Calls Try.prog 61 #[.string c] w fun e w' => e = .returned (.bool true) ∧ w = w'))
    (hr : o = ⟨#[]⟩ ∨ (o.toList == []) = false ∧ Hid (o ≠ emp) ∧ Hid (∀ w, Calls Try.prog 61 #[.string o] w fun e w' => e = .returned (.bool true) ∧ w = w')) :
    Calls Try.prog 42 #[.agg #[.int .i64 at_, .string r, .string c, .string o, .bool inb, .int .i64 cnt, .slice ca cn cc]] w fun e w' => (∃ v, e = .returned (.tuple #[v, .int .i64 0]) ∧ KRow w' w.heap.size v (keysOf c r o inb)) ∧ Below w.heap.size w w' := by
  obtain ⟨i0, hi, hz0, hz1, hz2⟩ := info_parts infoKey
  have hb1 : Below w.heap.size w (w.alloc (.cells #[.int .i64 at_, .string r, .string c, .string o, .bool inb, .int .i64 cnt, .slice ca cn cc] 40)) := (Below.refl _ _).alloc (Nat.le_refl _) _
  have hblk : (w.alloc (.cells #[.int .i64 at_, .string r, .string c, .string o, .bool inb, .int .i64 cnt, .slice ca cn cc] 40)).heap[w.heap.size]? = some (.cells #[.int .i64 at_, .string r, .string c, .string o, .bool inb, .int .i64 cnt, .slice ca cn cc] 40) := heap_alloc_new _ _
  have hsz : (w.alloc (.cells #[.int .i64 at_, .string r, .string c, .string o, .bool inb, .int .i64 cnt, .slice ca cn cc] 40)).heap.size = w.heap.size + 1 := by simp
  go_enter Try.func42, Try.ntmps42
  go_upto_region 1 with fail
  generalize (w.alloc (.cells #[.int .i64 at_, .string r, .string c, .string o, .bool inb, .int .i64 cnt, .slice ca cn cc] 40)) = w1 at *
  have K0 : Hid (Ks w w.heap.size #[.int .i64 at_, .string r, .string c, .string o, .bool inb, .int .i64 cnt, .slice ca cn cc] (.slice none 0 0) [] w1) := hid ⟨⟨rfl, .inl ⟨rfl, rfl⟩⟩, hblk, hb1⟩
  clear hsz hblk hb1
  have j1 : w1.cell? ⟨w.heap.size, 1, none⟩ = some (.string r) := K0.out.cell 1 _ rfl
  have j2 : w1.cell? ⟨w.heap.size, 2, none⟩ = some (.string c) := K0.out.cell 2 _ rfl
  have j3 : w1.cell? ⟨w.heap.size, 3, none⟩ = some (.string o) := K0.out.cell 3 _ rfl
  have j4 : w1.cell? ⟨w.heap.size, 4, none⟩ = some (.bool inb) := K0.out.cell 4 _ rfl
  rcases hr with rfl | ⟨ho, HNE, H3⟩
  · go_wp2_with fail
    refine (H1.out _).mono ?_
    rintro e w9 ⟨rfl, rfl⟩
    go_wp2_with fail
    refine (H2.out _).mono ?_
    rintro e w9 ⟨rfl, rfl⟩
    go_upto_region 4 with fail
    have hlt1 := K0.out.lt
    have K2 : Hid (Ks w w.heap.size #[.int .i64 at_, .string r, .string c, .string ⟨#[]⟩, .bool inb, .int .i64 cnt, .slice ca cn cc] (.slice (some ⟨w1.heap.size, 0, none⟩) 2 2) [⟨3, c, r, emp⟩, ⟨4, emp, r, emp⟩] (w1.alloc (.cells #[.int .u8 3, .string c, .string r, .string ⟨#[]⟩, .int .u8 4, .string ⟨#[]⟩, .string r, .string ⟨#[]⟩] 30))) := hid ⟨⟨rfl, .inr ⟨w1.heap.size, 2, #[.int .u8 3, .string c, .string r, .string ⟨#[]⟩, .int .u8 4, .string ⟨#[]⟩, .string r, .string ⟨#[]⟩], rfl, hlt1, heap_alloc_new _ _, Nat.le_refl _, by simp [maxLen], rfl, rfl⟩⟩, (heap_alloc_old w1 _ hlt1).trans K0.out.blk, K0.out.bel.alloc (by omega) _⟩
    clear j1 j2 j3 j4 hlt1 K0 H1 H2
    generalize (w1.alloc (.cells #[.int .u8 3, .string c, .string r, .string ⟨#[]⟩, .int .u8 4, .string ⟨#[]⟩, .string r, .string ⟨#[]⟩] 30)) = w2 at *
    have j1 : w2.cell? ⟨w.heap.size, 1, none⟩ = some (.string r) := K2.out.cell 1 _ rfl
    have j2 : w2.cell? ⟨w.heap.size, 2, none⟩ = some (.string c) := K2.out.cell 2 _ rfl
    have j3 : w2.cell? ⟨w.heap.size, 3, none⟩ = some (.string ⟨#[]⟩) := K2.out.cell 3 _ rfl
    have j4 : w2.cell? ⟨w.heap.size, 4, none⟩ = some (.bool inb) := K2.out.cell 4 _ rfl
    cases inb with
    | false =>
      go_wp2_with (first
        | (at_builtin
           refine wpList_append_lies _ rfl _ _ 26 rfl (w.heap.size + 1) 30 i0 (.agg #[.int .u8 0, .string ⟨#[]⟩, .string ⟨#[]⟩, .string ⟨#[]⟩]) 4 56 Try.underlying26 hi hz0 hz1 hz2 rfl (by decide) (.slice (some ⟨w1.heap.size, 0, none⟩) 2 2) 2 _ rfl (K2.out.own _) ⟨_, 0, none⟩ 1 1 [.int .u8 2, .string c, .string ⟨#[]⟩, .string ⟨#[]⟩] rfl rfl (row_one w2 ⟨2, c, emp, emp⟩) (by simp [Value.oneCell']) (by decide) (by unfold maxLen; omega) (by decide) (by have := K2.out.lt; simp; omega) _ rfl ?_
           intro g3 cap3 w3 hown hgr hat hlt
           have K3 := hid (K2.out.push ⟨2, c, emp, emp⟩ _ hown hgr)
           clear hown hgr hat hlt
           have j1 : w3.cell? ⟨w.heap.size, 1, none⟩ = some (.string r) := K3.out.cell 1 _ rfl
           have j2 : w3.cell? ⟨w.heap.size, 2, none⟩ = some (.string c) := K3.out.cell 2 _ rfl
           have j3 : w3.cell? ⟨w.heap.size, 3, none⟩ = some (.string ⟨#[]⟩) := K3.out.cell 3 _ rfl
           have j4 : w3.cell? ⟨w.heap.size, 4, none⟩ = some (.bool false) := K3.out.cell 4 _ rfl))
      go_ret2
      exact ⟨⟨_, rfl, KRow.mono (by exact K3.out.row) (Nat.le_succ _)⟩, K3.out.bel⟩
    | true =>
      go_wp2_with (first
        | (at_builtin
           refine wpList_append_lies _ rfl _ _ 26 rfl (w.heap.size + 1) 30 i0 (.agg #[.int .u8 0, .string ⟨#[]⟩, .string ⟨#[]⟩, .string ⟨#[]⟩]) 4 56 Try.underlying26 hi hz0 hz1 hz2 rfl (by decide) (.slice (some ⟨w1.heap.size, 0, none⟩) 2 2) 2 _ rfl (K2.out.own _) ⟨_, 0, none⟩ 1 1 [.int .u8 2, .string c, .string ⟨#[]⟩, .string ⟨#[]⟩] rfl rfl (row_one w2 ⟨2, c, emp, emp⟩) (by simp [Value.oneCell']) (by decide) (by unfold maxLen; omega) (by decide) (by have := K2.out.lt; simp; omega) _ rfl ?_
           intro g3 cap3 w3 hown hgr hat hlt
           have K3 := hid (K2.out.push ⟨2, c, emp, emp⟩ _ hown hgr)
           clear hown hgr hat hlt
           have j1 : w3.cell? ⟨w.heap.size, 1, none⟩ = some (.string r) := K3.out.cell 1 _ rfl
           have j2 : w3.cell? ⟨w.heap.size, 2, none⟩ = some (.string c) := K3.out.cell 2 _ rfl
           have j3 : w3.cell? ⟨w.heap.size, 3, none⟩ = some (.string ⟨#[]⟩) := K3.out.cell 3 _ rfl
           have j4 : w3.cell? ⟨w.heap.size, 4, none⟩ = some (.bool true) := K3.out.cell 4 _ rfl)
        | (at_builtin
           refine wpList_append_lies _ rfl _ _ 26 rfl (w.heap.size + 1) 30 i0 (.agg #[.int .u8 0, .string ⟨#[]⟩, .string ⟨#[]⟩, .string ⟨#[]⟩]) 4 56 Try.underlying26 hi hz0 hz1 hz2 rfl (by decide) (.slice (some ⟨g3, 0, none⟩) 3 cap3) 3 _ rfl (K3.out.own _) ⟨_, 0, none⟩ 1 1 [.int .u8 1, .string ⟨#[]⟩, .string ⟨#[]⟩, .string ⟨#[]⟩] rfl rfl (row_one w3 ⟨1, emp, emp, emp⟩) (by simp [Value.oneCell']) (by decide) (by unfold maxLen; omega) (by decide) (by have := K3.out.lt; simp; omega) _ rfl ?_
           intro g4 cap4 w4 hown hgr hat hlt
           have K4 := hid (K3.out.push ⟨1, emp, emp, emp⟩ _ hown hgr)
           clear hown hgr hat hlt
           have j1 : w4.cell? ⟨w.heap.size, 1, none⟩ = some (.string r) := K4.out.cell 1 _ rfl
           have j2 : w4.cell? ⟨w.heap.size, 2, none⟩ = some (.string c) := K4.out.cell 2 _ rfl
           have j3 : w4.cell? ⟨w.heap.size, 3, none⟩ = some (.string ⟨#[]⟩) := K4.out.cell 3 _ rfl
           have j4 : w4.cell? ⟨w.heap.size, 4, none⟩ = some (.bool true) := K4.out.cell 4 _ rfl))
      go_ret2
      exact ⟨⟨_, rfl, KRow.mono (by exact K4.out.row) (Nat.le_succ _)⟩, K4.out.bel⟩
  · go_wp2_with fail
    refine (H1.out _).mono ?_
    rintro e w9 ⟨rfl, rfl⟩
    go_wp2_with fail
    refine (H2.out _).mono ?_
    rintro e w9 ⟨rfl, rfl⟩
    go_wp2_with fail
    refine (H3.out _).mono ?_
    rintro e w9 ⟨rfl, rfl⟩
    go_upto_region 4 with fail
    have hlt1 := K0.out.lt
    have K2 : Hid (Ks w w.heap.size #[.int .i64 at_, .string r, .string c, .string o, .bool inb, .int .i64 cnt, .slice ca cn cc] (.slice (some ⟨w1.heap.size, 0, none⟩) 2 2) [⟨3, c, r, emp⟩, ⟨4, emp, r, emp⟩] (w1.alloc (.cells #[.int .u8 3, .string c, .string r, .string ⟨#[]⟩, .int .u8 4, .string ⟨#[]⟩, .string r, .string ⟨#[]⟩] 30))) := hid ⟨⟨rfl, .inr ⟨w1.heap.size, 2, #[.int .u8 3, .string c, .string r, .string ⟨#[]⟩, .int .u8 4, .string ⟨#[]⟩, .string r, .string ⟨#[]⟩], rfl, hlt1, heap_alloc_new _ _, Nat.le_refl _, by simp [maxLen], rfl, rfl⟩⟩, (heap_alloc_old w1 _ hlt1).trans K0.out.blk, K0.out.bel.alloc (by omega) _⟩
    clear j1 j2 j3 j4 hlt1 K0 H1 H2 H3
    generalize (w1.alloc (.cells #[.int .u8 3, .string c, .string r, .string ⟨#[]⟩, .int .u8 4, .string ⟨#[]⟩, .string r, .string ⟨#[]⟩] 30)) = w2 at *
    have j1 : w2.cell? ⟨w.heap.size, 1, none⟩ = some (.string r) := K2.out.cell 1 _ rfl
    have j2 : w2.cell? ⟨w.heap.size, 2, none⟩ = some (.string c) := K2.out.cell 2 _ rfl
    have j3 : w2.cell? ⟨w.heap.size, 3, none⟩ = some (.string o) := K2.out.cell 3 _ rfl
    have j4 : w2.cell? ⟨w.heap.size, 4, none⟩ = some (.bool inb) := K2.out.cell 4 _ rfl
    cases inb with
    | false =>
      go_wp2_with (first
        | (at_builtin
           refine wpList_append_lies _ rfl _ _ 26 rfl (w.heap.size + 1) 30 i0 (.agg #[.int .u8 0, .string ⟨#[]⟩, .string ⟨#[]⟩, .string ⟨#[]⟩]) 4 56 Try.underlying26 hi hz0 hz1 hz2 rfl (by decide) (.slice (some ⟨w1.heap.size, 0, none⟩) 2 2) 2 _ rfl (K2.out.own _) ⟨_, 0, none⟩ 1 1 [.int .u8 5, .string ⟨#[]⟩, .string r, .string o] rfl rfl (row_one w2 ⟨5, emp, r, o⟩) (by simp [Value.oneCell']) (by decide) (by unfold maxLen; omega) (by decide) (by have := K2.out.lt; simp; omega) _ rfl ?_
           intro g3 cap3 w3 hown hgr hat hlt
           have K3 := hid (K2.out.push ⟨5, emp, r, o⟩ _ hown hgr)
           clear hown hgr hat hlt
           have j1 : w3.cell? ⟨w.heap.size, 1, none⟩ = some (.string r) := K3.out.cell 1 _ rfl
           have j2 : w3.cell? ⟨w.heap.size, 2, none⟩ = some (.string c) := K3.out.cell 2 _ rfl
           have j3 : w3.cell? ⟨w.heap.size, 3, none⟩ = some (.string o) := K3.out.cell 3 _ rfl
           have j4 : w3.cell? ⟨w.heap.size, 4, none⟩ = some (.bool false) := K3.out.cell 4 _ rfl)
        | (at_builtin
           refine wpList_append_lies _ rfl _ _ 26 rfl (w.heap.size + 1) 30 i0 (.agg #[.int .u8 0, .string ⟨#[]⟩, .string ⟨#[]⟩, .string ⟨#[]⟩]) 4 56 Try.underlying26 hi hz0 hz1 hz2 rfl (by decide) (.slice (some ⟨g3, 0, none⟩) 3 cap3) 3 _ rfl (K3.out.own _) ⟨_, 0, none⟩ 1 1 [.int .u8 2, .string c, .string ⟨#[]⟩, .string ⟨#[]⟩] rfl rfl (row_one w3 ⟨2, c, emp, emp⟩) (by simp [Value.oneCell']) (by decide) (by unfold maxLen; omega) (by decide) (by have := K3.out.lt; simp; omega) _ rfl ?_
           intro g4 cap4 w4 hown hgr hat hlt
           have K4 := hid (K3.out.push ⟨2, c, emp, emp⟩ _ hown hgr)
           clear hown hgr hat hlt
           have j1 : w4.cell? ⟨w.heap.size, 1, none⟩ = some (.string r) := K4.out.cell 1 _ rfl
           have j2 : w4.cell? ⟨w.heap.size, 2, none⟩ = some (.string c) := K4.out.cell 2 _ rfl
           have j3 : w4.cell? ⟨w.heap.size, 3, none⟩ = some (.string o) := K4.out.cell 3 _ rfl
           have j4 : w4.cell? ⟨w.heap.size, 4, none⟩ = some (.bool false) := K4.out.cell 4 _ rfl))
      go_ret2
      exact ⟨⟨_, rfl, KRow.mono (by have hx := K4.out.row; unfold keysOf; rw [if_neg HNE.out]; exact hx) (Nat.le_succ _)⟩, K4.out.bel⟩
    | true =>
      go_wp2_with (first
        | (at_builtin
           refine wpList_append_lies _ rfl _ _ 26 rfl (w.heap.size + 1) 30 i0 (.agg #[.int .u8 0, .string ⟨#[]⟩, .string ⟨#[]⟩, .string ⟨#[]⟩]) 4 56 Try.underlying26 hi hz0 hz1 hz2 rfl (by decide) (.slice (some ⟨w1.heap.size, 0, none⟩) 2 2) 2 _ rfl (K2.out.own _) ⟨_, 0, none⟩ 1 1 [.int .u8 5, .string ⟨#[]⟩, .string r, .string o] rfl rfl (row_one w2 ⟨5, emp, r, o⟩) (by simp [Value.oneCell']) (by decide) (by unfold maxLen; omega) (by decide) (by have := K2.out.lt; simp; omega) _ rfl ?_
           intro g3 cap3 w3 hown hgr hat hlt
           have K3 := hid (K2.out.push ⟨5, emp, r, o⟩ _ hown hgr)
           clear hown hgr hat hlt
           have j1 : w3.cell? ⟨w.heap.size, 1, none⟩ = some (.string r) := K3.out.cell 1 _ rfl
           have j2 : w3.cell? ⟨w.heap.size, 2, none⟩ = some (.string c) := K3.out.cell 2 _ rfl
           have j3 : w3.cell? ⟨w.heap.size, 3, none⟩ = some (.string o) := K3.out.cell 3 _ rfl
           have j4 : w3.cell? ⟨w.heap.size, 4, none⟩ = some (.bool true) := K3.out.cell 4 _ rfl)
        | (at_builtin
           refine wpList_append_lies _ rfl _ _ 26 rfl (w.heap.size + 1) 30 i0 (.agg #[.int .u8 0, .string ⟨#[]⟩, .string ⟨#[]⟩, .string ⟨#[]⟩]) 4 56 Try.underlying26 hi hz0 hz1 hz2 rfl (by decide) (.slice (some ⟨g3, 0, none⟩) 3 cap3) 3 _ rfl (K3.out.own _) ⟨_, 0, none⟩ 1 1 [.int .u8 2, .string c, .string ⟨#[]⟩, .string ⟨#[]⟩] rfl rfl (row_one w3 ⟨2, c, emp, emp⟩) (by simp [Value.oneCell']) (by decide) (by unfold maxLen; omega) (by decide) (by have := K3.out.lt; simp; omega) _ rfl ?_
           intro g4 cap4 w4 hown hgr hat hlt
           have K4 := hid (K3.out.push ⟨2, c, emp, emp⟩ _ hown hgr)
           clear hown hgr hat hlt
           have j1 : w4.cell? ⟨w.heap.size, 1, none⟩ = some (.string r) := K4.out.cell 1 _ rfl
           have j2 : w4.cell? ⟨w.heap.size, 2, none⟩ = some (.string c) := K4.out.cell 2 _ rfl
           have j3 : w4.cell? ⟨w.heap.size, 3, none⟩ = some (.string o) := K4.out.cell 3 _ rfl
           have j4 : w4.cell? ⟨w.heap.size, 4, none⟩ = some (.bool true) := K4.out.cell 4 _ rfl)
        | (at_builtin
           refine wpList_append_lies _ rfl _ _ 26 rfl (w.heap.size + 1) 30 i0 (.agg #[.int .u8 0, .string ⟨#[]⟩, .string ⟨#[]⟩, .string ⟨#[]⟩]) 4 56 Try.underlying26 hi hz0 hz1 hz2 rfl (by decide) (.slice (some ⟨g4, 0, none⟩) 4 cap4) 4 _ rfl (K4.out.own _) ⟨_, 0, none⟩ 1 1 [.int .u8 1, .string ⟨#[]⟩, .string ⟨#[]⟩, .string ⟨#[]⟩] rfl rfl (row_one w4 ⟨1, emp, emp, emp⟩) (by simp [Value.oneCell']) (by decide) (by unfold maxLen; omega) (by decide) (by have := K4.out.lt; simp; omega) _ rfl ?_
           intro g5 cap5 w5 hown hgr hat hlt
           have K5 := hid (K4.out.push ⟨1, emp, emp, emp⟩ _ hown hgr)
           clear hown hgr hat hlt
           have j1 : w5.cell? ⟨w.heap.size, 1, none⟩ = some (.string r) := K5.out.cell 1 _ rfl
           have j2 : w5.cell? ⟨w.heap.size, 2, none⟩ = some (.string c) := K5.out.cell 2 _ rfl
           have j3 : w5.cell? ⟨w.heap.size, 3, none⟩ = some (.string o) := K5.out.cell 3 _ rfl
           have j4 : w5.cell? ⟨w.heap.size, 4, none⟩ = some (.bool true) := K5.out.cell 4 _ rfl))
      go_ret2
      exact ⟨⟨_, rfl, KRow.mono (by have hx := K5.out.row; unfold keysOf; rw [if_neg HNE.out]; exact hx) (Nat.le_succ _)⟩, K5.out.bel⟩

end Go.Proofs.Ytnloedhcginopaa.TreB

/- A tree in memory; its small calls. -/
namespace Go.Proofs.Ytnloedhcginopaa.TreC
set_option linter.unusedVariables false
open Go.ChangeShapes Go.WideShapes Go.ChangeAt Go.RowKit Base Wri Map TreA TreB WinM WinC WinE StaA StaB StaC

def tB (n : Int) : Bool := decide (0 ≤ n) && decide (n ≤ 1152921504606846976)
def cB (n : Int) : Bool := decide (1 ≤ n) && decide (n ≤ 1099511627776)

set_option maxHeartbeats 400000 in
theorem isTime_any (n : Int) (w : World) :
    Calls Try.prog 38 #[.int .i64 n] w fun e w' => e = .returned (.bool (tB n)) ∧ w = w' := by
  unfold tB
  by_cases h0 : 0 ≤ n
  · by_cases h1 : n ≤ 1152921504606846976
    · rw [decide_eq_true h0, decide_eq_true h1]
      go_enter Try.func38, Try.ntmps38
      go_wp2
      go_ret
      exact ⟨rfl, rfl⟩
    · rw [decide_eq_true h0, decide_eq_false h1]
      go_enter Try.func38, Try.ntmps38
      go_wp2
      go_ret
      exact ⟨rfl, rfl⟩
  · rw [decide_eq_false h0]
    go_enter Try.func38, Try.ntmps38
    go_wp2
    go_ret
    exact ⟨rfl, rfl⟩

set_option maxHeartbeats 400000 in
theorem isCount_any (n : Int) (w : World) :
    Calls Try.prog 30 #[.int .i64 n] w fun e w' => e = .returned (.bool (cB n)) ∧ w = w' := by
  unfold cB
  by_cases h0 : 1 ≤ n
  · by_cases h1 : n ≤ 1099511627776
    · rw [decide_eq_true h0, decide_eq_true h1]
      go_enter Try.func30, Try.ntmps30
      go_wp2
      go_ret
      exact ⟨rfl, rfl⟩
    · rw [decide_eq_true h0, decide_eq_false h1]
      go_enter Try.func30, Try.ntmps30
      go_wp2
      go_ret
      exact ⟨rfl, rfl⟩
  · rw [decide_eq_false h0]
    go_enter Try.func30, Try.ntmps30
    go_wp2
    go_ret
    exact ⟨rfl, rfl⟩

abbrev ptr (p : Nat) : Value := .pointer (some ⟨p, 0, none⟩)

/-- the errors of a time -/
def refR (last : Int) (t : Int) : Int := if tB t then (if t < last then 7 else 0) else 2

set_option maxHeartbeats 1000000 in
theorem refuses_core (p : Nat) (t last z : Int) (b : Bool) (w : World) (Z : Hid ((if b then (if t < last then 7 else 0) else 2) = z)) (h : w.cell? ⟨p, 2, none⟩ = some (.int .i64 last)) (H1 : Hid (Calls Try.prog 38 #[.int .i64 t] w fun e w' => e = .returned (.bool b) ∧ w = w')) :
    Calls Try.prog 23 #[ptr p, .int .i64 t] w fun e w' => e = .returned (.int .i64 z) ∧ w = w' := by
  go_enter Try.func23, Try.ntmps23
  cases b with
  | false =>
    obtain rfl : z = 2 := by rw [← Z.out]; simp
    clear Z
    go_wp2_with fail
    refine H1.out.mono ?_
    rintro e w1 ⟨rfl, rfl⟩
    go_wp2_with fail
    go_ret
    exact ⟨rfl, rfl⟩
  | true =>
    by_cases hl : t < last
    · have d1 := decide_eq_true hl
      obtain rfl : z = 7 := by rw [← Z.out]; simp [hl]
      clear hl Z
      go_wp2_with fail
      refine H1.out.mono ?_
      rintro e w1 ⟨rfl, rfl⟩
      go_wp2_with fail
      go_ret
      exact ⟨rfl, rfl⟩
    · have d1 := decide_eq_false hl
      obtain rfl : z = 0 := by rw [← Z.out]; simp [hl]
      clear hl Z
      go_wp2_with fail
      refine H1.out.mono ?_
      rintro e w1 ⟨rfl, rfl⟩
      go_wp2_with fail
      go_ret
      exact ⟨rfl, rfl⟩

theorem refuses_any (p : Nat) (t last : Int) (w : World) (h : w.cell? ⟨p, 2, none⟩ = some (.int .i64 last)) :
    Calls Try.prog 23 #[ptr p, .int .i64 t] w fun e w' => e = .returned (.int .i64 (refR last t)) ∧ w = w' :=
  refuses_core p t last _ (tB t) w (hid rfl) h (hid (isTime_any t w))

set_option maxHeartbeats 400000 in
theorem refuses_nil (t : Int) (w : World) :
    Calls Try.prog 23 #[.pointer none, .int .i64 t] w fun e w' => e = .returned (.int .i64 1) ∧ w = w' := by
  go_enter Try.func23, Try.ntmps23
  go_wp2_with fail
  go_ret
  exact ⟨rfl, rfl⟩

/-- the keys of a call, or none: are its names right -/
def okNames (r c o : ByteArray) : Bool := RulA.nameB r && RulA.nameB c && (decide (o = emp) || RulA.nameB o)

theorem keys_any (at_ : Int) (r c o : ByteArray) (inb : Bool) (cnt : Int) (ca : Option Addr) (cn cc : Nat) (w : World) (hr : r.size ≤ maxLen) (hc : c.size ≤ maxLen) (ho : o.size ≤ maxLen) :
    Calls Try.prog 42 #[.agg #[.int .i64 at_, .string r, .string c, .string o, .bool inb, .int .i64 cnt, .slice ca cn cc]] w fun e w' =>
      (okNames r c o = true ∧ (∃ v, e = .returned (.tuple #[v, .int .i64 0]) ∧ KRow w' w.heap.size v (keysOf c r o inb)) ∨ okNames r c o = false ∧ e = .returned (.tuple #[.slice none 0 0, .int .i64 10])) ∧ Below w.heap.size w w' := by
  have n1 := hid fun w => RulA.IsName_any r w hr
  have n2 := hid fun w => RulA.IsName_any c w hc
  have n3 := hid fun w => RulA.IsName_any o w ho
  have yes : okNames r c o = true → _ := fun h => keys_yes at_ r c o inb cnt ca cn cc w (hid fun w => by have := n1.out w; unfold okNames at h; simp only [Bool.and_eq_true] at h; rw [h.1.1] at this; exact this) (hid fun w => by have := n2.out w; unfold okNames at h; simp only [Bool.and_eq_true] at h; rw [h.1.2] at this; exact this) (by
    by_cases he : o = emp
    · exact .inl he
    · refine .inr ⟨?_, hid he, hid fun w => ?_⟩
      · have := Txt.text_eq o emp
        rw [show emp.toList = [] by rw [ByteArray.toList_eq]; rfl] at this
        rw [this]
        exact decide_eq_false he
      · have := n3.out w
        unfold okNames at h
        simp only [Bool.and_eq_true, Bool.or_eq_true, decide_eq_true_eq] at h
        rw [h.2.resolve_left he] at this
        exact this)
  cases h : okNames r c o
  · refine (keys_no at_ r c o inb cnt ca cn cc (RulA.nameB r) (RulA.nameB c) (RulA.nameB o) w n1 n2 n3 ?_).mono fun e w' y => ⟨.inr ⟨rfl, y.1⟩, y.2⟩
    unfold okNames at h
    cases h1 : RulA.nameB r
    · exact .inl rfl
    · refine .inr ⟨rfl, ?_⟩
      cases h2 : RulA.nameB c
      · exact .inl rfl
      · refine .inr ⟨rfl, ?_⟩
        rw [h1, h2] at h
        simp only [Bool.true_and, Bool.or_eq_false_iff, decide_eq_false_iff_not] at h
        refine ⟨?_, h.2⟩
        have := Txt.text_eq o emp
        rw [show emp.toList = [] by rw [ByteArray.toList_eq]; rfl] at this
        rw [this]
        exact decide_eq_false h.1
  · exact (yes h).mono fun e w' y => ⟨.inl ⟨rfl, y.1⟩, y.2⟩

end Go.Proofs.Ytnloedhcginopaa.TreC

/- The nodes of a tree: looked for by their keys. -/
namespace Go.Proofs.Ytnloedhcginopaa.TreD
set_option linter.unusedVariables false
open Go.ChangeShapes Go.WideShapes Go.ChangeAt Go.RowKit Base Wri Map TreA TreB TreC WinM WinC WinE StaA StaB StaC

/-- a node with its key -/
structure Ent where
  key : Key
  S : Spots
  N : Nd

def hasK (L : List Ent) (x : Key) : Bool := L.any fun e => decide (e.key = x)
def nptr (L : List Ent) (x : Key) : Value := match L.find? (fun e => decide (e.key = x)) with
  | some e => ptr e.S.n
  | none => .pointer none

theorem nptr_yes {L : List Ent} {x : Key} (h : hasK L x = true) : ∃ e, e ∈ L ∧ e.key = x ∧ nptr L x = ptr e.S.n := by
  unfold hasK at h
  obtain ⟨e, he, hk⟩ := List.any_eq_true.1 h
  unfold nptr
  cases hf : L.find? (fun e => decide (e.key = x)) with
  | none =>
    have := List.find?_eq_none.1 hf e he
    exact absurd hk this
  | some y =>
    have h1 := List.find?_some hf
    exact ⟨y, List.mem_of_find?_eq_some hf, by simpa using h1, rfl⟩
theorem nptr_no {L : List Ent} {x : Key} (h : hasK L x = false) : nptr L x = .pointer none := by
  unfold nptr
  cases hf : L.find? (fun e => decide (e.key = x)) with
  | none => rfl
  | some y =>
    have h1 := List.find?_some hf
    have h2 := List.mem_of_find?_eq_some hf
    unfold hasK at h
    rw [List.any_eq_false] at h
    exact absurd h1 (h y h2)

/-- block b is the map from keys to nodes -/
def NMap (w : World) (b : Nat) (L : List Ent) : Prop :=
  ∃ F n, MapOf Try.prog 30 w b F n ∧ ∀ x : Key, F (kv x) = if hasK L x then some (nptr L x) else none

theorem NMap.of_block {w w' : World} {b : Nat} {L : List Ent} (h : NMap w b L) (e : w'.heap[b]? = w.heap[b]?) : NMap w' b L := by
  obtain ⟨F, n, h1, h2⟩ := h
  exact ⟨F, n, h1.of_block e, h2⟩
theorem NMap.lt {w : World} {b : Nat} {L : List Ent} (h : NMap w b L) : b < w.heap.size := by
  obtain ⟨F, n, h1, h2⟩ := h
  exact h1.lt
theorem zeroN (w : World) : (zeroValue 49).run Try.prog w = .ok (.pointer none) w := by kernel_rfl
theorem NMap.look {w : World} {b : Nat} {L : List Ent} (h : NMap w b L) (x : Key) (hx : x.Fit) :
    (Instr.lookup 55 (.map (some b)) (kv x) false).run Try.prog w = .ok (nptr L x) w := by
  obtain ⟨F, n, h1, h2⟩ := h
  obtain ⟨kl, hkl⟩ := key_of x hx
  have := h1.look false keyed Try.underlying55 (zeroN w) hkl
  rw [this, h2 x]
  cases hh : hasK L x
  · rw [nptr_no hh]; rfl
  · rfl

theorem kc' {w1 w2 : World} {p o : Nat} {v : Value} (h2 : Below w1.heap.size w1 w2) (h : w1.cell? ⟨p, o, none⟩ = some v) : w2.cell? ⟨p, o, none⟩ = some v :=
  (h2.cell (p := ⟨p, o, none⟩) (World.block_lt_of_cell? _ _ h)).trans h

set_option maxHeartbeats 1000000 in
theorem have1_core (x : Key) (bx p b : Nat) (v : Value) (r : Bool) (w : World) (h0 : w.cell? ⟨bx, 0, none⟩ = some (ptr p)) (h1 : w.cell? ⟨p, 0, none⟩ = some (.map (some b)))
    (HL : (Instr.lookup 55 (.map (some b)) (.agg #[.int .u8 x.k, .string x.c, .string x.r, .string x.o]) false).run Try.prog (w.alloc (.cells #[.int .u8 x.k, .string x.c, .string x.r, .string x.o] 30)).drew = .ok v (w.alloc (.cells #[.int .u8 x.k, .string x.c, .string x.r, .string x.o] 30)).drew)
    (hv : v = .pointer none ∧ r = true ∨ ∃ q, v = ptr q ∧ r = false) :
    Calls Try.prog 53 #[kv x, ptr bx] w fun e w' => e = .returned (.bool r) ∧ Below w.heap.size w w' := by
  unfold kv
  have hb : Below w.heap.size w (w.alloc (.cells #[.int .u8 x.k, .string x.c, .string x.r, .string x.o] 30)) := (Below.refl _ _).alloc (Nat.le_refl _) _
  have k0 := kc' hb h0
  have k1 := kc' hb h1
  have b0 : (w.alloc (.cells #[.int .u8 x.k, .string x.c, .string x.r, .string x.o] 30)).cell? ⟨w.heap.size, 0, none⟩ = some (.int .u8 x.k) := by go_cell
  have b1 : (w.alloc (.cells #[.int .u8 x.k, .string x.c, .string x.r, .string x.o] 30)).cell? ⟨w.heap.size, 1, none⟩ = some (.string x.c) := by go_cell
  have b2 : (w.alloc (.cells #[.int .u8 x.k, .string x.c, .string x.r, .string x.o] 30)).cell? ⟨w.heap.size, 2, none⟩ = some (.string x.r) := by go_cell
  have b3 : (w.alloc (.cells #[.int .u8 x.k, .string x.c, .string x.r, .string x.o] 30)).cell? ⟨w.heap.size, 3, none⟩ = some (.string x.o) := by go_cell
  go_enter Try.func53, Try.ntmps53
  go_upto_region 1 with fail
  generalize (w.alloc (.cells #[.int .u8 x.k, .string x.c, .string x.r, .string x.o] 30)) = wb at *
  have HB := hid hb
  clear hb h0 h1
  rcases hv with ⟨rfl, rfl⟩ | ⟨q, rfl, rfl⟩
  · go_region
    all_goals

      go_wp2_with fail
      go_ret
      exact ⟨rfl, by first | exact HB.out.drew | exact below_drewN HB.out _⟩
  · go_region
    all_goals
      go_wp2_with fail
      go_ret
      exact ⟨rfl, by first | exact HB.out.drew | exact below_drewN HB.out _⟩

theorem have1_any (x : Key) (hx : x.Fit) (bx p b : Nat) (L : List Ent) (w : World) (h0 : w.cell? ⟨bx, 0, none⟩ = some (ptr p)) (h1 : w.cell? ⟨p, 0, none⟩ = some (.map (some b))) (hm : NMap w b L) :
    Calls Try.prog 53 #[kv x, ptr bx] w fun e w' => e = .returned (.bool (!hasK L x)) ∧ Below w.heap.size w w' := by
  refine have1_core x bx p b (nptr L x) _ w h0 h1 ?_ ?_
  · have hb : ((w.alloc (.cells #[.int .u8 x.k, .string x.c, .string x.r, .string x.o] 30)).drew).heap[b]? = w.heap[b]? := heap_alloc_old w _ hm.lt
    exact (hm.of_block hb).look x hx
  · cases hh : hasK L x
    · exact .inl ⟨nptr_no hh, rfl⟩
    · obtain ⟨e, -, -, he⟩ := nptr_yes hh
      exact .inr ⟨_, he, rfl⟩

/-- n keys that lie in memory -/
def KAt (w : World) (a : Option Addr) (n : Nat) (f : Nat → Key) : Prop :=
  0 < n → ∃ g o, a = some ⟨g, o, none⟩ ∧ g < w.heap.size ∧ ∀ i, i < n → w.cell? ⟨g, o + i * 4, none⟩ = some (.int .u8 (f i).k) ∧ w.cell? ⟨g, o + i * 4 + 1, none⟩ = some (.string (f i).c) ∧ w.cell? ⟨g, o + i * 4 + 2, none⟩ = some (.string (f i).r) ∧ w.cell? ⟨g, o + i * 4 + 3, none⟩ = some (.string (f i).o)
theorem KAt.below {w w' : World} {a : Option Addr} {n : Nat} {f : Nat → Key} (h : KAt w a n f) (hb : Below w.heap.size w w') : KAt w' a n f := fun h0 => by
  obtain ⟨g, o, e, hg, hc⟩ := h h0
  refine ⟨g, o, e, Nat.lt_of_lt_of_le hg hb.size, fun i hi => ?_⟩
  obtain ⟨c0, c1, c2, c3⟩ := hc i hi
  exact ⟨kc' hb c0, kc' hb c1, kc' hb c2, kc' hb c3⟩

set_option maxRecDepth 20000 in
set_option maxHeartbeats 1000000 in
theorem index_have (a : Option Addr) (n cap bx p b : Nat) (f : Nat → Key) (L : List Ent) (w : World) (hn : n ≤ 9223372036854775807) (hf : ∀ i, i < n → (f i).Fit) (hk : KAt w a n f) (h0 : w.cell? ⟨bx, 0, none⟩ = some (ptr p)) (h1 : w.cell? ⟨p, 0, none⟩ = some (.map (some b))) (hm : NMap w b L) :
    Calls Try.prog 56 #[.slice a n cap, .func (Fn.func 53) #[] #[ptr bx]] w fun e w' => (∃ r : Int, e = .returned (.int .i64 r) ∧ (decide (0 ≤ r) = true ∧ (∃ i, i < n ∧ hasK L (f i) = false) ∨ decide (0 ≤ r) = false ∧ ∀ i, i < n → hasK L (f i) = true)) ∧ Below w.heap.size w w' := by
  have HH := hid (And.intro hf (And.intro hk (And.intro h0 (And.intro h1 hm))))
  clear hf hk h0 h1 hm
  go_enter Try.func56, Try.ntmps56
  go_wp2_with fail
  go_loopw [8] (fun i wr => ∃ k : Nat, k ≤ n ∧ i = .int .i64 k ∧ (∀ j, j < k → hasK L (f j) = true) ∧ Below w.heap.size w wr) (fun i _ => n - (intOf i).toNat)
  case atStart => exact ⟨0, Nat.zero_le _, rfl, fun j hj => by omega, Below.refl _ _⟩
  case round =>
    obtain ⟨k, hk, rfl, hno, hb⟩ := hrel
    have HNo := hid hno
    have HB := hid hb
    clear hno hb
    by_cases hlt : k < n
    · obtain ⟨hf, hka, h0, h1, hm⟩ := HH.out
      obtain ⟨g, o, rfl, hg, hc⟩ := (hka.below HB.out) (by omega)
      obtain ⟨c0, c1, c2, c3⟩ := hc k hlt
      have HA := hid (have1_any (f k) (hf k hlt) bx p b L wr (kc' HB.out h0) (kc' HB.out h1) (hm.of_block (HB.out.block b hm.lt)))
      have HFK := hid hf
      clear hf hka h0 h1 hm hc
      have hki : (k : Int) < n := by omega
      have hki0 : (0 : Int) ≤ k := by omega
      unfold kv at HA
      cases hh : hasK L (f k) with
      | true =>
        rw [hh] at HA
        have HHk := hid hh
        clear hh
        go_wp2_with fail
        refine HA.out.mono ?_
        rintro e w2 ⟨rfl, hb⟩
        have HB2 := hid (HB.out.trans (hb.mono HB.out.size))
        clear hb
        go_wp2_with fail
        go_roundw
        case rel => exact ⟨k + 1, by omega, by go_num, fun j hj => by by_cases e : j = k; (subst e; exact HHk.out); exact HNo.out j (by omega), HB2.out⟩
        case measure => simp [intOf]; omega
      | false =>
        rw [hh] at HA
        have HHk := hid hh
        clear hh
        go_wp2_with fail
        refine HA.out.mono ?_
        rintro e w2 ⟨rfl, hb⟩
        have HB2 := hid (HB.out.trans (hb.mono HB.out.size))
        clear hb
        go_wp2_with fail
        go_ret
        exact ⟨⟨_, rfl, .inl ⟨decide_eq_true hki0, k, hlt, HHk.out⟩⟩, HB2.out⟩
    · obtain rfl : k = n := by omega
      go_wp2_with fail
      go_ret
      exact ⟨⟨_, rfl, .inr ⟨by decide, HNo.out⟩⟩, HB.out⟩

end Go.Proofs.Ytnloedhcginopaa.TreD

/- The nodes of a tree: are some there; those that are. -/
namespace Go.Proofs.Ytnloedhcginopaa.TreE
set_option linter.unusedVariables false
open Go.ChangeShapes Go.WideShapes Go.ChangeAt Go.RowKit Base Wri Map TreA TreB TreC TreD WinM WinC WinE StaA StaB StaC

def allK (L : List Ent) (f : Nat → Key) (n : Nat) : Bool := (List.range n).all fun i => hasK L (f i)
theorem allK_yes {L : List Ent} {f : Nat → Key} {n : Nat} (h : ∀ i, i < n → hasK L (f i) = true) : allK L f n = true := by
  unfold allK
  rw [List.all_eq_true]
  exact fun i hi => h i (List.mem_range.1 hi)
theorem allK_no {L : List Ent} {f : Nat → Key} {n i : Nat} (hi : i < n) (h : hasK L (f i) = false) : allK L f n = false := by
  unfold allK
  rw [List.all_eq_false]
  exact ⟨i, List.mem_range.2 hi, by rw [h]; decide⟩

theorem contains_core (v c : Value) (b : Bool) (w : World) (HI : Hid (Calls Try.prog 56 #[v, c] w fun e w' => (∃ r : Int, e = .returned (.int .i64 r) ∧ decide (0 ≤ r) = b) ∧ Below w.heap.size w w')) :
    Calls Try.prog 52 #[v, c] w fun e w' => e = .returned (.bool b) ∧ Below w.heap.size w w' := by
  go_enter Try.func52, Try.ntmps52
  go_wp2_with fail
  refine HI.out.mono ?_
  rintro e w2 ⟨⟨r, rfl, hr⟩, hb⟩
  have HB := hid hb
  clear hb
  go_wp2
  go_ret
  exact ⟨by first | rfl | rw [hr] | simp [hr], HB.out⟩

theorem have_core (p : Nat) (v : Value) (b : Bool) (w : World) (HC : Hid (Calls Try.prog 52 #[v, .func (Fn.func 53) #[] #[ptr w.heap.size]] (w.alloc (.cells #[ptr p] 90)) fun e w' => e = .returned (.bool b) ∧ Below w.heap.size w w')) :
    Calls Try.prog 24 #[ptr p, v] w fun e w' => e = .returned (.bool (!b)) ∧ Below w.heap.size w w' := by
  go_enter Try.func24, Try.ntmps24
  go_wp2_with fail
  refine HC.out.mono ?_
  rintro e w2 ⟨rfl, hb⟩
  have HB := hid hb
  clear hb
  go_wp2_with fail
  go_ret
  exact ⟨rfl, HB.out⟩

/-- are all of some keys there -/
theorem have_any (p b : Nat) (a : Option Addr) (n cap : Nat) (f : Nat → Key) (L : List Ent) (w : World) (hn : n ≤ 9223372036854775807) (hf : ∀ i, i < n → (f i).Fit) (hk : KAt w a n f) (h1 : w.cell? ⟨p, 0, none⟩ = some (.map (some b))) (hm : NMap w b L) :
    Calls Try.prog 24 #[ptr p, .slice a n cap] w fun e w' => e = .returned (.bool (allK L f n)) ∧ Below w.heap.size w w' := by
  have hb : Below w.heap.size w (w.alloc (.cells #[ptr p] 90)) := (Below.refl _ _).alloc (Nat.le_refl _) _
  have h0 : (w.alloc (.cells #[ptr p] 90)).cell? ⟨w.heap.size, 0, none⟩ = some (ptr p) := by go_cell
  have hi := index_have a n cap w.heap.size p b f L _ hn hf (hk.below hb) h0 (kc' hb h1) (hm.of_block (hb.block b hm.lt))
  have hc := contains_core (.slice a n cap) (.func (Fn.func 53) #[] #[ptr w.heap.size]) (!allK L f n) _ (hid (hi.mono (by
    rintro e w' ⟨⟨r, rfl, h⟩, hb2⟩
    refine ⟨⟨r, rfl, ?_⟩, hb2⟩
    rcases h with ⟨h, i, hi, hh⟩ | ⟨h, hh⟩
    · rw [allK_no hi hh]; exact h
    · rw [allK_yes hh]; exact h)))
  have := have_core p (.slice a n cap) (!allK L f n) w (hid (hc.mono fun e w' y => ⟨y.1, hb.trans (y.2.mono hb.size)⟩))
  rw [Bool.not_not] at this
  exact this

/-- the nodes of some keys that are there: their pointers -/
def nodesL (L : List Ent) (f : Nat → Key) (n : Nat) : List Value := (List.range n).filterMap fun i => if hasK L (f i) then some (nptr L (f i)) else none
theorem nodesL_yes {L : List Ent} {f : Nat → Key} {n : Nat} (h : hasK L (f n) = true) : nodesL L f (n + 1) = nodesL L f n ++ [nptr L (f n)] := by
  unfold nodesL; rw [List.range_succ, List.filterMap_append]; simp [h]
theorem nodesL_no {L : List Ent} {f : Nat → Key} {n : Nat} (h : hasK L (f n) = false) : nodesL L f (n + 1) = nodesL L f n := by
  unfold nodesL; rw [List.range_succ, List.filterMap_append]; simp [h]
theorem nodesL_len (L : List Ent) (f : Nat → Key) (n : Nat) : (nodesL L f n).length ≤ n := by
  unfold nodesL
  exact Nat.le_trans (List.length_filterMap_le _ _) (by simp)

theorem infoPtr : (Try.prog.info? 49).map (fun i => (i.zero, i.size, i.bytes)) = some (some (.pointer none), 1, 8) := by kernel_rfl

end Go.Proofs.Ytnloedhcginopaa.TreE

/- The nodes of a tree: those of some keys. -/
namespace Go.Proofs.Ytnloedhcginopaa.TreF
set_option linter.unusedVariables false
open Go.ChangeShapes Go.WideShapes Go.ChangeAt Go.RowKit Base Wri Map TreA TreB TreC TreD TreE WinM WinC WinE StaA StaB StaC

theorem cell_one (W : World) (u : Value) (T : TypeId) : ∀ (j : Nat) (x : Value), [u][j]? = some x → (W.alloc (.cells #[u] T)).cell? ((⟨W.heap.size, 0, none⟩ : Addr).add j) = some x := by
  intro j x hx
  match j, hx with
  | 0, hx =>
    obtain rfl := Option.some.inj hx
    have hnn := heap_alloc_new W (.cells #[u] T)
    rw [Go.WideShapes.add_plain, Nat.zero_add]
    simp only [World.cell?, hnn]
    simp
  | j + 1, hx => simp at hx

theorem row_below {w w' : World} {B : Nat} {v : Value} {n : Nat} {xs : List Value} {T : TypeId} (h : w.ownsRow B T 1 v n xs) (hb : Below w.heap.size w w') : w'.ownsRow B T 1 v n xs := owns_keep h (fun g hg => hb.block g (h.lt g hg).2)

set_option maxRecDepth 20000 in
set_option maxHeartbeats 4000000 in
theorem nodesOf_any (p b : Nat) (a : Option Addr) (n cap : Nat) (f : Nat → Key) (L : List Ent) (w : World) (hn : n ≤ 1000000) (hf : ∀ i, i < n → (f i).Fit) (hk : KAt w a n f) (h1 : w.cell? ⟨p, 0, none⟩ = some (.map (some b))) (hm : NMap w b L) :
    Calls Try.prog 26 #[ptr p, .slice a n cap] w fun e w' => (∃ v, e = .returned v ∧ w'.ownsRow w.heap.size 49 1 v (nodesL L f n).length (nodesL L f n)) ∧ Below w.heap.size w w' := by
  have HH := hid (And.intro hf (And.intro hk (And.intro h1 hm)))
  obtain ⟨i0, hi, hz0, hz1, hz2⟩ := info_parts infoPtr
  clear hf hk h1 hm
  go_enter Try.func26, Try.ntmps26
  go_wp2_with fail
  go_loopw [5, 11] (fun l i wr => ∃ (k m : Nat) (va : Option Addr) (vc : Nat), k ≤ n ∧ i = .int .i64 k ∧ l = .slice va m vc ∧ m = (nodesL L f k).length ∧ wr.ownsRow w.heap.size 49 1 (.slice va m vc) m (nodesL L f k) ∧ Below w.heap.size w wr) (fun _ i _ => n - (intOf i).toNat)
  case atStart => exact ⟨0, 0, none, 0, Nat.zero_le _, rfl, rfl, rfl, ⟨rfl, .inl ⟨rfl, rfl⟩⟩, Below.refl _ _⟩
  case round =>
    obtain ⟨k, m, va, vc, hk, rfl, rfl, hmm, hown, hb⟩ := hrel
    have HOwn := hid hown
    have HB := hid hb
    have HM := hid hmm
    clear hown hb hmm
    by_cases hlt : k < n
    · obtain ⟨hf, hka, h1, hm⟩ := HH.out
      obtain ⟨g, o, rfl, hg, hc⟩ := (hka.below HB.out) (by omega)
      obtain ⟨c0, c1, c2, c3⟩ := hc k hlt
      have k1 := kc' HB.out h1
      have HMap := hid (hm.of_block (HB.out.block b hm.lt))
      have HFk := hid (hf k hlt)
      clear hf hka h1 hm hc
      have hki : (k : Int) < n := by omega
      have hki0 : (0 : Int) ≤ k := by omega
      generalize hx : f k = x at *
      have HX := hid hx
      clear hx
      have hb1 : Below wr.heap.size wr (wr.alloc (.cells #[.int .u8 x.k, .string x.c, .string x.r, .string x.o] 30)) := (Below.refl _ _).alloc (Nat.le_refl _) _
      have e1 := kc' hb1 k1
      have b0 : (wr.alloc (.cells #[.int .u8 x.k, .string x.c, .string x.r, .string x.o] 30)).cell? ⟨wr.heap.size, 0, none⟩ = some (.int .u8 x.k) := by go_cell
      have b1 : (wr.alloc (.cells #[.int .u8 x.k, .string x.c, .string x.r, .string x.o] 30)).cell? ⟨wr.heap.size, 1, none⟩ = some (.string x.c) := by go_cell
      have b2 : (wr.alloc (.cells #[.int .u8 x.k, .string x.c, .string x.r, .string x.o] 30)).cell? ⟨wr.heap.size, 2, none⟩ = some (.string x.r) := by go_cell
      have b3 : (wr.alloc (.cells #[.int .u8 x.k, .string x.c, .string x.r, .string x.o] 30)).cell? ⟨wr.heap.size, 3, none⟩ = some (.string x.o) := by go_cell
      have hl : (Instr.lookup 55 (.map (some b)) (.agg #[.int .u8 x.k, .string x.c, .string x.r, .string x.o]) false).run Try.prog (wr.alloc (.cells #[.int .u8 x.k, .string x.c, .string x.r, .string x.o] 30)).drew = .ok (nptr L x) (wr.alloc (.cells #[.int .u8 x.k, .string x.c, .string x.r, .string x.o] 30)).drew := by
        have hbk : (wr.alloc (.cells #[.int .u8 x.k, .string x.c, .string x.r, .string x.o] 30)).drew.heap[b]? = wr.heap[b]? := heap_alloc_old wr _ HMap.out.lt
        exact (HMap.out.of_block hbk).look x HFk.out
      have hd : Below wr.heap.size wr (wr.alloc (.cells #[.int .u8 x.k, .string x.c, .string x.r, .string x.o] 30)).drew := hb1.drew
      go_upto_region 5 with fail
      clear c0 c1 c2 c3 k1
      generalize (wr.alloc (.cells #[.int .u8 x.k, .string x.c, .string x.r, .string x.o] 30)) = wb at *
      have HB2 : Hid (Below w.heap.size w wb.drew) := hid (HB.out.trans (hd.mono HB.out.size))
      have HO2 : Hid (wb.drew.ownsRow w.heap.size 49 1 (.slice va m vc) m (nodesL L f k)) := hid (row_below HOwn.out hd)
      have hsz : w.heap.size ≤ wb.drew.heap.size := HB2.out.size
      have HSz := hid hsz
      clear hb1 hd hsz
      have hmn : m ≤ k := by rw [HM.out]; exact nodesL_len L f k
      cases hh : hasK L x with
      | true =>
        obtain ⟨e, -, -, he⟩ := nptr_yes hh
        have HE := hid (And.intro hh he)
        rw [he] at hl
        clear hh he
        generalize e.S.n = q at *
        go_region
        have hown1 : (wb.drew.alloc (.cells #[ptr q] 49)).ownsRow w.heap.size 49 1 (.slice va m vc) m (nodesL L f k) := World.ownsRow.alloc HO2.out _
        go_wp2_with (at_builtin; (refine wpList_append_own_at _ rfl _ _ 63 rfl w.heap.size 49 i0 (.pointer none) 1 8 Try.underlying63 hi hz0 hz1 hz2 rfl (by decide) (Value.slice va m vc) _ _ rfl hown1 ⟨wb.drew.heap.size, 0, none⟩ 1 1 [ptr q] rfl ?c1 ?c2 ?c3 ?c4 ?c5 ?c6 ?_); rotate_left 6; intro v6 w6 hown6 hgr6 hnil6 hat6; obtain ⟨vb, vd, rfl⟩ := owns_shape hown6)
        case c1 => rfl
        case c2 =>
          exact cell_one wb.drew (ptr q) _
        case c3 => intro u hu; obtain rfl := List.mem_singleton.1 hu; rfl
        case c4 => unfold maxLen; omega
        case c5 => omega
        case c6 => exact Nat.le_trans HSz.out (by simp)
        have HB6 : Hid (Below w.heap.size w w6) := hid ((HB2.out.alloc HSz.out _).grown hgr6 (Nat.le_trans HSz.out (by simp)) (fun g hg => (HO2.out.lt g hg).1))
        have HO6 := hid hown6
        clear hown6 hgr6 hnil6 hat6 hown1
        go_roundw
        case rel => exact ⟨k + 1, m + 1, vb, vd, hlt, by go_num, by first | rfl | trivial, by rw [nodesL_yes (by rw [HX.out]; exact HE.out.1), List.length_append, ← HM.out]; rfl, by rw [nodesL_yes (by rw [HX.out]; exact HE.out.1), HX.out, HE.out.2]; exact HO6.out, HB6.out⟩
        case measure => simp [intOf]; omega
      | false =>
        have HE := hid hh
        rw [nptr_no hh] at hl
        clear hh
        go_region
        go_wp2_with fail
        go_roundw
        case rel => exact ⟨k + 1, m, va, vc, hlt, by go_num, by first | rfl | trivial, by rw [nodesL_no (by rw [HX.out]; exact HE.out)]; exact HM.out, by rw [nodesL_no (by rw [HX.out]; exact HE.out)]; exact HO2.out, HB2.out⟩
        case measure => simp [intOf]; omega
    · obtain rfl : k = n := by omega
      go_wp2_with fail
      go_ret
      exact ⟨⟨_, rfl, by rw [← HM.out]; exact HOwn.out⟩, HB.out⟩

end Go.Proofs.Ytnloedhcginopaa.TreF

/- The nodes of a tree: is one full, or empty. -/
namespace Go.Proofs.Ytnloedhcginopaa.TreG
set_option linter.unusedVariables false
open Go.ChangeShapes Go.WideShapes Go.ChangeAt Go.RowKit Base Wri Map TreA TreB TreC TreD TreE TreF WinM WinC WinE StaA StaB StaC

set_option maxHeartbeats 400000 in
theorem flight_at (p : Nat) (k : Int) (w : World) (h : w.cell? ⟨p, 0, none⟩ = some (.int .i64 k)) :
    Calls Try.prog 32 #[ptr p] w fun e w' => e = .returned (.int .i64 k) ∧ w = w' := by
  go_enter Try.func32, Try.ntmps32
  go_wp2_with fail
  go_ret
  exact ⟨rfl, rfl⟩

/-- n pointers to nodes in a row: what each has in flight -/
def PAt (w : World) (a : Option Addr) (n : Nat) (f : Nat → Nat) (k : Nat → Int) : Prop :=
  0 < n → ∃ g o, a = some ⟨g, o, none⟩ ∧ g < w.heap.size ∧ ∀ i, i < n → w.cell? ⟨g, o + i, none⟩ = some (ptr (f i)) ∧ w.cell? ⟨f i, 0, none⟩ = some (.int .i64 (k i))

theorem contains_nodes (v c : Value) (b : Bool) (w : World) (HI : Hid (Calls Try.prog 57 #[v, c] w fun e w' => (∃ r : Int, e = .returned (.int .i64 r) ∧ decide (0 ≤ r) = b) ∧ w = w')) :
    Calls Try.prog 33 #[v, c] w fun e w' => e = .returned (.bool b) ∧ w = w' := by
  go_enter Try.func33, Try.ntmps33
  go_wp2_with fail
  refine HI.out.mono ?_
  rintro e w2 ⟨⟨r, rfl, hr⟩, rfl⟩
  go_wp2
  go_ret
  exact ⟨by first | rfl | rw [hr] | simp [hr], rfl⟩

set_option maxHeartbeats 400000 in
theorem full_at (p : Nat) (k : Int) (b : Bool) (w : World) (h : w.cell? ⟨p, 0, none⟩ = some (.int .i64 k)) (hb : decide ((4096 : Int) ≤ k) = b) :
    Calls Try.prog 31 #[ptr p] w fun e w' => e = .returned (.bool b) ∧ w = w' := by
  have HF := hid (flight_at p k w h)
  clear h
  go_enter Try.func31, Try.ntmps31
  go_wp2_with fail
  refine HF.out.mono ?_
  rintro e w2 ⟨rfl, rfl⟩
  go_wp2
  go_ret
  exact ⟨by subst hb; rfl, rfl⟩

set_option maxRecDepth 20000 in
set_option maxHeartbeats 1000000 in
theorem index_full (a : Option Addr) (n cap : Nat) (f : Nat → Nat) (kf : Nat → Int) (w : World) (hn : n ≤ 9223372036854775807) (hp : PAt w a n f kf) :
    Calls Try.prog 57 #[.slice a n cap, .func (Fn.func 31) #[] #[]] w fun e w' => (∃ r : Int, e = .returned (.int .i64 r) ∧ (decide (0 ≤ r) = true ∧ (∃ i, i < n ∧ decide ((4096 : Int) ≤ kf i) = true) ∨ decide (0 ≤ r) = false ∧ ∀ i, i < n → decide ((4096 : Int) ≤ kf i) = false)) ∧ w = w' := by
  have HH := hid hp
  clear hp
  go_enter Try.func57, Try.ntmps57
  go_wp2_with fail
  go_loopw [8] (fun i wr => ∃ k : Nat, k ≤ n ∧ i = .int .i64 k ∧ (∀ i, i < k → decide ((4096 : Int) ≤ kf i) = false) ∧ w = wr) (fun i _ => n - (intOf i).toNat)
  case atStart => exact ⟨0, Nat.zero_le _, rfl, fun j hj => by omega, rfl⟩
  case round =>
    obtain ⟨k, hk, rfl, hno, rfl⟩ := hrel
    have HNo := hid hno
    clear hno
    by_cases hlt : k < n
    · obtain ⟨g, o, rfl, hg, hc⟩ := HH.out (by omega)
      obtain ⟨c0, c1⟩ := hc k hlt
      obtain ⟨b, hb⟩ : ∃ b : Bool, decide ((4096 : Int) ≤ kf k) = b := ⟨_, rfl⟩
      have HA := hid (full_at (f k) (kf k) b w c1 hb)
      have HBk := hid hb
      clear hc c1 hb
      have hki : (k : Int) < n := by omega
      have hki0 : (0 : Int) ≤ k := by omega
      generalize f k = q at *
      cases b with
      | false =>
        go_wp2_with fail
        refine HA.out.mono ?_
        rintro e w2 ⟨rfl, rfl⟩
        go_wp2_with fail
        go_roundw
        case rel => exact ⟨k + 1, by omega, by go_num, fun j hj => by by_cases e : j = k; (subst e; exact HBk.out); exact HNo.out j (by omega), by first | rfl | trivial⟩
        case measure => simp [intOf]; omega
      | true =>
        go_wp2_with fail
        refine HA.out.mono ?_
        rintro e w2 ⟨rfl, rfl⟩
        go_wp2_with fail
        go_ret
        exact ⟨⟨_, rfl, .inl ⟨decide_eq_true hki0, k, hlt, HBk.out⟩⟩, rfl⟩
    · obtain rfl : k = n := by omega
      go_wp2_with fail
      go_ret
      exact ⟨⟨_, rfl, .inr ⟨by decide, HNo.out⟩⟩, rfl⟩

def fullB (kf : Nat → Int) (n : Nat) : Bool := (List.range n).any fun i => decide ((4096 : Int) ≤ kf i)
theorem contains_full (a : Option Addr) (n cap : Nat) (f : Nat → Nat) (kf : Nat → Int) (w : World) (hn : n ≤ 9223372036854775807) (hp : PAt w a n f kf) :
    Calls Try.prog 33 #[.slice a n cap, .func (Fn.func 31) #[] #[]] w fun e w' => e = .returned (.bool (fullB kf n)) ∧ w = w' := by
  refine contains_nodes _ _ _ w (hid ((index_full a n cap f kf w hn hp).mono ?_))
  rintro e w' ⟨⟨r, rfl, h⟩, rfl⟩
  refine ⟨⟨r, rfl, ?_⟩, rfl⟩
  unfold fullB
  rcases h with ⟨h, i, hi, hh⟩ | ⟨h, hh⟩
  · rw [h]
    exact (List.any_eq_true.2 ⟨i, List.mem_range.2 hi, hh⟩).symm
  · rw [h]
    symm
    rw [List.any_eq_false]
    intro i hi
    rw [hh i (List.mem_range.1 hi)]
    decide

set_option maxHeartbeats 400000 in
theorem empty_at (p : Nat) (k : Int) (b : Bool) (w : World) (h : w.cell? ⟨p, 0, none⟩ = some (.int .i64 k)) (hb : (k == (0 : Int)) = b) :
    Calls Try.prog 39 #[ptr p] w fun e w' => e = .returned (.bool b) ∧ w = w' := by
  have HF := hid (flight_at p k w h)
  clear h
  go_enter Try.func39, Try.ntmps39
  go_wp2_with fail
  refine HF.out.mono ?_
  rintro e w2 ⟨rfl, rfl⟩
  go_wp2
  go_ret
  exact ⟨by subst hb; rfl, rfl⟩

set_option maxRecDepth 20000 in
set_option maxHeartbeats 1000000 in
theorem index_empty (a : Option Addr) (n cap : Nat) (f : Nat → Nat) (kf : Nat → Int) (w : World) (hn : n ≤ 9223372036854775807) (hp : PAt w a n f kf) :
    Calls Try.prog 57 #[.slice a n cap, .func (Fn.func 39) #[] #[]] w fun e w' => (∃ r : Int, e = .returned (.int .i64 r) ∧ (decide (0 ≤ r) = true ∧ (∃ i, i < n ∧ (kf i == (0 : Int)) = true) ∨ decide (0 ≤ r) = false ∧ ∀ i, i < n → (kf i == (0 : Int)) = false)) ∧ w = w' := by
  have HH := hid hp
  clear hp
  go_enter Try.func57, Try.ntmps57
  go_wp2_with fail
  go_loopw [8] (fun i wr => ∃ k : Nat, k ≤ n ∧ i = .int .i64 k ∧ (∀ i, i < k → (kf i == (0 : Int)) = false) ∧ w = wr) (fun i _ => n - (intOf i).toNat)
  case atStart => exact ⟨0, Nat.zero_le _, rfl, fun j hj => by omega, rfl⟩
  case round =>
    obtain ⟨k, hk, rfl, hno, rfl⟩ := hrel
    have HNo := hid hno
    clear hno
    by_cases hlt : k < n
    · obtain ⟨g, o, rfl, hg, hc⟩ := HH.out (by omega)
      obtain ⟨c0, c1⟩ := hc k hlt
      obtain ⟨b, hb⟩ : ∃ b : Bool, (kf k == (0 : Int)) = b := ⟨_, rfl⟩
      have HA := hid (empty_at (f k) (kf k) b w c1 hb)
      have HBk := hid hb
      clear hc c1 hb
      have hki : (k : Int) < n := by omega
      have hki0 : (0 : Int) ≤ k := by omega
      generalize f k = q at *
      cases b with
      | false =>
        go_wp2_with fail
        refine HA.out.mono ?_
        rintro e w2 ⟨rfl, rfl⟩
        go_wp2_with fail
        go_roundw
        case rel => exact ⟨k + 1, by omega, by go_num, fun j hj => by by_cases e : j = k; (subst e; exact HBk.out); exact HNo.out j (by omega), by first | rfl | trivial⟩
        case measure => simp [intOf]; omega
      | true =>
        go_wp2_with fail
        refine HA.out.mono ?_
        rintro e w2 ⟨rfl, rfl⟩
        go_wp2_with fail
        go_ret
        exact ⟨⟨_, rfl, .inl ⟨decide_eq_true hki0, k, hlt, HBk.out⟩⟩, rfl⟩
    · obtain rfl : k = n := by omega
      go_wp2_with fail
      go_ret
      exact ⟨⟨_, rfl, .inr ⟨by decide, HNo.out⟩⟩, rfl⟩

def emptyB (kf : Nat → Int) (n : Nat) : Bool := (List.range n).any fun i => (kf i == (0 : Int))
theorem contains_empty (a : Option Addr) (n cap : Nat) (f : Nat → Nat) (kf : Nat → Int) (w : World) (hn : n ≤ 9223372036854775807) (hp : PAt w a n f kf) :
    Calls Try.prog 33 #[.slice a n cap, .func (Fn.func 39) #[] #[]] w fun e w' => e = .returned (.bool (emptyB kf n)) ∧ w = w' := by
  refine contains_nodes _ _ _ w (hid ((index_empty a n cap f kf w hn hp).mono ?_))
  rintro e w' ⟨⟨r, rfl, h⟩, rfl⟩
  refine ⟨⟨r, rfl, ?_⟩, rfl⟩
  unfold emptyB
  rcases h with ⟨h, i, hi, hh⟩ | ⟨h, hh⟩
  · rw [h]
    exact (List.any_eq_true.2 ⟨i, List.mem_range.2 hi, hh⟩).symm
  · rw [h]
    symm
    rw [List.any_eq_false]
    intro i hi
    rw [hh i (List.mem_range.1 hi)]
    decide

end Go.Proofs.Ytnloedhcginopaa.TreG

/- A map that is filled by new keys alone: its entries in their order (grow's fresh). -/
namespace Go.Proofs.Ytnloedhcginopaa.TreH
set_option linter.unusedVariables false
open Go.ChangeShapes Go.WideShapes Go.ChangeAt Go.RowKit Base Wri Map TreA TreB TreC TreD
open Go.Maps (Keyed)
open Go.ChangeMaps (setBlock modify_eq_set)

def ents (l : List (Key × Nat)) : List MapEntry := l.mapIdx fun i e => ⟨kv e.1, ptr e.2, i⟩
theorem ents_snoc (l : List (Key × Nat)) (e : Key × Nat) : ents (l ++ [e]) = ents l ++ [⟨kv e.1, ptr e.2, l.length⟩] := by
  unfold ents
  rw [List.mapIdx_append]
  simp
theorem ents_len (l : List (Key × Nat)) : (ents l).length = l.length := by unfold ents; simp
theorem ents_mem {l : List (Key × Nat)} {x : MapEntry} (h : x ∈ ents l) : ∃ e, e ∈ l ∧ x.key = kv e.1 ∧ x.val = ptr e.2 ∧ x.born < l.length := by
  unfold ents at h
  obtain ⟨i, hi, rfl⟩ := List.mem_mapIdx.1 h
  exact ⟨l[i], List.getElem_mem hi, rfl, rfl, hi⟩

/-- block b is a map into which the entries of l were laid, each key once -/
def Fresh (w : World) (b : Nat) (l : List (Key × Nat)) : Prop :=
  w.heap[b]? = some (.map (ents l).toArray l.length) ∧ (l.map (·.1)).Nodup ∧ ∀ e ∈ l, e.1.Fit

theorem Fresh.made (w : World) : Fresh (w.alloc (.map #[] 0)) w.heap.size [] := ⟨heap_alloc_new w _, List.nodup_nil, fun _ h => by cases h⟩
theorem Fresh.of_block {w w' : World} {b : Nat} {l : List (Key × Nat)} (h : Fresh w b l) (e : w'.heap[b]? = w.heap[b]?) : Fresh w' b l := ⟨e.trans h.1, h.2⟩
theorem Fresh.lt {w : World} {b : Nat} {l : List (Key × Nat)} (h : Fresh w b l) : b < w.heap.size := (Array.getElem?_eq_some_iff.1 h.1).1
theorem Fresh.keys {w : World} {b : Nat} {l : List (Key × Nat)} (h : Fresh w b l) : ∀ x ∈ (ents l).toArray.toList, ∃ kl, keyOf Try.prog 30 x.key = some kl := fun x hx => by
  obtain ⟨e, he, hk, -, -⟩ := ents_mem (by simpa using hx)
  obtain ⟨kl, hkl⟩ := key_of e.1 (h.2.2 e he)
  exact ⟨kl, by rw [hk]; exact hkl⟩

/-- a key that is not there yet -/
theorem Fresh.store {w : World} {b : Nat} {l : List (Key × Nat)} (h : Fresh w b l) (x : Key) (q : Nat) (hx : x.Fit) (hn : x ∉ l.map (·.1)) :
    ∃ w', (Instr.mapUpdate 55 (.map (some b)) (kv x) (ptr q)).run Try.prog w = .ok () w' ∧ Fresh w' b (l ++ [(x, q)]) ∧ Wr (fun j => j = b) w w' := by
  have hks := h.keys
  obtain ⟨hb, hnd, hf⟩ := id h
  obtain ⟨kl, hkl⟩ := key_of x hx
  rcases keyed.find w hkl (ents l).toArray.toList hks with ⟨h1, h2⟩ | ⟨j, e0, h1, h2, h3⟩
  · refine ⟨setBlock w b (.map ((ents l).toArray.push ⟨kv x, ptr q, l.length⟩) (l.length + 1)), ?_, ⟨?_, ?_, ?_⟩, wr_set _⟩
    · simp [Instr.mapUpdate, run_underlying Try.underlying55, MapKept.run_getObj_map hb, keyed.check w false hkl, h1, MapKept.run_setObj_map _ hb, Result.andThen, setBlock]
    · rw [heap_set_same hb, ents_snoc]
      simp
    · rw [List.map_append, List.nodup_append]
      refine ⟨hnd, by simp, fun a ha c hc e => ?_⟩
      obtain rfl := List.mem_singleton.1 hc
      exact hn (e ▸ ha)
    · intro e he
      rcases List.mem_append.1 he with he | he
      · exact hf e he
      · obtain rfl := List.mem_singleton.1 he
        exact hx
  · exfalso
    obtain ⟨e, he, hk, -, -⟩ := ents_mem (l := l) (x := e0) (by have := List.mem_of_getElem? h2; simpa using this)
    rw [h3] at hk
    exact hn (by rw [kv_inj hk]; exact List.mem_map.2 ⟨e, he, rfl⟩)

/-- looked for -/
theorem Fresh.look {w : World} {b : Nat} {l : List (Key × Nat)} (h : Fresh w b l) (x : Key) (hx : x.Fit) :
    (x ∉ l.map (·.1) ∧ (Instr.lookup 55 (.map (some b)) (kv x) false).run Try.prog w = .ok (.pointer none) w) ∨
    (x ∈ l.map (·.1) ∧ ∃ q, (x, q) ∈ l ∧ (Instr.lookup 55 (.map (some b)) (kv x) false).run Try.prog w = .ok (ptr q) w) := by
  have hks := h.keys
  obtain ⟨hb, hnd, hf⟩ := id h
  obtain ⟨kl, hkl⟩ := key_of x hx
  have hz := zeroN w
  rcases keyed.find w hkl (ents l).toArray.toList hks with ⟨h1, h2⟩ | ⟨j, e0, h1, h2, h3⟩
  · left
    refine ⟨fun hm => ?_, ?_⟩
    · obtain ⟨e, he, hk⟩ := List.mem_map.1 hm
      obtain ⟨i, hi, rfl⟩ := List.getElem_of_mem he
      have hmem : (⟨kv l[i].1, ptr l[i].2, i⟩ : MapEntry) ∈ (ents l).toArray.toList := by
        show _ ∈ ents l
        unfold ents
        exact List.mem_mapIdx.2 ⟨i, hi, rfl⟩
      exact h2 _ hmem (by show kv l[i].1 = kv x; rw [hk])
    · simp [Instr.lookup, run_underlying Try.underlying55, MapKept.run_getObj_map hb, keyed.check w _ hkl, h1, hz, Result.andThen]
  · right
    obtain ⟨e, he, hk, hv, -⟩ := ents_mem (l := l) (x := e0) (by have := List.mem_of_getElem? h2; simpa using this)
    have hxe : x = e.1 := kv_inj (by rw [← h3, hk])
    refine ⟨by rw [hxe]; exact List.mem_map.2 ⟨e, he, rfl⟩, e.2, by rw [hxe]; exact he, ?_⟩
    have hj : (ents l)[j]? = some e0 := by simpa using h2
    simp [Instr.lookup, run_underlying Try.underlying55, MapKept.run_getObj_map hb, keyed.check w _ hkl, h1, Result.andThen, hv]

end Go.Proofs.Ytnloedhcginopaa.TreH

/- maps.Copy from a map that was filled by new keys. -/
namespace Go.Proofs.Ytnloedhcginopaa.TreJ
set_option linter.unusedVariables false
open Go.ChangeShapes Go.WideShapes Go.ChangeAt Go.RowKit Base Wri Map TreA TreB TreC TreD TreH
open Go.Maps (Keyed)
open Go.ChangeMaps (setBlock modify_eq_set)

theorem ents_nodup (l : List (Key × Nat)) : ((ents l).toArray.toList.map (·.born)).Nodup := by
  have : (ents l).map (·.born) = List.range l.length := by
    apply List.ext_getElem
    · simp [ents]
    · intro i h1 h2
      simp [ents]
  show ((ents l).map (·.born)).Nodup
  rw [this]
  exact List.nodup_range

/-- what the target holds when those entries of l have come whose numbers were seen -/
def Got (l : List (Key × Nat)) (seen : Array Nat) (F0 F : Value → Option Value) : Prop :=
  (∀ x ∈ ents l, seen.contains x.born = true → F x.key = some x.val) ∧ ∀ q, (∀ x ∈ ents l, seen.contains x.born = true → q ≠ x.key) → F q = F0 q

structure Cp (w0 : World) (l : List (Key × Nat)) (F0 : Value → Option Value) (bd bs r : Nat) (seen : Array Nat) (wr : World) : Prop where
  it : ∃ c0, l.length ≤ c0 ∧ wr.heap[r]? = some (.mapIter (some bs) l.length seen c0)
  src : Fresh wr bs l
  dst : ∃ F n, MapOf Try.prog 30 wr bd F n ∧ Got l seen F0 F
  wrs : Wr (fun k => k = bd) w0 wr
  new : w0.heap.size ≤ r

theorem key_once {l : List (Key × Nat)} (hnd : (l.map (·.1)).Nodup) {x y : MapEntry} (hx : x ∈ ents l) (hy : y ∈ ents l) (h : x.key = y.key) : x = y := by
  unfold ents at hx hy
  obtain ⟨i, hi, rfl⟩ := List.mem_mapIdx.1 hx
  obtain ⟨j, hj, rfl⟩ := List.mem_mapIdx.1 hy
  have hk : l[i].1 = l[j].1 := kv_inj h
  have : i = j := by
    have h1 : (l.map (·.1))[i]'(by simpa using hi) = (l.map (·.1))[j]'(by simpa using hj) := by simpa using hk
    have hp := List.pairwise_iff_getElem.1 hnd
    rcases Nat.lt_trichotomy i j with h | h | h
    · exact absurd h1 (hp i j (by simpa using hi) (by simpa using hj) h)
    · exact h
    · exact absurd h1.symm (hp j i (by simpa using hj) (by simpa using hi) h)
  subst this
  rfl

theorem born_once {l : List (Key × Nat)} {x y : MapEntry} (hx : x ∈ ents l) (hy : y ∈ ents l) (h : x.born = y.born) : x = y := by
  unfold ents at hx hy
  obtain ⟨i, hi, rfl⟩ := List.mem_mapIdx.1 hx
  obtain ⟨j, hj, rfl⟩ := List.mem_mapIdx.1 hy
  have : i = j := h
  subst this
  rfl

theorem Got.start (l : List (Key × Nat)) (F0 : Value → Option Value) : Got l #[] F0 F0 := ⟨fun x _ h => by simp at h, fun q _ => rfl⟩
theorem Got.step {l : List (Key × Nat)} {seen : Array Nat} {F0 F : Value → Option Value} (h : Got l seen F0 F) (hnd : (l.map (·.1)).Nodup) {e : MapEntry} (he : e ∈ ents l) : Got l (seen.push e.born) F0 (put F e.key e.val) := by
  refine ⟨fun x hx hs => ?_, fun q hq => ?_⟩
  · by_cases hk : x.key = e.key
    · obtain rfl := key_once hnd hx he hk
      exact put_same _ _ _
    · rw [put_other hk]
      refine h.1 x hx ?_
      rw [Array.contains_push] at hs
      simp only [Bool.or_eq_true, beq_iff_eq] at hs
      rcases hs with hs | hs
      · exact hs
      · exfalso
        apply hk
        have hb : x.born = e.born := by first | exact hs | exact hs.symm
        rw [born_once hx he hb]
  · have h1 : q ≠ e.key := hq e he (by rw [Array.contains_push]; simp)
    rw [put_other h1]
    exact h.2 q fun x hx hs => hq x hx (by rw [Array.contains_push, hs]; simp)

end Go.Proofs.Ytnloedhcginopaa.TreJ

/- maps.Copy from a map that was filled by new keys: the walk. -/
namespace Go.Proofs.Ytnloedhcginopaa.TreK
set_option linter.unusedVariables false
open Go.ChangeShapes Go.WideShapes Go.ChangeAt Go.RowKit Base Wri Map TreA TreB TreC TreD TreH TreJ
open Go.Maps (Keyed)
open Go.ChangeMaps (setBlock modify_eq_set)

def mes (l : List (Key × Nat)) (r : Nat) (wr : World) : Nat := match wr.heap[r]? with
  | some (.mapIter _ _ seen _) => (leftOf (ents l).toArray seen).size
  | _ => 0

set_option maxRecDepth 20000 in
set_option maxHeartbeats 1000000 in
theorem copy_any (bd bs : Nat) (l : List (Key × Nat)) (F0 : Value → Option Value) (n0 : Nat) (w : World) (hd : MapOf Try.prog 30 w bd F0 n0) (hs : Fresh w bs l) (hne : bd ≠ bs) :
    Calls Try.prog 63 #[.map (some bd), .map (some bs)] w fun e w' => e = .returned (.tuple #[]) ∧ (∃ F n, MapOf Try.prog 30 w' bd F n ∧ (∀ x ∈ ents l, F x.key = some x.val) ∧ ∀ q, (∀ x ∈ ents l, q ≠ x.key) → F q = F0 q) ∧ Wr (fun k => k = bd) w w' := by
  have hrg := run_range_map w 55 30 49 bs (ents l).toArray l.length Try.underlying55 hs.1
  have C0 : Cp w l F0 bd bs w.heap.size #[] (w.alloc (.mapIter (some bs) l.length #[] l.length)) :=
    ⟨⟨_, Nat.le_refl _, heap_alloc_new w _⟩, hs.of_block (heap_alloc_old w _ hs.lt), ⟨F0, n0, hd.of_block (heap_alloc_old w _ hd.lt), Got.start l F0⟩, Wr.ofBelow ((Below.refl _ _).alloc (Nat.le_refl _) _), Nat.le_refl _⟩
  have HC := hid C0
  have HD := hid (And.intro hd.lt (And.intro hs.lt hs.2.1))
  clear C0 hd hs
  go_enter Try.func63, Try.ntmps63
  go_wp2_with fail
  generalize hr : w.heap.size = r at *
  go_loopw [8] (fun _ wr => ∃ seen, Cp w l F0 bd bs r seen wr) (fun _ wr => mes l r wr)
  case atStart => exact ⟨_, HC.out⟩
  case round =>
    obtain ⟨seen, hC⟩ := hrel
    obtain ⟨c0, hc0, hit⟩ := hC.it
    obtain ⟨hbd, hbs, hnd⟩ := HD.out
    have hCH := hid hC
    have hold : ∀ x ∈ (ents l).toArray.toList, x.born < l.length := fun x hx => by
      obtain ⟨e, -, -, -, h⟩ := ents_mem (l := l) (x := x) (by simpa using hx)
      exact h
    rcases run_next_at (P := Try.prog) wr 0 r bs l.length c0 seen (ents l).toArray l.length hit hC.src.1 hold hc0 with ⟨hz, hrun⟩ | ⟨e, he, w1, hw1, hrun⟩
    · have HF : Hid ((∃ F n, MapOf Try.prog 30 wr bd F n ∧ (∀ x ∈ ents l, F x.key = some x.val) ∧ ∀ q, (∀ x ∈ ents l, q ≠ x.key) → F q = F0 q) ∧ Wr (fun k => k = bd) w wr) := hid (by
        obtain ⟨F, n, h1, h2⟩ := hC.dst
        have hall := all_seen (ents l).toArray seen hz
        exact ⟨⟨F, n, h1, fun x hx => h2.1 x hx (hall x (by simpa using hx)), fun q hq => h2.2 q fun x hx _ => hq x hx⟩, hC.wrs⟩)
      clear hC hit hz hold hbd hbs hnd hc0
      go_wp2_with fail
      go_end0
      exact ⟨rfl, HF.out⟩
    · obtain ⟨hmem, hns⟩ := mem_left he
      have hme : e ∈ ents l := by simpa using hmem
      obtain ⟨y, hy, hk, hv, hlt⟩ := ents_mem hme
      have hfit : y.1.Fit := hC.src.2.2 y hy
      have hsh := left_shrinks (ents l).toArray seen e he
      have hr1 : r < wr.heap.size := (Array.getElem?_eq_some_iff.1 hit).1
      have hs1 : w1.heap = wr.heap := by rcases hw1 with rfl | rfl <;> rfl
      have g0 : (setBlock w1 r (.mapIter (some bs) l.length (seen.push e.born) l.length)).heap[r]? = some (.mapIter (some bs) l.length (seen.push e.born) l.length) := heap_set_same (o := .mapIter (some bs) l.length seen c0) (by rw [hs1]; exact hit)
      have g1 : ∀ k, k ≠ r → (setBlock w1 r (.mapIter (some bs) l.length (seen.push e.born) l.length)).heap[k]? = wr.heap[k]? := fun k hk => by
        show (w1.heap.setIfInBounds r _)[k]? = _
        rw [Array.getElem?_setIfInBounds_ne (fun e => hk e.symm), hs1]
      have hwr2 : Wr (fun k => k = bd ∨ k = r) w (setBlock w1 r (.mapIter (some bs) l.length (seen.push e.born) l.length)) := by
        have q1 : Wr (fun k => k = bd ∨ k = r) w w1 := by
          have := hC.wrs
          rcases hw1 with rfl | rfl
          · exact ⟨this.os, this.tape, this.output, this.size, fun k hk hn => this.block k hk fun e => hn (.inl e)⟩
          · exact ⟨this.os, this.tape, this.output, this.size, fun k hk hn => this.block k hk fun e => hn (.inl e)⟩
        exact q1.on (wr_set _) (fun k e => .inl (.inr e))
      obtain ⟨F, n, h1, h2⟩ := hC.dst
      generalize hW2 : setBlock w1 r (.mapIter (some bs) l.length (seen.push e.born) l.length) = W2 at *
      have hen := run_entry_at (P := Try.prog) W2 r bs l.length seen (ents l).toArray l.length e g0 ((g1 bs (by omega)).trans hC.src.1) hmem (ents_nodup l)
      rw [hk, hv] at hen hrun
      obtain ⟨x, q⟩ := y
      dsimp only at hk hv hfit hen hrun
      unfold kv at hen hrun
      have hd3 : MapOf Try.prog 30 (W2.alloc (.cells #[.int .u8 x.k, .string x.c, .string x.r, .string x.o] 30)) bd F n := (h1.of_block (g1 bd (by omega))).of_block (heap_alloc_old W2 _ ((h1.of_block (g1 bd (by omega))).lt))
      obtain ⟨kl, hkl⟩ := key_of x hfit
      obtain ⟨w4, hst, hd4, hw4⟩ := hd3.store keyed Try.underlying55 (val := ptr q) hkl
      unfold kv at hst
      have hr2 : r < W2.heap.size := (Array.getElem?_eq_some_iff.1 g0).1
      have hb2 : bs < W2.heap.size := Nat.lt_trans hbs hr2
      have i4 : w4.heap[r]? = some (.mapIter (some bs) l.length (seen.push e.born) l.length) := (hw4.block r (by simp; omega) (by omega)).trans ((heap_alloc_old W2 _ hr2).trans g0)
      have s4 : Fresh w4 bs l := hC.src.of_block ((hw4.block bs (by simp; omega) (fun e => hne e.symm)).trans ((heap_alloc_old W2 _ hb2).trans (g1 bs (by omega))))
      have HC4 : Hid (Cp w l F0 bd bs r (seen.push e.born) w4) := hid ⟨⟨_, Nat.le_refl _, i4⟩, s4, ⟨_, _, hd4, by have := h2.step hnd hme; rw [hk, hv] at this; exact this⟩, by
        have q2 := (hwr2.on (Wr.ofBelow (R := fun k => k = bd ∨ k = r) ((Below.refl _ W2).alloc (Nat.le_refl _) (.cells #[.int .u8 x.k, .string x.c, .string x.r, .string x.o] 30))) (fun k e => .inl e)).on hw4 (fun k e => .inl (.inl e))
        exact ⟨q2.os, q2.tape, q2.output, q2.size, fun k hk hn => q2.block k hk fun e => e.elim hn (fun e => by have := hC.new; omega)⟩, hC.new⟩
      have HM : Hid (mes l r w4 < mes l r wr) := hid (by unfold mes; rw [i4, hit]; exact hsh)
      clear hit hold he hw1 hmem hns hme hy hk hv hlt hsh hs1 g0 g1 hwr2 h1 h2 hW2 hd3 hd4 hw4 i4 s4 hC hkl hfit
      go_wp2_with fail
      go_roundw
      case rel => exact ⟨_, HC4.out⟩
      case measure => exact HM.out

end Go.Proofs.Ytnloedhcginopaa.TreK

/- Rows of keys behind rows of keys; a copy of such a row. -/
namespace Go.Proofs.Ytnloedhcginopaa.TreL
set_option linter.unusedVariables false
open Go.ChangeShapes Go.WideShapes Go.ChangeAt Go.RowKit Base Wri Map TreA TreB TreC TreD TreE TreF

theorem one4 (l : List Key) : ∀ u ∈ cellsL l, u.oneCell' = true := by
  intro u hu
  unfold cellsL at hu
  obtain ⟨x, hx, hu⟩ := List.mem_flatMap.1 hu
  unfold kl at hu
  simp at hu
  rcases hu with rfl | rfl | rfl | rfl <;> rfl
theorem cellsL_app (l m : List Key) : cellsL (l ++ m) = cellsL l ++ cellsL m := by unfold cellsL; simp

theorem run_append_keys (w : World) {B B2 : Nat} {v src : Value} {l m : List Key} (ty : TypeId) (hd : KRow w B v l) (hs : KRow w B2 src m) (hB : B ≤ w.heap.size) (hn : l.length + m.length ≤ 1000000000) :
    ∃ v' w', (Builtin.append_ #[26, 26] ty #[v, src]).run Try.prog w = .ok v' w' ∧ KRow w' B v' (l ++ m) ∧ w.grownBy w' v.ownBlock ∧ (v'.ownBlock = v.ownBlock ∨ v'.ownBlock = some w.heap.size) := by
  obtain ⟨i0, hi, hz0, hz1, hz2⟩ := info_parts infoKey
  by_cases hm0 : m = []
  · subst hm0
    refine ⟨v, w, ?_, by rw [List.append_nil]; exact hd, ⟨rfl, rfl, rfl, Nat.le_refl _, fun _ _ _ => rfl⟩, .inl rfl⟩
    obtain ⟨ax, cx, rfl⟩ := owns_shape hs
    have hsh : ∃ a c, v = .slice a l.length c ∧ l.length ≤ c := by
      rcases hd.2 with ⟨rfl, hl⟩ | ⟨g, cap, cur, rfl, _, _, hc, _⟩
      · exact ⟨none, 0, by rw [hl], by omega⟩
      · exact ⟨_, _, rfl, hc⟩
    obtain ⟨a, c, rfl, hc⟩ := hsh
    have h1 := Try.underlying26
    cases a <;> cases ax <;> simp [Builtin.append_, run_underlying h1, sizeOf, typeInfo, hi, Builtin.lenOf, hc, Builtin.firstCells, loadCells, loadCellsFrom, storeCells]
  · have hm : 0 < m.length := List.length_pos_iff.2 hm0
    rcases hs.2 with ⟨rfl, hz⟩ | ⟨g, cap, cur, rfl, hg, hgb, hc, hcm, hcs, htake⟩
    · omega
    · have hnews : ∀ j u, (cellsL m)[j]? = some u → w.cell? ((⟨g, 0, none⟩ : Addr).add j) = some u := World.ownsRow.cells hs (g := g) rfl
      obtain ⟨v', w', hr, h2, h3, h4, h5⟩ := run_append_own_at (P := Try.prog) w B 26 ty 30 i0 (.agg #[.int .u8 0, .string ⟨#[]⟩, .string ⟨#[]⟩, .string ⟨#[]⟩]) 4 56 Try.underlying26 hi hz0 hz1 hz2 rfl (by decide) v l.length (cellsL l) hd ⟨g, 0, none⟩ m.length cap (cellsL m) (cellsL_len m) hnews (one4 m) (by unfold maxLen; omega) (by omega) hB
      refine ⟨v', w', hr, ?_, h3, h5⟩
      unfold KRow
      rw [cellsL_app, List.length_append]
      exact h2

theorem wpList_append_keys {ops : Array Oper} {rest : List Oper} {w : World} {op : Oper} {a : Act} {Q : Exit → Act → World → Prop} (hgd : op.guard = none) (s0 x0 : Operand)
    (ho : op.op = .call { callee := .builtin .append, args := #[s0, x0], argTypes := #[26, 26] })
    {B B2 : Nat} {v src : Value} {l m : List Key} (hs : a.eval s0 = v) (hx : a.eval x0 = src) (hd : KRow w B v l) (hsr : KRow w B2 src m) (hB : B ≤ w.heap.size) (hn : l.length + m.length ≤ 1000000000)
    (h : ∀ v' w', KRow w' B v' (l ++ m) → w.grownBy w' v.ownBlock → (v'.ownBlock = v.ownBlock ∨ v'.ownBlock = some w.heap.size) → wpList Try.prog ops Q rest (a.put op.dst v') w') :
    wpList Try.prog ops Q (op :: rest) a w := by
  refine wpList_plain hgd fun K hK => ?_
  obtain ⟨v', w', hr, h3, h4, h5⟩ := run_append_keys w op.type hd hsr hB hn
  unfold Oper.wp execOp
  simp only [ho, resolve, invoke, builtin, Sem.run_bind, Sem.run_pure, Result.andThen_ok, List.map_toArray, List.map_cons, List.map_nil, hs, hx, hr]
  exact hK _ _ (h v' w' h3 h4 h5)

theorem KRow.below {w w' : World} {B : Nat} {v : Value} {l : List Key} (h : KRow w B v l) (hb : Below w.heap.size w w') : KRow w' B v l := owns_keep h (fun g hg => hb.block g (World.ownsRow.lt h g hg).2)
theorem KRow.keep {w w' : World} {B : Nat} {v : Value} {l : List Key} (h : KRow w B v l) (hb : ∀ g, v.ownBlock = some g → w'.heap[g]? = w.heap[g]?) : KRow w' B v l := owns_keep h hb
theorem KRow.has {w : World} {B : Nat} {v : Value} {l : List Key} (h : KRow w B v l) (g : Nat) (hg : v.ownBlock = some g) : B ≤ g ∧ g < w.heap.size := World.ownsRow.lt h g hg

theorem cellsL_at (l : List Key) (i : Nat) (x : Key) (h : l[i]? = some x) : (cellsL l)[i * 4]? = some (.int .u8 x.k) ∧ (cellsL l)[i * 4 + 1]? = some (.string x.c) ∧ (cellsL l)[i * 4 + 2]? = some (.string x.r) ∧ (cellsL l)[i * 4 + 3]? = some (.string x.o) := by
  induction l generalizing i with
  | nil => simp at h
  | cons y t ih =>
    have e : cellsL (y :: t) = kl y ++ cellsL t := by unfold cellsL; simp
    have hl : (kl y).length = 4 := rfl
    rw [e]
    match i, h with
    | 0, h =>
      obtain rfl := Option.some.inj h
      exact ⟨rfl, rfl, rfl, rfl⟩
    | i + 1, h =>
      have h' : t[i]? = some x := h
      obtain ⟨h0, h1, h2, h3⟩ := ih i h'
      refine ⟨?_, ?_, ?_, ?_⟩
      · rw [List.getElem?_append_right (by rw [hl]; omega), hl, show (i + 1) * 4 - 4 = i * 4 by omega]; exact h0
      · rw [List.getElem?_append_right (by rw [hl]; omega), hl, show (i + 1) * 4 + 1 - 4 = i * 4 + 1 by omega]; exact h1
      · rw [List.getElem?_append_right (by rw [hl]; omega), hl, show (i + 1) * 4 + 2 - 4 = i * 4 + 2 by omega]; exact h2
      · rw [List.getElem?_append_right (by rw [hl]; omega), hl, show (i + 1) * 4 + 3 - 4 = i * 4 + 3 by omega]; exact h3

/-- a row of keys as keys that lie in memory -/
theorem KRow.at {w : World} {B : Nat} {v : Value} {l : List Key} (h : KRow w B v l) : ∃ a cap, v = .slice a l.length cap ∧ KAt w a l.length (fun i => l.getD i default) ∧ l.length ≤ 9223372036854775807 := by
  rcases h.2 with ⟨rfl, hz⟩ | ⟨g, cap, cur, rfl, hg, hgb, hc, hcm, hcs, htake⟩
  · exact ⟨none, 0, by rw [hz], fun h0 => by omega, by omega⟩
  · refine ⟨_, _, rfl, fun h0 => ⟨g, 0, rfl, (Array.getElem?_eq_some_iff.1 hgb).1, fun i hi => ?_⟩, by unfold maxLen at hcm; omega⟩
    have hx : l[i]? = some (l.getD i default) := by rw [List.getD_eq_getElem?_getD, List.getElem?_eq_getElem hi]; rfl
    obtain ⟨h0, h1, h2, h3⟩ := cellsL_at l i _ hx
    have hcell : ∀ j u, (cellsL l)[j]? = some u → w.cell? ⟨g, j, none⟩ = some u := fun j u hu => by
      have := World.ownsRow.cells h (g := g) rfl j u hu
      rwa [Go.WideShapes.add_plain, Nat.zero_add] at this
    simp only [Nat.zero_add]
    exact ⟨hcell _ _ h0, hcell _ _ h1, hcell _ _ h2, hcell _ _ h3⟩

end Go.Proofs.Ytnloedhcginopaa.TreL

/- A tree as a list of keys with their nodes: pure. -/
namespace Go.Proofs.Ytnloedhcginopaa.TreP
set_option linter.unusedVariables false
open WinM StaB StaC TreA TreB TreC

/-- the keys that come anew, each once, in order -/
def news (K l : List Key) : List Key := l.foldl (fun a x => if x ∈ K ∨ x ∈ a then a else a ++ [x]) []
theorem news_nil (K : List Key) : news K [] = [] := rfl
theorem news_snoc (K l : List Key) (x : Key) : news K (l ++ [x]) = if x ∈ K ∨ x ∈ news K l then news K l else news K l ++ [x] := by unfold news; simp [List.foldl_append]

theorem rev_ind {α : Type} {P : List α → Prop} (h0 : P []) (h1 : ∀ l x, P l → P (l ++ [x])) : ∀ l, P l := by
  intro l
  rw [← List.reverse_reverse l]
  induction l.reverse with
  | nil => exact h0
  | cons x t ih => rw [List.reverse_cons]; exact h1 _ _ ih

theorem news_mem (K l : List Key) (x : Key) : x ∈ news K l ↔ x ∈ l ∧ x ∉ K := by
  revert x
  refine rev_ind (P := fun l => ∀ x, x ∈ news K l ↔ x ∈ l ∧ x ∉ K) (by simp [news_nil]) ?_ l
  intro l y ih x
  rw [news_snoc]
  split
  · rename_i h
    rw [ih]
    constructor
    · intro h2; exact ⟨List.mem_append_left _ h2.1, h2.2⟩
    · rintro ⟨h2, h3⟩
      refine ⟨?_, h3⟩
      rcases List.mem_append.1 h2 with h2 | h2
      · exact h2
      · obtain rfl := List.mem_singleton.1 h2
        rcases h with h | h
        · exact absurd h h3
        · exact ((ih x).1 h).1
  · rename_i h
    rw [List.mem_append, ih, List.mem_append, List.mem_singleton]
    constructor
    · rintro (h2 | rfl)
      · exact ⟨.inl h2.1, h2.2⟩
      · exact ⟨.inr rfl, fun h3 => h (.inl h3)⟩
    · rintro ⟨h2 | rfl, h3⟩
      · exact .inl ⟨h2, h3⟩
      · exact .inr rfl
theorem news_nodup (K l : List Key) : (news K l).Nodup := by
  refine rev_ind (P := fun l => (news K l).Nodup) (by simp [news_nil]) ?_ l
  intro l y ih
  rw [news_snoc]
  split
  · exact ih
  · rename_i h
    rw [List.nodup_append]
    refine ⟨ih, by simp, fun a ha b hb e => ?_⟩
    obtain rfl := List.mem_singleton.1 hb
    exact h (.inr (e ▸ ha))
theorem news_app (K l m : List Key) : ∃ r, news K (l ++ m) = news K l ++ r := by
  refine rev_ind (P := fun m => ∃ r, news K (l ++ m) = news K l ++ r) ⟨[], by simp⟩ ?_ m
  rintro m y ⟨r, hr⟩
  rw [← List.append_assoc, news_snoc]
  split
  · exact ⟨r, hr⟩
  · exact ⟨r ++ [y], by rw [hr, List.append_assoc]⟩
theorem news_len (K l : List Key) : (news K l).length ≤ l.length := by
  refine rev_ind (P := fun l => (news K l).length ≤ l.length) (by simp [news_nil]) ?_ l
  intro l y ih
  rw [news_snoc]
  split <;> simp <;> omega
theorem news_all (K l : List Key) (h : ∀ x ∈ l, x ∈ K) : news K l = [] := by
  have := fun x => news_mem K l x
  cases hn : news K l with
  | nil => rfl
  | cons y t =>
    have := (this y).1 (by rw [hn]; simp)
    exact absurd (h y this.1) this.2

/-- a tree: keys with their nodes, and the greatest time -/
structure St where
  ks : List (Key × Nd)
  last : Nat

def St.keys (s : St) : List Key := s.ks.map (·.1)
/-- may these keys have nodes -/
def St.full (s : St) (l : List Key) : Bool := decide (512 < s.ks.length + (news s.keys l).length)
def St.grow (s : St) (l : List Key) : St := { s with ks := s.ks ++ (news s.keys l).map fun x => (x, Nd.new) }
/-- the same with all nodes of some keys -/
def eachK (l : List Key) (g : Nd → Nd) (ks : List (Key × Nd)) : List (Key × Nd) := ks.map fun e => if e.1 ∈ l then (e.1, g e.2) else e
theorem eachK_nil (g : Nd → Nd) (ks : List (Key × Nd)) : eachK [] g ks = ks := by unfold eachK; simp
theorem eachK_keys (l : List Key) (g : Nd → Nd) (ks : List (Key × Nd)) : (eachK l g ks).map (·.1) = ks.map (·.1) := by
  unfold eachK
  rw [List.map_map]
  refine List.map_congr_left fun e _ => ?_
  simp only [Function.comp]
  split <;> rfl
theorem eachK_snoc (l : List Key) (x : Key) (g : Nd → Nd) (ks : List (Key × Nd)) (hx : x ∉ l) : eachK (l ++ [x]) g ks = (eachK l g ks).map fun e => if e.1 = x then (e.1, g e.2) else e := by
  unfold eachK
  rw [List.map_map]
  refine List.map_congr_left fun e _ => ?_
  simp only [Function.comp]
  by_cases h1 : e.1 ∈ l
  · have h2 : e.1 ≠ x := fun h => hx (h ▸ h1)
    simp [h1, h2]
  · by_cases h2 : e.1 = x
    · simp [h2, hx]
    · simp [h1, h2]

def St.come (s : St) (at_ : Nat) (l : List Key) (g : Nd → Nd) : St := ⟨eachK l g (s.grow l).ks, at_⟩
theorem grow_keys (s : St) (l : List Key) : (s.grow l).keys = s.keys ++ news s.keys l := by
  unfold St.grow St.keys
  simp only [List.map_append, List.map_map]
  congr 1
  induction news (List.map (·.1) s.ks) l with
  | nil => rfl
  | cons x t ih => simp [ih]
theorem come_keys (s : St) (at_ : Nat) (l : List Key) (g : Nd → Nd) : (s.come at_ l g).keys = s.keys ++ news s.keys l := by
  unfold St.come
  rw [← grow_keys]
  unfold St.keys
  exact eachK_keys _ _ _
theorem grow_has (s : St) (l : List Key) (x : Key) (h : x ∈ l) : x ∈ (s.grow l).keys := by
  rw [grow_keys, List.mem_append, news_mem]
  by_cases hk : x ∈ s.keys
  · exact .inl hk
  · exact .inr ⟨h, hk⟩

theorem keysOf_nodup (c r o : ByteArray) (inb : Bool) : (keysOf c r o inb).Nodup := by
  unfold keysOf
  by_cases ho : o = emp <;> cases inb <;> simp [ho]

end Go.Proofs.Ytnloedhcginopaa.TreP

/- A tree in memory: whose blocks are whose is told by a number for each. -/
namespace Go.Proofs.Ytnloedhcginopaa.TreQ
set_option linter.unusedVariables false
open Go.ChangeShapes Go.WideShapes Go.ChangeAt Go.RowKit Base Wri Map TreA TreB TreC TreD TreE TreF TreG TreH TreJ TreK TreL TreP WinM WinA WinB WinC WinD WinE WinF WinG WinH WinI WinJ WinK WinN StaA StaB StaC

/-- what a node keeps -/
structure NK (N : Nd) (last : Nat) : Prop where
  ok : N.Ok last
  t1 : Tidy 100000 N.sec last
  t2 : Tidy 1000000 N.pair last
  r1 : ∀ x ∈ N.sec.bs, x.c.Right

theorem zero_right : (Cnt.mk 0 0 0 0 0 0).Right := by unfold Cnt.Right Cnt.Fine InN; decide
theorem joinM_right {a b : Cnt} (ha : a.Right) (hb : b.Right) : (joinM a b).Right := by
  refine ⟨joinM_fine ha.1 hb.1, ?_, ?_, ?_⟩
  · have h1 := ha.2.1
    have h2 := hb.2.1
    simp only [joinM, plusM]
    split <;> split <;> omega
  · have h1 := ha.2.2.1
    have h2 := hb.2.2.1
    have f1 := ha.1
    have f2 := hb.1
    unfold Cnt.Fine InN at f1 f2
    simp only [joinM, plusM, leastM]
    split <;> split <;> (try split) <;> omega
  · have h1 := ha.2.2.2
    have h2 := hb.2.2.2
    have f1 := ha.1
    have f2 := hb.1
    unfold Cnt.Fine InN at f1 f2
    simp only [joinM, plusM]
    rintro ⟨h3, h4⟩
    split at h3 <;> split at h4 <;> omega
theorem noteM_right {b : Int} {c : Cnt} {l : List Bkt} (hc : c.Right) (h : ∀ x ∈ l, x.c.Right) : ∀ x ∈ noteM b c l, x.c.Right := by
  unfold noteM
  cases hg : l.getLast? with
  | none => intro x hx; obtain rfl := List.mem_singleton.1 hx; exact joinM_right zero_right hc
  | some y =>
    have hy := h y (List.mem_of_getLast? hg)
    dsimp only
    split
    · intro x hx
      rcases List.mem_append.1 hx with hx | hx
      · rw [List.dropLast_eq_take] at hx; exact h x (List.mem_of_mem_take hx)
      · obtain rfl := List.mem_singleton.1 hx; exact joinM_right hy hc
    · intro x hx
      rcases List.mem_append.1 hx with hx | hx
      · exact h x hx
      · obtain rfl := List.mem_singleton.1 hx; exact joinM_right zero_right hc
theorem NK.new : NK Nd.new 0 := ⟨newOk, Tidy.fresh _ _ _, Tidy.fresh _ _ _, fun _ h => by cases h⟩
theorem sumM_right {l : List Bkt} (h : ∀ x ∈ l, x.c.Right) : (sumM l).Right := by
  unfold sumM
  suffices ∀ a : Cnt, a.Right → (l.foldl (fun s b => joinM s b.c) a).Right from this _ zero_right
  induction l with
  | nil => exact fun a ha => ha
  | cons x t ih => exact fun a ha => ih (fun y hy => h y (List.mem_cons_of_mem _ hy)) _ (joinM_right ha (h x (by simp)))
theorem NK.sum {N : Nd} {last : Nat} (h : NK N last) (at_ : Nat) : (sumN N at_).Right := sumM_right fun x hx => h.r1 x (List.mem_filter.1 hx).1
theorem NK.noted {N : Nd} {last at_ : Nat} (h : NK N last) (hb : last ≤ at_) (k : Int) (hk : 0 ≤ k ∧ k ≤ 4096) (c : Cnt) (hcr : c.Right) : NK (({ N with entries := k } : Nd).noted at_ c) at_ := by
  have hc := hcr.1
  have a1 := h.t1.add hb (by rw [h.ok.w1]; decide) hc
  have a2 := h.t2.add hb (by rw [h.ok.w2]; decide) hc
  have w1 := h.ok.w1
  have s1 := h.ok.s1
  have w2 := h.ok.w2
  have s2 := h.ok.s2
  have n1 := a1.len (by show N.sec.width = N.sec.size * 100000; rw [w1, s1]) (by decide)
  have n2 := a2.len (by show N.pair.width = N.pair.size * 1000000; rw [w2, s2]) (by decide)
  refine ⟨{ w1 := w1, s1 := s1, w2 := w2, s2 := s2, l1 := rfl, l2 := rfl, f1 := a1.fine, f2 := a2.fine, n1 := ?_, n2 := ?_, e1 := hk.1, e2 := hk.2 }, a1, a2, noteM_right hcr fun x hx => h.r1 x (List.mem_filter.1 hx).1⟩
  · exact Nat.le_trans n1 (by show N.sec.size ≤ 1000; rw [s1]; decide)
  · exact Nat.le_trans n2 (by show N.pair.size ≤ 1000; rw [s2]; decide)

theorem lets_wr {R : Nat → Prop} {w w' : World} (h : Lets R w w') : Wr R w w' := ⟨h.os, h.tape, h.output, h.size, h.block⟩
theorem wr_lets {R : Nat → Prop} {w w' : World} (h : Wr R w w') : Lets R w w' := ⟨h.os, h.tape, h.output, h.size, h.block⟩

/-- hasK and nptr look at keys and places alone -/
theorem find_same (x : Key) : ∀ {L L' : List Ent}, L.map (fun e => (e.key, e.S.n)) = L'.map (fun e => (e.key, e.S.n)) → hasK L x = hasK L' x ∧ nptr L x = nptr L' x := by
  intro L
  induction L with
  | nil =>
    intro L' h
    cases L' with
    | nil => exact ⟨rfl, rfl⟩
    | cons y t => simp at h
  | cons e t ih =>
    intro L' h
    cases L' with
    | nil => simp at h
    | cons y t' =>
      simp only [List.map_cons, List.cons.injEq, Prod.mk.injEq] at h
      obtain ⟨⟨h1, h2⟩, h3⟩ := h
      obtain ⟨i1, i2⟩ := ih h3
      unfold hasK nptr at *
      simp only [List.any_cons, List.find?_cons, h1]
      by_cases hx : y.key = x
      · simp [hx, h2]
      · simp only [hx, decide_false, Bool.false_or]
        exact ⟨i1, i2⟩

theorem hasK_iff {L : List Ent} {x : Key} : hasK L x = true ↔ x ∈ L.map (·.key) := by
  unfold hasK
  rw [List.any_eq_true, List.mem_map]
  constructor
  · rintro ⟨e, h1, h2⟩; exact ⟨e, h1, by simpa using h2⟩
  · rintro ⟨e, h1, h2⟩; exact ⟨e, h1, by simpa using h2⟩
theorem hasK_no {L : List Ent} {x : Key} : hasK L x = false ↔ x ∉ L.map (·.key) := by
  rw [← hasK_iff]; simp

/-- a key's node, where each key stands once -/
theorem nptr_at {L : List Ent} {i : Nat} {e : Ent} (hnd : (L.map (·.key)).Nodup) (h : L[i]? = some e) : nptr L e.key = ptr e.S.n := by
  have hin : hasK L e.key = true := hasK_iff.2 (List.mem_map.2 ⟨e, List.mem_of_getElem? h, rfl⟩)
  obtain ⟨e', he', hk, hp⟩ := nptr_yes hin
  obtain ⟨j, hj, rfl⟩ := List.getElem_of_mem he'
  have hi := (List.getElem?_eq_some_iff.1 h).1
  have hpw := List.pairwise_iff_getElem.1 hnd
  have hge := (List.getElem?_eq_some_iff.1 h).2
  have hij : i = j := by
    rcases Nat.lt_trichotomy i j with hl | hl | hl
    · exact absurd (by rw [List.getElem_map, List.getElem_map, hge, hk]) (hpw i j (by simpa using hi) (by simpa using hj) hl)
    · exact hl
    · exact absurd (by rw [List.getElem_map, List.getElem_map, hge, hk]) (hpw j i (by simpa using hj) (by simpa using hi) hl)
  subst hij
  rw [hp, (List.getElem?_eq_some_iff.1 h).2]

structure TMem (w : World) (own : Nat → Nat) (p b : Nat) (v : Value) (L : List Ent) (last top : Nat) : Prop where
  blk : w.heap[p]? = some (.cells #[.map (some b), v, .int .i64 last] 59)
  map : NMap w b L
  row : KRow w 0 v (L.map (·.key))
  nds : ∀ i e, L[i]? = some e → IsNode w e.S e.N ∧ (∃ l, l ≤ top ∧ NK e.N l) ∧ ∀ k, e.S.Has k → own k = i + 4
  op : own p = 1
  ob : own b = 2
  orow : ∀ g, v.ownBlock = some g → own g = 3
  old : ∀ k, own k ≠ 0 → k < w.heap.size
  fit : ∀ e ∈ L, e.key.Fit
  nd : (L.map (·.key)).Nodup
  len : L.length ≤ 512

theorem node_keep {w w' : World} {S : Spots} {N : Nd} (h : IsNode w S N) (hk : ∀ k, S.Has k → w'.heap[k]? = w.heap[k]?) : IsNode w' S N := by
  obtain ⟨h1, h2, h3, h4⟩ := h
  refine ⟨(hk _ (.inl rfl)).trans h1, ?_, ?_, h4⟩
  · obtain ⟨a, v, hb, hh⟩ := h2
    exact ⟨a, v, (hk _ (.inr (.inl rfl))).trans hb, hh.of_block fun g e => hk g (.inr (.inr (.inl e)))⟩
  · obtain ⟨a, v, hb, hh⟩ := h3
    exact ⟨a, v, (hk _ (.inr (.inr (.inr (.inl rfl))))).trans hb, hh.of_block fun g e => hk g (.inr (.inr (.inr (.inr e))))⟩

theorem TMem.keep {w w' : World} {own : Nat → Nat} {p b : Nat} {v : Value} {L : List Ent} {last top : Nat} (h : TMem w own p b v L last top) (hs : w.heap.size ≤ w'.heap.size) (hk : ∀ k, own k ≠ 0 → w'.heap[k]? = w.heap[k]?) : TMem w' own p b v L last top where
  blk := (hk p (by rw [h.op]; decide)).trans h.blk
  map := h.map.of_block (hk b (by rw [h.ob]; decide))
  row := KRow.keep h.row fun g hg => hk g (by rw [h.orow g hg]; decide)
  nds := fun i e he => by
    obtain ⟨h1, h2, h3⟩ := h.nds i e he
    exact ⟨node_keep h1 fun k hh => hk k (by rw [h3 k hh]; omega), h2, h3⟩
  op := h.op
  ob := h.ob
  orow := h.orow
  old := fun k hh => Nat.lt_of_lt_of_le (h.old k hh) hs
  fit := h.fit
  nd := h.nd
  len := h.len
theorem TMem.below {w w' : World} {own : Nat → Nat} {p b : Nat} {v : Value} {L : List Ent} {last top : Nat} (h : TMem w own p b v L last top) (hb : Below w.heap.size w w') : TMem w' own p b v L last top :=
  h.keep hb.size fun k hk => hb.block k (h.old k hk)
theorem TMem.wr {w w' : World} {own : Nat → Nat} {p b : Nat} {v : Value} {L : List Ent} {last top : Nat} {R : Nat → Prop} (h : TMem w own p b v L last top) (hb : Wr R w w') (hr : ∀ k, own k ≠ 0 → ¬ R k) : TMem w' own p b v L last top :=
  h.keep hb.size fun k hk => hb.block k (h.old k hk) (hr k hk)
theorem TMem.raise {w : World} {own : Nat → Nat} {p b : Nat} {v : Value} {L : List Ent} {last top top' : Nat} (h : TMem w own p b v L last top) (ht : top ≤ top') : TMem w own p b v L last top' :=
  { h with nds := fun i e he => ⟨(h.nds i e he).1, (h.nds i e he).2.1.elim fun l hl => ⟨l, Nat.le_trans hl.1 ht, hl.2⟩, (h.nds i e he).2.2⟩ }
theorem TMem.lt {w : World} {own : Nat → Nat} {p b : Nat} {v : Value} {L : List Ent} {last top : Nat} (h : TMem w own p b v L last top) : p < w.heap.size := (Array.getElem?_eq_some_iff.1 h.blk).1
theorem TMem.cells {w : World} {own : Nat → Nat} {p b : Nat} {v : Value} {L : List Ent} {last top : Nat} (h : TMem w own p b v L last top) : w.cell? ⟨p, 0, none⟩ = some (.map (some b)) ∧ w.cell? ⟨p, 1, none⟩ = some v ∧ w.cell? ⟨p, 2, none⟩ = some (.int .i64 last) ∧ ∀ o, w.frozen? ⟨p, o, none⟩ = false := by
  have h1 := h.blk
  exact ⟨by simp [World.cell?, h1], by simp [World.cell?, h1], by simp [World.cell?, h1], fun o => by simp [World.frozen?, h1]⟩

/-- the time is stored -/
theorem TMem.timed {w : World} {own : Nat → Nat} {p b : Nat} {v : Value} {L : List Ent} {last top : Nat} (h : TMem w own p b v L last top) (t : Nat) : TMem (w.setCell ⟨p, 2, none⟩ (.int .i64 t)) own p b v L t top := by
  have hw : Wr (fun k => k = p) w (w.setCell ⟨p, 2, none⟩ (.int .i64 t)) := Wr.set _ _ rfl
  have ho : ∀ k, own k ≠ 1 → own k ≠ 0 → (w.setCell ⟨p, 2, none⟩ (.int .i64 t)).heap[k]? = w.heap[k]? := fun k h1 h0 => hw.block k (h.old k h0) fun e => h1 (by rw [e, h.op])
  exact {
    blk := heap_setCell_same _ _ _ _ _ _ h.blk
    map := h.map.of_block (ho b (by rw [h.ob]; decide) (by rw [h.ob]; decide))
    row := KRow.keep h.row fun g hg => ho g (by rw [h.orow g hg]; decide) (by rw [h.orow g hg]; decide)
    nds := fun i e he => by
      obtain ⟨h1, h2, h3⟩ := h.nds i e he
      exact ⟨node_keep h1 fun k hh => ho k (by rw [h3 k hh]; omega) (by rw [h3 k hh]; omega), h2, h3⟩
    op := h.op
    ob := h.ob
    orow := h.orow
    old := fun k hh => by simpa using h.old k hh
    fit := h.fit
    nd := h.nd
    len := h.len }

/-- a node is another one now -/
theorem TMem.noded {w w' : World} {own : Nat → Nat} {p b : Nat} {v : Value} {L : List Ent} {last top : Nat} (h : TMem w own p b v L last top) {i : Nat} {e : Ent} {S' : Spots} {N' : Nd} (he : L[i]? = some e)
    (hn : IsNode w' S' N') (hg : e.S.Grew S' w.heap.size) (hl : Lets e.S.Has w w') (hk : ∃ l, l ≤ top ∧ NK N' l) :
    ∃ own', (∀ k, k < w.heap.size → own' k = own k) ∧ TMem w' own' p b v (L.set i ⟨e.key, S', N'⟩) last top := by
  classical
  obtain ⟨n1, n2, n3⟩ := h.nds i e he
  have hil := (List.getElem?_eq_some_iff.1 he).1
  have hge := (List.getElem?_eq_some_iff.1 he).2
  have hS : ∀ k, S'.Has k → e.S.Has k ∨ w.heap.size ≤ k := by
    intro k hk
    obtain ⟨g1, g2, g3, g4, g5⟩ := hg
    rcases hk with e1 | e1 | e1 | e1 | e1
    · exact .inl (.inl (by rw [e1, g1]))
    · exact .inl (.inr (.inl (by rw [e1, g2])))
    · rcases g4 with g4 | ⟨g, g4, h4⟩
      · exact .inl (.inr (.inr (.inl (by rw [← g4]; exact e1))))
      · rw [g4] at e1; cases e1; exact .inr h4
    · exact .inl (.inr (.inr (.inr (.inl (by rw [e1, g3])))))
    · rcases g5 with g5 | ⟨g, g5, h5⟩
      · exact .inl (.inr (.inr (.inr (.inr (by rw [← g5]; exact e1)))))
      · rw [g5] at e1; cases e1; exact .inr h5
  have hlt' : ∀ k, S'.Has k → k < w'.heap.size := hn.hasLt
  have hmaps : (L.set i ⟨e.key, S', N'⟩).map (fun e => (e.key, e.S.n)) = L.map (fun e => (e.key, e.S.n)) := by
    rw [List.map_set]
    apply List.ext_getElem
    · simp
    · intro j h1 h2
      rw [List.getElem_set]
      split
      · rename_i hij; subst hij; simp [hge, hg.1]
      · rfl
  have hkeys : (L.set i ⟨e.key, S', N'⟩).map (·.key) = L.map (·.key) := by
    have := congrArg (List.map (·.1)) hmaps
    simpa [List.map_map, Function.comp_def] using this
  refine ⟨fun k => if k < w.heap.size then own k else if S'.Has k then i + 4 else 0, fun k hk => if_pos hk, ?_⟩
  have ho : ∀ k, own k ≠ 0 → own k ≠ i + 4 → w'.heap[k]? = w.heap[k]? := fun k h0 h1 => hl.block k (h.old k h0) fun hh => h1 (n3 k hh)
  have low : ∀ k, own k ≠ 0 → (if k < w.heap.size then own k else if S'.Has k then i + 4 else 0) = own k := fun k hk => if_pos (h.old k hk)
  refine {
    blk := (ho p (by rw [h.op]; decide) (by rw [h.op]; omega)).trans h.blk
    map := ?_
    row := by rw [hkeys]; exact KRow.keep h.row fun g hg => ho g (by rw [h.orow g hg]; decide) (by rw [h.orow g hg]; omega)
    nds := ?_
    op := (low p (by rw [h.op]; decide)).trans h.op
    ob := (low b (by rw [h.ob]; decide)).trans h.ob
    orow := fun g hg => (low g (by rw [h.orow g hg]; decide)).trans (h.orow g hg)
    old := ?_
    fit := ?_
    nd := by rw [hkeys]; exact h.nd
    len := by rw [List.length_set]; exact h.len }
  · obtain ⟨F, n, h1, h2⟩ := h.map.of_block (ho b (by rw [h.ob]; decide) (by rw [h.ob]; omega))
    refine ⟨F, n, h1, fun x => ?_⟩
    obtain ⟨q1, q2⟩ := find_same x hmaps
    rw [q1, q2]; exact h2 x
  · intro j e2 he2
    rw [List.getElem?_set] at he2
    split at he2
    · rename_i hij
      subst hij
      obtain rfl := Option.some.inj he2
      refine ⟨hn, hk, fun k hh => ?_⟩
      by_cases hkl : k < w.heap.size
      · rw [if_pos hkl]
        rcases hS k hh with h1 | h1
        · exact n3 k h1
        · omega
      · rw [if_neg hkl, if_pos hh]
    · rename_i hij
      obtain ⟨m1, m2, m3⟩ := h.nds j e2 he2
      refine ⟨node_keep m1 fun k hh => ho k (by rw [m3 k hh]; omega) (by rw [m3 k hh]; omega), m2, fun k hh => ?_⟩
      rw [low k (by rw [m3 k hh]; omega)]
      exact m3 k hh
  · intro k hh
    by_cases hkl : k < w.heap.size
    · exact Nat.lt_of_lt_of_le hkl hl.size
    · rw [if_neg hkl] at hh
      by_cases h2 : S'.Has k
      · exact hlt' k h2
      · rw [if_neg h2] at hh; exact absurd rfl hh
  · intro e2 he2
    rcases List.mem_or_eq_of_mem_set he2 with h1 | rfl
    · exact h.fit e2 h1
    · exact h.fit e (List.mem_of_getElem? he)

end Go.Proofs.Ytnloedhcginopaa.TreQ

/- What grows beside a tree: new keys with new nodes in a map and a row of their own; how they come to the tree. -/
namespace Go.Proofs.Ytnloedhcginopaa.TreR
set_option linter.unusedVariables false
open Go.ChangeShapes Go.WideShapes Go.ChangeAt Go.RowKit Base Wri Map TreA TreB TreC TreD TreE TreF TreG TreH TreJ TreK TreL TreP TreQ WinM WinA WinB WinC WinD WinE WinF WinG WinH WinI WinN StaA StaB StaC

structure Gr (w0 : World) (own0 : Nat → Nat) (nL mf : Nat) (w : World) (own : Nat → Nat) (vo : Value) (G : List Ent) (R : List Key) : Prop where
  bel : Below w0.heap.size w0 w
  agr : ∀ k, k < w0.heap.size → own k = own0 k
  fr : Fresh w mf (G.map fun e => (e.key, e.S.n))
  mfn : w0.heap.size ≤ mf
  mf0 : own mf = 0
  row : KRow w w0.heap.size vo R
  rown : ∀ g, vo.ownBlock = some g → own g = 0
  nds : ∀ i e, G[i]? = some e → e.N = Nd.new ∧ IsNode w e.S Nd.new ∧ ∀ k, e.S.Has k → own k = nL + i + 4 ∧ w0.heap.size ≤ k
  old : ∀ k, own k ≠ 0 → k < w.heap.size

theorem Gr.below {w0 : World} {own0 own : Nat → Nat} {nL mf : Nat} {w w' : World} {vo : Value} {G : List Ent} {R : List Key} (h : Gr w0 own0 nL mf w own vo G R) (hb : Below w.heap.size w w') : Gr w0 own0 nL mf w' own vo G R where
  bel := h.bel.trans (hb.mono h.bel.size)
  agr := h.agr
  fr := h.fr.of_block (hb.block _ h.fr.lt)
  mfn := h.mfn
  mf0 := h.mf0
  row := KRow.below h.row hb
  rown := h.rown
  nds := fun i e he => by
    obtain ⟨h1, h2, h3⟩ := h.nds i e he
    exact ⟨h1, h2.below hb, h3⟩
  old := fun k hk => Nat.lt_of_lt_of_le (h.old k hk) hb.size

theorem Gr.keys {w0 : World} {own0 own : Nat → Nat} {nL mf : Nat} {w : World} {vo : Value} {G : List Ent} {R : List Key} (h : Gr w0 own0 nL mf w own vo G R) : (G.map fun e => (e.key, e.S.n)).map (·.1) = G.map (·.key) := by
  rw [List.map_map]; rfl

/-- a node more -/
theorem Gr.node {w0 : World} {own0 own : Nat → Nat} {nL mf : Nat} {w w1 : World} {vo : Value} {G : List Ent} {R : List Key} (h : Gr w0 own0 nL mf w own vo G R) (x : Key) (hx : x.Fit) (hn : x ∉ G.map (·.key))
    (hI : IsNode w1 ⟨w.heap.size + 2, w.heap.size, none, w.heap.size + 1, none⟩ Nd.new) (hb : Below w.heap.size w w1) (hs : w1.heap.size = w.heap.size + 3) :
    ∃ w2, (Instr.mapUpdate 55 (.map (some mf)) (kv x) (ptr (w.heap.size + 2))).run Try.prog w1 = .ok () w2 ∧ Wr (fun j => j = mf) w1 w2 ∧ ∃ own', Gr w0 own0 nL mf w2 own' vo (G ++ [⟨x, ⟨w.heap.size + 2, w.heap.size, none, w.heap.size + 1, none⟩, Nd.new⟩]) R := by
  have h1 := h.below hb
  obtain ⟨w2, hst, hfr, hw⟩ := h1.fr.store x (w.heap.size + 2) hx (by rw [h1.keys]; exact hn)
  have hmf := h.fr.lt
  have hsm := h.bel.size
  refine ⟨w2, hst, hw, fun k => if k < w.heap.size then own k else if k < w.heap.size + 3 then nL + G.length + 4 else 0, ?_⟩
  have low : ∀ k, k < w.heap.size → (if k < w.heap.size then own k else if k < w.heap.size + 3 then nL + G.length + 4 else 0) = own k := fun k hk => if_pos hk
  exact {
    bel := h1.bel.trans (hw.below _ h1.bel.size fun k hk => by subst hk; exact h.mfn)
    agr := fun k hk => (low k (Nat.lt_of_lt_of_le hk hsm)).trans (h.agr k hk)
    fr := by rw [List.map_append]; exact hfr
    mfn := h.mfn
    mf0 := (low _ hmf).trans h.mf0
    row := KRow.keep h1.row fun g hg => by
      refine hw.block g (KRow.has h1.row g hg).2 fun e => ?_
      subst e
      rcases h1.row.2 with ⟨rfl, _⟩ | ⟨g', cap, cur, rfl, _, hgb, _⟩
      · cases hg
      · obtain rfl : g' = g := by simpa [Value.ownBlock] using hg
        rw [h1.fr.1] at hgb
        cases hgb
    rown := fun g hg => (low g (KRow.has h.row g hg).2).trans (h.rown g hg)
    nds := fun i e he => by
      rw [List.getElem?_append] at he
      split at he
      · obtain ⟨q1, q2, q3⟩ := h.nds i e he
        refine ⟨q1, node_keep (q2.below hb) fun k hk => hw.block k (by have := q2.hasLt k hk; omega) (fun e2 => ?_), fun k hk => ⟨(low k (q2.hasLt k hk)).trans (q3 k hk).1, (q3 k hk).2⟩⟩
        subst e2
        have := (q3 _ hk).1
        rw [h.mf0] at this
        omega
      · rename_i hi
        have hi0 : i - G.length = 0 := by
          rcases Nat.eq_zero_or_pos (i - G.length) with e0 | e0
          · exact e0
          · rw [List.getElem?_eq_none (by simp; omega)] at he; cases he
        rw [hi0] at he
        obtain rfl := Option.some.inj he
        refine ⟨rfl, node_keep hI fun k hk => hw.block k (hI.hasLt k hk) fun e2 => ?_, fun k hk => ?_⟩
        · subst e2
          rcases hk with e3 | e3 | e3 | e3 | e3
          · simp at e3; omega
          · simp at e3; omega
          · cases e3
          · simp at e3; omega
          · cases e3
        · have hk2 : w.heap.size ≤ k ∧ k < w.heap.size + 3 := by
            rcases hk with e3 | e3 | e3 | e3 | e3
            · simp at e3; omega
            · simp at e3; omega
            · cases e3
            · simp at e3; omega
            · cases e3
          show (if k < w.heap.size then own k else if k < w.heap.size + 3 then nL + G.length + 4 else 0) = _ ∧ _
          rw [if_neg (by omega), if_pos hk2.2]
          exact ⟨by omega, by omega⟩
    old := fun k hk => by
      have := hw.size
      by_cases h3 : k < w.heap.size + 3
      · omega
      · exfalso
        apply hk
        show (if k < w.heap.size then own k else if k < w.heap.size + 3 then nL + G.length + 4 else 0) = 0
        rw [if_neg (by omega), if_neg h3] }

/-- a key more in the row -/
theorem Gr.push {w0 : World} {own0 own : Nat → Nat} {nL mf : Nat} {w w1 : World} {vo v' : Value} {G : List Ent} {R R' : List Key} (h : Gr w0 own0 nL mf w own vo G R)
    (hr : KRow w1 w0.heap.size v' R') (hg : w.grownBy w1 vo.ownBlock) (ha : v'.ownBlock = vo.ownBlock ∨ v'.ownBlock = some w.heap.size) : Gr w0 own0 nL mf w1 own v' G R' := by
  have hne : ∀ k, own k ≠ 0 → some k ≠ vo.ownBlock := fun k hk e => hk (h.rown k e.symm)
  exact {
    bel := h.bel.grown hg h.bel.size fun k hk => (KRow.has h.row k hk).1
    agr := h.agr
    fr := h.fr.of_block (hg.block _ h.fr.lt fun e => by
      rcases h.row.2 with ⟨rfl, _⟩ | ⟨g', cap, cur, rfl, _, hgb, _⟩
      · cases e
      · obtain rfl : g' = mf := by simpa [Value.ownBlock] using e.symm
        rw [h.fr.1] at hgb
        cases hgb)
    mfn := h.mfn
    mf0 := h.mf0
    row := hr
    rown := fun g hg2 => by
      rcases ha with ha | ha
      · exact h.rown g (by rw [← ha]; exact hg2)
      · rw [ha] at hg2
        obtain rfl := Option.some.inj hg2
        rcases Nat.eq_zero_or_pos (own w.heap.size) with e | e
        · exact e
        · exact absurd (h.old _ (by omega)) (Nat.lt_irrefl _)
    nds := fun i e he => by
      obtain ⟨q1, q2, q3⟩ := h.nds i e he
      exact ⟨q1, node_keep q2 fun k hk => hg.block k (q2.hasLt k hk) (hne k (by rw [(q3 k hk).1]; omega)), q3⟩
    old := fun k hk => Nat.lt_of_lt_of_le (h.old k hk) hg.size }

theorem nptr_app {L G : List Ent} (x : Key) : nptr (L ++ G) x = if hasK L x then nptr L x else nptr G x := by
  unfold nptr hasK
  rw [List.find?_append]
  cases hf : L.find? (fun e => decide (e.key = x)) with
  | some e =>
    have hin : L.any (fun e => decide (e.key = x)) = true := List.any_eq_true.2 ⟨e, List.mem_of_find?_eq_some hf, by have := List.find?_some hf; simpa using this⟩
    rw [hin]
    rfl
  | none =>
    have hin : L.any (fun e => decide (e.key = x)) = false := by
      rw [List.any_eq_false]
      intro e he
      exact List.find?_eq_none.1 hf e he
    rw [hin]
    rfl

/-- all of it comes to the tree -/
theorem Gr.ends {w0 : World} {own0 own : Nat → Nat} {p b mf : Nat} {v : Value} {L : List Ent} {last top : Nat} {w1 w2 w3 : World} {vo v3 : Value} {G : List Ent} {F0 F : Value → Option Value} {n : Nat}
    (hT : TMem w0 own0 p b v L last top) (h : Gr w0 own0 L.length mf w1 own vo G (G.map (·.key))) (hd : ∀ e ∈ G, e.key ∉ L.map (·.key)) (hl : L.length + G.length ≤ 512)
    (hF0 : ∀ x : Key, F0 (kv x) = if hasK L x then some (nptr L x) else none)
    (hF : MapOf Try.prog 30 w2 b F n) (h1 : ∀ x ∈ ents (G.map fun e => (e.key, e.S.n)), F x.key = some x.val) (h2 : ∀ q, (∀ x ∈ ents (G.map fun e => (e.key, e.S.n)), q ≠ x.key) → F q = F0 q) (hw : Wr (fun k => k = b) w1 w2)
    (hr : KRow w3 0 v3 (L.map (·.key) ++ G.map (·.key))) (hg : w2.grownBy w3 v.ownBlock) (ha : v3.ownBlock = v.ownBlock ∨ v3.ownBlock = some w2.heap.size) :
    ∃ own', (∀ k, k < w0.heap.size → own' k = own0 k) ∧ TMem (w3.setCell ⟨p, 1, none⟩ v3) own' p b v3 (L ++ G) last top ∧ Wr (fun k => own0 k ≠ 0) w0 (w3.setCell ⟨p, 1, none⟩ v3) := by
  have hp := hT.lt
  have hbl := hT.map.lt
  have hs1 := h.bel.size
  have hs2 := hw.size
  have hs3 := hg.size
  have hb1 := hT.below h.bel
  have hwg : Wr (fun k => v.ownBlock = some k) w2 w3 := Wr.ofGrown hg fun k e => e
  have hst : Wr (fun k => k = p) w3 (w3.setCell ⟨p, 1, none⟩ v3) := Wr.set _ _ rfl
  have hsz4 : (w3.setCell ⟨p, 1, none⟩ v3).heap.size = w3.heap.size := by simp
  have own_old : ∀ k, own k ≠ 0 → own0 k ≠ 0 ∨ w0.heap.size ≤ k := fun k hk => by
    by_cases hl2 : k < w0.heap.size
    · exact .inl (by rw [← h.agr k hl2]; exact hk)
    · exact .inr (by omega)
  have hvlt : ∀ g, v.ownBlock = some g → g < w0.heap.size := fun g hg2 => hT.old g (by rw [hT.orow g hg2]; decide)
  -- a block with a number that is none of 1, 2, 3 stays from w1 on
  have stay : ∀ k, own k ≠ 1 → own k ≠ 2 → own k ≠ 3 → k < w1.heap.size → (w3.setCell ⟨p, 1, none⟩ v3).heap[k]? = w1.heap[k]? := fun k e1 e2 e3 hk => by
    rw [hst.block k (by omega) (fun e => e1 (by rw [e, h.agr p hp, hT.op])), hwg.block k (by omega) (fun e => e3 (by rw [h.agr k (hvlt k e), hT.orow k e])), hw.block k hk (fun e => e2 (by rw [e, h.agr b hbl, hT.ob]))]
  refine ⟨fun k => if k < w1.heap.size then own k else if v3.ownBlock = some k then 3 else 0, fun k hk => (if_pos (by omega)).trans (h.agr k hk), ?_, ?_⟩
  · have low : ∀ k, k < w1.heap.size → (if k < w1.heap.size then own k else if v3.ownBlock = some k then 3 else 0) = own k := fun k hk => if_pos hk
    have hlow0 : ∀ k, k < w0.heap.size → (if k < w1.heap.size then own k else if v3.ownBlock = some k then 3 else 0) = own0 k := fun k hk => (if_pos (by omega)).trans (h.agr k hk)
    refine {
      blk := ?_
      map := ?_
      row := ?_
      nds := ?_
      op := (hlow0 p hp).trans hT.op
      ob := (hlow0 b hbl).trans hT.ob
      orow := ?_
      old := ?_
      fit := ?_
      nd := ?_
      len := by rw [List.length_append]; exact hl }
    · have hh : w3.heap[p]? = some (.cells #[.map (some b), v, .int .i64 last] 59) := by
       rw [hwg.block p (by omega) (fun e => by have := hT.orow p e; rw [hT.op] at this; omega), hw.block p (by omega) (fun e => by have := hT.ob; rw [← e, hT.op] at this; omega), h.bel.block p hp]
       exact hT.blk
      exact heap_setCell_same _ _ _ _ _ _ hh
    · have hbb : (w3.setCell ⟨p, 1, none⟩ v3).heap[b]? = w2.heap[b]? := by
        rw [hst.block b (by omega) (fun e => by have := hT.ob; rw [e, hT.op] at this; omega), hwg.block b (by omega) (fun e => by have := hT.orow b e; rw [hT.ob] at this; omega)]
      refine ⟨F, n, hF.of_block hbb, fun x => ?_⟩
      by_cases hx : x ∈ G.map (·.key)
      · obtain ⟨e, he, rfl⟩ := List.mem_map.1 hx
        have hnL : hasK L e.key = false := hasK_no.2 (hd e he)
        have hG : hasK (L ++ G) e.key = true := hasK_iff.2 (by rw [List.map_append]; exact List.mem_append_right _ hx)
        obtain ⟨i, hi, hge⟩ := List.getElem_of_mem he
        have hent : (⟨kv e.key, ptr e.S.n, i⟩ : MapEntry) ∈ ents (G.map fun e => (e.key, e.S.n)) := by
          unfold ents
          exact List.mem_mapIdx.2 ⟨i, by simpa using hi, by simp [hge]⟩
        have := h1 _ hent
        rw [hG, if_pos rfl, nptr_app, hnL]
        simp only [Bool.false_eq_true, if_false]
        rw [nptr_at (by rw [← h.keys]; exact h.fr.2.1) (List.getElem?_eq_some_iff.2 ⟨hi, hge⟩)]
        exact this
      · have hG0 : hasK G x = false := hasK_no.2 hx
        have hF1 := h2 (kv x) fun y hy => by
          obtain ⟨e, he, hk, _, _⟩ := ents_mem hy
          rw [hk]
          intro e2
          apply hx
          have := kv_inj e2
          obtain ⟨z, hz, rfl⟩ := List.mem_map.1 he
          rw [this]
          exact List.mem_map.2 ⟨z, hz, rfl⟩
        rw [hF1, hF0 x]
        have hLG : hasK (L ++ G) x = hasK L x := by
          unfold hasK at *
          rw [List.any_append, hG0, Bool.or_false]
        rw [hLG, nptr_app]
        cases hasK L x <;> rfl
    · rw [List.map_append]
      refine KRow.keep hr fun g hgo => hst.block g ?_ fun e => ?_
      · exact (KRow.has hr g hgo).2
      · subst e
        rcases ha with ha | ha
        · have := hT.orow _ (by rw [← ha]; exact hgo)
          rw [hT.op] at this
          omega
        · rw [ha] at hgo
          obtain h5 := Option.some.inj hgo
          omega
    · intro i e he
      rw [List.getElem?_append] at he
      split at he
      · obtain ⟨q1, q2, q3⟩ := hb1.nds i e he
        have q4 : ∀ k, e.S.Has k → own k = i + 4 := fun k hk => by rw [h.agr k (by have := hT.old k (by rw [q3 k hk]; omega); exact this)]; exact q3 k hk
        refine ⟨node_keep q1 fun k hk => stay k (by rw [q4 k hk]; omega) (by rw [q4 k hk]; omega) (by rw [q4 k hk]; omega) (q1.hasLt k hk), q2, fun k hk => (low k (q1.hasLt k hk)).trans (q4 k hk)⟩
      · rename_i hi
        obtain ⟨q1, q2, q3⟩ := h.nds _ e he
        have q4 : ∀ k, e.S.Has k → own k = i + 4 := fun k hk => by rw [(q3 k hk).1]; omega
        refine ⟨by rw [q1]; exact node_keep q2 fun k hk => stay k (by rw [q4 k hk]; omega) (by rw [q4 k hk]; omega) (by rw [q4 k hk]; omega) (q2.hasLt k hk), ⟨0, Nat.zero_le _, by rw [q1]; exact NK.new⟩, fun k hk => (low k (q2.hasLt k hk)).trans (q4 k hk)⟩
    · intro g hgo
      rcases ha with ha | ha
      · have h5 := hvlt g (by rw [← ha]; exact hgo)
        exact (hlow0 g h5).trans (hT.orow g (by rw [← ha]; exact hgo))
      · show (if g < w1.heap.size then own g else if v3.ownBlock = some g then 3 else 0) = 3
        rw [ha] at hgo
        have h5 := Option.some.inj hgo
        rw [if_neg (by omega), if_pos (by rw [ha, h5])]
    · intro k hk
      rw [hsz4]
      by_cases hk1 : k < w1.heap.size
      · omega
      · rw [if_neg hk1] at hk
        by_cases h5 : v3.ownBlock = some k
        · exact (KRow.has hr k h5).2
        · rw [if_neg h5] at hk; exact absurd rfl hk
    · intro e he
      rcases List.mem_append.1 he with he | he
      · exact hT.fit e he
      · exact h.fr.2.2 (e.key, e.S.n) (List.mem_map.2 ⟨e, he, rfl⟩)
    · rw [List.map_append, List.nodup_append]
      refine ⟨hT.nd, by rw [← h.keys]; exact h.fr.2.1, fun a ha2 c hc e => ?_⟩
      subst e
      obtain ⟨y, hy, rfl⟩ := List.mem_map.1 hc
      exact hd y hy ha2
  · have q1 : Wr (fun k => own0 k ≠ 0) w0 w1 := Wr.ofBelow h.bel
    have q2 := q1.on hw (fun k e => .inl (by rw [e, hT.ob]; decide))
    have q3 := q2.on hwg (fun k e => .inl (by rw [hT.orow k e]; decide))
    exact q3.on hst (fun k e => .inl (by rw [e, hT.op]; decide))

end Go.Proofs.Ytnloedhcginopaa.TreR

namespace Go.Proofs.Ytnloedhcginopaa.TreS
set_option linter.unusedVariables false
open Go.ChangeShapes Go.WideShapes Go.ChangeAt Go.RowKit Base Wri Map TreA TreB TreC TreD TreE TreF TreG TreH TreJ TreK TreL TreP TreQ TreR WinM WinA WinB WinC WinD WinE WinF WinG WinH WinI WinN StaA StaB StaC

def firstK (f : Nat → Key) (n : Nat) : List Key := (List.range n).map f
theorem firstK_succ (f : Nat → Key) (n : Nat) : firstK f (n + 1) = firstK f n ++ [f n] := by unfold firstK; simp [List.range_succ]
theorem firstK_split (f : Nat → Key) {k n : Nat} (h : k ≤ n) : ∃ r, firstK f n = firstK f k ++ r := by
  obtain ⟨m, rfl⟩ := Nat.exists_eq_add_of_le h
  exact ⟨((List.range m).map (k + ·)).map f, by unfold firstK; rw [List.range_add, List.map_append]⟩
theorem news_mono (K : List Key) (f : Nat → Key) {k n : Nat} (h : k ≤ n) : (news K (firstK f k)).length ≤ (news K (firstK f n)).length := by
  obtain ⟨r, hr⟩ := firstK_split f h
  obtain ⟨s, hs⟩ := news_app K (firstK f k) r
  rw [hr, hs, List.length_append]
  omega

theorem kcS {w1 w2 : World} {p o : Nat} {v : Value} (h2 : Below w1.heap.size w1 w2) (h : w1.cell? ⟨p, o, none⟩ = some v) : w2.cell? ⟨p, o, none⟩ = some v :=
  (h2.cell (p := ⟨p, o, none⟩) (World.block_lt_of_cell? _ _ h)).trans h

/-- what grow comes to -/
def GrowPost (own : Nat → Nat) (p b : Nat) (L : List Ent) (last top : Nat) (l : List Key) (w : World) (e : Ending) (w' : World) : Prop :=
  (512 < L.length + (news (L.map (·.key)) l).length ∧ e = .returned (.int .i64 3) ∧ Below w.heap.size w w') ∨
  (L.length + (news (L.map (·.key)) l).length ≤ 512 ∧ e = .returned (.int .i64 0) ∧ ∃ own' v' G, G.map (·.key) = news (L.map (·.key)) l ∧ (∀ y ∈ G, y.N = Nd.new) ∧ (∀ k, k < w.heap.size → own' k = own k) ∧ TMem w' own' p b v' (L ++ G) last top ∧ Wr (fun k => own k ≠ 0) w w')

set_option maxRecDepth 20000 in
set_option maxHeartbeats 4000000 in
theorem grow_any (p b : Nat) (v : Value) (L : List Ent) (last top : Nat) (own : Nat → Nat) (a : Option Addr) (n cap : Nat) (f : Nat → Key) (w : World) (hn : n ≤ 1000000) (hf : ∀ i, i < n → (f i).Fit) (hk : KAt w a n f) (hT : TMem w own p b v L last top) :
    Calls Try.prog 43 #[ptr p, .slice a n cap] w (GrowPost own p b L last top (firstK f n) w) := by
  obtain ⟨va0, vc0, rfl⟩ := owns_shape hT.row
  rw [List.length_map] at hT
  obtain ⟨i0, hi, hz0, hz1, hz2⟩ := info_parts infoKey
  have hmk : (Instr.makeMap 55 none).run Try.prog w = .ok (.map (some w.heap.size)) (w.alloc (.map #[] 0)) := run_makeMap _ _
  have hb0 : Below w.heap.size w (w.alloc (.map #[] 0)) := (Below.refl _ _).alloc (Nat.le_refl _) _
  have G0 : Gr w own L.length w.heap.size (w.alloc (.map #[] 0)) own (.slice none 0 0) [] [] := {
    bel := hb0
    agr := fun _ _ => rfl
    fr := Fresh.made w
    mfn := Nat.le_refl _
    mf0 := by
      rcases Nat.eq_zero_or_pos (own w.heap.size) with e | e
      · exact e
      · exact absurd (hT.old _ (by omega)) (Nat.lt_irrefl _)
    row := ⟨rfl, .inl ⟨rfl, rfl⟩⟩
    rown := fun g hg => by cases hg
    nds := fun i e he => by simp at he
    old := fun k hk => by have := hT.old k hk; simp; omega }
  have HG0 := hid G0
  have HH := hid (And.intro hf (And.intro hk hT))
  have HLen := hid hT.len
  clear hf hk hT hb0 G0
  go_enter Try.func43, Try.ntmps43
  go_wp2_with fail
  generalize hmf : w.heap.size = mf at *
  have HMf := hid hmf
  clear hmf hmk
  go_loopw [6, 12] (fun l i wr => ∃ (k m : Nat) (va : Option Addr) (vc : Nat) (own1 : Nat → Nat) (G : List Ent), k ≤ n ∧ i = .int .i64 k ∧ l = .slice va m vc ∧ m = G.length ∧ G.map (·.key) = news (L.map (·.key)) (firstK f k) ∧ L.length + m ≤ 512 ∧ Gr w own L.length mf wr own1 (.slice va m vc) G (G.map (·.key))) (fun _ i _ => n - (intOf i).toNat)
  case atStart => exact ⟨0, 0, none, 0, own, [], Nat.zero_le _, rfl, rfl, rfl, rfl, by have := HLen.out; omega, HG0.out⟩
  case round =>
    obtain ⟨k, m, va, vc, own1, G, hk, rfl, rfl, hmm, hgk, hlen, hG⟩ := hrel
    have HG := hid hG
    have HM := hid hmm
    have HK := hid hgk
    clear hG hmm hgk
    by_cases hlt : k < n
    · obtain ⟨hf, hka, hT⟩ := HH.out
      have hB := HG.out.bel
      rw [HMf.out] at hB
      have hTw := hT.below (by rw [HMf.out]; exact hB)
      obtain ⟨g, o, rfl, hg, hc⟩ := (hka.below (by rw [HMf.out]; exact hB)) (by omega)
      obtain ⟨c0, c1, c2, c3⟩ := hc k hlt
      obtain ⟨k1, k2, -, -⟩ := hTw.cells
      have HFk := hid (hf k hlt)
      have HTW := hid hTw
      clear hf hka hT hc hTw
      have hki : (k : Int) < n := by omega
      have hki0 : (0 : Int) ≤ k := by omega
      generalize hx : f k = x at *
      have HX := hid hx
      clear hx hB
      have hb1 : Below wr.heap.size wr (wr.alloc (.cells #[.int .u8 x.k, .string x.c, .string x.r, .string x.o] 30)) := (Below.refl _ _).alloc (Nat.le_refl _) _
      have e1 := kcS hb1 k1
      have e2 := kcS hb1 k2
      have b0 : (wr.alloc (.cells #[.int .u8 x.k, .string x.c, .string x.r, .string x.o] 30)).cell? ⟨wr.heap.size, 0, none⟩ = some (.int .u8 x.k) := by go_cell
      have b1 : (wr.alloc (.cells #[.int .u8 x.k, .string x.c, .string x.r, .string x.o] 30)).cell? ⟨wr.heap.size, 1, none⟩ = some (.string x.c) := by go_cell
      have b2 : (wr.alloc (.cells #[.int .u8 x.k, .string x.c, .string x.r, .string x.o] 30)).cell? ⟨wr.heap.size, 2, none⟩ = some (.string x.r) := by go_cell
      have b3 : (wr.alloc (.cells #[.int .u8 x.k, .string x.c, .string x.r, .string x.o] 30)).cell? ⟨wr.heap.size, 3, none⟩ = some (.string x.o) := by go_cell
      have hd : Below wr.heap.size wr (wr.alloc (.cells #[.int .u8 x.k, .string x.c, .string x.r, .string x.o] 30)).drew := hb1.drew
      have hl : (Instr.lookup 55 (.map (some b)) (.agg #[.int .u8 x.k, .string x.c, .string x.r, .string x.o]) false).run Try.prog (wr.alloc (.cells #[.int .u8 x.k, .string x.c, .string x.r, .string x.o] 30)).drew = .ok (nptr L x) (wr.alloc (.cells #[.int .u8 x.k, .string x.c, .string x.r, .string x.o] 30)).drew := (HTW.out.below hd).map.look x HFk.out
      have HGD := hid (HG.out.below hd)
      have HTD := hid (HTW.out.below hd)
      have HBS : Hid ((wr.alloc (.cells #[.int .u8 x.k, .string x.c, .string x.r, .string x.o] 30)).heap[wr.heap.size]? = some (.cells #[.int .u8 x.k, .string x.c, .string x.r, .string x.o] 30) ∧ (wr.alloc (.cells #[.int .u8 x.k, .string x.c, .string x.r, .string x.o] 30)).heap.size = wr.heap.size + 1) := hid ⟨heap_alloc_new _ _, by simp⟩
      go_upto_region 6 with fail
      have HMB := hid HG.out.fr.lt
      clear c0 c1 c2 c3 k1 k2 hb1 hd HG
      generalize (wr.alloc (.cells #[.int .u8 x.k, .string x.c, .string x.r, .string x.o] 30)) = wb at *
      cases hh : hasK L x with
      | true =>
        obtain ⟨e, -, -, he⟩ := nptr_yes hh
        have HE := hid hh
        rw [he] at hl
        clear hh he
        generalize e.S.n = q at *
        go_region
        go_wp2_with fail
        go_roundw
        case rel => exact ⟨k + 1, m, va, vc, own1, G, hlt, by go_num, by first | rfl | trivial, HM.out, by rw [firstK_succ, news_snoc, HX.out, if_pos (.inl (hasK_iff.1 HE.out))]; exact HK.out, hlen, HGD.out⟩
        case measure => simp [intOf]; omega
      | false =>
        rw [nptr_no hh] at hl
        have HE := hid hh
        clear hh
        rcases HGD.out.fr.look x HFk.out with ⟨hx2, hl2⟩ | ⟨hx2, q, hq, hl2⟩
        · rw [HGD.out.keys] at hx2
          have HX2 := hid hx2
          unfold kv at hl2
          clear hx2
          go_region
          go_upto_region 7 with fail
          have d0 : wb.drew.cell? ⟨wr.heap.size, 0, none⟩ = some (.int .u8 x.k) := b0
          have d1 : wb.drew.cell? ⟨wr.heap.size, 1, none⟩ = some (.string x.c) := b1
          have d2 : wb.drew.cell? ⟨wr.heap.size, 2, none⟩ = some (.string x.r) := b2
          have d3 : wb.drew.cell? ⟨wr.heap.size, 3, none⟩ = some (.string x.o) := b3
          have d4 : wb.drew.cell? ⟨p, 1, none⟩ = some (.slice va0 L.length vc0) := e2
          have HBD : Hid (wb.drew.heap[wr.heap.size]? = some (.cells #[.int .u8 x.k, .string x.c, .string x.r, .string x.o] 30)) := hid HBS.out.1
          have hbx : wr.heap.size < wb.drew.heap.size := by have := HBS.out.2; show _ < wb.heap.size; omega
          have HBX := hid (And.intro hbx HMB.out)
          clear hl hl2 e1 e2 b0 b1 b2 b3 HBS hbx HMB
          generalize wb.drew = wd at *
          generalize wr.heap.size = bx at *
          have hL512 := HLen.out
          obtain hfull | hfull : L.length + m = 512 ∨ L.length + m < 512 := by omega
          · have hsum : ((L.length : Int) + (m : Int) == 512) = true := by simp; omega
            have HF : Hid (512 < L.length + (news (L.map (·.key)) (firstK f n)).length) := hid (by
              have h1 := news_mono (L.map (·.key)) f (k := k + 1) (n := n) hlt
              have h2 : (news (L.map (·.key)) (firstK f (k + 1))).length = m + 1 := by
                rw [firstK_succ, news_snoc, HX.out, if_neg (fun h => h.elim (fun h3 => by rw [hasK_iff.2 h3] at *; exact absurd HE.out (by decide)) (fun h3 => HX2.out (by rw [HK.out]; exact h3))), List.length_append, ← HK.out, List.length_map, ← HM.out]
                rfl
              omega)
            clear hfull hL512
            go_wp2_with fail
            go_ret
            exact .inl ⟨HF.out, rfl, HGD.out.bel⟩
          · have hsum : ((L.length : Int) + (m : Int) == 512) = false := by simp; omega
            have step : Calls Try.prog 62 #[] wd.drew (fun e w' => e = .returned (ptr (wd.heap.size + 2)) ∧ (w'.cell? ⟨bx, 0, none⟩ = some (.int .u8 x.k) ∧ w'.cell? ⟨bx, 1, none⟩ = some (.string x.c) ∧ w'.cell? ⟨bx, 2, none⟩ = some (.string x.r) ∧ w'.cell? ⟨bx, 3, none⟩ = some (.string x.o)) ∧ ∃ w3, (Instr.mapUpdate 55 (.map (some mf)) (.agg #[.int .u8 x.k, .string x.c, .string x.r, .string x.o]) (ptr (wd.heap.size + 2))).run Try.prog w' = .ok () w3 ∧ (w3.cell? ⟨bx, 0, none⟩ = some (.int .u8 x.k) ∧ w3.cell? ⟨bx, 1, none⟩ = some (.string x.c) ∧ w3.cell? ⟨bx, 2, none⟩ = some (.string x.r) ∧ w3.cell? ⟨bx, 3, none⟩ = some (.string x.o)) ∧ Hid (∃ own', Gr w own L.length mf w3 own' (.slice va m vc) (G ++ [⟨x, ⟨wd.heap.size + 2, wd.heap.size, none, wd.heap.size + 1, none⟩, Nd.new⟩]) (G.map (·.key)))) := (new_any wd.drew).mono (by
              rintro e w' ⟨rfl, hI, hb, hs⟩
              have hb' : Below wd.heap.size wd w' := ⟨hb.os, hb.tape, hb.output, hb.size, hb.block⟩
              obtain ⟨w3, hst, hw, own', hG3⟩ := HGD.out.node x HFk.out HX2.out hI hb' hs
              have hlt3 := HBX.out
              have hsz := hb'.size
              refine ⟨rfl, ⟨kcS hb' d0, kcS hb' d1, kcS hb' d2, kcS hb' d3⟩, w3, hst, ?_, hid ⟨own', hG3⟩⟩
              have hc : ∀ o, w3.cell? ⟨bx, o, none⟩ = w'.cell? ⟨bx, o, none⟩ := fun o => hw.cell o (by omega) (by omega)
              exact ⟨(hc 0).trans (kcS hb' d0), (hc 1).trans (kcS hb' d1), (hc 2).trans (kcS hb' d2), (hc 3).trans (kcS hb' d3)⟩)
            have HS := hid step
            have HNot : Hid (¬ (x ∈ L.map (·.key) ∨ x ∈ news (L.map (·.key)) (firstK f k))) := hid (fun h => h.elim (fun h3 => by have := hasK_iff.2 h3; rw [HE.out] at this; exact absurd this (by decide)) (fun h3 => HX2.out (by rw [HK.out]; exact h3)))
            have HFull := hid hfull
            clear step hfull hL512
            go_upto_region 9 with fail
            generalize wd.heap.size + 2 = q at *
            go_region_held3 (fun w' => w'.cell? ⟨bx, 0, none⟩ = some (.int .u8 x.k) ∧ w'.cell? ⟨bx, 1, none⟩ = some (.string x.c) ∧ w'.cell? ⟨bx, 2, none⟩ = some (.string x.r) ∧ w'.cell? ⟨bx, 3, none⟩ = some (.string x.o)) (first | assumption | go_keep) (first | (go_at_call 62; refine HS.out.mono ?_; rintro e w2 ⟨rfl, ⟨c0, c1, c2, c3⟩, w3, hst, ⟨j0, j1, j2, j3⟩, HG3⟩))
            clear c0 c1 c2 c3 hst d0 d1 d2 d3 d4 HS HGD HTD
            obtain ⟨own3, hG3⟩ := HG3.out
            have hb4 : Below w3.heap.size w3 (w3.alloc (.cells #[.int .u8 x.k, .string x.c, .string x.r, .string x.o] 30)) := (Below.refl _ _).alloc (Nat.le_refl _) _
            have HG4 := hid (hG3.below hb4)
            have hrow : (w3.alloc (.cells #[.int .u8 x.k, .string x.c, .string x.r, .string x.o] 30)).ownsRow w.heap.size 30 4 (.slice va m vc) m (cellsL (G.map (·.key))) := by
              have := HG4.out.row
              unfold KRow at this
              rw [List.length_map, ← HM.out] at this
              exact this
            have hsz4 : w.heap.size ≤ (w3.alloc (.cells #[.int .u8 x.k, .string x.c, .string x.r, .string x.o] 30)).heap.size := HG4.out.bel.size
            clear hG3 hb4 HG3
            go_wp2_with (at_builtin; (refine wpList_append_own_at _ rfl _ _ 26 rfl w.heap.size 30 i0 (.agg #[.int .u8 0, .string ⟨#[]⟩, .string ⟨#[]⟩, .string ⟨#[]⟩]) 4 56 Try.underlying26 hi hz0 hz1 hz2 rfl (by decide) (Value.slice va m vc) m _ rfl hrow ⟨w3.heap.size, 0, none⟩ 1 1 [.int .u8 x.k, .string x.c, .string x.r, .string x.o] rfl ?c1 ?c2 ?c3 ?c4 ?c5 ?c6 ?_); rotate_left 6; intro v6 w6 hown6 hgr6 hnil6 hat6; obtain ⟨vb, vd, rfl⟩ := owns_shape hown6)
            case c1 => rfl
            case c2 => exact row_one w3 x
            case c3 => intro u hu; simp at hu; rcases hu with rfl | rfl | rfl | rfl <;> rfl
            case c4 => have := HLen.out; unfold maxLen; omega
            case c5 => have := HLen.out; omega
            case c6 => exact hsz4
            have HG5 : Hid (Gr w own L.length mf w6 own3 (.slice vb (m + 1) vd) (G ++ [⟨x, ⟨q, wd.heap.size, none, wd.heap.size + 1, none⟩, Nd.new⟩]) ((G ++ [(⟨x, ⟨q, wd.heap.size, none, wd.heap.size + 1, none⟩, Nd.new⟩ : Ent)]).map (·.key))) := hid (HG4.out.push (by
              unfold KRow
              rw [List.map_append, cellsL_app, List.length_append, List.length_map, ← HM.out]
              exact hown6) hgr6 hat6)
            clear hown6 hgr6 hnil6 hat6 hrow hsz4 HG4
            go_roundw
            case rel => exact ⟨k + 1, m + 1, vb, vd, own3, _, hlt, by go_num, by first | rfl | trivial, by rw [List.length_append, ← HM.out]; rfl, by rw [firstK_succ, news_snoc, HX.out, if_neg HNot.out, List.map_append, HK.out]; rfl, HFull.out, HG5.out⟩
            case measure => simp [intOf]; omega
        · rw [HGD.out.keys] at hx2
          have HX2 := hid hx2
          unfold kv at hl2
          clear hx2 hq
          go_region
          go_wp2_with fail
          go_roundw
          case rel => exact ⟨k + 1, m, va, vc, own1, G, hlt, by go_num, by first | rfl | trivial, HM.out, by rw [firstK_succ, news_snoc, HX.out, if_pos (.inr (by rw [← HK.out]; exact HX2.out))]; exact HK.out, hlen, HGD.out⟩
          case measure => simp [intOf]; omega
    · obtain rfl : k = n := by omega
      obtain ⟨-, -, hT⟩ := HH.out
      have hTw := hT.below HG.out.bel
      obtain ⟨F0, n0, hF0, hF0k⟩ := hTw.map
      have HCopy := hid (copy_any b mf _ F0 n0 wr hF0 HG.out.fr (by have := hT.map.lt; have := HG.out.mfn; omega))
      obtain ⟨k1, k2, -, -⟩ := hTw.cells
      have HTW := hid hTw
      have HT := hid hT
      have HF0 := hid hF0k
      clear hT hTw hF0 hF0k
      go_wp2_with fail
      refine HCopy.out.mono ?_
      rintro e w2 ⟨rfl, ⟨F, n1, hF, hF1, hF2⟩, hw⟩
      have hpb : p ≠ b := fun e => by have h1 := HTW.out.op; rw [e, HTW.out.ob] at h1; exact absurd h1 (by decide)
      have j2 : w2.cell? ⟨p, 1, none⟩ = some (.slice va0 L.length vc0) := (hw.cell 1 HTW.out.lt hpb).trans k2
      have jf : w2.frozen? ⟨p, 1, none⟩ = false := (hw.frozen 1 HTW.out.lt hpb).trans (HTW.out.cells.2.2.2 1)
      have hrow2 : KRow w2 0 (.slice va0 L.length vc0) (L.map (·.key)) := KRow.keep HTW.out.row fun g hg => hw.block g (KRow.has HTW.out.row g hg).2 fun e => by have h1 := HTW.out.orow g hg; rw [e, HTW.out.ob] at h1; exact absurd h1 (by decide)
      have hrowo : KRow w2 w.heap.size (.slice va m vc) (G.map (·.key)) := KRow.keep HG.out.row fun g hg => hw.block g (KRow.has HG.out.row g hg).2 fun e => by have h1 := (KRow.has HG.out.row g hg).1; have := HT.out.map.lt; omega
      have HR := hid (And.intro hrow2 hrowo)
      have HF := hid (And.intro hF (And.intro hF1 (And.intro hF2 hw)))
      have hll : (L.map (·.key)).length + (G.map (·.key)).length ≤ 1000000000 := by rw [List.length_map, List.length_map, ← HM.out]; omega
      clear hF hF1 hF2 hw hrow2 hrowo k1 k2 hpb
      have HP2 : Hid (p < w2.heap.size ∧ some p ≠ (Value.slice va0 L.length vc0).ownBlock) := hid ⟨by have := HTW.out.lt; have := HF.out.2.2.2.size; omega, fun e => by have h1 := HTW.out.orow p e.symm; rw [HTW.out.op] at h1; exact absurd h1 (by decide)⟩
      go_wp2_with (at_builtin; refine wpList_append_keys rfl _ _ rfl rfl rfl HR.out.1 HR.out.2 (Nat.zero_le _) hll ?_; intro v6 w6 hown6 hgr6 hat6; obtain ⟨vb, vd, rfl⟩ := owns_shape hown6; have jf6 : w6.frozen? ⟨p, 1, none⟩ = false := (World.frozen?_of_block (hgr6.block p HP2.out.1 HP2.out.2)).trans jf; have jc6 : w6.cell? ⟨p, 1, none⟩ = some (.slice va0 L.length vc0) := (World.cell?_of_block (a := ⟨p, 1, none⟩) (hgr6.block p HP2.out.1 HP2.out.2)).trans j2)
      go_ret
      have hat7 : (Value.slice vb (List.map (·.key) L ++ List.map (·.key) G).length vd).ownBlock = (Value.slice va0 L.length vc0).ownBlock ∨ (Value.slice vb (List.map (·.key) L ++ List.map (·.key) G).length vd).ownBlock = some w2.heap.size := hat6
      have hgr7 : w2.grownBy w6 (Value.slice va0 L.length vc0).ownBlock := hgr6
      have hlen6 : (List.map (·.key) L ++ List.map (·.key) G).length = L.length + G.length := by simp
      rw [hlen6] at hown6 hat7
      have hdis : ∀ e ∈ G, e.key ∉ L.map (·.key) := fun e he => ((news_mem _ _ _).1 (by rw [← HK.out]; exact List.mem_map.2 ⟨e, he, rfl⟩)).2
      obtain ⟨own', h1, h2, h3⟩ := Gr.ends HT.out HG.out hdis (by rw [← HM.out]; exact hlen) HF0.out HF.out.1 HF.out.2.1 HF.out.2.2.1 HF.out.2.2.2 hown6 hgr7 hat7
      exact .inr ⟨by rw [← HK.out, List.length_map, ← HM.out]; exact hlen, rfl, own', _, G, HK.out, fun y hy => by obtain ⟨i, hi, rfl⟩ := List.getElem_of_mem hy; exact (HG.out.nds i _ (List.getElem?_eq_getElem hi)).1, h1, h2, h3⟩

end Go.Proofs.Ytnloedhcginopaa.TreS
