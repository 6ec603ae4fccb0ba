/- The places of a key. -/
import Derived.Test.YtnpldfacnmhemaaSkE
import Derived.Test.YtnpldfacnmhemaaWldA
import Derived.Deep.RegionHeld3
import Derived.Laws.BitsLemmas
import Derived.OwnWalk
namespace Go.Proofs.Ytnpldfacnmhemaa.SkF
open Go.ChangeShapes Go.WideShapes Go.ChangeAt Go.RowKit Base Wri WldA SkA SkB SkD

/-- block g is a row of places: one a row, the columns are told by f; the first k are there -/
def Pl (w : World) (g n k : Nat) (f : Nat → Nat) : Prop :=
  ∃ cur, w.heap[g]? = some (.cells cur 91) ∧ cur.size = n * 2 ∧ ∀ i, i < k → cur[i * 2]? = some (.int .i64 i) ∧ cur[i * 2 + 1]? = some (.int .i64 (f i))
theorem Pl.of_block {w w' : World} {g n k : Nat} {f : Nat → Nat} (h : Pl w g n k f) (e : w'.heap[g]? = w.heap[g]?) : Pl w' g n k f := by
  obtain ⟨cur, h1, h2⟩ := h
  exact ⟨cur, e.trans h1, h2⟩
theorem Pl.put {w : World} {g n k : Nat} {f : Nat → Nat} (h : Pl w g n k f) (hk : k < n) : Pl ((w.setCell ⟨g, k * 2, none⟩ (.int .i64 k)).setCell ⟨g, k * 2 + 1, none⟩ (.int .i64 (f k))) g n (k + 1) f := by
  obtain ⟨cur, h1, h2, h3⟩ := h
  refine ⟨(cur.setIfInBounds (k * 2) (.int .i64 k)).setIfInBounds (k * 2 + 1) (.int .i64 (f k)), heap_setCell_same _ _ _ _ _ _ (heap_setCell_same _ _ _ _ _ _ h1), by simpa using h2, fun i hi => ?_⟩
  by_cases e : i = k
  · subst e
    constructor
    · rw [Array.getElem?_setIfInBounds_ne (by omega)]; simp [Array.getElem?_setIfInBounds]; omega
    · simp [Array.getElem?_setIfInBounds]; omega
  · have n0 : k * 2 ≠ i * 2 := by omega
    have n1 : k * 2 + 1 ≠ i * 2 := by omega
    have n2 : k * 2 ≠ i * 2 + 1 := by omega
    have n3 : k * 2 + 1 ≠ i * 2 + 1 := by omega
    rw [Array.getElem?_setIfInBounds_ne n1, Array.getElem?_setIfInBounds_ne n0, Array.getElem?_setIfInBounds_ne n3, Array.getElem?_setIfInBounds_ne n2]
    exact h3 i (by omega)
theorem Pl.there {w : World} {g n k : Nat} {f : Nat → Nat} (h : Pl w g n k f) (o : Nat) (ho : o < n * 2) : ∃ u, w.cell? ⟨g, o, none⟩ = some u := by
  obtain ⟨cur, h1, h2, _⟩ := h
  exact ⟨cur[o]'(by omega), by simp [World.cell?, h1]⟩
theorem Pl.frozen {w : World} {g n k : Nat} {f : Nat → Nat} (h : Pl w g n k f) (o : Nat) : w.frozen? ⟨g, o, none⟩ = false := by
  obtain ⟨cur, h1, _⟩ := h
  simp [World.frozen?, h1]
theorem Pl.cells {w : World} {g n k : Nat} {f : Nat → Nat} (h : Pl w g n k f) (i : Nat) (hi : i < k) : w.cell? ⟨g, i * 2, none⟩ = some (.int .i64 i) ∧ w.cell? ⟨g, i * 2 + 1, none⟩ = some (.int .i64 (f i)) := by
  obtain ⟨cur, h1, _, h3⟩ := h
  obtain ⟨q1, q2⟩ := h3 i hi
  exact ⟨by simp [World.cell?, h1, q1], by simp [World.cell?, h1, q2]⟩
theorem Pl.lt {w : World} {g n k : Nat} {f : Nat → Nat} (h : Pl w g n k f) : g < w.heap.size := by
  obtain ⟨cur, h1, _⟩ := h
  exact (Array.getElem?_eq_some_iff.1 h1).1

theorem infoPl : (Try.prog.info? 91).map (fun i => (i.zero, i.size, i.bytes)) = some (some (.agg #[.int .i64 0, .int .i64 0]), 2, 16) := by kernel_rfl

theorem pl_made {w : World} {B g n : Nat} {xs : List Value} {f : Nat → Nat} (h : w.ownsRow B 91 2 (.slice (some ⟨g, 0, none⟩) n n) n xs) : Pl w g n 0 f := by
  rcases h.2 with ⟨h0, _⟩ | ⟨g2, cap, cur, hv, _, hh, _, _, hs, _⟩
  · cases h0
  · cases hv
    exact ⟨cur, hh, hs, fun i hi => by omega⟩

def baseN (s : ByteArray) (seed : Nat) : Nat := (hashN s + seed) % 18446744073709551616
def argN (b r : Nat) : Nat := (b + 11400714819323198485 * (r + 1)) % 18446744073709551616
/-- the column of a key in a row -/
def colN (seed cols r : Nat) (s : ByteArray) : Nat := mixN (argN (baseN s seed) r) % cols

theorem arg_core (C b k : Nat) : IntKind.u64.wrap ((b : Int) + IntKind.u64.wrap ((C : Int) * ((k : Int) + 1))) = (((b + C * (k + 1)) % 18446744073709551616 : Nat) : Int) := by
  rw [IntKind.wrap_u64, IntKind.wrap_u64, Int.natCast_emod, Int.natCast_add, Int.natCast_mul, Int.natCast_add, Int.add_emod_emod]
  rfl
theorem arg_eq (b k : Nat) : IntKind.u64.wrap ((b : Int) + IntKind.u64.wrap (11400714819323198485 * ((k : Int) + 1))) = (argN b k : Nat) := arg_core 11400714819323198485 b k
theorem arg_lt (b k : Nat) : argN b k < 18446744073709551616 := Nat.mod_lt _ (by decide)
theorem base_eq (s : ByteArray) (seed : Nat) : IntKind.u64.wrap ((hashN s : Int) + (seed : Int)) = (baseN s seed : Nat) := by
  unfold baseN
  rw [IntKind.wrap_u64, Int.natCast_emod]
  rfl

set_option maxRecDepth 20000 in
set_option maxHeartbeats 1000000 in
theorem places_any (p : Nat) (seed rows cols : Nat) (s : ByteArray) (w : World) (hs : s.size ≤ maxLen) (hr : 1 ≤ rows ∧ rows ≤ 8) (hc : 1 ≤ cols ∧ cols ≤ 4096)
    (c2 : w.cell? ⟨p, 2, none⟩ = some (.int .i64 rows)) (c3 : w.cell? ⟨p, 3, none⟩ = some (.int .i64 cols)) (c4 : w.cell? ⟨p, 4, none⟩ = some (.int .u64 seed)) :
    Calls Try.prog 40 #[.pointer (some ⟨p, 0, none⟩), .string s] w fun e w' => ∃ g, e = .returned (.slice (some ⟨g, 0, none⟩) rows rows) ∧ w.heap.size ≤ g ∧ Pl w' g rows rows (fun r => colN seed cols r s) ∧ Below w.heap.size w w' := by
  obtain ⟨i0, hi, hz0, hz1, hz2⟩ := info_parts infoPl
  have HH := hid (hash_any s w.drew hs)
  have HBa := hid (base_eq s seed)
  have hp := World.block_lt_of_cell? _ _ c2
  go_enter Try.func40, Try.ntmps40
  go_wp2_with fail
  go_region_held3 (fun w' => w'.cell? ⟨p, 4, none⟩ = some (.int .u64 seed)) (first | assumption | go_keep)
    (first | (go_at_call 23; refine HH.out.mono ?_; rintro e w3 ⟨rfl, rfl⟩))
  all_goals
    rw [HBa.out]
    clear HH HBa
    obtain ⟨b, hb⟩ : ∃ b, baseN s seed = b := ⟨_, rfl⟩
    rw [hb]
    have HCol : Hid (∀ r, colN seed cols r s = mixN (argN b r) % cols) := hid fun r => by unfold colN; rw [hb]
    clear hb
    have d2 : w.drew.cell? ⟨p, 2, none⟩ = some (.int .i64 rows) := c2
    have d3 : w.drew.cell? ⟨p, 3, none⟩ = some (.int .i64 cols) := c3
    have HBd : Hid (Below w.heap.size w w.drew) := hid (Below.refl _ w).drew
    generalize hwd : w.drew = wd at *
    have hsd : w.heap.size = wd.heap.size := by rw [← hwd]; rfl
    clear hwd
    go_wp2_with (at_make; refine wpList_make_full _ rfl _ _ 100 rfl wd.heap.size 91 i0 (.agg #[.int .i64 0, .int .i64 0]) 2 Try.underlying100 hi hz0 hz1 .i64 .i64 (rows : Int) (rows : Int) rows rfl rfl rfl rfl ?b2 ?b3 (Nat.le_refl _) ?_; rotate_left 2; intro w1 hown hgrow
                 have hp1 : p < wd.heap.size := by omega
                 have hbp := hgrow.block p hp1 (fun e => by cases e)
                 have f2 : w1.cell? ⟨p, 2, none⟩ = some (.int .i64 rows) := (World.cell?_of_block (a := ⟨p, 2, none⟩) hbp).trans d2
                 have f3 : w1.cell? ⟨p, 3, none⟩ = some (.int .i64 cols) := (World.cell?_of_block (a := ⟨p, 3, none⟩) hbp).trans d3
                 have HPl : Hid (Pl w1 wd.heap.size rows 0 (fun r => colN seed cols r s)) := hid (pl_made hown)
                 have HB1 : Hid (Below w.heap.size w w1) := hid (HBd.out.grown hgrow (by omega) (fun j e => by cases e))
                 clear hown hgrow hbp)
    case b2 => rw [hz2]; omega
    case b3 => unfold maxLen; omega
    have hgs := HPl.out.lt
    obtain ⟨g, hg⟩ : ∃ g, wd.heap.size = g := ⟨_, rfl⟩
    rw [hg] at HPl hgs ⊢
    have hgw : w.heap.size ≤ g := by omega
    have hpg : p ≠ g := by omega
    clear d2 d3 HBd
    go_loopw [27] (fun r wr => ∃ k : Nat, k ≤ rows ∧ r = .int .i64 k ∧ Pl wr g rows k (fun r => colN seed cols r s) ∧ Below w.heap.size w wr) (fun r _ => rows - (intOf r).toNat)
    case atStart => exact ⟨0, Nat.zero_le _, rfl, HPl.out, HB1.out⟩
    case round =>
      obtain ⟨k, hk, rfl, hpl, hB⟩ := hrel
      have HPk := hid hpl
      have HBk := hid hB
      have k2 : wr.cell? ⟨p, 2, none⟩ = some (.int .i64 rows) := (hB.cell (p := ⟨p, 2, none⟩) hp).trans c2
      have k3 : wr.cell? ⟨p, 3, none⟩ = some (.int .i64 cols) := (hB.cell (p := ⟨p, 3, none⟩) hp).trans c3
      clear hpl hB
      by_cases hlt : k < rows
      · obtain ⟨u0, hu0⟩ := HPk.out.there (k * 2) (by omega)
        obtain ⟨u1, hu1⟩ := HPk.out.there (k * 2 + 1) (by omega)
        have z0 := HPk.out.frozen (k * 2)
        have z1 := HPk.out.frozen (k * 2 + 1)
        have hgl := HPk.out.lt
        have HMx := hid (mix_look (argN b k) (arg_lt b k) wr)
        have HAr := hid (arg_eq b k)
        have HCk := hid (HCol.out k)
        go_wp2_with fail
        rw [HAr.out]
        refine HMx.out.mono ?_
        rintro e w3 ⟨rfl, rfl⟩
        clear HMx HAr
        obtain ⟨m, hm⟩ : ∃ m, mixN (argN b k) = m := ⟨_, rfl⟩
        rw [hm] at HCk ⊢
        clear hm
        have hc0 : ((cols : Int) == 0) = false := by simp; omega
        have hm1 : (0 : Int) ≤ (m : Int) % (cols : Int) := Int.emod_nonneg _ (by omega)
        have hm2 : (m : Int) % (cols : Int) < cols := Int.emod_lt_of_pos _ (by omega)
        obtain ⟨hc1, hc2⟩ := hc
        go_wp2_with fail
        go_roundw
        case rel =>
          have hput := HPk.out.put hlt
          rw [HCk.out] at hput
          exact ⟨k + 1, by omega, by go_num, hput, (HBk.out.setCell (p := ⟨g, k * 2, none⟩) hgw _).setCell (p := ⟨g, k * 2 + 1, none⟩) hgw _⟩
        case measure => simp [intOf]; omega
      · obtain rfl : k = rows := by omega
        go_wp2_with fail
        go_ret
        exact ⟨g, rfl, hgw, HPk.out, HBk.out⟩

end Go.Proofs.Ytnpldfacnmhemaa.SkF
