/- Contract of the program's Shuffle, telling that the list is the call's own. -/
import Derived.Test.YthkpfjjcpifkcaaWldI
import Derived.Test.YthkpfjjcpifkcaaWri
namespace Go.Proofs.Ythkpfjjcpifkcaa.WlsI
set_option linter.unusedVariables false
open Go.ChangeShapes Go.WideShapes Go.ChangeAt Go.RowKit Base ClkM Clk WldA WldF WldG WldH WldI Wri

/-- a row that the call owns -/
def Ours (w : World) (g n : Nat) : Prop := ∃ xs, w.ownsRow g 3 1 (.slice (some ⟨g, 0, none⟩) n n) n xs
def RowO (w : World) (g n : Nat) (f : Nat → Int) : Prop := Row w g n f ∧ Ours w g n

theorem RowO.of_block {w w' : World} {g n : Nat} {f : Nat → Int} (h : RowO w g n f) (e : w'.heap[g]? = w.heap[g]?) : RowO w' g n f :=
  ⟨h.1.of_block e, by obtain ⟨xs, hx⟩ := h.2; exact ⟨xs, owns_keep hx (fun k hk => by cases hk; exact e)⟩⟩
theorem RowO.set {w : World} {g n : Nat} {f : Nat → Int} (h : RowO w g n f) (i : Nat) (hi : i < n) (x : Int) : RowO (w.setCell ⟨g, i, none⟩ (.int .i64 x)) g n (fun j => if j = i then x else f j) :=
  ⟨h.1.set i hi x, by obtain ⟨xs, hx⟩ := h.2; exact ⟨_, (World.ownsRow.stored hx i (.int .i64 x)).1⟩⟩
theorem RowO.congr {w : World} {g n : Nat} {f f' : Nat → Int} (h : RowO w g n f) (e : ∀ j, j < n → f j = f' j) : RowO w g n f' := ⟨h.1.congr e, h.2⟩

theorem swap_rowO {w : World} {g n : Nat} {f : Nat → Int} (h : RowO w g n f) (i j : Nat) (hi : i < n) (hj : j < n) (u v : Int) (hu : f i = u) (hv : f j = v) :
    RowO ((w.setCell ⟨g, i, none⟩ (.int .i64 v)).setCell ⟨g, j, none⟩ (.int .i64 u)) g n (swapF f i j) := by
  refine ((h.set i hi v).set j hj u).congr fun k _ => ?_
  unfold swapF
  simp only [hu, hv]

def ShufOwn (b x n : Nat) (w : World) (e : Ending) (w' : World) : Prop :=
  ∃ (g : Nat), e = .returned (.tuple #[.slice (some ⟨g, 0, none⟩) n n, .int .i64 0]) ∧
    w.heap.size ≤ g ∧ g < w'.heap.size ∧ RowO w' g n (shufF (n - 1) x idF).1 ∧
    w'.cell? ⟨b, 0, none⟩ = some (.int .u64 ((shufF (n - 1) x idF).2 : Nat)) ∧ w'.frozen? ⟨b, 0, none⟩ = false ∧ Keeps b w w'

def Rel2o (b g n : Nat) (R : (Nat → Int) × Nat) (w : World) (i : Value) (wr : World) : Prop :=
  ∃ (z : Int) (s : Nat) (f : Nat → Int), i = .int .i64 z ∧ -1 ≤ z ∧ z < n ∧ shufF z.toNat s f = R ∧ RowO wr g n f ∧ wr.cell? ⟨b, 0, none⟩ = some (.int .u64 s) ∧ wr.frozen? ⟨b, 0, none⟩ = false ∧ Keeps b w wr ∧ g < wr.heap.size

set_option maxRecDepth 100000 in
set_option maxHeartbeats 1000000 in
theorem shuffle_own (b x n : Nat) (w : World) (hn : n ≤ 4096) (h : w.cell? ⟨b, 0, none⟩ = some (.int .u64 x)) (hf : w.frozen? ⟨b, 0, none⟩ = false) :
    Calls Try.prog 9 #[.pointer (some ⟨b, 0, none⟩), .int .i64 n] w (ShufOwn b x n w) := by
  obtain ⟨i0, hi, hz0, hz1, hz2⟩ := info_parts infoInt
  have hb := World.block_lt_of_cell? _ _ h
  go_enter Try.func9, Try.ntmps9
  go_wp2_with (at_make; refine wpList_make_full _ rfl _ _ 26 rfl w.heap.size 3 i0 (.int .i64 0) 1 Try.underlying26 hi hz0 hz1 .i64 .i64 n n n rfl rfl rfl rfl ?b2 ?b3 (Nat.le_refl _) ?_; rotate_left 2; intro w1 hown hgrow)
  case b2 => omega
  case b3 => unfold maxLen; omega
  have hk1 : Keeps b w w1 := (Keeps.refl b w).grown hgrow (fun _ e => by cases e)
  have hc1 : w1.cell? ⟨b, 0, none⟩ = some (.int .u64 x) := by rw [World.cell?_of_block (hgrow.block b hb (fun e => by cases e))]; exact h
  have hf1 : w1.frozen? ⟨b, 0, none⟩ = false := by rw [World.frozen?_of_block (hgrow.block b hb (fun e => by cases e))]; exact hf
  have hr1 : RowO w1 w.heap.size n (upF 0) := ⟨Row.owned hown (fun j hj => by simp [madeCells, Value.cells, hj, upF, Nat.mod_one]), _, hown⟩
  have hs1 : w.heap.size < w1.heap.size := (hown.lt w.heap.size rfl).2
  clear hown hgrow h hf
  have HK1 := hid hk1
  have HC1 := hid hc1
  have HF1 := hid hf1
  have HR1 := hid hr1
  have HS1 := hid hs1
  clear hk1 hc1 hf1 hr1 hs1
  go_loopw [25] (fun i wr => ∃ k : Nat, k ≤ n ∧ i = .int .i64 k ∧ RowO wr w.heap.size n (upF k) ∧ wr.cell? ⟨b, 0, none⟩ = some (.int .u64 x) ∧ wr.frozen? ⟨b, 0, none⟩ = false ∧ Keeps b w wr ∧ w.heap.size < wr.heap.size) (fun i _ => n - (intOf i).toNat)
  case atStart => exact ⟨0, Nat.zero_le _, rfl, HR1.out, HC1.out, HF1.out, HK1.out, HS1.out⟩
  case round =>
    obtain ⟨k, hk, rfl, hrow, hc, hf, hkeep, hsz⟩ := hrel
    have HR := hid hrow
    have HC := hid hc
    have HF := hid hf
    have HK := hid hkeep
    clear hrow hc hf hkeep
    by_cases hlt : k < n
    · have hx := (HR.out.1 k hlt).1
      have hz := (HR.out.1 k hlt).2
      generalize upF k k = u at *
      go_wp2
      exact ⟨⟨k + 1, by omega, by go_num, by rw [← upF_set]; exact HR.out.set k hlt k, by rw [World.cell?_setCell_other _ _ _ _ (by intro e; cases e; omega)]; exact HC.out, by rw [World.frozen?_setCell]; exact HF.out, HK.out.setNew _ (Nat.le_refl _) _ _, by simp; omega⟩, by simp [intOf]; omega⟩
    · obtain rfl : k = n := by omega
      have HR2 : Hid (RowO wr w.heap.size k idF) := hid (HR.out.congr (fun j hj => by unfold upF idF; rw [if_pos hj]))
      clear HR
      go_wp2
      go_loopw [8] (fun i wq => Rel2o b w.heap.size k (shufF (k - 1) x idF) w i wq) (fun i _ => (intOf i).toNat)
      case atStart => exact ⟨(k : Int) - 1, x, idF, by go_num, by omega, by omega, by rw [show ((k : Int) - 1).toNat = k - 1 from by omega], HR2.out, HC.out, HF.out, HK.out, hsz⟩
      case round =>
        obtain ⟨z, s, f, rfl, hz0, hz1, hR, hrow, hc, hf, hkeep, hsz2⟩ := hrel
        have HC2 := hid hc
        have HR := hid hrow
        have HK2 := hid hkeep
        have HRR := hid hR
        have HF2 := hid hf
        by_cases hpos : 0 < z
        · obtain ⟨i1, hi1⟩ : ∃ i1 : Nat, z = i1 := ⟨z.toNat, by omega⟩
          subst hi1
          have hi2 : i1 < k := by omega
          have hi3 : 0 < i1 := by omega
          obtain ⟨j, s2, hj, hsh, hB⟩ := below_step b s i1 f wr hi3 (by omega) hc hf
          have hj0 : j < k := by omega
          have HSh := hid hsh
          have HB := hid hB
          rw [show (i1 : Int).toNat = i1 from by omega] at HRR
          clear hj hsh hB
          have hrow2 : RowO (wr.setCell ⟨b, 0, none⟩ (.int .u64 s2)) w.heap.size k f := hrow.of_block (heap_setCell_other _ _ _ _ (by simp; omega))
          have hc2 : (wr.setCell ⟨b, 0, none⟩ (.int .u64 s2)).cell? ⟨b, 0, none⟩ = some (.int .u64 s2) := World.cell?_setCell_same _ _ _ hc
          have hf2 : (wr.setCell ⟨b, 0, none⟩ (.int .u64 s2)).frozen? ⟨b, 0, none⟩ = false := by rw [World.frozen?_setCell]; exact hf
          have hk2 : Keeps b w (wr.setCell ⟨b, 0, none⟩ (.int .u64 s2)) := hkeep.set _ _
          have hs2 : w.heap.size < (wr.setCell ⟨b, 0, none⟩ (.int .u64 s2)).heap.size := by simp; omega
          clear hc hrow hkeep hR hf HC2 HR HK2 HF2 HK HC HF
          go_wp2_with fail
          refine HB.out.mono ?_
          rintro e wd ⟨rfl, hwd⟩
          rw [hwd] at hrow2 hc2 hf2 hk2 hs2
          have HR := hid hrow2
          have HC2 := hid hc2
          have HF2 := hid hf2
          have HK2 := hid hk2
          have hci := (hrow2.1 i1 hi2).1
          have hfi := (hrow2.1 i1 hi2).2
          have hcj := (hrow2.1 j hj0).1
          have hfj := (hrow2.1 j hj0).2
          clear hrow2 hc2 hf2 hk2 hwd HB hsz2
          obtain ⟨u, hu⟩ : ∃ u, f i1 = u := ⟨_, rfl⟩
          obtain ⟨v, hv⟩ : ∃ v, f j = v := ⟨_, rfl⟩
          rw [hu] at hci
          rw [hv] at hcj
          have HU := hid hu
          have HV := hid hv
          clear hu hv
          by_cases hij : i1 = j
          · subst hij
            obtain rfl : u = v := by rw [← HU.out, HV.out]
            clear hcj hfj hj0
            go_wp2_with fail
            go_region
            go_wp2
            exact ⟨⟨(i1 : Int) - 1, s2, swapF f i1 i1, by go_num, by omega, by omega, by rw [show ((i1 : Int) - 1).toNat = i1 - 1 from by omega, ← HSh.out, HRR.out], swap_rowO HR.out i1 i1 hi2 hi2 u u HU.out HV.out, by have := HC2.out; go_cell, by have := HF2.out; go_cell, ((HK2.out.setNew _ (Nat.le_refl _) _ _).setNew _ (Nat.le_refl _) _ _).drewN 1, by simp; omega⟩, by simp [intOf]; omega⟩
          · go_wp2_with fail
            go_region
            go_wp2
            exact ⟨⟨(i1 : Int) - 1, s2, swapF f i1 j, by go_num, by omega, by omega, by rw [show ((i1 : Int) - 1).toNat = i1 - 1 from by omega, ← HSh.out, HRR.out], swap_rowO HR.out i1 j hi2 hj0 u v HU.out HV.out, by have := HC2.out; go_cell, by have := HF2.out; go_cell, ((HK2.out.setNew _ (Nat.le_refl _) _ _).setNew _ (Nat.le_refl _) _ _).drewN 1, by simp; omega⟩, by simp [intOf]; omega⟩
        · have hz2 : z.toNat = 0 := by omega
          rw [hz2] at HRR
          have HRa : Hid (f = (shufF (k - 1) x idF).1 ∧ s = (shufF (k - 1) x idF).2) := hid (by rw [← HRR.out]; exact ⟨rfl, rfl⟩)
          have hposf : decide (0 < z) = false := by simpa using hpos
          clear hpos hz2 hR
          go_wp2
          go_ret2
          refine ⟨w.heap.size, rfl, Nat.le_refl _, hsz2, by rw [← HRa.out.1]; exact hrow, by rw [← HRa.out.2]; exact HC2.out, HF2.out, HK2.out⟩


end Go.Proofs.Ythkpfjjcpifkcaa.WlsI
