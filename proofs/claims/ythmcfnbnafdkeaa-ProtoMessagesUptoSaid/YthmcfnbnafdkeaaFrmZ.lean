/- Lists of bytes as an argument: where they lie, and how many there may be. -/
import Derived.Test.YthmcfnbnafdkeaaRows
import Derived.Test.YthmcfnbnafdkeaaFrmX
import Derived.Test.YthmcfnbnafdkeaaOpn
import Derived.Deep.Slices
namespace Go.Proofs.Ythmcfnbnafdkeaa.FrmZ
open Go.ChangeShapes Go.WideShapes Go.ChangeAt Go.RowKit Go.Deep Base Opn FrmP FrmA FrmX
set_option linter.unusedVariables false
set_option linter.unusedSimpArgs false

section
variable {H : Type}

theorem bulk_one (d : DataW H) : 1 ≤ Rows.uptoBulk d := by
  cases d with
  | lit l => cases l <;> simp [Rows.uptoBulk]
  | _ => simp [Rows.uptoBulk]
theorem bulk_app (l r : List (DataW H)) : Rows.uptoBulkAll (l ++ r) = Rows.uptoBulkAll l + Rows.uptoBulkAll r := by
  induction l with
  | nil => simp [Rows.uptoBulkAll]
  | cons x l ih =>
    show Rows.uptoBulk x + Rows.uptoBulkAll (l ++ r) = (Rows.uptoBulk x + Rows.uptoBulkAll l) + Rows.uptoBulkAll r
    rw [ih]
    omega
theorem bulk_in {d : DataW H} {l : List (DataW H)} (h : d ∈ l) : Rows.uptoBulk d ≤ Rows.uptoBulkAll l := by
  obtain ⟨a, b, rfl⟩ := List.append_of_mem h
  rw [bulk_app]
  show _ ≤ _ + (Rows.uptoBulk d + Rows.uptoBulkAll b)
  omega
theorem bulk_len (l : List (DataW H)) : l.length ≤ Rows.uptoBulkAll l := by
  induction l with
  | nil => exact Nat.zero_le _
  | cons x r ih =>
    have := bulk_one x
    show r.length + 1 ≤ Rows.uptoBulk x + Rows.uptoBulkAll r
    omega

variable {enc : TypeId × Value → H} {w : World} {base : Nat} {held : Bool}

theorem bytes_bulk {k : Nat} {v : Value} {z : DataW H × List MemPlace} (h : DataW.trod enc Try.prog w base (fun _ => true) held k 28 [v] = some z) :
    ∃ (a : Option Addr) (cap : Nat) (s : Bs), v = .slice a s.length cap ∧ BAt w w.heap.size a s ∧ s.length ≤ cap ∧ cap ≤ Rows.uptoBulk z.1 := by
  rcases open_slice1 Try.underlying28 (by kernel_rfl) h with ⟨hn, _⟩ | ⟨a, l, c, m, n, V, D, Pl, hcs, _, hl, hm, hmm, hx, hi⟩
  · simp at hn
    exact ⟨none, 0, [], hn, fun h => absurd h (by decide), Nat.le_refl _, Nat.zero_le _⟩
  · simp at hcs hmm
    have each : ∀ i, i < m → ∃ x : UInt8, w.cell? (a.add i) = some (bv x) := fun i him => by
      obtain ⟨h1, h2⟩ := hi i him
      obtain ⟨n0, e0, _, hw⟩ := DataW.trod_int Try.underlying5 h2
      simp at e0
      have hb : 0 ≤ n0 ∧ n0 ≤ 255 := by
        simp [Lit.wf, IntKind.min, IntKind.max, IntKind.bits, IntKind.signed] at hw
        omega
      refine ⟨UInt8.ofNat n0.toNat, ?_⟩
      rw [h1, e0]
      unfold bv
      congr 2
      simp
      omega
    obtain ⟨f, hf⟩ := choose2 (n := m) (0 : UInt8) each
    have hsl : ((List.range l).map f).length = l := by simp
    refine ⟨some a, c, (List.range l).map f, by rw [hsl]; exact hcs, fun h0 => ?_, by rw [hsl]; exact hl, ?_⟩
    · rw [hsl] at h0
      obtain ⟨b, off, spot⟩ := a
      have h00 := hf 0 (by omega)
      have hspot : spot = none := by simpa [Addr.add] using World.cell?_spot h00
      subst hspot
      refine ⟨b, off, rfl, World.block_lt_of_cell? _ _ h00, fun i x hx => ?_⟩
      rw [List.getElem?_map] at hx
      have hil : i < l := by
        apply Decidable.byContradiction
        intro hc
        rw [List.getElem?_eq_none (by simp; omega)] at hx
        cases hx
      rw [List.getElem?_range hil] at hx
      simp at hx
      have := hf i (by omega)
      rw [Go.WideShapes.add_plain, hx] at this
      exact this
    · have hx1 := congrArg Prod.fst hx
      dsimp only at hx1
      rw [hx1]
      have h1 := bulk_len ((List.range l).map D)
      have h2 := bulk_len ((List.range (m - l)).map fun j => D (l + j))
      simp only [List.length_map, List.length_range] at h1 h2
      show _ ≤ Rows.uptoBulkAll _ + Rows.uptoBulkAll _ + 1
      omega

def sumL (ls : List Bs) : Nat := (ls.map List.length).sum

theorem pieces_bulk {a0 : Option Addr} {len0 cap0 : Nat} {d : DataW H} {p : List MemPlace} (h : DataW.Trod enc Try.prog w base (fun _ => true) held 22 (.slice a0 len0 cap0) d p) (hb : Rows.uptoBulk d ≤ 1048576) :
    ∃ (ls : List Bs) (f : Nat → Option Addr × Nat), ls.length = len0 ∧ PAt w w.heap.size a0 ls f ∧ len0 ≤ cap0 ∧ cap0 ≤ maxLen ∧ sumL ls ≤ 1048576 ∧ len0 ≤ 1048576 := by
  obtain ⟨fuel, hf⟩ := h
  have hf : DataW.trod enc Try.prog w base (fun _ => true) held fuel 22 [.slice a0 len0 cap0] = some (d, p) := by simpa [Value.cells] using hf
  rcases open_slice1 Try.underlying22 (by kernel_rfl) hf with ⟨hn, hx⟩ | ⟨a, l, c, m, n, V, D, Pl, hcs, _, hl, hm, hmm, hx, hi⟩
  · simp at hn
    obtain ⟨rfl, rfl, rfl⟩ := hn
    refine ⟨[], fun _ => (none, 0), rfl, fun h => absurd h (by decide), Nat.le_refl _, by decide, by decide, by omega⟩
  · simp at hcs hmm
    obtain ⟨rfl, rfl, rfl⟩ := hcs
    have hx1 := congrArg Prod.fst hx
    dsimp only at hx1
    have each : ∀ i, i < len0 → ∃ x : (Option Addr × Nat) × Bs, V i = .slice x.1.1 x.2.length x.1.2 ∧ BAt w w.heap.size x.1.1 x.2 ∧ x.2.length ≤ x.1.2 ∧ x.1.2 ≤ Rows.uptoBulk (D i) := fun i him => by
      obtain ⟨h1, h2⟩ := hi i (by omega)
      obtain ⟨a, cap, s, h3, h4, h5, h6⟩ := bytes_bulk h2
      exact ⟨((a, cap), s), h3, h4, h5, h6⟩
    obtain ⟨F, hF⟩ := choose2 (n := len0) ((none, 0), ([] : Bs)) each
    have hsl : ((List.range len0).map fun i => (F i).2).length = len0 := by simp
    have hbd : Rows.uptoBulkAll ((List.range len0).map D) ≤ Rows.uptoBulk d := by
      rw [hx1]
      show _ ≤ Rows.uptoBulkAll _ + Rows.uptoBulkAll _ + 1
      omega
    refine ⟨(List.range len0).map fun i => (F i).2, fun i => (F i).1, hsl, fun h0 => ?_, hl, hm, ?_, ?_⟩
    · rw [hsl] at h0
      obtain ⟨b, off, spot⟩ := a
      have h00 := (hi 0 (by omega)).1
      have hspot : spot = none := by simpa [Addr.add] using World.cell?_spot h00
      subst hspot
      refine ⟨b, off, rfl, World.block_lt_of_cell? _ _ h00, fun i x hx => ?_⟩
      rw [List.getElem?_map] at hx
      have hil : i < len0 := by
        apply Decidable.byContradiction
        intro hc
        rw [List.getElem?_eq_none (by simp; omega)] at hx
        cases hx
      rw [List.getElem?_range hil] at hx
      simp at hx
      obtain ⟨h1, h2, h3, h4⟩ := hF i hil
      rw [hx] at h1 h2 h3
      have h5 := (hi i (by omega)).1
      rw [Go.WideShapes.add_plain, h1] at h5
      have h6 : Rows.uptoBulk (D i) ≤ Rows.uptoBulkAll ((List.range len0).map D) := bulk_in (List.mem_map.2 ⟨i, List.mem_range.2 hil, rfl⟩)
      exact ⟨h5, h2, h3, by show (F i).1.2 ≤ _; omega⟩
    · have key : ∀ k, k ≤ len0 → sumL ((List.range k).map fun i => (F i).2) ≤ Rows.uptoBulkAll ((List.range k).map D) := by
        intro k
        induction k with
        | zero => intro _; exact Nat.zero_le _
        | succ k ih =>
          intro hk
          have h1 := ih (by omega)
          obtain ⟨_, _, h3, h4⟩ := hF k (by omega)
          rw [List.range_succ, List.map_append, List.map_append, bulk_app]
          unfold sumL at *
          rw [List.map_append, List.sum_append]
          show _ + ((F k).2.length + 0) ≤ _ + (Rows.uptoBulk (D k) + 0)
          omega
      exact Nat.le_trans (key len0 (Nat.le_refl _)) (Nat.le_trans hbd hb)
    · have := bulk_len ((List.range len0).map D)
      simp only [List.length_map, List.length_range] at this
      omega

end

end Go.Proofs.Ythmcfnbnafdkeaa.FrmZ
