/- The deeds of a network as an argument: where they lie, and how many bytes there may be. -/
import Derived.Test.YtgkfiolgipgbkaaRows
import Derived.Test.YtgkfiolgipgbkaaStmN
import Derived.Test.YtgkfiolgipgbkaaOpn
import Derived.Deep.Slices
namespace Go.Proofs.Ytgkfiolgipgbkaa.StmQ
open Go.ChangeShapes Go.WideShapes Go.ChangeAt Go.RowKit Go.Deep Base Opn FrmP FrmA StmA VaiA
set_option linter.unusedVariables false
set_option linter.unusedSimpArgs false

section
variable {H : Type}

theorem bulk_one (d : DataW H) : 1 ≤ Rows.uptoBulk d := by
  cases d with
  | lit l => cases l <;> simp [Rows.uptoBulk]
  | _ => simp [Rows.uptoBulk]

theorem bulk_app (l r : List (DataW H)) : Rows.uptoBulkAll (l ++ r) = Rows.uptoBulkAll l + Rows.uptoBulkAll r := by
  induction l with
  | nil => simp [Rows.uptoBulkAll]
  | cons x l ih =>
    show Rows.uptoBulk x + Rows.uptoBulkAll (l ++ r) = (Rows.uptoBulk x + Rows.uptoBulkAll l) + Rows.uptoBulkAll r
    rw [ih]
    omega

theorem bulk_in {d : DataW H} {l : List (DataW H)} (h : d ∈ l) : Rows.uptoBulk d ≤ Rows.uptoBulkAll l := by
  obtain ⟨a, b, rfl⟩ := List.append_of_mem h
  rw [bulk_app]
  show _ ≤ _ + (Rows.uptoBulk d + Rows.uptoBulkAll b)
  omega

theorem bulk_len (l : List (DataW H)) : l.length ≤ Rows.uptoBulkAll l := by
  induction l with
  | nil => exact Nat.zero_le _
  | cons x r ih =>
    have := bulk_one x
    show r.length + 1 ≤ Rows.uptoBulk x + Rows.uptoBulkAll r
    omega

variable {enc : TypeId × Value → H} {P : Program} {w : World} {base : Nat} {spare : Nat → Bool} {held : Bool}

/-- a struct in memory, by its fields, and the bulk of each -/
theorem field_bulk {e : TypeId} {fs : Array Field} {n : Nat} {a : Addr} {cs : List Value} {y : DataW H × List MemPlace} (he : P.underlying e = some (.struct fs)) (hone : oneCellFields P fs = true) (hC : P.cellsOf e = fs.size)
    (hc : w.cells? base a (P.cellsOf e) = some cs) (ht : DataW.trod enc P w base spare held n e cs = some y) (j : Nat) (f : Field) (hj : fs[j]? = some f) :
    ∃ v z k, w.cell? (a.add j) = some v ∧ DataW.trod enc P w base spare held k f.type [v] = some z ∧ Rows.uptoBulk z.1 ≤ Rows.uptoBulk y.1 := by
  obtain ⟨_, hlen, hat⟩ := World.cells?_some hc
  obtain ⟨xs, k, _, hy, _, hxl, hg⟩ := DataW.trod_struct he ht
  obtain ⟨o1, o2⟩ := hone_of hone j f hj
  have hjs : j < fs.size := (Array.getElem?_eq_some_iff.1 hj).1
  have hjc : j < cs.length := by omega
  have hg := hg j f hj
  rw [o1, o2, List.drop_eq_getElem_cons hjc] at hg
  simp only [List.take_succ_cons, List.take_zero] at hg
  obtain ⟨z, hz⟩ : ∃ z, xs[j]? = some z := ⟨xs[j]'(by omega), List.getElem?_eq_getElem (by omega)⟩
  refine ⟨cs[j], z, k, by rw [hat j (by omega)]; exact List.getElem?_eq_getElem hjc, by rw [hg, hz], ?_⟩
  have hy1 : y.1 = .agg (xs.map (·.1)) := by rw [hy]
  rw [hy1]
  have h1 : z.1 ∈ xs.map (·.1) := List.mem_map.2 ⟨z, List.mem_of_getElem? hz, rfl⟩
  have := bulk_in h1
  show _ ≤ Rows.uptoBulkAll _ + 1
  omega

theorem row_bulk {t e : TypeId} {fs : Array Field} {fuel : Nat} {a0 : Option Addr} {len cap : Nat} {x : DataW H × List MemPlace} (ht : P.underlying t = some (.slice e)) (he : P.underlying e = some (.struct fs)) (hone : oneCellFields P fs = true) (hC : P.cellsOf e = fs.size)
    (h : DataW.trod enc P w base spare held fuel t [.slice a0 len cap] = some x) :
    (a0 = none ∧ len = 0) ∨ ∃ a, a0 = some a ∧ len ≤ cap ∧ cap ≤ maxLen ∧ ∃ Dt : Nat → DataW H, Rows.uptoBulkAll ((List.range len).map Dt) ≤ Rows.uptoBulk x.1 ∧ ∀ i, i < len → ∀ (j : Nat) (f : Field), fs[j]? = some f →
      ∃ v z k, w.cell? (a.add (i * fs.size + j)) = some v ∧ DataW.trod enc P w base spare held k f.type [v] = some z ∧ Rows.uptoBulk z.1 ≤ Rows.uptoBulk (Dt i) := by
  rcases open_slice ht h with ⟨hn, _⟩ | ⟨a, l, c, m, n, D, Pl, hcs, _, hl, hm, hmm, hx, hi⟩
  · simp at hn
    exact .inl ⟨hn.1, hn.2.1⟩
  · simp at hcs
    obtain ⟨rfl, rfl, rfl⟩ := hcs
    refine .inr ⟨a, rfl, hl, hm, D, ?_, fun i hil j f hj => ?_⟩
    · have hx1 := congrArg Prod.fst hx
      dsimp only at hx1
      rw [hx1]
      show Rows.uptoBulkAll ((List.range len).map D) ≤ Rows.uptoBulkAll _ + Rows.uptoBulkAll _ + 1
      exact Nat.le_succ_of_le (Nat.le_add_right _ _)
    · obtain ⟨cs, h1, h2⟩ := hi i (by rw [hmm]; split <;> omega)
      obtain ⟨v, z, k, h3, h4, h5⟩ := field_bulk he hone hC h1 h2 j f hj
      rw [hC] at h3
      exact ⟨v, z, k, by rw [← add_add]; exact h3, h4, h5⟩

end


section
variable {H : Type} {enc : TypeId × Value → H} {w : World} {base : Nat} {held : Bool}

theorem bytes_bulk {k : Nat} {v : Value} {z : DataW H × List MemPlace} (h : DataW.trod enc Try.prog w base (fun _ => true) held k 32 [v] = some z) :
    ∃ (a : Option Addr) (cap : Nat) (s : Bs), v = .slice a s.length cap ∧ BAt w w.heap.size a s ∧ s.length ≤ cap ∧ cap ≤ Rows.uptoBulk z.1 := by
  rcases open_slice1 Try.underlying32 (by kernel_rfl) h with ⟨hn, _⟩ | ⟨a, l, c, m, n, V, D, Pl, hcs, _, hl, hm, hmm, hx, hi⟩
  · simp at hn
    exact ⟨none, 0, [], hn, fun h => absurd h (by decide), Nat.le_refl _, Nat.zero_le _⟩
  · simp at hcs hmm
    have each : ∀ i, i < m → ∃ x : UInt8, w.cell? (a.add i) = some (bv x) := fun i him => by
      obtain ⟨h1, h2⟩ := hi i him
      obtain ⟨n0, e0, _, hw⟩ := DataW.trod_int Try.underlying5 h2
      simp at e0
      have hb : 0 ≤ n0 ∧ n0 ≤ 255 := by
        simp [Lit.wf, IntKind.min, IntKind.max, IntKind.bits, IntKind.signed] at hw
        omega
      refine ⟨UInt8.ofNat n0.toNat, ?_⟩
      rw [h1, e0]
      unfold bv
      congr 2
      simp
      omega
    obtain ⟨f, hf⟩ := choose2 (n := m) (0 : UInt8) each
    have hsl : ((List.range l).map f).length = l := by simp
    refine ⟨some a, c, (List.range l).map f, by rw [hsl]; exact hcs, fun h0 => ?_, by rw [hsl]; exact hl, ?_⟩
    · rw [hsl] at h0
      obtain ⟨b, off, spot⟩ := a
      have h00 := hf 0 (by omega)
      have hspot : spot = none := by simpa [Addr.add] using World.cell?_spot h00
      subst hspot
      refine ⟨b, off, rfl, World.block_lt_of_cell? _ _ h00, fun i x hx => ?_⟩
      rw [List.getElem?_map] at hx
      have hil : i < l := by
        apply Decidable.byContradiction
        intro hc
        rw [List.getElem?_eq_none (by simp; omega)] at hx
        cases hx
      rw [List.getElem?_range hil] at hx
      simp at hx
      have := hf i (by omega)
      rw [Go.WideShapes.add_plain, hx] at this
      exact this
    · have hx1 := congrArg Prod.fst hx
      dsimp only at hx1
      rw [hx1]
      have h1 := bulk_len ((List.range l).map D)
      have h2 := bulk_len ((List.range (m - l)).map fun j => D (l + j))
      simp only [List.length_map, List.length_range] at h1 h2
      show _ ≤ Rows.uptoBulkAll _ + Rows.uptoBulkAll _ + 1
      omega


theorem ints_bulk {k : Nat} {v : Value} {z : DataW H × List MemPlace} (h : DataW.trod enc Try.prog w base (fun _ => true) held k 31 [v] = some z) :
    ∃ (a : Option Addr) (cap : Nat) (zs : List Int), v = .slice a zs.length cap ∧ NAt w w.heap.size a zs ∧ zs.length ≤ cap ∧ zs.length ≤ Rows.uptoBulk z.1 ∧ ∀ x ∈ zs, -9223372036854775808 ≤ x ∧ x ≤ 9223372036854775807 := by
  rcases open_slice1 Try.underlying31 (by kernel_rfl) h with ⟨hn, _⟩ | ⟨a, l, c, m, n, V, D, Pl, hcs, _, hl, hm, hmm, hx, hi⟩
  · simp at hn
    exact ⟨none, 0, [], hn, fun h => absurd h (by decide), Nat.le_refl _, Nat.zero_le _, fun x hx => by cases hx⟩
  · simp at hcs hmm
    have each : ∀ i, i < m → ∃ x : Int, w.cell? (a.add i) = some (.int .i64 x) ∧ -9223372036854775808 ≤ x ∧ x ≤ 9223372036854775807 := fun i him => by
      obtain ⟨h1, h2⟩ := hi i him
      obtain ⟨n0, e0, _, hw⟩ := DataW.trod_int Try.underlying3 h2
      simp at e0
      have hb : -9223372036854775808 ≤ n0 ∧ n0 ≤ 9223372036854775807 := by
        simp [Lit.wf, IntKind.min, IntKind.max, IntKind.bits, IntKind.signed] at hw
        omega
      exact ⟨n0, by rw [h1, e0], hb.1, hb.2⟩
    obtain ⟨f, hf⟩ := choose2 (n := m) (0 : Int) each
    have hsl : ((List.range l).map f).length = l := by simp
    refine ⟨some a, c, (List.range l).map f, by rw [hsl]; exact hcs, fun h0 => ?_, by rw [hsl]; exact hl, ?_, fun x hx => ?_⟩
    · rw [hsl] at h0
      obtain ⟨b, off, spot⟩ := a
      have h00 := (hf 0 (by omega)).1
      have hspot : spot = none := by simpa [Addr.add] using World.cell?_spot h00
      subst hspot
      refine ⟨b, off, rfl, World.block_lt_of_cell? _ _ h00, fun i x hx => ?_⟩
      rw [List.getElem?_map] at hx
      have hil : i < l := by
        apply Decidable.byContradiction
        intro hc
        rw [List.getElem?_eq_none (by simp; omega)] at hx
        cases hx
      rw [List.getElem?_range hil] at hx
      simp at hx
      have := (hf i (by omega)).1
      rw [Go.WideShapes.add_plain, hx] at this
      exact this
    · have hx1 := congrArg Prod.fst hx
      dsimp only at hx1
      rw [hx1]
      have h1 := bulk_len ((List.range l).map D)
      simp only [List.length_map, List.length_range] at h1
      rw [hsl]
      show _ ≤ Rows.uptoBulkAll _ + Rows.uptoBulkAll _ + 1
      omega
    · obtain ⟨i, hi2, rfl⟩ := List.mem_map.1 hx
      exact (hf i (by have := List.mem_range.1 hi2; omega)).2
end

/-- a deed, as it came in -/
structure Dd where
  kind : Int
  conn : Int
  en : Int
  num : Int
  pa : Option Addr
  pc : Nat
  ps : List Int
  ba : Option Addr
  bc : Nat
  s : Bs
def dd0 : Dd := ⟨0, 0, 0, 0, none, 0, [], none, 0, []⟩
def dw (d : Dd) : List Value := [.int .i64 d.kind, .int .i64 d.conn, .int .i64 d.en, .int .i64 d.num, .slice d.pa d.ps.length d.pc, .slice d.ba d.s.length d.bc]
def sumS (D : Nat → Dd) : Nat → Nat
  | 0 => 0
  | k + 1 => sumS D k + (D k).s.length
def Wf (x : Int) : Prop := -9223372036854775808 ≤ x ∧ x ≤ 9223372036854775807
structure DdOk (w : World) (d : Dd) : Prop where
  kind : Wf d.kind
  conn : Wf d.conn
  en : Wf d.en
  num : Wf d.num
  ports : NAt w w.heap.size d.pa d.ps
  wfp : ∀ x ∈ d.ps, Wf x
  bytes : BAt w w.heap.size d.ba d.s
  room : d.s.length ≤ d.bc
structure Dds (w : World) (a : Option Addr) (n : Nat) (D : Nat → Dd) : Prop where
  len : n ≤ 1048576
  at_ : 0 < n → ∃ p q, a = some ⟨p, q, none⟩ ∧ p < w.heap.size ∧ ∀ i, i < n → ∀ (j : Nat) v, (dw (D i))[j]? = some v → w.cell? ⟨p, q + i * 6 + j, none⟩ = some v
  ok : ∀ i, i < n → DdOk w (D i)
  sum : ∀ k, k ≤ n → sumS D k ≤ 1048576
  pl : ∀ i, i < n → (D i).ps.length ≤ 1048576

set_option maxRecDepth 100000 in
theorem deeds_of {H : Type} {enc : TypeId × Value → H} {W : World} {base : Nat} {held : Bool} {a0 : Option Addr} {len0 cap0 : Nat} {d : DataW H} {p : List MemPlace}
    (h : DataW.Trod enc Try.prog W base (fun _ => true) held 22 (.slice a0 len0 cap0) d p) (hb0 : Rows.uptoBulk d ≤ 1048576) : ∃ D, Dds W a0 len0 D := by
  obtain ⟨fuel, hf⟩ := h
  obtain ⟨fs, hu, h1, h2, h5, ht⟩ : ∃ fs, Try.prog.underlying 34 = some (.struct fs) ∧ oneCellFields Try.prog fs = true ∧ Try.prog.cellsOf 34 = fs.size ∧ fs.size = 6 ∧
    (fs.toList.map (·.type)) = [3, 3, 3, 3, 31, 32] := ⟨_, Try.underlying34, by kernel_rfl, by kernel_rfl, by kernel_rfl, by kernel_rfl⟩
  rcases row_bulk Try.underlying22 hu h1 h2 (by simpa [Value.cells] using hf) with ⟨rfl, rfl⟩ | ⟨a, rfl, hl, hm, Dt, hb, hi⟩
  · exact ⟨fun _ => dd0, by omega, fun h => by omega, fun i h => by omega, fun k hk => (by have h0 : k = 0 := Nat.le_zero.1 hk; subst h0; exact Nat.zero_le _), fun i h => by omega⟩
  · have hb : Rows.uptoBulkAll ((List.range len0).map Dt) ≤ Rows.uptoBulk d := hb
    have each : ∀ i, i < len0 → ∃ D : Dd, (∀ (j : Nat) v, (dw D)[j]? = some v → W.cell? (a.add (i * 6 + j)) = some v) ∧ DdOk W D ∧ D.s.length ≤ Rows.uptoBulk (Dt i) ∧ D.ps.length ≤ Rows.uptoBulk (Dt i) := by
      intro i hil
      have hi := hi i hil
      rw [h5] at hi
      have hty : ∀ j (hj : j < 6), ∃ f, fs[j]? = some f ∧ some f.type = ([3, 3, 3, 3, 31, 32] : List TypeId)[j]? := fun j hj => by
        refine ⟨fs[j]'(by omega), Array.getElem?_eq_getElem (by omega), ?_⟩
        rw [← ht]
        simp [h5, hj]
      obtain ⟨f0, g0, t0⟩ := hty 0 (by omega)
      obtain ⟨f1, g1, t1⟩ := hty 1 (by omega)
      obtain ⟨f2, g2, t2⟩ := hty 2 (by omega)
      obtain ⟨f3, g3, t3⟩ := hty 3 (by omega)
      obtain ⟨f4, g4, t4⟩ := hty 4 (by omega)
      obtain ⟨f5, g5, t5⟩ := hty 5 (by omega)
      obtain ⟨v0, z0, k0, c0, r0, -⟩ := hi 0 f0 g0
      obtain ⟨v1, z1, k1, c1, r1, -⟩ := hi 1 f1 g1
      obtain ⟨v2, z2, k2, c2, r2, -⟩ := hi 2 f2 g2
      obtain ⟨v3, z3, k3, c3, r3, -⟩ := hi 3 f3 g3
      obtain ⟨v4, z4, k4, c4, r4, b4⟩ := hi 4 f4 g4
      obtain ⟨v5, z5, k5, c5, r5, b5⟩ := hi 5 f5 g5
      simp only [List.getElem?_cons_zero, List.getElem?_cons_succ, Option.some.injEq] at t0 t1 t2 t3 t4 t5
      rw [t0] at r0; rw [t1] at r1; rw [t2] at r2; rw [t3] at r3; rw [t4] at r4; rw [t5] at r5
      obtain ⟨n0, e0, _, w0⟩ := DataW.trod_int Try.underlying3 r0
      obtain ⟨n1, e1, _, w1⟩ := DataW.trod_int Try.underlying3 r1
      obtain ⟨n2, e2, _, w2⟩ := DataW.trod_int Try.underlying3 r2
      obtain ⟨n3, e3, _, w3⟩ := DataW.trod_int Try.underlying3 r3
      obtain ⟨pa, pc, ps, e4, hpn, hpc, hpb, hpw⟩ := ints_bulk r4
      obtain ⟨ba, bc, s, e5, hbn, hbc, hbb⟩ := bytes_bulk r5
      simp only [List.cons.injEq, and_true] at e0 e1 e2 e3
      subst e0 e1 e2 e3 e4 e5
      have wfi : ∀ {x : Int}, (Lit.int .i64 x).wf = true → Wf x := fun {x} hw => by
        simp [Lit.wf, IntKind.min, IntKind.max, IntKind.bits, IntKind.signed] at hw
        unfold Wf
        omega
      refine ⟨⟨n0, n1, n2, n3, pa, pc, ps, ba, bc, s⟩, fun j v hv => ?_, ⟨wfi w0, wfi w1, wfi w2, wfi w3, hpn, hpw, hbn, hbc⟩, by dsimp only; omega, by dsimp only; omega⟩
      match j, hv with
      | 0, hv => simp [dw] at hv; rw [← hv]; exact c0
      | 1, hv => simp [dw] at hv; rw [← hv]; exact c1
      | 2, hv => simp [dw] at hv; rw [← hv]; exact c2
      | 3, hv => simp [dw] at hv; rw [← hv]; exact c3
      | 4, hv => simp [dw] at hv; rw [← hv]; exact c4
      | 5, hv => simp [dw] at hv; rw [← hv]; exact c5
      | j + 6, hv => simp [dw] at hv
    obtain ⟨D, hD⟩ := choose2 dd0 each
    have hin : ∀ i, i < len0 → Rows.uptoBulk (Dt i) ≤ 1048576 := fun i hi => Nat.le_trans (bulk_in (List.mem_map.2 ⟨i, List.mem_range.2 hi, rfl⟩)) (Nat.le_trans hb hb0)
    refine ⟨D, ?_, fun h0 => ?_, fun i hil => (hD i hil).2.1, ?_, fun i hil => Nat.le_trans (hD i hil).2.2.2 (hin i hil)⟩
    · have := bulk_len ((List.range len0).map Dt)
      simp only [List.length_map, List.length_range] at this
      omega
    · obtain ⟨b, off, spot⟩ := a
      have h00 := (hD 0 h0).1 0 _ rfl
      have hspot : spot = none := by simpa [Addr.add] using World.cell?_spot h00
      subst hspot
      refine ⟨b, off, rfl, World.block_lt_of_cell? _ _ h00, fun i hil j v hv => ?_⟩
      have h1 := (hD i hil).1 j v hv
      rw [Go.WideShapes.add_plain] at h1
      rw [show off + i * 6 + j = off + (i * 6 + j) by omega]
      exact h1
    · have key : ∀ k, k ≤ len0 → sumS D k ≤ Rows.uptoBulkAll ((List.range k).map Dt) := by
        intro k
        induction k with
        | zero => intro _; exact Nat.zero_le _
        | succ k ih =>
          intro hk
          have h1 := ih (by omega)
          have h2 := (hD k (by omega)).2.2.1
          rw [List.range_succ, List.map_append, bulk_app]
          show sumS D k + (D k).s.length ≤ _ + (Rows.uptoBulk (Dt k) + 0)
          omega
      intro k hk
      have h1 := key k hk
      have h2 : Rows.uptoBulkAll ((List.range k).map Dt) ≤ Rows.uptoBulkAll ((List.range len0).map Dt) := by
        obtain ⟨m, rfl⟩ : ∃ m, len0 = k + m := ⟨len0 - k, by omega⟩
        rw [List.range_add, List.map_append, bulk_app]
        omega
      omega

end Go.Proofs.Ytgkfiolgipgbkaa.StmQ
