/- The argument of SketchRuns: how many numbers there may be. -/
import Derived.Test.YtnpldfacnmhemaaRows
import Derived.Test.YtnpldfacnmhemaaSkT
import Derived.Test.YtnpldfacnmhemaaSruI
namespace Go.Proofs.Ytnpldfacnmhemaa.SruK
open Go.ChangeShapes Go.WideShapes Go.ChangeAt Go.RowKit Go.Deep Base Opn SkB SkT SruI
set_option linter.unusedVariables false

section
variable {H : Type}

theorem bulk_one (d : DataW H) : 1 ≤ Rows.uptoBulk d := by
  cases d with
  | lit l => cases l <;> simp [Rows.uptoBulk]
  | _ => simp [Rows.uptoBulk]

theorem bulk_app (l r : List (DataW H)) : Rows.uptoBulkAll (l ++ r) = Rows.uptoBulkAll l + Rows.uptoBulkAll r := by
  induction l with
  | nil => simp [Rows.uptoBulkAll]
  | cons x l ih =>
    show Rows.uptoBulk x + Rows.uptoBulkAll (l ++ r) = (Rows.uptoBulk x + Rows.uptoBulkAll l) + Rows.uptoBulkAll r
    rw [ih]
    omega

theorem bulk_in {d : DataW H} {l : List (DataW H)} (h : d ∈ l) : Rows.uptoBulk d ≤ Rows.uptoBulkAll l := by
  obtain ⟨a, b, rfl⟩ := List.append_of_mem h
  rw [bulk_app]
  show _ ≤ _ + (Rows.uptoBulk d + Rows.uptoBulkAll b)
  omega

theorem bulk_len (l : List (DataW H)) : l.length ≤ Rows.uptoBulkAll l := by
  induction l with
  | nil => exact Nat.zero_le _
  | cons x r ih =>
    have := bulk_one x
    show r.length + 1 ≤ Rows.uptoBulk x + Rows.uptoBulkAll r
    omega

variable {enc : TypeId × Value → H} {P : Program} {w : World} {base : Nat} {spare : Nat → Bool} {held : Bool}

/-- a struct in memory, by its fields, and the bulk of each -/
theorem field_bulk {e : TypeId} {fs : Array Field} {n : Nat} {a : Addr} {cs : List Value} {y : DataW H × List MemPlace} (he : P.underlying e = some (.struct fs)) (hone : oneCellFields P fs = true) (hC : P.cellsOf e = fs.size)
    (hc : w.cells? base a (P.cellsOf e) = some cs) (ht : DataW.trod enc P w base spare held n e cs = some y) (j : Nat) (f : Field) (hj : fs[j]? = some f) :
    ∃ v z k, w.cell? (a.add j) = some v ∧ DataW.trod enc P w base spare held k f.type [v] = some z ∧ Rows.uptoBulk z.1 ≤ Rows.uptoBulk y.1 := by
  obtain ⟨_, hlen, hat⟩ := World.cells?_some hc
  obtain ⟨xs, k, _, hy, _, hxl, hg⟩ := DataW.trod_struct he ht
  obtain ⟨o1, o2⟩ := hone_of hone j f hj
  have hjs : j < fs.size := (Array.getElem?_eq_some_iff.1 hj).1
  have hjc : j < cs.length := by omega
  have hg := hg j f hj
  rw [o1, o2, List.drop_eq_getElem_cons hjc] at hg
  simp only [List.take_succ_cons, List.take_zero] at hg
  obtain ⟨z, hz⟩ : ∃ z, xs[j]? = some z := ⟨xs[j]'(by omega), List.getElem?_eq_getElem (by omega)⟩
  refine ⟨cs[j], z, k, by rw [hat j (by omega)]; exact List.getElem?_eq_getElem hjc, by rw [hg, hz], ?_⟩
  have hy1 : y.1 = .agg (xs.map (·.1)) := by rw [hy]
  rw [hy1]
  have h1 : z.1 ∈ xs.map (·.1) := List.mem_map.2 ⟨z, List.mem_of_getElem? hz, rfl⟩
  have := bulk_in h1
  show _ ≤ Rows.uptoBulkAll _ + 1
  omega

theorem row_bulk {t e : TypeId} {fs : Array Field} {fuel : Nat} {a0 : Option Addr} {len cap : Nat} {x : DataW H × List MemPlace} (ht : P.underlying t = some (.slice e)) (he : P.underlying e = some (.struct fs)) (hone : oneCellFields P fs = true) (hC : P.cellsOf e = fs.size)
    (h : DataW.trod enc P w base spare held fuel t [.slice a0 len cap] = some x) :
    (a0 = none ∧ len = 0) ∨ ∃ a, a0 = some a ∧ len ≤ cap ∧ cap ≤ maxLen ∧ ∃ Dt : Nat → DataW H, Rows.uptoBulkAll ((List.range len).map Dt) ≤ Rows.uptoBulk x.1 ∧ ∀ i, i < len → ∀ (j : Nat) (f : Field), fs[j]? = some f →
      ∃ v z k, w.cell? (a.add (i * fs.size + j)) = some v ∧ DataW.trod enc P w base spare held k f.type [v] = some z ∧ Rows.uptoBulk z.1 ≤ Rows.uptoBulk (Dt i) := by
  rcases open_slice ht h with ⟨hn, _⟩ | ⟨a, l, c, m, n, D, Pl, hcs, _, hl, hm, hmm, hx, hi⟩
  · simp at hn
    exact .inl ⟨hn.1, hn.2.1⟩
  · simp at hcs
    obtain ⟨rfl, rfl, rfl⟩ := hcs
    refine .inr ⟨a, rfl, hl, hm, D, ?_, fun i hil j f hj => ?_⟩
    · have hx1 := congrArg Prod.fst hx
      dsimp only at hx1
      rw [hx1]
      show Rows.uptoBulkAll ((List.range len).map D) ≤ Rows.uptoBulkAll _ + Rows.uptoBulkAll _ + 1
      exact Nat.le_succ_of_le (Nat.le_add_right _ _)
    · obtain ⟨cs, h1, h2⟩ := hi i (by rw [hmm]; split <;> omega)
      obtain ⟨v, z, k, h3, h4, h5⟩ := field_bulk he hone hC h1 h2 j f hj
      rw [hC] at h3
      exact ⟨v, z, k, by rw [← add_add]; exact h3, h4, h5⟩

end

theorem ints_bulk {H : Type} {enc : TypeId × Value → H} {w : World} {base : Nat} {spare : Nat → Bool} {held : Bool} {k : Nat} {v : Value} {z : DataW H × List MemPlace}
    (h : DataW.trod enc Try.prog w base spare held k 37 [v] = some z) :
    ∃ (a : Option Addr) (n cap : Nat) (f : Nat → Int), v = .slice a n cap ∧ n ≤ 9223372036854775807 ∧ Ints w a n f ∧ n ≤ Rows.uptoBulk z.1 := by
  rcases open_ints Try.underlying37 Try.underlying3 (by kernel_rfl) h with ⟨hn, _⟩ | ⟨a, l, c, zs, hcs, _, hl, hm, hz, hx, hc, _⟩
  · simp at hn
    exact ⟨none, 0, 0, fun _ => 0, hn, by omega, fun h => by omega, Nat.zero_le _⟩
  · simp at hcs
    have hlz : l ≤ zs.length := by rw [hz]; split <;> omega
    unfold maxLen at hm
    refine ⟨some a, l, c, fun i => zs.getD i 0, hcs, by omega, fun h0 => ?_, ?_⟩
    · obtain ⟨b, off, spot⟩ := a
      have h00 := hc 0 (by omega)
      have hspot : spot = none := by simpa [Addr.add] using World.cell?_spot h00
      subst hspot
      refine ⟨b, off, rfl, by have := World.block_lt_of_cell? _ _ h00; simpa [Addr.add] using this, fun i h => ?_⟩
      have := hc i (by omega)
      rwa [Go.WideShapes.add_plain] at this
    · have hx1 := congrArg Prod.fst hx
      dsimp only at hx1
      rw [hx1]
      have h1 := bulk_len (lits .i64 (zs.take l) : List (DataW H))
      simp only [lits, List.length_map, List.length_take] at h1
      show _ ≤ Rows.uptoBulkAll _ + Rows.uptoBulkAll _ + 1
      simp only [lits]
      omega

theorem deeds_bulk {H : Type} {enc : TypeId × Value → H} {W : World} {base : Nat} {spare : Nat → Bool} {held : Bool} {a0 : Option Addr} {len0 cap0 : Nat} {d : DataW H} {p : List MemPlace}
    (h : DataW.Trod enc Try.prog W base spare held 25 (.slice a0 len0 cap0) d p) : ∃ D, Deeds W a0 len0 D ∧ sumD D len0 ≤ Rows.uptoBulk d := by
  obtain ⟨fuel, hf⟩ := h
  obtain ⟨fs, hu, h1, h2, h5, ht⟩ := underD
  rcases row_bulk Try.underlying25 hu h1 h2 (by simpa [Value.cells] using hf) with ⟨rfl, rfl⟩ | ⟨a, rfl, hl, hm, Dt, hb, hi⟩
  · exact ⟨fun _ => ⟨0, 0, ⟨#[]⟩, none, 0, 0, fun _ => 0⟩, ⟨by omega, fun h => by omega, fun i h => by omega⟩, Nat.zero_le _⟩
  · have each : ∀ i, i < len0 → ∃ D : Deed, (∀ (j : Nat) v, (dw D)[j]? = some v → W.cell? (a.add (i * 4 + j)) = some v) ∧ (D.key.size ≤ maxLen ∧ D.n ≤ 9223372036854775807 ∧ Ints W D.a D.n D.f) ∧ D.n ≤ Rows.uptoBulk (Dt i) := by
      intro i hil
      have hi := hi i hil
      rw [h5] at hi
      have hfl : fs.toList.length = 4 := by simpa using h5
      have hty : ∀ j (hj : j < 4), ∃ f, fs[j]? = some f ∧ some f.type = ([3, 3, 9, 37] : List TypeId)[j]? := fun j hj => by
        refine ⟨fs[j]'(by omega), Array.getElem?_eq_getElem (by omega), ?_⟩
        rw [← ht]
        simp [h5, hj]
      obtain ⟨f0, g0, t0⟩ := hty 0 (by omega)
      obtain ⟨f1, g1, t1⟩ := hty 1 (by omega)
      obtain ⟨f2, g2, t2⟩ := hty 2 (by omega)
      obtain ⟨f3, g3, t3⟩ := hty 3 (by omega)
      obtain ⟨v0, z0, k0, c0, r0, -⟩ := hi 0 f0 g0
      obtain ⟨v1, z1, k1, c1, r1, -⟩ := hi 1 f1 g1
      obtain ⟨v2, z2, k2, c2, r2, -⟩ := hi 2 f2 g2
      obtain ⟨v3, z3, k3, c3, r3, b3⟩ := hi 3 f3 g3
      simp only [List.getElem?_cons_zero, List.getElem?_cons_succ, Option.some.injEq] at t0 t1 t2 t3
      rw [t0] at r0; rw [t1] at r1; rw [t2] at r2; rw [t3] at r3
      obtain ⟨n0, e0, _, _⟩ := DataW.trod_int Try.underlying3 r0
      obtain ⟨n1, e1, _, _⟩ := DataW.trod_int Try.underlying3 r1
      obtain ⟨n2, e2, _, hs2⟩ := DataW.trod_string Try.underlying9 r2
      obtain ⟨ca, cn, cc, cf, e3, hn, hc, hbk⟩ := ints_bulk r3
      simp only [List.cons.injEq, and_true] at e0 e1 e2
      subst e0 e1 e2 e3
      refine ⟨⟨n0, n1, n2, ca, cn, cc, cf⟩, fun j v hv => ?_, ⟨hs2, hn, hc⟩, Nat.le_trans hbk b3⟩
      match j, hv with
      | 0, hv => simp [dw] at hv; rw [← hv]; exact c0
      | 1, hv => simp [dw] at hv; rw [← hv]; exact c1
      | 2, hv => simp [dw] at hv; rw [← hv]; exact c2
      | 3, hv => simp [dw] at hv; rw [← hv]; exact c3
      | j + 4, hv => simp [dw] at hv
    obtain ⟨D, hD⟩ := choose2 ⟨0, 0, ⟨#[]⟩, none, 0, 0, fun _ => 0⟩ each
    refine ⟨D, ⟨by unfold maxLen at hm; omega, fun h0 => ?_, fun i hil => (hD i hil).2.1⟩, ?_⟩
    · obtain ⟨b, off, spot⟩ := a
      have h00 := (hD 0 h0).1 0 _ rfl
      have hspot : spot = none := by simpa [Addr.add] using World.cell?_spot h00
      subst hspot
      refine ⟨b, off, rfl, World.block_lt_of_cell? _ _ h00, fun i hil j v hv => ?_⟩
      have h1 := (hD i hil).1 j v hv
      rw [Go.WideShapes.add_plain] at h1
      rw [show off + i * 4 + j = off + (i * 4 + j) by omega]
      exact h1
    · have key : ∀ k, k ≤ len0 → sumD D k ≤ Rows.uptoBulkAll ((List.range k).map Dt) := by
        intro k
        induction k with
        | zero => intro _; exact Nat.zero_le _
        | succ k ih =>
          intro hk
          have h1 := ih (by omega)
          have h2 := (hD k (by omega)).2.2
          rw [List.range_succ, List.map_append, bulk_app]
          show sumD D k + (D k).n ≤ _ + (Rows.uptoBulk (Dt k) + 0)
          omega
      exact Nat.le_trans (key len0 (Nat.le_refl _)) hb

set_option maxRecDepth 100000 in
/-- the shape, and the bounds of its seed -/
theorem seed_of {H : Type} {enc : TypeId × Value → H} {W : World} {base b0 : Nat} {r : Reach} {spare : Nat → Bool} {held : Bool} {v : Value} {d : DataW H} {p : List MemPlace}
    (hv : Value.okWide Try.prog W r b0 24 v) (h : DataW.Trod enc Try.prog W base spare held 24 v d p) :
    ∃ (wd bk ro co : Int) (sd : Nat), v = .agg #[.int .i64 wd, .int .i64 bk, .int .i64 ro, .int .i64 co, .int .u64 sd] ∧ sd < 18446744073709551616 := by
  obtain ⟨wd, bk, ro, co, sd, rfl, _⟩ := shape_of hv h
  refine ⟨wd, bk, ro, co, sd, rfl, ?_⟩
  obtain ⟨fuel, hf⟩ := h
  obtain ⟨fs, hu, h1, h2, h5, ht⟩ := underS
  have hf : DataW.trod enc Try.prog W base spare held fuel 24 [.int .i64 wd, .int .i64 bk, .int .i64 ro, .int .i64 co, .int .u64 sd] = some (d, p) := by
    rw [show (Value.agg #[.int .i64 wd, .int .i64 bk, .int .i64 ro, .int .i64 co, .int .u64 sd]).cells = #[.int .i64 wd, .int .i64 bk, .int .i64 ro, .int .i64 co, .int .u64 sd] from by unfold Value.cells; rfl] at hf
    exact hf
  have hfl : fs.toList.length = 5 := by simpa using h5
  have hty : ∀ j (hj : j < 5), ∃ f, fs[j]? = some f ∧ some f.type = ([3, 3, 3, 3, 22] : List TypeId)[j]? := fun j hj => by
    refine ⟨fs[j]'(by omega), Array.getElem?_eq_getElem (by omega), ?_⟩
    rw [← ht]
    simp [h5, hj]
  obtain ⟨f4, g4, t4⟩ := hty 4 (by omega)
  simp only [List.getElem?_cons_zero, List.getElem?_cons_succ, Option.some.injEq] at t4
  obtain ⟨v4, z4, k4, c4, r4⟩ := arg_at hu h1 h2 hf 4 f4 g4
  rw [t4] at r4
  obtain ⟨n4, e4, _, w4⟩ := DataW.trod_int Try.underlying22 r4
  simp only [List.cons.injEq, and_true] at e4
  subst e4
  simp only [List.getElem?_cons_zero, List.getElem?_cons_succ, Option.some.injEq, Value.int.injEq, true_and] at c4
  subst c4
  simp only [Lit.wf, Bool.and_eq_true, decide_eq_true_eq] at w4
  have := w4.2
  have e : IntKind.u64.max = 18446744073709551615 := by decide
  omega

end Go.Proofs.Ytnpldfacnmhemaa.SruK
