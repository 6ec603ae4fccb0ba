/- What comes in of rejecting: rules, calls, numbers. -/
import Derived.Test.YtakmfcnmcjbbgaaRejG
import Derived.Test.YtakmfcnmcjbbgaaOpn
import Derived.Test.YtakmfcnmcjbbgaaRoom
namespace Go.Proofs.Ytakmfcnmcjbbgaa.RejX
open Go.ChangeShapes Go.WideShapes Go.ChangeAt Go.RowKit Go.Deep Base RejA RejB RejD RejE Txt Opn
set_option linter.unusedVariables false

theorem underF : ∃ fs, Try.prog.underlying 25 = some (.struct fs) ∧ oneCellFields Try.prog fs = true ∧ Try.prog.cellsOf 25 = fs.size ∧ fs.size = 12 ∧
    (fs.toList.map (·.type)) = [9, 9, 4, 3, 22, 9, 23, 3, 3, 4, 3, 4] := ⟨_, Try.underlying25, by kernel_rfl, by kernel_rfl, by kernel_rfl, by kernel_rfl⟩

theorem wf_u8 {n : Int} (h : (Lit.int .u8 n).wf = true) : ∃ m : Nat, n = m := by
  simp [Lit.wf, IntKind.min, IntKind.max, IntKind.bits, IntKind.signed] at h
  exact ⟨n.toNat, by omega⟩

theorem flows_of {H : Type} {enc : TypeId × Value → H} {W : World} {base : Nat} {spare : Nat → Bool} {held : Bool} {a0 : Option Addr} {len0 cap0 : Nat} {d : DataW H} {p : List MemPlace}
    (h : DataW.Trod enc Try.prog W base spare held 40 (.slice a0 len0 cap0) d p) : len0 ≤ 9223372036854775807 ∧ ∃ L, Flows W a0 len0 L := by
  obtain ⟨fuel, hf⟩ := h
  obtain ⟨fs, hu, h1, h2, h5, ht⟩ := underF
  rcases row_at Try.underlying40 hu h1 h2 (by simpa [Value.cells] using hf) with ⟨rfl, rfl⟩ | ⟨a, rfl, hl, hm, hi⟩
  · exact ⟨by omega, fun _ => RejG.rule, fun h => by omega, fun i h => by omega, fun i h => by omega, fun i h => by omega⟩
  · have each : ∀ i, i < len0 → ∃ F : Flow, (∀ (j : Nat) v, (fv F)[j]? = some v → W.cell? (a.add (i * 12 + j)) = some v) ∧ F.res.size ≤ maxLen ∧ F.org.size ≤ maxLen ∧ F.ref.size ≤ maxLen := by
      intro i hil
      have hi := hi i hil
      rw [h5] at hi
      have hty : ∀ j (hj : j < 12), ∃ f, fs[j]? = some f ∧ some f.type = ([9, 9, 4, 3, 22, 9, 23, 3, 3, 4, 3, 4] : List TypeId)[j]? := fun j hj => by
        refine ⟨fs[j]'(by omega), Array.getElem?_eq_getElem (by omega), ?_⟩
        rw [← ht]
        simp [h5, hj]
      obtain ⟨f0, g0, t0⟩ := hty 0 (by omega)
      obtain ⟨f1, g1, t1⟩ := hty 1 (by omega)
      obtain ⟨f2, g2, t2⟩ := hty 2 (by omega)
      obtain ⟨f3, g3, t3⟩ := hty 3 (by omega)
      obtain ⟨f4, g4, t4⟩ := hty 4 (by omega)
      obtain ⟨f5, g5, t5⟩ := hty 5 (by omega)
      obtain ⟨f6, g6, t6⟩ := hty 6 (by omega)
      obtain ⟨f7, g7, t7⟩ := hty 7 (by omega)
      obtain ⟨f8, g8, t8⟩ := hty 8 (by omega)
      obtain ⟨f9, g9, t9⟩ := hty 9 (by omega)
      obtain ⟨f10, g10, t10⟩ := hty 10 (by omega)
      obtain ⟨f11, g11, t11⟩ := hty 11 (by omega)
      obtain ⟨v0, z0, k0, c0, r0⟩ := hi 0 f0 g0
      obtain ⟨v1, z1, k1, c1, r1⟩ := hi 1 f1 g1
      obtain ⟨v2, z2, k2, c2, r2⟩ := hi 2 f2 g2
      obtain ⟨v3, z3, k3, c3, r3⟩ := hi 3 f3 g3
      obtain ⟨v4, z4, k4, c4, r4⟩ := hi 4 f4 g4
      obtain ⟨v5, z5, k5, c5, r5⟩ := hi 5 f5 g5
      obtain ⟨v6, z6, k6, c6, r6⟩ := hi 6 f6 g6
      obtain ⟨v7, z7, k7, c7, r7⟩ := hi 7 f7 g7
      obtain ⟨v8, z8, k8, c8, r8⟩ := hi 8 f8 g8
      obtain ⟨v9, z9, k9, c9, r9⟩ := hi 9 f9 g9
      obtain ⟨v10, z10, k10, c10, r10⟩ := hi 10 f10 g10
      obtain ⟨v11, z11, k11, c11, r11⟩ := hi 11 f11 g11
      simp only [List.getElem?_cons_zero, List.getElem?_cons_succ, Option.some.injEq] at t0 t1 t2 t3 t4 t5 t6 t7 t8 t9 t10 t11
      rw [t0] at r0
      rw [t1] at r1
      rw [t2] at r2
      rw [t3] at r3
      rw [t4] at r4
      rw [t5] at r5
      rw [t6] at r6
      rw [t7] at r7
      rw [t8] at r8
      rw [t9] at r9
      rw [t10] at r10
      rw [t11] at r11
      obtain ⟨n0, e0, _, hs0⟩ := DataW.trod_string Try.underlying9 r0
      obtain ⟨n1, e1, _, hs1⟩ := DataW.trod_string Try.underlying9 r1
      obtain ⟨n2, e2, _⟩ := DataW.trod_bool Try.underlying4 r2
      obtain ⟨n3, e3, _, _⟩ := DataW.trod_int Try.underlying3 r3
      obtain ⟨m4, e4, _, w4⟩ := DataW.trod_int Try.underlying22 r4
      obtain ⟨n4, rfl⟩ := wf_u8 w4
      obtain ⟨n5, e5, _, hs5⟩ := DataW.trod_string Try.underlying9 r5
      obtain ⟨m6, e6, _, w6⟩ := DataW.trod_int Try.underlying23 r6
      obtain ⟨n6, rfl⟩ := wf_u8 w6
      obtain ⟨n7, e7, _, _⟩ := DataW.trod_int Try.underlying3 r7
      obtain ⟨n8, e8, _, _⟩ := DataW.trod_int Try.underlying3 r8
      obtain ⟨n9, e9, _⟩ := DataW.trod_bool Try.underlying4 r9
      obtain ⟨n10, e10, _, _⟩ := DataW.trod_int Try.underlying3 r10
      obtain ⟨n11, e11, _⟩ := DataW.trod_bool Try.underlying4 r11
      simp only [List.cons.injEq, and_true] at e0 e1 e2 e3 e4 e5 e6 e7 e8 e9 e10 e11
      subst e0 e1 e2 e3 e4 e5 e6 e7 e8 e9 e10 e11
      refine ⟨⟨n0, n1, n2, n3, n4, n5, n6, n7, n8, n9, n10, n11⟩, fun j v hv => ?_, hs0, hs1, hs5⟩
      match j, hv with
      | 0, hv => simp [fv] at hv; rw [← hv]; exact c0
      | 1, hv => simp [fv] at hv; rw [← hv]; exact c1
      | 2, hv => simp [fv] at hv; rw [← hv]; exact c2
      | 3, hv => simp [fv] at hv; rw [← hv]; exact c3
      | 4, hv => simp [fv] at hv; rw [← hv]; exact c4
      | 5, hv => simp [fv] at hv; rw [← hv]; exact c5
      | 6, hv => simp [fv] at hv; rw [← hv]; exact c6
      | 7, hv => simp [fv] at hv; rw [← hv]; exact c7
      | 8, hv => simp [fv] at hv; rw [← hv]; exact c8
      | 9, hv => simp [fv] at hv; rw [← hv]; exact c9
      | 10, hv => simp [fv] at hv; rw [← hv]; exact c10
      | 11, hv => simp [fv] at hv; rw [← hv]; exact c11
      | j + 12, hv => simp [fv] at hv
    obtain ⟨L, hL⟩ := choose2 RejG.rule each
    refine ⟨by unfold maxLen at hm; omega, L, fun h0 => ?_, fun i hil => (hL i hil).2.1, fun i hil => (hL i hil).2.2.1, fun i hil => (hL i hil).2.2.2⟩
    obtain ⟨b, off, spot⟩ := a
    have h00 := (hL 0 h0).1 0 _ rfl
    have hspot : spot = none := by simpa [Addr.add] using World.cell?_spot h00
    subst hspot
    refine ⟨b, off, rfl, by have := World.block_lt_of_cell? _ _ h00; simpa [Addr.add] using this, fun i hil j v hv => ?_⟩
    have := (hL i hil).1 j v hv
    rw [Go.WideShapes.add_plain] at this
    rwa [Nat.add_assoc]

theorem arg_at {H : Type} {enc : TypeId × Value → H} {P : Program} {w : World} {base : Nat} {spare : Nat → Bool} {held : Bool} {e : TypeId} {fs : Array Field} {n : Nat} {cs : List Value} {y : DataW H × List MemPlace} (he : P.underlying e = some (.struct fs)) (hone : oneCellFields P fs = true) (hC : P.cellsOf e = fs.size)
    (ht : DataW.trod enc P w base spare held n e cs = some y) (j : Nat) (f : Field) (hj : fs[j]? = some f) :
    ∃ v z k, cs[j]? = some v ∧ DataW.trod enc P w base spare held k f.type [v] = some z := by
  obtain ⟨xs, k, _, _, hlen, hxl, hg⟩ := DataW.trod_struct he ht
  obtain ⟨o1, o2⟩ := hone_of hone j f hj
  have hjs : j < fs.size := (Array.getElem?_eq_some_iff.1 hj).1
  have hjc : j < cs.length := by omega
  have hg := hg j f hj
  rw [o1, o2, List.drop_eq_getElem_cons hjc] at hg
  simp only [List.take_succ_cons, List.take_zero] at hg
  obtain ⟨z, hz⟩ : ∃ z, xs[j]? = some z := ⟨xs[j]'(by omega), List.getElem?_eq_getElem (by omega)⟩
  exact ⟨cs[j], z, k, List.getElem?_eq_getElem hjc, by rw [hg, hz]⟩

theorem under_flow : ∃ fs, Try.prog.underlying 25 = some (.struct fs) ∧ oneCellFields Try.prog fs = true ∧ Try.prog.cellsOf 25 = fs.size ∧ fs.size = 12 ∧
    (fs.toList.map (·.type)) = [9, 9, 4, 3, 22, 9, 23, 3, 3, 4, 3, 4] := ⟨_, Try.underlying25, by kernel_rfl, by kernel_rfl, by kernel_rfl, by kernel_rfl⟩

set_option maxRecDepth 100000 in
theorem flow_of {H : Type} {enc : TypeId × Value → H} {W : World} {base b0 : Nat} {r : Reach} {spare : Nat → Bool} {held : Bool} {v : Value} {d : DataW H} {p : List MemPlace}
    (hv : Value.okWide Try.prog W r b0 25 v) (h : DataW.Trod enc Try.prog W base spare held 25 v d p) :
    ∃ F : Flow, v = .agg (fv F) ∧ F.res.size ≤ maxLen ∧ F.org.size ≤ maxLen ∧ F.ref.size ≤ maxLen ∧ (Lit.int .i64 F.cnt).wf = true := by
  obtain ⟨fuel, hf⟩ := h
  obtain ⟨fs, hu, h1, h2, h5, ht⟩ := under_flow
  obtain ⟨cs, rfl, hcs⟩ := okWide_struct hu hv
  have hf : DataW.trod enc Try.prog W base spare held fuel 25 cs.toList = some (d, p) := by
    rw [show (Value.agg cs).cells = cs from by unfold Value.cells; rfl] at hf
    exact hf
  have hcl : cs.toList.length = 12 := by rw [Array.length_toList, hcs, h2, h5]
  have hty : ∀ j (hj : j < 12), ∃ f, fs[j]? = some f ∧ some f.type = ([9, 9, 4, 3, 22, 9, 23, 3, 3, 4, 3, 4] : List TypeId)[j]? := fun j hj => by
    refine ⟨fs[j]'(by omega), Array.getElem?_eq_getElem (by omega), ?_⟩
    rw [← ht]
    simp [h5, hj]
  obtain ⟨f0, g0, t0⟩ := hty 0 (by omega)
  obtain ⟨f1, g1, t1⟩ := hty 1 (by omega)
  obtain ⟨f2, g2, t2⟩ := hty 2 (by omega)
  obtain ⟨f3, g3, t3⟩ := hty 3 (by omega)
  obtain ⟨f4, g4, t4⟩ := hty 4 (by omega)
  obtain ⟨f5, g5, t5⟩ := hty 5 (by omega)
  obtain ⟨f6, g6, t6⟩ := hty 6 (by omega)
  obtain ⟨f7, g7, t7⟩ := hty 7 (by omega)
  obtain ⟨f8, g8, t8⟩ := hty 8 (by omega)
  obtain ⟨f9, g9, t9⟩ := hty 9 (by omega)
  obtain ⟨f10, g10, t10⟩ := hty 10 (by omega)
  obtain ⟨f11, g11, t11⟩ := hty 11 (by omega)
  obtain ⟨v0, z0, k0, c0, r0⟩ := arg_at hu h1 h2 hf 0 f0 g0
  obtain ⟨v1, z1, k1, c1, r1⟩ := arg_at hu h1 h2 hf 1 f1 g1
  obtain ⟨v2, z2, k2, c2, r2⟩ := arg_at hu h1 h2 hf 2 f2 g2
  obtain ⟨v3, z3, k3, c3, r3⟩ := arg_at hu h1 h2 hf 3 f3 g3
  obtain ⟨v4, z4, k4, c4, r4⟩ := arg_at hu h1 h2 hf 4 f4 g4
  obtain ⟨v5, z5, k5, c5, r5⟩ := arg_at hu h1 h2 hf 5 f5 g5
  obtain ⟨v6, z6, k6, c6, r6⟩ := arg_at hu h1 h2 hf 6 f6 g6
  obtain ⟨v7, z7, k7, c7, r7⟩ := arg_at hu h1 h2 hf 7 f7 g7
  obtain ⟨v8, z8, k8, c8, r8⟩ := arg_at hu h1 h2 hf 8 f8 g8
  obtain ⟨v9, z9, k9, c9, r9⟩ := arg_at hu h1 h2 hf 9 f9 g9
  obtain ⟨v10, z10, k10, c10, r10⟩ := arg_at hu h1 h2 hf 10 f10 g10
  obtain ⟨v11, z11, k11, c11, r11⟩ := arg_at hu h1 h2 hf 11 f11 g11
  simp only [List.getElem?_cons_zero, List.getElem?_cons_succ, Option.some.injEq] at t0 t1 t2 t3 t4 t5 t6 t7 t8 t9 t10 t11
  rw [t0] at r0
  rw [t1] at r1
  rw [t2] at r2
  rw [t3] at r3
  rw [t4] at r4
  rw [t5] at r5
  rw [t6] at r6
  rw [t7] at r7
  rw [t8] at r8
  rw [t9] at r9
  rw [t10] at r10
  rw [t11] at r11
  obtain ⟨n0, e0, _, hs0⟩ := DataW.trod_string Try.underlying9 r0
  obtain ⟨n1, e1, _, hs1⟩ := DataW.trod_string Try.underlying9 r1
  obtain ⟨n2, e2, _⟩ := DataW.trod_bool Try.underlying4 r2
  obtain ⟨n3, e3, _, w3⟩ := DataW.trod_int Try.underlying3 r3
  obtain ⟨m4, e4, _, w4⟩ := DataW.trod_int Try.underlying22 r4
  obtain ⟨n4, rfl⟩ := wf_u8 w4
  obtain ⟨n5, e5, _, hs5⟩ := DataW.trod_string Try.underlying9 r5
  obtain ⟨m6, e6, _, w6⟩ := DataW.trod_int Try.underlying23 r6
  obtain ⟨n6, rfl⟩ := wf_u8 w6
  obtain ⟨n7, e7, _, w7⟩ := DataW.trod_int Try.underlying3 r7
  obtain ⟨n8, e8, _, w8⟩ := DataW.trod_int Try.underlying3 r8
  obtain ⟨n9, e9, _⟩ := DataW.trod_bool Try.underlying4 r9
  obtain ⟨n10, e10, _, w10⟩ := DataW.trod_int Try.underlying3 r10
  obtain ⟨n11, e11, _⟩ := DataW.trod_bool Try.underlying4 r11
  simp only [List.cons.injEq, and_true] at e0 e1 e2 e3 e4 e5 e6 e7 e8 e9 e10 e11
  subst e0 e1 e2 e3 e4 e5 e6 e7 e8 e9 e10 e11
  refine ⟨⟨n0, n1, n2, n3, n4, n5, n6, n7, n8, n9, n10, n11⟩, ?_, hs0, hs1, hs5, w3⟩
  unfold fv
  congr 1
  apply Array.ext'
  match hl : cs.toList, hcl with
  | [q0, q1, q2, q3, q4, q5, q6, q7, q8, q9, q10, q11], _ =>
    rw [hl] at c0 c1 c2 c3 c4 c5 c6 c7 c8 c9 c10 c11
    simp at c0 c1 c2 c3 c4 c5 c6 c7 c8 c9 c10 c11
    simp [c0, c1, c2, c3, c4, c5, c6, c7, c8, c9, c10, c11]

theorem under_call : ∃ fs, Try.prog.underlying 28 = some (.struct fs) ∧ oneCellFields Try.prog fs = true ∧ Try.prog.cellsOf 28 = fs.size ∧ fs.size = 7 ∧
    (fs.toList.map (·.type)) = [3, 9, 9, 9, 4, 3, 26] := ⟨_, Try.underlying28, by kernel_rfl, by kernel_rfl, by kernel_rfl, by kernel_rfl⟩

set_option maxRecDepth 100000 in
theorem call_of {H : Type} {enc : TypeId × Value → H} {W : World} {base b0 : Nat} {r : Reach} {spare : Nat → Bool} {held : Bool} {v : Value} {d : DataW H} {p : List MemPlace}
    (hv : Value.okWide Try.prog W r b0 28 v) (h : DataW.Trod enc Try.prog W base spare held 28 v d p) :
    ∃ C : Cal, v = .agg (cv C) := by
  obtain ⟨fuel, hf⟩ := h
  obtain ⟨fs, hu, h1, h2, h5, ht⟩ := under_call
  obtain ⟨cs, rfl, hcs⟩ := okWide_struct hu hv
  have hf : DataW.trod enc Try.prog W base spare held fuel 28 cs.toList = some (d, p) := by
    rw [show (Value.agg cs).cells = cs from by unfold Value.cells; rfl] at hf
    exact hf
  have hcl : cs.toList.length = 7 := by rw [Array.length_toList, hcs, h2, h5]
  have hty : ∀ j (hj : j < 7), ∃ f, fs[j]? = some f ∧ some f.type = ([3, 9, 9, 9, 4, 3, 26] : List TypeId)[j]? := fun j hj => by
    refine ⟨fs[j]'(by omega), Array.getElem?_eq_getElem (by omega), ?_⟩
    rw [← ht]
    simp [h5, hj]
  obtain ⟨f0, g0, t0⟩ := hty 0 (by omega)
  obtain ⟨f1, g1, t1⟩ := hty 1 (by omega)
  obtain ⟨f2, g2, t2⟩ := hty 2 (by omega)
  obtain ⟨f3, g3, t3⟩ := hty 3 (by omega)
  obtain ⟨f4, g4, t4⟩ := hty 4 (by omega)
  obtain ⟨f5, g5, t5⟩ := hty 5 (by omega)
  obtain ⟨f6, g6, t6⟩ := hty 6 (by omega)
  obtain ⟨v0, z0, k0, c0, r0⟩ := arg_at hu h1 h2 hf 0 f0 g0
  obtain ⟨v1, z1, k1, c1, r1⟩ := arg_at hu h1 h2 hf 1 f1 g1
  obtain ⟨v2, z2, k2, c2, r2⟩ := arg_at hu h1 h2 hf 2 f2 g2
  obtain ⟨v3, z3, k3, c3, r3⟩ := arg_at hu h1 h2 hf 3 f3 g3
  obtain ⟨v4, z4, k4, c4, r4⟩ := arg_at hu h1 h2 hf 4 f4 g4
  obtain ⟨v5, z5, k5, c5, r5⟩ := arg_at hu h1 h2 hf 5 f5 g5
  obtain ⟨v6, z6, k6, c6, r6⟩ := arg_at hu h1 h2 hf 6 f6 g6
  simp only [List.getElem?_cons_zero, List.getElem?_cons_succ, Option.some.injEq] at t0 t1 t2 t3 t4 t5 t6
  rw [t0] at r0
  rw [t1] at r1
  rw [t2] at r2
  rw [t3] at r3
  rw [t4] at r4
  rw [t5] at r5
  rw [t6] at r6
  obtain ⟨n0, e0, _, w0⟩ := DataW.trod_int Try.underlying3 r0
  obtain ⟨n1, e1, _, hs1⟩ := DataW.trod_string Try.underlying9 r1
  obtain ⟨n2, e2, _, hs2⟩ := DataW.trod_string Try.underlying9 r2
  obtain ⟨n3, e3, _, hs3⟩ := DataW.trod_string Try.underlying9 r3
  obtain ⟨n4, e4, _⟩ := DataW.trod_bool Try.underlying4 r4
  obtain ⟨n5, e5, _, w5⟩ := DataW.trod_int Try.underlying3 r5
  obtain ⟨sa, sn, sc, e6⟩ : ∃ sa sn sc, [v6] = [Value.slice sa sn sc] := by
    rcases open_slice Try.underlying26 r6 with ⟨hn, _⟩ | ⟨a, l, c, m, n, D, Pl, hcs, _⟩
    · exact ⟨none, 0, 0, hn⟩
    · exact ⟨some a, l, c, hcs⟩
  simp only [List.cons.injEq, and_true] at e0 e1 e2 e3 e4 e5 e6
  subst e0 e1 e2 e3 e4 e5 e6
  refine ⟨⟨n0, n1, n2, n3, n4, n5, sa, sn, sc⟩, ?_⟩
  unfold cv
  congr 1
  apply Array.ext'
  match hl : cs.toList, hcl with
  | [q0, q1, q2, q3, q4, q5, q6], _ =>
    rw [hl] at c0 c1 c2 c3 c4 c5 c6
    simp at c0 c1 c2 c3 c4 c5 c6
    simp [c0, c1, c2, c3, c4, c5, c6]

theorem under_nums : ∃ fs, Try.prog.underlying 37 = some (.struct fs) ∧ oneCellFields Try.prog fs = true ∧ Try.prog.cellsOf 37 = fs.size ∧ fs.size = 3 ∧
    (fs.toList.map (·.type)) = [3, 3, 3] := ⟨_, Try.underlying37, by kernel_rfl, by kernel_rfl, by kernel_rfl, by kernel_rfl⟩

set_option maxRecDepth 100000 in
theorem nums_of {H : Type} {enc : TypeId × Value → H} {W : World} {base b0 : Nat} {r : Reach} {spare : Nat → Bool} {held : Bool} {v : Value} {d : DataW H} {p : List MemPlace}
    (hv : Value.okWide Try.prog W r b0 37 v) (h : DataW.Trod enc Try.prog W base spare held 37 v d p) :
    ∃ x y z : Int, v = .agg #[.int .i64 x, .int .i64 y, .int .i64 z] ∧ (Lit.int .i64 x).wf = true ∧ (Lit.int .i64 y).wf = true ∧ (Lit.int .i64 z).wf = true := by
  obtain ⟨fuel, hf⟩ := h
  obtain ⟨fs, hu, h1, h2, h5, ht⟩ := under_nums
  obtain ⟨cs, rfl, hcs⟩ := okWide_struct hu hv
  have hf : DataW.trod enc Try.prog W base spare held fuel 37 cs.toList = some (d, p) := by
    rw [show (Value.agg cs).cells = cs from by unfold Value.cells; rfl] at hf
    exact hf
  have hcl : cs.toList.length = 3 := by rw [Array.length_toList, hcs, h2, h5]
  have hty : ∀ j (hj : j < 3), ∃ f, fs[j]? = some f ∧ some f.type = ([3, 3, 3] : List TypeId)[j]? := fun j hj => by
    refine ⟨fs[j]'(by omega), Array.getElem?_eq_getElem (by omega), ?_⟩
    rw [← ht]
    simp [h5, hj]
  obtain ⟨f0, g0, t0⟩ := hty 0 (by omega)
  obtain ⟨f1, g1, t1⟩ := hty 1 (by omega)
  obtain ⟨f2, g2, t2⟩ := hty 2 (by omega)
  obtain ⟨v0, z0, k0, c0, r0⟩ := arg_at hu h1 h2 hf 0 f0 g0
  obtain ⟨v1, z1, k1, c1, r1⟩ := arg_at hu h1 h2 hf 1 f1 g1
  obtain ⟨v2, z2, k2, c2, r2⟩ := arg_at hu h1 h2 hf 2 f2 g2
  simp only [List.getElem?_cons_zero, List.getElem?_cons_succ, Option.some.injEq] at t0 t1 t2
  rw [t0] at r0
  rw [t1] at r1
  rw [t2] at r2
  obtain ⟨n0, e0, _, w0⟩ := DataW.trod_int Try.underlying3 r0
  obtain ⟨n1, e1, _, w1⟩ := DataW.trod_int Try.underlying3 r1
  obtain ⟨n2, e2, _, w2⟩ := DataW.trod_int Try.underlying3 r2
  simp only [List.cons.injEq, and_true] at e0 e1 e2
  subst e0 e1 e2
  refine ⟨n0, n1, n2, ?_, w0, w1, w2⟩
  skip
  congr 1
  apply Array.ext'
  match hl : cs.toList, hcl with
  | [q0, q1, q2], _ =>
    rw [hl] at c0 c1 c2
    simp at c0 c1 c2
    simp [c0, c1, c2]

end Go.Proofs.Ytakmfcnmcjbbgaa.RejX
