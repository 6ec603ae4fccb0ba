/- What comes in of breakers: rules, deeds. -/
import Derived.Test.YtcmklahbophclaaBreA
import Derived.Test.YtcmklahbophclaaOpn
import Derived.Test.YtcmklahbophclaaRoom
namespace Go.Proofs.Ytcmklahbophclaa.BreX
open Go.ChangeShapes Go.WideShapes Go.ChangeAt Go.RowKit Go.Deep Base BreP BreA Opn
set_option linter.unusedVariables false

theorem wf_u8 {n : Int} (h : (Lit.int .u8 n).wf = true) : ∃ m : Nat, n = m := by
  simp [Lit.wf, IntKind.min, IntKind.max, IntKind.bits, IntKind.signed] at h
  exact ⟨n.toNat, by omega⟩

theorem underR : ∃ fs, Try.prog.underlying 24 = some (.struct fs) ∧ oneCellFields Try.prog fs = true ∧ Try.prog.cellsOf 24 = fs.size ∧ fs.size = 7 ∧
    (fs.toList.map (·.type)) = [9, 22, 3, 3, 3, 3, 3] := ⟨_, Try.underlying24, by kernel_rfl, by kernel_rfl, by kernel_rfl, by kernel_rfl⟩
theorem underD : ∃ fs, Try.prog.underlying 42 = some (.struct fs) ∧ oneCellFields Try.prog fs = true ∧ Try.prog.cellsOf 42 = fs.size ∧ fs.size = 5 ∧
    (fs.toList.map (·.type)) = [3, 3, 3, 4, 4] := ⟨_, Try.underlying42, by kernel_rfl, by kernel_rfl, by kernel_rfl, by kernel_rfl⟩

theorem arg_at {H : Type} {enc : TypeId × Value → H} {P : Program} {w : World} {base : Nat} {spare : Nat → Bool} {held : Bool} {e : TypeId} {fs : Array Field} {n : Nat} {cs : List Value} {y : DataW H × List MemPlace} (he : P.underlying e = some (.struct fs)) (hone : oneCellFields P fs = true) (hC : P.cellsOf e = fs.size)
    (ht : DataW.trod enc P w base spare held n e cs = some y) (j : Nat) (f : Field) (hj : fs[j]? = some f) :
    ∃ v z k, cs[j]? = some v ∧ DataW.trod enc P w base spare held k f.type [v] = some z := by
  obtain ⟨xs, k, _, _, hlen, hxl, hg⟩ := DataW.trod_struct he ht
  obtain ⟨o1, o2⟩ := hone_of hone j f hj
  have hjs : j < fs.size := (Array.getElem?_eq_some_iff.1 hj).1
  have hjc : j < cs.length := by omega
  have hg := hg j f hj
  rw [o1, o2, List.drop_eq_getElem_cons hjc] at hg
  simp only [List.take_succ_cons, List.take_zero] at hg
  obtain ⟨z, hz⟩ : ∃ z, xs[j]? = some z := ⟨xs[j]'(by omega), List.getElem?_eq_getElem (by omega)⟩
  exact ⟨cs[j], z, k, List.getElem?_eq_getElem hjc, by rw [hg, hz]⟩

set_option maxRecDepth 100000 in
theorem rule_of {H : Type} {enc : TypeId × Value → H} {W : World} {base b0 : Nat} {r : Reach} {spare : Nat → Bool} {held : Bool} {v : Value} {d : DataW H} {p : List MemPlace}
    (hv : Value.okWide Try.prog W r b0 24 v) (h : DataW.Trod enc Try.prog W base spare held 24 v d p) :
    ∃ F : Rule, v = rv F ∧ F.nm.size ≤ maxLen ∧ (Lit.int .i64 F.count).wf = true ∧ (Lit.int .i64 F.slow).wf = true ∧ (Lit.int .i64 F.least).wf = true ∧ (Lit.int .i64 F.width).wf = true ∧ (Lit.int .i64 F.rcv).wf = true := by
  obtain ⟨fuel, hf⟩ := h
  obtain ⟨fs, hu, h1, h2, h5, ht⟩ := underR
  obtain ⟨cs, rfl, hcs⟩ := okWide_struct hu hv
  have hf : DataW.trod enc Try.prog W base spare held fuel 24 cs.toList = some (d, p) := by
    rw [show (Value.agg cs).cells = cs from by unfold Value.cells; rfl] at hf
    exact hf
  have hcl : cs.toList.length = 7 := by rw [Array.length_toList, hcs, h2, h5]
  have hty : ∀ j (hj : j < 7), ∃ f, fs[j]? = some f ∧ some f.type = ([9, 22, 3, 3, 3, 3, 3] : List TypeId)[j]? := fun j hj => by
    refine ⟨fs[j]'(by omega), Array.getElem?_eq_getElem (by omega), ?_⟩
    rw [← ht]
    simp [h5, hj]
  obtain ⟨f0, g0, t0⟩ := hty 0 (by omega)
  obtain ⟨f1, g1, t1⟩ := hty 1 (by omega)
  obtain ⟨f2, g2, t2⟩ := hty 2 (by omega)
  obtain ⟨f3, g3, t3⟩ := hty 3 (by omega)
  obtain ⟨f4, g4, t4⟩ := hty 4 (by omega)
  obtain ⟨f5, g5, t5⟩ := hty 5 (by omega)
  obtain ⟨f6, g6, t6⟩ := hty 6 (by omega)
  obtain ⟨v0, z0, k0, c0, r0⟩ := arg_at hu h1 h2 hf 0 f0 g0
  obtain ⟨v1, z1, k1, c1, r1⟩ := arg_at hu h1 h2 hf 1 f1 g1
  obtain ⟨v2, z2, k2, c2, r2⟩ := arg_at hu h1 h2 hf 2 f2 g2
  obtain ⟨v3, z3, k3, c3, r3⟩ := arg_at hu h1 h2 hf 3 f3 g3
  obtain ⟨v4, z4, k4, c4, r4⟩ := arg_at hu h1 h2 hf 4 f4 g4
  obtain ⟨v5, z5, k5, c5, r5⟩ := arg_at hu h1 h2 hf 5 f5 g5
  obtain ⟨v6, z6, k6, c6, r6⟩ := arg_at hu h1 h2 hf 6 f6 g6
  simp only [List.getElem?_cons_zero, List.getElem?_cons_succ, Option.some.injEq] at t0 t1 t2 t3 t4 t5 t6
  rw [t0] at r0
  rw [t1] at r1
  rw [t2] at r2
  rw [t3] at r3
  rw [t4] at r4
  rw [t5] at r5
  rw [t6] at r6
  obtain ⟨n0, e0, _, hs0⟩ := DataW.trod_string Try.underlying9 r0
  obtain ⟨m1, e1, _, w1⟩ := DataW.trod_int Try.underlying22 r1
  obtain ⟨n1, rfl⟩ := wf_u8 w1
  obtain ⟨n2, e2, _, w2⟩ := DataW.trod_int Try.underlying3 r2
  obtain ⟨n3, e3, _, w3⟩ := DataW.trod_int Try.underlying3 r3
  obtain ⟨n4, e4, _, w4⟩ := DataW.trod_int Try.underlying3 r4
  obtain ⟨n5, e5, _, w5⟩ := DataW.trod_int Try.underlying3 r5
  obtain ⟨n6, e6, _, w6⟩ := DataW.trod_int Try.underlying3 r6
  simp only [List.cons.injEq, and_true] at e0 e1 e2 e3 e4 e5 e6
  subst e0 e1 e2 e3 e4 e5 e6
  refine ⟨⟨n0, n1, n2, n3, n4, n5, n6⟩, ?_, hs0, w2, w3, w4, w5, w6⟩
  unfold rv
  congr 1
  apply Array.ext'
  match hl : cs.toList, hcl with
  | [q0, q1, q2, q3, q4, q5, q6], _ =>
    rw [hl] at c0 c1 c2 c3 c4 c5 c6
    simp at c0 c1 c2 c3 c4 c5 c6
    subst c0 c1 c2 c3 c4 c5 c6
    rfl

theorem deeds_of {H : Type} {enc : TypeId × Value → H} {W : World} {base : Nat} {spare : Nat → Bool} {held : Bool} {a0 : Option Addr} {len0 cap0 fuel : Nat} {x : DataW H × List MemPlace}
    (hf : DataW.trod enc Try.prog W base spare held fuel 26 [.slice a0 len0 cap0] = some x) : len0 ≤ 9223372036854775807 ∧ ∃ D, Deeds W a0 len0 D := by
  obtain ⟨fs, hu, h1, h2, h5, ht⟩ := underD
  rcases row_at Try.underlying26 hu h1 h2 hf with ⟨rfl, rfl⟩ | ⟨a, rfl, hl, hm, hi⟩
  · exact ⟨by omega, fun _ => default, fun h => by omega⟩
  · have each : ∀ i, i < len0 → ∃ F : Dd, W.cell? (a.add (i * 5 + 0)) = some (.int .i64 F.kd) ∧ W.cell? (a.add (i * 5 + 1)) = some (.int .i64 F.t) ∧ W.cell? (a.add (i * 5 + 2)) = some (.int .i64 F.rt) ∧ W.cell? (a.add (i * 5 + 3)) = some (.bool F.f) ∧ W.cell? (a.add (i * 5 + 4)) = some (.bool F.pr) := by
      intro i hil
      have hi := hi i hil
      rw [h5] at hi
      have hty : ∀ j (hj : j < 5), ∃ f, fs[j]? = some f ∧ some f.type = ([3, 3, 3, 4, 4] : List TypeId)[j]? := fun j hj => by
        refine ⟨fs[j]'(by omega), Array.getElem?_eq_getElem (by omega), ?_⟩
        rw [← ht]
        simp [h5, hj]
      obtain ⟨f0, g0, t0⟩ := hty 0 (by omega)
      obtain ⟨f1, g1, t1⟩ := hty 1 (by omega)
      obtain ⟨f2, g2, t2⟩ := hty 2 (by omega)
      obtain ⟨f3, g3, t3⟩ := hty 3 (by omega)
      obtain ⟨f4, g4, t4⟩ := hty 4 (by omega)
      obtain ⟨v0, z0, k0, c0, r0⟩ := hi 0 f0 g0
      obtain ⟨v1, z1, k1, c1, r1⟩ := hi 1 f1 g1
      obtain ⟨v2, z2, k2, c2, r2⟩ := hi 2 f2 g2
      obtain ⟨v3, z3, k3, c3, r3⟩ := hi 3 f3 g3
      obtain ⟨v4, z4, k4, c4, r4⟩ := hi 4 f4 g4
      simp only [List.getElem?_cons_zero, List.getElem?_cons_succ, Option.some.injEq] at t0 t1 t2 t3 t4
      rw [t0] at r0
      rw [t1] at r1
      rw [t2] at r2
      rw [t3] at r3
      rw [t4] at r4
      obtain ⟨n0, e0, _, w0⟩ := DataW.trod_int Try.underlying3 r0
      obtain ⟨n1, e1, _, w1⟩ := DataW.trod_int Try.underlying3 r1
      obtain ⟨n2, e2, _, w2⟩ := DataW.trod_int Try.underlying3 r2
      obtain ⟨n3, e3, _⟩ := DataW.trod_bool Try.underlying4 r3
      obtain ⟨n4, e4, _⟩ := DataW.trod_bool Try.underlying4 r4
      simp only [List.cons.injEq, and_true] at e0 e1 e2 e3 e4
      subst e0 e1 e2 e3 e4
      exact ⟨⟨n0, n1, n2, n3, n4⟩, c0, c1, c2, c3, c4⟩
    obtain ⟨L, hL⟩ := choose_lt each
    refine ⟨by unfold maxLen at hm; omega, L, fun h0 => ?_⟩
    obtain ⟨b, off, spot⟩ := a
    have h00 := (hL 0 h0).1
    have hspot : spot = none := by simpa [Addr.add] using World.cell?_spot h00
    subst hspot
    refine ⟨b, off, rfl, by have := World.block_lt_of_cell? _ _ h00; simpa [Addr.add] using this, fun i hil => ?_⟩
    obtain ⟨a1, a2, a3, a4, a5⟩ := hL i hil
    rw [Go.WideShapes.add_plain] at a1 a2 a3 a4 a5
    rw [← Nat.add_assoc] at a1 a2 a3 a4 a5
    exact ⟨a1, a2, a3, a4, a5⟩

end Go.Proofs.Ytcmklahbophclaa.BreX
