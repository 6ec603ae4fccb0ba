/- The calls that came in, opened: each row's five fields, and its counts. -/
import Derived.Test.YtfpbjkmnipacdaaOpn
import Derived.Test.YtfpbjkmnipacdaaSecB
namespace Go.Proofs.Ytfpbjkmnipacdaa.SecD
open Go.ChangeShapes Go.WideShapes Go.Deep Go.RowKit StaA SecB Opn

theorem underD : ∃ fs, Try.prog.underlying 28 = some (.struct fs) ∧ oneCellFields Try.prog fs = true ∧ Try.prog.cellsOf 28 = fs.size ∧ fs.size = 5 ∧
    (fs.toList.map (·.type)) = [3, 3, 3, 4, 26] := ⟨_, Try.underlying28, by kernel_rfl, by kernel_rfl, by kernel_rfl, by kernel_rfl⟩

theorem ints_of {H : Type} {enc : TypeId × Value → H} {w : World} {base : Nat} {spare : Nat → Bool} {held : Bool} {k : Nat} {v : Value} {z : DataW H × List MemPlace}
    (h : DataW.trod enc Try.prog w base spare held k 26 [v] = some z) :
    ∃ (a : Option Addr) (n cap : Nat) (f : Nat → Int), v = .slice a n cap ∧ n ≤ 9223372036854775807 ∧ Ints w a n f ∧ (0 < n → ∀ g o, a = some ⟨g, o, none⟩ → g < w.heap.size) := by
  rcases open_ints Try.underlying26 Try.underlying3 (by kernel_rfl) h with ⟨hn, _⟩ | ⟨a, l, c, zs, hcs, _, hl, hm, hz, _, hc, _⟩
  · simp at hn
    exact ⟨none, 0, 0, fun _ => 0, hn, by omega, fun h => by omega, fun _ _ _ h => by cases h⟩
  · simp at hcs
    have hzl : l ≤ zs.length := by rw [hz]; split <;> omega
    unfold maxLen at hm
    refine ⟨some a, l, c, fun i => zs.getD i 0, hcs, by omega, fun h0 => ?_, fun h0 g o e => ?_⟩
    · obtain ⟨b, off, rfl, hcc⟩ := ints_at hc (by omega)
      exact ⟨b, off, rfl, World.block_lt_of_cell? _ _ (hc 0 (by omega)), fun i hi => hcc i (by omega)⟩
    · obtain rfl := Option.some.inj e
      have := World.block_lt_of_cell? _ _ (hc 0 (by omega))
      simpa [Addr.add] using this

theorem deeds_of {H : Type} {enc : TypeId × Value → H} {W : World} {base : Nat} {spare : Nat → Bool} {held : Bool} {a0 : Option Addr} {len0 cap0 : Nat} {d : DataW H} {p : List MemPlace}
    (h : DataW.Trod enc Try.prog W base spare held 22 (.slice a0 len0 cap0) d p) : ∃ D, Deeds W a0 len0 D := by
  obtain ⟨fuel, hf⟩ := h
  obtain ⟨fs, hu, h1, h2, h5, ht⟩ := underD
  rcases row_at Try.underlying22 hu h1 h2 (by simpa [Value.cells] using hf) with ⟨rfl, rfl⟩ | ⟨a, rfl, hl, hm, hi⟩
  · exact ⟨fun _ => ⟨0, 0, 0, false, none, 0, 0, fun _ => 0⟩, by omega, fun h => by omega, fun i h => by omega⟩
  · have each : ∀ i, i < len0 → ∃ D : Deed, (∀ j v, (dv D)[j]? = some v → W.cell? (a.add (i * 5 + j)) = some v) ∧ D.n ≤ 9223372036854775807 ∧ Ints W D.a D.n D.f ∧ (0 < D.n → ∀ g o, D.a = some ⟨g, o, none⟩ → g < W.heap.size) := by
      intro i hil
      have hi := hi i hil
      rw [h5] at hi
      have hfl : fs.toList.length = 5 := by simpa using h5
      have hty : ∀ j (hj : j < 5), ∃ f, fs[j]? = some f ∧ some f.type = ([3, 3, 3, 4, 26] : List TypeId)[j]? := fun j hj => by
        refine ⟨fs[j]'(by omega), Array.getElem?_eq_getElem (by omega), ?_⟩
        rw [← ht]
        simp [h5, hj]
      obtain ⟨f0, g0, t0⟩ := hty 0 (by omega)
      obtain ⟨f1, g1, t1⟩ := hty 1 (by omega)
      obtain ⟨f2, g2, t2⟩ := hty 2 (by omega)
      obtain ⟨f3, g3, t3⟩ := hty 3 (by omega)
      obtain ⟨f4, g4, t4⟩ := hty 4 (by omega)
      obtain ⟨v0, z0, k0, c0, r0⟩ := hi 0 f0 g0
      obtain ⟨v1, z1, k1, c1, r1⟩ := hi 1 f1 g1
      obtain ⟨v2, z2, k2, c2, r2⟩ := hi 2 f2 g2
      obtain ⟨v3, z3, k3, c3, r3⟩ := hi 3 f3 g3
      obtain ⟨v4, z4, k4, c4, r4⟩ := hi 4 f4 g4
      simp only [List.getElem?_cons_zero, List.getElem?_cons_succ, Option.some.injEq] at t0 t1 t2 t3 t4
      rw [t0] at r0; rw [t1] at r1; rw [t2] at r2; rw [t3] at r3; rw [t4] at r4
      obtain ⟨n0, e0, _, _⟩ := DataW.trod_int Try.underlying3 r0
      obtain ⟨n1, e1, _, _⟩ := DataW.trod_int Try.underlying3 r1
      obtain ⟨n2, e2, _, _⟩ := DataW.trod_int Try.underlying3 r2
      obtain ⟨n3, e3, _⟩ := DataW.trod_bool Try.underlying4 r3
      obtain ⟨ca, cn, cc, cf, e4, hn, hin, hlt⟩ := ints_of r4
      simp only [List.cons.injEq, and_true] at e0 e1 e2 e3
      subst e0 e1 e2 e3 e4
      refine ⟨⟨n0, n1, n2, n3, ca, cn, cc, cf⟩, fun j v hv => ?_, hn, hin, hlt⟩
      match j, hv with
      | 0, hv => simp [dv] at hv; rw [← hv]; exact c0
      | 1, hv => simp [dv] at hv; rw [← hv]; exact c1
      | 2, hv => simp [dv] at hv; rw [← hv]; exact c2
      | 3, hv => simp [dv] at hv; rw [← hv]; exact c3
      | 4, hv => simp [dv] at hv; rw [← hv]; exact c4
      | j + 5, hv => simp [dv] at hv
    obtain ⟨D, hD⟩ := choose2 ⟨0, 0, 0, false, none, 0, 0, fun _ => 0⟩ each
    refine ⟨D, by unfold maxLen at hm; omega, fun h0 => ?_, fun i hil => (hD i hil).2⟩
    obtain ⟨b, off, spot⟩ := a
    have h00 := (hD 0 h0).1 0 _ rfl
    have hspot : spot = none := by simpa [Addr.add] using World.cell?_spot h00
    subst hspot
    refine ⟨b, off, rfl, World.block_lt_of_cell? _ _ h00, fun i hil j v hv => ?_⟩
    have h1 := (hD i hil).1 j v hv
    rw [Go.WideShapes.add_plain] at h1
    rw [← h1, Nat.add_assoc]

end Go.Proofs.Ytfpbjkmnipacdaa.SecD
