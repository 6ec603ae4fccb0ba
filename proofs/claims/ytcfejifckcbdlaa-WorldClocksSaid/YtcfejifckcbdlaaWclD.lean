/- Clocks at what is no time; the calls that came in, opened. -/
import Derived.Test.YtcfejifckcbdlaaOpn
import Derived.Test.YtcfejifckcbdlaaWclC
namespace Go.Proofs.Ytcfejifckcbdlaa.WclD
open Go.ChangeShapes Go.WideShapes Go.ChangeAt Go.RowKit Go.Deep Base ClkM Clk Mem WclA WclC Opn

set_option maxRecDepth 100000 in
set_option maxHeartbeats 4000000 in
theorem clocks_no (at_ : Int) (hat : ¬ IsT at_) (sv : Value) (w : World) :
    Calls Try.prog 3 #[.int .i64 at_, sv] w fun e w' => e = .returned (.bool true) ∧ Below w.heap.size w w' := by
  have HAT := hid hat
  clear hat
  go_enter Try.func3, Try.ntmps3
  go_wp2_with fail
  refine (newClock_no at_ HAT.out _).mono ?_
  rintro e w1 ⟨rfl, rfl⟩
  go_wp2_with fail
  refine (rnew_no at_ HAT.out _).mono ?_
  rintro e w2 ⟨rfl, rfl⟩
  go_wp2_with fail
  refine (WldD.live_look _).mono ?_
  rintro e w3 ⟨rfl, hb3⟩
  have HB := hid hb3
  clear hb3
  go_wp2_with fail
  go_ret
  exact ⟨rfl, HB.out⟩

theorem clocks_core (at_ : Int) (a : Option Addr) (len cap : Nat) (D : Nat → Deed) (w : World) (HC : Hid (Deeds w a len D)) :
    Calls Try.prog 3 #[.int .i64 at_, .slice a len cap] w fun e w' => e = .returned (.bool true) ∧ Below w.heap.size w w' := by
  by_cases h : IsT at_
  · exact clocks_yes at_ h a len cap D _ rfl w HC
  · exact clocks_no at_ h _ w

theorem underD : ∃ fs, Try.prog.underlying 35 = some (.struct fs) ∧ oneCellFields Try.prog fs = true ∧ Try.prog.cellsOf 35 = fs.size ∧ fs.size = 3 ∧
    (fs.toList.map (·.type)) = [3, 3, 32] := ⟨_, Try.underlying35, by kernel_rfl, by kernel_rfl, by kernel_rfl, by kernel_rfl⟩

theorem deeds_of {H : Type} {enc : TypeId × Value → H} {W : World} {base : Nat} {spare : Nat → Bool} {held : Bool} {a0 : Option Addr} {len0 cap0 : Nat} {d : DataW H} {p : List MemPlace}
    (h : DataW.Trod enc Try.prog W base spare held 22 (.slice a0 len0 cap0) d p) (hz : ∀ m ∈ d.weights Try.prog 22, m ≤ reachBytes) : ∃ D, Deeds W a0 len0 D := by
  obtain ⟨fuel, hf⟩ := h
  obtain ⟨fs, hu, h1, h2, h5, ht⟩ := underD
  rcases row_sized Try.underlying22 hu h1 h2 (by simpa [Value.cells] using hf) with ⟨rfl, rfl⟩ | ⟨a, rfl, hl, hm, hi⟩
  · exact ⟨fun _ => ⟨0, 0, none, 0, 0, fun _ => 0⟩, by omega, fun h => by omega, fun i h => by omega⟩
  · have each : ∀ i, i < len0 → ∃ D : Deed, (∀ (j : Nat) v, (dv D)[j]? = some v → W.cell? (a.add (i * 3 + j)) = some v) ∧ D.n ≤ 17592186044416 ∧ IntsAt W D.a D.n D.f := by
      intro i hil
      have hi := hi i hil
      rw [h5] at hi
      have hfl : fs.toList.length = 3 := by simpa using h5
      have hty : ∀ j (hj : j < 3), ∃ f, fs[j]? = some f ∧ some f.type = ([3, 3, 32] : List TypeId)[j]? := fun j hj => by
        refine ⟨fs[j]'(by omega), Array.getElem?_eq_getElem (by omega), ?_⟩
        rw [← ht]
        simp [h5, hj]
      obtain ⟨f0, g0, t0⟩ := hty 0 (by omega)
      obtain ⟨f1, g1, t1⟩ := hty 1 (by omega)
      obtain ⟨f2, g2, t2⟩ := hty 2 (by omega)
      obtain ⟨v0, z0, k0, c0, r0, _⟩ := hi 0 f0 g0
      obtain ⟨v1, z1, k1, c1, r1, _⟩ := hi 1 f1 g1
      obtain ⟨v2, z2, k2, c2, r2, s2⟩ := hi 2 f2 g2
      simp only [List.getElem?_cons_zero, List.getElem?_cons_succ, Option.some.injEq] at t0 t1 t2
      rw [t0] at r0; rw [t1] at r1; rw [t2] at r2 s2
      obtain ⟨n0, e0, _, _⟩ := DataW.trod_int Try.underlying3 r0
      obtain ⟨n1, e1, _, _⟩ := DataW.trod_int Try.underlying3 r1
      obtain ⟨ca, cn, cc, cf, e2, _, hin, hsz⟩ := ints_sized Try.underlying32 Try.underlying3 (by kernel_rfl) (by kernel_rfl) r2
      simp only [List.cons.injEq, and_true] at e0 e1
      subst e0 e1 e2
      refine ⟨⟨n0, n1, ca, cn, cc, cf⟩, fun j v hv => ?_, hsz (fun m hm => hz m (s2 m hm)), hin⟩
      match j, hv with
      | 0, hv => simp [dv] at hv; rw [← hv]; exact c0
      | 1, hv => simp [dv] at hv; rw [← hv]; exact c1
      | 2, hv => simp [dv] at hv; rw [← hv]; exact c2
      | j + 3, hv => simp [dv] at hv
    obtain ⟨D, hD⟩ := choose2 ⟨0, 0, none, 0, 0, fun _ => 0⟩ each
    refine ⟨D, by unfold maxLen at hm; omega, fun h0 => ?_, fun i hil => (hD i hil).2⟩
    obtain ⟨b, off, spot⟩ := a
    have h00 := (hD 0 h0).1 0 _ rfl
    have hspot : spot = none := by simpa [Addr.add] using World.cell?_spot h00
    subst hspot
    refine ⟨b, off, rfl, World.block_lt_of_cell? _ _ h00, fun i hil j v hv => ?_⟩
    have h1 := (hD i hil).1 j v hv
    rw [Go.WideShapes.add_plain] at h1
    rw [← h1, Nat.add_assoc]

end Go.Proofs.Ytcfejifckcbdlaa.WclD
