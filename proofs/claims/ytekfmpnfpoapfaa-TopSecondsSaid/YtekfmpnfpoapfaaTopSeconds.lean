/- For every notes handed in, TopSeconds returns true and leaves them as they were. -/
import Derived.Test.YtekfmpnfpoapfaaRows
import Derived.Test.YtekfmpnfpoapfaaTopC
import Derived.WalkKit
import Derived.ProofKit
import Derived.OpenShut
import Derived.ShutString
import Derived.ChangeOld
import Derived.Below
import Derived.Deep.SlicePairs
namespace Go.Proofs.Ytekfmpnfpoapfaa.topSeconds
open Go.ChangeShapes Go.WideShapes Go.ChangeAt Go.RowKit Go.Deep
open Go.ChangeMaps (open_string shut_string)
set_option linter.unusedVariables false

theorem own : ownKnob Try.prog.godebug = none := by kernel_rfl
theorem laidOut : laidOutB Try.prog = true := by kernel_rfl

def Notes (w : World) (a : Option Addr) (len : Nat) (fa fc : Nat → Int) : Prop :=
  0 < len → ∃ p q, a = some ⟨p, q, none⟩ ∧ p < w.heap.size ∧ ∀ i, i < len → w.cell? ⟨p, q + i * 2, none⟩ = some (.int .i64 (fa i)) ∧ w.cell? ⟨p, q + i * 2 + 1, none⟩ = some (.int .i64 (fc i))

theorem walk (a0 : Option Addr) (len0 cap0 : Nat) (fa fc : Nat → Int) (w : World) (w0 : Notes w a0 len0 fa fc) :
    Calls Try.prog 11 #[.slice a0 len0 cap0] w fun e w' => e = .returned (.bool true) ∧ Below w.heap.size w w' :=
  TopC.top_core a0 len0 cap0 fa fc _ rfl w (Base.hid w0)

set_option maxRecDepth 100000 in
theorem lifted (os : Os) (started : os.Started) (H : Type) (enc : TypeId × Value → H) :
    ReturnsInHanded {} Try.checked os 11 .any (Rows.topSecondsSpec.pre6 enc Try.prog Try.f11 Rows.topSecondsRow.domain false) (Rows.topSecondsSpec.post enc Try.prog Try.f11 false true false false) := by
  refine returnsInHanded_of_change (C := Try.checked) own started (by kernel_rfl) Try.func11
    (ChangeSpec.witness6 (enc := enc) (C := Try.checked) false ⟨#[], #[.slice none 0 0], []⟩ 8 (by kernel_rfl) (by kernel_rfl) (by kernel_rfl) (by kernel_rfl)) ?_
  intro W base args ds gs before hval0 hW hcnd _
  have hval : ∀ (j : Nat) t v, Try.f11.params[j]? = some t → args[j]? = some v → Value.okWide Try.prog W .any base t v := hval0
  have hW' := hW
  obtain ⟨p, q, hA0, hV, rfl, hfz, hnd⟩ := hW
  have hA : DataW.TrodAll enc Try.prog W 0 (fun _ => true) true Try.f11.params.toList args.toList ds p := hA0
  rw [Try.params11] at hA hval
  obtain ⟨v0, vs0, d0, ds0, p0, q0, hargs, rfl, rfl, h0, r0⟩ := trodAll_cons hA
  obtain ⟨rfl, rfl, rfl⟩ := trodAll_nil r0
  obtain rfl : args = #[v0] := by cases args; simp_all
  obtain ⟨rfl, rfl⟩ := trodVars_none hV
  obtain ⟨a0, len0, cap0, rfl⟩ := okWide_slice Try.underlying112 (hval 0 112 v0 rfl rfl)
  have k0 := h0
  have lt0 : ∀ x ∈ p0, x.block < W.heap.size := by obtain ⟨m, hm⟩ := k0; exact DataW.trod_lt m _ _ _ hm
  obtain ⟨fa, fc, w0⟩ : ∃ fa fc, Notes W a0 len0 fa fc := by
    obtain ⟨fuel, hf⟩ := h0
    rcases open_slice_pairs Try.underlying112 Try.underlying117 (by kernel_rfl) rfl rfl (by kernel_rfl) (by kernel_rfl) hf with ⟨hcs, _⟩ | ⟨x, l, c, m, n, V0, V1, D0, D1, P0, P1, hcs, _, hl, hm, hmm, _, hcell⟩
    · simp [Value.cells] at hcs
      obtain ⟨rfl, rfl, rfl⟩ := hcs
      exact ⟨fun _ => 0, fun _ => 0, fun h => by omega⟩
    · simp [Value.cells] at hcs
      obtain ⟨rfl, rfl, rfl⟩ := hcs
      have hm2 : len0 ≤ m := by rw [hmm]; split <;> omega
      obtain ⟨z, hz⟩ := choose_lt (n := len0) (p := fun i (z : Int × Int) => W.cell? (x.add (i * 2)) = some (.int .i64 z.1) ∧ W.cell? (x.add (i * 2 + 1)) = some (.int .i64 z.2)) (fun i hi => by
        obtain ⟨c0, c1, t0, t1⟩ := hcell i (by omega)
        obtain ⟨n0, e0, _, _⟩ := DataW.trod_int Try.underlying3 t0
        obtain ⟨n1, e1, _, _⟩ := DataW.trod_int Try.underlying3 t1
        injection e0 with e0
        injection e1 with e1
        exact ⟨(n0, n1), by rw [c0, e0], by rw [c1, e1]⟩)
      refine ⟨fun i => (z i).1, fun i => (z i).2, fun h => ?_⟩
      obtain ⟨b, off, spot⟩ := x
      have hspot : spot = none := by simpa [Addr.add] using World.cell?_spot (hz 0 h).1
      subst hspot
      refine ⟨b, off, rfl, World.block_lt_of_cell? _ _ (hz 0 h).1, fun i hi => ?_⟩
      have h1 := hz i hi
      rw [Go.WideShapes.add_plain, Go.WideShapes.add_plain] at h1
      exact h1
  clear hA0 hval0
  refine (walk a0 len0 cap0 fa fc W w0).mono fun e W' ⟨he, bel⟩ => ?_
  subst he
  exact ⟨_, rfl, _, _, _, [], _, [], hW', trodAll_mk1 (shut_bool Try.underlying4 _), (trodAll_cons_mk (Below.trod laidOut (by kernel_rfl) (of_decide_eq_true (by kernel_rfl)) k0 bel lt0) trodAll_mk0), rfl, bel.frame _, fun h => by cases h⟩

theorem over : Rows.topSecondsRow.holds Try.pinned (OpenSpec.ofChange Rows.topSecondsSpec) :=
  OpenClaim.holds_of_wide 11 Try.f11 rfl rfl rfl rfl rfl rfl rfl ⟨rfl, rfl, rfl, rfl, rfl⟩ rfl rfl rfl rfl rfl (by kernel_rfl) Try.func11 (by kernel_rfl)
    (of_decide_eq_true (by kernel_rfl)) (by unfold Func.isWrapper; first | (rw [if_pos (by decide +kernel)]; kernel_rfl) | (rw [if_neg (by decide +kernel)]; exact ⟨rfl, rfl⟩))
    (fun os started H enc _ => lifted os started H enc)

theorem proved : Rows.TopSecondsSaid := over
#print axioms proved
end Go.Proofs.Ytekfmpnfpoapfaa.topSeconds
