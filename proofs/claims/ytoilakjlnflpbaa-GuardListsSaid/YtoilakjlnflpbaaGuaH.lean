/- Arrays that come in. -/
import Derived.Test.YtoilakjlnflpbaaGuaG
namespace Go.Proofs.Ytoilakjlnflpbaa.GuaH
open Go.ChangeShapes Go.WideShapes Go.ChangeAt Go.RowKit Go.Deep Base NumM NumE RulA Txt LisA LisD GuaA GuaB GuaE GuaF GuaG
set_option linter.unusedVariables false

set_option maxRecDepth 100000 in
theorem okWide_array {n : Nat} {t e : TypeId} {w : World} {r : Reach} {base : Nat} {v : Value} (ht : Try.prog.underlying t = some (.array n e)) (h : Value.okWide Try.prog w r base t v) : ∃ cs, v = .agg cs ∧ cs.size = Try.prog.cellsOf t := by
  simp only [Value.okWide, ht] at h
  obtain ⟨cs, h1, h2, _⟩ := h
  exact ⟨cs, h1, h2⟩

/-- cells that are ints -/
theorem ints_named {cs : List Value} {n : Nat} (hl : cs.length = n) (h : ∀ i, i < n → ∃ x, cs[i]? = some (.int .i64 x) ∧ (Lit.int .i64 x).wf = true) :
    ∃ F : Nat → Int, (∀ i, i < n → (Lit.int .i64 (F i)).wf = true) ∧ cs = (List.range n).map fun i => Value.int .i64 (F i) := by
  refine ⟨fun i => match cs[i]? with | some (.int _ x) => x | _ => 0, fun i hi => ?_, ?_⟩
  · obtain ⟨x, hx, hw⟩ := h i hi
    simp only [hx]; exact hw
  · apply List.ext_getElem?
    intro i
    by_cases hi : i < n
    · obtain ⟨x, hx, _⟩ := h i hi
      rw [hx]
      simp [hi, hx]
    · rw [List.getElem?_eq_none (by omega), List.getElem?_eq_none (by simp; omega)]

section
variable {H : Type} {enc : TypeId × Value → H} {W : World} {base b0 : Nat} {r : Reach} {spare : Nat → Bool} {held : Bool} {v : Value} {d : DataW H} {p : List MemPlace}

set_option maxRecDepth 100000 in
theorem under_two : Try.prog.underlying 61 = some (.array 2 3) ∧ Try.prog.cellsOf 61 = 2 ∧ Try.prog.cellsOf 3 = 1 := ⟨Try.underlying61, by kernel_rfl, by kernel_rfl⟩

set_option maxRecDepth 100000 in
theorem two_of (hv : Value.okWide Try.prog W r b0 61 v) (h : DataW.Trod enc Try.prog W base spare held 61 v d p) :
    ∃ n0 n1 : Int, v = .agg #[.int .i64 n0, .int .i64 n1] ∧ (Lit.int .i64 n0).wf = true ∧ (Lit.int .i64 n1).wf = true := by
  obtain ⟨fuel, hf⟩ := h
  obtain ⟨hu, h2, h1⟩ := under_two
  obtain ⟨cs, rfl, hcs⟩ := okWide_array hu hv
  have hf : DataW.trod enc Try.prog W base spare held fuel 61 cs.toList = some (d, p) := by
    rw [show (Value.agg cs).cells = cs from by unfold Value.cells; rfl] at hf
    exact hf
  obtain ⟨xs, m, _, _, hl, hxl, hg⟩ := DataW.trod_array hu hf
  rw [h2] at hl
  rw [h1] at hg
  obtain ⟨F, hw, he⟩ := ints_named hl (fun i hi => by
    have hg := hg i hi
    have hi' : i < cs.toList.length := by omega
    rw [Nat.mul_one, List.drop_eq_getElem_cons hi'] at hg
    simp only [List.take_succ_cons, List.take_zero] at hg
    rw [List.getElem?_eq_getElem (by omega)] at hg
    obtain ⟨x, e, _, hw⟩ := DataW.trod_int Try.underlying3 hg
    simp only [List.cons.injEq, and_true] at e
    exact ⟨x, by rw [List.getElem?_eq_getElem hi', e], hw⟩)
  refine ⟨F 0, F 1, ?_, hw 0 (by omega), hw 1 (by omega)⟩
  congr 1
  apply Array.ext'
  rw [he]
  rfl

theorem under_now : ∃ fs, Try.prog.underlying 29 = some (.struct fs) ∧ oneCellFields Try.prog fs = true ∧ Try.prog.cellsOf 29 = fs.size ∧ fs.size = 7 ∧
    fs.toList.map (·.type) = List.replicate 7 3 := ⟨_, Try.underlying29, by kernel_rfl, by kernel_rfl, by kernel_rfl, by kernel_rfl⟩
theorem type_at {fs : Array Field} {n : Nat} {t : TypeId} (h : fs.toList.map (·.type) = List.replicate n t) (j : Nat) (f : Field) (hf : fs[j]? = some f) : f.type = t := by
  have h1 : (fs.toList.map (·.type))[j]? = some f.type := by rw [List.getElem?_map, Array.getElem?_toList, hf]; rfl
  rw [h, List.getElem?_replicate] at h1
  split at h1
  · exact (Option.some.inj h1).symm
  · cases h1
theorem under_nows : Try.prog.underlying 60 = some (.array 2 29) ∧ Try.prog.cellsOf 60 = 14 := ⟨Try.underlying60, by kernel_rfl⟩

set_option maxRecDepth 100000 in
theorem nows_of (hv : Value.okWide Try.prog W r b0 60 v) (h : DataW.Trod enc Try.prog W base spare held 60 v d p) :
    ∃ F : Nat → Int, v = .agg #[.int .i64 (F 0), .int .i64 (F 1), .int .i64 (F 2), .int .i64 (F 3), .int .i64 (F 4), .int .i64 (F 5), .int .i64 (F 6), .int .i64 (F 7), .int .i64 (F 8), .int .i64 (F 9), .int .i64 (F 10), .int .i64 (F 11), .int .i64 (F 12), .int .i64 (F 13)] ∧ ∀ i, i < 14 → (Lit.int .i64 (F i)).wf = true := by
  obtain ⟨fuel, hf⟩ := h
  obtain ⟨hu, h2⟩ := under_nows
  obtain ⟨fs, gu, g1, g2, g5, gt0⟩ := under_now
  have gt := type_at gt0
  obtain ⟨cs, rfl, hcs⟩ := okWide_array hu hv
  have hf : DataW.trod enc Try.prog W base spare held fuel 60 cs.toList = some (d, p) := by
    rw [show (Value.agg cs).cells = cs from by unfold Value.cells; rfl] at hf
    exact hf
  obtain ⟨xs, m, _, _, hl, hxl, hg⟩ := DataW.trod_array hu hf
  rw [h2] at hl
  rw [g2, g5] at hg
  obtain ⟨F, hw, he⟩ := ints_named hl (fun i hi => by
    have hg := hg (i / 7) (by omega)
    rw [List.getElem?_eq_getElem (by omega)] at hg
    have hj : i % 7 < fs.size := by rw [g5]; omega
    obtain ⟨v, z, k, hc, hz⟩ := arg_at gu g1 g2 hg (i % 7) _ (Array.getElem?_eq_getElem hj)
    rw [gt _ _ (Array.getElem?_eq_getElem hj)] at hz
    obtain ⟨x, e, _, hw⟩ := DataW.trod_int Try.underlying3 hz
    simp only [List.cons.injEq, and_true] at e
    subst e
    rw [List.getElem?_take, if_pos (by omega), List.getElem?_drop, show i / 7 * 7 + i % 7 = i by omega] at hc
    exact ⟨x, hc, hw⟩)
  refine ⟨F, ?_, hw⟩
  congr 1
  apply Array.ext'
  rw [he]
  rfl

end

theorem under_sys : ∃ fs, Try.prog.underlying 38 = some (.struct fs) ∧ oneCellFields Try.prog fs = true ∧ Try.prog.cellsOf 38 = fs.size ∧ fs.size = 5 ∧
    (fs.toList.map (·.type)) = [3, 3, 3, 3, 3] := ⟨_, Try.underlying38, by kernel_rfl, by kernel_rfl, by kernel_rfl, by kernel_rfl⟩

set_option maxRecDepth 100000 in
theorem sys_of {H : Type} {enc : TypeId × Value → H} {W : World} {base b0 : Nat} {r : Reach} {spare : Nat → Bool} {held : Bool} {v : Value} {d : DataW H} {p : List MemPlace}
    (hv : Value.okWide Try.prog W r b0 38 v) (h : DataW.Trod enc Try.prog W base spare held 38 v d p) :
    ∃ (n0 : Int) (n1 : Int) (n2 : Int) (n3 : Int) (n4 : Int), v = .agg #[.int .i64 n0, .int .i64 n1, .int .i64 n2, .int .i64 n3, .int .i64 n4] ∧ (Lit.int .i64 n0).wf = true ∧ (Lit.int .i64 n1).wf = true ∧ (Lit.int .i64 n2).wf = true ∧ (Lit.int .i64 n3).wf = true ∧ (Lit.int .i64 n4).wf = true := by
  obtain ⟨fuel, hf⟩ := h
  obtain ⟨fs, hu, h1, h2, h5, ht⟩ := under_sys
  obtain ⟨cs, rfl, hcs⟩ := okWide_struct hu hv
  have hf : DataW.trod enc Try.prog W base spare held fuel 38 cs.toList = some (d, p) := by
    rw [show (Value.agg cs).cells = cs from by unfold Value.cells; rfl] at hf
    exact hf
  have hcl : cs.toList.length = 5 := by rw [Array.length_toList, hcs, h2, h5]
  have hty : ∀ j (hj : j < 5), ∃ f, fs[j]? = some f ∧ some f.type = ([3, 3, 3, 3, 3] : List TypeId)[j]? := fun j hj => by
    refine ⟨fs[j]'(by omega), Array.getElem?_eq_getElem (by omega), ?_⟩
    rw [← ht]
    simp [h5, hj]
  obtain ⟨f0, g0, t0⟩ := hty 0 (by omega)
  obtain ⟨f1, g1, t1⟩ := hty 1 (by omega)
  obtain ⟨f2, g2, t2⟩ := hty 2 (by omega)
  obtain ⟨f3, g3, t3⟩ := hty 3 (by omega)
  obtain ⟨f4, g4, t4⟩ := hty 4 (by omega)
  obtain ⟨v0, z0, k0, c0, r0⟩ := arg_at hu h1 h2 hf 0 f0 g0
  obtain ⟨v1, z1, k1, c1, r1⟩ := arg_at hu h1 h2 hf 1 f1 g1
  obtain ⟨v2, z2, k2, c2, r2⟩ := arg_at hu h1 h2 hf 2 f2 g2
  obtain ⟨v3, z3, k3, c3, r3⟩ := arg_at hu h1 h2 hf 3 f3 g3
  obtain ⟨v4, z4, k4, c4, r4⟩ := arg_at hu h1 h2 hf 4 f4 g4
  simp only [List.getElem?_cons_zero, List.getElem?_cons_succ, Option.some.injEq] at t0 t1 t2 t3 t4
  rw [t0] at r0
  rw [t1] at r1
  rw [t2] at r2
  rw [t3] at r3
  rw [t4] at r4
  obtain ⟨n0, e0, _, q0⟩ := DataW.trod_int Try.underlying3 r0
  obtain ⟨n1, e1, _, q1⟩ := DataW.trod_int Try.underlying3 r1
  obtain ⟨n2, e2, _, q2⟩ := DataW.trod_int Try.underlying3 r2
  obtain ⟨n3, e3, _, q3⟩ := DataW.trod_int Try.underlying3 r3
  obtain ⟨n4, e4, _, q4⟩ := DataW.trod_int Try.underlying3 r4
  simp only [List.cons.injEq, and_true] at e0 e1 e2 e3 e4
  subst e0 e1 e2 e3 e4
  refine ⟨n0, n1, n2, n3, n4, ?_, q0, q1, q2, q3, q4⟩
  congr 1
  apply Array.ext'
  match hl : cs.toList, hcl with
  | [x0, x1, x2, x3, x4], _ =>
    rw [hl] at c0 c1 c2 c3 c4
    simp at c0 c1 c2 c3 c4
    subst c0 c1 c2 c3 c4
    rfl

theorem fits_of {n : Int} (h : (Lit.int .i64 n).wf = true) : Fits n := by unfold Fits; have := Go.bounds_i64 h; omega

theorem lessLaw (qp th rt ld cp mo le y0 y1 y2 y3 y4 y5 y6 x0 x1 x2 x3 x4 n0 n1 : Int) (fq : Fits qp) (ft : Fits th) (fr : Fits rt) (fl : Fits ld) (fc : Fits cp) (fn : Fits n0) (w : World) :
    Calls Try.prog 6 #[.agg #[.int .i64 x0, .int .i64 x1, .int .i64 x2, .int .i64 x3, .int .i64 x4], .agg #[.int .i64 qp, .int .i64 th, .int .i64 rt, .int .i64 ld, .int .i64 cp, .int .i64 mo, .int .i64 le, .int .i64 y0, .int .i64 y1, .int .i64 y2, .int .i64 y3, .int .i64 y4, .int .i64 y5, .int .i64 y6], .agg #[.int .i64 n0, .int .i64 n1]] w fun x w' => x = .returned (.bool true) ∧ Below w.heap.size w w' := by
  refine less_core qp th rt ld cp mo le y0 y1 y2 y3 y4 y5 y6 x0 x1 x2 x3 x4 n0 n1 (lessV n0 n1) (if lessV n0 n1 < 1 then n0 else lessV n0 n1) (lessV qp y0) (lessV th y1) (lessV rt y2) (lessV ld y3) (lessV cp y4) (fieldS qp th rt ld cp mo le x0 x1 x2 x3 x4 n0) _ _ _ _ (form_neq rfl) ?_ ?_ ?_ w (hid live_any) (hid fun w => of_any qp th rt ld cp mo le w)
    (hid fun w => less_any _ _ fq w) (hid fun w => less_any _ _ ft w) (hid fun w => less_any _ _ fr w) (hid fun w => less_any _ _ fl w) (hid fun w => less_any _ _ fc w) (hid fun w => less_any _ _ fn w)
    (hid fun w => Field_any qp th rt ld cp mo le x0 x1 x2 x3 x4 n0 w) (hid fun w => System_is qp th rt ld cp mo le (-1) (-1) (-1) (-1) (-1) n0 w) (hid fun w => System_is qp th rt ld cp mo le x0 x1 x2 x3 x4 n0 w)
    (hid fun w => System_is _ _ _ _ _ _ _ x0 x1 x2 x3 x4 _ w)
  · by_cases h : lessV n0 n1 < 1
    · rw [if_pos h]; exact .inl ⟨h, rfl⟩
    · rw [if_neg h]; exact .inr ⟨by omega, rfl⟩
  · intro h
    rw [field_none]
    have h2 : (nowB qp th rt ld cp mo le && inR n0 1 1099511627776) = true := by
      simp only [decide_eq_false_iff_not] at h
      unfold fieldS at h
      cases hk : (nowB qp th rt ld cp mo le && inR n0 1 1099511627776)
      · rw [hk] at h
        simp at h
      · rfl
    rw [h2]
    simp
  · intro h
    have h := of_decide_eq_true h
    have hn := inR_iff.1 (field_empty.1 h).2.2.1
    refine decide_eq_true (system_less y0 y1 y2 y3 y4 ?_ ?_ h)
    · have := less_le (k := n1) (show 0 ≤ n0 by omega)
      split <;> omega
    · split <;> omega

theorem main {W : World} (x0 x1 x2 x3 x4 : Int) (a0 : (Lit.int .i64 x0).wf = true) (a1 : (Lit.int .i64 x1).wf = true) (a2 : (Lit.int .i64 x2).wf = true) (a3 : (Lit.int .i64 x3).wf = true) (a4 : (Lit.int .i64 x4).wf = true)
    (F : Nat → Int) (hF : ∀ i, i < 14 → (Lit.int .i64 (F i)).wf = true) (n0 n1 : Int) (b0 : (Lit.int .i64 n0).wf = true) (b1 : (Lit.int .i64 n1).wf = true) :
    Calls Try.prog 6 #[.agg #[.int .i64 x0, .int .i64 x1, .int .i64 x2, .int .i64 x3, .int .i64 x4], .agg #[.int .i64 (F 0), .int .i64 (F 1), .int .i64 (F 2), .int .i64 (F 3), .int .i64 (F 4), .int .i64 (F 5), .int .i64 (F 6), .int .i64 (F 7), .int .i64 (F 8), .int .i64 (F 9), .int .i64 (F 10), .int .i64 (F 11), .int .i64 (F 12), .int .i64 (F 13)], .agg #[.int .i64 n0, .int .i64 n1]] W fun x w' => x = .returned (.bool true) ∧ Below W.heap.size W w' :=
  lessLaw (F 0) (F 1) (F 2) (F 3) (F 4) (F 5) (F 6) (F 7) (F 8) (F 9) (F 10) (F 11) (F 12) (F 13) x0 x1 x2 x3 x4 n0 n1 (fits_of (hF 0 (by omega))) (fits_of (hF 1 (by omega))) (fits_of (hF 2 (by omega))) (fits_of (hF 3 (by omega))) (fits_of (hF 4 (by omega))) (fits_of b0) W

end Go.Proofs.Ytoilakjlnflpbaa.GuaH
