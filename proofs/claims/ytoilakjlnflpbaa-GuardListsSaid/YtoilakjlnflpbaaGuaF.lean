/- Of a white and a black list of the same origins just one lets an origin pass. -/
import Derived.Test.YtoilakjlnflpbaaGuaE
namespace Go.Proofs.Ytoilakjlnflpbaa.GuaF
open Go.ChangeShapes Go.WideShapes Go.ChangeAt Go.RowKit Go.Deep Base NumM NumE RulA Txt ValA LisA LisB LisC LisD GuaA GuaB GuaD GuaE
set_option linter.unusedVariables false

theorem kc {w w' : World} {b o : Nat} {v : Value} (hb : Below w.heap.size w w') (h : w.cell? ⟨b, o, none⟩ = some v) : w'.cell? ⟨b, o, none⟩ = some v := (hb.cell (p := ⟨b, o, none⟩) (World.block_lt_of_cell? _ _ h)).trans h
theorem bl {w w1 w2 : World} (h : Below w.heap.size w w1) (h2 : Below w1.heap.size w1 w2) : Below w.heap.size w w2 := h.trans (h2.mono h.size)

abbrev LA (res : ByteArray) (white : Bool) (a : Option Addr) (n cap : Nat) : Value := .agg #[.string res, .bool white, .slice a n cap]

set_option maxRecDepth 20000 in
set_option maxHeartbeats 4000000 in
theorem other_core (res : ByteArray) (white : Bool) (a : Option Addr) (n cap : Nat) (o : ByteArray) (x y z b1 b2 : Bool) (hb : o.toList.isEmpty = b1) (hn : decide ((n : Int) = 0) = b2)
    (hx1 : (b1 || b2) = true → x = y) (hx2 : (b1 || b2) = false → x ≠ y ∨ x = false ∧ y = false ∧ z = false) (w : World)
    (HL : Hid (Ret 12 #[] (.bool true)))
    (H1 : Hid (∀ w', Below w.heap.size w w' → Calls Try.prog 25 #[LA res white a n cap, .string o] w' fun e w2 => e = .returned (.bool x) ∧ Below w'.heap.size w' w2))
    (H2 : Hid (∀ w', Below w.heap.size w w' → Calls Try.prog 25 #[LA res (!white) a n cap, .string o] w' fun e w2 => e = .returned (.bool y) ∧ Below w'.heap.size w' w2))
    (H3 : Hid (∀ w', Below w.heap.size w w' → Calls Try.prog 26 #[LA res white a n cap, .string ⟨#[]⟩] w' fun e w2 => e = .returned (.bool z) ∧ Below w'.heap.size w' w2)) :
    Calls Try.prog 7 #[LA res white a n cap, .string o] w fun e w' => e = .returned (.bool true) ∧ Below w.heap.size w w' := by
  have HX := hid (And.intro hx1 hx2)
  clear hx1 hx2
  have hb0 : Below w.heap.size w (w.alloc (.cells #[.string res, .bool white, .slice a n cap] 57)) := (Below.refl _ w).alloc (Nat.le_refl _) _
  have HB0 := hid hb0
  clear hb0
  unfold LA at H1 H2 H3 ⊢
  go_enter Try.func7, Try.ntmps7
  go_wp2_with fail
  refine (HL.out _).mono ?_
  rintro e w1 ⟨rfl, hb1⟩
  have HB1 := hid (HB0.out.trans (hb1.mono HB0.out.size))
  have c0 : w1.cell? ⟨w.heap.size, 0, none⟩ = some (.string res) := (hb1.cell (p := ⟨w.heap.size, 0, none⟩) (by simp)).trans (by go_cell)
  have c1 : w1.cell? ⟨w.heap.size, 1, none⟩ = some (.bool white) := (hb1.cell (p := ⟨w.heap.size, 1, none⟩) (by simp)).trans (by go_cell)
  have c2 : w1.cell? ⟨w.heap.size, 2, none⟩ = some (.slice a n cap) := (hb1.cell (p := ⟨w.heap.size, 2, none⟩) (by simp)).trans (by go_cell)
  have hs1 : w.heap.size < w1.heap.size := by have := hb1.size; simp at this; omega
  clear hb1
  go_upto_region 5 with fail
  have y0 : ((w1.alloc (.cells #[.string res, .bool (!white), .slice a n cap] 57))).cell? ⟨w.heap.size, 0, none⟩ = some (.string res) := by go_cell
  have y1 : ((w1.alloc (.cells #[.string res, .bool (!white), .slice a n cap] 57))).cell? ⟨w.heap.size, 1, none⟩ = some (.bool white) := by go_cell
  have y2 : ((w1.alloc (.cells #[.string res, .bool (!white), .slice a n cap] 57))).cell? ⟨w.heap.size, 2, none⟩ = some (.slice a n cap) := by go_cell
  have x0 : ((w1.alloc (.cells #[.string res, .bool (!white), .slice a n cap] 57))).cell? ⟨w1.heap.size, 0, none⟩ = some (.string res) := by go_cell
  have x1 : ((w1.alloc (.cells #[.string res, .bool (!white), .slice a n cap] 57))).cell? ⟨w1.heap.size, 1, none⟩ = some (.bool (!white)) := by go_cell
  have x2 : ((w1.alloc (.cells #[.string res, .bool (!white), .slice a n cap] 57))).cell? ⟨w1.heap.size, 2, none⟩ = some (.slice a n cap) := by go_cell
  have HBz : Hid (Below w.heap.size w ((w1.alloc (.cells #[.string res, .bool (!white), .slice a n cap] 57)))) := hid (HB1.out.alloc HB1.out.size _)
  generalize (w1.alloc (.cells #[.string res, .bool (!white), .slice a n cap] 57)) = wz at *
  clear c0 c1 c2 HB1 HB0 HL
  go_cut [6, 7] (fun s6 s7 wx => s6 = .bool x ∧ s7 = .bool y ∧ wx.cell? ⟨w.heap.size, 0, none⟩ = some (.string res) ∧ wx.cell? ⟨w.heap.size, 1, none⟩ = some (.bool white) ∧ wx.cell? ⟨w.heap.size, 2, none⟩ = some (.slice a n cap) ∧ Below w.heap.size w wx)
  case first =>
    clear hb hn HX
    go_region_held3 (fun w' => w'.cell? ⟨w.heap.size, 0, none⟩ = some (.string res) ∧ w'.cell? ⟨w.heap.size, 1, none⟩ = some (.bool white) ∧ w'.cell? ⟨w.heap.size, 2, none⟩ = some (.slice a n cap) ∧ w'.cell? ⟨w1.heap.size, 0, none⟩ = some (.string res) ∧ w'.cell? ⟨w1.heap.size, 1, none⟩ = some (.bool (!white)) ∧ w'.cell? ⟨w1.heap.size, 2, none⟩ = some (.slice a n cap)) (go_keep)
      (first
        | (go_at_call 25; (with_reducible refine (H1.out _ (by first | exact HBz.out | exact HBz.out.drew)).mono ?_); rintro e w4 ⟨rfl, hb4⟩
           have y0 : w4.cell? ⟨w.heap.size, 0, none⟩ = some (.string res) := kc hb4 (by first | exact y0 | assumption)
           have y1 : w4.cell? ⟨w.heap.size, 1, none⟩ = some (.bool white) := kc hb4 (by first | exact y1 | assumption)
           have y2 : w4.cell? ⟨w.heap.size, 2, none⟩ = some (.slice a n cap) := kc hb4 (by first | exact y2 | assumption)
           have x0 : w4.cell? ⟨w1.heap.size, 0, none⟩ = some (.string res) := kc hb4 (by first | exact x0 | assumption)
           have x1 : w4.cell? ⟨w1.heap.size, 1, none⟩ = some (.bool (!white)) := kc hb4 (by first | exact x1 | assumption)
           have x2 : w4.cell? ⟨w1.heap.size, 2, none⟩ = some (.slice a n cap) := kc hb4 (by first | exact x2 | assumption)
           have HBz := hid (bl (by first | exact HBz.out | exact HBz.out.drew) hb4))
        | (go_at_call 25; (with_reducible refine (H2.out _ (by first | exact HBz.out | exact HBz.out.drew)).mono ?_); rintro e w4 ⟨rfl, hb4⟩
           have y0 : w4.cell? ⟨w.heap.size, 0, none⟩ = some (.string res) := kc hb4 (by first | exact y0 | assumption)
           have y1 : w4.cell? ⟨w.heap.size, 1, none⟩ = some (.bool white) := kc hb4 (by first | exact y1 | assumption)
           have y2 : w4.cell? ⟨w.heap.size, 2, none⟩ = some (.slice a n cap) := kc hb4 (by first | exact y2 | assumption)
           have x0 : w4.cell? ⟨w1.heap.size, 0, none⟩ = some (.string res) := kc hb4 (by first | exact x0 | assumption)
           have x1 : w4.cell? ⟨w1.heap.size, 1, none⟩ = some (.bool (!white)) := kc hb4 (by first | exact x1 | assumption)
           have x2 : w4.cell? ⟨w1.heap.size, 2, none⟩ = some (.slice a n cap) := kc hb4 (by first | exact x2 | assumption)
           have HBz := hid (bl (by first | exact HBz.out | exact HBz.out.drew) hb4)))
    all_goals
      go_wp2_with fail
      go_meet
      exact ⟨rfl, rfl, by assumption, by assumption, by assumption, HBz.out⟩
  case rest =>
    obtain ⟨rfl, rfl, k0, k1, k2, hbc⟩ := hcut
    have HC := hid hbc
    clear hbc y0 y1 y2 x0 x1 x2 HBz H1 H2
    cases b1 with
    | true =>
      have e := HX.out.1 (by simp)
      subst e
      clear HX
      cases x <;> (
        go_wp2_with fail
        go_ret
        exact ⟨rfl, HC.out⟩)
    | false =>
      cases b2 with
      | true =>
        have e := HX.out.1 (by simp)
        subst e
        have hn1 : ((n : Int) == 0) = true := by simpa using hn
        clear HX hn
        cases x <;> (
          go_wp2_with fail
          go_ret
          exact ⟨rfl, HC.out⟩)
      | false =>
        have hn1 : ((n : Int) == 0) = false := by simpa using hn
        have e := HX.out.2 (by simp)
        clear HX hn
        cases x <;> cases y
        · obtain ⟨-, -, rfl⟩ := e.resolve_left (by simp)
          go_wp2_with fail
          refine (H3.out _ HC.out).mono ?_
          rintro e w4 ⟨rfl, hb4⟩
          have HC4 := hid (bl HC.out hb4)
          clear hb4
          go_wp2_with fail
          go_ret
          exact ⟨rfl, HC4.out⟩
        · go_wp2_with fail
          go_ret
          exact ⟨rfl, HC.out⟩
        · go_wp2_with fail
          go_ret
          exact ⟨rfl, HC.out⟩
        · exact absurd e (by simp)

theorem otherLaw (res : ByteArray) (white : Bool) (a : Option Addr) (cap : Nat) (ss : List (List UInt8)) (o : ByteArray) (w : World) (hr : res.size ≤ maxLen) (hss : ss.length ≤ 9223372036854775807) (hL : ∀ x ∈ ss, x.length ≤ maxLen) (hT : TAt w w.heap.size a ss) :
    Calls Try.prog 7 #[LA res white a ss.length cap, .string o] w fun e w' => e = .returned (.bool true) ∧ Below w.heap.size w w' := by
  refine other_core res white a ss.length cap o (listB res white ss o) (listB res (!white) ss o) (listB res white ss ⟨#[]⟩) _ _ (empty_eq o) rfl ?_ ?_ w (hid live_any)
    (hid fun w' hb => GList_any res white a cap ss o w' hr hss hL (TAt.low hT hb)) (hid fun w' hb => GList_any res (!white) a cap ss o w' hr hss hL (TAt.low hT hb)) (hid fun w' hb => RList_any res white a cap ss _ w' (hid hr) hss (hid hL) (hid (TAt.low hT hb)))
  · intro h
    unfold listB
    by_cases ho : o = ⟨#[]⟩
    · simp [ho]
    · have hz : (ss.length : Int) = 0 := by simpa [ho] using h
      have : listE res ss ≠ 0 := by
        unfold listE inR
        have hz' : ss.length = 0 := by omega
        rw [hz']
        split
        · simp
        · decide
      simp [this]
  · intro h
    unfold listB
    by_cases ho : o = ⟨#[]⟩
    · simp [ho] at h
    · by_cases he : listE res ss = 0
      · left
        simp only [he, ho, decide_true, decide_false, Bool.true_and, Bool.false_or]
        cases hasS ss o <;> cases white <;> simp
      · right
        simp [he]

theorem arg_at {H : Type} {enc : TypeId × Value → H} {P : Program} {w : World} {base : Nat} {spare : Nat → Bool} {held : Bool} {e : TypeId} {fs : Array Field} {n : Nat} {cs : List Value} {y : DataW H × List MemPlace} (he : P.underlying e = some (.struct fs)) (hone : oneCellFields P fs = true) (hC : P.cellsOf e = fs.size)
    (ht : DataW.trod enc P w base spare held n e cs = some y) (j : Nat) (f : Field) (hj : fs[j]? = some f) :
    ∃ v z k, cs[j]? = some v ∧ DataW.trod enc P w base spare held k f.type [v] = some z := by
  obtain ⟨xs, k, _, _, hlen, hxl, hg⟩ := DataW.trod_struct he ht
  obtain ⟨o1, o2⟩ := hone_of hone j f hj
  have hjs : j < fs.size := (Array.getElem?_eq_some_iff.1 hj).1
  have hjc : j < cs.length := by omega
  have hg := hg j f hj
  rw [o1, o2, List.drop_eq_getElem_cons hjc] at hg
  simp only [List.take_succ_cons, List.take_zero] at hg
  obtain ⟨z, hz⟩ : ∃ z, xs[j]? = some z := ⟨xs[j]'(by omega), List.getElem?_eq_getElem (by omega)⟩
  exact ⟨cs[j], z, k, List.getElem?_eq_getElem hjc, by rw [hg, hz]⟩

theorem texts_of {H : Type} {enc : TypeId × Value → H} {W : World} {base : Nat} {spare : Nat → Bool} {held : Bool} {k : Nat} {v : Value} {z : DataW H × List MemPlace} (h : DataW.trod enc Try.prog W base spare held k 55 [v] = some z) :
    ∃ (a : Option Addr) (c : Nat) (ss : List (List UInt8)), v = .slice a ss.length c ∧ ss.length ≤ 9223372036854775807 ∧ (∀ x ∈ ss, x.length ≤ maxLen) ∧ TAt W W.heap.size a ss := by
  obtain ⟨a, n, cap, f, rfl, hn, hs, hc⟩ := OpnS.strs_of Try.underlying55 Try.underlying9 (by kernel_rfl) h
  refine ⟨a, cap, (List.range n).map fun i => (f i).data.toList, by simp, by simpa using hn, fun x hx => ?_, fun h0 => ?_⟩
  · obtain ⟨i, hi, rfl⟩ := List.mem_map.1 hx
    rw [Array.length_toList]
    exact hs i (List.mem_range.1 hi)
  · simp at h0
    obtain ⟨g, o, rfl, hg, hci⟩ := hc h0
    refine ⟨g, o, rfl, hg, fun i x hx => ?_⟩
    have hi : i < n := by have := (List.getElem?_eq_some_iff.1 hx).1; simpa using this
    rw [hci i hi]
    simp [hi] at hx
    subst hx
    simp

theorem under_auth : ∃ fs, Try.prog.underlying 57 = some (.struct fs) ∧ oneCellFields Try.prog fs = true ∧ Try.prog.cellsOf 57 = fs.size ∧ fs.size = 3 ∧
    (fs.toList.map (·.type)) = [9, 4, 55] := ⟨_, Try.underlying57, by kernel_rfl, by kernel_rfl, by kernel_rfl, by kernel_rfl⟩

set_option maxRecDepth 100000 in
theorem auth_of {H : Type} {enc : TypeId × Value → H} {W : World} {base b0 : Nat} {r : Reach} {spare : Nat → Bool} {held : Bool} {v : Value} {d : DataW H} {p : List MemPlace}
    (hv : Value.okWide Try.prog W r b0 57 v) (h : DataW.Trod enc Try.prog W base spare held 57 v d p) :
    ∃ (n0 : ByteArray) (n1 : Bool) (a2 : Option Addr) (cp2 : Nat) (ss2 : List (List UInt8)), v = .agg #[.string n0, .bool n1, .slice a2 ss2.length cp2] ∧ n0.size ≤ maxLen ∧ ss2.length ≤ 9223372036854775807 ∧ (∀ x ∈ ss2, x.length ≤ maxLen) ∧ TAt W W.heap.size a2 ss2 := by
  obtain ⟨fuel, hf⟩ := h
  obtain ⟨fs, hu, h1, h2, h5, ht⟩ := under_auth
  obtain ⟨cs, rfl, hcs⟩ := okWide_struct hu hv
  have hf : DataW.trod enc Try.prog W base spare held fuel 57 cs.toList = some (d, p) := by
    rw [show (Value.agg cs).cells = cs from by unfold Value.cells; rfl] at hf
    exact hf
  have hcl : cs.toList.length = 3 := by rw [Array.length_toList, hcs, h2, h5]
  have hty : ∀ j (hj : j < 3), ∃ f, fs[j]? = some f ∧ some f.type = ([9, 4, 55] : List TypeId)[j]? := fun j hj => by
    refine ⟨fs[j]'(by omega), Array.getElem?_eq_getElem (by omega), ?_⟩
    rw [← ht]
    simp [h5, hj]
  obtain ⟨f0, g0, t0⟩ := hty 0 (by omega)
  obtain ⟨f1, g1, t1⟩ := hty 1 (by omega)
  obtain ⟨f2, g2, t2⟩ := hty 2 (by omega)
  obtain ⟨v0, z0, k0, c0, r0⟩ := arg_at hu h1 h2 hf 0 f0 g0
  obtain ⟨v1, z1, k1, c1, r1⟩ := arg_at hu h1 h2 hf 1 f1 g1
  obtain ⟨v2, z2, k2, c2, r2⟩ := arg_at hu h1 h2 hf 2 f2 g2
  simp only [List.getElem?_cons_zero, List.getElem?_cons_succ, Option.some.injEq] at t0 t1 t2
  rw [t0] at r0
  rw [t1] at r1
  rw [t2] at r2
  obtain ⟨n0, e0, _, q0⟩ := DataW.trod_string Try.underlying9 r0
  obtain ⟨n1, e1, _⟩ := DataW.trod_bool Try.underlying4 r1
  obtain ⟨a2, cp2, ss2, e2, q2a, q2b, q2c⟩ := texts_of r2
  simp only [List.cons.injEq, and_true] at e0 e1
  subst e0 e1 e2
  refine ⟨n0, n1, a2, cp2, ss2, ?_, q0, q2a, q2b, q2c⟩
  congr 1
  apply Array.ext'
  match hl : cs.toList, hcl with
  | [x0, x1, x2], _ =>
    rw [hl] at c0 c1 c2
    simp at c0 c1 c2
    subst c0 c1 c2
    rfl

theorem main {W : World} (res : ByteArray) (white : Bool) (a : Option Addr) (cap : Nat) (ss : List (List UInt8)) (h1 : res.size ≤ maxLen) (h2 : ss.length ≤ 9223372036854775807) (h3 : ∀ x ∈ ss, x.length ≤ maxLen) (h4 : TAt W W.heap.size a ss) (o : ByteArray) (ho : o.size ≤ maxLen) :
    Calls Try.prog 7 #[.agg #[.string res, .bool white, .slice a ss.length cap], .string o] W fun e w' => e = .returned (.bool true) ∧ Below W.heap.size W w' :=
  otherLaw res white a cap ss o W h1 h2 h3 h4

end Go.Proofs.Ytoilakjlnflpbaa.GuaF
