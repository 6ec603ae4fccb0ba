/- All rules and what is asked of them, as arguments; RulesOf. -/
import Derived.Test.YtcedbgoopolmdaaRulQ
import Derived.Test.YtcedbgoopolmdaaRulL
import Derived.Test.YtcedbgoopolmdaaRoom
namespace Go.Proofs.Ytcedbgoopolmdaa.RulR
open Go.ChangeShapes Go.WideShapes Go.ChangeAt Go.RowKit Go.Deep Base RulA RulB RulC RulD RulE RulF RulG RulH RulI RulJ RulM RulN RulO RulP RulQ Txt Opn
set_option linter.unusedVariables false

section
variable {H : Type} {enc : TypeId × Value → H} {P : Program} {w : World} {base : Nat} {spare : Nat → Bool} {held : Bool}

/-- a field of a struct that is an argument, and what it weighs -/
theorem arg_sized {e : TypeId} {fs : Array Field} {n : Nat} {cs : List Value} {y : DataW H × List MemPlace} (he : P.underlying e = some (.struct fs)) (hone : oneCellFields P fs = true) (hC : P.cellsOf e = fs.size)
    (ht : DataW.trod enc P w base spare held n e cs = some y) (j : Nat) (f : Field) (hj : fs[j]? = some f) :
    ∃ v z k, cs[j]? = some v ∧ DataW.trod enc P w base spare held k f.type [v] = some z ∧ ∀ m ∈ z.1.weights P f.type, m ∈ y.1.weights P e := by
  obtain ⟨xs, k, _, hy, hlen, hxl, hg⟩ := DataW.trod_struct he ht
  obtain ⟨o1, o2⟩ := hone_of hone j f hj
  have hjs : j < fs.size := (Array.getElem?_eq_some_iff.1 hj).1
  have hjc : j < cs.length := by omega
  have hg := hg j f hj
  rw [o1, o2, List.drop_eq_getElem_cons hjc] at hg
  simp only [List.take_succ_cons, List.take_zero] at hg
  obtain ⟨z, hz⟩ : ∃ z, xs[j]? = some z := ⟨xs[j]'(by omega), List.getElem?_eq_getElem (by omega)⟩
  refine ⟨cs[j], z, k, List.getElem?_eq_getElem hjc, by rw [hg, hz], fun m hm => ?_⟩
  have hy1 : y.1 = .agg (xs.map (·.1)) := by rw [hy]
  rw [hy1]
  unfold DataW.weights
  rw [he]
  exact DataW.weights_mem_each (j := j) (by rw [List.getElem?_map]; simp [hj]) (by rw [List.getElem?_map, hz]; rfl) m hm

theorem slice_cell {t e : TypeId} {fuel : Nat} {v : Value} {x : DataW H × List MemPlace} (ht : P.underlying t = some (.slice e)) (h : DataW.trod enc P w base spare held fuel t [v] = some x) : ∃ a n c, v = .slice a n c := by
  rcases open_slice ht h with ⟨hn, _⟩ | ⟨a, l, c, m, n, D, Pl, hcs, _⟩
  · simp at hn
    exact ⟨_, _, _, hn⟩
  · simp at hcs
    exact ⟨_, _, _, hcs⟩

theorem rows_gen {t e : TypeId} {fs : Array Field} {fuel : Nat} {a0 : Option Addr} {len cap : Nat} {x : DataW H × List MemPlace} (ht : P.underlying t = some (.slice e)) (he : P.underlying e = some (.struct fs)) (hone : oneCellFields P fs = true) (hC : P.cellsOf e = fs.size)
    (h : DataW.trod enc P w base spare held fuel t [.slice a0 len cap] = some x) (sz : Nat) (hsz : fs.size = sz) (hpos : 0 < sz) :
    ∃ C : Nat → Nat → Value, RowsOf w a0 len sz C ∧ ∀ f, fs[0]? = some f → P.underlying f.type = some .string → ∃ R : Nat → ByteArray, ∀ i, i < len → C i 0 = .string (R i) := by
  subst hsz
  rcases row_at ht he hone hC h with ⟨rfl, rfl⟩ | ⟨a, rfl, hl, hm, hi⟩
  · exact ⟨fun _ _ => .bool false, fun h0 => by omega, fun f _ _ => ⟨fun _ => ⟨#[]⟩, fun i h => by omega⟩⟩
  · refine ⟨fun i j => (w.cell? (a.add (i * fs.size + j))).getD (.bool false), fun h0 => ?_, fun f hf hs => ?_⟩
    · obtain ⟨b, off, spot⟩ := a
      obtain ⟨v, z, k, hc, _⟩ := hi 0 h0 0 (fs[0]'hpos) (Array.getElem?_eq_getElem hpos)
      have hspot : spot = none := by simpa [Addr.add] using World.cell?_spot hc
      subst hspot
      refine ⟨b, off, rfl, by have := World.block_lt_of_cell? _ _ hc; simpa [Addr.add] using this, fun i hil j hj => ?_⟩
      obtain ⟨v, z, k, hc, _⟩ := hi i hil j (fs[j]'hj) (Array.getElem?_eq_getElem hj)
      show _ = some ((w.cell? _).getD _)
      rw [hc]
      rw [Go.WideShapes.add_plain] at hc
      rw [Nat.add_assoc]
      exact hc
    · refine ⟨fun i => match (w.cell? (a.add (i * fs.size + 0))) with | some (.string s) => s | _ => ⟨#[]⟩, fun i hil => ?_⟩
      obtain ⟨v, z, k, hc, ht⟩ := hi i hil 0 f hf
      obtain ⟨n, e0, _, _⟩ := DataW.trod_string hs ht
      simp only [List.cons.injEq, and_true] at e0
      subst e0
      simp only [hc, Option.getD_some]

end

theorem underFlow : ∃ fs, Try.prog.underlying 92 = some (.struct fs) ∧ oneCellFields Try.prog fs = true ∧ Try.prog.cellsOf 92 = fs.size ∧ fs.size = 12 ∧ fs[0]?.map (·.type) = some 9 := ⟨_, Try.underlying92, by kernel_rfl, by kernel_rfl, by kernel_rfl, by kernel_rfl⟩

theorem rowsFlow {H : Type} {enc : TypeId × Value → H} {W : World} {base : Nat} {spare : Nat → Bool} {held : Bool} {fuel : Nat} {v : Value} {x : DataW H × List MemPlace}
    (h : DataW.trod enc Try.prog W base spare held fuel 69 [v] = some x) (hw : ∀ m ∈ x.1.weights Try.prog 69, m ≤ reachBytes) :
    ∃ a n c C, v = .slice a n c ∧ n ≤ 4000000000000 ∧ RowsOf W a n 12 C ∧ ∃ R : Nat → ByteArray, ∀ i, i < n → C i 0 = .string (R i) := by
  obtain ⟨a, n, c, rfl⟩ := slice_cell Try.underlying69 h
  obtain ⟨fs, hu, h1, h2, h3, h4⟩ := underFlow
  obtain ⟨C, hC, hR⟩ := rows_gen Try.underlying69 hu h1 h2 h 12 h3 (by omega)
  have hr := Room.rows_room Try.underlying69 h hw
  rw [show Try.prog.bytesOf 92 = 120 by kernel_rfl] at hr
  unfold reachBytes at hr
  obtain ⟨f, hf, hft⟩ := Option.map_eq_some_iff.1 h4
  exact ⟨a, n, c, C, rfl, by omega, hC, hR f hf (by rw [hft]; exact Try.underlying9)⟩

theorem underBreak : ∃ fs, Try.prog.underlying 102 = some (.struct fs) ∧ oneCellFields Try.prog fs = true ∧ Try.prog.cellsOf 102 = fs.size ∧ fs.size = 7 ∧ fs[0]?.map (·.type) = some 9 := ⟨_, Try.underlying102, by kernel_rfl, by kernel_rfl, by kernel_rfl, by kernel_rfl⟩

theorem rowsBreak {H : Type} {enc : TypeId × Value → H} {W : World} {base : Nat} {spare : Nat → Bool} {held : Bool} {fuel : Nat} {v : Value} {x : DataW H × List MemPlace}
    (h : DataW.trod enc Try.prog W base spare held fuel 70 [v] = some x) (hw : ∀ m ∈ x.1.weights Try.prog 70, m ≤ reachBytes) :
    ∃ a n c C, v = .slice a n c ∧ n ≤ 4000000000000 ∧ RowsOf W a n 7 C ∧ ∃ R : Nat → ByteArray, ∀ i, i < n → C i 0 = .string (R i) := by
  obtain ⟨a, n, c, rfl⟩ := slice_cell Try.underlying70 h
  obtain ⟨fs, hu, h1, h2, h3, h4⟩ := underBreak
  obtain ⟨C, hC, hR⟩ := rows_gen Try.underlying70 hu h1 h2 h 7 h3 (by omega)
  have hr := Room.rows_room Try.underlying70 h hw
  rw [show Try.prog.bytesOf 102 = 64 by kernel_rfl] at hr
  unfold reachBytes at hr
  obtain ⟨f, hf, hft⟩ := Option.map_eq_some_iff.1 h4
  exact ⟨a, n, c, C, rfl, by omega, hC, hR f hf (by rw [hft]; exact Try.underlying9)⟩

theorem underHot : ∃ fs, Try.prog.underlying 95 = some (.struct fs) ∧ oneCellFields Try.prog fs = true ∧ Try.prog.cellsOf 95 = fs.size ∧ fs.size = 5 ∧ fs[0]?.map (·.type) = some 9 := ⟨_, Try.underlying95, by kernel_rfl, by kernel_rfl, by kernel_rfl, by kernel_rfl⟩

theorem rowsHot {H : Type} {enc : TypeId × Value → H} {W : World} {base : Nat} {spare : Nat → Bool} {held : Bool} {fuel : Nat} {v : Value} {x : DataW H × List MemPlace}
    (h : DataW.trod enc Try.prog W base spare held fuel 71 [v] = some x) (hw : ∀ m ∈ x.1.weights Try.prog 71, m ≤ reachBytes) :
    ∃ a n c C, v = .slice a n c ∧ n ≤ 4000000000000 ∧ RowsOf W a n 5 C ∧ ∃ R : Nat → ByteArray, ∀ i, i < n → C i 0 = .string (R i) := by
  obtain ⟨a, n, c, rfl⟩ := slice_cell Try.underlying71 h
  obtain ⟨fs, hu, h1, h2, h3, h4⟩ := underHot
  obtain ⟨C, hC, hR⟩ := rows_gen Try.underlying71 hu h1 h2 h 5 h3 (by omega)
  have hr := Room.rows_room Try.underlying71 h hw
  rw [show Try.prog.bytesOf 95 = 64 by kernel_rfl] at hr
  unfold reachBytes at hr
  obtain ⟨f, hf, hft⟩ := Option.map_eq_some_iff.1 h4
  exact ⟨a, n, c, C, rfl, by omega, hC, hR f hf (by rw [hft]; exact Try.underlying9)⟩

theorem underSystem : ∃ fs, Try.prog.underlying 135 = some (.struct fs) ∧ oneCellFields Try.prog fs = true ∧ Try.prog.cellsOf 135 = fs.size ∧ fs.size = 5 := ⟨_, Try.underlying135, by kernel_rfl, by kernel_rfl, by kernel_rfl⟩

theorem rowsSystem {H : Type} {enc : TypeId × Value → H} {W : World} {base : Nat} {spare : Nat → Bool} {held : Bool} {fuel : Nat} {v : Value} {x : DataW H × List MemPlace}
    (h : DataW.trod enc Try.prog W base spare held fuel 72 [v] = some x) (hw : ∀ m ∈ x.1.weights Try.prog 72, m ≤ reachBytes) :
    ∃ a n c C, v = .slice a n c ∧ n ≤ 4000000000000 ∧ RowsOf W a n 5 C := by
  obtain ⟨a, n, c, rfl⟩ := slice_cell Try.underlying72 h
  obtain ⟨fs, hu, h1, h2, h3⟩ := underSystem
  obtain ⟨C, hC, hR⟩ := rows_gen Try.underlying72 hu h1 h2 h 5 h3 (by omega)
  have hr := Room.rows_room Try.underlying72 h hw
  rw [show Try.prog.bytesOf 135 = 40 by kernel_rfl] at hr
  unfold reachBytes at hr
  exact ⟨a, n, c, C, rfl, by omega, hC⟩

theorem underAuthority : ∃ fs, Try.prog.underlying 99 = some (.struct fs) ∧ oneCellFields Try.prog fs = true ∧ Try.prog.cellsOf 99 = fs.size ∧ fs.size = 3 ∧ fs[0]?.map (·.type) = some 9 := ⟨_, Try.underlying99, by kernel_rfl, by kernel_rfl, by kernel_rfl, by kernel_rfl⟩

theorem rowsAuthority {H : Type} {enc : TypeId × Value → H} {W : World} {base : Nat} {spare : Nat → Bool} {held : Bool} {fuel : Nat} {v : Value} {x : DataW H × List MemPlace}
    (h : DataW.trod enc Try.prog W base spare held fuel 73 [v] = some x) (hw : ∀ m ∈ x.1.weights Try.prog 73, m ≤ reachBytes) :
    ∃ a n c C, v = .slice a n c ∧ n ≤ 4000000000000 ∧ RowsOf W a n 3 C ∧ ∃ R : Nat → ByteArray, ∀ i, i < n → C i 0 = .string (R i) := by
  obtain ⟨a, n, c, rfl⟩ := slice_cell Try.underlying73 h
  obtain ⟨fs, hu, h1, h2, h3, h4⟩ := underAuthority
  obtain ⟨C, hC, hR⟩ := rows_gen Try.underlying73 hu h1 h2 h 3 h3 (by omega)
  have hr := Room.rows_room Try.underlying73 h hw
  rw [show Try.prog.bytesOf 99 = 48 by kernel_rfl] at hr
  unfold reachBytes at hr
  obtain ⟨f, hf, hft⟩ := Option.map_eq_some_iff.1 h4
  exact ⟨a, n, c, C, rfl, by omega, hC, hR f hf (by rw [hft]; exact Try.underlying9)⟩

set_option maxRecDepth 100000 in
theorem rules_of {H : Type} {enc : TypeId × Value → H} {W : World} {base b0 : Nat} {r : Reach} {spare : Nat → Bool} {held : Bool} {v : Value} {d : DataW H} {p : List MemPlace}
    (hv : Value.okWide Try.prog W r b0 75 v) (h : DataW.Trod enc Try.prog W base spare held 75 v d p) (hz : ∀ m ∈ d.weights Try.prog 75, m ≤ reachBytes) :
    ∃ (a : Nat → Option Addr) (n cap : Nat → Nat) (C : Nat → Nat → Nat → Value) (R : Nat → Nat → ByteArray) (L : Nat → Flow), v = .agg #[.slice (a 0) (n 0) (cap 0), .slice (a 1) (n 1) (cap 1), .slice (a 2) (n 2) (cap 2), .slice (a 3) (n 3) (cap 3), .slice (a 4) (n 4) (cap 4)] ∧
      AllRows W a n C R ∧ (∀ j, j < 5 → n j ≤ 4000000000000) ∧ Flows W (a 0) (n 0) L := by
  obtain ⟨fuel, hf⟩ := h
  obtain ⟨fs, hu, h1, h2, h5, ht⟩ : ∃ fs, Try.prog.underlying 75 = some (.struct fs) ∧ oneCellFields Try.prog fs = true ∧ Try.prog.cellsOf 75 = fs.size ∧ fs.size = 5 ∧
    (fs.toList.map (·.type)) = [69, 70, 71, 72, 73] := ⟨_, Try.underlying75, by kernel_rfl, by kernel_rfl, by kernel_rfl, by kernel_rfl⟩
  obtain ⟨cs, rfl, hcs⟩ := okWide_struct hu hv
  have hf : DataW.trod enc Try.prog W base spare held fuel 75 cs.toList = some (d, p) := by
    rw [show (Value.agg cs).cells = cs from by unfold Value.cells; rfl] at hf
    exact hf
  have hcl : cs.toList.length = 5 := by rw [Array.length_toList, hcs, h2, h5]
  have hty : ∀ j (hj : j < 5), ∃ f, fs[j]? = some f ∧ some f.type = ([69, 70, 71, 72, 73] : List TypeId)[j]? := fun j hj => by
    refine ⟨fs[j]'(by omega), Array.getElem?_eq_getElem (by omega), ?_⟩
    rw [← ht]
    simp [h5, hj]
  obtain ⟨f0, g0, t0⟩ := hty 0 (by omega)
  obtain ⟨f1, g1, t1⟩ := hty 1 (by omega)
  obtain ⟨f2, g2, t2⟩ := hty 2 (by omega)
  obtain ⟨f3, g3, t3⟩ := hty 3 (by omega)
  obtain ⟨f4, g4, t4⟩ := hty 4 (by omega)
  obtain ⟨v0, z0, k0, c0, r0, w0⟩ := arg_sized hu h1 h2 hf 0 f0 g0
  obtain ⟨v1, z1, k1, c1, r1, w1⟩ := arg_sized hu h1 h2 hf 1 f1 g1
  obtain ⟨v2, z2, k2, c2, r2, w2⟩ := arg_sized hu h1 h2 hf 2 f2 g2
  obtain ⟨v3, z3, k3, c3, r3, w3⟩ := arg_sized hu h1 h2 hf 3 f3 g3
  obtain ⟨v4, z4, k4, c4, r4, w4⟩ := arg_sized hu h1 h2 hf 4 f4 g4
  simp only [List.getElem?_cons_zero, List.getElem?_cons_succ, Option.some.injEq] at t0 t1 t2 t3 t4
  rw [t0] at r0 w0
  rw [t1] at r1 w1
  rw [t2] at r2 w2
  rw [t3] at r3 w3
  rw [t4] at r4 w4
  have r0' := r0
  obtain ⟨a0, n0, p0, C0, rfl, b0', o0, R0, q0⟩ := rowsFlow r0 (fun m hm => hz m (w0 m hm))
  obtain ⟨a1, n1, p1, C1, rfl, b1, o1, R1, q1⟩ := rowsBreak r1 (fun m hm => hz m (w1 m hm))
  obtain ⟨a2, n2, p2, C2, rfl, b2, o2, R2, q2⟩ := rowsHot r2 (fun m hm => hz m (w2 m hm))
  obtain ⟨a3, n3, p3, C3, rfl, b3, o3⟩ := rowsSystem r3 (fun m hm => hz m (w3 m hm))
  obtain ⟨a4, n4, p4, C4, rfl, b4, o4, R4, q4⟩ := rowsAuthority r4 (fun m hm => hz m (w4 m hm))
  obtain ⟨_, L, hL⟩ := flows_of (a0 := a0) (len0 := n0) (cap0 := p0) ⟨k0, by simpa [Value.cells] using r0'⟩
  refine ⟨(fun | 0 => a0 | 1 => a1 | 2 => a2 | 3 => a3 | _ => a4), (fun | 0 => n0 | 1 => n1 | 2 => n2 | 3 => n3 | _ => n4), (fun | 0 => p0 | 1 => p1 | 2 => p2 | 3 => p3 | _ => p4), (fun | 0 => C0 | 1 => C1 | 2 => C2 | 3 => C3 | _ => C4), (fun | 0 => R0 | 1 => R1 | 2 => R2 | 3 => fun _ => ⟨#[]⟩ | _ => R4), L, ?_, ?_, ?_, hL⟩
  · congr 1
    apply Array.ext'
    match hl : cs.toList, hcl with
    | [x0, x1, x2, x3, x4], _ =>
      rw [hl] at c0 c1 c2 c3 c4
      simp at c0 c1 c2 c3 c4
      simp [c0, c1, c2, c3, c4]
  · intro j hj
    match j, hj with
    | 0, _ => exact ⟨o0, fun _ => q0⟩
    | 1, _ => exact ⟨o1, fun _ => q1⟩
    | 2, _ => exact ⟨o2, fun _ => q2⟩
    | 3, _ => exact ⟨o3, fun h => absurd rfl h⟩
    | 4, _ => exact ⟨o4, fun _ => q4⟩
    | k + 5, h => omega
  · intro j hj
    match j, hj with
    | 0, _ => exact b0'
    | 1, _ => exact b1
    | 2, _ => exact b2
    | 3, _ => exact b3
    | 4, _ => exact b4
    | k + 5, h => omega

set_option maxRecDepth 100000 in
theorem asked_of {H : Type} {enc : TypeId × Value → H} {W : World} {base b0 : Nat} {r : Reach} {spare : Nat → Bool} {held : Bool} {v : Value} {d : DataW H} {p : List MemPlace}
    (hv : Value.okWide Try.prog W r b0 104 v) (h : DataW.Trod enc Try.prog W base spare held 104 v d p) :
    ∃ (kd : Nat) (s o : ByteArray) (x : Int), kd < 256 ∧ v = .agg #[.int .u8 kd, .string s, .string o, .int .i64 x] := by
  obtain ⟨fuel, hf⟩ := h
  obtain ⟨fs, hu, h1, h2, h5, ht⟩ : ∃ fs, Try.prog.underlying 104 = some (.struct fs) ∧ oneCellFields Try.prog fs = true ∧ Try.prog.cellsOf 104 = fs.size ∧ fs.size = 4 ∧
    (fs.toList.map (·.type)) = [79, 9, 9, 3] := ⟨_, Try.underlying104, by kernel_rfl, by kernel_rfl, by kernel_rfl, by kernel_rfl⟩
  obtain ⟨cs, rfl, hcs⟩ := okWide_struct hu hv
  have hf : DataW.trod enc Try.prog W base spare held fuel 104 cs.toList = some (d, p) := by
    rw [show (Value.agg cs).cells = cs from by unfold Value.cells; rfl] at hf
    exact hf
  have hcl : cs.toList.length = 4 := by rw [Array.length_toList, hcs, h2, h5]
  have hty : ∀ j (hj : j < 4), ∃ f, fs[j]? = some f ∧ some f.type = ([79, 9, 9, 3] : List TypeId)[j]? := fun j hj => by
    refine ⟨fs[j]'(by omega), Array.getElem?_eq_getElem (by omega), ?_⟩
    rw [← ht]
    simp [h5, hj]
  obtain ⟨f0, g0, t0⟩ := hty 0 (by omega)
  obtain ⟨f1, g1, t1⟩ := hty 1 (by omega)
  obtain ⟨f2, g2, t2⟩ := hty 2 (by omega)
  obtain ⟨f3, g3, t3⟩ := hty 3 (by omega)
  obtain ⟨v0, z0, k0, c0, r0, _⟩ := arg_sized hu h1 h2 hf 0 f0 g0
  obtain ⟨v1, z1, k1, c1, r1, _⟩ := arg_sized hu h1 h2 hf 1 f1 g1
  obtain ⟨v2, z2, k2, c2, r2, _⟩ := arg_sized hu h1 h2 hf 2 f2 g2
  obtain ⟨v3, z3, k3, c3, r3, _⟩ := arg_sized hu h1 h2 hf 3 f3 g3
  simp only [List.getElem?_cons_zero, List.getElem?_cons_succ, Option.some.injEq] at t0 t1 t2 t3
  rw [t0] at r0
  rw [t1] at r1
  rw [t2] at r2
  rw [t3] at r3
  obtain ⟨m0, e0, _, w0⟩ := DataW.trod_int Try.underlying79 r0
  have hk : ∃ m : Nat, m0 = m ∧ m < 256 := by
    simp [Lit.wf, IntKind.min, IntKind.max, IntKind.bits, IntKind.signed] at w0
    exact ⟨m0.toNat, by omega, by omega⟩
  obtain ⟨n0, rfl, hlt⟩ := hk
  obtain ⟨n1, e1, _, _⟩ := DataW.trod_string Try.underlying9 r1
  obtain ⟨n2, e2, _, _⟩ := DataW.trod_string Try.underlying9 r2
  obtain ⟨n3, e3, _, _⟩ := DataW.trod_int Try.underlying3 r3
  simp only [List.cons.injEq, and_true] at e0 e1 e2 e3
  subst e0 e1 e2 e3
  refine ⟨n0, n1, n2, n3, hlt, ?_⟩
  congr 1
  apply Array.ext'
  match hl : cs.toList, hcl with
  | [x0, x1, x2, x3], _ =>
    rw [hl] at c0 c1 c2 c3
    simp at c0 c1 c2 c3
    simp [c0, c1, c2, c3]

theorem main {W : World} (a : Nat → Option Addr) (n cap : Nat → Nat) (C : Nat → Nat → Nat → Value) (R : Nat → Nat → ByteArray) (L : Nat → Flow) (HR : AllRows W a n C R) (HN : ∀ j, j < 5 → n j ≤ 4000000000000) (HF : Flows W (a 0) (n 0) L) (kd : Nat) (s o : ByteArray) (x : Int) (hkd : kd < 256) :
    Calls Try.prog 7 #[.agg #[.slice (a 0) (n 0) (cap 0), .slice (a 1) (n 1) (cap 1), .slice (a 2) (n 2) (cap 2), .slice (a 3) (n 3) (cap 3), .slice (a 4) (n 4) (cap 4)], .agg #[.int .u8 kd, .string s, .string o, .int .i64 x]] W fun e w' => e = .returned (.bool true) ∧ Below W.heap.size W w' :=
  of_core a n cap C R L kd hkd s o x W (hid HR) (hid HN) (hid HF)

end Go.Proofs.Ytcedbgoopolmdaa.RulR
