/- whatever the rule and the calls, a look tells what a taking does, and changes nothing -/
import Derived.Test.YtbihelpnojjacaaGreatJHb
import Derived.Test.YtbihelpnojjacaaGreatOpn
import Derived.Test.YtbihelpnojjacaaGreatRows
import Derived.WalkKit
import Derived.ProofKit
import Derived.OpenShut
import Derived.ShutString
import Derived.ChangeOld
import Derived.Below
import Derived.SizedLaws
import Derived.ChangeShapes

/- HotLooks: the law's walk. -/
namespace Go.Proofs.YtbihelpnojjacaaGreat.HotO
open Go.ChangeShapes Go.WideShapes Go.ChangeAt Go.RowKit Go.Deep Base Wri Map LruA LruB LruC LruD LruE LruF HotA HotB HotC HotD HotE HotF HotG HotH HotI HotJ HotK HotL HotM HotN RulA
set_option linter.unusedVariables false
variable {w w' : World} {own : Nat → Tg} {C : HC} {last : Nat} {L L' : List Ent} {K K' : List KW} {Z Z' : SK}

/-- a deed -/
structure Dd where
  kind : Int
  t : Int
  s : ByteArray
  n : Int
def DeAt (w : World) (a : Option Addr) (n : Nat) (g : Nat → Dd) : Prop := 0 < n → ∃ b o, a = some ⟨b, o, none⟩ ∧ b < w.heap.size ∧ ∀ i, i < n → w.cell? ⟨b, o + i * 4, none⟩ = some (.int .i64 (g i).kind) ∧ w.cell? ⟨b, o + i * 4 + 1, none⟩ = some (.int .i64 (g i).t) ∧ w.cell? ⟨b, o + i * 4 + 2, none⟩ = some (.string (g i).s) ∧ w.cell? ⟨b, o + i * 4 + 3, none⟩ = some (.int .i64 (g i).n)

/-- a rule at work beside a law's own memory -/
structure At (w0 : World) (C : HC) (wr : World) : Prop where
  ex : ∃ own last L K Z, HMem wr own C last L K Z ∧ Same L K ∧ ∀ k, k < w0.heap.size → own k = .non
  bel : Below w0.heap.size w0 wr

theorem At.below {w0 w w' : World} (h : At w0 C w) (hb : Below w.heap.size w w') : At w0 C w' := by
  obtain ⟨own, last, L, K, Z, hM, hs, ho⟩ := h.ex
  exact ⟨⟨own, last, L, K, Z, hM.below hb, hs, ho⟩, h.bel.trans (hb.mono h.bel.size)⟩

/-- what is used, if anything may be asked -/
theorem us_of (h : HMem w own C last L K Z) (t : Int) (s : ByteArray) (n : Int) : ∃ u : Nat, hotE last t (noC n) s.size = 0 → Us C K Z t.toNat s u ∧ u ≤ 4611686018427387904 := by
  obtain ⟨u, h1, h2⟩ := us_some h t.toNat s
  exact ⟨u, fun _ => ⟨h1, h2⟩⟩

/-- Look twice and Take say the same -/
theorem At.same {w0 : World} (h : At w0 C w) (t : Int) (s : ByteArray) (hs : s.size ≤ maxLen) (n : Int) : ∃ (b : Bool) (r : Int),
    (∀ wx, Below w.heap.size w wx → Calls Tryz.prog 22 #[.pointer (some ⟨C.h, 0, none⟩), .int .i64 t, .string s, .int .i64 n] wx fun e w' => e = .returned (.tuple #[.bool b, .int .i64 r]) ∧ Below wx.heap.size wx w') ∧
    (∀ wx, Below w.heap.size w wx → Calls Tryz.prog 20 #[.pointer (some ⟨C.h, 0, none⟩), .int .i64 t, .string s, .int .i64 n] wx fun e w' => e = .returned (.tuple #[.bool b, .int .i64 r]) ∧ At w0 C w') := by
  obtain ⟨own, last, L, K, Z, hM, hsm, ho⟩ := h.ex
  obtain ⟨u, hu⟩ := us_of hM t s n
  refine ⟨letB C last t s n u, hotE last t (noC n) s.size, fun wx hb => HMem.Look (hM.below hb) t s hs n u hu, fun wx hb => ?_⟩
  refine (HMem.Take (hM.below hb) hsm t s hs n u hu).mono fun e w' h2 => ⟨h2.1, ?_⟩
  obtain ⟨own', last', L', K', Z', hM', hsm', hst, -⟩ := h2.2
  have hB : w0.heap.size ≤ wx.heap.size := Nat.le_trans h.bel.size hb.size
  exact ⟨⟨own', last', L', K', Z', hM', hsm', fun k hk => (hst.tag k (by omega)).trans (ho k hk)⟩, (h.bel.trans (hb.mono h.bel.size)).trans (step_below hst hB ho)⟩

set_option maxRecDepth 20000 in
set_option maxHeartbeats 4000000 in
theorem looks_core (res : ByteArray) (hres : res.size ≤ maxLen) (idx cnt sec : Int) (a : Option Addr) (n cap : Nat) (keys : Int) (seed : Nat) (f : Nat → Itm) (al : Option Addr) (nl cl : Nat) (g : Nat → Dd) (w : World) (hI : ItAt w a n f) (hfit : ∀ i, i < n → (f i).1.size ≤ maxLen) (hD : DeAt w al nl g) (hfit2 : ∀ i, i < nl → (g i).s.size ≤ maxLen) :
    Calls Tryz.prog 5 #[.agg #[.string res, .int .i64 idx, .int .i64 cnt, .int .i64 sec, .slice a n cap, .int .i64 keys, .int .u64 seed], .slice al nl cl] w fun e w' => e = .returned (.bool true) ∧ Below w.heap.size w w' := by
  have hb0 : Below w.heap.size w (w.alloc (.cells #[.string res, .int .i64 idx, .int .i64 cnt, .int .i64 sec, .slice a n cap, .int .i64 keys, .int .u64 seed] 27)) := (Below.refl _ _).alloc (Nat.le_refl _) _
  have HN := hid (New_any res hres idx cnt sec a n cap keys seed f _ (hI.below hb0) hfit)
  have HB0 := hid hb0
  have HD := hid (And.intro hD hfit2)
  have HL := hid live_any
  clear hb0 hI hfit hD hfit2
  go_enter Tryz.func5, Tryz.ntmps5
  go_wp2_with fail
  refine HN.out.mono ?_
  rintro e w1 h
  rcases h with ⟨r, hr, rfl, hb1⟩ | ⟨k, q, -, -, -, -, -, C, own, rfl, hM, hown, -, -, -, -, -, hb1⟩
  · have n0 : (r == 0) = false := by simpa using hr
    have HB1 := hid (bl HB0.out hb1)
    clear hb1 HN
    go_wp2_with fail
    refine (HL.out _).mono ?_
    rintro e w2 ⟨rfl, hb2⟩
    have HB2 := hid (bl HB1.out hb2)
    clear hb2
    go_wp2_with fail
    go_ret
    exact ⟨rfl, HB2.out⟩
  · have HA := hid (show At w C w1 from ⟨⟨own, 0, [], [], Z0, hM, HMem.new_same, fun k hk => hown k (Nat.lt_of_lt_of_le hk HB0.out.size)⟩, bl HB0.out hb1⟩)
    clear hM hown hb1 HN
    generalize hCh : C.h = ch at *
    have HCh := hid hCh
    clear hCh
    go_wp2_with fail
    go_loopw [7] (fun i wr => ∃ k : Nat, k ≤ nl ∧ i = .int .i64 k ∧ At w C wr) (fun i _ => nl - (intOf i).toNat)
    case atStart => exact ⟨0, Nat.zero_le _, rfl, HA.out⟩
    case round =>
      obtain ⟨k, hk, rfl, hA⟩ := hrel
      have HAt := hid hA
      clear hA
      by_cases hlt : k < nl
      · have hki : (k : Int) < nl := by omega
        have hki0 : (0 : Int) ≤ k := by omega
        by_cases h80 : k < 80
        · have h80i : (k : Int) < 80 := by omega
          obtain ⟨b, o, rfl, hb, hc⟩ := HD.out.1 (by omega)
          obtain ⟨p0, p1, p2, p3⟩ := hc k hlt
          have hfk := HD.out.2 k hlt
          have hbB := HAt.out.bel
          have c0 := (hbB.cell (p := ⟨b, o + k * 4, none⟩) hb).trans p0
          have c1 := (hbB.cell (p := ⟨b, o + k * 4 + 1, none⟩) hb).trans p1
          have c2 := (hbB.cell (p := ⟨b, o + k * 4 + 2, none⟩) hb).trans p2
          have c3 := (hbB.cell (p := ⟨b, o + k * 4 + 3, none⟩) hb).trans p3
          have hbl : b < wr.heap.size := Nat.lt_of_lt_of_le hb hbB.size
          obtain ⟨⟨kd, t, s, m⟩, hgk⟩ : ∃ x, g k = x := ⟨_, rfl⟩
          rw [hgk] at c0 c1 c2 c3 hfk
          dsimp only at c0 c1 c2 c3 hfk
          have hbx : Below wr.heap.size wr (wr.alloc (.cells #[.int .i64 kd, .int .i64 t, .string s, .int .i64 m] 41)) := (Below.refl _ _).alloc (Nat.le_refl _) _
          have hxx : (wr.alloc (.cells #[.int .i64 kd, .int .i64 t, .string s, .int .i64 m] 41)).heap[wr.heap.size]? = some (.cells #[.int .i64 kd, .int .i64 t, .string s, .int .i64 m] 41) := heap_alloc_new _ _
          obtain ⟨bb, rr, hLk, hTk⟩ := HAt.out.same t s hfk m
          rw [HCh.out] at hLk hTk
          have HS := hid (And.intro hLk hTk)
          have HX := hid (And.intro hbx hxx)
          have HL1 := hid (hLk _ hbx)
          clear p0 p1 p2 p3 hc hfk hbB hb hgk hbx hxx hLk hTk
          go_wp2_with fail
          refine HL1.out.mono ?_
          rintro e w2 ⟨rfl, hb2⟩
          obtain ⟨hbx, hxx⟩ := HX.out
          have hb2' := bl hbx hb2
          have hx2 := (hb2.block _ (Array.getElem?_eq_some_iff.1 hxx).1).trans hxx
          have d1 : w2.cell? ⟨wr.heap.size, 1, none⟩ = some (.int .i64 t) := cell_of hx2 1 _ rfl
          have d2 : w2.cell? ⟨wr.heap.size, 2, none⟩ = some (.string s) := cell_of hx2 2 _ rfl
          have d3 : w2.cell? ⟨wr.heap.size, 3, none⟩ = some (.int .i64 m) := cell_of hx2 3 _ rfl
          have HL2 := hid (HS.out.1 _ hb2')
          have HX2 := hid (And.intro hb2' hx2)
          clear hbx hxx hb2' hx2 hb2 HX HL1 c0 c1 c2 c3 hbl
          go_wp2_with fail
          refine HL2.out.mono ?_
          rintro e w3 ⟨rfl, hb3⟩
          obtain ⟨hb2', hx2⟩ := HX2.out
          have hb3' := bl hb2' hb3
          have hx3 := (hb3.block _ (Array.getElem?_eq_some_iff.1 hx2).1).trans hx2
          have e1 : w3.cell? ⟨wr.heap.size, 1, none⟩ = some (.int .i64 t) := cell_of hx3 1 _ rfl
          have e2 : w3.cell? ⟨wr.heap.size, 2, none⟩ = some (.string s) := cell_of hx3 2 _ rfl
          have e3 : w3.cell? ⟨wr.heap.size, 3, none⟩ = some (.int .i64 m) := cell_of hx3 3 _ rfl
          have HT := hid (HS.out.2 _ hb3')
          clear hb2' hx2 hb3' hx3 hb3 HX2 HL2 d1 d2 d3
          go_wp2_with fail
          refine HT.out.mono ?_
          rintro e w4 ⟨rfl, hA4⟩
          have HA4 := hid hA4
          clear hA4 HT e1 e2 e3
          go_wp2_with fail
          go_roundw
          case rel => exact ⟨k + 1, hlt, by go_num, HA4.out⟩
          case measure => simp [intOf]; omega
        · have h80i : ¬ (k : Int) < 80 := by omega
          have HBw := hid HAt.out.bel
          go_wp2_with fail
          refine (HL.out _).mono ?_
          rintro e w2 ⟨rfl, hb2⟩
          have HB2 := hid (bl HBw.out hb2)
          clear hb2
          go_wp2_with fail
          go_ret
          exact ⟨rfl, HB2.out⟩
      · obtain rfl : k = nl := by omega
        have HBw := hid HAt.out.bel
        go_wp2_with fail
        refine (HL.out _).mono ?_
        rintro e w2 ⟨rfl, hb2⟩
        have HB2 := hid (bl HBw.out hb2)
        clear hb2
        go_wp2_with fail
        go_ret
        exact ⟨rfl, HB2.out⟩

end Go.Proofs.YtbihelpnojjacaaGreat.HotO

/- Settings and lists of deeds as arguments; HotLooks' main. -/
namespace Go.Proofs.YtbihelpnojjacaaGreat.HotP
open Go.ChangeShapes Go.WideShapes Go.ChangeAt Go.RowKit Go.Deep Base Wri Map Opn HotJ HotO
set_option linter.unusedVariables false
variable {H : Type} {enc : TypeId × Value → H} {W : World} {base : Nat} {spare : Nat → Bool} {held : Bool}

theorem slice_shape {t e : TypeId} {k : Nat} {v : Value} {z : DataW H × List MemPlace} (ht : Tryz.prog.underlying t = some (.slice e)) (h : DataW.trod enc Tryz.prog W base spare held k t [v] = some z) : ∃ a n c, v = .slice a n c := by
  rcases open_slice ht h with ⟨hn, _⟩ | ⟨a, l, c, m, n, D, Pl, hcs, _⟩
  · simp at hn; exact ⟨none, 0, 0, hn⟩
  · simp at hcs; exact ⟨_, _, _, hcs⟩

theorem ty_at {fs : Array Field} {n : Nat} {TL : List TypeId} (h5 : fs.size = n) (ht : fs.toList.map (·.type) = TL) (j : Nat) (hj : j < n) : ∃ f, fs[j]? = some f ∧ some f.type = TL[j]? := by
  refine ⟨fs[j]'(by omega), Array.getElem?_eq_getElem (by omega), ?_⟩
  rw [← ht]
  simp [h5, hj]

theorem spot_of {a : Addr} {v : Value} (h : W.cell? (a.add 0) = some v) : ∃ b o, a = ⟨b, o, none⟩ ∧ b < W.heap.size := by
  obtain ⟨b, off, spot⟩ := a
  have hspot : spot = none := by simpa [Addr.add] using World.cell?_spot h
  subst hspot
  exact ⟨b, off, rfl, World.block_lt_of_cell? _ _ h⟩

theorem under_item : ∃ fs, Tryz.prog.underlying 52 = some (.struct fs) ∧ oneCellFields Tryz.prog fs = true ∧ Tryz.prog.cellsOf 52 = fs.size ∧ fs.size = 2 ∧ fs.toList.map (·.type) = [9, 3] := ⟨_, Tryz.underlying52, by kernel_rfl, by kernel_rfl, by kernel_rfl, by kernel_rfl⟩

theorem items_of {k : Nat} {v : Value} {z : DataW H × List MemPlace} (h : DataW.trod enc Tryz.prog W base spare held k 22 [v] = some z) :
    ∃ (a : Option Addr) (n c : Nat) (f : Nat → Itm), v = .slice a n c ∧ ItAt W a n f ∧ ∀ i, i < n → (f i).1.size ≤ maxLen := by
  obtain ⟨a0, n, c, rfl⟩ := slice_shape Tryz.underlying22 h
  obtain ⟨fs, hu, h1, h2, h5, ht⟩ := under_item
  rcases row_at Tryz.underlying22 hu h1 h2 h with ⟨rfl, rfl⟩ | ⟨a, rfl, hl, hm, hi⟩
  · exact ⟨none, 0, c, fun _ => (⟨#[]⟩, 0), rfl, fun h0 => by omega, fun i hi => by omega⟩
  · have each : ∀ i, i < n → ∃ x : Itm, (W.cell? (a.add (i * 2)) = some (.string x.1) ∧ W.cell? (a.add (i * 2 + 1)) = some (.int .i64 x.2)) ∧ x.1.size ≤ maxLen := by
      intro i hil
      obtain ⟨f0, g0, t0⟩ := ty_at h5 ht 0 (by omega)
      obtain ⟨f1, g1, t1⟩ := ty_at h5 ht 1 (by omega)
      obtain ⟨v0, z0, k0, c0, r0⟩ := hi i hil 0 f0 g0
      obtain ⟨v1, z1, k1, c1, r1⟩ := hi i hil 1 f1 g1
      simp only [List.getElem?_cons_zero, List.getElem?_cons_succ, Option.some.injEq] at t0 t1
      rw [t0] at r0
      rw [t1] at r1
      obtain ⟨n0, e0, _, q0⟩ := DataW.trod_string Tryz.underlying9 r0
      obtain ⟨n1, e1, _, _⟩ := DataW.trod_int Tryz.underlying3 r1
      simp only [List.cons.injEq, and_true] at e0 e1
      subst e0 e1
      rw [h5] at c0 c1
      exact ⟨(n0, n1), ⟨c0, c1⟩, q0⟩
    obtain ⟨f, hf⟩ := choose2 (⟨#[]⟩, 0) each
    refine ⟨some a, n, c, f, rfl, fun h0 => ?_, fun i hi => (hf i hi).2⟩
    have h00 := (hf 0 h0).1.1
    rw [Nat.zero_mul] at h00
    obtain ⟨b, o, rfl, hb⟩ := spot_of h00
    refine ⟨b, o, rfl, hb, fun i hil => ?_⟩
    have h3 := (hf i hil).1
    rw [Go.WideShapes.add_plain, Go.WideShapes.add_plain, ← Nat.add_assoc] at h3
    exact h3

theorem under_deed : ∃ fs, Tryz.prog.underlying 41 = some (.struct fs) ∧ oneCellFields Tryz.prog fs = true ∧ Tryz.prog.cellsOf 41 = fs.size ∧ fs.size = 4 ∧ fs.toList.map (·.type) = [3, 3, 9, 3] := ⟨_, Tryz.underlying41, by kernel_rfl, by kernel_rfl, by kernel_rfl, by kernel_rfl⟩

theorem deeds_of {a0 : Option Addr} {n c : Nat} {d : DataW H} {p : List MemPlace} (h : DataW.Trod enc Tryz.prog W base spare held 28 (.slice a0 n c) d p) :
    ∃ g : Nat → Dd, DeAt W a0 n g ∧ ∀ i, i < n → (g i).s.size ≤ maxLen := by
  obtain ⟨fuel, hf⟩ := h
  have hf : DataW.trod enc Tryz.prog W base spare held fuel 28 [.slice a0 n c] = some (d, p) := by
    rw [show (Value.slice a0 n c).cells = #[.slice a0 n c] from by simp [Value.cells]] at hf
    exact hf
  obtain ⟨fs, hu, h1, h2, h5, ht⟩ := under_deed
  rcases row_at Tryz.underlying28 hu h1 h2 hf with ⟨rfl, rfl⟩ | ⟨a, rfl, hl, hm, hi⟩
  · exact ⟨fun _ => ⟨0, 0, ⟨#[]⟩, 0⟩, fun h0 => by omega, fun i hi => by omega⟩
  · have each : ∀ i, i < n → ∃ x : Dd, (W.cell? (a.add (i * 4)) = some (.int .i64 x.kind) ∧ W.cell? (a.add (i * 4 + 1)) = some (.int .i64 x.t) ∧ W.cell? (a.add (i * 4 + 2)) = some (.string x.s) ∧ W.cell? (a.add (i * 4 + 3)) = some (.int .i64 x.n)) ∧ x.s.size ≤ maxLen := by
      intro i hil
      obtain ⟨f0, g0, t0⟩ := ty_at h5 ht 0 (by omega)
      obtain ⟨f1, g1, t1⟩ := ty_at h5 ht 1 (by omega)
      obtain ⟨f2, g2, t2⟩ := ty_at h5 ht 2 (by omega)
      obtain ⟨f3, g3, t3⟩ := ty_at h5 ht 3 (by omega)
      obtain ⟨v0, z0, k0, c0, r0⟩ := hi i hil 0 f0 g0
      obtain ⟨v1, z1, k1, c1, r1⟩ := hi i hil 1 f1 g1
      obtain ⟨v2, z2, k2, c2, r2⟩ := hi i hil 2 f2 g2
      obtain ⟨v3, z3, k3, c3, r3⟩ := hi i hil 3 f3 g3
      simp only [List.getElem?_cons_zero, List.getElem?_cons_succ, Option.some.injEq] at t0 t1 t2 t3
      rw [t0] at r0
      rw [t1] at r1
      rw [t2] at r2
      rw [t3] at r3
      obtain ⟨n0, e0, _, _⟩ := DataW.trod_int Tryz.underlying3 r0
      obtain ⟨n1, e1, _, _⟩ := DataW.trod_int Tryz.underlying3 r1
      obtain ⟨n2, e2, _, q2⟩ := DataW.trod_string Tryz.underlying9 r2
      obtain ⟨n3, e3, _, _⟩ := DataW.trod_int Tryz.underlying3 r3
      simp only [List.cons.injEq, and_true] at e0 e1 e2 e3
      subst e0 e1 e2 e3
      rw [h5] at c0 c1 c2 c3
      exact ⟨⟨n0, n1, n2, n3⟩, ⟨c0, c1, c2, c3⟩, q2⟩
    obtain ⟨f, hf⟩ := choose2 ⟨0, 0, ⟨#[]⟩, 0⟩ each
    refine ⟨f, fun h0 => ?_, fun i hi => (hf i hi).2⟩
    have h00 := (hf 0 h0).1.1
    rw [Nat.zero_mul] at h00
    obtain ⟨b, o, rfl, hb⟩ := spot_of h00
    refine ⟨b, o, rfl, hb, fun i hil => ?_⟩
    have h3 := (hf i hil).1
    rw [Go.WideShapes.add_plain, Go.WideShapes.add_plain, Go.WideShapes.add_plain, Go.WideShapes.add_plain, ← Nat.add_assoc, ← Nat.add_assoc, ← Nat.add_assoc] at h3
    exact h3

theorem under_hot : ∃ fs, Tryz.prog.underlying 24 = some (.struct fs) ∧ oneCellFields Tryz.prog fs = true ∧ Tryz.prog.cellsOf 24 = fs.size ∧ fs.size = 5 ∧ fs.toList.map (·.type) = [9, 3, 3, 3, 22] := ⟨_, Tryz.underlying24, by kernel_rfl, by kernel_rfl, by kernel_rfl, by kernel_rfl⟩

theorem arg_at {P : Program} {w : World} {e : TypeId} {fs : Array Field} {n : Nat} {cs : List Value} {y : DataW H × List MemPlace} (he : P.underlying e = some (.struct fs)) (hone : oneCellFields P fs = true) (hC : P.cellsOf e = fs.size)
    (ht : DataW.trod enc P w base spare held n e cs = some y) (j : Nat) (f : Field) (hj : fs[j]? = some f) :
    ∃ v z k, cs[j]? = some v ∧ DataW.trod enc P w base spare held k f.type [v] = some z := by
  obtain ⟨xs, k, _, _, hlen, hxl, hg⟩ := DataW.trod_struct he ht
  obtain ⟨o1, o2⟩ := hone_of hone j f hj
  have hjs : j < fs.size := (Array.getElem?_eq_some_iff.1 hj).1
  have hjc : j < cs.length := by omega
  have hg := hg j f hj
  rw [o1, o2, List.drop_eq_getElem_cons hjc] at hg
  simp only [List.take_succ_cons, List.take_zero] at hg
  obtain ⟨z, hz⟩ : ∃ z, xs[j]? = some z := ⟨xs[j]'(by omega), List.getElem?_eq_getElem (by omega)⟩
  exact ⟨cs[j], z, k, List.getElem?_eq_getElem hjc, by rw [hg, hz]⟩

set_option maxRecDepth 100000 in
theorem hot_cells {n : Nat} {cs : List Value} {y : DataW H × List MemPlace} (hf : DataW.trod enc Tryz.prog W base spare held n 24 cs = some y) :
    ∃ (res : ByteArray) (idx cnt sec : Int) (a : Option Addr) (m c : Nat) (f : Nat → Itm), cs = [.string res, .int .i64 idx, .int .i64 cnt, .int .i64 sec, .slice a m c] ∧ res.size ≤ maxLen ∧ ItAt W a m f ∧ ∀ i, i < m → (f i).1.size ≤ maxLen := by
  obtain ⟨fs, hu, h1, h2, h5, ht⟩ := under_hot
  obtain ⟨_, _, _, _, hcl0, _, _⟩ := DataW.trod_struct hu hf
  have hcl : cs.length = 5 := by rw [hcl0, h2, h5]
  obtain ⟨f0, g0, t0⟩ := ty_at h5 ht 0 (by omega)
  obtain ⟨f1, g1, t1⟩ := ty_at h5 ht 1 (by omega)
  obtain ⟨f2, g2, t2⟩ := ty_at h5 ht 2 (by omega)
  obtain ⟨f3, g3, t3⟩ := ty_at h5 ht 3 (by omega)
  obtain ⟨f4, g4, t4⟩ := ty_at h5 ht 4 (by omega)
  obtain ⟨v0, z0, k0, c0, r0⟩ := arg_at hu h1 h2 hf 0 f0 g0
  obtain ⟨v1, z1, k1, c1, r1⟩ := arg_at hu h1 h2 hf 1 f1 g1
  obtain ⟨v2, z2, k2, c2, r2⟩ := arg_at hu h1 h2 hf 2 f2 g2
  obtain ⟨v3, z3, k3, c3, r3⟩ := arg_at hu h1 h2 hf 3 f3 g3
  obtain ⟨v4, z4, k4, c4, r4⟩ := arg_at hu h1 h2 hf 4 f4 g4
  simp only [List.getElem?_cons_zero, List.getElem?_cons_succ, Option.some.injEq] at t0 t1 t2 t3 t4
  rw [t0] at r0
  rw [t1] at r1
  rw [t2] at r2
  rw [t3] at r3
  rw [t4] at r4
  obtain ⟨n0, e0, _, q0⟩ := DataW.trod_string Tryz.underlying9 r0
  obtain ⟨n1, e1, _, _⟩ := DataW.trod_int Tryz.underlying3 r1
  obtain ⟨n2, e2, _, _⟩ := DataW.trod_int Tryz.underlying3 r2
  obtain ⟨n3, e3, _, _⟩ := DataW.trod_int Tryz.underlying3 r3
  obtain ⟨a, m, c, f, e4, q4, q5⟩ := items_of r4
  simp only [List.cons.injEq, and_true] at e0 e1 e2 e3
  subst e0 e1 e2 e3 e4
  refine ⟨n0, n1, n2, n3, a, m, c, f, ?_, q0, q4, q5⟩
  match cs, hcl with
  | [x0, x1, x2, x3, x4], _ =>
    simp at c0 c1 c2 c3 c4
    subst c0 c1 c2 c3 c4
    rfl

theorem under_set : ∃ fs : Array Field, Tryz.prog.underlying 27 = some (.struct fs) ∧ fs.size = 3 ∧ Tryz.prog.cellsOf 27 = 7 ∧ Tryz.prog.cellsOf 3 = 1 ∧ Tryz.prog.cellsOf 25 = 1 ∧ Tryz.prog.cellsOf 24 = 5 ∧
    (fs.toList.map fun f => (f.type, f.offset)) = [(24, 0), (3, 5), (25, 6)] := ⟨_, Tryz.underlying27, by kernel_rfl, by kernel_rfl, by kernel_rfl, by kernel_rfl, by kernel_rfl, by kernel_rfl⟩

set_option maxRecDepth 100000 in
theorem set_of {b0 : Nat} {r : Reach} {v : Value} {d : DataW H} {p : List MemPlace} (hv : Value.okWide Tryz.prog W r b0 27 v) (h : DataW.Trod enc Tryz.prog W base spare held 27 v d p) :
    ∃ (res : ByteArray) (idx cnt sec : Int) (a : Option Addr) (m c : Nat) (keys : Int) (seed : Nat) (f : Nat → Itm), v = .agg #[.string res, .int .i64 idx, .int .i64 cnt, .int .i64 sec, .slice a m c, .int .i64 keys, .int .u64 seed] ∧ res.size ≤ maxLen ∧ ItAt W a m f ∧ (∀ i, i < m → (f i).1.size ≤ maxLen) ∧ (Lit.int .i64 keys).wf = true ∧ seed < 18446744073709551616 := by
  obtain ⟨fuel, hf⟩ := h
  obtain ⟨fs, hu, hsz, hc7, hci, hcu, hch, hty0⟩ := under_set
  obtain ⟨cs, rfl, hcs⟩ := okWide_struct hu hv
  have hf : DataW.trod enc Tryz.prog W base spare held fuel 27 cs.toList = some (d, p) := by
    rw [show (Value.agg cs).cells = cs from by unfold Value.cells; rfl] at hf
    exact hf
  have hcl : cs.toList.length = 7 := by rw [Array.length_toList, hcs, hc7]
  obtain ⟨xs, k, _, _, hcl2, hxl, hg⟩ := DataW.trod_struct hu hf
  have hfield : ∀ (j : Nat) (T : TypeId) (off : Nat), ([(24, 0), (3, 5), (25, 6)] : List (TypeId × Nat))[j]? = some (T, off) → ∃ z, DataW.trod enc Tryz.prog W base spare held k T ((cs.toList.drop off).take (Tryz.prog.cellsOf T)) = some z := by
    intro j T off hj
    have hj3 : j < 3 := by have := (List.getElem?_eq_some_iff.1 hj).1; simpa using this
    have hf : fs[j]? = some (fs[j]'(by omega)) := Array.getElem?_eq_getElem (by omega)
    have ht : ((fs[j]'(by omega)).type, (fs[j]'(by omega)).offset) = (T, off) := by
      have h3 : (fs.toList.map fun f => (f.type, f.offset))[j]? = some (T, off) := by rw [hty0]; exact hj
      rw [List.getElem?_map, Array.getElem?_toList, hf] at h3
      exact Option.some.inj h3
    have hgj := hg j _ hf
    rw [(Prod.mk.inj ht).1, (Prod.mk.inj ht).2] at hgj
    have hjx : j < xs.length := by omega
    exact ⟨xs[j], by rw [hgj]; exact List.getElem?_eq_getElem hjx⟩
  obtain ⟨z0, r0⟩ := hfield 0 _ _ rfl
  obtain ⟨z1, r1⟩ := hfield 1 _ _ rfl
  obtain ⟨z2, r2⟩ := hfield 2 _ _ rfl
  rw [hch] at r0
  rw [hci] at r1
  rw [hcu] at r2
  obtain ⟨res, idx, cnt, sec, a, m, c, f, e0, q1, q2, q3⟩ := hot_cells r0
  obtain ⟨keys, e1, _, w1⟩ := DataW.trod_int Tryz.underlying3 r1
  obtain ⟨seed, e2, _, w2⟩ := DataW.trod_int Tryz.underlying25 r2
  have hw : 0 ≤ seed ∧ seed < 18446744073709551616 := by
    simp only [Lit.wf, Bool.and_eq_true, decide_eq_true_eq] at w2
    have e : IntKind.u64.min = 0 := by decide
    have e2 : IntKind.u64.max = 18446744073709551615 := by decide
    omega
  obtain ⟨sd, rfl⟩ : ∃ sd : Nat, seed = sd := ⟨seed.toNat, by omega⟩
  refine ⟨res, idx, cnt, sec, a, m, c, keys, sd, f, ?_, q1, q2, q3, w1, by omega⟩
  congr 1
  apply Array.ext'
  match hl : cs.toList, hcl with
  | [x0, x1, x2, x3, x4, x5, x6], _ =>
    rw [hl] at e0 e1 e2
    simp at e0 e1 e2
    obtain ⟨q1, q2, q3, q4, q5⟩ := e0
    subst q1 q2 q3 q4 q5 e1 e2
    rfl

/-- the law's main, of HotLooks -/
theorem main_looks (res : ByteArray) (idx cnt sec : Int) (a : Option Addr) (m c : Nat) (keys : Int) (seed : Nat) (f : Nat → Itm) (hres : res.size ≤ maxLen) (hI : ItAt W a m f) (hfit : ∀ i, i < m → (f i).1.size ≤ maxLen) (hk : (Lit.int .i64 keys).wf = true) (hsd : seed < 18446744073709551616)
    (al : Option Addr) (nl cl : Nat) {d : DataW H} {p : List MemPlace} (h : DataW.Trod enc Tryz.prog W base spare held 28 (.slice al nl cl) d p) :
    Calls Tryz.prog 5 #[.agg #[.string res, .int .i64 idx, .int .i64 cnt, .int .i64 sec, .slice a m c, .int .i64 keys, .int .u64 seed], .slice al nl cl] W fun e W' => e = .returned (.bool true) ∧ Below W.heap.size W W' := by
  obtain ⟨g, h1, h2⟩ := deeds_of h
  exact looks_core res hres idx cnt sec a m c keys seed f al nl cl g W hI hfit h1 h2

end Go.Proofs.YtbihelpnojjacaaGreat.HotP

namespace Go.Proofs.YtbihelpnojjacaaGreat.hotLooks
open Go.ChangeShapes Go.WideShapes Go.ChangeAt Go.RowKit Go.Deep
open Go.ChangeMaps (open_string shut_string)
set_option linter.unusedVariables false

theorem own : ownKnob Tryz.prog.godebug = none := by kernel_rfl
theorem laidOut : laidOutB Tryz.prog = true := by kernel_rfl

set_option maxRecDepth 100000 in
theorem lifted (os : Os) (started : os.Started) (H : Type) (enc : TypeId × Value → H) :
    ReturnsInHanded {} Tryz.checked os 5 .any (Rows.hotLooksSpec.pre6 enc Tryz.prog Tryz.f5 Rows.hotLooksRow.domain false) (Rows.hotLooksSpec.post enc Tryz.prog Tryz.f5 false true false false) := by
  refine returnsInHanded_of_change_sized (C := Tryz.checked) own started (by kernel_rfl) Tryz.func5
    (ChangeSpec.witness6 (enc := enc) (C := Tryz.checked) false ⟨#[], #[.agg #[.string ⟨#[]⟩, .int .i64 0, .int .i64 0, .int .i64 0, .slice none 0 0, .int .i64 0, .int .u64 0], .slice none 0 0], []⟩ 8 (by kernel_rfl) (by kernel_rfl) (by kernel_rfl) (by kernel_rfl)) ?_
  intro W base args ds gs before hval0 hW hcnd hsz0 _
  have hval : ∀ (j : Nat) t v, Tryz.f5.params[j]? = some t → args[j]? = some v → Value.okWide Tryz.prog W .any base t v := hval0
  have hW' := hW
  obtain ⟨p, q, hA0, hV, rfl, hfz, hnd⟩ := hW
  have hA : DataW.TrodAll enc Tryz.prog W 0 (fun _ => true) true Tryz.f5.params.toList args.toList ds p := hA0
  rw [Tryz.params5] at hA hval
  obtain ⟨v0, vs0, d0, ds0, p0, q0, hargs, rfl, rfl, h0, r0⟩ := trodAll_cons hA
  obtain ⟨v1, vs1, d1, ds1, p1, q1, rfl, rfl, rfl, h1, r1⟩ := trodAll_cons r0
  obtain ⟨rfl, rfl, rfl⟩ := trodAll_nil r1
  obtain rfl : args = #[v0, v1] := by cases args; simp_all
  obtain ⟨rfl, rfl⟩ := trodVars_none hV
  obtain ⟨res0, idx0, cnt0, sec0, a0, m0, c0, keys0, seed0, f0, rfl, hres0, hI0, hfit0, hk0, hsd0⟩ := HotP.set_of (hval 0 27 v0 rfl rfl) h0
  obtain ⟨a1, len1, cap1, rfl⟩ := okWide_slice Tryz.underlying28 (hval 1 28 v1 rfl rfl)
  have k0 := h0
  have lt0 : ∀ x ∈ p0, x.block < W.heap.size := by obtain ⟨m, hm⟩ := k0; exact DataW.trod_lt m _ _ _ hm
  have k1 := h1
  have lt1 : ∀ x ∈ p1, x.block < W.heap.size := by obtain ⟨m, hm⟩ := k1; exact DataW.trod_lt m _ _ _ hm
  clear hA0 hval0
  refine (HotP.main_looks res0 idx0 cnt0 sec0 a0 m0 c0 keys0 seed0 f0 hres0 hI0 hfit0 hk0 hsd0 a1 len1 cap1 h1).mono fun e W' ⟨he, bel⟩ => ?_
  subst he
  exact ⟨_, rfl, _, _, _, [], _, [], hW', trodAll_mk1 (shut_bool Tryz.underlying4 _), (trodAll_cons_mk (Below.trod laidOut (by kernel_rfl) (of_decide_eq_true (by kernel_rfl)) k0 bel lt0) (trodAll_cons_mk (Below.trod laidOut (by kernel_rfl) (of_decide_eq_true (by kernel_rfl)) k1 bel lt1) trodAll_mk0)), rfl, bel.frame _, fun h => by cases h⟩

theorem over : Rows.hotLooksRow.holds Tryz.pinned (OpenSpec.ofChange Rows.hotLooksSpec) :=
  OpenClaim.holds_of_wide 5 Tryz.f5 rfl rfl rfl rfl rfl rfl rfl ⟨rfl, rfl, rfl, rfl, rfl⟩ rfl rfl rfl rfl rfl (by kernel_rfl) Tryz.func5 (by kernel_rfl)
    (of_decide_eq_true (by kernel_rfl)) (by unfold Func.isWrapper; first | (rw [if_pos (by decide +kernel)]; kernel_rfl) | (rw [if_neg (by decide +kernel)]; exact ⟨rfl, rfl⟩))
    (fun os started H enc _ => lifted os started H enc)

theorem proved : Rows.HotLooksSaid := over
#print axioms proved
end Go.Proofs.YtbihelpnojjacaaGreat.hotLooks
