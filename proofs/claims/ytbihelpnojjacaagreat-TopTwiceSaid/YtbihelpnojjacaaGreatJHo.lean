/- HotBounds: a rule at work beside a list of what was taken. -/
import Derived.Test.YtbihelpnojjacaaGreatJHb
import Derived.Test.YtbihelpnojjacaaGreatOpn
import Derived.Maps.AppendAt

/- HotLooks: the law's walk. -/
namespace Go.Proofs.YtbihelpnojjacaaGreat.HotO
open Go.ChangeShapes Go.WideShapes Go.ChangeAt Go.RowKit Go.Deep Base Wri Map LruA LruB LruC LruD LruE LruF HotA HotB HotC HotD HotE HotF HotG HotH HotI HotJ HotK HotL HotM HotN RulA
set_option linter.unusedVariables false
variable {w w' : World} {own : Nat → Tg} {C : HC} {last : Nat} {L L' : List Ent} {K K' : List KW} {Z Z' : SK}

/-- a deed -/
structure Dd where
  kind : Int
  t : Int
  s : ByteArray
  n : Int
def DeAt (w : World) (a : Option Addr) (n : Nat) (g : Nat → Dd) : Prop := 0 < n → ∃ b o, a = some ⟨b, o, none⟩ ∧ b < w.heap.size ∧ ∀ i, i < n → w.cell? ⟨b, o + i * 4, none⟩ = some (.int .i64 (g i).kind) ∧ w.cell? ⟨b, o + i * 4 + 1, none⟩ = some (.int .i64 (g i).t) ∧ w.cell? ⟨b, o + i * 4 + 2, none⟩ = some (.string (g i).s) ∧ w.cell? ⟨b, o + i * 4 + 3, none⟩ = some (.int .i64 (g i).n)

/-- a rule at work beside a law's own memory -/
structure At (w0 : World) (C : HC) (wr : World) : Prop where
  ex : ∃ own last L K Z, HMem wr own C last L K Z ∧ Same L K ∧ ∀ k, k < w0.heap.size → own k = .non
  bel : Below w0.heap.size w0 wr

theorem At.below {w0 w w' : World} (h : At w0 C w) (hb : Below w.heap.size w w') : At w0 C w' := by
  obtain ⟨own, last, L, K, Z, hM, hs, ho⟩ := h.ex
  exact ⟨⟨own, last, L, K, Z, hM.below hb, hs, ho⟩, h.bel.trans (hb.mono h.bel.size)⟩

/-- what is used, if anything may be asked -/
theorem us_of (h : HMem w own C last L K Z) (t : Int) (s : ByteArray) (n : Int) : ∃ u : Nat, hotE last t (noC n) s.size = 0 → Us C K Z t.toNat s u ∧ u ≤ 4611686018427387904 := by
  obtain ⟨u, h1, h2⟩ := us_some h t.toNat s
  exact ⟨u, fun _ => ⟨h1, h2⟩⟩

/-- Look twice and Take say the same -/
theorem At.same {w0 : World} (h : At w0 C w) (t : Int) (s : ByteArray) (hs : s.size ≤ maxLen) (n : Int) : ∃ (b : Bool) (r : Int),
    (∀ wx, Below w.heap.size w wx → Calls Tryz.prog 22 #[.pointer (some ⟨C.h, 0, none⟩), .int .i64 t, .string s, .int .i64 n] wx fun e w' => e = .returned (.tuple #[.bool b, .int .i64 r]) ∧ Below wx.heap.size wx w') ∧
    (∀ wx, Below w.heap.size w wx → Calls Tryz.prog 20 #[.pointer (some ⟨C.h, 0, none⟩), .int .i64 t, .string s, .int .i64 n] wx fun e w' => e = .returned (.tuple #[.bool b, .int .i64 r]) ∧ At w0 C w') := by
  obtain ⟨own, last, L, K, Z, hM, hsm, ho⟩ := h.ex
  obtain ⟨u, hu⟩ := us_of hM t s n
  refine ⟨letB C last t s n u, hotE last t (noC n) s.size, fun wx hb => HMem.Look (hM.below hb) t s hs n u hu, fun wx hb => ?_⟩
  refine (HMem.Take (hM.below hb) hsm t s hs n u hu).mono fun e w' h2 => ⟨h2.1, ?_⟩
  obtain ⟨own', last', L', K', Z', hM', hsm', hst, -⟩ := h2.2
  have hB : w0.heap.size ≤ wx.heap.size := Nat.le_trans h.bel.size hb.size
  exact ⟨⟨own', last', L', K', Z', hM', hsm', fun k hk => (hst.tag k (by omega)).trans (ho k hk)⟩, (h.bel.trans (hb.mono h.bel.size)).trans (step_below hst hB ho)⟩

set_option maxRecDepth 20000 in
set_option maxHeartbeats 4000000 in
theorem looks_core (res : ByteArray) (hres : res.size ≤ maxLen) (idx cnt sec : Int) (a : Option Addr) (n cap : Nat) (keys : Int) (seed : Nat) (f : Nat → Itm) (al : Option Addr) (nl cl : Nat) (g : Nat → Dd) (w : World) (hI : ItAt w a n f) (hfit : ∀ i, i < n → (f i).1.size ≤ maxLen) (hD : DeAt w al nl g) (hfit2 : ∀ i, i < nl → (g i).s.size ≤ maxLen) :
    Calls Tryz.prog 5 #[.agg #[.string res, .int .i64 idx, .int .i64 cnt, .int .i64 sec, .slice a n cap, .int .i64 keys, .int .u64 seed], .slice al nl cl] w fun e w' => e = .returned (.bool true) ∧ Below w.heap.size w w' := by
  have hb0 : Below w.heap.size w (w.alloc (.cells #[.string res, .int .i64 idx, .int .i64 cnt, .int .i64 sec, .slice a n cap, .int .i64 keys, .int .u64 seed] 27)) := (Below.refl _ _).alloc (Nat.le_refl _) _
  have HN := hid (New_any res hres idx cnt sec a n cap keys seed f _ (hI.below hb0) hfit)
  have HB0 := hid hb0
  have HD := hid (And.intro hD hfit2)
  have HL := hid live_any
  clear hb0 hI hfit hD hfit2
  go_enter Tryz.func5, Tryz.ntmps5
  go_wp2_with fail
  refine HN.out.mono ?_
  rintro e w1 h
  rcases h with ⟨r, hr, rfl, hb1⟩ | ⟨k, q, -, -, -, -, -, C, own, rfl, hM, hown, -, -, -, -, -, hb1⟩
  · have n0 : (r == 0) = false := by simpa using hr
    have HB1 := hid (bl HB0.out hb1)
    clear hb1 HN
    go_wp2_with fail
    refine (HL.out _).mono ?_
    rintro e w2 ⟨rfl, hb2⟩
    have HB2 := hid (bl HB1.out hb2)
    clear hb2
    go_wp2_with fail
    go_ret
    exact ⟨rfl, HB2.out⟩
  · have HA := hid (show At w C w1 from ⟨⟨own, 0, [], [], Z0, hM, HMem.new_same, fun k hk => hown k (Nat.lt_of_lt_of_le hk HB0.out.size)⟩, bl HB0.out hb1⟩)
    clear hM hown hb1 HN
    generalize hCh : C.h = ch at *
    have HCh := hid hCh
    clear hCh
    go_wp2_with fail
    go_loopw [7] (fun i wr => ∃ k : Nat, k ≤ nl ∧ i = .int .i64 k ∧ At w C wr) (fun i _ => nl - (intOf i).toNat)
    case atStart => exact ⟨0, Nat.zero_le _, rfl, HA.out⟩
    case round =>
      obtain ⟨k, hk, rfl, hA⟩ := hrel
      have HAt := hid hA
      clear hA
      by_cases hlt : k < nl
      · have hki : (k : Int) < nl := by omega
        have hki0 : (0 : Int) ≤ k := by omega
        by_cases h80 : k < 80
        · have h80i : (k : Int) < 80 := by omega
          obtain ⟨b, o, rfl, hb, hc⟩ := HD.out.1 (by omega)
          obtain ⟨p0, p1, p2, p3⟩ := hc k hlt
          have hfk := HD.out.2 k hlt
          have hbB := HAt.out.bel
          have c0 := (hbB.cell (p := ⟨b, o + k * 4, none⟩) hb).trans p0
          have c1 := (hbB.cell (p := ⟨b, o + k * 4 + 1, none⟩) hb).trans p1
          have c2 := (hbB.cell (p := ⟨b, o + k * 4 + 2, none⟩) hb).trans p2
          have c3 := (hbB.cell (p := ⟨b, o + k * 4 + 3, none⟩) hb).trans p3
          have hbl : b < wr.heap.size := Nat.lt_of_lt_of_le hb hbB.size
          obtain ⟨⟨kd, t, s, m⟩, hgk⟩ : ∃ x, g k = x := ⟨_, rfl⟩
          rw [hgk] at c0 c1 c2 c3 hfk
          dsimp only at c0 c1 c2 c3 hfk
          have hbx : Below wr.heap.size wr (wr.alloc (.cells #[.int .i64 kd, .int .i64 t, .string s, .int .i64 m] 41)) := (Below.refl _ _).alloc (Nat.le_refl _) _
          have hxx : (wr.alloc (.cells #[.int .i64 kd, .int .i64 t, .string s, .int .i64 m] 41)).heap[wr.heap.size]? = some (.cells #[.int .i64 kd, .int .i64 t, .string s, .int .i64 m] 41) := heap_alloc_new _ _
          obtain ⟨bb, rr, hLk, hTk⟩ := HAt.out.same t s hfk m
          rw [HCh.out] at hLk hTk
          have HS := hid (And.intro hLk hTk)
          have HX := hid (And.intro hbx hxx)
          have HL1 := hid (hLk _ hbx)
          clear p0 p1 p2 p3 hc hfk hbB hb hgk hbx hxx hLk hTk
          go_wp2_with fail
          refine HL1.out.mono ?_
          rintro e w2 ⟨rfl, hb2⟩
          obtain ⟨hbx, hxx⟩ := HX.out
          have hb2' := bl hbx hb2
          have hx2 := (hb2.block _ (Array.getElem?_eq_some_iff.1 hxx).1).trans hxx
          have d1 : w2.cell? ⟨wr.heap.size, 1, none⟩ = some (.int .i64 t) := cell_of hx2 1 _ rfl
          have d2 : w2.cell? ⟨wr.heap.size, 2, none⟩ = some (.string s) := cell_of hx2 2 _ rfl
          have d3 : w2.cell? ⟨wr.heap.size, 3, none⟩ = some (.int .i64 m) := cell_of hx2 3 _ rfl
          have HL2 := hid (HS.out.1 _ hb2')
          have HX2 := hid (And.intro hb2' hx2)
          clear hbx hxx hb2' hx2 hb2 HX HL1 c0 c1 c2 c3 hbl
          go_wp2_with fail
          refine HL2.out.mono ?_
          rintro e w3 ⟨rfl, hb3⟩
          obtain ⟨hb2', hx2⟩ := HX2.out
          have hb3' := bl hb2' hb3
          have hx3 := (hb3.block _ (Array.getElem?_eq_some_iff.1 hx2).1).trans hx2
          have e1 : w3.cell? ⟨wr.heap.size, 1, none⟩ = some (.int .i64 t) := cell_of hx3 1 _ rfl
          have e2 : w3.cell? ⟨wr.heap.size, 2, none⟩ = some (.string s) := cell_of hx3 2 _ rfl
          have e3 : w3.cell? ⟨wr.heap.size, 3, none⟩ = some (.int .i64 m) := cell_of hx3 3 _ rfl
          have HT := hid (HS.out.2 _ hb3')
          clear hb2' hx2 hb3' hx3 hb3 HX2 HL2 d1 d2 d3
          go_wp2_with fail
          refine HT.out.mono ?_
          rintro e w4 ⟨rfl, hA4⟩
          have HA4 := hid hA4
          clear hA4 HT e1 e2 e3
          go_wp2_with fail
          go_roundw
          case rel => exact ⟨k + 1, hlt, by go_num, HA4.out⟩
          case measure => simp [intOf]; omega
        · have h80i : ¬ (k : Int) < 80 := by omega
          have HBw := hid HAt.out.bel
          go_wp2_with fail
          refine (HL.out _).mono ?_
          rintro e w2 ⟨rfl, hb2⟩
          have HB2 := hid (bl HBw.out hb2)
          clear hb2
          go_wp2_with fail
          go_ret
          exact ⟨rfl, HB2.out⟩
      · obtain rfl : k = nl := by omega
        have HBw := hid HAt.out.bel
        go_wp2_with fail
        refine (HL.out _).mono ?_
        rintro e w2 ⟨rfl, hb2⟩
        have HB2 := hid (bl HBw.out hb2)
        clear hb2
        go_wp2_with fail
        go_ret
        exact ⟨rfl, HB2.out⟩

end Go.Proofs.YtbihelpnojjacaaGreat.HotO

/- Settings and lists of deeds as arguments; HotLooks' main. -/
namespace Go.Proofs.YtbihelpnojjacaaGreat.HotP
open Go.ChangeShapes Go.WideShapes Go.ChangeAt Go.RowKit Go.Deep Base Wri Map Opn HotJ HotO
set_option linter.unusedVariables false
variable {H : Type} {enc : TypeId × Value → H} {W : World} {base : Nat} {spare : Nat → Bool} {held : Bool}

theorem slice_shape {t e : TypeId} {k : Nat} {v : Value} {z : DataW H × List MemPlace} (ht : Tryz.prog.underlying t = some (.slice e)) (h : DataW.trod enc Tryz.prog W base spare held k t [v] = some z) : ∃ a n c, v = .slice a n c := by
  rcases open_slice ht h with ⟨hn, _⟩ | ⟨a, l, c, m, n, D, Pl, hcs, _⟩
  · simp at hn; exact ⟨none, 0, 0, hn⟩
  · simp at hcs; exact ⟨_, _, _, hcs⟩

theorem ty_at {fs : Array Field} {n : Nat} {TL : List TypeId} (h5 : fs.size = n) (ht : fs.toList.map (·.type) = TL) (j : Nat) (hj : j < n) : ∃ f, fs[j]? = some f ∧ some f.type = TL[j]? := by
  refine ⟨fs[j]'(by omega), Array.getElem?_eq_getElem (by omega), ?_⟩
  rw [← ht]
  simp [h5, hj]

theorem spot_of {a : Addr} {v : Value} (h : W.cell? (a.add 0) = some v) : ∃ b o, a = ⟨b, o, none⟩ ∧ b < W.heap.size := by
  obtain ⟨b, off, spot⟩ := a
  have hspot : spot = none := by simpa [Addr.add] using World.cell?_spot h
  subst hspot
  exact ⟨b, off, rfl, World.block_lt_of_cell? _ _ h⟩

theorem under_item : ∃ fs, Tryz.prog.underlying 52 = some (.struct fs) ∧ oneCellFields Tryz.prog fs = true ∧ Tryz.prog.cellsOf 52 = fs.size ∧ fs.size = 2 ∧ fs.toList.map (·.type) = [9, 3] := ⟨_, Tryz.underlying52, by kernel_rfl, by kernel_rfl, by kernel_rfl, by kernel_rfl⟩

theorem items_of {k : Nat} {v : Value} {z : DataW H × List MemPlace} (h : DataW.trod enc Tryz.prog W base spare held k 22 [v] = some z) :
    ∃ (a : Option Addr) (n c : Nat) (f : Nat → Itm), v = .slice a n c ∧ ItAt W a n f ∧ ∀ i, i < n → (f i).1.size ≤ maxLen := by
  obtain ⟨a0, n, c, rfl⟩ := slice_shape Tryz.underlying22 h
  obtain ⟨fs, hu, h1, h2, h5, ht⟩ := under_item
  rcases row_at Tryz.underlying22 hu h1 h2 h with ⟨rfl, rfl⟩ | ⟨a, rfl, hl, hm, hi⟩
  · exact ⟨none, 0, c, fun _ => (⟨#[]⟩, 0), rfl, fun h0 => by omega, fun i hi => by omega⟩
  · have each : ∀ i, i < n → ∃ x : Itm, (W.cell? (a.add (i * 2)) = some (.string x.1) ∧ W.cell? (a.add (i * 2 + 1)) = some (.int .i64 x.2)) ∧ x.1.size ≤ maxLen := by
      intro i hil
      obtain ⟨f0, g0, t0⟩ := ty_at h5 ht 0 (by omega)
      obtain ⟨f1, g1, t1⟩ := ty_at h5 ht 1 (by omega)
      obtain ⟨v0, z0, k0, c0, r0⟩ := hi i hil 0 f0 g0
      obtain ⟨v1, z1, k1, c1, r1⟩ := hi i hil 1 f1 g1
      simp only [List.getElem?_cons_zero, List.getElem?_cons_succ, Option.some.injEq] at t0 t1
      rw [t0] at r0
      rw [t1] at r1
      obtain ⟨n0, e0, _, q0⟩ := DataW.trod_string Tryz.underlying9 r0
      obtain ⟨n1, e1, _, _⟩ := DataW.trod_int Tryz.underlying3 r1
      simp only [List.cons.injEq, and_true] at e0 e1
      subst e0 e1
      rw [h5] at c0 c1
      exact ⟨(n0, n1), ⟨c0, c1⟩, q0⟩
    obtain ⟨f, hf⟩ := choose2 (⟨#[]⟩, 0) each
    refine ⟨some a, n, c, f, rfl, fun h0 => ?_, fun i hi => (hf i hi).2⟩
    have h00 := (hf 0 h0).1.1
    rw [Nat.zero_mul] at h00
    obtain ⟨b, o, rfl, hb⟩ := spot_of h00
    refine ⟨b, o, rfl, hb, fun i hil => ?_⟩
    have h3 := (hf i hil).1
    rw [Go.WideShapes.add_plain, Go.WideShapes.add_plain, ← Nat.add_assoc] at h3
    exact h3

theorem under_deed : ∃ fs, Tryz.prog.underlying 41 = some (.struct fs) ∧ oneCellFields Tryz.prog fs = true ∧ Tryz.prog.cellsOf 41 = fs.size ∧ fs.size = 4 ∧ fs.toList.map (·.type) = [3, 3, 9, 3] := ⟨_, Tryz.underlying41, by kernel_rfl, by kernel_rfl, by kernel_rfl, by kernel_rfl⟩

theorem deeds_of {a0 : Option Addr} {n c : Nat} {d : DataW H} {p : List MemPlace} (h : DataW.Trod enc Tryz.prog W base spare held 28 (.slice a0 n c) d p) :
    ∃ g : Nat → Dd, DeAt W a0 n g ∧ ∀ i, i < n → (g i).s.size ≤ maxLen := by
  obtain ⟨fuel, hf⟩ := h
  have hf : DataW.trod enc Tryz.prog W base spare held fuel 28 [.slice a0 n c] = some (d, p) := by
    rw [show (Value.slice a0 n c).cells = #[.slice a0 n c] from by simp [Value.cells]] at hf
    exact hf
  obtain ⟨fs, hu, h1, h2, h5, ht⟩ := under_deed
  rcases row_at Tryz.underlying28 hu h1 h2 hf with ⟨rfl, rfl⟩ | ⟨a, rfl, hl, hm, hi⟩
  · exact ⟨fun _ => ⟨0, 0, ⟨#[]⟩, 0⟩, fun h0 => by omega, fun i hi => by omega⟩
  · have each : ∀ i, i < n → ∃ x : Dd, (W.cell? (a.add (i * 4)) = some (.int .i64 x.kind) ∧ W.cell? (a.add (i * 4 + 1)) = some (.int .i64 x.t) ∧ W.cell? (a.add (i * 4 + 2)) = some (.string x.s) ∧ W.cell? (a.add (i * 4 + 3)) = some (.int .i64 x.n)) ∧ x.s.size ≤ maxLen := by
      intro i hil
      obtain ⟨f0, g0, t0⟩ := ty_at h5 ht 0 (by omega)
      obtain ⟨f1, g1, t1⟩ := ty_at h5 ht 1 (by omega)
      obtain ⟨f2, g2, t2⟩ := ty_at h5 ht 2 (by omega)
      obtain ⟨f3, g3, t3⟩ := ty_at h5 ht 3 (by omega)
      obtain ⟨v0, z0, k0, c0, r0⟩ := hi i hil 0 f0 g0
      obtain ⟨v1, z1, k1, c1, r1⟩ := hi i hil 1 f1 g1
      obtain ⟨v2, z2, k2, c2, r2⟩ := hi i hil 2 f2 g2
      obtain ⟨v3, z3, k3, c3, r3⟩ := hi i hil 3 f3 g3
      simp only [List.getElem?_cons_zero, List.getElem?_cons_succ, Option.some.injEq] at t0 t1 t2 t3
      rw [t0] at r0
      rw [t1] at r1
      rw [t2] at r2
      rw [t3] at r3
      obtain ⟨n0, e0, _, _⟩ := DataW.trod_int Tryz.underlying3 r0
      obtain ⟨n1, e1, _, _⟩ := DataW.trod_int Tryz.underlying3 r1
      obtain ⟨n2, e2, _, q2⟩ := DataW.trod_string Tryz.underlying9 r2
      obtain ⟨n3, e3, _, _⟩ := DataW.trod_int Tryz.underlying3 r3
      simp only [List.cons.injEq, and_true] at e0 e1 e2 e3
      subst e0 e1 e2 e3
      rw [h5] at c0 c1 c2 c3
      exact ⟨⟨n0, n1, n2, n3⟩, ⟨c0, c1, c2, c3⟩, q2⟩
    obtain ⟨f, hf⟩ := choose2 ⟨0, 0, ⟨#[]⟩, 0⟩ each
    refine ⟨f, fun h0 => ?_, fun i hi => (hf i hi).2⟩
    have h00 := (hf 0 h0).1.1
    rw [Nat.zero_mul] at h00
    obtain ⟨b, o, rfl, hb⟩ := spot_of h00
    refine ⟨b, o, rfl, hb, fun i hil => ?_⟩
    have h3 := (hf i hil).1
    rw [Go.WideShapes.add_plain, Go.WideShapes.add_plain, Go.WideShapes.add_plain, Go.WideShapes.add_plain, ← Nat.add_assoc, ← Nat.add_assoc, ← Nat.add_assoc] at h3
    exact h3

theorem under_hot : ∃ fs, Tryz.prog.underlying 24 = some (.struct fs) ∧ oneCellFields Tryz.prog fs = true ∧ Tryz.prog.cellsOf 24 = fs.size ∧ fs.size = 5 ∧ fs.toList.map (·.type) = [9, 3, 3, 3, 22] := ⟨_, Tryz.underlying24, by kernel_rfl, by kernel_rfl, by kernel_rfl, by kernel_rfl⟩

theorem arg_at {P : Program} {w : World} {e : TypeId} {fs : Array Field} {n : Nat} {cs : List Value} {y : DataW H × List MemPlace} (he : P.underlying e = some (.struct fs)) (hone : oneCellFields P fs = true) (hC : P.cellsOf e = fs.size)
    (ht : DataW.trod enc P w base spare held n e cs = some y) (j : Nat) (f : Field) (hj : fs[j]? = some f) :
    ∃ v z k, cs[j]? = some v ∧ DataW.trod enc P w base spare held k f.type [v] = some z := by
  obtain ⟨xs, k, _, _, hlen, hxl, hg⟩ := DataW.trod_struct he ht
  obtain ⟨o1, o2⟩ := hone_of hone j f hj
  have hjs : j < fs.size := (Array.getElem?_eq_some_iff.1 hj).1
  have hjc : j < cs.length := by omega
  have hg := hg j f hj
  rw [o1, o2, List.drop_eq_getElem_cons hjc] at hg
  simp only [List.take_succ_cons, List.take_zero] at hg
  obtain ⟨z, hz⟩ : ∃ z, xs[j]? = some z := ⟨xs[j]'(by omega), List.getElem?_eq_getElem (by omega)⟩
  exact ⟨cs[j], z, k, List.getElem?_eq_getElem hjc, by rw [hg, hz]⟩

set_option maxRecDepth 100000 in
theorem hot_cells {n : Nat} {cs : List Value} {y : DataW H × List MemPlace} (hf : DataW.trod enc Tryz.prog W base spare held n 24 cs = some y) :
    ∃ (res : ByteArray) (idx cnt sec : Int) (a : Option Addr) (m c : Nat) (f : Nat → Itm), cs = [.string res, .int .i64 idx, .int .i64 cnt, .int .i64 sec, .slice a m c] ∧ res.size ≤ maxLen ∧ ItAt W a m f ∧ ∀ i, i < m → (f i).1.size ≤ maxLen := by
  obtain ⟨fs, hu, h1, h2, h5, ht⟩ := under_hot
  obtain ⟨_, _, _, _, hcl0, _, _⟩ := DataW.trod_struct hu hf
  have hcl : cs.length = 5 := by rw [hcl0, h2, h5]
  obtain ⟨f0, g0, t0⟩ := ty_at h5 ht 0 (by omega)
  obtain ⟨f1, g1, t1⟩ := ty_at h5 ht 1 (by omega)
  obtain ⟨f2, g2, t2⟩ := ty_at h5 ht 2 (by omega)
  obtain ⟨f3, g3, t3⟩ := ty_at h5 ht 3 (by omega)
  obtain ⟨f4, g4, t4⟩ := ty_at h5 ht 4 (by omega)
  obtain ⟨v0, z0, k0, c0, r0⟩ := arg_at hu h1 h2 hf 0 f0 g0
  obtain ⟨v1, z1, k1, c1, r1⟩ := arg_at hu h1 h2 hf 1 f1 g1
  obtain ⟨v2, z2, k2, c2, r2⟩ := arg_at hu h1 h2 hf 2 f2 g2
  obtain ⟨v3, z3, k3, c3, r3⟩ := arg_at hu h1 h2 hf 3 f3 g3
  obtain ⟨v4, z4, k4, c4, r4⟩ := arg_at hu h1 h2 hf 4 f4 g4
  simp only [List.getElem?_cons_zero, List.getElem?_cons_succ, Option.some.injEq] at t0 t1 t2 t3 t4
  rw [t0] at r0
  rw [t1] at r1
  rw [t2] at r2
  rw [t3] at r3
  rw [t4] at r4
  obtain ⟨n0, e0, _, q0⟩ := DataW.trod_string Tryz.underlying9 r0
  obtain ⟨n1, e1, _, _⟩ := DataW.trod_int Tryz.underlying3 r1
  obtain ⟨n2, e2, _, _⟩ := DataW.trod_int Tryz.underlying3 r2
  obtain ⟨n3, e3, _, _⟩ := DataW.trod_int Tryz.underlying3 r3
  obtain ⟨a, m, c, f, e4, q4, q5⟩ := items_of r4
  simp only [List.cons.injEq, and_true] at e0 e1 e2 e3
  subst e0 e1 e2 e3 e4
  refine ⟨n0, n1, n2, n3, a, m, c, f, ?_, q0, q4, q5⟩
  match cs, hcl with
  | [x0, x1, x2, x3, x4], _ =>
    simp at c0 c1 c2 c3 c4
    subst c0 c1 c2 c3 c4
    rfl

theorem under_set : ∃ fs : Array Field, Tryz.prog.underlying 27 = some (.struct fs) ∧ fs.size = 3 ∧ Tryz.prog.cellsOf 27 = 7 ∧ Tryz.prog.cellsOf 3 = 1 ∧ Tryz.prog.cellsOf 25 = 1 ∧ Tryz.prog.cellsOf 24 = 5 ∧
    (fs.toList.map fun f => (f.type, f.offset)) = [(24, 0), (3, 5), (25, 6)] := ⟨_, Tryz.underlying27, by kernel_rfl, by kernel_rfl, by kernel_rfl, by kernel_rfl, by kernel_rfl, by kernel_rfl⟩

set_option maxRecDepth 100000 in
theorem set_of {b0 : Nat} {r : Reach} {v : Value} {d : DataW H} {p : List MemPlace} (hv : Value.okWide Tryz.prog W r b0 27 v) (h : DataW.Trod enc Tryz.prog W base spare held 27 v d p) :
    ∃ (res : ByteArray) (idx cnt sec : Int) (a : Option Addr) (m c : Nat) (keys : Int) (seed : Nat) (f : Nat → Itm), v = .agg #[.string res, .int .i64 idx, .int .i64 cnt, .int .i64 sec, .slice a m c, .int .i64 keys, .int .u64 seed] ∧ res.size ≤ maxLen ∧ ItAt W a m f ∧ (∀ i, i < m → (f i).1.size ≤ maxLen) ∧ (Lit.int .i64 keys).wf = true ∧ seed < 18446744073709551616 := by
  obtain ⟨fuel, hf⟩ := h
  obtain ⟨fs, hu, hsz, hc7, hci, hcu, hch, hty0⟩ := under_set
  obtain ⟨cs, rfl, hcs⟩ := okWide_struct hu hv
  have hf : DataW.trod enc Tryz.prog W base spare held fuel 27 cs.toList = some (d, p) := by
    rw [show (Value.agg cs).cells = cs from by unfold Value.cells; rfl] at hf
    exact hf
  have hcl : cs.toList.length = 7 := by rw [Array.length_toList, hcs, hc7]
  obtain ⟨xs, k, _, _, hcl2, hxl, hg⟩ := DataW.trod_struct hu hf
  have hfield : ∀ (j : Nat) (T : TypeId) (off : Nat), ([(24, 0), (3, 5), (25, 6)] : List (TypeId × Nat))[j]? = some (T, off) → ∃ z, DataW.trod enc Tryz.prog W base spare held k T ((cs.toList.drop off).take (Tryz.prog.cellsOf T)) = some z := by
    intro j T off hj
    have hj3 : j < 3 := by have := (List.getElem?_eq_some_iff.1 hj).1; simpa using this
    have hf : fs[j]? = some (fs[j]'(by omega)) := Array.getElem?_eq_getElem (by omega)
    have ht : ((fs[j]'(by omega)).type, (fs[j]'(by omega)).offset) = (T, off) := by
      have h3 : (fs.toList.map fun f => (f.type, f.offset))[j]? = some (T, off) := by rw [hty0]; exact hj
      rw [List.getElem?_map, Array.getElem?_toList, hf] at h3
      exact Option.some.inj h3
    have hgj := hg j _ hf
    rw [(Prod.mk.inj ht).1, (Prod.mk.inj ht).2] at hgj
    have hjx : j < xs.length := by omega
    exact ⟨xs[j], by rw [hgj]; exact List.getElem?_eq_getElem hjx⟩
  obtain ⟨z0, r0⟩ := hfield 0 _ _ rfl
  obtain ⟨z1, r1⟩ := hfield 1 _ _ rfl
  obtain ⟨z2, r2⟩ := hfield 2 _ _ rfl
  rw [hch] at r0
  rw [hci] at r1
  rw [hcu] at r2
  obtain ⟨res, idx, cnt, sec, a, m, c, f, e0, q1, q2, q3⟩ := hot_cells r0
  obtain ⟨keys, e1, _, w1⟩ := DataW.trod_int Tryz.underlying3 r1
  obtain ⟨seed, e2, _, w2⟩ := DataW.trod_int Tryz.underlying25 r2
  have hw : 0 ≤ seed ∧ seed < 18446744073709551616 := by
    simp only [Lit.wf, Bool.and_eq_true, decide_eq_true_eq] at w2
    have e : IntKind.u64.min = 0 := by decide
    have e2 : IntKind.u64.max = 18446744073709551615 := by decide
    omega
  obtain ⟨sd, rfl⟩ : ∃ sd : Nat, seed = sd := ⟨seed.toNat, by omega⟩
  refine ⟨res, idx, cnt, sec, a, m, c, keys, sd, f, ?_, q1, q2, q3, w1, by omega⟩
  congr 1
  apply Array.ext'
  match hl : cs.toList, hcl with
  | [x0, x1, x2, x3, x4, x5, x6], _ =>
    rw [hl] at e0 e1 e2
    simp at e0 e1 e2
    obtain ⟨q1, q2, q3, q4, q5⟩ := e0
    subst q1 q2 q3 q4 q5 e1 e2
    rfl

/-- the law's main, of HotLooks -/
theorem main_looks (res : ByteArray) (idx cnt sec : Int) (a : Option Addr) (m c : Nat) (keys : Int) (seed : Nat) (f : Nat → Itm) (hres : res.size ≤ maxLen) (hI : ItAt W a m f) (hfit : ∀ i, i < m → (f i).1.size ≤ maxLen) (hk : (Lit.int .i64 keys).wf = true) (hsd : seed < 18446744073709551616)
    (al : Option Addr) (nl cl : Nat) {d : DataW H} {p : List MemPlace} (h : DataW.Trod enc Tryz.prog W base spare held 28 (.slice al nl cl) d p) :
    Calls Tryz.prog 5 #[.agg #[.string res, .int .i64 idx, .int .i64 cnt, .int .i64 sec, .slice a m c, .int .i64 keys, .int .u64 seed], .slice al nl cl] W fun e W' => e = .returned (.bool true) ∧ Below W.heap.size W W' := by
  obtain ⟨g, h1, h2⟩ := deeds_of h
  exact looks_core res hres idx cnt sec a m c keys seed f al nl cl g W hI hfit h1 h2

end Go.Proofs.YtbihelpnojjacaaGreat.HotP

/- HotBounds, plain mathematics: no value is taken more often than its limit. -/
namespace Go.Proofs.YtbihelpnojjacaaGreat.HotQ
open WinM WinC WinD WinE WinH WinK WinN SkA HotA HotB HotD HotH HotI HotC HotE HotK
set_option linter.unusedVariables false

/-- what of a value is in the window at a time; what is near a time -/
def own (q t : Nat) (s : ByteArray) (ns : List Note) : Nat := sumN ns fun x => decide (t / q < x.t / q + 10) && decide (x.k = s)
def nr (q t : Nat) (s : ByteArray) (ns : List Note) : Nat := sumN ns fun x => decide (t < x.t + 9 * q) && decide (x.k = s)

theorem sumN_snoc (ns : List Note) (x : Note) (p : Note → Bool) : sumN (ns ++ [x]) p = sumN ns p + if p x then x.n else 0 := by
  unfold sumN
  rw [List.filter_append, List.map_append, List.sum_append]
  cases hp : p x <;> simp [hp]
theorem own_snoc (q t : Nat) (s : ByteArray) (ns : List Note) (t0 n0 : Nat) (k0 : ByteArray) : own q t s (ns ++ [⟨t0, k0, n0⟩]) = own q t s ns + if t / q < t0 / q + 10 ∧ k0 = s then n0 else 0 := by
  unfold own
  rw [sumN_snoc]
  simp only [Bool.and_eq_true, decide_eq_true_eq]
theorem nr_snoc (q t : Nat) (s : ByteArray) (ns : List Note) (t0 n0 : Nat) (k0 : ByteArray) : nr q t s (ns ++ [⟨t0, k0, n0⟩]) = nr q t s ns + if t < t0 + 9 * q ∧ k0 = s then n0 else 0 := by
  unfold nr
  rw [sumN_snoc]
  simp only [Bool.and_eq_true, decide_eq_true_eq]
theorem sum_le {ns : List Note} {p r : Note → Bool} (h : ∀ x ∈ ns, p x = true → r x = true) : sumN ns p ≤ sumN ns r := by
  induction ns with
  | nil => exact Nat.le_refl _
  | cons x t ih =>
    rw [sumN_cons, sumN_cons]
    have h1 := ih fun y hy => h y (List.mem_cons_of_mem _ hy)
    have h2 := h x List.mem_cons_self
    cases hp : p x with
    | true => rw [h2 hp]; simpa using h1
    | false => simp; omega
theorem sum_small {ns : List Note} {p : Note → Bool} {b : Nat} (h : ∀ x ∈ ns, x.n ≤ b) : sumN ns p ≤ ns.length * b := by
  induction ns with
  | nil => exact Nat.zero_le _
  | cons x t ih =>
    rw [sumN_cons]
    have h1 := ih fun y hy => h y (List.mem_cons_of_mem _ hy)
    have h2 := h x List.mem_cons_self
    rw [List.length_cons, Nat.succ_mul]
    split <;> omega
theorem sum_none {ns : List Note} {p : Note → Bool} (h : ∀ x ∈ ns, p x = false) : sumN ns p = 0 := by
  induction ns with
  | nil => rfl
  | cons x t ih =>
    rw [sumN_cons, ih fun y hy => h y (List.mem_cons_of_mem _ hy), h x List.mem_cons_self]
    rfl

theorem own_mono {q t t' : Nat} {s : ByteArray} {ns : List Note} (h : t ≤ t') : own q t' s ns ≤ own q t s ns := by
  refine sum_le fun x hx hp => ?_
  simp only [Bool.and_eq_true, decide_eq_true_eq] at hp ⊢
  have := Nat.div_le_div_right (c := q) h
  exact ⟨by omega, hp.2⟩
theorem nr_mono {q t t' : Nat} {s : ByteArray} {ns : List Note} (h : t ≤ t') : nr q t' s ns ≤ nr q t s ns := by
  refine sum_le fun x hx hp => ?_
  simp only [Bool.and_eq_true, decide_eq_true_eq] at hp ⊢
  exact ⟨by omega, hp.2⟩
theorem nr_own {q t : Nat} (hq : 0 < q) {s : ByteArray} {ns : List Note} : nr q t s ns ≤ own q t s ns := by
  refine sum_le fun x hx hp => ?_
  simp only [Bool.and_eq_true, decide_eq_true_eq] at hp ⊢
  refine ⟨?_, hp.2⟩
  have h1 : t / q ≤ (x.t + 9 * q) / q := Nat.div_le_div_right (by omega)
  rw [Nat.add_mul_div_right _ _ hq] at h1
  omega
theorem own_far {q t t0 : Nat} {s : ByteArray} {ns : List Note} (h : ∀ x ∈ ns, x.t ≤ t0) (hf : t0 / q + 10 ≤ t / q) : own q t s ns = 0 := by
  refine sum_none fun x hx => ?_
  have := Nat.div_le_div_right (c := q) (h x hx)
  rw [decide_eq_false (by omega)]
  rfl

theorem begN_div (q a : Nat) : begN q a = a / q * q := by
  unfold begN
  have := Nat.div_add_mod a q
  rw [Nat.mul_comm] at this
  omega
/-- a bucket is in the window -/
theorem in_iff {q t e : Nat} (hq : 0 < q) : ((begN q t : Int) - (10 * q : Nat) + q ≤ (begN q e : Int)) ↔ t / q < e / q + 10 := by
  rw [begN_div, begN_div]
  obtain ⟨a, ha⟩ : ∃ a, t / q = a := ⟨_, rfl⟩
  obtain ⟨b, hb⟩ : ∃ b, e / q = b := ⟨_, rfl⟩
  rw [ha, hb]
  constructor
  · intro h
    have h2 : a * q < (b + 10) * q := by
      rw [Nat.add_mul]
      omega
    exact Nat.lt_of_mul_lt_mul_right h2
  · intro h
    have h2 : (a + 1) * q ≤ (b + 10) * q := Nat.mul_le_mul_right q h
    rw [Nat.add_mul, Nat.add_mul] at h2
    omega

/-- what a window tells at a later time -/
theorem pass_told {q : Nat} {s : Win} {last t : Nat} {E : List (Nat × Int)} (h : Tells q s last E) (ht : Tidy q s last) (hl : last ≤ t) (hE : ∀ e ∈ E, 0 ≤ e.2) (hs : tot E ≤ 4611686018427387904) : (passW q s t).pass = ev q ((begN q t : Int) - s.width + q) E := by
  have hm := begN_mono (q := q) hl
  have h1 := h ((begN q t : Int) - s.width + q) (by omega)
  have h2 := ev_le q ((begN q t : Int) - s.width + q) E hE
  unfold passW sumM
  rw [sum_pas ((begN q t : Int) - s.width + q) (stays ((begN q t : Int) - s.width + q) s.bs) _ (fun x hx => (ht.fine x (List.mem_filter.1 hx).1).1.1) (fun x hx => by have := (List.mem_filter.1 hx).2; simp at this; omega) (by rw [pas_stays _ _ _ (Int.le_refl _)]; show 0 + _ ≤ _; omega), pas_stays _ _ _ (Int.le_refl _), ← h1]
  show 0 + _ = _; omega

theorem own_le_est (q t : Nat) (X : SkG.Shp) (hbk : X.bk = 10) (s : ByteArray) (ns : List Note) (hs : own q t s ns ≤ 4611686018427387904) : own q t s ns ≤ SkL.estN q X ns t s := by
  unfold SkL.estN
  refine le_least (fun r hr => ?_) hs
  unfold SkL.rowN
  have h1 : own q t s ns ≤ sumN ns (fun x => inW q X.bk t (x.t / q) && SkF.colN X.seed X.co r x.k == SkF.colN X.seed X.co r s) := by
    refine sum_le fun x hx hp => ?_
    simp only [Bool.and_eq_true, decide_eq_true_eq] at hp
    unfold inW
    rw [hbk, hp.2]
    simp [hp.1]
  unfold sat
  omega

variable {w w' : World} {own' : Nat → Tg} {C : HC} {last : Nat} {L L' : List LruC.Ent} {K K' : List KW} {Z Z' : SK}

/-- what stands, of all that was taken: each value's window tells no less of it; and it stays below the limit -/
structure Gh (C : HC) (last : Nat) (K : List KW) (ns : List Note) : Prop where
  small : ∀ x ∈ ns, x.n ≤ 1099511627776 ∧ x.t ≤ last
  few : ns.length ≤ 1000
  win : ∀ x ∈ K, ∃ E : List (Nat × Int), Tells C.q x.s x.t E ∧ (∀ e ∈ E, 0 ≤ e.2) ∧ tot E ≤ ((ns.length + 1) * 1099511627776 : Nat) ∧ ∀ t, x.t ≤ t → (own C.q t x.k ns : Int) ≤ ev C.q ((begN C.q t : Int) - (10 * C.q : Nat) + C.q) E
  near : ∀ (s : ByteArray) (t : Nat), last ≤ t → (nr C.q t s ns : Int) ≤ limN C s

theorem Gh.new (C : HC) (h : ∀ s, 0 ≤ limN C s) : Gh C 0 [] [] := ⟨fun x hx => (by cases hx), by simp, fun x hx => (by cases hx), fun s t _ => by
  have : nr C.q t s [] = 0 := rfl
  rw [this]; exact h s⟩
theorem Gh.later {t : Nat} {ns : List Note} (h : Gh C last K ns) (ht : last ≤ t) : Gh C t K ns := ⟨fun x hx => ⟨(h.small x hx).1, Nat.le_trans (h.small x hx).2 ht⟩, h.few, h.win, fun s t' h' => h.near s t' (Nat.le_trans ht h')⟩
theorem Gh.own_small {ns : List Note} (h : Gh C last K ns) (t : Nat) (s : ByteArray) : own C.q t s ns ≤ 4611686018427387904 := by
  have h1 : own C.q t s ns ≤ ns.length * 1099511627776 := sum_small fun x hx => (h.small x hx).1
  have h2 : ns.length * 1099511627776 ≤ 1000 * 1099511627776 := Nat.mul_le_mul_right _ h.few
  omega
theorem Gh.tot_small {ns : List Note} (h : Gh C last K ns) {E : List (Nat × Int)} (hE : tot E ≤ ((ns.length + 1) * 1099511627776 : Nat)) : tot E ≤ 4398046511104000 := by
  have h2 : (ns.length + 1) * 1099511627776 ≤ 1001 * 1099511627776 := Nat.mul_le_mul_right _ (by have := h.few; omega)
  omega

/-- what counts as used is never less than what was taken -/
theorem Gh.used {own0 : Nat → Tg} (hM : HMem w own0 C last L K Z) (h : Gh C last K Z.ns) {t : Nat} (ht : last ≤ t) {s : ByteArray} {u : Nat} (hu : Us C K Z t s u) : own C.q t s Z.ns ≤ u := by
  rcases hu with ⟨x, hx, rfl, e⟩ | ⟨hno, rfl⟩
  · obtain ⟨E, h1, h2, h3, h4⟩ := h.win x hx
    obtain ⟨a1, a2, a3, a4, a5, a6⟩ := hM.wok x hx
    have h5 := pass_told (t := t) h1 a4 (by omega) h2 (by have := h.tot_small h3; omega)
    have h6 := h4 t (by omega)
    rw [a2] at h5
    rw [h5] at e
    omega
  · exact own_le_est _ _ _ rfl _ _ (h.own_small t s)

/-- a taking -/
theorem Gh.took {own0 : Nat → Tg} {s : ByteArray} {n u : Nat} (hM : HMem w own0 C last L K Z) (h : Gh C last K Z.ns) (hT : Took C L K Z last s n u L' K' Z') (hu : Us C K Z last s u) (hn : n ≤ 1099511627776) (hlim : limN C s ≤ 1099511627776) (hpass : (u : Int) + n ≤ limN C s) (hfew : Z.ns.length < 1000) (hun : ∀ z ∈ K', ∀ y ∈ K', z.k = y.k → z = y) : Gh C last K' Z'.ns := by
  have hq := hM.q0
  have hown := Gh.used hM h (Nat.le_refl _) hu
  rw [hT.ns]
  refine ⟨fun x hx => ?_, by simp; omega, fun z hz => ?_, fun s' t ht => ?_⟩
  · rcases List.mem_append.1 hx with hx | hx
    · exact h.small x hx
    · obtain rfl := List.mem_singleton.1 hx
      exact ⟨hn, Nat.le_refl _⟩
  · by_cases hzs : z.k = s
    · obtain ⟨y, hy, hyk, hyt, hys⟩ := hT.mine
      obtain rfl : z = y := hun z hz y hy (hzs.trans hyk.symm)
      subst hzs
      rcases hys with ⟨x, hx, hxk, hs⟩ | ⟨hno, hs⟩
      · obtain ⟨E, h1, h2, h3, h4⟩ := h.win x hx
        obtain ⟨a1, a2, a3, a4, a5, a6⟩ := hM.wok x hx
        have hts := h.tot_small h3
        refine ⟨E ++ [(last, (n : Int))], ?_, fun e he => ?_, ?_, fun t ht => ?_⟩
        · rw [hs, hyt]
          exact Tells.add (c := ⟨n, 0, 0, 0, 0, 0⟩) h1 a4 a6 h2 (by show tot E + (n : Int) ≤ _; omega)
        · rcases List.mem_append.1 he with he | he
          · exact h2 e he
          · obtain rfl := List.mem_singleton.1 he
            exact Int.natCast_nonneg n
        · rw [tot_app]
          have : tot [(last, (n : Int))] = n := by simp [tot]
          rw [this, List.length_append, List.length_singleton]
          omega
        · have h5 := h4 t (by omega)
          rw [hxk] at h5
          rw [ev_app, own_snoc]
          have e1 : ev C.q ((begN C.q t : Int) - (10 * C.q : Nat) + C.q) [(last, (n : Int))] = if t / C.q < last / C.q + 10 then (n : Int) else 0 := by
            simp only [ev]
            by_cases hc : t / C.q < last / C.q + 10
            · rw [if_pos ((in_iff hq).2 hc), if_pos hc]; omega
            · rw [if_neg (fun h => hc ((in_iff hq).1 h)), if_neg hc]; omega
          rw [e1]
          by_cases hc : t / C.q < last / C.q + 10
          · rw [if_pos hc, if_pos ⟨hc, rfl⟩]; omega
          · rw [if_neg hc, if_neg (fun h => hc h.1)]; omega
      · have hue : own C.q last z.k Z.ns ≤ u := hown
        have hu2 : u ≤ 1099511627776 := by omega
        refine ⟨[(last, (u : Int)), (last, (n : Int))], ?_, fun e he => ?_, ?_, fun t ht => ?_⟩
        · rw [hs, hyt]
          have t0 : Tells C.q ⟨10 * C.q, 10, 0, []⟩ 0 [] := fun L _ => rfl
          have t1 := Tells.add (c := ⟨u, 0, 0, 0, 0, 0⟩) t0 (Tidy.fresh C.q (10 * C.q) 10) (Nat.zero_le last) (fun e he => (by cases he)) (by show tot [] + (u : Int) ≤ _; simp [tot]; omega)
          have d1 := Tidy.add (q := C.q) (c := ⟨u, 0, 0, 0, 0, 0⟩) (Tidy.fresh C.q (10 * C.q) 10) (Nat.zero_le last) (by show C.q ≤ 10 * C.q; omega) (right_pass (by omega)).1
          exact Tells.add (c := ⟨n, 0, 0, 0, 0, 0⟩) t1 d1 (Nat.le_refl _) (fun e he => by
            simp at he; subst he; exact Int.natCast_nonneg u) (by show tot ([] ++ [(last, (u : Int))]) + (n : Int) ≤ _; simp [tot]; omega)
        · simp at he
          rcases he with rfl | rfl
          · exact Int.natCast_nonneg u
          · exact Int.natCast_nonneg n
        · simp only [tot, List.length_append, List.length_singleton]
          have : 1 * 1099511627776 ≤ (Z.ns.length + 1) * 1099511627776 := Nat.mul_le_mul_right _ (by omega)
          omega
        · have e1 : ev C.q ((begN C.q t : Int) - (10 * C.q : Nat) + C.q) [(last, (u : Int)), (last, (n : Int))] = if t / C.q < last / C.q + 10 then (u : Int) + n else 0 := by
            simp only [ev]
            by_cases hc : t / C.q < last / C.q + 10
            · rw [if_pos ((in_iff hq).2 hc), if_pos ((in_iff hq).2 hc), if_pos hc]; omega
            · rw [if_neg (fun h => hc ((in_iff hq).1 h)), if_neg (fun h => hc ((in_iff hq).1 h)), if_neg hc]; omega
          rw [e1, own_snoc]
          by_cases hc : t / C.q < last / C.q + 10
          · rw [if_pos hc, if_pos ⟨hc, rfl⟩]
            have h6 := own_mono (q := C.q) (s := z.k) (ns := Z.ns) (show last ≤ t by omega)
            omega
          · rw [if_neg hc, if_neg (fun h => hc h.1), own_far (fun x hx => (h.small x hx).2) (by omega)]
            omega
    · have hz2 := ((hT.others z hzs).1 hz).1
      obtain ⟨E, h1, h2, h3, h4⟩ := h.win z hz2
      refine ⟨E, h1, h2, ?_, fun t ht => ?_⟩
      · rw [List.length_append, List.length_singleton]
        have h9 : (Z.ns.length + 1) * 1099511627776 ≤ (Z.ns.length + 1 + 1) * 1099511627776 := Nat.mul_le_mul_right _ (Nat.le_succ _)
        exact Int.le_trans h3 (Int.ofNat_le.2 h9)
      · rw [own_snoc, if_neg (fun h => hzs h.2.symm)]
        exact h4 t ht
  · rw [nr_snoc]
    by_cases hs : s = s'
    · subst hs
      have h6 := nr_mono (q := C.q) (s := s) (ns := Z.ns) ht
      have h7 := nr_own (t := last) hq (s := s) (ns := Z.ns)
      split <;> omega
    · rw [if_neg (fun h => hs h.2)]
      have := h.near s' t ht
      omega

end Go.Proofs.YtbihelpnojjacaaGreat.HotQ

namespace Go.Proofs.YtbihelpnojjacaaGreat.HotR
open Go.ChangeShapes Go.WideShapes Go.ChangeAt Go.RowKit Go.Deep Base Wri Map LruA LruB LruC LruD LruE LruF HotA HotB HotC HotD HotE HotF HotG HotH HotI HotJ HotK HotL HotM HotN HotO HotQ RulA
open SkA (Note)
set_option linter.unusedVariables false
variable {w w' : World} {own : Nat → Tg} {C : HC} {last : Nat} {L L' : List Ent} {K K' : List KW} {Z Z' : SK}

def dl (d : Dd) : List Value := [.int .i64 d.kind, .int .i64 d.t, .string d.s, .int .i64 d.n]
def DRow (w : World) (B : Nat) (v : Value) (l : List Dd) : Prop := w.ownsRow B 41 4 v l.length (l.flatMap dl)
theorem infoDeed : (Tryz.prog.info? 41).map (fun i => (i.zero, i.size, i.bytes)) = some (some (.agg #[.int .i64 0, .int .i64 0, .string ⟨#[]⟩, .int .i64 0]), 4, 40) := by kernel_rfl
theorem dl_len (d : Dd) : (dl d).length = 4 := rfl
theorem one4 (d : Dd) : ∀ u ∈ dl d, u.oneCell' = true := by
  intro u hu
  unfold dl at hu
  simp at hu
  rcases hu with rfl | rfl | rfl | rfl <;> rfl

theorem run_append_deed (w : World) {B : Nat} {v : Value} {l : List Dd} {d : Dd} {g : Nat} (t ty : TypeId) (hd : DRow w B v l) (hg : w.heap[g]? = some (.cells (dl d).toArray t)) (hB : B ≤ w.heap.size) (hn : l.length + 1 ≤ 1000000) :
    ∃ v' w', (Builtin.append_ #[28, 28] ty #[v, .slice (some ⟨g, 0, none⟩) 1 1]).run Tryz.prog w = .ok v' w' ∧ DRow w' B v' (l ++ [d]) ∧ w.grownBy w' v.ownBlock ∧ (v'.ownBlock = v.ownBlock ∨ v'.ownBlock = some w.heap.size) := by
  obtain ⟨i0, hi, hz0, hz1, hz2⟩ := info_parts infoDeed
  have hnews : ∀ j u, (dl d)[j]? = some u → w.cell? ((⟨g, 0, none⟩ : Addr).add j) = some u := fun j u hu => by
    rw [Go.WideShapes.add_plain, Nat.zero_add]
    exact cell_of hg j _ (by simpa using hu)
  obtain ⟨v', w', hr, h2, h3, h4, h5⟩ := run_append_own_at (P := Tryz.prog) w B 28 ty 41 i0 _ 4 40 Tryz.underlying28 hi hz0 hz1 hz2 rfl (by decide) v l.length (l.flatMap dl) hd ⟨g, 0, none⟩ 1 1 (dl d) (dl_len d) hnews (one4 d) (by unfold maxLen; omega) (by omega) hB
  refine ⟨v', w', hr, ?_, h3, h5⟩
  unfold DRow
  rw [List.flatMap_append, List.length_append]
  simpa using h2

theorem wpList_append_deed {ops : Array Oper} {rest : List Oper} {w : World} {op : Oper} {a : Act} {Q : Exit → Act → World → Prop} (hgd : op.guard = none) (s0 x0 : Operand)
    (ho : op.op = .call { callee := .builtin .append, args := #[s0, x0], argTypes := #[28, 28] })
    {B : Nat} {v : Value} {l : List Dd} {d : Dd} {g : Nat} {t : TypeId} (hs : a.eval s0 = v) (hx : a.eval x0 = .slice (some ⟨g, 0, none⟩) 1 1) (hd : DRow w B v l) (hg : w.heap[g]? = some (.cells (dl d).toArray t)) (hB : B ≤ w.heap.size) (hn : l.length + 1 ≤ 1000000)
    (h : ∀ v' w', DRow w' B v' (l ++ [d]) → w.grownBy w' v.ownBlock → (v'.ownBlock = v.ownBlock ∨ v'.ownBlock = some w.heap.size) → wpList Tryz.prog ops Q rest (a.put op.dst v') w') :
    wpList Tryz.prog ops Q (op :: rest) a w := by
  refine wpList_plain hgd fun K hK => ?_
  obtain ⟨v', w', hr, h3, h4, h5⟩ := run_append_deed w t op.type hd hg hB hn
  unfold Oper.wp execOp
  simp only [ho, resolve, invoke, builtin, Sem.run_bind, Sem.run_pure, Result.andThen_ok, List.map_toArray, List.map_cons, List.map_nil, hs, hx, hr]
  exact hK _ _ (h v' w' h3 h4 h5)

theorem dl_at (l : List Dd) (i : Nat) (d : Dd) (h : l[i]? = some d) (j : Nat) (u : Value) (hj : (dl d)[j]? = some u) : (l.flatMap dl)[i * 4 + j]? = some u := by
  induction l generalizing i with
  | nil => simp at h
  | cons y t ih =>
    have e : (y :: t).flatMap dl = dl y ++ t.flatMap dl := by simp
    have hj4 : j < 4 := by have := (List.getElem?_eq_some_iff.1 hj).1; simpa [dl] using this
    rw [e]
    match i, h with
    | 0, h =>
      obtain rfl := Option.some.inj h
      rw [List.getElem?_append_left (by rw [dl_len]; omega), Nat.zero_mul, Nat.zero_add]
      exact hj
    | i + 1, h =>
      rw [List.getElem?_append_right (by rw [dl_len]; omega), dl_len, show (i + 1) * 4 + j - 4 = i * 4 + j by omega]
      exact ih i h
theorem DRow.nil (w : World) (B : Nat) : DRow w B (.slice none 0 0) [] := ⟨rfl, .inl ⟨rfl, rfl⟩⟩
theorem DRow.cells {w : World} {B n c i : Nat} {a : Option Addr} {l : List Dd} {d : Dd} (h : DRow w B (.slice a n c) l) (hi : l[i]? = some d) : ∃ g, a = some ⟨g, 0, none⟩ ∧ g < w.heap.size ∧ w.cell? ⟨g, i * 4 + 1, none⟩ = some (.int .i64 d.t) ∧ w.cell? ⟨g, i * 4 + 2, none⟩ = some (.string d.s) ∧ w.cell? ⟨g, i * 4 + 3, none⟩ = some (.int .i64 d.n) := by
  rcases h.2 with ⟨_, hz⟩ | ⟨g', cap', cur, e, hg', hgb, _⟩
  · have : l = [] := List.length_eq_zero_iff.1 hz
    rw [this] at hi; cases hi
  · injection e with e1 e2 e3
    subst e1
    have hc : ∀ q u, (l.flatMap dl)[q]? = some u → w.cell? ⟨g', q, none⟩ = some u := fun q u hu => by
      have := World.ownsRow.cells h (g := g') rfl q u hu
      rwa [Go.WideShapes.add_plain, Nat.zero_add] at this
    exact ⟨g', rfl, (Array.getElem?_eq_some_iff.1 hgb).1, hc _ _ (dl_at l i d hi 1 _ rfl), hc _ _ (dl_at l i d hi 2 _ rfl), hc _ _ (dl_at l i d hi 3 _ rfl)⟩

/-- what is not its own may be written -/
theorem HMem.away (h : HMem w own C last L K Z) (hw : Wr (fun k => own k = .non) w w') : HMem w' (ext own w.heap.size .non) C last L K Z := by
  obtain ⟨c0, c1, c2, c3, c4, c5⟩ := h.carry .non hw
  obtain ⟨o1, o2, o3, o4, o5, o6⟩ := h.owns .non
  exact { head := (c0 (by simp)).trans h.head, items := c1 (by simp), lru := c2 (by simp), wins := c3 (by simp), kn := h.kn, wok := fun x hx => c4 x hx (by simp), sk := c5 (by simp), skt := h.skt, late := h.late, q0 := h.q0, q1 := h.q1, oh := o1, oi := o2, ol := o3, ow := o4, os := o5, ox := o6 }

/-- a deed as a note; one that was taken -/
def nt (d : Dd) : Note := ⟨d.t.toNat, d.s, d.n.toNat⟩
def Rt (d : Dd) : Prop := 0 ≤ d.t ∧ d.t ≤ 1152921504606846976 ∧ 1 ≤ d.n ∧ d.n ≤ 1099511627776

/-- a rule at work beside a list of what was taken: N is what the rule noted, T what the list holds -/
structure Bd (w0 : World) (C : HC) (last : Nat) (N : List Note) (T : List Dd) (v : Value) (wr : World) : Prop where
  ex : ∃ own L K Z, HMem wr own C last L K Z ∧ Same L K ∧ (∀ k, k < w0.heap.size → own k = .non) ∧ Gh C last K Z.ns ∧ Z.ns = N ∧ ∀ g, v.ownBlock = some g → own g = .non
  row : DRow wr w0.heap.size v T
  bel : Below w0.heap.size w0 wr
  lim : ∀ s, 0 ≤ limN C s ∧ limN C s ≤ 1099511627776
variable {w0 : World} {N : List Note} {T : List Dd} {v : Value}

theorem Bd.below (h : Bd w0 C last N T v w) (hb : Below w.heap.size w w') : Bd w0 C last N T v w' := by
  obtain ⟨own, L, K, Z, hM, hs, ho, hG, hN, hv⟩ := h.ex
  exact ⟨⟨own, L, K, Z, hM.below hb, hs, ho, hG, hN, hv⟩, owns_keep h.row (fun g hg => hb.block g (World.ownsRow.lt h.row g hg).2), h.bel.trans (hb.mono h.bel.size), h.lim⟩

/-- the list grows -/
theorem Bd.append {T' : List Dd} {v' : Value} (h : Bd w0 C last N T v w) (hrow : DRow w' w0.heap.size v' T') (hg : w.grownBy w' v.ownBlock) (hat : v'.ownBlock = v.ownBlock ∨ v'.ownBlock = some w.heap.size) : Bd w0 C last N T' v' w' := by
  obtain ⟨own, L, K, Z, hM, hs, ho, hG, hN, hv⟩ := h.ex
  have hw : Wr (fun k => own k = .non) w w' := Wr.ofGrown hg fun k hk => hv k hk
  refine ⟨⟨_, L, K, Z, HMem.away hM hw, hs, fun k hk => ?_, hG, hN, fun g hg' => ?_⟩, hrow, h.bel.grown hg h.bel.size (fun k hk => (World.ownsRow.lt h.row k hk).1), h.lim⟩
  · rw [ext_lt (Nat.lt_of_lt_of_le hk h.bel.size)]; exact ho k hk
  · rcases hat with e | e
    · rw [e] at hg'
      rw [ext_lt (World.ownsRow.lt h.row g hg').2]; exact hv g hg'
    · rw [e] at hg'; cases hg'; exact ext_ge (Nat.le_refl _)

/-- Take beside it -/
theorem Bd.take (h : Bd w0 C last N T v w) (t : Int) (s : ByteArray) (hs : s.size ≤ maxLen) (n : Int) (hfew : N.length < 1000) : ∃ (b : Bool) (r : Int),
    (∀ wx, Below w.heap.size w wx → Calls Tryz.prog 20 #[.pointer (some ⟨C.h, 0, none⟩), .int .i64 t, .string s, .int .i64 n] wx fun e w' => e = .returned (.tuple #[.bool b, .int .i64 r]) ∧
      ((r ≠ 0 ∧ Bd w0 C last N T v w') ∨ (r = 0 ∧ 0 ≤ t ∧ t ≤ 1152921504606846976 ∧ 1 ≤ n ∧ n ≤ 1099511627776 ∧ s.size ≤ 64 ∧ Bd w0 C t.toNat (if b then N ++ [⟨t.toNat, s, n.toNat⟩] else N) T v w'))) := by
  obtain ⟨own, L, K, Z, hM, hsm, ho, hG, hN, hv⟩ := h.ex
  obtain ⟨u, hu⟩ := us_of hM t s n
  refine ⟨letB C last t s n u, hotE last t (noC n) s.size, fun wx hb => ?_⟩
  have hB := Bd.below h hb
  refine (HMem.Take (hM.below hb) hsm t s hs n u hu).mono fun e w' h2 => ⟨h2.1, ?_⟩
  obtain ⟨own', last', L', K', Z', hM', hsm', hst, hcase⟩ := h2.2
  have hB0 : w0.heap.size ≤ wx.heap.size := hB.bel.size
  have hbel : Below w0.heap.size w0 w' := hB.bel.trans (step_below hst hB0 ho)
  have ho' : ∀ k, k < w0.heap.size → own' k = .non := fun k hk => (hst.tag k (by omega)).trans (ho k hk)
  have hlt : ∀ g, v.ownBlock = some g → g < wx.heap.size := fun g hg => (World.ownsRow.lt hB.row g hg).2
  have hrow : DRow w' w0.heap.size v T := owns_keep hB.row (fun g hg => hst.wr.block g (hlt g hg) (fun hk => hk (hv g hg)))
  have hv' : ∀ g, v.ownBlock = some g → own' g = .non := fun g hg => (hst.tag g (hlt g hg)).trans (hv g hg)
  rcases hcase with ⟨hne, rfl, rfl, rfl, rfl⟩ | ⟨h0, hl, hcase⟩
  · exact .inl ⟨hne, ⟨own', _, _, _, hM', hsm', ho', hG, hN, hv'⟩, hrow, hbel, h.lim⟩
  · obtain ⟨m, rfl, h3, h4, h5, h6⟩ := hot_ok h0
    obtain rfl : last' = m := by omega
    obtain ⟨hu1, hu2⟩ := hu h0
    have hn : 1 ≤ n ∧ n ≤ 1099511627776 := by
      unfold noC at h6
      simp at h6
      omega
    refine .inr ⟨h0, by omega, by omega, hn.1, hn.2, h5, ?_⟩
    have hG2 := hG.later h4
    rcases hcase with ⟨hf, rfl, rfl, rfl⟩ | ⟨hf, hT⟩
    · rw [hf]
      exact ⟨⟨own', _, _, _, hM', hsm', ho', hG2, hN, hv'⟩, hrow, hbel, h.lim⟩
    · have hpass : (u : Int) + n ≤ limN C s := by
        unfold letB at hf
        simp at hf
        exact hf.2
      obtain ⟨k, rfl⟩ : ∃ k : Nat, n = k := ⟨n.toNat, by omega⟩
      have hMl : HMem (w.setCell ⟨C.h, 6, none⟩ (.int .i64 last')) own C last' L K Z := hM.noted h4 h3
      have hG3 := Gh.took hMl hG2 hT hu1 (by omega) (h.lim s).2 (by simpa using hpass) (by rw [hN]; exact hfew) (fun z hz y hy e => kw_only hM' hz hy e)
      rw [hf, if_pos rfl]
      refine ⟨⟨own', _, _, _, hM', hsm', ho', hG3, ?_, hv'⟩, hrow, hbel, h.lim⟩
      rw [hT.ns, hN]

/-- what is used, and near, beside it -/
theorem Bd.used (h : Bd w0 C last N T v w) (s : ByteArray) (hs : s.size ≤ 64) : ∃ u : Nat, HotQ.own C.q last s N ≤ u ∧ (nr C.q last s N : Int) ≤ limN C s ∧
    (∀ wx, Below w.heap.size w wx → Calls Tryz.prog 21 #[.pointer (some ⟨C.h, 0, none⟩), .int .i64 last, .string s] wx fun e w' => e = .returned (.tuple #[.int .i64 u, .int .i64 0]) ∧ Below wx.heap.size wx w') ∧
    (∀ wx, Below w.heap.size w wx → Calls Tryz.prog 18 #[.pointer (some ⟨C.h, 0, none⟩), .string s] wx fun e w' => e = .returned (.int .i64 (limN C s)) ∧ Below wx.heap.size wx w') := by
  obtain ⟨own, L, K, Z, hM, hsm, ho, hG, hN, hv⟩ := h.ex
  have hml : s.size ≤ maxLen := by unfold maxLen; omega
  obtain ⟨u, hu1, hu2⟩ := us_some hM last s
  have hE : hotE last last false s.size = 0 := by
    have := hM.late
    unfold hotE
    rw [if_neg (by simp; omega), if_neg (by omega), if_neg (by omega)]
  refine ⟨u, by rw [← hN]; exact Gh.used hM hG (Nat.le_refl _) hu1, by rw [← hN]; exact hG.near s last (Nat.le_refl _), fun wx hb => ?_, fun wx hb => Limit_any (hM.below hb) s hml⟩
  have := HMem.Used (hM.below hb) last s hml u (fun _ => by simpa using hu1)
  rw [hE, if_pos rfl] at this
  exact this

end Go.Proofs.YtbihelpnojjacaaGreat.HotR
