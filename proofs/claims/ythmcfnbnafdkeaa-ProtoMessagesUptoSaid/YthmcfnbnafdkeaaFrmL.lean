/- What must be whatever is asked: live. -/
import Derived.Test.YthmcfnbnafdkeaaFrmW
import Derived.Test.YthmcfnbnafdkeaaFrmY
import Derived.Lib.SlBytesConst
namespace Go.Proofs.Ythmcfnbnafdkeaa.FrmL
open Go.ChangeShapes Go.WideShapes Go.ChangeAt Go.RowKit Base Wri FrmP FrmA FrmB FrmC FrmD FrmE FrmF FrmQ FrmR FrmS FrmT FrmU FrmW FrmX FrmY
set_option linter.unusedVariables false
set_option linter.unusedSimpArgs false

/-- bytes laid in a block just now -/
theorem bat_new (w : World) (cs : Array Value) (s : Bs) (t : TypeId) (h : cs.toList = s.map bv) (n0 : Nat) (hn : w.heap.size < n0) (fr : Nat × Nat := (0, 0)) : BAt (w.alloc (.cells cs t fr)) n0 (some ⟨w.heap.size, 0, none⟩) s := fun _ => ⟨w.heap.size, 0, rfl, hn, fun i x hx => by
  unfold World.cell?
  rw [heap_alloc_new]
  have : cs.toList[0 + i]? = some (bv x) := by rw [h, Nat.zero_add, List.getElem?_map, hx]; rfl
  simpa using this⟩

theorem owns_bat {W : World} {B : Nat} {v : Value} {s : Bs} {n : Nat} (hn : n = s.length) (h : W.ownsRow B 5 1 v n (s.map bv)) : ∃ a c, v = .slice a s.length c ∧ BAt W W.heap.size a s ∧ (0 < s.length → ∃ g, a = some ⟨g, 0, none⟩ ∧ B ≤ g ∧ g < W.heap.size) := by
  subst hn
  have hlt := h.lt
  have hcl : ∀ g, v.ownBlock = some g → ∀ j u, (s.map bv)[j]? = some u → W.cell? ((⟨g, 0, none⟩ : Addr).add j) = some u := fun g e => h.cells e
  rcases h.2 with ⟨rfl, h0⟩ | ⟨g, cap, cur, rfl, hb, hh, hc, hm, hs, hcur⟩
  · exact ⟨none, 0, by rw [h0], fun h1 => by omega, fun h1 => by omega⟩
  · refine ⟨some ⟨g, 0, none⟩, cap, rfl, fun h1 => ⟨g, 0, rfl, (hlt g rfl).2, fun i x hx => ?_⟩, fun h1 => ⟨g, rfl, hb, (hlt g rfl).2⟩⟩
    have := hcl g rfl i (bv x) (by rw [List.getElem?_map, hx]; rfl)
    rwa [Go.WideShapes.add_plain] at this

/-- a list of bytes that no step writes to -/
theorem bat_wr {R : Nat → Prop} {W W' : World} {n0 : Nat} {a : Option Addr} {s : Bs} (h : BAt W n0 a s) (hw : Wr R W W') (hn : n0 ≤ W.heap.size) (hr : 0 < s.length → ∀ x, a = some x → ¬ R x.block) : BAt W' n0 a s := fun h0 => by
  obtain ⟨g, o, e, hg, hc⟩ := h h0
  exact ⟨g, o, e, hg, fun i x hx => (World.cell?_of_block (a := ⟨g, o + i, none⟩) (hw.block g (by omega) (hr h0 _ e))).trans (hc i x hx)⟩

theorem frame_ab (w : World) : Calls Try.prog 44 #[.slice (some ⟨w.heap.size, 0, none⟩) 2 2] (w.alloc (.cells #[.int .u8 97, .int .u8 98] 5 (2, 3)))
    fun e w' => ∃ gf fc, e = .returned (.tuple #[.slice (some ⟨gf, 0, none⟩) 6 fc, .int .i64 0]) ∧ w.heap.size ≤ gf ∧ gf < w'.heap.size ∧ BAt w' w'.heap.size (some ⟨gf, 0, none⟩) (frame [97, 98]) ∧ Below w.heap.size w w' := by
  have hA := bat_new w #[.int .u8 97, .int .u8 98] [97, 98] 5 rfl (w.heap.size + 1) (by omega) (2, 3)
  refine (frame_any (some ⟨w.heap.size, 0, none⟩) 2 [97, 98] (w.alloc (.cells #[.int .u8 97, .int .u8 98] 5 (2, 3))) (by simp) (by simp) (by omega) (hid (hA.mono (by simp)))).mono ?_
  rintro e w1 ⟨⟨v, he, h1, -⟩, hb1⟩
  have hx1 := (h1 first_ab).2
  obtain ⟨fa, fc, rfl, hfb, hfg⟩ := owns_bat rfl hx1
  have hfl : (frame [97, 98]).length = 6 := by decide
  obtain ⟨gf, rfl, hgf1, hgf2⟩ := hfg (by omega)
  rw [hfl, first_ab] at he
  exact ⟨gf, fc, he, by simp at hgf1; omega, hgf2, hfb, ((Below.refl _ w).alloc (Nat.le_refl _) _).trans (hb1.mono (by simp))⟩

theorem put_n (B p : Nat) (va : Value) (r : Rd) (a : Option Addr) (cap : Nat) (b : Bs) (n : Nat) (hn : b.length = n) (ps : List Bs) (r' : Rd) (hp : r.put b = (ps, r')) (w : World) (h : IsRd w B p va r) (hok : r.Ok) (hB : B ≤ w.heap.size) (hb : n ≤ 4398046507000) (hc : n ≤ cap) (hc2 : cap ≤ 9223372036854775807) (HB : Hid (BAt w w.heap.size a b))
    (hsep : 0 < n → ∀ x, a = some x → ¬ (x.block = p ∨ va.ownBlock = some x.block)) :
    Calls Try.prog 15 #[.pointer (some ⟨p, 0, none⟩), .slice a n cap] w fun e w' => ∃ row vs va', e = .returned (.tuple #[row, .int .i64 (r'.err)]) ∧ PutPost w B p va r' ps w' row vs va' := by
  subst hn
  have := put_any B p va r a cap b w h hok hB hb hc hc2 HB hsep
  rw [hp] at this
  exact this

theorem bat1 (w : World) : BAt (w.alloc (.cells #[.int .u8 0, .int .u8 0, .int .u8 0, .int .u8 2, .int .u8 97] 5)) (w.alloc (.cells #[.int .u8 0, .int .u8 0, .int .u8 0, .int .u8 2, .int .u8 97] 5)).heap.size (some ⟨w.heap.size, 0, none⟩) [0, 0, 0, 2, 97] :=
  bat_new w _ [0, 0, 0, 2, 97] 5 rfl _ (by simp)
theorem bat2 (w : World) : BAt (w.alloc (.cells #[.int .u8 98] 5)) (w.alloc (.cells #[.int .u8 98] 5)).heap.size (some ⟨w.heap.size, 0, none⟩) [98] := bat_new w _ [98] 5 rfl _ (by simp)
theorem bat3 (w : World) : BAt (w.alloc (.cells #[.int .u8 0, .int .u8 0, .int .u8 0, .int .u8 0] 5)) (w.alloc (.cells #[.int .u8 0, .int .u8 0, .int .u8 0, .int .u8 0] 5)).heap.size (some ⟨w.heap.size, 0, none⟩) [0, 0, 0, 0] := bat_new w _ [0, 0, 0, 0] 5 rfl _ (by simp)
theorem bat4 (w : World) : BAt (w.alloc (.cells #[.int .u8 0, .int .u8 0, .int .u8 0, .int .u8 2, .int .u8 97, .int .u8 98] 5)) (w.alloc (.cells #[.int .u8 0, .int .u8 0, .int .u8 0, .int .u8 2, .int .u8 97, .int .u8 98] 5)).heap.size (some ⟨w.heap.size, 0, none⟩) (frame [97, 98]) := bat_new w _ (frame [97, 98]) 5 (by rw [show frame [97, 98] = [0, 0, 0, 2, 97, 98] from by decide]; rfl) _ (by simp)

/-- the next Put, of bytes laid just now -/
theorem put_next (B p : Nat) (va : Value) (r : Rd) (b : Bs) (n : Nat) (hn : b.length = n) (ps : List Bs) (r' : Rd) (hp : r.put b = (ps, r')) (er : Int) (he : r'.err = er) (cs : Array Value) (w : World) (h : IsRd w B p va r) (hok : r.Ok) (hB : B ≤ w.heap.size) (hb : n ≤ 4398046507000)
    (HB : BAt (w.alloc (.cells cs 5)) (w.alloc (.cells cs 5)).heap.size (some ⟨w.heap.size, 0, none⟩) b) :
    Calls Try.prog 15 #[.pointer (some ⟨p, 0, none⟩), .slice (some ⟨w.heap.size, 0, none⟩) n n] (w.alloc (.cells cs 5)) fun e w' => ∃ ra rc vs va', e = .returned (.tuple #[.slice ra ps.length rc, .int .i64 er]) ∧ PutPost (w.alloc (.cells cs 5)) B p va r' ps w' (.slice ra ps.length rc) vs va' := by
  refine (put_n B p va r _ n b n hn ps r' hp _ (h.below ((Below.refl _ _).alloc (Nat.le_refl _) _)) hok (by simp; omega) hb (Nat.le_refl _) (by omega) (hid HB) (fun _ x e => by
    cases e
    rintro (h1 | h1)
    · have := h.lt; have : w.heap.size = p := h1; omega
    · have := (h.own.lt _ h1).2; have : w.heap.size < w.heap.size := this; omega)).mono ?_
  rintro e w' ⟨row, vs, va', h1, h2⟩
  obtain ⟨ra, rc, rfl⟩ := owns_shape h2.pls.own
  exact ⟨ra, rc, vs, va', he ▸ h1, h2⟩

/-- what was told stays, whatever the reader takes next -/
theorem pls_after {w W W' : World} {B p : Nat} {va va' row : Value} {r' : Rd} {ps : List Bs} {vs : List Value} (h : PutPost w B p va r' ps W row vs va') (hw : Wr (fun k => k = p ∨ va'.ownBlock = some k) W W') (hp : p < w.heap.size) : Pls W' B row vs ps := by
  have hpb := h.rd.blk
  refine h.pls.keep (fun g e => hw.block g (h.pls.own.lt g e).2 ?_) (fun v hv g e => ?_)
  · rintro (h1 | h1)
    · have h2 := h.rlow g e
      have h1 : g = p := h1
      omega
    · rcases h.pls.own.2 with ⟨e0, _⟩ | ⟨g', cap, cur, e0, _, hh, _⟩
      · rw [e0] at e; cases e
      · rw [e0] at e; cases e
        rcases h.rd.own.2 with ⟨e1, _⟩ | ⟨g2, cap2, cur2, e1, _, hh2, _⟩
        · rw [e1] at h1; cases h1
        · rw [e1] at h1; cases h1
          rw [hh] at hh2
          have := Option.some.inj hh2
          injection this with _ e3 _
          exact absurd e3 (by decide)
  · obtain ⟨g', cur, e', _, hu, hlt⟩ := h.pls.pay hv
    rw [e'] at e; cases e
    refine hw.block g hlt ?_
    rintro (h1 | h1)
    · have h1 : g = p := h1
      subst h1
      rw [hpb] at hu
      have := Option.some.inj hu
      injection this with _ e3 _
      exact absurd e3 (by decide)
    · exact h.alone v hv (by rw [e', h1])

theorem conv_ab (w : World) (g o cap : Nat) (h : ∀ i x, ([97, 98] : Bs)[i]? = some x → w.cell? ⟨g, o + i, none⟩ = some (bv x)) : (convert 28 9 (.slice (some ⟨g, o, none⟩) 2 cap)).run Try.prog w = .ok (.string ⟨#[97, 98]⟩) w := by
  rw [run_convert_bytes_string _ _ _ _ _ _ _ Try.underlying28 Try.underlying5 Try.underlying9]
  rw [run_bytesToString _ _ _ _ [97, 98] ?_]
  · rfl
  · exact run_loadCells_list (P := Try.prog) (w := w) ⟨g, o, none⟩ [.int .u8 97, .int .u8 98] (fun j v hj => by
      rw [Go.WideShapes.add_plain]
      match j, hj with
      | 0, hj => simp at hj; subst hj; exact h 0 97 rfl
      | 1, hj => simp at hj; subst hj; exact h 1 98 rfl
      | j + 2, hj => simp at hj)

set_option maxRecDepth 100000 in
set_option maxHeartbeats 2000000 in
theorem live_any (w : World) : Calls Try.prog 8 #[] w fun e w' => e = .returned (.bool true) ∧ Below w.heap.size w w' := by
  have kc : (convert 28 28 (.slice (some ⟨w.heap.size, 0, none⟩) 2 2)).run Try.prog (w.alloc (.cells #[.int .u8 97, .int .u8 98] 5)) = .ok (.slice (some ⟨w.heap.size, 0, none⟩) 2 2) (w.alloc (.cells #[.int .u8 97, .int .u8 98] 5 (2, 3))) :=
    Go.Lib.run_convert_bytes_const w 28 5 #[.int .u8 97, .int .u8 98] 2 2 Try.underlying28 Try.underlying5
  go_enter Try.func8, Try.ntmps8
  go_wp2_with fail
  refine (frame_ab w).mono ?_
  rintro e w1 ⟨gf, fc, rfl, hgf3, hgf2, hfb, hbel1⟩
  have HFB := hid hfb
  have HBL1 := hid hbel1
  clear kc hfb hbel1
  go_wp2_with fail
  refine (New_any w1).mono ?_
  rintro e w2 ⟨rfl, hw2⟩
  have hr2 : IsRd w2 w1.heap.size w1.heap.size (.slice none 0 0) Rd.zero := by rw [← hw2]; exact new_rd _ _
  have hb2 : Below w1.heap.size w1 w2 := by rw [← hw2]; exact (Below.refl _ _).alloc (Nat.le_refl _) _
  have hs2 : w2.heap.size = w1.heap.size + 1 := by rw [← hw2]; simp
  clear hw2
  obtain ⟨p, hp⟩ : ∃ p, w1.heap.size = p := ⟨_, rfl⟩
  rw [hp] at hr2 hs2 ⊢
  have HP1 := hid (put_next p p _ _ _ 5 rfl _ _ put1 0 rfl _ w2 hr2 Rd.zero_ok (by omega) (by omega) (bat1 w2))
  have hp2 : p < w2.heap.size := by omega
  have hg1 : gf < p := by omega
  have HB2 : Hid (Wr (fun k => p ≤ k) w1 (w2.alloc (.cells #[.int .u8 0, .int .u8 0, .int .u8 0, .int .u8 2, .int .u8 97] 5))) := hid (Wr.ofBelow ((hb2.mono (Nat.le_refl _)).alloc (by omega) _))
  clear hr2 hb2 hs2
  go_wp2_with fail
  refine HP1.out.mono ?_
  rintro e w3 ⟨ra3, rc3, vs3, va3, rfl, hpost3⟩
  have HQ3 := hid hpost3
  have HM := hid (missing_any p p va3 _ w3 hpost3.rd ok1)
  rw [miss1] at HM
  have HW3 : Hid (Wr (fun k => p ≤ k) w1 w3) := hid (Wr.on HB2.out hpost3.wr (fun k h => (by
    rcases h with h | h
    · left; show p ≤ k; have : k = p := h; omega
    · cases h)))
  have hva3 : ∀ g, va3.ownBlock = some g → p ≤ g := fun g e => by
    rcases hpost3.vlow g e with h | h
    · cases h
    · simp at h; omega
  have hs3 : p < w3.heap.size := Nat.lt_of_lt_of_le hp2 (by have := hpost3.wr.size; simp at this; omega)
  clear hpost3 HP1 HB2 hp2
  go_wp2_with fail
  refine HM.out.mono ?_
  rintro e w4 ⟨rfl, m4, hw4⟩
  have hr4 : IsRd w4 p p va3 ⟨[0, 0, 0, 2, 97], false⟩ := by rw [← hw4]; exact HQ3.out.rd.drewN m4
  have hW4 : Wr (fun k => p ≤ k) w1 w4 := by rw [← hw4]; exact HW3.out.drewN m4
  have hs4 : p < w4.heap.size := by rw [← hw4]; exact hs3
  have HP2 := hid (put_next p p _ _ _ 1 rfl _ _ put2 0 rfl _ w4 hr4 ok1 (by omega) (by omega) (bat2 w4))
  have HW4 : Hid (Wr (fun k => p ≤ k) w1 (w4.alloc (.cells #[.int .u8 98] 5))) := hid (Wr.on hW4 (Wr.ofBelow (R := fun k => p ≤ k) ((Below.refl _ _).alloc (Nat.le_refl _) _)) (fun k h => .inl h))
  clear hw4 hr4 hW4 HM HW3 HQ3 hs3
  go_wp2_with fail
  refine HP2.out.mono ?_
  rintro e w5 ⟨ra5, rc5, vs5, va5, rfl, hpost5⟩
  have HQ5 := hid hpost5
  have HW5 : Hid (Wr (fun k => p ≤ k) w1 w5) := hid (Wr.on HW4.out hpost5.wr (fun k h => (by
    rcases h with h | h
    · left; show p ≤ k; have : k = p := h; omega
    · left; exact hva3 k h)))
  have hva5 : ∀ g, va5.ownBlock = some g → p ≤ g := fun g e => by
    rcases hpost5.vlow g e with h | h
    · exact hva3 g h
    · simp at h; omega
  have hs5 : p < w5.heap.size := Nat.lt_of_lt_of_le hs4 (by have := hpost5.wr.size; simp at this; omega)
  have HP3 := hid (put_next p p _ _ _ 4 rfl _ _ put3 50 rfl _ w5 hpost5.rd ok2 (by omega) (by omega) (bat3 w5))
  clear hpost5 HP2 HW4
  go_wp2_with fail
  refine HP3.out.mono ?_
  rintro e w7 ⟨ra7, rc7, vs7, va7, rfl, hpost7⟩
  have hW57 : Wr (fun k => k = p ∨ va5.ownBlock = some k) w5 w7 := Wr.on (Wr.ofBelow ((Below.refl _ _).alloc (Nat.le_refl _) _)) hpost7.wr (fun k h => .inl h)
  have hpl7 := pls_after HQ5.out hW57 (by simp; omega)
  obtain ⟨gr, cr, er, _, hgr⟩ := hpl7.own.form (by decide)
  obtain ⟨rfl, rfl⟩ : ra5 = some ⟨gr, 0, none⟩ ∧ rc5 = cr := by injection er with h1 _ h2; exact ⟨h1, h2⟩
  obtain ⟨v0, hv0⟩ : ∃ v0, vs5[0]? = some v0 := by
    have hl := hpl7.len
    cases vs5 with
    | nil => simp at hl
    | cons x l => exact ⟨x, rfl⟩
  have hc0 := hpl7.own.cellAt 0 (by decide)
  rw [hv0] at hc0
  obtain ⟨gp, op, cp, rfl, hgp, _, _, hcp⟩ := (hpl7.each 0 v0 [97, 98] hv0 rfl).at_
  have hWA : Wr (fun k => p ≤ k) w1 w7 := Wr.on HW5.out hW57 (fun k h => (by
    rcases h with h | h
    · left; show p ≤ k; have : k = p := h; omega
    · left; exact hva5 k h))
  have hfb7 : BAt w7 w1.heap.size (some ⟨gf, 0, none⟩) (frame [97, 98]) := bat_wr HFB.out hWA (Nat.le_refl _) (fun _ x e => by cases e; show ¬ p ≤ gf; omega)
  have hs7 : w1.heap.size ≤ w7.heap.size := hWA.size
  have hb8 : Below w7.heap.size w7 (w7.alloc (.cells #[.int .u8 0, .int .u8 0, .int .u8 0, .int .u8 2, .int .u8 97, .int .u8 98] 5)) := (Below.refl _ _).alloc (Nat.le_refl _) _
  have HS := hid (same_bytes (some ⟨gf, 0, none⟩) (some ⟨w7.heap.size, 0, none⟩) fc 6 (frame [97, 98]) (w7.alloc (.cells #[.int .u8 0, .int .u8 0, .int .u8 0, .int .u8 2, .int .u8 97, .int .u8 98] 5)) (by decide) (hid ((hfb7.mono hs7).below hb8 |>.mono (by simp))) (hid (bat4 w7)))
  rw [show (frame [97, 98]).length = 6 from by decide] at HS
  have HK := hid (And.intro hc0 (And.intro hcp (And.intro hpost7.rd.cells.2.1 (And.intro hgr (And.intro hgp (And.intro hpost7.rd.lt hb8))))))
  have HEND : Hid (Below w.heap.size w w7) := hid (HBL1.out.trans (hWA.below _ HBL1.out.size (fun k h => by have h : p ≤ k := h; have := HBL1.out.size; omega)))
  clear hc0 hcp hpost7 hb8 hfb7 hWA hpl7 hW57 HP3 HFB HBL1 HW5 HQ5 er hva3 hva5
  go_wp2_with fail
  refine HS.out.mono ?_
  rintro e w9 ⟨rfl, m9, hw9⟩
  obtain ⟨hc0, hcp, hbr, hgr, hgp, hpl, hb8⟩ := HK.out
  have hb9 : Below w7.heap.size w7 w9 := by rw [← hw9]; exact ⟨hb8.os, hb8.tape, hb8.output, hb8.size, hb8.block⟩
  have z0 : w9.cell? ⟨gr, 0, none⟩ = some (.slice (some ⟨gp, op, none⟩) 2 cp) := (hb9.cell (p := ⟨gr, 0, none⟩) hgr).trans hc0
  have z1 : w9.cell? ⟨p, 1, none⟩ = some (.bool true) := (hb9.cell (p := ⟨p, 1, none⟩) hpl).trans hbr
  have kcv := conv_ab w9 gp op cp (fun i x hx => (hb9.cell (p := ⟨gp, op + i, none⟩) hgp).trans (hcp i x hx))
  have HBR := hid (broken_any p true w9 z1)
  have HB9 := hid hb9
  clear hc0 hcp hbr hb8 hw9 HK HS hb9
  go_wp2_with fail
  refine HBR.out.mono ?_
  rintro e w10 ⟨rfl, rfl⟩
  go_wp2_with fail
  go_ret
  exact ⟨rfl, HEND.out.trans (HB9.out.mono HEND.out.size)⟩

end Go.Proofs.Ythmcfnbnafdkeaa.FrmL
