/- The document's reader takes bytes. -/
import Derived.Test.YthmcfnbnafdkeaaFrmJ
import Derived.Test.YthmcfnbnafdkeaaFrmC2
import Derived.Deep.Upon
namespace Go.Proofs.Ythmcfnbnafdkeaa.FrmK
open Go.ChangeShapes Go.WideShapes Go.ChangeAt Go.RowKit Base Wri FrmP FrmA FrmD FrmE FrmF FrmQ FrmR FrmV FrmX FrmY FrmL FrmM FrmU FrmC2 FrmI FrmJ
set_option linter.unusedVariables false
set_option linter.unusedSimpArgs false
attribute [local go_sem ↓ high] builtin_app

/-- it is new, or nothing lies there -/
def New0 (a : Option Addr) (n B : Nat) : Prop := ∀ ad, a = some ad → n = 0 ∨ B ≤ ad.block

/-- what was cut out of bytes -/
def Cuts (w : World) (n0 : Nat) (vs : List Value) (ps : List Bs) : Prop := ∀ (i : Nat) v q, vs[i]? = some v → ps[i]? = some q → ∃ a c, v = .slice a q.length c ∧ BAt w n0 a q

/-- bytes appended to a row of one's own -/
theorem bytes_run (W : World) (B : Nat) (hB : B ≤ W.heap.size) (v : Value) (xs : List Value) (m : Nat) (hown : W.ownsRow B 5 1 v m xs) (n0 : Nat) (a : Option Addr) (s : Bs) (c : Nat) (hat : BAt W n0 a s) (n : Nat) (hn : n = s.length) (hsum : m + n ≤ 17592186044416) :
    ∃ oa oc w5, Sem.run Try.prog (app #[28, 28] 28 #[v, .slice a n c]) W = .ok (.slice oa (m + n) oc) w5 ∧ w5.ownsRow B 5 1 (.slice oa (m + n) oc) (m + n) (xs ++ s.map bv) ∧ W.grownBy w5 v.ownBlock := by
  subst hn
  obtain ⟨i0, hi, hz0, hz1, hz2⟩ := info_parts infoU8
  cases a with
  | none =>
    have h0 : s = [] := by
      cases s with
      | nil => rfl
      | cons x r => obtain ⟨g, o, e, _⟩ := hat (by simp); cases e
    subst h0
    obtain ⟨oa, oc, rfl⟩ := owns_shape hown
    have hle : m ≤ oc := by
      rcases hown.2 with ⟨e, h0⟩ | ⟨_, _, _, e, _, _, h0, _⟩
      · cases e; exact Nat.le_refl _
      · cases e; exact h0
    refine ⟨oa, oc, W, run_append_nothing (P := Try.prog) W 28 28 28 5 i0 Try.underlying28 hi oa m oc hle (.slice none 0 c) (Src.ofNil W Try.underlying28 c), by simpa using hown, ⟨rfl, rfl, rfl, Nat.le_refl _, fun _ _ _ => rfl⟩⟩
  | some ad =>
    obtain ⟨v', w1, hrun, hown', hgrow, _, _⟩ := run_append_own_at (P := Try.prog) W B 28 28 5 i0 (.int .u8 0) 1 1 Try.underlying28 hi hz0 hz1 hz2 rfl (by decide) v m xs hown ad s.length c (s.map bv) (by simp) (fun j u hu => by
      have hl := (List.getElem?_eq_some_iff.1 hu).1
      rw [List.length_map] at hl
      obtain ⟨g, o, e, _, hc⟩ := hat (by omega)
      cases e
      exact news_of hc j u hu) (one_cells s) (by unfold maxLen; omega) (by omega) hB
    obtain ⟨oa, oc, rfl⟩ := owns_shape hown'
    exact ⟨oa, oc, w1, hrun, hown', hgrow⟩

theorem empty_own (w : World) : (w.alloc (.cells #[] 5)).ownsRow w.heap.size 5 1 (.slice (some ⟨w.heap.size, 0, none⟩) 0 0) 0 [] :=
  ⟨rfl, .inr ⟨_, 0, _, rfl, Nat.le_refl _, heap_alloc_new _ _, Nat.le_refl _, by unfold maxLen; omega, rfl, rfl⟩⟩

theorem add_block (a : Addr) (n : Nat) : (a.add n).block = a.block := by
  unfold Addr.add
  split <;> rfl

/-- what a list becomes when its beginning is cut off; it lies where it lay -/
theorem slice_rest {W : World} {n0 : Nat} (ad : Option Addr) (cp q : Nat) (s : Bs) (hq : q ≤ s.length) (hc : s.length ≤ cp) (hba : BAt W n0 ad s) :
    ∃ ad' cp', (∀ wx, Sem.run Try.prog (Instr.sliceAt 28 (.slice ad s.length cp) (some (.int .i64 (q : Nat))) none none) wx = .ok (.slice ad' (s.drop q).length cp') wx) ∧ BAt W n0 ad' (s.drop q) ∧ (s.drop q).length ≤ cp' ∧ cp' ≤ cp ∧
      (ad' = none → ad = none) ∧ (∀ x, ad' = some x → ∃ y, ad = some y ∧ x.block = y.block) := by
  obtain ⟨j0, hu8, hy0, hu8s, hy2⟩ := info_parts infoU8
  have hrun : ∀ wx, Sem.run Try.prog (Instr.sliceAt 28 (.slice ad s.length cp) (some (.int .i64 (q : Nat))) none none) wx = .ok (.slice (if cp = q then ad else ad.map (·.add (q * 1))) (s.length - q) (cp - q)) wx := by
    intro wx
    have he : Try.prog.elem 28 = 5 := by kernel_rfl
    rw [run_sliceAt_slice _ _ _ _ _ _ (by rw [he]; exact Try.underlying28), run_slice_l _ _ _ _ _ (by rw [he]; exact Try.underlying28) _ _ (by omega) (by omega), he]
    simp [sizeOf, typeInfo, hu8, Result.andThen, sliced, hu8s]
  have hdl : (s.drop q).length = s.length - q := List.length_drop
  by_cases hcp : cp = q
  · refine ⟨ad, cp - q, fun wx => ?_, fun h0 => by omega, by omega, by omega, fun e => e, fun x e => ⟨x, e, rfl⟩⟩
    rw [hrun wx, if_pos hcp, hdl]
  · cases ad with
    | none => exact ⟨none, cp - q, fun wx => (by rw [hrun wx, if_neg hcp, hdl]; rfl), fun h0 => (by
        obtain ⟨g, o, e, _⟩ := hba (by omega)
        cases e), by omega, by omega, fun e => rfl, fun x e => by cases e⟩
    | some a =>
      refine ⟨some (a.add (q * 1)), cp - q, fun wx => (by rw [hrun wx, if_neg hcp, hdl]; rfl), fun h0 => ?_, by omega, by omega, fun e => (by cases e), fun x e => ⟨a, rfl, by rw [← Option.some.inj e, add_block]⟩⟩
      obtain ⟨g, o, e, hg, hc3⟩ := hba (by omega)
      cases e
      refine ⟨g, o + q, by rw [Nat.mul_one, Go.WideShapes.add_plain], hg, fun i x hx => ?_⟩
      rw [List.getElem?_drop] at hx
      rw [Nat.add_assoc]
      exact hc3 _ _ hx

theorem errOf_bad {s : Bs} (h : bad s = true) : errOf s = 50 := by
  obtain ⟨h1, h2⟩ := bad_iff.1 h
  have h3 : may s = false := by rw [may_long h1]; exact h2
  unfold errOf
  rw [if_neg (by omega), if_neg (by simp [h3])]
theorem errOf_fine {s : Bs} (h : bad s = false) (h4 : 4 ≤ s.length) : errOf s = 24 := by
  have h2 : ok4 s = true := by
    cases hc : ok4 s with
    | true => rfl
    | false => rw [bad_iff.2 ⟨h4, hc⟩] at h; cases h
  have h3 : may s = true := by rw [may_long h4]; exact h2
  unfold errOf
  rw [if_neg (by omega), if_pos h3]

theorem bat_ne {W : World} {n p l c : Nat} {a u : Option Addr} {b : Bool} {t : TypeId} {s : Bs} (h : BAt W n a s) (hp : W.heap[p]? = some (.cells #[.slice u l c, .bool b] t (0, 0))) (h0 : 0 < s.length) (ad : Addr) (e : a = some ad) : ad.block ≠ p := by
  obtain ⟨g, o, e2, _, hc⟩ := h h0
  rw [e] at e2
  cases e2
  rintro rfl
  obtain ⟨x, hx⟩ : ∃ x, s[0]? = some x := ⟨s[0], List.getElem?_eq_getElem h0⟩
  have h1 := hc 0 x hx
  unfold World.cell? at h1
  rw [hp] at h1
  match o, h1 with
  | 0, h1 => simp [bv] at h1
  | 1, h1 => simp [bv] at h1
  | o + 2, h1 => simp [bv] at h1

/-- what Put leaves once it has stored what it keeps -/
theorem put_left {w w2 w3 W' : World} {p n l c : Nat} {row : Value} {vs : List Value} {ps : List Bs} {u : Option Addr} {b : Bool} {t : TypeId} (hp : p < w.heap.size) (hs : w.heap.size ≤ w2.heap.size) (h23 : Below w2.heap.size w2 w3) (hbw : Below w.heap.size w w3)
    (hown : w3.ownsRow w2.heap.size 28 1 row n vs) (hcut : Cuts w2 w2.heap.size vs ps) (hblk : w3.heap[p]? = some (.cells #[.slice u l c, .bool b] t (0, 0))) (hwr : Wr (fun k => k = p) w3 W') :
    W'.ownsRow w.heap.size 28 1 row n vs ∧ Cuts W' W'.heap.size vs ps ∧ Wr (fun k => k = p) w W' ∧ ∀ ad R, BAt w2 w2.heap.size ad R → BAt W' W'.heap.size ad R := by
  have key : ∀ ad R, BAt w2 w2.heap.size ad R → BAt W' W'.heap.size ad R := fun ad R h h0 => by
    have h3 : BAt w3 w3.heap.size ad R := (h.below h23).mono h23.size
    obtain ⟨g, o, rfl, hg, hc⟩ := h3 h0
    have hne := bat_ne h3 hblk h0 _ rfl
    exact ⟨g, o, rfl, Nat.lt_of_lt_of_le hg hwr.size, fun i x hx => (World.cell?_of_block (a := ⟨g, o + i, none⟩) (hwr.block g hg hne)).trans (hc i x hx)⟩
  refine ⟨owns_low (owns_wr hown hwr (fun g e e2 => ?_)) hs, fun i v q h1 h2 => ?_, (Wr.ofBelow hbw).trans hwr, key⟩
  · have := (hown.lt g e).1
    have e2 : g = p := e2
    omega
  · obtain ⟨a, c, e, h3⟩ := hcut i v q h1 h2
    exact ⟨a, c, e, key a q h3⟩

set_option maxRecDepth 20000 in
set_option maxHeartbeats 4000000 in
theorem rput_core (p c bc : Nat) (a ba : Option Addr) (r : Rd) (b : Bs) (w : World) (h : IsDr w p a c r) (HBb : Hid (BAt w w.heap.size ba b)) (hsum : r.g.length + b.length ≤ 4398046511104) (hok : r.Ok)
    (HS : Hid (∀ (a3 : Option Addr) (c3 : Nat) (s : Bs) (w3 : World), s.length ≤ 4398046511104 → s.length ≤ c3 → c3 ≤ 9223372036854775807 → BAt w3 w3.heap.size a3 s →
      Calls Try.prog 47 #[.slice a3 s.length c3] w3 fun e w' => ∃ ra rc vs, e = .returned (.tuple #[.slice ra (sp s).1.length rc, .int .i64 (place (sp s).1 : Nat), .int .i64 (errOf (sp s).2)]) ∧ w'.ownsRow w3.heap.size 28 1 (.slice ra (sp s).1.length rc) (sp s).1.length vs ∧ Cuts w3 w3.heap.size vs (sp s).1 ∧ Below w3.heap.size w3 w')) :
    Calls Try.prog 16 #[.pointer (some ⟨p, 0, none⟩), .slice ba b.length bc] w fun e w' => ∃ ra rc vs a' c', e = .returned (.tuple #[.slice ra (r.put b).1.length rc, .int .i64 (if (r.put b).2.broken = true then 50 else 0)]) ∧
      w'.ownsRow w.heap.size 28 1 (.slice ra (r.put b).1.length rc) (r.put b).1.length vs ∧ Cuts w' w'.heap.size vs (r.put b).1 ∧ IsDr w' p a' c' (r.put b).2 ∧ New0 a' (r.put b).2.g.length w.heap.size ∧ Wr (fun k => k = p) w w' := by
  obtain ⟨x0, x1, f0, f1⟩ := h.cells
  obtain ⟨hr1, hr2⟩ := h.room
  have hp := h.lt
  cases hb : r.broken with
  | true =>
    have HP := hid (Rd.put_broken hb b)
    have HH := hid h
    have HN0 := hid (show r.g.length = 0 by rw [hok.nb hb]; rfl)
    rw [hb] at x1
    rw [HP.out, hb]
    generalize r.g.length = n at *
    generalize b.length = bn at *
    clear h
    go_enter Try.func16, Try.ntmps16
    go_wp2_with fail
    go_ret2
    exact ⟨none, 0, rfl, [], World.ownsRow_nil _ _ _ _, (fun i v q h => by simp at h), a, ⟨c, HH.out⟩, fun ad e => .inl HN0.out, Wr.refl _ _⟩
  | false =>
    rw [hb] at x1
    obtain ⟨oa1, oc1, w1, hrun1, hown1, hgrow1⟩ := bytes_run (w.alloc (.cells #[] 5)) w.heap.size (by simp) _ [] 0 (empty_own w) w.heap.size a r.g c (h.bytes.below ((Below.refl _ _).alloc (Nat.le_refl _) _)) r.g.length rfl (by omega)
    have hb1 : Below w.heap.size w w1 := Below.grown ((Below.refl _ _).alloc (Nat.le_refl _) _) hgrow1 (by simp) (fun g e => by cases e; exact Nat.le_refl _)
    obtain ⟨oa2, oc2, w2, hrun2, hown2, hgrow2⟩ := bytes_run w1 w.heap.size hb1.size _ _ _ hown1 w.heap.size ba b bc (HBb.out.below hb1) b.length rfl (by omega)
    have hb2 : Below w.heap.size w w2 := Below.grown hb1 hgrow2 hb1.size (fun g e => (hown1.lt g e).1)
    rw [Nat.zero_add] at *
    rw [List.nil_append, ← List.map_append] at hown2
    obtain ⟨S, hS⟩ : ∃ S, r.g ++ b = S := ⟨_, rfl⟩
    have hsl : r.g.length + b.length = S.length := by rw [← hS, List.length_append]
    rw [hS, hsl] at hown2
    rw [hsl] at hrun2 hsum
    have hown2c : S.length ≤ oc2 ∧ oc2 ≤ 9223372036854775807 ∧ (oa2 = none → oc2 = 0) ∧ BAt w2 w2.heap.size oa2 S ∧ (∀ ad, oa2 = some ad → w.heap.size ≤ ad.block) := by
      rcases hown2.2 with ⟨e1, e2⟩ | ⟨g, cap, cur, e1, e2, e3, e4, e5, e6, e7⟩
      · injection e1 with e3 e4 e5
        subst e3 e5
        exact ⟨by omega, by omega, fun _ => rfl, fun h0 => by omega, fun ad e => by cases e⟩
      · injection e1 with e3' e4' e5'
        subst e3' e5'
        unfold maxLen at e5
        refine ⟨e4, by omega, fun e => (by cases e), fun h0 => ⟨g, 0, rfl, (hown2.lt g rfl).2, fun i x hx => ?_⟩, fun ad e => by cases e; exact e2⟩
        have := hown2.cells (g := g) rfl i (bv x) (by rw [List.getElem?_map, hx]; rfl)
        rwa [Go.WideShapes.add_plain] at this
    obtain ⟨hd1, hd2, hd3, hd4, hd5⟩ := hown2c
    have HC := hid (HS.out oa2 oc2 S w2 hsum hd1 hd2 hd4)
    have hplace := sp_place S
    obtain ⟨ad', cp', hslice, hba', hle', hcp', hn', hbk'⟩ := slice_rest oa2 oc2 (place (sp S).1) S (by omega) hd1 hd4
    rw [← sp_drop S] at hslice hba' hle'
    have HY : Hid (∀ w3, Below w2.heap.size w2 w3 → w3.heap[p]? = some (.cells #[.slice a r.g.length c, .bool false] 76 (0, 0)) ∧ Below w.heap.size w w3) := hid (fun w3 hb3 => by
      have hbw : Below w.heap.size w w3 := hb2.trans (hb3.mono hb2.size)
      exact ⟨(hbw.block p hp).trans (by rw [← hb]; exact h.blk), hbw⟩)
    have HZ : Hid ((ad' = none → cp' = 0) ∧ ∀ x, ad' = some x → w.heap.size ≤ x.block) := hid ⟨fun e => by have := hd3 (hn' e); omega, fun x e => by
      obtain ⟨y, e2, e3⟩ := hbk' x e
      rw [e3]; exact hd5 y e2⟩
    have HBA := hid hba'
    have HSS := hid hS
    obtain ⟨R, hR⟩ : ∃ R, (sp S).2 = R := ⟨_, rfl⟩
    rw [hR] at HC hslice HBA hle' hplace
    have HRR := hid hR
    clear hown1 hgrow1 hown2 hgrow2 hb1 h hd3 hd4 hd5 hn' hbk' hba' hS hR
    cases hbad : bad R with
    | true =>
      have HP : Hid (r.put b = ((sp S).1, ⟨[], true⟩)) := hid (by rw [← HSS.out]; exact Rd.put_bad hb (by rw [HSS.out, HRR.out]; exact hbad))
      have hR4 := (bad_iff.1 hbad).1
      rw [errOf_bad hbad] at HC
      rw [HP.out]
      dsimp only
      generalize (sp S).1 = ps at *
      generalize R.length = Rn at *
      generalize S.length = Sn at *
      clear hbad
      go_enter Try.func16, Try.ntmps16
      go_wp2_with fail
      refine HC.out.mono ?_
      rintro e w3 ⟨ra, rc, vs, rfl, hown3, hcut3, hb3⟩
      obtain ⟨hblk3, hbw3⟩ := HY.out w3 hb3
      have z0 : w3.cell? ⟨p, 0, none⟩ = some (.slice a r.g.length c) := by simp [World.cell?, hblk3]
      have z1 : w3.cell? ⟨p, 1, none⟩ = some (.bool false) := by simp [World.cell?, hblk3]
      have zf0 : w3.frozen? ⟨p, 0, none⟩ = false := by simp [World.frozen?, hblk3]
      have zf1 : w3.frozen? ⟨p, 1, none⟩ = false := by simp [World.frozen?, hblk3]
      have H3 := hid (And.intro hown3 (And.intro hcut3 (And.intro hb3 (And.intro hblk3 hbw3))))
      clear hown3 hcut3 hb3 hblk3 hbw3 HC
      go_wp2_with fail
      all_goals first | (exfalso; omega) | skip
      all_goals go_ret2
      all_goals obtain ⟨k1, k2, k3, k4⟩ := put_left hp hb2.size H3.out.2.2.1 H3.out.2.2.2.2 H3.out.1 H3.out.2.1 H3.out.2.2.2.1 (((Wr.set (R := fun k => k = p) ⟨p, 0, none⟩ (.slice ad' Rn cp') rfl).trans (Wr.set ⟨p, 0, none⟩ (.slice none 0 0) rfl)).trans (Wr.set ⟨p, 1, none⟩ (.bool true) rfl))
      all_goals exact ⟨ra, rc, rfl, vs, k1, k2, none, ⟨0, ⟨blk_set1 (blk_set0 (blk_set0 H3.out.2.2.2.1)), fun h0 => absurd h0 (by decide), Nat.le_refl _, by omega⟩⟩, (fun ad e => by cases e), k3⟩
    | false =>
      have HP : Hid (r.put b = ((sp S).1, ⟨R, false⟩)) := hid (by rw [← HSS.out, ← HRR.out, ← HSS.out]; exact Rd.put_good hb (by rw [HSS.out, HRR.out]; exact hbad))
      rw [HP.out]
      have hRn : ∃ Rn E, R.length = Rn ∧ errOf R = E ∧ (Rn < 4 ∨ E = 24) := by
        refine ⟨_, _, rfl, rfl, ?_⟩
        rcases Nat.lt_or_ge R.length 4 with h4 | h4
        · exact .inl h4
        · exact .inr (errOf_fine hbad h4)
      obtain ⟨Rn, E, hRl, hE, hor⟩ := hRn
      have HRL := hid hRl
      rw [hE] at HC
      rw [hRl] at hle' hplace hslice
      dsimp only
      generalize (sp S).1 = ps at *
      generalize S.length = Sn at *
      clear hbad hRl hE
      have fin : ∀ (w3 : World) (ra : Option Addr) (rc : Nat) (vs : List Value), (w3.ownsRow w2.heap.size 28 1 (.slice ra ps.length rc) ps.length vs ∧ Cuts w2 w2.heap.size vs ps ∧ Below w2.heap.size w2 w3 ∧ w3.heap[p]? = some (.cells #[.slice a r.g.length c, .bool false] 76 (0, 0)) ∧ Below w.heap.size w w3) →
          ∃ vs', (w3.setCell ⟨p, 0, none⟩ (.slice ad' Rn cp')).ownsRow w.heap.size 28 1 (.slice ra ps.length rc) ps.length vs' ∧ Cuts (w3.setCell ⟨p, 0, none⟩ (.slice ad' Rn cp')) (w3.setCell ⟨p, 0, none⟩ (.slice ad' Rn cp')).heap.size vs' ps ∧
            ∃ a', (∃ c', IsDr (w3.setCell ⟨p, 0, none⟩ (.slice ad' Rn cp')) p a' c' ⟨R, false⟩) ∧ New0 a' Rn w.heap.size ∧ Wr (fun k => k = p) w (w3.setCell ⟨p, 0, none⟩ (.slice ad' Rn cp')) := by
        rintro w3 ra rc vs ⟨g1, g2, g3, g4, g5⟩
        obtain ⟨k1, k2, k3, k4⟩ := put_left hp hb2.size g3 g5 g1 g2 g4 (Wr.set (R := fun k => k = p) ⟨p, 0, none⟩ (.slice ad' Rn cp') rfl)
        exact ⟨vs, k1, k2, ad', ⟨cp', ⟨by rw [HRL.out]; exact blk_set0 g4, k4 _ _ HBA.out, by rw [HRL.out]; exact hle', by omega⟩⟩, fun ad e => .inr (HZ.out.2 ad e), k3⟩
      have FIN := hid fin
      clear fin
      go_enter Try.func16, Try.ntmps16
      go_wp2_with fail
      refine HC.out.mono ?_
      rintro e w3 ⟨ra, rc, vs, rfl, hown3, hcut3, hb3⟩
      obtain ⟨hblk3, hbw3⟩ := HY.out w3 hb3
      have z0 : w3.cell? ⟨p, 0, none⟩ = some (.slice a r.g.length c) := by simp [World.cell?, hblk3]
      have zf0 : w3.frozen? ⟨p, 0, none⟩ = false := by simp [World.frozen?, hblk3]
      have H3 := hid (And.intro hown3 (And.intro hcut3 (And.intro hb3 (And.intro hblk3 hbw3))))
      clear hown3 hcut3 hb3 hblk3 hbw3 HC
      go_wp2_with fail
      all_goals first | (exfalso; omega) | skip
      all_goals go_ret2
      all_goals exact ⟨ra, rc, rfl, by rw [HRL.out]; exact FIN.out w3 ra rc vs H3.out⟩

end Go.Proofs.Ythmcfnbnafdkeaa.FrmK
