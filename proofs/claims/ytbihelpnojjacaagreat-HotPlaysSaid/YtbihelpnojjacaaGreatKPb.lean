/- HotPlays: what is done with both. -/
import Derived.Test.YtbihelpnojjacaaGreatKRh
import Derived.Test.YtbihelpnojjacaaGreatKHb
import Derived.Deep.RegionHeld3
import Derived.Deep.DeepCutAuto

/- The program's rule of hot parameters and the document's, side by side: what ties them. -/
namespace Go.Proofs.YtbihelpnojjacaaGreat.RtA
open Go.ChangeShapes Go.WideShapes Go.ChangeAt Go.RowKit Base Wri LruA HotA HotB HotC HotD HotE HotF HotG HotH HotI HotJ HotK HotL HotM RefL RefM RwR RwS RwD RwF RwG RwE RhA RhB RhC RhD RhF RhG RhH
open WinM (Cnt joinM plusM)
open WinC (Bkt)
open WinD (stays)
open WinE (begN)
set_option linter.unusedVariables false

/-- a window of the program's and one of the document's -/
structure WT (q : Nat) (s : Wn) (t : Nat) (L : List Bkt) : Prop where
  bs : s.bs = stays ((begN q t : Int) - (10 * q : Nat) + q) L
  rise : L.Pairwise fun a b => a.at_ < b.at_
  high : ∀ x ∈ L, x.at_ ≤ begN q t
  grid : ∀ x ∈ L, ∃ k : Nat, x.at_ = (k * q : Nat)
  fine : ∀ x ∈ L, x.c.Fine

theorem stays_stays {a b : Int} (h : a ≤ b) (L : List Bkt) : stays b (stays a L) = stays b L := by
  unfold stays
  rw [List.filter_filter]
  refine List.filter_congr fun x _ => ?_
  by_cases e : x.at_ < b
  · simp [e]
  · have : ¬ x.at_ < a := by omega
    simp [e, this]

theorem join0 {c : Cnt} (h : c.Fine) : joinM ⟨0, 0, 0, 0, 0, 0⟩ c = c := RwA.join0 h

theorem noteR_eq {b : Int} {c : Cnt} (hc : c.Fine) (L : List Bkt) : noteR b c L = WinH.noteM b c L := by
  unfold noteR WinH.noteM
  cases L.getLast? with
  | none => simp only [join0 hc]
  | some x => simp only [join0 hc]

theorem note_stays {b lim : Int} {c : Cnt} (hl : lim ≤ b) {L : List Bkt} (hr : L.Pairwise fun a b => a.at_ < b.at_) (hh : ∀ x ∈ L, x.at_ ≤ b) : WinH.noteM b c (stays lim L) = stays lim (WinH.noteM b c L) := by
  rcases List.eq_nil_or_concat L with rfl | ⟨L0, x, rfl⟩
  · have : ¬ b < lim := by omega
    simp [stays, WinH.noteM, this]
  · rw [List.concat_eq_append] at *
    have hb : ¬ b < lim := by omega
    have e0 : WinH.noteM b c (L0 ++ [x]) = if x.at_ = b then L0 ++ [⟨b, joinM x.c c⟩] else (L0 ++ [x]) ++ [⟨b, joinM ⟨0, 0, 0, 0, 0, 0⟩ c⟩] := by
      unfold WinH.noteM
      rw [List.getLast?_append]
      simp
    have es : ∀ y : Bkt, stays lim (L0 ++ [y]) = stays lim L0 ++ (if y.at_ < lim then [] else [y]) := fun y => by
      unfold stays
      rw [List.filter_append]
      by_cases e : y.at_ < lim <;> simp [e]
    by_cases hx : x.at_ < lim
    · have hall : stays lim L0 = [] := by
        unfold stays
        rw [List.filter_eq_nil_iff]
        intro y hy
        have := (List.pairwise_append.1 hr).2.2 y hy x (List.mem_singleton.2 rfl)
        have : y.at_ < lim := by omega
        simp [this]
      rw [es x, if_pos hx, hall, e0, if_neg (by omega)]
      show WinH.noteM b c [] = stays lim ((L0 ++ [x]) ++ [_])
      unfold stays at *
      rw [List.filter_append, List.filter_append, hall]
      simp [WinH.noteM, hx, hb]
    · rw [es x, if_neg hx, e0]
      have e1 : WinH.noteM b c (stays lim L0 ++ [x]) = if x.at_ = b then stays lim L0 ++ [⟨b, joinM x.c c⟩] else (stays lim L0 ++ [x]) ++ [⟨b, joinM ⟨0, 0, 0, 0, 0, 0⟩ c⟩] := by
        unfold WinH.noteM
        rw [List.getLast?_append]
        simp
      rw [e1]
      by_cases hxb : x.at_ = b
      · rw [if_pos hxb, if_pos hxb, es, if_neg hb]
      · rw [if_neg hxb, if_neg hxb]
        unfold stays at *
        rw [List.filter_append, List.filter_append]
        simp [hx, hb]

/-- both windows told of the same counts -/
theorem WT.add {q : Nat} {s : Wn} {t t' : Nat} {L : List Bkt} (h : WT q s t L) (hw : s.width = 10 * q) (ht : t ≤ t') {c : Cnt} (hc : c.Fine) :
    WT q (WinH.addM q s t' c) t' (noteR ((begN q t' : Nat) : Int) c L) := by
  have hm := WinN.begN_mono (q := q) ht
  obtain ⟨kg, hkg⟩ := WinN.begN_grid q t'
  have hh : ∀ x ∈ L, x.at_ ≤ (begN q t' : Nat) := fun x hx => by have := h.high x hx; omega
  rw [noteR_eq hc]
  have hmem : ∀ x ∈ WinH.noteM ((begN q t' : Nat) : Int) c L, x ∈ L ∨ (x.at_ = (begN q t' : Nat) ∧ x.c.Fine) := by
    rw [← noteR_eq hc]
    intro x hx
    have hf := noteR_fine (b := ((begN q t' : Nat) : Int)) hc h.fine x hx
    unfold noteR at hx
    rcases List.eq_nil_or_concat L with rfl | ⟨L0, y, rfl⟩
    · simp at hx; subst hx; exact .inr ⟨rfl, hf⟩
    · rw [List.concat_eq_append] at *
      simp only [List.getLast?_append, List.getLast?_singleton, Option.some_or] at hx
      split at hx
      · simp at hx
        rcases hx with hx | rfl
        · exact .inl (List.mem_append_left _ hx)
        · exact .inr ⟨rfl, hf⟩
      · rcases List.mem_append.1 hx with hx | hx
        · exact .inl hx
        · obtain rfl := List.mem_singleton.1 hx; exact .inr ⟨rfl, hf⟩
  refine ⟨?_, ?_, fun x hx => ?_, fun x hx => ?_, fun x hx => ?_⟩
  · show WinH.noteM (begN q t') c (stays ((begN q t' : Int) - s.width + q) s.bs) = _
    rw [hw, h.bs, stays_stays (by omega)]
    exact note_stays (by omega) h.rise hh
  · rw [← noteR_eq hc]
    unfold noteR
    rcases List.eq_nil_or_concat L with rfl | ⟨L0, y, rfl⟩
    · simp
    · rw [List.concat_eq_append] at *
      simp only [List.getLast?_append, List.getLast?_singleton, Option.some_or]
      obtain ⟨r1, r2, r3⟩ := List.pairwise_append.1 h.rise
      split
      · rename_i e
        rw [List.dropLast_concat]
        refine List.pairwise_append.2 ⟨r1, by simp, fun a ha b hb => ?_⟩
        obtain rfl := List.mem_singleton.1 hb
        have := r3 a ha y (List.mem_singleton.2 rfl)
        show a.at_ < ((begN q t' : Nat) : Int)
        omega
      · rename_i e
        refine List.pairwise_append.2 ⟨h.rise, by simp, fun a ha b hb => ?_⟩
        obtain rfl := List.mem_singleton.1 hb
        show a.at_ < ((begN q t' : Nat) : Int)
        have h1 := hh a ha
        have h2 := hh y (List.mem_append_right _ (List.mem_singleton.2 rfl))
        rcases List.mem_append.1 ha with ha | ha
        · have := r3 a ha y (List.mem_singleton.2 rfl); omega
        · obtain rfl := List.mem_singleton.1 ha; omega
  · rcases hmem x hx with h1 | h1
    · exact hh x h1
    · omega
  · rcases hmem x hx with h1 | h1
    · exact h.grid x h1
    · exact ⟨kg, by rw [h1.1, hkg]⟩
  · rcases hmem x hx with h1 | h1
    · exact h.fine x h1
    · exact h1.2

theorem WT.fresh (q : Nat) : WT q ⟨10 * q, 10, 0, []⟩ 0 [] := ⟨rfl, List.Pairwise.nil, (fun _ h => by cases h), (fun _ h => by cases h), (fun _ h => by cases h)⟩

theorem fold_pass : ∀ (M : List Bkt) (c : Cnt), (M.foldl (fun c x => joinM c x.c) c).pass = M.foldl (fun a x => plusM a x.c.pass) c.pass
  | [], c => rfl
  | x :: M, c => fold_pass M (joinM c x.c)
theorem plus0 {a : Int} (h : WinM.InN a) : plusM a 0 = a := by unfold plusM; rw [if_neg (by have := h.2; omega)]; omega
theorem fold_zero (p : Bkt → Bool) : ∀ (M : List Bkt) (a : Int), WinM.InN a → (∀ x ∈ M, x.c.Fine) → (∀ x ∈ M, p x = false → x.c.pass = 0) → (M.filter p).foldl (fun a x => plusM a x.c.pass) a = M.foldl (fun a x => plusM a x.c.pass) a
  | [], a, _, _, _ => rfl
  | x :: M, a, ha, hf, hz => by
    have hx := hf x (List.mem_cons_self ..)
    have ha2 : WinM.InN (plusM a x.c.pass) := (WinM.joinM_fine (a := ⟨a, 0, 0, 0, 0, 0⟩) (b := x.c) (by refine ⟨ha, ?_, ?_, ?_, ?_, ?_⟩ <;> simp [WinM.InN]) hx).1
    have ih := fun a ha => fold_zero p M a ha (fun y hy => hf y (List.mem_cons_of_mem _ hy)) (fun y hy => hz y (List.mem_cons_of_mem _ hy))
    rw [List.filter_cons]
    cases hp : p x with
    | true => rw [if_pos rfl]; exact ih _ ha2
    | false =>
      rw [if_neg (by simp)]
      show _ = M.foldl _ (plusM a x.c.pass)
      rw [hz x (List.mem_cons_self ..) hp, plus0 ha]
      exact ih _ ha

/-- both tell of the same sum -/
theorem WT.pass {q : Nat} {s : Wn} {t T : Nat} {L : List Bkt} (h : WT q s t L) (hw : s.width = 10 * q) (hq : 0 < q) (ht : t ≤ T) : (sumB (L.filter (tells q (10 * q) T))).pass = (passW q s T).pass := by
  have hm := WinN.begN_mono (q := q) ht
  obtain ⟨kg, hkg⟩ := WinN.begN_grid q T
  unfold passW
  rw [hw, h.bs, stays_stays (by omega)]
  have e : L.filter (tells q (10 * q) T) = (stays ((begN q T : Int) - (10 * q : Nat) + q) L).filter fun x => !zeroC x.c := by
    unfold stays
    rw [List.filter_filter]
    refine List.filter_congr fun x hx => ?_
    obtain ⟨k, hk⟩ := h.grid x hx
    unfold tells
    have : decide (((begN q T : Nat) : Int) - (10 * q : Nat) < x.at_) = !decide (x.at_ < (begN q T : Int) - (10 * q : Nat) + q) := by
      rw [hk, hkg]
      by_cases h1 : ((k * q : Nat) : Int) < ((kg * q : Nat) : Int) - (10 * q : Nat) + q
      · have h3 : ¬ (((kg * q : Nat) : Int) - (10 * q : Nat) < ((k * q : Nat) : Int)) := by
          intro h4
          have h5 : kg * q < (k + 10) * q := by rw [Nat.add_mul]; omega
          have h6 : (k + 10) * q < (kg + 1) * q := by rw [Nat.add_mul, Nat.add_mul]; omega
          have h7 := Nat.lt_of_mul_lt_mul_right h5
          have h8 := Nat.lt_of_mul_lt_mul_right h6
          omega
        rw [decide_eq_false h3, decide_eq_true h1]; rfl
      · have h3 : (((kg * q : Nat) : Int) - (10 * q : Nat) < ((k * q : Nat) : Int)) := by omega
        rw [decide_eq_true h3, decide_eq_false h1]; rfl
    rw [this]
    exact Bool.and_comm _ _
  rw [e]
  have hs : ∀ M : List Bkt, WinK.sumM M = sumB M := fun M => rfl
  rw [hs]
  unfold sumB
  rw [fold_pass, fold_pass]
  exact fold_zero _ _ _ (by simp [WinM.InN]) (fun x hx => h.fine x (List.mem_filter.1 hx).1) (fun x _ hx => by
    have : zeroC x.c = true := by simpa using hx
    rw [zeroC_eq this])

end Go.Proofs.YtbihelpnojjacaaGreat.RtA

/- The program's rule of hot parameters and the document's, side by side. -/
namespace Go.Proofs.YtbihelpnojjacaaGreat.RtB
open Go.ChangeShapes Go.WideShapes Go.ChangeAt Go.RowKit Base Wri LruA HotA HotB HotC HotD HotE HotF HotG HotH HotI HotJ HotK HotL HotM RefL RefM RwR RwS RwD RwF RwG RwE RhA RhB RhC RhD RhE RhF RhG RhH RhK RtA
open WinM (Cnt joinM plusM)
open WinC (Bkt)
open WinE (begN)
set_option linter.unusedVariables false

structure Tie (C : HC) (D : RC) (last : Nat) (L : List LruC.Ent) (K : List KW) (Z : SK) (S : RS) : Prop where
  q : C.q = D.q
  seed : C.seed = D.seed
  most : C.S.most = D.most
  lim : ∀ s, limN C s = limR D s
  noted : S.noted = last
  keys : L.map LruC.Ent.k = S.ps.map Prod.fst
  ns : Z.ns = S.rs
  wins : ∀ x ∈ K, x.s.width = 10 * C.q ∧ ∃ y ∈ S.K, y.k = x.k ∧ WT D.q x.s x.t y.L
  late : ∀ x ∈ K, x.t ≤ last
  same : Same L K
  both : Both S

variable {C : HC} {D : RC} {last : Nat} {L L' : List LruC.Ent} {K K' : List KW} {Z Z' : SK} {S S' : RS}

theorem Tie.here (h : Tie C D last L K Z S) (s : ByteArray) : (∃ x ∈ K, x.k = s) ↔ s ∈ S.K.map RW.k := by
  rw [← h.both.same s, ← h.keys, ← h.same s]
  exact ⟨fun ⟨e, h1, h2⟩ => List.mem_map.2 ⟨e, h1, h2⟩, fun h1 => by obtain ⟨e, h2, h3⟩ := List.mem_map.1 h1; exact ⟨e, h2, h3⟩⟩

theorem win_of {Kr : List RW} (hn : (Kr.map RW.k).Nodup) {y : RW} (hy : y ∈ Kr) : winR Kr y.k = some y := by
  cases hw : winR Kr y.k with
  | none => exact absurd (List.mem_map.2 ⟨y, hy, rfl⟩) (win_none hw)
  | some z =>
    obtain ⟨hz, hk⟩ := win_mem hw
    congr 1
    obtain ⟨i, hi1, hi2⟩ := List.getElem_of_mem hy
    obtain ⟨j, hj1, hj2⟩ := List.getElem_of_mem hz
    have e1 : (Kr.map RW.k)[i]'(by simpa using hi1) = (Kr.map RW.k)[j]'(by simpa using hj1) := by rw [List.getElem_map, List.getElem_map, hi2, hj2, hk]
    have := (List.getElem_inj hn).1 e1
    subst this
    rw [← hi2, ← hj2]

/-- both tell the same of what counts as used -/
theorem Tie.used (h : Tie C D last L K Z S) (hn : (S.K.map RW.k).Nodup) (hq : 0 < D.q) {t : Nat} (ht : last ≤ t) (s : ByteArray) : ∃ u : Nat, usedR D S t s = u ∧ Us C K Z t s u := by
  have hu0 : 0 ≤ usedR D S t s := by
    unfold usedR
    cases hw : winR S.K s with
    | some y =>
      obtain ⟨hy, hyk⟩ := win_mem hw
      obtain ⟨x, hx, hxk⟩ := (h.here s).2 (List.mem_map.2 ⟨y, hy, hyk⟩)
      obtain ⟨hw2, z, hz, hzk, hwt⟩ := h.wins x hx
      have : winR S.K s = some z := by rw [← hxk, ← hzk]; exact win_of hn hz
      rw [hw] at this
      cases this
      have := sumB_fine (y.L.filter (tells D.q (10 * D.q) t)) fun b hb => hwt.fine b (List.mem_filter.1 hb).1
      exact this.1.1
    | none => simp
  obtain ⟨u, hu⟩ : ∃ u : Nat, usedR D S t s = u := ⟨(usedR D S t s).toNat, by omega⟩
  refine ⟨u, hu, ?_⟩
  cases hw : winR S.K s with
  | some y =>
    obtain ⟨hy, hyk⟩ := win_mem hw
    obtain ⟨x, hx, hxk⟩ := (h.here s).2 (List.mem_map.2 ⟨y, hy, hyk⟩)
    obtain ⟨hw2, z, hz, hzk, hwt⟩ := h.wins x hx
    have : winR S.K s = some z := by rw [← hxk, ← hzk]; exact win_of hn hz
    rw [hw] at this
    cases this
    refine .inl ⟨x, hx, hxk, ?_⟩
    rw [← hu]
    unfold usedR
    rw [hw]
    have := hwt.pass (by rw [hw2, h.q]) hq (Nat.le_trans (h.late x hx) ht)
    rw [h.q]
    exact this
  | none =>
    refine .inr ⟨fun x hx e => win_none hw ((h.here s).1 ⟨x, hx, e⟩), ?_⟩
    have hX : hX C = rX D := by unfold hX rX; rw [h.q, h.seed]
    have h1 : ((u : Nat) : Int) = ((SkL.estN D.q (rX D) S.rs t s : Nat) : Int) := by rw [← hu]; unfold usedR; rw [hw]
    rw [h.q, hX, h.ns]
    exact Int.ofNat.inj h1

theorem err_one (last : Nat) (t n : Int) (s : ByteArray) : hotE last t (noC n) s.size = refH last t s n := by
  unfold hotE refH noC
  by_cases h1 : t < 0 ∨ 1152921504606846976 < t ∨ n < 1 ∨ 1099511627776 < n
  · rw [if_pos h1, if_pos (by simpa using h1)]
  · rw [if_neg h1, if_neg (by simpa using h1)]
theorem err_nil (last : Nat) (t : Int) (s : ByteArray) : hotE last t false s.size = refH last t s 1 := by
  unfold hotE refH
  by_cases h1 : t < 0 ∨ 1152921504606846976 < t
  · rw [if_pos (by rcases h1 with h | h; exact .inl h; exact .inr (.inl h)), if_pos (by rcases h1 with h | h; exact .inl h; exact .inr (.inl h))]
  · have e1 : ¬ (t < 0 ∨ 1152921504606846976 < t ∨ false = true) := by simp; omega
    have e2 : ¬ (t < 0 ∨ 1152921504606846976 < t ∨ (1 : Int) < 1 ∨ (1099511627776 : Int) < 1) := by omega
    rw [if_neg e1, if_neg e2]

theorem unique_k {A : Type} {k : A → ByteArray} {l : List A} (hn : (l.map k).Nodup) {x y : A} (hx : x ∈ l) (hy : y ∈ l) (e : k x = k y) : x = y := by
  obtain ⟨i, hi1, hi2⟩ := List.getElem_of_mem hx
  obtain ⟨j, hj1, hj2⟩ := List.getElem_of_mem hy
  have e1 : (l.map k)[i]'(by simpa using hi1) = (l.map k)[j]'(by simpa using hj1) := by rw [List.getElem_map, List.getElem_map, hi2, hj2, e]
  have := (List.getElem_inj hn).1 e1
  subst this
  rw [← hi2, ← hj2]

theorem let_eq (hl : ∀ s, limN C s = limR D s) {t : Int} {s : ByteArray} {n : Int} {u : Nat} (hu : hotE last t (noC n) s.size = 0 → usedR D S t.toNat s = u) (hno : S.noted = last) : letB C last t s n u = (decide (refH S.noted t s n = 0) && letR D S t.toNat s n) := by
  unfold letB letR
  rw [hno, ← err_one, hl s]
  by_cases h : hotE last t (noC n) s.size = 0
  · rw [hu h]
    congr 1
    by_cases h2 : (u : Int) + n ≤ limR D s
    · rw [decide_eq_true h2, decide_eq_true (by omega)]
    · rw [decide_eq_false h2, decide_eq_false (by omega)]
  · rw [decide_eq_false h]; rfl

/-- both come on -/
theorem Tie.took (h : Tie C D last L K Z S) {t : Nat} {s : ByteArray} {n u : Nat} (ht : last ≤ t) (hn1 : 1 ≤ n) (hn : n ≤ 1099511627776) (hu : usedR D S t s = u) (hu2 : u ≤ 4611686018427387904) (hkn0 : (S.K.map RW.k).Nodup) (hkn' : (K'.map KW.k).Nodup) (hp : Took C L K Z t s n u L' K' Z') (hr : TookR D S t s n S') (hll : L.length = S.ps.length) : Tie C D t L' K' Z' S' := by
  have hkeys : L'.map LruC.Ent.k = S'.ps.map Prod.fst := by
    rw [hp.keys, hr.keys, h.keys, h.most, hll]
    by_cases e : ∃ x ∈ K, x.k = s
    · have e2 : ∃ x ∈ S.K, x.k = s := by obtain ⟨y, h1, h2⟩ := List.mem_map.1 ((h.here s).1 e); exact ⟨y, h1, h2⟩
      rw [if_pos (.inl e), if_pos (.inl e2)]
    · have e2 : ¬ ∃ x ∈ S.K, x.k = s := fun ⟨y, h1, h2⟩ => e ((h.here s).2 (List.mem_map.2 ⟨y, h1, h2⟩))
      by_cases e3 : S.ps.length < D.most
      · rw [if_pos (.inr e3), if_pos (.inr e3)]
      · rw [if_neg (by rintro (h1 | h1); exact e h1; exact e3 h1), if_neg (by rintro (h1 | h1); exact e2 h1; exact e3 h1)]
  have hfin : (⟨(n : Int), 0, 0, 0, 0, 0⟩ : Cnt).Fine := (pass_right (by omega) (by omega)).1
  have hfu : (⟨(u : Int), 0, 0, 0, 0, 0⟩ : Cnt).Fine := (pass_right (by omega) (by omega)).1
  refine { q := h.q, seed := h.seed, most := h.most, lim := h.lim, noted := hr.nt, keys := hkeys, ns := by rw [hp.ns, hr.rs, h.ns], wins := fun x hx => ?_, late := fun x hx => ?_, same := hp.same, both := hr.both }
  · obtain ⟨y, hy, hyk, hyt, hys⟩ := hp.mine
    obtain ⟨z, hz, hzk, hzt, hzs⟩ := hr.mine
    by_cases e : x.k = s
    · have hxy : x = y := unique_k hkn' hx hy (e.trans hyk.symm)
      subst hxy
      have hthere := h.here s
      rcases hys with ⟨x0, hx0, hx0k, hxs⟩ | ⟨hno, hxs⟩
      · obtain ⟨hw0, y0, hy0, hy0k, hwt⟩ := h.wins x0 hx0
        rcases hzs with ⟨y1, hy1, hy1k, hzL⟩ | ⟨hno2, -⟩
        · have hyy : y0 = y1 := unique_k hkn0 hy0 hy1 ((hy0k.trans hx0k).trans hy1k.symm)
          subst hyy
          refine ⟨by rw [hxs]; exact hw0, z, hz, hzk.trans e.symm, ?_⟩
          rw [hxs, hyt, hzL, h.q]
          exact hwt.add (by rw [hw0, h.q]) (Nat.le_trans (h.late x0 hx0) ht) hfin
        · exact absurd (hy0k.trans hx0k) (hno2 y0 hy0)
      · rcases hzs with ⟨y1, hy1, hy1k, hzL⟩ | ⟨hno2, hzL⟩
        · obtain ⟨x1, hx1, hx1k⟩ := hthere.2 (List.mem_map.2 ⟨y1, hy1, hy1k⟩)
          exact absurd hx1k (hno x1 hx1)
        · rw [hu] at hzL
          have hb : WT D.q (begunW C.q t u) t (noteR ((begN D.q t : Nat) : Int) (passC u) []) := by
            unfold begunW
            rw [h.q]
            exact (WT.fresh D.q).add rfl (Nat.zero_le _) hfu
          refine ⟨by rw [hxs]; rfl, z, hz, hzk.trans e.symm, ?_⟩
          rw [hxs, hyt, hzL, h.q]
          refine WT.add ?_ rfl (Nat.le_refl _) hfin
          rw [← h.q] at hb ⊢
          exact hb
    · have hx1 := (hp.others x e).1 hx
      obtain ⟨hw0, y0, hy0, hy0k, hwt⟩ := h.wins x hx1.1
      refine ⟨hw0, y0, (hr.others y0 (by rw [hy0k]; exact e)).2 ⟨hy0, ?_⟩, hy0k, hwt⟩
      rw [hy0k, ← hkeys]
      obtain ⟨en, he1, he2⟩ := hx1.2
      exact List.mem_map.2 ⟨en, he1, he2⟩
  · by_cases e : x.k = s
    · obtain ⟨y, hy, hyk, hyt, -⟩ := hp.mine
      rw [unique_k hkn' hx hy (e.trans hyk.symm), hyt]
      exact Nat.le_refl _
    · exact Nat.le_trans (h.late x ((hp.others x e).1 hx).1) ht

end Go.Proofs.YtbihelpnojjacaaGreat.RtB

/- The program's rule of hot parameters and the document's, side by side in memory. -/
namespace Go.Proofs.YtbihelpnojjacaaGreat.RtC
open Go.ChangeShapes Go.WideShapes Go.ChangeAt Go.RowKit Base Wri LruA HotA HotB HotC HotD HotE HotF HotG HotH HotI HotJ HotK HotL HotM RefL RefM RwR RwS RwD RwF RwG RwE RhA RhB RhC RhD RhE RhF RhG RhH RhK RtA RtB
set_option linter.unusedVariables false

theorem hkeep {w w' : World} {own : Nat → Tg} {C : HC} {last : Nat} {L : List LruC.Ent} {K : List KW} {Z : SK} (h : HMem w own C last L K Z) {R : Nat → Prop} (hw : Wr R w w') (hR : ∀ k, k < w.heap.size → R k → own k = .non) : HMem w' own C last L K Z := by
  have hw2 : Wr (fun k => own k = .non) w w' := ⟨hw.os, hw.tape, hw.output, hw.size, fun k hk h1 => hw.block k hk (fun h2 => h1 (hR k hk h2))⟩
  obtain ⟨c0, c1, c2, c3, c4, c5⟩ := h.carry .non hw2
  exact { head := (c0 (by simp)).trans h.head, items := c1 (by simp), lru := c2 (by simp), wins := c3 (by simp), kn := h.kn, wok := fun x hx => c4 x hx (by simp), sk := c5 (by simp), skt := h.skt, late := h.late, q0 := h.q0, q1 := h.q1, oh := h.oh, oi := h.oi, ol := h.ol, ow := h.ow, os := h.os, ox := h.ox }

/-- whose a block is, is clear -/
structure Apart (B : Nat) (ownP ownD : Nat → Tg) : Prop where
  one : ∀ k, ownP k ≠ .non → ownD k = .non
  old : ∀ k, k < B → ownP k = .non ∧ ownD k = .non

/-- both as they stand -/
structure Two (B : Nat) (w0 : World) (C : HC) (D : RC) (d : Nat) (w : World) (ownP ownD : Nat → Tg) (last : Nat) (L : List LruC.Ent) (K : List KW) (Z : SK) (L0 : List LruC.Ent) (K0 : List KW) (Z0 : SK) (last0 : Nat) (S : RS) : Prop where
  p : HMem w ownP C last L K Z
  r : RMem w0 w ownD D d S
  tie : Tie C D last0 L0 K0 Z0 S
  ap : Apart B ownP ownD
  size : B ≤ w.heap.size

def Full (B : Nat) (w0 : World) (C : HC) (D : RC) (d : Nat) (w : World) : Prop := ∃ ownP ownD last L K Z S, Two B w0 C D d w ownP ownD last L K Z L K Z last S

variable {B : Nat} {w0 w w' : World} {C : HC} {D : RC} {d : Nat} {ownP ownD : Nat → Tg} {last : Nat} {L L0 : List LruC.Ent} {K K0 : List KW} {Z Z0 : SK} {last0 : Nat} {S : RS}

theorem Two.below (h : Two B w0 C D d w ownP ownD last L K Z L0 K0 Z0 last0 S) (hb : Below w.heap.size w w') : Two B w0 C D d w' ownP ownD last L K Z L0 K0 Z0 last0 S := ⟨h.p.below hb, h.r.below hb, h.tie, h.ap, Nat.le_trans h.size hb.size⟩
theorem Full.below (h : Full B w0 C D d w) (hb : Below w.heap.size w w') : Full B w0 C D d w' := by
  obtain ⟨a, b, c, d1, e, f, g, h1⟩ := h
  exact ⟨a, b, c, d1, e, f, g, h1.below hb⟩
/-- what is old may be written by others -/
theorem Two.away (h : Two B w0 C D d w ownP ownD last L K Z L0 K0 Z0 last0 S) (hw : Wr (fun k => k < B) w w') : Two B w0 C D d w' ownP ownD last L K Z L0 K0 Z0 last0 S := by
  have hk : ∀ k, k < w.heap.size → (ownP k ≠ .non ∨ ownD k ≠ .non) → w'.heap[k]? = w.heap[k]? := fun k hk h1 => hw.block k hk (fun h2 => by
    obtain ⟨h3, h4⟩ := h.ap.old k h2
    rcases h1 with h1 | h1
    · exact h1 h3
    · exact h1 h4)
  exact ⟨hkeep h.p hw (fun k hk1 h1 => (h.ap.old k h1).1), h.r.keep hw.size (fun k hk1 h1 => hk k hk1 (.inr h1)), h.tie, h.ap, Nat.le_trans h.size hw.size⟩

/-- the program's step -/
theorem Two.stepP (h : Two B w0 C D d w ownP ownD last L K Z L0 K0 Z0 last0 S) {ownP' : Nat → Tg} {last' : Nat} {L' : List LruC.Ent} {K' : List KW} {Z' : SK} (hp : HMem w' ownP' C last' L' K' Z') (hs : Step w ownP w' ownP') : Two B w0 C D d w' ownP' (ext ownD w.heap.size .non) last' L' K' Z' L0 K0 Z0 last0 S := by
  have hr : RMem w0 w (ext ownD w.heap.size .non) D d S := h.r.extend (Below.refl _ _) .non
  refine ⟨hp, hr.keep hs.wr.size fun k hk h1 => hs.wr.block k hk fun h2 => h1 ?_, h.tie, ⟨fun k h1 => ?_, fun k hk => ?_⟩, Nat.le_trans h.size hs.wr.size⟩
  · rw [ext_lt hk]; exact h.ap.one k h2
  · by_cases hk : k < w.heap.size
    · rw [ext_lt hk]
      rw [hs.tag k hk] at h1
      exact h.ap.one k h1
    · exact ext_ge (by omega)
  · have hk2 : k < w.heap.size := Nat.lt_of_lt_of_le hk h.size
    rw [hs.tag k hk2, ext_lt hk2]
    exact h.ap.old k hk

/-- the document's step -/
theorem Two.stepR (h : Two B w0 C D d w ownP ownD last L K Z L0 K0 Z0 last0 S) {ownD' : Nat → Tg} {d' : Nat} {S' : RS} {L1 : List LruC.Ent} {K1 : List KW} {Z1 : SK} {last1 : Nat} (hr : RMem w0 w' ownD' D d' S') (hs : Step w ownD w' ownD') (ht : Tie C D last1 L1 K1 Z1 S') : Two B w0 C D d' w' (ext ownP w.heap.size .non) ownD' last L K Z L1 K1 Z1 last1 S' := by
  have hp : HMem w (ext ownP w.heap.size .non) C last L K Z := HotD.HMem.extend h.p (Below.refl _ _) .non
  refine ⟨hkeep hp hs.wr fun k hk h2 => ?_, hr, ht, ⟨fun k h1 => ?_, fun k hk => ?_⟩, Nat.le_trans h.size hs.wr.size⟩
  · rw [ext_lt hk]
    by_cases h3 : ownP k = .non
    · exact h3
    · exact absurd (h.ap.one k h3) h2
  · by_cases hk : k < w.heap.size
    · rw [ext_lt hk] at h1
      rw [hs.tag k hk]
      exact h.ap.one k h1
    · rw [ext_ge (by omega)] at h1
      exact absurd rfl h1
  · have hk2 : k < w.heap.size := Nat.lt_of_lt_of_le hk h.size
    rw [hs.tag k hk2, ext_lt hk2]
    exact h.ap.old k hk

/-- what is between both Takes -/
def Mid (B : Nat) (w0 : World) (C : HC) (D : RC) (d : Nat) (S : RS) (t : Int) (s : ByteArray) (n : Int) (w : World) : Prop :=
  ∃ ownP ownD last L K Z last0 L0 K0 Z0, Two B w0 C D d w ownP ownD last L K Z L0 K0 Z0 last0 S ∧ L0.length = S.ps.length ∧
    ((refH S.noted t s n ≠ 0 ∧ last = last0 ∧ L = L0 ∧ K = K0 ∧ Z = Z0) ∨
     (refH S.noted t s n = 0 ∧ (last : Int) = t ∧ last0 ≤ last ∧ ((letR D S t.toNat s n = false ∧ L = L0 ∧ K = K0 ∧ Z = Z0) ∨ (letR D S t.toNat s n = true ∧ ∃ u : Nat, usedR D S t.toNat s = u ∧ u ≤ 4611686018427387904 ∧ Took C L0 K0 Z0 t.toNat s n.toNat u L K Z))))

theorem step_below {own own' : Nat → Tg} (hs : Step w own w' own') (hB : B ≤ w.heap.size) (ho : ∀ k, k < B → own k = .non) : Below B w w' := ⟨hs.wr.os, hs.wr.tape, hs.wr.output, hs.wr.size, fun k hk => hs.wr.block k (Nat.lt_of_lt_of_le hk hB) (fun h => h (ho k hk))⟩

theorem used_both (h : Two B w0 C D d w ownP ownD last L K Z L K Z last S) (t : Int) (n : Int) (s : ByteArray) : ∃ u : Nat, (refH S.noted t s n = 0 → usedR D S t.toNat s = u ∧ Us C K Z t.toNat s u ∧ u ≤ 4611686018427387904) := by
  by_cases h0 : refH S.noted t s n = 0
  · obtain ⟨t1, t2, t3, t4, t5⟩ := ref_ok h0
    obtain ⟨u, hu, hus⟩ := h.tie.used h.r.kn h.r.q0 (t := t.toNat) (by rw [← h.tie.noted]; omega) s
    have := used_in h.r t.toNat s
    exact ⟨u, fun _ => ⟨hu, hus, by omega⟩⟩
  · exact ⟨0, fun h => absurd h h0⟩

theorem take_p (h : Two B w0 C D d w ownP ownD last L K Z L K Z last S) (t : Int) (s : ByteArray) (hs : s.size ≤ maxLen) (n : Int) :
    Calls Tryz.prog 20 #[.pointer (some ⟨C.h, 0, none⟩), .int .i64 t, .string s, .int .i64 n] w fun e w' => e = .returned (.tuple #[.bool (decide (refH S.noted t s n = 0) && letR D S t.toNat s n), .int .i64 (refH S.noted t s n)]) ∧ Mid B w0 C D d S t s n w' ∧ Below B w w' := by
  obtain ⟨u, hu⟩ := used_both h t n s
  have he : hotE last t (noC n) s.size = refH S.noted t s n := by rw [err_one, h.tie.noted]
  refine (HotI.HMem.Take h.p h.tie.same t s hs n u fun h0 => ⟨(hu (by rw [← he]; exact h0)).2.1, (hu (by rw [← he]; exact h0)).2.2⟩).mono ?_
  rintro e w' ⟨rfl, own', last', L', K', Z', hM, hsm, hst, hc⟩
  have hl := let_eq (C := C) (D := D) (S := S) (last := last) (t := t) (s := s) (n := n) (u := u) h.tie.lim (fun h0 => (hu (by rw [← he]; exact h0)).1) h.tie.noted
  have hlen : L.length = S.ps.length := by have := congrArg List.length h.tie.keys; simpa using this
  rw [he] at hc ⊢
  rw [hl] at hc ⊢
  refine ⟨rfl, ⟨own', _, last', L', K', Z', last, L, K, Z, h.stepP hM hst, hlen, ?_⟩, step_below hst h.size fun k hk => (h.ap.old k hk).1⟩
  rcases hc with ⟨h0, h1, h2, h3, h4⟩ | ⟨h0, h1, hc⟩
  · exact .inl ⟨h0, h1, h2, h3, h4⟩
  · obtain ⟨t1, t2, t3, t4, t5⟩ := ref_ok h0
    refine .inr ⟨h0, h1, by have := h.tie.noted; omega, ?_⟩
    rw [decide_eq_true h0, Bool.true_and] at hc
    rcases hc with ⟨h5, h6⟩ | ⟨h5, h6⟩
    · exact .inl ⟨h5, h6⟩
    · exact .inr ⟨h5, u, (hu h0).1, (hu h0).2.2, h6⟩

theorem take_r (hd : d + 2 ≤ 1000000) (hg : RGood D) (hm1 : 1 ≤ D.most) {t : Int} {s : ByteArray} {n : Int} (h : Mid B w0 C D d S t s n w) (hs : s.size ≤ maxLen) :
    Calls Tryz.prog 23 #[.pointer (some ⟨D.h, 0, none⟩), .int .i64 t, .string s, .int .i64 n] w fun e w' => e = .returned (.tuple #[.bool (decide (refH S.noted t s n = 0) && letR D S t.toNat s n), .int .i64 (refH S.noted t s n)]) ∧ Full B w0 C D (d + 2) w' ∧ Below B w w' := by
  obtain ⟨ownP, ownD, last, L, K, Z, last0, L0, K0, Z0, hT, hlen, hc⟩ := h
  refine (rTake_any hT.r hd hg hT.tie.both hm1 t n s hs).mono ?_
  rintro e w' ⟨rfl, own', S', hO, hb, hr⟩
  have fin : Tie C D last L K Z S' → Full B w0 C D (d + 2) w' := fun ht => ⟨_, _, _, _, _, _, _, hT.stepR hO.mem hO.step ht⟩
  refine ⟨rfl, fin ?_, step_below hO.step hT.size fun k hk => (hT.ap.old k hk).2⟩
  rcases hc with ⟨h0, rfl, rfl, rfl, rfl⟩ | ⟨h0, h1, h2, hc⟩
  · rcases hr with ⟨-, rfl⟩ | ⟨h3, -⟩ | ⟨h3, -⟩
    · exact hT.tie
    · exact absurd h3 h0
    · exact absurd h3 h0
  · obtain ⟨t1, t2, t3, t4, t5⟩ := ref_ok h0
    have htl : t.toNat = last := by omega
    rcases hr with ⟨h3, -⟩ | ⟨-, h3, rfl⟩ | ⟨-, h3, hk⟩
    · exact absurd h0 h3
    · rcases hc with ⟨-, rfl, rfl, rfl⟩ | ⟨h4, -⟩
      · have ht := hT.tie
        exact { q := ht.q, seed := ht.seed, most := ht.most, lim := ht.lim, noted := htl, keys := ht.keys, ns := ht.ns, wins := ht.wins, late := fun x hx => Nat.le_trans (ht.late x hx) h2, same := ht.same, both := hb }
      · rw [h3] at h4; cases h4
    · rcases hc with ⟨h4, -⟩ | ⟨-, u, hu, hu2, hk2⟩
      · rw [h3] at h4; cases h4
      · rw [htl] at hk hk2 hu
        exact hT.tie.took (n := n.toNat) h2 (by omega) (by omega) hu hu2 hT.r.kn hT.p.kn hk2 hk hlen

end Go.Proofs.YtbihelpnojjacaaGreat.RtC

/- Both New, and what they leave. -/
namespace Go.Proofs.YtbihelpnojjacaaGreat.RtD
open Go.ChangeShapes Go.WideShapes Go.ChangeAt Go.RowKit Base Wri LruA HotA HotB HotC HotD HotE HotF HotG HotH HotI HotJ HotK HotL HotM RefL RefM RwR RwS RwD RwF RwG RwE RhA RhB RhC RhD RhE RhF RhG RhH RhK RtA RtB RtC
set_option linter.unusedVariables false

theorem New_all (res : ByteArray) (hres : res.size ≤ maxLen) (idx cnt sec : Int) (a : Option Addr) (n cap : Nat) (keys : Int) (seed : Nat) (f : Nat → Itm) (w : World) (hI : ItAt w a n f) (hfit : ∀ i, i < n → (f i).1.size ≤ maxLen) :
    Calls Tryz.prog 9 #[hotV res idx cnt sec a n cap, .int .i64 keys, .int .u64 seed] w fun e w' =>
      (newE (hotR res idx cnt sec n f) keys ≠ 0 ∧ e = .returned (.tuple #[.pointer none, .int .i64 (newE (hotR res idx cnt sec n f) keys)]) ∧ Below w.heap.size w w') ∨
      (newE (hotR res idx cnt sec n f) keys = 0 ∧ ∃ k q : Nat, hotR res idx cnt sec n f = 0 ∧ keys = k ∧ 1 ≤ k ∧ k ≤ 4096 ∧ sec * 100000 = q ∧ NewPost w cnt q k seed f n e w') := by
  by_cases hr : hotR res idx cnt sec n f = 0
  · obtain ⟨h1, h2, -, -, h3, -, -⟩ := hotR_ok hr
    have H0 : Hid (∀ wx, Below w.heap.size w wx → Calls Tryz.prog 25 #[hotV res idx cnt sec a n cap] wx fun e w' => e = .returned (.int .i64 0) ∧ Below wx.heap.size wx w') := hid fun wx hb => by
      have := Hot_any res hres idx cnt sec a n cap f wx (hI.below hb) hfit
      rw [hr] at this
      exact this
    obtain ⟨s, rfl⟩ : ∃ s : Nat, sec = s := ⟨sec.toNat, by omega⟩
    by_cases hk : 1 ≤ keys ∧ keys ≤ 4096
    · obtain ⟨k, rfl⟩ : ∃ k : Nat, keys = k := ⟨keys.toNat, by omega⟩
      have he : newE (hotR res idx cnt s n f) k = 0 := by unfold newE; rw [hr, if_neg (by simp), if_pos hk]
      exact (New_yes res idx cnt s (by omega) (by omega) a n cap (by omega) k (by omega) (by omega) seed f w hI hfit H0).mono fun e w' h => .inr ⟨he, k, s * 100000, hr, rfl, by omega, by omega, by omega, h⟩
    · have he : newE (hotR res idx cnt s n f) keys = 2 := by unfold newE; rw [hr, if_neg (by simp), if_neg hk]
      rw [he]
      exact (New_no2 res idx cnt s a n cap keys seed w H0 (hid fun wx => newExact_no keys hk wx)).mono fun e w' h => .inl ⟨by decide, h.1, h.2⟩
  · have he : newE (hotR res idx cnt sec n f) keys = hotR res idx cnt sec n f := by unfold newE; rw [if_pos hr]
    rw [he]
    exact (New_no1 res idx cnt sec a n cap keys seed _ hr w (hid fun wx hb => Hot_any res hres idx cnt sec a n cap f wx (hI.below hb) hfit)).mono fun e w' h => .inl ⟨hr, h.1, h.2⟩

theorem itF_none {f : Nat → Itm} {s : ByteArray} : ∀ {n : Nat}, (∀ j, j < n → (f j).1 ≠ s) → itF f n s = none
  | 0, _ => rfl
  | n + 1, h => by
    unfold itF
    rw [if_neg (h n (by omega))]
    exact itF_none fun j hj => h j (by omega)
theorem itF_some {f : Nat → Itm} {s : ByteArray} : ∀ {n i : Nat}, i < n → (f i).1 = s → (∀ j, i < j → j < n → (f j).1 ≠ s) → itF f n s = some (f i).2
  | 0, _, h, _, _ => by omega
  | n + 1, i, hi, h, hn => by
    unfold itF
    by_cases e : i = n
    · subst e; rw [if_pos h]
    · rw [if_neg (hn n (by omega) (by omega))]
      exact itF_some (by omega) h fun j h1 h2 => hn j h1 (by omega)
theorem limG_none {f : Nat → Itm} {s : ByteArray} {cnt : Int} : ∀ {m i : Nat}, (∀ j, i ≤ j → j < i + m → (f j).1 ≠ s) → limG f cnt s i m = cnt
  | 0, _, _ => rfl
  | m + 1, i, h => by
    unfold limG
    rw [if_neg (h i (by omega) (by omega))]
    exact limG_none fun j h1 h2 => h j (by omega) (by omega)
theorem limG_some {f : Nat → Itm} {s : ByteArray} {cnt : Int} : ∀ {m i k : Nat}, i ≤ k → k < i + m → (f k).1 = s → (∀ j, i ≤ j → j < k → (f j).1 ≠ s) → limG f cnt s i m = (f k).2
  | 0, i, k, h1, h2, _, _ => by omega
  | m + 1, i, k, h1, h2, h3, h4 => by
    unfold limG
    by_cases e : i = k
    · subst e; rw [if_pos h3]
    · rw [if_neg (h4 i (by omega) (by omega))]
      exact limG_some (by omega) (by omega) h3 fun j h5 h6 => h4 j (by omega) h6

theorem lim_one {f : Nat → Itm} {n : Nat} {cnt : Int} (hnd : (vals n f).Nodup) (s : ByteArray) : (itF f n s).getD cnt = limG f cnt s 0 n ∧ ((limG f cnt s 0 n = cnt) ∨ ∃ i, i < n ∧ limG f cnt s 0 n = (f i).2) := by
  have hne := (nodup_iff n f).1 hnd
  by_cases h : ∃ i, i < n ∧ (f i).1 = s
  · obtain ⟨i, hi, hs⟩ := h
    have e1 := itF_some (n := n) hi hs fun j h1 h2 e => hne j h2 i h1 (by rw [hs, e])
    have e2 := limG_some (cnt := cnt) (m := n) (i := 0) (k := i) (by omega) (by omega) hs fun j h1 h2 e => hne i hi j h2 (by rw [hs, e])
    rw [e1, e2]
    exact ⟨rfl, .inr ⟨i, hi, rfl⟩⟩
  · have h2 : ∀ j, j < n → (f j).1 ≠ s := fun j hj e => h ⟨j, hj, e⟩
    rw [itF_none h2, limG_none (m := n) (i := 0) fun j _ hj => h2 j (by omega)]
    exact ⟨rfl, .inl rfl⟩

theorem good_of {res : ByteArray} {idx cnt sec : Int} {n : Nat} {f : Nat → Itm} (hr : hotR res idx cnt sec n f = 0) {D : RC} (h1 : D.cnt = cnt) (h2 : D.n = n) (h3 : D.f = f) : RGood D := by
  obtain ⟨-, -, c0, c1, -, hok, hnd⟩ := hotR_ok hr
  intro s
  unfold limR
  rw [h1, h2, h3]
  rcases (lim_one hnd s (cnt := cnt)).2 with e | ⟨i, hi, e⟩
  · rw [e]; exact ⟨c0, c1⟩
  · rw [e]
    have := hok i hi
    unfold okI at this
    simp only [Bool.and_eq_true] at this
    exact RulA.inR_iff.1 this.2

theorem both_full {res : ByteArray} {idx cnt sec : Int} {n : Nat} {f : Nat → Itm} (hr : hotR res idx cnt sec n f = 0) {keys : Int} {seed k q : Nat} (hk : keys = k) (hq : sec * 100000 = q) {w w1 w2 : World} {C : HC} {own : Nat → Tg} (hM : HMem w1 own C 0 [] [] Z0) (hown : ∀ j, j < w.heap.size → own j = .non) (hm : C.S.most = k) (hc : C.cnt = cnt) (hCq : C.q = q) (hsd : C.seed = seed) (hit : C.it = itF f n) (hs : w.heap.size ≤ w1.heap.size)
    {e : Ending} (hR : RNew res idx cnt sec n f keys seed w1 e w2) (hb : Below w1.heap.size w1 w2) :
    ∃ D : RC, e = .returned (.tuple #[.pointer (some ⟨D.h, 0, none⟩), .int .i64 0]) ∧ Full w.heap.size w1 C D 0 w2 ∧ RGood D ∧ 1 ≤ D.most ∧ (∀ s, limN C s = limR D s) := by
  obtain ⟨D, ownD, he, hRM, hoD, d1, d2, d3, d4, d5, d6, d7⟩ := hR
  obtain ⟨-, -, -, -, -, -, hnd⟩ := hotR_ok hr
  have hlim : ∀ s, limN C s = limR D s := fun s => by
    unfold limN limR
    rw [hit, hc, d1, d2, d3]
    exact (lim_one hnd s).1
  have hP : HMem w2 (ext own w1.heap.size .non) C 0 [] [] Z0 := (HotD.HMem.extend hM hb .non)
  refine ⟨D, he, ⟨_, ownD, 0, [], [], Z0, S0, hP, hRM, ?_, ⟨fun j hj => ?_, fun j hj => ⟨?_, hoD j (Nat.lt_of_lt_of_le hj hs)⟩⟩, Nat.le_trans hs hb.size⟩, good_of hr d1 d2 d3, d7, hlim⟩
  · have hqs := hRM.qs
    exact { q := by rw [hCq, ← hqs]; omega, seed := by rw [hsd, d5], most := by rw [hm]; omega, lim := hlim, noted := rfl, keys := rfl, ns := rfl, wins := (fun x hx => by cases hx), late := (fun x hx => by cases hx), same := HMem.new_same, both := ⟨fun s => by simp [S0], by simp [S0], fun p hp => by cases hp⟩ }
  · by_cases hj2 : j < w1.heap.size
    · exact hoD j hj2
    · rw [ext_ge (by omega)] at hj; exact absurd rfl hj
  · rw [ext_lt (Nat.lt_of_lt_of_le hj hs)]; exact hown j hj

set_option maxRecDepth 20000 in
set_option maxHeartbeats 1000000 in
theorem texts_any (ks : List ByteArray) (a b : Option Addr) (ca cb : Nat) (B B' : Nat) (w : World) (hl : ks.length ≤ 1000000) (hA : w.ownsRow B 9 1 (.slice a ks.length ca) ks.length (ks.map Value.string)) (hB : w.ownsRow B' 9 1 (.slice b ks.length cb) ks.length (ks.map Value.string)) :
    Calls Tryz.prog 15 #[.slice a ks.length ca, .slice b ks.length cb] w fun e w' => e = .returned (.bool true) ∧ Below w.heap.size w w' := by
  obtain ⟨n, hn⟩ : ∃ n, ks.length = n := ⟨_, rfl⟩
  rw [hn] at hA hB hl ⊢
  have HN := hid hn
  have HA := hid hA
  have HB := hid hB
  clear hA hB hn
  go_enter Tryz.func15, Tryz.ntmps15
  go_wp2_with fail
  go_loopw [5] (fun i wr => ∃ k m : Nat, k ≤ n ∧ i = .int .i64 k ∧ w.drewN m = wr) (fun i _ => n - (intOf i).toNat)
  case atStart => exact ⟨0, 0, Nat.zero_le _, rfl, rfl⟩
  case round =>
    obtain ⟨k, m, hk, rfl, rfl⟩ := hrel
    by_cases hlt : k < n
    · obtain ⟨x, hx⟩ : ∃ x, ks[k]? = some x := ⟨ks[k]'(by rw [HN.out]; exact hlt), List.getElem?_eq_getElem _⟩
      obtain ⟨g, cc, hv, hg, hgl, hnc, hfz, hcl⟩ := own_cells HA.out (by omega)
      injection hv with e1 e2 e3
      subst e1
      subst e3
      obtain ⟨g', cc', hv, hg', hgl', hnc', hfz', hcl'⟩ := own_cells HB.out (by omega)
      injection hv with e1 e2 e3
      subst e1
      subst e3
      have c0 : w.cell? ⟨g, k, none⟩ = some (.string x) := hcl k _ (by rw [List.getElem?_map, hx]; rfl)
      have c1 : w.cell? ⟨g', k, none⟩ = some (.string x) := hcl' k _ (by rw [List.getElem?_map, hx]; rfl)
      have hki : (k : Int) < n := by omega
      clear hcl hcl' hfz hfz' hg hg' hx
      go_wp2_with fail
      go_quiet (fail)
      go_wp2_with fail
      go_roundw
      case rel => exact ⟨k + 1, _, hlt, by go_num, rfl⟩
      case measure => simp [intOf]; omega
    · obtain rfl : k = n := by omega
      go_wp2_with fail
      go_ret
      exact ⟨rfl, below_drewN (Below.refl _ _) _⟩

set_option maxHeartbeats 400000 in
theorem rlook_nil (t : Int) (s : ByteArray) (n : Int) (w : World) : Calls Tryz.prog 63 #[.pointer none, .int .i64 t, .string s, .int .i64 n] w fun e w' => e = .returned (.int .i64 1) ∧ w = w' := by
  go_enter Tryz.func63, Tryz.ntmps63
  go_wp2
  go_ret
  exact ⟨rfl, rfl⟩
set_option maxHeartbeats 400000 in
theorem rLook_nil (t : Int) (s : ByteArray) (n : Int) (w : World) : Calls Tryz.prog 38 #[.pointer none, .int .i64 t, .string s, .int .i64 n] w fun e w' => e = .returned (.tuple #[.bool false, .int .i64 1]) ∧ w = w' := by
  go_enter Tryz.func38, Tryz.ntmps38
  go_wp2_with fail
  refine (rlook_nil _ _ _ _).mono ?_
  rintro e w1 ⟨rfl, rfl⟩
  go_wp2
  go_ret2
  exact ⟨rfl, rfl⟩
set_option maxHeartbeats 400000 in
theorem rTake_nil (t : Int) (s : ByteArray) (n : Int) (w : World) : Calls Tryz.prog 23 #[.pointer none, .int .i64 t, .string s, .int .i64 n] w fun e w' => e = .returned (.tuple #[.bool false, .int .i64 1]) ∧ w = w' := by
  go_enter Tryz.func23, Tryz.ntmps23
  go_wp2_with fail
  refine (rLook_nil _ _ _ _).mono ?_
  rintro e w1 ⟨rfl, rfl⟩
  go_wp2
  go_ret2
  exact ⟨rfl, rfl⟩
set_option maxHeartbeats 400000 in
theorem rLimit_nil (s : ByteArray) (w : World) : Calls Tryz.prog 19 #[.pointer none, .string s] w fun e w' => e = .returned (.int .i64 0) ∧ w = w' := by
  go_enter Tryz.func19, Tryz.ntmps19
  go_wp2
  go_ret
  exact ⟨rfl, rfl⟩
set_option maxHeartbeats 400000 in
theorem rKept_nil (w : World) : Calls Tryz.prog 17 #[.pointer none] w fun e w' => e = .returned (.slice none 0 0) ∧ w = w' := by
  go_enter Tryz.func17, Tryz.ntmps17
  go_wp2
  go_ret
  exact ⟨rfl, rfl⟩
set_option maxHeartbeats 400000 in
theorem texts_nil (w : World) : Calls Tryz.prog 15 #[.slice none 0 0, .slice none 0 0] w fun e w' => e = .returned (.bool true) ∧ Below w.heap.size w w' :=
  texts_any [] none none 0 0 0 0 w (by decide) ⟨rfl, .inl ⟨rfl, rfl⟩⟩ ⟨rfl, .inl ⟨rfl, rfl⟩⟩

end Go.Proofs.YtbihelpnojjacaaGreat.RtD

/- HotNone: the law's walk. -/
namespace Go.Proofs.YtbihelpnojjacaaGreat.RtE
open Go.ChangeShapes Go.WideShapes Go.ChangeAt Go.RowKit Base Wri LruA HotA HotB HotC HotD HotE HotF HotG HotH HotI HotJ HotK HotL HotM HotN HotO HotZ RefL RefM RwR RwS RwD RwF RwG RwE RhA RhB RhC RhD RhE RhF RhG RhH RhK RtA RtB RtC RtD
set_option linter.unusedVariables false
set_option linter.unusedSimpArgs false
attribute [local go_sem ↓ high] RwR.builtin_app

/-- items in a row of one's own -/
theorem items_at {w : World} {B n : Nat} {v : Value} {f : Nat → Itm} (h : w.ownsRow B 52 2 v n (cI f n)) : ∃ a c, v = .slice a n c ∧ ItAt w a n f := by
  obtain ⟨a, c, rfl⟩ := owns_shape h
  refine ⟨a, c, rfl, fun h0 => ?_⟩
  obtain ⟨g, cc, hv, hg, hgl, hnc, hfz, hcl⟩ := own_cells h h0
  injection hv with e1 e2 e3
  refine ⟨g, 0, e1, hgl, fun i hi => ?_⟩
  obtain ⟨i0, i1⟩ := cI_at f n i hi
  exact ⟨by rw [Nat.zero_add]; exact hcl _ _ i0, by rw [Nat.zero_add]; exact hcl _ _ i1⟩

theorem nilI2 (g cap : Nat) (w : World) : (app #[22, 22] 22 #[.slice (some ⟨g, 0, none⟩) 0 0, .slice none 0 cap]).run Tryz.prog w = .ok (.slice (some ⟨g, 0, none⟩) 0 0) w := by kernel_rfl

/-- items appended to a new list of none -/
theorem copy_items2 (w : World) (a : Option Addr) (n cap : Nat) (f : Nat → Itm) (h : ItAt w a n f) (hn : n * 24 ≤ 140737488355328) :
    ∃ v2 w2, (app #[22, 22] 22 #[.slice (some ⟨w.heap.size, 0, none⟩) 0 0, .slice a n cap]).run Tryz.prog (w.alloc (.cells #[] 52)) = .ok v2 w2 ∧ w2.ownsRow w.heap.size 52 2 v2 n (cI f n) ∧ Below w.heap.size w w2 ∧ v2.ownBlock ≠ none := by
  obtain ⟨i, z, hi, hz, hs, hby, hzs⟩ := tyI.inf
  have hb1 : Below w.heap.size w (w.alloc (.cells #[] 52)) := (Below.refl _ _).alloc (Nat.le_refl _) _
  have h1 : ItAt (w.alloc (.cells #[] 52)) a n f := h.below hb1
  have hown : (w.alloc (.cells #[] 52)).ownsRow w.heap.size 52 2 (.slice (some ⟨w.heap.size, 0, none⟩) 0 0) 0 [] := ⟨rfl, .inr ⟨w.heap.size, 0, #[], rfl, Nat.le_refl _, heap_alloc_new _ _, Nat.le_refl _, by decide, rfl, rfl⟩⟩
  have key : ∀ ad : Addr, a = some ad → (∀ j u, (cI f n)[j]? = some u → (w.alloc (.cells #[] 52)).cell? (ad.add j) = some u) → ∃ v2 w2, (app #[22, 22] 22 #[.slice (some ⟨w.heap.size, 0, none⟩) 0 0, .slice a n cap]).run Tryz.prog (w.alloc (.cells #[] 52)) = .ok v2 w2 ∧ w2.ownsRow w.heap.size 52 2 v2 n (cI f n) ∧ Below w.heap.size w w2 ∧ v2.ownBlock ≠ none := by
    rintro ad rfl hc
    obtain ⟨v6, w6, hrun, hown6, hgr, hnil, hat⟩ := run_append_own_at (P := Tryz.prog) (w.alloc (.cells #[] 52)) w.heap.size 22 22 52 i z 2 24 tyI.und hi hz hs hby hzs tyI.pos (.slice (some ⟨w.heap.size, 0, none⟩) 0 0) 0 [] hown ad n cap (cI f n) (cI_len f n) hc (cI_one f n) (by unfold maxLen; omega) (by omega) (by simp)
    rw [Nat.zero_add, List.nil_append] at hown6
    refine ⟨v6, w6, hrun, hown6, hb1.grown hgr (by simp) (fun j e => by have e2 : w.heap.size = j := Option.some.inj e; omega), ?_⟩
    rcases hat with e | e
    · rw [e]; simp [Value.ownBlock]
    · rw [e]; simp
  by_cases h0 : n = 0
  · subst h0
    cases a with
    | none => exact ⟨_, _, nilI2 _ cap _, hown, hb1, by simp [Value.ownBlock]⟩
    | some ad => exact key ad rfl (fun j u hu => by simp [cI] at hu)
  · obtain ⟨g, o, ha, hg, hc⟩ := h1 (by omega)
    refine key ⟨g, o, none⟩ ha fun j u hu => ?_
    rw [Go.WideShapes.add_plain]
    have hj : j < n * 2 := by rw [← cI_len f n]; exact (List.getElem?_eq_some_iff.1 hu).1
    obtain ⟨c0, c1⟩ := hc (j / 2) (by omega)
    obtain ⟨e0, e1⟩ := cI_at f n (j / 2) (by omega)
    by_cases hev : j % 2 = 0
    · rw [show j = j / 2 * 2 by omega] at hu ⊢
      rw [e0] at hu
      cases hu
      exact c0
    · rw [show j = j / 2 * 2 + 1 by omega] at hu ⊢
      rw [e1] at hu
      cases hu
      rw [← Nat.add_assoc]
      exact c1

theorem away_of {B : Nat} {w0 w w' : World} {C : HC} {D : RC} {d : Nat} {ownP ownD : Nat → Tg} {last : Nat} {L L0 : List LruC.Ent} {K K0 : List KW} {Z Z1 : SK} {last0 : Nat} {S : RS} (h : Two B w0 C D d w ownP ownD last L K Z L0 K0 Z1 last0 S) {R : Nat → Prop} (hw : Wr R w w') (hR : ∀ k, k < w.heap.size → R k → ownP k = .non ∧ ownD k = .non) : Two B w0 C D d w' ownP ownD last L K Z L0 K0 Z1 last0 S :=
  ⟨hkeep h.p hw (fun k hk h1 => (hR k hk h1).1), h.r.keep hw.size (fun k hk h1 => hw.block k hk (fun h2 => h1 (hR k hk h2).2)), h.tie, h.ap, Nat.le_trans h.size hw.size⟩
theorem fresh_of {B : Nat} {w0 w w' : World} {C : HC} {D : RC} {d : Nat} {ownP ownD : Nat → Tg} {last : Nat} {L L0 : List LruC.Ent} {K K0 : List KW} {Z Z1 : SK} {last0 : Nat} {S : RS} (h : Two B w0 C D d w ownP ownD last L K Z L0 K0 Z1 last0 S) (hb : Below w.heap.size w w') : Two B w0 C D d w' (ext ownP w.heap.size .non) (ext ownD w.heap.size .non) last L K Z L0 K0 Z1 last0 S := by
  refine ⟨HotD.HMem.extend h.p hb .non, h.r.extend hb .non, h.tie, ⟨fun k h1 => ?_, fun k hk => ?_⟩, Nat.le_trans h.size hb.size⟩
  · by_cases hk : k < w.heap.size
    · rw [ext_lt hk] at h1 ⊢; exact h.ap.one k h1
    · rw [ext_ge (by omega)]
  · have hk2 := Nat.lt_of_lt_of_le hk h.size
    rw [ext_lt hk2, ext_lt hk2]; exact h.ap.old k hk

/-- both, or none -/
def J (B : Nat) (hv rv : Value) (w : World) : Prop := (hv = .pointer none ∧ rv = .pointer none) ∨ ∃ C D w0, hv = .pointer (some ⟨C.h, 0, none⟩) ∧ rv = .pointer (some ⟨D.h, 0, none⟩) ∧ Full B w0 C D 0 w ∧ RGood D ∧ 1 ≤ D.most
theorem J.away {B : Nat} {hv rv : Value} {w w' : World} (h : J B hv rv w) {R : Nat → Prop} (hw : Wr R w w') (hR : ∀ k, R k → k < B) : J B hv rv w' := by
  rcases h with h | ⟨C, D, w0, h1, h2, ⟨oP, oD, la, L, K, Z, S, h3⟩, h4⟩
  · exact .inl h
  · exact .inr ⟨C, D, w0, h1, h2, ⟨oP, oD, la, L, K, Z, S, away_of h3 hw fun k _ hk => h3.ap.old k (hR k hk)⟩, h4⟩

theorem New_v (res : ByteArray) (hres : res.size ≤ maxLen) (idx cnt sec : Int) (a a' : Option Addr) (n cap cap' : Nat) (keys : Int) (seed : Nat) (f : Nat → Itm) (w : World) (hI : ItAt w a n f) (hI' : ItAt w a' n f) (hfit : ∀ i, i < n → (f i).1.size ≤ maxLen) (hsd : seed < 18446744073709551616) :
    Calls Tryz.prog 9 #[hotV res idx cnt sec a n cap, .int .i64 keys, .int .u64 seed] w fun e w1 => ∃ hv, e = .returned (.tuple #[hv, .int .i64 (newE (hotR res idx cnt sec n f) keys)]) ∧ Below w.heap.size w w1 ∧
      Calls Tryz.prog 10 #[hotV res idx cnt sec a' n cap', .int .i64 keys, .int .u64 seed] w1 fun e w2 => ∃ rv, e = .returned (.tuple #[rv, .int .i64 (newE (hotR res idx cnt sec n f) keys)]) ∧ Below w1.heap.size w1 w2 ∧ J w.heap.size hv rv w2 := by
  refine (New_all res hres idx cnt sec a n cap keys seed f w hI hfit).mono ?_
  rintro e w1 (⟨h0, rfl, hb⟩ | ⟨h0, k, q, hr, hk, -, -, hq, C, own, rfl, hM, hown, hm, hc, hCq, hsdC, hit, hb⟩)
  · refine ⟨_, rfl, hb, (rNew_any res hres idx cnt sec keys seed a' n cap' f w1 (hI'.below hb) hfit hsd).mono ?_⟩
    rintro e w2 ⟨⟨-, rfl⟩ | ⟨h1, -⟩, hb2⟩
    · exact ⟨_, rfl, hb2, .inl ⟨rfl, rfl⟩⟩
    · exact absurd h1 h0
  · refine ⟨_, by rw [h0], hb, (rNew_any res hres idx cnt sec keys seed a' n cap' f w1 (hI'.below hb) hfit hsd).mono ?_⟩
    rintro e w2 ⟨⟨h1, -⟩ | ⟨-, hR⟩, hb2⟩
    · exact absurd h0 h1
    · obtain ⟨D, he, hF, hG, h1, -⟩ := both_full hr hk hq hM hown hm hc hCq hsdC hit hb.size hR hb2
      exact ⟨_, by rw [he, h0], hb2, .inr ⟨C, D, w1, rfl, rfl, hF, hG, h1⟩⟩

set_option maxRecDepth 20000 in
set_option maxHeartbeats 2000000 in
theorem none_core (res : ByteArray) (hres : res.size ≤ maxLen) (idx cnt sec : Int) (a : Option Addr) (n cap : Nat) (keys : Int) (seed : Nat) (f : Nat → Itm) (kd at_ m : Int) (s : ByteArray) (hs : s.size ≤ maxLen) (w : World) (hI : ItAt w a n f) (hfit : ∀ i, i < n → (f i).1.size ≤ maxLen) (hsd : seed < 18446744073709551616) (hn : n * 24 ≤ 140737488355328) :
    Calls Tryz.prog 6 #[.agg #[.string res, .int .i64 idx, .int .i64 cnt, .int .i64 sec, .slice a n cap, .int .i64 keys, .int .u64 seed], .agg #[.int .i64 kd, .int .i64 at_, .string s, .int .i64 m]] w fun e w' => e = .returned (.bool true) ∧ Below w.heap.size w w' := by
  have hbA : Below w.heap.size w ((w.alloc (.cells #[.string res, .int .i64 idx, .int .i64 cnt, .int .i64 sec, .slice a n cap, .int .i64 keys, .int .u64 seed] 27)).alloc (.cells #[.int .i64 kd, .int .i64 at_, .string s, .int .i64 m] 41)) := (by repeat (first | (with_reducible exact Below.refl _ _) | (with_reducible refine Below.setCell ?_ (by first | (simp; done) | (simp; omega) | omega) _) | (with_reducible refine Below.alloc ?_ (by first | (simp; done) | (simp; omega) | omega) _) | (with_reducible refine Below.drew ?_)))
  have hcA : ((w.alloc (.cells #[.string res, .int .i64 idx, .int .i64 cnt, .int .i64 sec, .slice a n cap, .int .i64 keys, .int .u64 seed] 27)).alloc (.cells #[.int .i64 kd, .int .i64 at_, .string s, .int .i64 m] 41)).heap[w.heap.size]? = some (.cells #[.string res, .int .i64 idx, .int .i64 cnt, .int .i64 sec, .slice a n cap, .int .i64 keys, .int .u64 seed] 27) := (heap_alloc_old _ _ (by simp)).trans (heap_alloc_new _ _)
  have hcD : ((w.alloc (.cells #[.string res, .int .i64 idx, .int .i64 cnt, .int .i64 sec, .slice a n cap, .int .i64 keys, .int .u64 seed] 27)).alloc (.cells #[.int .i64 kd, .int .i64 at_, .string s, .int .i64 m] 41)).heap[w.heap.size + 1]? = some (.cells #[.int .i64 kd, .int .i64 at_, .string s, .int .i64 m] 41) := by
    have := heap_alloc_new (w.alloc (.cells #[.string res, .int .i64 idx, .int .i64 cnt, .int .i64 sec, .slice a n cap, .int .i64 keys, .int .u64 seed] 27)) (.cells #[.int .i64 kd, .int .i64 at_, .string s, .int .i64 m] 41)
    simpa using this
  have hsz : ((w.alloc (.cells #[.string res, .int .i64 idx, .int .i64 cnt, .int .i64 sec, .slice a n cap, .int .i64 keys, .int .u64 seed] 27)).alloc (.cells #[.int .i64 kd, .int .i64 at_, .string s, .int .i64 m] 41)).heap.size = w.heap.size + 2 := by simp
  have HI := hid (And.intro hI (And.intro hfit (And.intro hres hsd)))
  clear hI hfit
  go_enter Tryz.func6, Tryz.ntmps6
  go_upto_region 2 with fail
  obtain ⟨W, hW⟩ : ∃ W, ((w.alloc (.cells #[.string res, .int .i64 idx, .int .i64 cnt, .int .i64 sec, .slice a n cap, .int .i64 keys, .int .u64 seed] 27)).alloc (.cells #[.int .i64 kd, .int .i64 at_, .string s, .int .i64 m] 41)) = W := ⟨_, rfl⟩
  rw [hW] at hbA hcA hcD hsz ⊢
  clear hW
  have d1 : W.cell? ⟨w.heap.size + 1, 1, none⟩ = some (.int .i64 at_) := by simp [World.cell?, hcD]
  have d2 : W.cell? ⟨w.heap.size + 1, 2, none⟩ = some (.string s) := by simp [World.cell?, hcD]
  have d3 : W.cell? ⟨w.heap.size + 1, 3, none⟩ = some (.int .i64 m) := by simp [World.cell?, hcD]
  go_wp2_with fail
  refine (Used_nil _ _ _).mono ?_
  rintro e w1 ⟨rfl, rfl⟩
  go_wp2_with fail
  refine (Look_nil _ _ _ _).mono ?_
  rintro e w1 ⟨rfl, hb1⟩
  have hcA1 := (hb1.block _ (by omega)).trans hcA
  have hcD1 := (hb1.block _ (by omega)).trans hcD
  have hbA1 := hbA.trans (hb1.mono (by omega))
  have hs1 := hb1.size
  clear d1 d2 d3 hb1 hcA hcD hbA
  have d1 : w1.cell? ⟨w.heap.size + 1, 1, none⟩ = some (.int .i64 at_) := by simp [World.cell?, hcD1]
  have d2 : w1.cell? ⟨w.heap.size + 1, 2, none⟩ = some (.string s) := by simp [World.cell?, hcD1]
  have d3 : w1.cell? ⟨w.heap.size + 1, 3, none⟩ = some (.int .i64 m) := by simp [World.cell?, hcD1]
  go_wp2_with fail
  refine (Take_nil _ _ _ _).mono ?_
  rintro e w2 ⟨rfl, hb2⟩
  have hcA2 := (hb2.block _ (by omega)).trans hcA1
  have hcD2 := (hb2.block _ (by omega)).trans hcD1
  have hbA2 := hbA1.trans (hb2.mono (by omega))
  have hs2 := hb2.size
  clear d1 d2 d3 hb2 hcA1 hcD1 hbA1
  go_wp2_with fail
  refine (live_any _).mono ?_
  rintro e w3 ⟨rfl, hb3⟩
  have hcA3 := (hb3.block _ (by omega)).trans hcA2
  have hcD3 := (hb3.block _ (by omega)).trans hcD2
  have hbA3 := hbA2.trans (hb3.mono (by omega))
  have hs3 := hb3.size
  clear hb3 hcA2 hcD2 hbA2
  have d2 : w3.cell? ⟨w.heap.size + 1, 2, none⟩ = some (.string s) := by simp [World.cell?, hcD3]
  go_wp2_with fail
  refine (Limit_nil _ _).mono ?_
  rintro e w4 ⟨rfl, rfl⟩
  go_wp2_with fail
  refine (Kept_nil _).mono ?_
  rintro e w4 ⟨rfl, rfl⟩
  go_wp2_with fail
  refine (Fork_nil _).mono ?_
  rintro e w4 ⟨rfl, rfl⟩
  have a0 : w3.cell? ⟨w.heap.size, 0, none⟩ = some (.string res) := by simp [World.cell?, hcA3]
  have a1 : w3.cell? ⟨w.heap.size, 1, none⟩ = some (.int .i64 idx) := by simp [World.cell?, hcA3]
  have a2 : w3.cell? ⟨w.heap.size, 2, none⟩ = some (.int .i64 cnt) := by simp [World.cell?, hcA3]
  have a3 : w3.cell? ⟨w.heap.size, 3, none⟩ = some (.int .i64 sec) := by simp [World.cell?, hcA3]
  have a4 : w3.cell? ⟨w.heap.size, 4, none⟩ = some (.slice a n cap) := by simp [World.cell?, hcA3]
  go_upto_region 8 with fail
  obtain ⟨O, hO⟩ : ∃ O, w3.heap.size = O := ⟨_, rfl⟩
  obtain ⟨W4, hW4⟩ : ∃ W4, w3.alloc (.cells #[.string res, .int .i64 idx, .int .i64 cnt, .int .i64 sec, .slice a n cap] 24) = W4 := ⟨_, rfl⟩
  have hb4 : Below w3.heap.size w3 W4 := by rw [← hW4]; exact (Below.refl _ _).alloc (Nat.le_refl _) _
  have hcO4 : W4.heap[O]? = some (.cells #[.string res, .int .i64 idx, .int .i64 cnt, .int .i64 sec, .slice a n cap] 24) := by rw [← hW4, ← hO]; exact heap_alloc_new _ _
  have hs4 : W4.heap.size = O + 1 := by rw [← hW4, ← hO]; simp
  have hcA4 := (hb4.block _ (by omega)).trans hcA3
  have hcD4 := (hb4.block _ (by omega)).trans hcD3
  have hbA4 := hbA3.trans (hb4.mono (by omega))
  rw [hW4, hO]
  clear hW4 hb4 hcA3 hcD3 hbA3 a0 a1 a2 a3 a4 d2
  have hI4 : ItAt W4 a n f := by
    intro h0
    obtain ⟨g, o, ha, hg, hc⟩ := HI.out.1 h0
    exact ⟨g, o, ha, Nat.lt_of_lt_of_le hg hbA4.size, fun i hi => ⟨(hbA4.cell (p := ⟨g, o + i * 2, none⟩) hg).trans (hc i hi).1, (hbA4.cell (p := ⟨g, o + i * 2 + 1, none⟩) hg).trans (hc i hi).2⟩⟩
  obtain ⟨v5, w5, hrun5, hown5, hb5, hne5⟩ := copy_items2 W4 a n cap f hI4 hn
  obtain ⟨a5, c5, rfl, hI5⟩ := items_at hown5
  have hs5 := hb5.size
  have hcO5 := (hb5.block O (by omega)).trans hcO4
  have hcA5 := (hb5.block _ (by omega)).trans hcA4
  have hcD5 := (hb5.block _ (by omega)).trans hcD4
  have hbA5 := hbA4.trans (hb5.mono (by omega))
  have a4 : W4.cell? ⟨w.heap.size, 4, none⟩ = some (.slice a n cap) := by simp [World.cell?, hcA4]
  have o4 : w5.cell? ⟨O, 4, none⟩ = some (.slice a n cap) := by simp [World.cell?, hcO5]
  have of : w5.frozen? ⟨O, 4, none⟩ = false := by simp [World.frozen?, hcO5]
  have hlA : w.heap.size < W4.heap.size := by omega
  have a4b : (W4.alloc (.cells #[] 52)).cell? ⟨w.heap.size, 4, none⟩ = some (.slice a n cap) := (World.cell?_of_block (a := ⟨w.heap.size, 4, none⟩) (heap_alloc_old _ _ hlA)).trans a4
  clear hlA a4
  rw [hs4] at hrun5
  have HX := hid (And.intro hown5 (And.intro hI5 (And.intro hcO5 (And.intro hcA5 (And.intro hcD5 (And.intro hbA5 hne5))))))
  clear hown5 hI5 hcO5 hcA5 hcD5 hbA5 hne5 hcO4 hcA4 hcD4 hbA4 hb5 hI4
  go_upto_region 9 with fail
  obtain ⟨hown5, hI5, hcO5, hcA5, hcD5, hbA5, hne5⟩ := HX.out
  clear HX
  have hgO : ∀ g, (Value.slice a5 n c5).ownBlock = some g → O < g ∧ g < w5.heap.size := fun g e => by have := hown5.lt g e; omega
  obtain ⟨W6, hW6⟩ : ∃ W6, w5.setCell ⟨O, 4, none⟩ (.slice a5 n c5) = W6 := ⟨_, rfl⟩
  have hoth : ∀ k, k ≠ O → W6.heap[k]? = w5.heap[k]? := fun k hk => by rw [← hW6]; exact heap_setCell_other _ _ _ _ hk
  have hcO6 : W6.heap[O]? = some (.cells #[.string res, .int .i64 idx, .int .i64 cnt, .int .i64 sec, .slice a5 n c5] 24) := by rw [← hW6]; exact heap_setCell_same _ _ _ _ _ _ hcO5
  have hcA6 := (hoth w.heap.size (by omega)).trans hcA5
  have hcD6 := (hoth (w.heap.size + 1) (by omega)).trans hcD5
  have hs6 : W6.heap.size = w5.heap.size := by rw [← hW6]; simp
  have hbA6 : Below w.heap.size w W6 := by rw [← hW6]; exact hbA5.setCell (by show w.heap.size ≤ O; omega) _
  have hown6 : W6.ownsRow W4.heap.size 52 2 (.slice a5 n c5) n (cI f n) := owns_keep hown5 fun g e => hoth g (by have := hgO g e; omega)
  have hI6 : ItAt W6 a5 n f := by
    obtain ⟨a6, c6, e6, h6⟩ := items_at hown6
    injection e6 with e1 e2 e3
    subst e1
    exact h6
  have hIa : ItAt W6 a n f := by
    intro h0
    obtain ⟨g, o, ha, hg, hc⟩ := HI.out.1 h0
    exact ⟨g, o, ha, Nat.lt_of_lt_of_le hg hbA6.size, fun i hi => ⟨(hbA6.cell (p := ⟨g, o + i * 2, none⟩) hg).trans (hc i hi).1, (hbA6.cell (p := ⟨g, o + i * 2 + 1, none⟩) hg).trans (hc i hi).2⟩⟩
  have HN := hid (New_v res hres idx cnt sec a5 a n c5 cap keys seed f W6 hI6 hIa HI.out.2.1 hsd)
  rw [hW6]
  clear hW6 hoth hown5 hI5 hcO5 hcA5 hcD5 hbA5 hI6 hIa o4 of hrun5
  have o0 : W6.cell? ⟨O, 0, none⟩ = some (.string res) := by simp [World.cell?, hcO6]
  have o1 : W6.cell? ⟨O, 1, none⟩ = some (.int .i64 idx) := by simp [World.cell?, hcO6]
  have o2 : W6.cell? ⟨O, 2, none⟩ = some (.int .i64 cnt) := by simp [World.cell?, hcO6]
  have o3 : W6.cell? ⟨O, 3, none⟩ = some (.int .i64 sec) := by simp [World.cell?, hcO6]
  have o4 : W6.cell? ⟨O, 4, none⟩ = some (.slice a5 n c5) := by simp [World.cell?, hcO6]
  have a5' : W6.cell? ⟨w.heap.size, 5, none⟩ = some (.int .i64 keys) := by simp [World.cell?, hcA6]
  have a6' : W6.cell? ⟨w.heap.size, 6, none⟩ = some (.int .u64 seed) := by simp [World.cell?, hcA6]
  obtain ⟨er, her⟩ : ∃ er, newE (hotR res idx cnt sec n f) keys = er := ⟨_, rfl⟩
  rw [her] at HN
  clear her
  unfold hotV at HN
  go_wp2_with fail
  refine HN.out.mono ?_
  rintro e w7 ⟨hv, rfl, hb7, HR7⟩
  clear HN o0 o1 o2 o3 o4 a5' a6'
  have hs7 := hb7.size
  have hcO7 := (hb7.block O (by omega)).trans hcO6
  have hcA7 := (hb7.block _ (by omega)).trans hcA6
  have hcD7 := (hb7.block _ (by omega)).trans hcD6
  have hbA7 := hbA6.trans (hb7.mono (by omega))
  have hown7 := owns_keep hown6 fun g e => hb7.block g (by have := hgO g e; omega)
  clear hcO6 hcA6 hcD6 hbA6 hown6 hb7
  have a0 : w7.cell? ⟨w.heap.size, 0, none⟩ = some (.string res) := by simp [World.cell?, hcA7]
  have a1 : w7.cell? ⟨w.heap.size, 1, none⟩ = some (.int .i64 idx) := by simp [World.cell?, hcA7]
  have a2 : w7.cell? ⟨w.heap.size, 2, none⟩ = some (.int .i64 cnt) := by simp [World.cell?, hcA7]
  have a3 : w7.cell? ⟨w.heap.size, 3, none⟩ = some (.int .i64 sec) := by simp [World.cell?, hcA7]
  have a4 : w7.cell? ⟨w.heap.size, 4, none⟩ = some (.slice a n cap) := by simp [World.cell?, hcA7]
  have a5' : w7.cell? ⟨w.heap.size, 5, none⟩ = some (.int .i64 keys) := by simp [World.cell?, hcA7]
  have a6' : w7.cell? ⟨w.heap.size, 6, none⟩ = some (.int .u64 seed) := by simp [World.cell?, hcA7]
  have HR := hid HR7
  clear HR7
  go_wp2_with fail
  refine HR.out.mono ?_
  rintro e w8 ⟨rv, rfl, hb8, hJ⟩
  clear HR a0 a1 a2 a3 a4 a5' a6'
  have hs8 := hb8.size
  have hcO8 := (hb8.block O (by omega)).trans hcO7
  have hcD8 := (hb8.block _ (by omega)).trans hcD7
  have hbA8 := hbA7.trans (hb8.mono (by omega))
  have hown8 := owns_keep hown7 fun g e => hb8.block g (by have := hgO g e; omega)
  clear hcO7 hcA7 hcD7 hbA7 hown7 hb8
  have HX := hid (And.intro hcO8 (And.intro hcD8 (And.intro hbA8 (And.intro hJ hgO))))
  clear hcO8 hcD8 hbA8 hJ
  have hown9 : ∃ xs, w8.ownsRow 0 52 2 (.slice a5 n c5) n xs := ⟨_, owns_base hown8 (Nat.zero_le _)⟩
  clear hown8
  have HOw := hid hown9
  clear hown9
  go_wp2_with fail
  go_loopw [17] (fun i wr => ∃ k : Nat, k ≤ n ∧ i = .int .i64 k ∧ Wr (fun k => (Value.slice a5 n c5).ownBlock = some k) w8 wr ∧ ∃ xs, wr.ownsRow 0 52 2 (.slice a5 n c5) n xs) (fun i _ => n - (intOf i).toNat)
  case atStart => exact ⟨0, Nat.zero_le _, rfl, Wr.refl _ _, HOw.out⟩
  case round =>
    obtain ⟨k, hk, rfl, hw9, xs, hxs⟩ := hrel
    obtain ⟨hcO8, hcD8, hbA8, hJ, hgO⟩ := HX.out
    have hcO := (hw9.block O (by omega) (fun e => by have := (hgO O e).1; omega)).trans hcO8
    have o4 : wr.cell? ⟨O, 4, none⟩ = some (.slice a5 n c5) := by simp [World.cell?, hcO]
    have HW9 := hid hw9
    have HXs := hid hxs
    clear hw9 hcO8 hcD8 hbA8 hJ
    by_cases hlt : k < n
    · obtain ⟨g, cc, hv2, hg, hgl, hnc, hfz, hcl⟩ := own_cells hxs (by omega)
      injection hv2 with e1 e2 e3
      subst e1
      subst e3
      have hlx : xs.length = n * 2 := hxs.1
      obtain ⟨u, hu⟩ : ∃ u, xs[k * 2 + 1]? = some u := ⟨xs[k * 2 + 1]'(by omega), List.getElem?_eq_getElem _⟩
      have c1 := hcl _ _ hu
      have f1 := hfz (k * 2 + 1)
      have hset := own_set hxs (g := g) rfl (k * 2 + 1) (.int .i64 99)
      have HS := hid hset
      have hki : (k : Int) < n := by omega
      have hn9 : n ≤ 5864062014805 := by omega
      clear hxs hset hcl hfz hu hg
      go_wp2_with fail
      go_roundw
      case rel => exact ⟨k + 1, hlt, by go_num, HW9.out.trans (Wr.set _ _ rfl), _, HS.out⟩
      case measure => simp [intOf]; omega
    · obtain rfl : k = n := by omega
      obtain ⟨hcO8, hcD8, hbA8, hJ, hgO⟩ := HX.out
      have hJ9 := hJ.away HW9.out (fun j e => by have := (hgO j e).2; omega)
      have hcD9 := (HW9.out.block (w.heap.size + 1) (by omega) (fun e => by have := (hgO _ e).1; omega)).trans hcD8
      have hbA9 : Below w.heap.size w wr := hbA8.trans ⟨HW9.out.os, HW9.out.tape, HW9.out.output, HW9.out.size, fun j hj => HW9.out.block j (by omega) (fun e => by have := (hgO j e).1; omega)⟩
      have hs9 := HW9.out.size
      clear hcO8 hcD8 hbA8 hJ hgO HX HW9 HXs hxs hcO HOw
      have d2 : wr.cell? ⟨w.heap.size + 1, 2, none⟩ = some (.string s) := by simp [World.cell?, hcD9]
      rcases hJ9 with ⟨rfl, rfl⟩ | ⟨C, D, w0, rfl, rfl, ⟨oP, oD, la, L, K, Z, S, hT⟩, hG, hm1⟩
      · go_wp2_with fail
        refine (Take_nil _ _ _ _).mono ?_
        rintro e w10 ⟨rfl, hb10⟩
        have hcD10 := (hb10.block _ (by omega)).trans hcD9
        have hbA10 := hbA9.trans (hb10.mono (by omega))
        clear d2 hb10 hcD9 hbA9
        have d2 : w10.cell? ⟨w.heap.size + 1, 2, none⟩ = some (.string s) := by simp [World.cell?, hcD10]
        go_wp2_with fail
        refine (rTake_nil _ _ _ _).mono ?_
        rintro e w11 ⟨rfl, rfl⟩
        go_wp2_with fail
        refine (Kept_nil _).mono ?_
        rintro e w11 ⟨rfl, rfl⟩
        have HB10 := hid hbA10
        clear hbA10 hcD10 d2 o4
        go_wp2_with fail
        go_loop [19] (fun i => i = .int .i64 0) (fun i => 0)
        case atStart => rfl
        case round =>
          subst hrel
          go_wp2_with fail
          refine (Kept_nil _).mono ?_
          rintro e w11 ⟨rfl, rfl⟩
          go_wp2_with fail
          refine (rKept_nil _).mono ?_
          rintro e w11 ⟨rfl, rfl⟩
          go_wp2_with fail
          refine (texts_nil _).mono ?_
          rintro e w12 ⟨rfl, hb12⟩
          have HB12 := hid (HB10.out.trans (hb12.mono HB10.out.size))
          clear hb12
          go_wp2_with fail
          refine (Limit_nil _ _).mono ?_
          rintro e w13 ⟨rfl, rfl⟩
          go_wp2_with fail
          refine (rLimit_nil _ _).mono ?_
          rintro e w13 ⟨rfl, rfl⟩
          go_wp2_with fail
          go_ret
          exact ⟨rfl, HB12.out⟩
      · have HTp := hid (take_p hT 0 s hs 1)
        have hBw : w.heap.size + 2 ≤ W6.heap.size := by omega
        have HG := hid (And.intro hG hm1)
        clear hT hG hm1
        go_wp2_with fail
        refine HTp.out.mono ?_
        rintro e w10 ⟨rfl, hM10, hb10⟩
        have hcD10 := (hb10.block _ (by omega)).trans hcD9
        have hbA10 := hbA9.trans (hb10.mono (by omega))
        clear d2 hb10 hcD9 hbA9 HTp
        have d2 : w10.cell? ⟨w.heap.size + 1, 2, none⟩ = some (.string s) := by simp [World.cell?, hcD10]
        have HTr := hid (take_r (by decide) HG.out.1 HG.out.2 hM10 hs)
        clear hM10 o4
        go_wp2_with fail
        refine HTr.out.mono ?_
        rintro e w11 ⟨rfl, ⟨oP', oD', la', L', K', Z', S', hT'⟩, hb11⟩
        have hbA11 := hbA10.trans (hb11.mono (by omega))
        clear d2 hb11 hcD10 hbA10 HTr
        have HKp := hid (Kept_any hT'.p)
        have HT1 := hid hT'
        have HB11 := hid hbA11
        have hll : L'.length ≤ 4096 := by
          have h1 := congrArg List.length hT'.tie.keys
          have h2 := hT'.r.pl
          have h3 := hT'.r.m1
          simp at h1
          omega
        clear hT' hbA11
        go_wp2_with fail
        refine HKp.out.mono ?_
        rintro e w12 ⟨⟨ak, ck, rfl, hkr⟩, hb12⟩
        have HT2 := hid (fresh_of HT1.out hb12)
        have HB12 := hid (HB11.out.trans (hb12.mono HB11.out.size))
        have hkl := hkr.lt
        have HKL := hid hkl
        have HKr := hid (show ∃ xs, w12.ownsRow w11.heap.size 9 1 (.slice ak L'.length ck) L'.length xs from ⟨_, hkr⟩)
        have hs12 := hb12.size
        have hs11 := HB11.out.size
        clear hkr hb12 HKp hkl HT1
        obtain ⟨q, hq⟩ : ∃ q, L'.length = q := ⟨_, rfl⟩
        rw [hq] at HKL HKr hll ⊢
        have HQ := hid hq
        clear hq
        go_wp2_with fail
        go_loopw [19] (fun i wr => ∃ k : Nat, k ≤ q ∧ i = .int .i64 k ∧ Wr (fun k => (Value.slice ak q ck).ownBlock = some k) w12 wr ∧ ∃ xs, wr.ownsRow w11.heap.size 9 1 (.slice ak q ck) q xs) (fun i _ => q - (intOf i).toNat)
        case atStart => exact ⟨0, Nat.zero_le _, rfl, Wr.refl _ _, HKr.out⟩
        case round =>
          obtain ⟨k2, hk2, rfl, hw13, xs, hxs⟩ := hrel
          have HW13 := hid hw13
          clear hw13
          by_cases hlt2 : k2 < q
          · obtain ⟨g, cc, hv2, hg, hgl, hnc, hfz, hcl⟩ := own_cells hxs (by omega)
            injection hv2 with e1 e2 e3
            subst e1
            subst e3
            have hlx : xs.length = q * 1 := hxs.1
            obtain ⟨u, hu⟩ : ∃ u, xs[k2]? = some u := ⟨xs[k2]'(by omega), List.getElem?_eq_getElem _⟩
            have c1 := hcl _ _ hu
            have f1 := hfz k2
            have HS := hid (own_set hxs (g := g) rfl k2 (.string ⟨#[63]⟩))
            have hki : (k2 : Int) < q := by omega
            clear hxs hcl hfz hu hg
            go_wp2_with fail
            go_roundw
            case rel => exact ⟨k2 + 1, hlt2, by go_num, HW13.out.trans (Wr.set _ _ rfl), _, HS.out⟩
            case measure => simp [intOf]; omega
          · obtain rfl : k2 = q := by omega
            clear hxs HKr
            have hT3 := away_of HT2.out HW13.out (fun j _ e => by
              have := (HKL.out j e).1
              exact ⟨ext_ge this, ext_ge this⟩)
            have hB13 : Below w.heap.size w wr := HB12.out.trans ⟨HW13.out.os, HW13.out.tape, HW13.out.output, HW13.out.size, fun j hj => HW13.out.block j (by omega) (fun e => by have := (HKL.out j e).1; omega)⟩
            have HT3 := hid hT3
            have HB13 := hid hB13
            have HK3 := hid (Kept_any hT3.p)
            clear hT3 hB13 HW13 HT2
            go_wp2_with fail
            refine HK3.out.mono ?_
            rintro e w14 ⟨⟨a1, c1, rfl, hr1⟩, hb14⟩
            have HT4 := hid (HT3.out.below hb14)
            have HB14 := hid (HB13.out.trans (hb14.mono HB13.out.size))
            have HR1 := hid hr1
            have HK4 := hid (rKept_any HT4.out.r)
            clear hb14 hr1 HK3 HT3
            go_wp2_with fail
            refine HK4.out.mono ?_
            rintro e w15 ⟨⟨x2, rfl, hr2⟩, hb15⟩
            have HT5 := hid (HT4.out.below hb15)
            have HB15 := hid (HB14.out.trans (hb15.mono HB14.out.size))
            have hr15 := owns_keep HR1.out fun g e => hb15.block g (HR1.out.lt g e).2
            have hkk : LruQ.ks L' = (S'.ps.map Prod.fst).map Value.string := by rw [← HT5.out.tie.keys]; unfold LruQ.ks; rw [List.map_map]; rfl
            have hlk : (S'.ps.map Prod.fst).length = k2 := by rw [← HT5.out.tie.keys, List.length_map, HQ.out]
            unfold RefP.OwnS at hr2
            rw [hlk] at hr2
            rw [hkk, HQ.out] at hr15
            obtain ⟨a2, c2, rfl⟩ := owns_shape hr2
            have HTx := texts_any (S'.ps.map Prod.fst) a1 a2 c1 c2 _ _ w15 (by rw [hlk]; omega) (by rw [hlk]; exact hr15) (by rw [hlk]; exact hr2)
            rw [hlk] at HTx
            have HTX := hid HTx
            clear HTx hb15 hr15 hr2 hkk hlk HK4 HT4 HR1
            rw [HQ.out]
            go_wp2_with fail
            refine HTX.out.mono ?_
            rintro e w16 ⟨rfl, hb16⟩
            have HT6 := hid (HT5.out.below hb16)
            have HB16 := hid (HB15.out.trans (hb16.mono HB15.out.size))
            clear hb16 HTX HT5
            have HLm := hid (Limit_any HT6.out.p ⟨#[118, 105, 112]⟩ (by unfold maxLen; decide))
            have HLe := hid (HT6.out.tie.lim ⟨#[118, 105, 112]⟩)
            go_wp2_with fail
            refine HLm.out.mono ?_
            rintro e w17 ⟨rfl, hb17⟩
            have HB17 := hid (HB16.out.trans (hb17.mono HB16.out.size))
            have HLr := hid (rLimit_any (HT6.out.below hb17).r ⟨#[118, 105, 112]⟩)
            rw [HLe.out]
            clear hb17 HLm HT6
            generalize limR D ⟨#[118, 105, 112]⟩ = lr at *
            go_wp2_with fail
            refine HLr.out.mono ?_
            rintro e w18 ⟨rfl, rfl⟩
            go_wp2_with fail
            go_ret
            exact ⟨rfl, HB17.out⟩

end Go.Proofs.YtbihelpnojjacaaGreat.RtE

/- Both side by side in memory, beside blocks that are nobody's. -/
namespace Go.Proofs.YtbihelpnojjacaaGreat.RtQ
open Go.ChangeShapes Go.WideShapes Go.ChangeAt Go.RowKit Base Wri LruA HotA HotB HotC HotD HotE HotF HotG HotH HotI HotJ HotK HotL HotM RefL RefM RwR RwS RwD RwF RwG RwE RhA RhB RhC RhD RhE RhF RhG RhH RhK RtA RtB RtC
set_option linter.unusedVariables false

/-- whose a block is, is clear -/
structure Apart (B : Nat → Prop) (ownP ownD : Nat → Tg) : Prop where
  one : ∀ k, ownP k ≠ .non → ownD k = .non
  old : ∀ k, B k → ownP k = .non ∧ ownD k = .non

/-- both as they stand -/
structure Two (B : Nat → Prop) (w0 : World) (C : HC) (D : RC) (d : Nat) (w : World) (ownP ownD : Nat → Tg) (last : Nat) (L : List LruC.Ent) (K : List KW) (Z : SK) (L0 : List LruC.Ent) (K0 : List KW) (Z0 : SK) (last0 : Nat) (S : RS) : Prop where
  p : HMem w ownP C last L K Z
  r : RMem w0 w ownD D d S
  tie : Tie C D last0 L0 K0 Z0 S
  ap : Apart B ownP ownD
  size : ∀ k, B k → k < w.heap.size

def Full (B : Nat → Prop) (w0 : World) (C : HC) (D : RC) (d : Nat) (w : World) : Prop := ∃ ownP ownD last L K Z S, Two B w0 C D d w ownP ownD last L K Z L K Z last S

variable {B : Nat → Prop} {w0 w w' : World} {C : HC} {D : RC} {d : Nat} {ownP ownD : Nat → Tg} {last : Nat} {L L0 : List LruC.Ent} {K K0 : List KW} {Z Z0 : SK} {last0 : Nat} {S : RS}

theorem Two.below (h : Two B w0 C D d w ownP ownD last L K Z L0 K0 Z0 last0 S) (hb : Below w.heap.size w w') : Two B w0 C D d w' ownP ownD last L K Z L0 K0 Z0 last0 S := ⟨h.p.below hb, h.r.below hb, h.tie, h.ap, fun k hk => Nat.lt_of_lt_of_le (h.size k hk) hb.size⟩
theorem Full.below (h : Full B w0 C D d w) (hb : Below w.heap.size w w') : Full B w0 C D d w' := by
  obtain ⟨a, b, c, d1, e, f, g, h1⟩ := h
  exact ⟨a, b, c, d1, e, f, g, h1.below hb⟩
/-- what is old may be written by others -/
theorem Two.away (h : Two B w0 C D d w ownP ownD last L K Z L0 K0 Z0 last0 S) (hw : Wr B w w') : Two B w0 C D d w' ownP ownD last L K Z L0 K0 Z0 last0 S := by
  have hk : ∀ k, k < w.heap.size → (ownP k ≠ .non ∨ ownD k ≠ .non) → w'.heap[k]? = w.heap[k]? := fun k hk h1 => hw.block k hk (fun h2 => by
    obtain ⟨h3, h4⟩ := h.ap.old k h2
    rcases h1 with h1 | h1
    · exact h1 h3
    · exact h1 h4)
  exact ⟨hkeep h.p hw (fun k hk1 h1 => (h.ap.old k h1).1), h.r.keep hw.size (fun k hk1 h1 => hk k hk1 (.inr h1)), h.tie, h.ap, fun k hk => Nat.lt_of_lt_of_le (h.size k hk) hw.size⟩

/-- the program's step -/
theorem Two.stepP (h : Two B w0 C D d w ownP ownD last L K Z L0 K0 Z0 last0 S) {ownP' : Nat → Tg} {last' : Nat} {L' : List LruC.Ent} {K' : List KW} {Z' : SK} (hp : HMem w' ownP' C last' L' K' Z') (hs : Step w ownP w' ownP') : Two B w0 C D d w' ownP' (ext ownD w.heap.size .non) last' L' K' Z' L0 K0 Z0 last0 S := by
  have hr : RMem w0 w (ext ownD w.heap.size .non) D d S := h.r.extend (Below.refl _ _) .non
  refine ⟨hp, hr.keep hs.wr.size fun k hk h1 => hs.wr.block k hk fun h2 => h1 ?_, h.tie, ⟨fun k h1 => ?_, fun k hk => ?_⟩, fun k hk => Nat.lt_of_lt_of_le (h.size k hk) hs.wr.size⟩
  · rw [ext_lt hk]; exact h.ap.one k h2
  · by_cases hk : k < w.heap.size
    · rw [ext_lt hk]
      rw [hs.tag k hk] at h1
      exact h.ap.one k h1
    · exact ext_ge (by omega)
  · have hk2 : k < w.heap.size := h.size k hk
    rw [hs.tag k hk2, ext_lt hk2]
    exact h.ap.old k hk

/-- the document's step -/
theorem Two.stepR (h : Two B w0 C D d w ownP ownD last L K Z L0 K0 Z0 last0 S) {ownD' : Nat → Tg} {d' : Nat} {S' : RS} {L1 : List LruC.Ent} {K1 : List KW} {Z1 : SK} {last1 : Nat} (hr : RMem w0 w' ownD' D d' S') (hs : Step w ownD w' ownD') (ht : Tie C D last1 L1 K1 Z1 S') : Two B w0 C D d' w' (ext ownP w.heap.size .non) ownD' last L K Z L1 K1 Z1 last1 S' := by
  have hp : HMem w (ext ownP w.heap.size .non) C last L K Z := HotD.HMem.extend h.p (Below.refl _ _) .non
  refine ⟨hkeep hp hs.wr fun k hk h2 => ?_, hr, ht, ⟨fun k h1 => ?_, fun k hk => ?_⟩, fun k hk => Nat.lt_of_lt_of_le (h.size k hk) hs.wr.size⟩
  · rw [ext_lt hk]
    by_cases h3 : ownP k = .non
    · exact h3
    · exact absurd (h.ap.one k h3) h2
  · by_cases hk : k < w.heap.size
    · rw [ext_lt hk] at h1
      rw [hs.tag k hk]
      exact h.ap.one k h1
    · rw [ext_ge (by omega)] at h1
      exact absurd rfl h1
  · have hk2 : k < w.heap.size := h.size k hk
    rw [hs.tag k hk2, ext_lt hk2]
    exact h.ap.old k hk

/-- what is between both Takes -/
def Mid (B : Nat → Prop) (w0 : World) (C : HC) (D : RC) (d : Nat) (S : RS) (t : Int) (s : ByteArray) (n : Int) (w : World) : Prop :=
  ∃ ownP ownD last L K Z last0 L0 K0 Z0, Two B w0 C D d w ownP ownD last L K Z L0 K0 Z0 last0 S ∧ L0.length = S.ps.length ∧
    ((refH S.noted t s n ≠ 0 ∧ last = last0 ∧ L = L0 ∧ K = K0 ∧ Z = Z0) ∨
     (refH S.noted t s n = 0 ∧ (last : Int) = t ∧ last0 ≤ last ∧ ((letR D S t.toNat s n = false ∧ L = L0 ∧ K = K0 ∧ Z = Z0) ∨ (letR D S t.toNat s n = true ∧ ∃ u : Nat, usedR D S t.toNat s = u ∧ u ≤ 4611686018427387904 ∧ Took C L0 K0 Z0 t.toNat s n.toNat u L K Z))))

theorem step_below {own own' : Nat → Tg} (hs : Step w own w' own') (ho : ∀ k, B k → own k = .non) : Wr (fun k => ¬ B k) w w' := ⟨hs.wr.os, hs.wr.tape, hs.wr.output, hs.wr.size, fun k hk hb => hs.wr.block k hk (fun h => hb (fun h2 => h (ho k h2)))⟩

theorem used_both (h : Two B w0 C D d w ownP ownD last L K Z L K Z last S) (t : Int) (n : Int) (s : ByteArray) : ∃ u : Nat, (refH S.noted t s n = 0 → usedR D S t.toNat s = u ∧ Us C K Z t.toNat s u ∧ u ≤ 4611686018427387904) := by
  by_cases h0 : refH S.noted t s n = 0
  · obtain ⟨t1, t2, t3, t4, t5⟩ := ref_ok h0
    obtain ⟨u, hu, hus⟩ := h.tie.used h.r.kn h.r.q0 (t := t.toNat) (by rw [← h.tie.noted]; omega) s
    have := used_in h.r t.toNat s
    exact ⟨u, fun _ => ⟨hu, hus, by omega⟩⟩
  · exact ⟨0, fun h => absurd h h0⟩

theorem take_p (h : Two B w0 C D d w ownP ownD last L K Z L K Z last S) (t : Int) (s : ByteArray) (hs : s.size ≤ maxLen) (n : Int) :
    Calls Tryz.prog 20 #[.pointer (some ⟨C.h, 0, none⟩), .int .i64 t, .string s, .int .i64 n] w fun e w' => e = .returned (.tuple #[.bool (decide (refH S.noted t s n = 0) && letR D S t.toNat s n), .int .i64 (refH S.noted t s n)]) ∧ Mid B w0 C D d S t s n w' ∧ Wr (fun k => ¬ B k) w w' := by
  obtain ⟨u, hu⟩ := used_both h t n s
  have he : hotE last t (noC n) s.size = refH S.noted t s n := by rw [err_one, h.tie.noted]
  refine (HotI.HMem.Take h.p h.tie.same t s hs n u fun h0 => ⟨(hu (by rw [← he]; exact h0)).2.1, (hu (by rw [← he]; exact h0)).2.2⟩).mono ?_
  rintro e w' ⟨rfl, own', last', L', K', Z', hM, hsm, hst, hc⟩
  have hl := let_eq (C := C) (D := D) (S := S) (last := last) (t := t) (s := s) (n := n) (u := u) h.tie.lim (fun h0 => (hu (by rw [← he]; exact h0)).1) h.tie.noted
  have hlen : L.length = S.ps.length := by have := congrArg List.length h.tie.keys; simpa using this
  rw [he] at hc ⊢
  rw [hl] at hc ⊢
  refine ⟨rfl, ⟨own', _, last', L', K', Z', last, L, K, Z, h.stepP hM hst, hlen, ?_⟩, step_below hst fun k hk => (h.ap.old k hk).1⟩
  rcases hc with ⟨h0, h1, h2, h3, h4⟩ | ⟨h0, h1, hc⟩
  · exact .inl ⟨h0, h1, h2, h3, h4⟩
  · obtain ⟨t1, t2, t3, t4, t5⟩ := ref_ok h0
    refine .inr ⟨h0, h1, by have := h.tie.noted; omega, ?_⟩
    rw [decide_eq_true h0, Bool.true_and] at hc
    rcases hc with ⟨h5, h6⟩ | ⟨h5, h6⟩
    · exact .inl ⟨h5, h6⟩
    · exact .inr ⟨h5, u, (hu h0).1, (hu h0).2.2, h6⟩

theorem take_r (hd : d + 2 ≤ 1000000) (hg : RGood D) (hm1 : 1 ≤ D.most) {t : Int} {s : ByteArray} {n : Int} (h : Mid B w0 C D d S t s n w) (hs : s.size ≤ maxLen) :
    Calls Tryz.prog 23 #[.pointer (some ⟨D.h, 0, none⟩), .int .i64 t, .string s, .int .i64 n] w fun e w' => e = .returned (.tuple #[.bool (decide (refH S.noted t s n = 0) && letR D S t.toNat s n), .int .i64 (refH S.noted t s n)]) ∧ Full B w0 C D (d + 2) w' ∧ Wr (fun k => ¬ B k) w w' := by
  obtain ⟨ownP, ownD, last, L, K, Z, last0, L0, K0, Z0, hT, hlen, hc⟩ := h
  refine (rTake_any hT.r hd hg hT.tie.both hm1 t n s hs).mono ?_
  rintro e w' ⟨rfl, own', S', hO, hb, hr⟩
  have fin : Tie C D last L K Z S' → Full B w0 C D (d + 2) w' := fun ht => ⟨_, _, _, _, _, _, _, hT.stepR hO.mem hO.step ht⟩
  refine ⟨rfl, fin ?_, step_below hO.step fun k hk => (hT.ap.old k hk).2⟩
  rcases hc with ⟨h0, rfl, rfl, rfl, rfl⟩ | ⟨h0, h1, h2, hc⟩
  · rcases hr with ⟨-, rfl⟩ | ⟨h3, -⟩ | ⟨h3, -⟩
    · exact hT.tie
    · exact absurd h3 h0
    · exact absurd h3 h0
  · obtain ⟨t1, t2, t3, t4, t5⟩ := ref_ok h0
    have htl : t.toNat = last := by omega
    rcases hr with ⟨h3, -⟩ | ⟨-, h3, rfl⟩ | ⟨-, h3, hk⟩
    · exact absurd h0 h3
    · rcases hc with ⟨-, rfl, rfl, rfl⟩ | ⟨h4, -⟩
      · have ht := hT.tie
        exact { q := ht.q, seed := ht.seed, most := ht.most, lim := ht.lim, noted := htl, keys := ht.keys, ns := ht.ns, wins := ht.wins, late := fun x hx => Nat.le_trans (ht.late x hx) h2, same := ht.same, both := hb }
      · rw [h3] at h4; cases h4
    · rcases hc with ⟨h4, -⟩ | ⟨-, u, hu, hu2, hk2⟩
      · rw [h3] at h4; cases h4
      · rw [htl] at hk hk2 hu
        exact hT.tie.took (n := n.toNat) h2 (by omega) (by omega) hu hu2 hT.r.kn hT.p.kn hk2 hk hlen

theorem fresh_of (h : Two B w0 C D d w ownP ownD last L K Z L0 K0 Z0 last0 S) (hb : Below w.heap.size w w') : Two (fun k => B k ∨ (w.heap.size ≤ k ∧ k < w'.heap.size)) w0 C D d w' (ext ownP w.heap.size .non) (ext ownD w.heap.size .non) last L K Z L0 K0 Z0 last0 S := by
  refine ⟨HotD.HMem.extend h.p hb .non, h.r.extend hb .non, h.tie, ⟨fun k h1 => ?_, fun k hk => ?_⟩, fun k hk => ?_⟩
  · by_cases hk : k < w.heap.size
    · rw [ext_lt hk] at h1 ⊢; exact h.ap.one k h1
    · rw [ext_ge (by omega)]
  · rcases hk with hk | hk
    · have hk2 := h.size k hk
      rw [ext_lt hk2, ext_lt hk2]; exact h.ap.old k hk
    · rw [ext_ge hk.1, ext_ge hk.1]; exact ⟨rfl, rfl⟩
  · rcases hk with hk | hk
    · exact Nat.lt_of_lt_of_le (h.size k hk) hb.size
    · exact hk.2
theorem Two.less {B' : Nat → Prop} (h : Two B w0 C D d w ownP ownD last L K Z L0 K0 Z0 last0 S) (hB : ∀ k, B' k → B k) : Two B' w0 C D d w ownP ownD last L K Z L0 K0 Z0 last0 S :=
  ⟨h.p, h.r, h.tie, ⟨h.ap.one, fun k hk => h.ap.old k (hB k hk)⟩, fun k hk => h.size k (hB k hk)⟩
theorem Full.less {B' : Nat → Prop} (h : Full B w0 C D d w) (hB : ∀ k, B' k → B k) : Full B' w0 C D d w := by
  obtain ⟨a, b, c, e, f, g, i, h1⟩ := h
  exact ⟨a, b, c, e, f, g, i, h1.less hB⟩
theorem Two.more (h : Two B w0 C D d w ownP ownD last L K Z L0 K0 Z0 last0 S) {d' : Nat} (hd : d ≤ d') : Two B w0 C D d' w ownP ownD last L K Z L0 K0 Z0 last0 S := ⟨h.p, h.r.more hd, h.tie, h.ap, h.size⟩
theorem full_of {b : Nat} (h : RtC.Full b w0 C D d w) : Full (fun k => k < b) w0 C D d w := by
  obtain ⟨a, b2, c, e, f, g, i, h1⟩ := h
  exact ⟨a, b2, c, e, f, g, i, h1.p, h1.r, h1.tie, ⟨h1.ap.one, h1.ap.old⟩, fun k hk => Nat.lt_of_lt_of_le hk h1.size⟩

end Go.Proofs.YtbihelpnojjacaaGreat.RtQ

namespace Go.Proofs.YtbihelpnojjacaaGreat.RtG
open Go.ChangeShapes Go.WideShapes Go.ChangeAt Go.RowKit Base Wri LruA HotA HotB HotC HotD HotE HotF HotG HotH HotI HotJ HotK HotL HotM HotN HotO HotZ RefL RefM RwR RwS RwD RwF RwG RwE RhA RhB RhC RhD RhE RhF RhG RhH RhK RtA RtB RtD RtQ
set_option linter.unusedVariables false
set_option linter.unusedSimpArgs false
variable {B : Nat → Prop} {w0 w w' : World} {C : HC} {D : RC} {d : Nat}

theorem used_p {ownP ownD : Nat → Tg} {last : Nat} {L : List LruC.Ent} {K : List KW} {Z : SK} {S : RS} (h : Two B w0 C D d w ownP ownD last L K Z L K Z last S) (t : Int) (s : ByteArray) (hs : s.size ≤ maxLen) :
    Calls Tryz.prog 21 #[.pointer (some ⟨C.h, 0, none⟩), .int .i64 t, .string s] w fun e w' => e = .returned (.tuple #[.int .i64 (if refH S.noted t s 1 = 0 then usedR D S t.toNat s else 0), .int .i64 (refH S.noted t s 1)]) ∧ Below w.heap.size w w' := by
  obtain ⟨u, hu⟩ := used_both h t 1 s
  have he : hotE last t false s.size = refH S.noted t s 1 := by rw [err_nil, h.tie.noted]
  refine (HotC.HMem.Used h.p t s hs u fun h0 => (hu (by rw [← he]; exact h0)).2.1).mono ?_
  rintro e w' ⟨rfl, hb⟩
  rw [he]
  refine ⟨?_, hb⟩
  by_cases h0 : refH S.noted t s 1 = 0
  · rw [if_pos h0, if_pos h0, (hu h0).1]
  · rw [if_neg h0, if_neg h0]

theorem look_p {ownP ownD : Nat → Tg} {last : Nat} {L : List LruC.Ent} {K : List KW} {Z : SK} {S : RS} (h : Two B w0 C D d w ownP ownD last L K Z L K Z last S) (t : Int) (s : ByteArray) (hs : s.size ≤ maxLen) (n : Int) :
    Calls Tryz.prog 22 #[.pointer (some ⟨C.h, 0, none⟩), .int .i64 t, .string s, .int .i64 n] w fun e w' => e = .returned (.tuple #[.bool (decide (refH S.noted t s n = 0) && letR D S t.toNat s n), .int .i64 (refH S.noted t s n)]) ∧ Below w.heap.size w w' := by
  obtain ⟨u, hu⟩ := used_both h t n s
  have he : hotE last t (noC n) s.size = refH S.noted t s n := by rw [err_one, h.tie.noted]
  refine (HotC.HMem.Look h.p t s hs n u fun h0 => ⟨(hu (by rw [← he]; exact h0)).2.1, (hu (by rw [← he]; exact h0)).2.2⟩).mono ?_
  rintro e w' ⟨rfl, hb⟩
  have hl := let_eq (C := C) (D := D) (S := S) (last := last) (t := t) (s := s) (n := n) (u := u) h.tie.lim (fun h0 => (hu (by rw [← he]; exact h0)).1) h.tie.noted
  unfold letB at hl
  rw [he] at hl ⊢
  rw [hl]
  exact ⟨rfl, hb⟩

theorem bs {a w w' : World} (h : Below a.heap.size a w) (hb : Below w.heap.size w w') : Below a.heap.size a w' := h.trans (hb.mono h.size)
theorem wb {R : Nat → Prop} {a w w' : World} (h : Wr R a w) (hb : Below w.heap.size w w') : Wr R a w' := h.trans (Wr.ofBelow hb)

set_option maxRecDepth 20000 in
set_option maxHeartbeats 2000000 in
theorem do_any (hF : Full B w0 C D d w) (hd : d + 2 ≤ 1000000) (hG : RGood D) (hm1 : 1 ≤ D.most) (kd at_ m : Int) (s : ByteArray) (hs : s.size ≤ maxLen) :
    Calls Tryz.prog 14 #[.pointer (some ⟨C.h, 0, none⟩), .pointer (some ⟨D.h, 0, none⟩), .agg #[.int .i64 kd, .int .i64 at_, .string s, .int .i64 m]] w fun e w' => e = .returned (.bool true) ∧ Full B w0 C D (d + 2) w' ∧ Wr (fun k => ¬ B k) w w' := by
  obtain ⟨oP, oD, la, L, K, Z, S, hT0⟩ := hF
  have hbX : Below w.heap.size w (w.alloc (.cells #[.int .i64 kd, .int .i64 at_, .string s, .int .i64 m] 41)) := (Below.refl _ _).alloc (Nat.le_refl _) _
  have hcX : (w.alloc (.cells #[.int .i64 kd, .int .i64 at_, .string s, .int .i64 m] 41)).heap[w.heap.size]? = some (.cells #[.int .i64 kd, .int .i64 at_, .string s, .int .i64 m] 41) := heap_alloc_new _ _
  have hT1 := fresh_of hT0 hbX
  obtain ⟨X, hX⟩ : ∃ X, w.heap.size = X := ⟨_, rfl⟩
  obtain ⟨W, hW⟩ : ∃ W, w.alloc (.cells #[.int .i64 kd, .int .i64 at_, .string s, .int .i64 m] 41) = W := ⟨_, rfl⟩
  have HBW := hid (show Wr (fun k => ¬ B k) w W from by rw [← hW]; exact Wr.ofBelow hbX)
  rw [hW] at hbX hcX hT1
  rw [hX] at hcX
  have hsW : W.heap.size = X + 1 := by rw [← hW, ← hX]; simp
  obtain ⟨B1, hB1⟩ : ∃ B1 : Nat → Prop, (fun k => B k ∨ (w.heap.size ≤ k ∧ k < W.heap.size)) = B1 := ⟨_, rfl⟩
  rw [hB1] at hT1
  have HB1 := hid (show (∀ k, B k → B1 k) ∧ B1 X from ⟨fun k hk => by rw [← hB1]; exact .inl hk, by rw [← hB1]; exact .inr ⟨by omega, by omega⟩⟩)
  have HT := hid hT1
  clear hT0 hT1 hbX hB1
  go_enter Tryz.func14, Tryz.ntmps14
  go_upto_region 1 with fail
  clear hW hX
  have x0 : W.cell? ⟨X, 0, none⟩ = some (.int .i64 kd) := by simp [World.cell?, hcX]
  have x1 : W.cell? ⟨X, 1, none⟩ = some (.int .i64 at_) := by simp [World.cell?, hcX]
  have x2 : W.cell? ⟨X, 2, none⟩ = some (.string s) := by simp [World.cell?, hcX]
  have x3 : W.cell? ⟨X, 3, none⟩ = some (.int .i64 m) := by simp [World.cell?, hcX]
  by_cases hk0 : kd = 0
  · subst hk0
    have HU := hid (used_p HT.out at_ s hs)
    clear hcX
    go_wp2_with fail
    refine HU.out.mono ?_
    rintro e w2 ⟨rfl, hb2⟩
    have y1 : w2.cell? ⟨X, 1, none⟩ = some (.int .i64 at_) := RwC.kc hb2 x1
    have y2 : w2.cell? ⟨X, 2, none⟩ = some (.string s) := RwC.kc hb2 x2
    have HT2 := hid (HT.out.below hb2)
    have HB2 := hid (wb HBW.out hb2)
    have HU2 := hid (rUsed_any HT2.out.r (by omega) at_ s hs)
    clear HU hb2 x0 x1 x2 x3
    generalize (if refH S.noted at_ s 1 = 0 then usedR D S at_.toNat s else 0) = u at *
    generalize refH S.noted at_ s 1 = r at *
    go_wp2_with fail
    refine HU2.out.mono ?_
    rintro e w3 ⟨rfl, hb3⟩
    have HT3 := hid (show Full B w0 C D (d + 2) w3 from ⟨_, _, _, _, _, _, _, ((HT2.out.below hb3).less HB1.out.1).more (by omega)⟩)
    have HB3 := hid (wb HB2.out hb3)
    clear hb3 HU2
    go_wp2_with fail
    go_ret
    exact ⟨by simp, HT3.out, HB3.out⟩
  · have n0 : (kd == 0) = false := by simpa using hk0
    by_cases hk1 : kd = 1
    · subst hk1
      have HU := hid (look_p HT.out at_ s hs m)
      clear hcX
      go_wp2_with fail
      refine HU.out.mono ?_
      rintro e w2 ⟨rfl, hb2⟩
      have y1 : w2.cell? ⟨X, 1, none⟩ = some (.int .i64 at_) := RwC.kc hb2 x1
      have y2 : w2.cell? ⟨X, 2, none⟩ = some (.string s) := RwC.kc hb2 x2
      have y3 : w2.cell? ⟨X, 3, none⟩ = some (.int .i64 m) := RwC.kc hb2 x3
      have HT2 := hid (HT.out.below hb2)
      have HB2 := hid (wb HBW.out hb2)
      have HU2 := hid (rLook_any HT2.out.r (by omega) hG at_ m s hs)
      clear HU hb2 x0 x1 x2 x3
      generalize (decide (refH S.noted at_ s m = 0) && letR D S at_.toNat s m) = u at *
      generalize refH S.noted at_ s m = r at *
      go_wp2_with fail
      refine HU2.out.mono ?_
      rintro e w3 ⟨rfl, hb3⟩
      have HT3 := hid (show Full B w0 C D (d + 2) w3 from ⟨_, _, _, _, _, _, _, ((HT2.out.below hb3).less HB1.out.1).more (by omega)⟩)
      have HB3 := hid (wb HB2.out hb3)
      clear hb3 HU2
      go_wp2_with fail
      go_ret
      exact ⟨by simp, HT3.out, HB3.out⟩
    · have n1 : (kd == 1) = false := by simpa using hk1
      have HU := hid (take_p HT.out at_ s hs m)
      clear hk0 hk1
      go_wp2_with fail
      refine HU.out.mono ?_
      rintro e w2 ⟨rfl, hM2, hw2⟩
      have hcX2 := (hw2.block X (by omega) (fun h => h HB1.out.2)).trans hcX
      have HB2 := hid (HBW.out.trans (hw2.mono fun k hk h => hk (HB1.out.1 k h)))
      have hs2 := hw2.size
      have HU2 := hid (take_r hd hG hm1 hM2 hs)
      clear HU x0 x1 x2 x3 hM2 hw2 hcX HT
      have y1 : w2.cell? ⟨X, 1, none⟩ = some (.int .i64 at_) := by simp [World.cell?, hcX2]
      have y2 : w2.cell? ⟨X, 2, none⟩ = some (.string s) := by simp [World.cell?, hcX2]
      have y3 : w2.cell? ⟨X, 3, none⟩ = some (.int .i64 m) := by simp [World.cell?, hcX2]
      generalize (decide (refH S.noted at_ s m = 0) && letR D S at_.toNat s m) = u at *
      generalize refH S.noted at_ s m = r at *
      go_wp2_with fail
      refine HU2.out.mono ?_
      rintro e w3 ⟨rfl, ⟨oP', oD', la', L', K', Z', S', hT3⟩, hw3⟩
      have hcX3 := (hw3.block X (by omega) (fun h => h HB1.out.2)).trans hcX2
      have HB3 := hid (HB2.out.trans (hw3.mono fun k hk h => hk (HB1.out.1 k h)))
      have hs3 := hw3.size
      have HT3 := hid hT3
      clear HU2 y1 y2 y3 hcX2 hT3 hw3
      have z2 : w3.cell? ⟨X, 2, none⟩ = some (.string s) := by simp [World.cell?, hcX3]
      clear hcX3
      have HLm := hid (fun (w' : World) (hb : Below w3.heap.size w3 w') => Limit_any (HT3.out.below hb).p s hs)
      have HLr := hid (fun (w' : World) (hb : Below w3.heap.size w3 w') => rLimit_any (HT3.out.below hb).r s)
      have HKm := hid (fun (w' : World) (hb : Below w3.heap.size w3 w') => Kept_any (HT3.out.below hb).p)
      have HKr := hid (fun (w' : World) (hb : Below w3.heap.size w3 w') => rKept_any (HT3.out.below hb).r)
      rw [HT3.out.tie.lim s] at HLm
      have hkk : LruQ.ks L' = (S'.ps.map Prod.fst).map Value.string := by rw [← HT3.out.tie.keys]; unfold LruQ.ks; rw [List.map_map]; rfl
      have hlk : (S'.ps.map Prod.fst).length = L'.length := by rw [← HT3.out.tie.keys, List.length_map]
      have hll : (S'.ps.map Prod.fst).length ≤ 1000000 := by
        have h2 := HT3.out.r.pl
        have h3 := HT3.out.r.m1
        rw [List.length_map]
        omega
      have HTx := hid (fun (w' : World) (a1 : Option Addr) (c1 : Nat) (a2 : Option Addr) (c2 b1 b2 : Nat) (h1 : w'.ownsRow b1 9 1 (.slice a1 L'.length c1) L'.length (LruQ.ks L')) (h2 : w'.ownsRow b2 9 1 (.slice a2 (S'.ps.map Prod.fst).length c2) (S'.ps.map Prod.fst).length ((S'.ps.map Prod.fst).map Value.string)) => by
        have := texts_any (S'.ps.map Prod.fst) a1 a2 c1 c2 b1 b2 w' hll (by rw [hlk, ← hkk]; exact h1) h2
        rw [show (Value.slice a1 (S'.ps.map Prod.fst).length c1) = .slice a1 L'.length c1 by rw [hlk]] at this
        exact this)
      have kb0 : Below w3.heap.size w3 w3.drew := (Below.refl _ _).drew
      unfold RefP.OwnS at HKr
      have HFin := hid (And.intro HT3.out HB3.out)
      clear hkk hlk hll HT3
      generalize S'.ps.map Prod.fst = ks at *
      generalize limR D s = lr at *
      go_wp2_with fail
      go_region_held3 (fun w' => w'.cell? ⟨X, 2, none⟩ = some (.string s)) (first | assumption | go_keep) (first
        | (go_at_call 18; with_reducible refine (HLm.out _ (by first | assumption | exact Below.drew (by assumption))).mono ?_; rintro e w9 ⟨rfl, hb⟩; have q2 : w9.cell? ⟨X, 2, none⟩ = some (.string s) := RwC.kc hb (by first | assumption | go_cell); have kb : Below w3.heap.size w3 w9 := bs (by first | assumption | exact Below.drew (by assumption)) hb)
        | (go_at_call 19; with_reducible refine (HLr.out _ (by first | assumption | exact Below.drew (by assumption))).mono ?_; rintro e w9 ⟨rfl, rfl⟩)
        | (go_at_call 16; with_reducible refine (HKm.out _ (by first | assumption | exact Below.drew (by assumption))).mono ?_; rintro e w9 ⟨⟨a1, c1, rfl, hr1⟩, hb⟩; have q2 : w9.cell? ⟨X, 2, none⟩ = some (.string s) := RwC.kc hb (by first | assumption | go_cell); have kb : Below w3.heap.size w3 w9 := bs (by first | assumption | exact Below.drew (by assumption)) hb)
        | (go_at_call 17; with_reducible refine (HKr.out _ (by first | assumption | exact Below.drew (by assumption))).mono ?_; rintro e w9 ⟨⟨xv, rfl, hr2⟩, hb⟩; have q2 : w9.cell? ⟨X, 2, none⟩ = some (.string s) := RwC.kc hb (by first | assumption | go_cell); have kb : Below w3.heap.size w3 w9 := bs (by first | assumption | exact Below.drew (by assumption)) hb; obtain ⟨a2, c2, rfl⟩ := owns_shape hr2; have hr3 := owns_keep hr1 (fun g e => hb.block g (hr1.lt g e).2))
        | (go_at_call 15; with_reducible refine (HTx.out _ _ _ _ _ _ _ hr3 hr2).mono ?_; rintro e w9 ⟨rfl, hb⟩; have q2 : w9.cell? ⟨X, 2, none⟩ = some (.string s) := RwC.kc hb (by first | assumption | go_cell); have kb : Below w3.heap.size w3 w9 := bs (by first | assumption | exact Below.drew (by assumption)) hb))
      rename_i hHeld
      clear hHeld
      have HBl := hid kb
      clear HLm HLr HKm HKr HTx hr1 hr2 hr3 q2 kb0
      go_wp2_with fail
      go_ret
      have hfin : ∀ wz, Below w3.heap.size w3 wz → Full B w0 C D (d + 2) wz ∧ Wr (fun k => ¬ B k) w wz := fun wz hz => ⟨⟨_, _, _, _, _, _, _, (HFin.out.1.below hz).less HB1.out.1⟩, wb HFin.out.2 hz⟩
      exact ⟨rfl, hfin _ HBl.out⟩

end Go.Proofs.YtbihelpnojjacaaGreat.RtG
