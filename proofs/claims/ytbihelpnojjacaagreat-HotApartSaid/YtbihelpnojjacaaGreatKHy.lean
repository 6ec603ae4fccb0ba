/- whatever the rule and the calls, what is taken of one value changes nothing of another one, as long as that is kept -/
import Derived.Test.YtbihelpnojjacaaGreatKWin
import Derived.Test.YtbihelpnojjacaaGreatKHa
import Derived.Maps.AppendAt
import Derived.Lib.SliceRun
import Derived.Test.YtbihelpnojjacaaGreatKHb
import Derived.Test.YtbihelpnojjacaaGreatKLru
import Derived.Maps.RangeRun
import Derived.Test.YtbihelpnojjacaaGreatKSk
import Derived.Deep.RegionHeld3
import Derived.BigQuiet
import Derived.Deep.DeepCutAuto
import Derived.Test.YtbihelpnojjacaaGreatRows
import Derived.WalkKit
import Derived.ProofKit
import Derived.OpenShut
import Derived.ShutString
import Derived.ChangeOld
import Derived.Below
import Derived.SizedLaws
import Derived.ChangeShapes
import Derived.Test.YtbihelpnojjacaaGreatOpn

/- Copies of windows. -/
namespace Go.Proofs.YtbihelpnojjacaaGreat.WinO
set_option linter.unusedVariables false
open Go.ChangeShapes Go.WideShapes Go.ChangeAt Go.RowKit Go.Deep Base Wri Map LruA WinM WinA WinB WinC WinD WinE WinF WinG WinH WinI WinJ WinK WinN HotD

def cells7 (f : Nat → Bkt) (n : Nat) : List Value := ((List.range n).map f).flatMap WinC.bv
theorem cells7_succ (f : Nat → Bkt) (n : Nat) : cells7 f (n + 1) = cells7 f n ++ WinC.bv (f n) := by unfold cells7; simp [List.range_succ]
theorem bv_len (b : Bkt) : (WinC.bv b).length = 7 := rfl
theorem cells7_len (f : Nat → Bkt) (n : Nat) : (cells7 f n).length = n * 7 := by
  induction n with
  | zero => rfl
  | succ n ih => rw [cells7_succ, List.length_append, ih, bv_len]; omega
theorem cells7_at (f : Nat → Bkt) (n : Nat) : ∀ i, i < n → ∀ j, j < 7 → (cells7 f n)[i * 7 + j]? = (WinC.bv (f i))[j]? := by
  induction n with
  | zero => intro i hi; omega
  | succ n ih =>
    intro i hi j hj
    rw [cells7_succ]
    by_cases e : i = n
    · subst e
      rw [List.getElem?_append_right (by rw [cells7_len]; omega), cells7_len, show i * 7 + j - i * 7 = j by omega]
    · rw [List.getElem?_append_left (by rw [cells7_len]; omega)]
      exact ih i (by omega) j hj
theorem one7 (f : Nat → Bkt) (n : Nat) : ∀ u ∈ cells7 f n, u.oneCell' = true := by
  intro u hu
  unfold cells7 at hu
  obtain ⟨x, hx, hu⟩ := List.mem_flatMap.1 hu
  unfold WinC.bv at hu
  simp at hu
  rcases hu with rfl | rfl | rfl | rfl | rfl | rfl | rfl <;> rfl
theorem infoBk : (Tryz.prog.info? 182).map (fun i => (i.zero, i.size, i.bytes)) = some (some (.agg #[.int .i64 0, .int .i64 0, .int .i64 0, .int .i64 0, .int .i64 0, .int .i64 0, .int .i64 0]), 7, 56) := by kernel_rfl

/-- a row of one's own as buckets -/
theorem bk_of {w : World} {B n : Nat} {v : Value} {f : Nat → Bkt} (h : w.ownsRow B 182 7 v n (cells7 f n)) (hn : 0 < n) : ∃ g cap, v = .slice (some ⟨g, 0, none⟩) n cap ∧ B ≤ g ∧ IsBk w g cap n f := by
  rcases h.2 with ⟨rfl, hz⟩ | ⟨g, cap, cur, rfl, hg, hgb, h1, h2, h3, h4⟩
  · omega
  · refine ⟨g, cap, rfl, hg, cur, hgb, h3, h1, h2, fun i hi j hj => ?_⟩
    have h5 := cells7_at f n i hi j hj
    rw [← h4, List.getElem?_take, if_pos (by omega), Array.getElem?_toList] at h5
    exact h5

set_option maxRecDepth 20000 in
set_option maxHeartbeats 2000000 in
theorem bclone_any (w : World) (go : Option Nat) (v : Value) (bs : List Bkt) (h : Holds w go v bs) (hl : bs.length ≤ 1000) :
    Calls Tryz.prog 91 #[v] w fun e w' => (∃ a n c, e = .returned (.slice a n c) ∧ ∃ go', Holds w' go' (.slice a n c) bs ∧ ∀ g, go' = some g → w.heap.size ≤ g) ∧ Below w.heap.size w w' := by
  obtain ⟨i0, hi, hz0, hz1, hz2⟩ := info_parts infoBk
  rcases h with ⟨rfl, rfl, rfl⟩ | ⟨g, cap, f, rfl, rfl, hbk, htl⟩
  · have he : ∀ wx, (binOp .eql 177 (.slice none 0 0) (.slice none 0 0)).run Tryz.prog wx = .ok (.bool true) wx := fun wx => Go.Lib.run_eql_slice_nil wx _ 182 _ _ _ _ _ Tryz.underlying177
    go_enter Tryz.func91, Tryz.ntmps91
    go_wp2_with fail
    go_ret
    exact ⟨⟨none, 0, 0, rfl, none, .inl ⟨rfl, rfl, rfl⟩, fun g hg => by cases hg⟩, Below.refl _ _⟩
  · obtain ⟨n, hn⟩ : ∃ n, bs.length = n := ⟨_, rfl⟩
    rw [hn] at hbk htl hl ⊢
    have he : ∀ wx, (binOp .eql 177 (.slice (some ⟨g, 0, none⟩) n cap) (.slice none 0 0)).run Tryz.prog wx = .ok (.bool false) wx := fun wx => Go.Lib.run_eql_slice_nil wx _ 182 _ _ _ _ _ Tryz.underlying177
    have hb0 : Below w.heap.size w (w.alloc (.cells #[] 182)) := (Below.refl _ _).alloc (Nat.le_refl _) _
    have h0 : (w.alloc (.cells #[] 182)).ownsRow w.heap.size 182 7 (.slice (some ⟨w.heap.size, 0, none⟩) 0 0) 0 [] := ⟨rfl, .inr ⟨w.heap.size, 0, #[], rfl, Nat.le_refl _, heap_alloc_new _ _, Nat.le_refl _, Nat.zero_le _, rfl, rfl⟩⟩
    have hbk2 := hbk.of_block (hb0.block g hbk.lt)
    have hnews : ∀ (j : Nat) (u : Value), (cells7 f n)[j]? = some u → (w.alloc (.cells #[] 182)).cell? ((⟨g, 0, none⟩ : Addr).add j) = some u := fun j u hu => by
      have hj := (List.getElem?_eq_some_iff.1 hu).1
      rw [cells7_len] at hj
      have h5 := cells7_at f n (j / 7) (by omega) (j % 7) (by omega)
      rw [show j / 7 * 7 + j % 7 = j by omega] at h5
      rw [Go.WideShapes.add_plain, Nat.zero_add]
      have := hbk2.cell (j / 7) (by omega) (j % 7) (by omega) u (by rw [← h5]; exact hu)
      rwa [show j / 7 * 7 + j % 7 = j by omega] at this
    have HX := hid (And.intro h0 (And.intro hb0 (And.intro hnews htl)))
    have HN := hid hn
    clear hbk hbk2 h0 hb0 hnews htl hn
    go_enter Tryz.func91, Tryz.ntmps91
    go_wp2_with (at_builtin; refine wpList_append_own_at _ rfl _ _ 177 rfl w.heap.size 182 i0 (.agg #[.int .i64 0, .int .i64 0, .int .i64 0, .int .i64 0, .int .i64 0, .int .i64 0, .int .i64 0]) 7 56 Tryz.underlying177 hi hz0 hz1 hz2 rfl (by decide) (.slice (some ⟨w.heap.size, 0, none⟩) 0 0) 0 [] rfl HX.out.1 ⟨g, 0, none⟩ n cap (cells7 f n) rfl (cells7_len f n) HX.out.2.2.1 (one7 f n) (by unfold maxLen; omega) (by omega) (by simp) ?_; intro v6 w6 hown6 hgr6 hnil6 hat6; obtain ⟨vb, vd, rfl⟩ := owns_shape hown6)
    go_ret
    rw [Nat.zero_add, List.nil_append] at hown6
    have hbel : Below w.heap.size w w6 := HX.out.2.1.grown hgr6 (by simp) (fun k e => by simp [Value.ownBlock] at e; omega)
    refine ⟨⟨vb, _, vd, rfl, ?_⟩, hbel⟩
    by_cases hn0 : n = 0
    · subst hn0
      obtain rfl : bs = [] := List.eq_nil_of_length_eq_zero HN.out
      rcases hown6.2 with ⟨e, _⟩ | ⟨g6, cap6, cur6, e, hg6, hgb6, h1, h2, h3, h4⟩
      · exact ⟨none, .inl ⟨rfl, e, rfl⟩, fun g hg => by cases hg⟩
      · exact ⟨some g6, .inr ⟨g6, cap6, fun _ => ⟨0, ⟨0, 0, 0, 0, 0, 0⟩⟩, rfl, e, ⟨cur6, hgb6, h3, h1, h2, fun i hi => absurd hi (Nat.not_lt_zero _)⟩, rfl⟩, fun g hg => by cases hg; exact hg6⟩
    · obtain ⟨g6, cap6, e, hg6, hbk6⟩ := bk_of hown6 (by omega)
      exact ⟨some g6, .inr ⟨g6, cap6, f, rfl, by rw [HN.out]; exact e, by rw [HN.out]; exact hbk6, by rw [HN.out]; exact HX.out.2.2.2⟩, fun g hg => by cases hg; exact hg6⟩

set_option maxRecDepth 20000 in
set_option maxHeartbeats 2000000 in
theorem wfork_any (w : World) (p : Nat) (go : Option Nat) (s : Win) (h : IsWin w p go s) (hl : s.bs.length ≤ 1000) :
    Calls Tryz.prog 59 #[.pointer (some ⟨p, 0, none⟩)] w fun e w' => (∃ q go', e = .returned (.pointer (some ⟨q, 0, none⟩)) ∧ w.heap.size ≤ q ∧ IsWin w' q go' s ∧ ∀ g, go' = some g → w.heap.size ≤ g) ∧ Below w.heap.size w w' := by
  obtain ⟨hne, v, hb, hh⟩ := h
  have hsh : ∃ a n c, v = .slice a n c := by
    rcases hh with ⟨_, rfl, _⟩ | ⟨g, cap, f, _, rfl, _⟩
    · exact ⟨_, _, _, rfl⟩
    · exact ⟨_, _, _, rfl⟩
  obtain ⟨a, n, c, rfl⟩ := hsh
  have hpl : p < w.heap.size := (Array.getElem?_eq_some_iff.1 hb).1
  have c0 := cell_of hb 0 _ rfl
  have c1 := cell_of hb 1 _ rfl
  have c2 := cell_of hb 2 _ rfl
  have c3 := cell_of hb 3 _ rfl
  have hbx : Below w.heap.size w (w.alloc (.cells #[.int .i64 s.width, .int .i64 s.size, .int .i64 s.last, .slice a n c] 179)) := (Below.refl _ _).alloc (Nat.le_refl _) _
  have HC := hid (bclone_any _ go _ s.bs (hh.of_block (w' := w.alloc (.cells #[.int .i64 s.width, .int .i64 s.size, .int .i64 s.last, .slice a n c] 179)) fun g hg => hbx.block g (hh.lt g hg)) hl)
  have HBx := hid (And.intro hbx (heap_alloc_new w (.cells #[.int .i64 s.width, .int .i64 s.size, .int .i64 s.last, .slice a n c] 179)))
  clear hh hb hbx hne
  have HS := hid (show (⟨s.width, s.size, s.last, s.bs⟩ : Win) = s from rfl)
  generalize s.width = x1 at *
  generalize s.size = x2 at *
  generalize s.last = x3 at *
  generalize s.bs = bs at *
  go_enter Tryz.func59, Tryz.ntmps59
  go_wp2_with fail
  refine HC.out.mono ?_
  rintro e w2 ⟨⟨a2, n2, c2', rfl, go2, hh2, hg2⟩, hb2⟩
  have hq2 := (hb2.block w.heap.size (Array.getElem?_eq_some_iff.1 HBx.out.2).1).trans HBx.out.2
  have d3 := cell_of hq2 3 _ rfl
  have f3 : w2.frozen? ⟨w.heap.size, 3, none⟩ = false := by simp [World.frozen?, hq2]
  have hsz := hb2.size
  have HH := hid (And.intro hh2 (And.intro hg2 (And.intro hb2 hq2)))
  clear hh2 hg2 hb2 hq2 hsz
  go_wp2_with fail
  go_ret
  obtain ⟨hh2, hg2, hb2, hq2⟩ := HH.out
  have hsz := HBx.out.1.size
  have hsz2 : (w.alloc (.cells #[.int .i64 x1, .int .i64 x2, .int .i64 x3, .slice a n c] 179)).heap.size = w.heap.size + 1 := by simp
  refine ⟨⟨_, go2, rfl, Nat.le_refl _, ⟨?_, .slice a2 n2 c2', ?_, ?_⟩, fun g hg => ?_⟩, ?_⟩
  · intro e
    have := hg2 _ e
    omega
  · rw [← HS.out]
    exact heap_setCell_same _ _ _ _ _ _ hq2
  · rw [← HS.out]
    refine hh2.of_block fun g hg => heap_setCell_other _ _ _ _ ?_
    have := hg2 g hg
    show g ≠ w.heap.size
    omega
  · have := hg2 g hg
    omega
  · have hb3 := HBx.out.1.trans (hb2.mono hsz)
    exact hb3.setCell (Nat.le_refl _) _

end Go.Proofs.YtbihelpnojjacaaGreat.WinO

/- A hot parameter's rule at work: the copy of what is kept exactly. -/
namespace Go.Proofs.YtbihelpnojjacaaGreat.HotV
open Go.ChangeShapes Go.WideShapes Go.ChangeAt Go.RowKit Go.Deep Base Wri Map LruA LruB LruC LruD LruE LruF HotA HotB HotC HotD HotE HotF HotG HotH HotI HotJ HotK HotL HotM HotN HotO HotR WinO
open Go.Maps (Keyed string_keyed)
open Go.ChangeMaps (setBlock modify_eq_set)
set_option linter.unusedVariables false

theorem key_string {v : Value} {l : Lit} (h : keyOf Tryz.prog 9 v = some l) : ∃ s : ByteArray, v = .string s ∧ s.size ≤ maxLen := by
  have hu := Tryz.underlying9
  unfold keyOf at h
  simp [hu] at h
  unfold mapKey at h
  simp only [hu] at h
  cases v <;> simp at h
  exact ⟨_, rfl, h.1⟩

theorem run_hintW (n : Nat) (w : World) : (Instr.makeMap 60 (some (.int .i64 n))).run Tryz.prog w = .ok (.map (some w.heap.size)) (w.alloc (.map #[] 0)) := by
  have h1 := Tryz.underlying60
  simp [Instr.makeMap, run_underlying h1, asInt, asIntOf, Result.andThen]

/-- windows that were copied: as many as were seen -/
structure Cpd (B : Nat) (K : List KW) (es : Array MapEntry) (seen : Array Nat) (K2 : List KW) (wb2 : Nat) (w : World) : Prop where
  map : ∃ F n, MapOf Tryz.prog 9 w wb2 F n ∧ ∀ s v, F (.string s) = some v ↔ ∃ x ∈ K2, x.k = s ∧ v = ptr x.p
  nd : (K2.map KW.k).Nodup
  win : ∀ x ∈ K2, WinE.IsWin w x.p x.go x.s ∧ B ≤ x.p ∧ (∀ g, x.go = some g → B ≤ g) ∧ ∃ y ∈ K, y.k = x.k ∧ y.s = x.s ∧ y.t = x.t
  got : ∀ e ∈ es.toList, seen.contains e.born = true → ∃ x ∈ K2, e.key = .string x.k
  far : ∀ x ∈ K2, ∃ e ∈ es.toList, seen.contains e.born = true ∧ e.key = .string x.k

variable {w w' : World} {own : Nat → Tg} {C : HC} {last : Nat} {L L' : List Ent} {K K' : List KW} {Z Z' : SK}

theorem push_has {seen : Array Nat} {a b : Nat} : (seen.push a).contains b = true ↔ seen.contains b = true ∨ b = a := by
  simp

/-- one window more was copied -/
theorem Cpd.step {B : Nat} {es : Array MapEntry} {seen : Array Nat} {K2 : List KW} {wb2 : Nat} {w w5 w6 : World} {clock : Nat} (h : Cpd B K es seen K2 wb2 w) (hB : Bn es clock) (hpw : es.toList.Pairwise (fun x y => x.key ≠ y.key)) {e : MapEntry} (he : e ∈ es.toList) (hns : seen.contains e.born = false) {y : KW} (hy : y ∈ K) (hk : e.key = .string y.k)
    {q : Nat} {go : Option Nat} (hq : B ≤ q) (hgo : ∀ g, go = some g → B ≤ g) (hw : WinE.IsWin w5 q go y.s) (h5 : ∀ x ∈ K2, WinE.IsWin w5 x.p x.go x.s) (hwb : ∀ x : KW, WinE.IsWin w5 x.p x.go x.s → x.p ≠ wb2 ∧ x.go ≠ some wb2)
    {F : Value → Option Value} {n : Nat} (hF : ∀ s v, F (.string s) = some v ↔ ∃ x ∈ K2, x.k = s ∧ v = ptr x.p) (hm : MapOf Tryz.prog 9 w6 wb2 (put F (.string y.k) (ptr q)) n) (h6 : Wr (fun k => k = wb2) w5 w6) :
    Cpd B K es (seen.push e.born) (K2 ++ [⟨y.k, q, go, y.s, y.t⟩]) wb2 w6 := by
  have hno : ∀ x ∈ K2, x.k ≠ y.k := fun x hx hxk => by
    obtain ⟨e', he', hs', hk'⟩ := h.far x hx
    have hke : e'.key = e.key := by rw [hk', hk, hxk]
    obtain ⟨i, hi⟩ := List.getElem?_of_mem he'
    obtain ⟨j, hj⟩ := List.getElem?_of_mem he
    have := only hpw hi hj hke
    subst this
    rw [hi] at hj
    cases hj
    rw [hs'] at hns
    cases hns
  have keep : ∀ x : KW, WinE.IsWin w5 x.p x.go x.s → WinE.IsWin w6 x.p x.go x.s := fun x hx => hx.keep (wr_lets h6) (hwb x hx).1 (fun g hg e => (hwb x hx).2 (by rw [hg, e]))
  refine ⟨⟨_, _, hm, fun s v => ?_⟩, ?_, fun x hx => ?_, fun e' he' hs' => ?_, fun x hx => ?_⟩
  · by_cases e1 : s = y.k
    · subst e1
      rw [put_same]
      constructor
      · intro h0; cases h0; exact ⟨_, List.mem_append_right _ (List.mem_singleton.2 rfl), rfl, rfl⟩
      · rintro ⟨x, hx, hxk, rfl⟩
        rcases List.mem_append.1 hx with hx | hx
        · exact absurd hxk (hno x hx)
        · obtain rfl := List.mem_singleton.1 hx; rfl
    · rw [put_other (fun e2 => e1 (by injection e2)), hF s v]
      constructor
      · rintro ⟨x, hx, hxk⟩; exact ⟨x, List.mem_append_left _ hx, hxk⟩
      · rintro ⟨x, hx, hxk⟩
        rcases List.mem_append.1 hx with hx | hx
        · exact ⟨x, hx, hxk⟩
        · obtain rfl := List.mem_singleton.1 hx; exact absurd hxk.1.symm e1
  · rw [List.map_append, List.nodup_append]
    refine ⟨h.nd, by simp, fun a ha b hb => ?_⟩
    obtain ⟨x, hx, rfl⟩ := List.mem_map.1 ha
    simp at hb
    subst hb
    exact hno x hx
  · rcases List.mem_append.1 hx with hx | hx
    · obtain ⟨a1, a2, a3, a4⟩ := h.win x hx
      exact ⟨keep x (h5 x hx), a2, a3, a4⟩
    · obtain rfl := List.mem_singleton.1 hx
      exact ⟨keep ⟨y.k, q, go, y.s, y.t⟩ hw, hq, hgo, y, hy, rfl, rfl, rfl⟩
  · rcases push_has.1 hs' with hs' | hs'
    · obtain ⟨x, hx, hxk⟩ := h.got e' he' hs'
      exact ⟨x, List.mem_append_left _ hx, hxk⟩
    · obtain ⟨i, hi⟩ := List.getElem?_of_mem he'
      obtain ⟨j, hj⟩ := List.getElem?_of_mem he
      have hij : i = j := by
        have h1 : (es.toList.map (·.born))[i]? = some e'.born := by rw [List.getElem?_map, hi]; rfl
        have h2 : (es.toList.map (·.born))[j]? = some e'.born := by rw [List.getElem?_map, hj, hs']; rfl
        obtain ⟨hil, h1⟩ := List.getElem?_eq_some_iff.1 h1
        obtain ⟨hjl, h2⟩ := List.getElem?_eq_some_iff.1 h2
        exact (List.getElem_inj (h₀ := hil) (h₁ := hjl) hB.2).1 (h1.trans h2.symm)
      subst hij
      rw [hi] at hj
      cases hj
      exact ⟨_, List.mem_append_right _ (List.mem_singleton.2 rfl), hk⟩
  · rcases List.mem_append.1 hx with hx | hx
    · obtain ⟨e', he', hs', hk'⟩ := h.far x hx
      exact ⟨e', he', push_has.2 (.inl hs'), hk'⟩
    · obtain rfl := List.mem_singleton.1 hx
      exact ⟨e, he, push_has.2 (.inr rfl), hk⟩

/-- a window lies in cells -/
theorem win_cells {w : World} {p : Nat} {go : Option Nat} {s : Wn} (h : WinE.IsWin w p go s) : (∃ cs ty, w.heap[p]? = some (.cells cs ty)) ∧ ∀ g, go = some g → ∃ cs ty, w.heap[g]? = some (.cells cs ty) := by
  obtain ⟨-, v, hb, hh⟩ := h
  refine ⟨⟨_, _, hb⟩, fun g hg => ?_⟩
  rcases hh with ⟨e, _⟩ | ⟨g', cap, f, e, _, hbk, _⟩
  · rw [e] at hg; cases hg
  · rw [e] at hg; cases hg
    obtain ⟨cur, hgb, _⟩ := hbk
    exact ⟨_, _, hgb⟩
theorem win_far {w : World} {p b : Nat} {go : Option Nat} {s : Wn} (h : WinE.IsWin w p go s) {o : Obj} (hb : w.heap[b]? = some o) (ho : ∀ cs ty, o ≠ .cells cs ty) : p ≠ b ∧ go ≠ some b := by
  obtain ⟨⟨cs, ty, h1⟩, h2⟩ := win_cells h
  refine ⟨fun e => ?_, fun e => ?_⟩
  · rw [e, hb] at h1; exact ho cs ty (Option.some.inj h1)
  · obtain ⟨cs, ty, h3⟩ := h2 b e
    rw [hb] at h3; exact ho cs ty (Option.some.inj h3)

/-- the loop of the copy: the map that is gone through, its iterator, what was copied -/
structure Cpl (w4 : World) (B : Nat) (K : List KW) (es : Array MapEntry) (clock wb wb2 r : Nat) (seen : Array Nat) (wr : World) : Prop where
  it : ∃ c0, clock ≤ c0 ∧ wr.heap[r]? = some (.mapIter (some wb) clock seen c0)
  cp : ∃ K2, Cpd B K es seen K2 wb2 wr
  wrs : Wr (fun k => k = wb2 ∨ k = r) w4 wr

def mesW (es : Array MapEntry) (r : Nat) (wr : World) : Nat := match wr.heap[r]? with
  | some (.mapIter _ _ seen _) => (leftOf es seen).size
  | _ => 0

set_option maxRecDepth 20000 in
set_option maxHeartbeats 4000000 in
theorem HMem.efork (h : HMem w own C last L K Z) :
    Calls Tryz.prog 32 #[exV C] w fun e w' => ∃ (mb2 wb2 : Nat) (K2 : List KW), e = .returned (.agg #[.pointer (some ⟨mb2, 0, none⟩), .map (some wb2)]) ∧ w.heap.size ≤ wb2 ∧ (∃ F n, MapOf Tryz.prog 9 w' wb2 F n ∧ ∀ s v, F (.string s) = some v ↔ ∃ x ∈ K2, x.k = s ∧ v = ptr x.p) ∧ (K2.map KW.k).Nodup ∧
      (∀ x ∈ K2, WinE.IsWin w' x.p x.go x.s ∧ w.heap.size ≤ x.p ∧ (∀ g, x.go = some g → w.heap.size ≤ g) ∧ ∃ y ∈ K, y.k = x.k ∧ y.s = x.s ∧ y.t = x.t) ∧ (∀ y ∈ K, ∃ x ∈ K2, x.k = y.k) ∧ Below w.heap.size w w' := by
  obtain ⟨F0, n0, hmo, hF0⟩ := h.wins
  have hmo' := hmo
  obtain ⟨es, clock, hwb, hn0, hks, hpw, hiff, hBn⟩ := hmo'
  have hwbl := hmo.lt
  have HEs : Hid (∀ e ∈ es.toList, ∃ y ∈ K, e.key = .string y.k ∧ e.val = .pointer (some ⟨y.p, 0, none⟩)) := hid fun e he => by
    obtain ⟨l, hl⟩ := hks e he
    obtain ⟨s, hs, -⟩ := key_string hl
    have h1 := (hiff e.key e.val).2 ⟨e, he, rfl, rfl⟩
    rw [hs] at h1
    obtain ⟨y, hy, hyk, hyv⟩ := (hF0 s e.val).1 h1
    exact ⟨y, hy, by rw [hs, hyk], hyv⟩
  have HKy : Hid (∀ e ∈ es.toList, ∃ l, keyOf Tryz.prog 9 e.key = some l) := hid hks
  have HKs : Hid (∀ y ∈ K, ∃ e ∈ es.toList, e.key = .string y.k) := hid fun y hy => by
    obtain ⟨e, he, hk, -⟩ := (hiff _ _).1 ((hF0 y.k (ptr y.p)).2 ⟨y, hy, rfl, rfl⟩)
    exact ⟨e, he, hk⟩
  have hb2 : Below w.heap.size w (((w.alloc (exBox C)).alloc (.cells #[.pointer none, .map none] 62)).alloc (.map #[] 0)) := (by repeat (first | (with_reducible exact Below.refl _ _) | (with_reducible refine Below.setCell ?_ (by first | (simp; done) | (simp; omega) | omega) _) | (with_reducible refine Below.alloc ?_ (by first | (simp; done) | (simp; omega) | omega) _) | (with_reducible refine Below.drew ?_)))
  have hlen := fun ty => (hmo.of_block (w' := (w.alloc (exBox C)).alloc (.cells #[.pointer none, .map none] 62)) ((heap_alloc_old _ _ (by simp; omega)).trans (heap_alloc_old _ _ hwbl))).len Tryz.underlying60 ty
  have hmk := run_hintW n0 ((w.alloc (exBox C)).alloc (.cells #[.pointer none, .map none] 62))
  have hmm := MapOf.made (P := Tryz.prog) (k := 9) ((w.alloc (exBox C)).alloc (.cells #[.pointer none, .map none] 62))
  have hsz : ((w.alloc (exBox C)).alloc (.cells #[.pointer none, .map none] 62)).heap.size = w.heap.size + 2 := by simp
  rw [hsz] at hmk hmm
  have hwb3 := (hb2.block _ hwbl).trans hwb
  have hrg := run_range_map (P := Tryz.prog) (((w.alloc (exBox C)).alloc (.cells #[.pointer none, .map none] 62)).alloc (.map #[] 0)) 60 9 126 C.wb es clock Tryz.underlying60 hwb3
  have hlen0 := hlen 0
  have hlen3 := hlen 3
  have HH := hid h
  have HX := hid (And.intro hb2 (And.intro hmm (And.intro hwbl (And.intro hBn (And.intro hpw hwb3)))))
  clear h hmo hwb hn0 hks hpw hiff hBn hF0 hb2 hmm hsz hwb3 hlen
  go_enter Tryz.func32, Tryz.ntmps32
  go_wp2_with fail
  clear hlen0 hlen3 hmk hrg
  obtain ⟨hb2, hmm, -, hBn, hpw, hwb3⟩ := HX.out
  obtain ⟨w4, hw4⟩ : ∃ w4, ((((w.alloc (exBox C)).alloc (.cells #[.pointer none, .map none] 62)).alloc (.map #[] 0)).alloc (.mapIter (some C.wb) clock #[] clock)) = w4 := ⟨_, rfl⟩
  have hsz3 : (((w.alloc (exBox C)).alloc (.cells #[.pointer none, .map none] 62)).alloc (.map #[] 0)).heap.size = w.heap.size + 3 := by simp
  have hb34 : Below (w.heap.size + 3) (((w.alloc (exBox C)).alloc (.cells #[.pointer none, .map none] 62)).alloc (.map #[] 0)) w4 := by
    rw [← hw4, ← hsz3]; exact (Below.refl _ _).alloc (Nat.le_refl _) _
  have hit : w4.heap[w.heap.size + 3]? = some (.mapIter (some C.wb) clock #[] clock) := by rw [← hw4, ← hsz3]; exact heap_alloc_new _ _
  have hbx0 : (((w.alloc (exBox C)).alloc (.cells #[.pointer none, .map none] 62)).alloc (.map #[] 0)).heap[w.heap.size]? = some (exBox C) := ((heap_alloc_old _ _ (by simp; omega)).trans (heap_alloc_old _ _ (by simp))).trans (heap_alloc_new _ _)
  have hbx1 : (((w.alloc (exBox C)).alloc (.cells #[.pointer none, .map none] 62)).alloc (.map #[] 0)).heap[w.heap.size + 1]? = some (.cells #[.pointer none, .map none] 62) := (heap_alloc_old _ _ (by simp)).trans (by have := heap_alloc_new (w.alloc (exBox C)) (.cells #[.pointer none, .map none] 62); simpa using this)
  have H4 := hid (And.intro (show Below w.heap.size w w4 from hb2.trans (hb34.mono (by omega))) (And.intro ((hb34.block _ (by omega)).trans hwb3) (And.intro ((hb34.block _ (by omega)).trans hbx0) (And.intro ((hb34.block _ (by omega)).trans hbx1) (And.intro hBn hpw)))))
  have HC : Hid (Cpl w4 (w.heap.size + 4) K es clock C.wb (w.heap.size + 2) (w.heap.size + 3) #[] w4) := hid ⟨⟨_, Nat.le_refl _, hit⟩, ⟨[], ⟨⟨_, _, hmm.of_block (hb34.block _ (by omega)), fun s v => ⟨fun h => (by cases h), fun ⟨x, hx, _⟩ => (by cases hx)⟩⟩, List.nodup_nil, fun x hx => (by cases hx), fun e he hs => (by simp at hs), fun x hx => (by cases hx)⟩⟩, Wr.refl _ _⟩
  have hs4 : w4.heap.size = w.heap.size + 4 := by rw [← hw4]; simp
  have HS4 := hid hs4
  rw [hw4]
  clear hb2 hmm hBn hpw hwb3 hw4 hsz3 hb34 hit hbx0 hbx1 hs4 HX
  generalize hrr : w.heap.size + 1 + 1 + 1 = r at *
  have HRr := hid (show r = w.heap.size + 3 by omega)
  clear hrr
  go_loopw [13] (fun _ wr => ∃ seen, Cpl w4 (w.heap.size + 4) K es clock C.wb (w.heap.size + 2) r seen wr) (fun _ wr => mesW es r wr)
  case atStart => exact ⟨_, HC.out⟩
  case round =>
    obtain ⟨seen, hC⟩ := hrel
    obtain ⟨c0, hc0, hit⟩ := hC.it
    obtain ⟨hbw, hsrc, hx0, hx1, hBn, hpw⟩ := H4.out
    have hrr := HRr.out
    have hs4 := HS4.out
    have hsrcr := (hC.wrs.block C.wb (by omega) (by omega)).trans hsrc
    have hbwr : Below w.heap.size w wr := hbw.trans (hC.wrs.below w.heap.size hbw.size (fun k hk => by omega))
    rcases run_next_at (P := Tryz.prog) wr 0 r C.wb clock c0 seen es clock hit hsrcr hBn.1 hc0 with ⟨hz, hrun⟩ | ⟨e, he, w5, hw5, hrun⟩
    · have hy0 := (hC.wrs.block w.heap.size (by omega) (by omega)).trans hx0
      have hy1 := (hC.wrs.block (w.heap.size + 1) (by omega) (by omega)).trans hx1
      have c0 : wr.cell? ⟨w.heap.size, 0, none⟩ = some (.pointer (some ⟨C.S.mb, 0, none⟩)) := cell_of hy0 0 _ rfl
      have HF := hid (LruT.fork_any ((HH.out.below hbwr).lru))
      unfold ptr at HF
      obtain ⟨K2, hcp⟩ := hC.cp
      have hall : ∀ y ∈ K, ∃ x ∈ K2, x.k = y.k := fun y hy => by
        obtain ⟨e, he, hk⟩ := HKs.out y hy
        obtain ⟨x, hx, hk2⟩ := hcp.got e he (all_seen es seen hz e he)
        refine ⟨x, hx, ?_⟩
        rw [hk] at hk2
        injection hk2 with h
        exact h.symm
      have HE := hid (And.intro hcp (And.intro hall (And.intro hbwr hy1)))
      clear hC hit hz hsrc hx0 hx1 hBn hpw hrr hsrcr hc0 hy0 hy1 hcp hall hbw hbwr
      go_wp2_with fail
      refine HF.out.mono ?_
      rintro e w7 ⟨⟨S2, L2, rfl, -, -, -, -⟩, hb7⟩
      obtain ⟨hcp, hall, hbwr, hy1⟩ := HE.out
      have hy7 := (hb7.block _ (Array.getElem?_eq_some_iff.1 hy1).1).trans hy1
      have z0 : w7.cell? ⟨w.heap.size + 1, 0, none⟩ = some (.pointer none) := cell_of hy7 0 _ rfl
      have z1 : w7.cell? ⟨w.heap.size + 1, 1, none⟩ = some (.map none) := cell_of hy7 1 _ rfl
      have f0 : w7.frozen? ⟨w.heap.size + 1, 0, none⟩ = false := by simp [World.frozen?, hy7]
      have f1 : w7.frozen? ⟨w.heap.size + 1, 1, none⟩ = false := by simp [World.frozen?, hy7]
      have H7 := hid (And.intro hb7 hy7)
      clear hcp hall hbwr hy1 hy7 hb7 HF c0
      go_wp2_with fail
      obtain ⟨hb7, hy7⟩ := H7.out
      obtain ⟨hcp, hall, hbwr, hy1⟩ := HE.out
      obtain ⟨wx, hwx0⟩ : ∃ wx, (w7.setCell ⟨w.heap.size + 1, 0, none⟩ (.pointer (some ⟨S2.mb, 0, none⟩))).setCell ⟨w.heap.size + 1, 1, none⟩ (.map (some (w.heap.size + 2))) = wx := ⟨_, rfl⟩
      have hwx : Wr (fun k => k = w.heap.size + 1) w7 wx := by rw [← hwx0]; exact (Wr.set (R := fun k => k = w.heap.size + 1) _ _ rfl).trans (Wr.set (R := fun k => k = w.heap.size + 1) _ _ rfl)
      have hxx : wx.heap[w.heap.size + 1]? = some (.cells #[.pointer (some ⟨S2.mb, 0, none⟩), .map (some (w.heap.size + 2))] 62) := by
        rw [← hwx0]
        exact heap_setCell_same _ _ _ _ _ _ (heap_setCell_same _ _ _ _ _ _ hy7)
      rw [hwx0]
      have q0 : wx.cell? ⟨w.heap.size + 1, 0, none⟩ = some (.pointer (some ⟨S2.mb, 0, none⟩)) := cell_of hxx 0 _ rfl
      have q1 : wx.cell? ⟨w.heap.size + 1, 1, none⟩ = some (.map (some (w.heap.size + 2))) := cell_of hxx 1 _ rfl
      refine bodyPost_ret (v := .agg #[.pointer (some ⟨S2.mb, 0, none⟩), .map (some (w.heap.size + 2))]) (by simp [results, Tryz.results32, go_sem, q0, q1]) rfl ?_
      obtain ⟨F, n, hm, hF⟩ := hcp.map
      have hmlt := hm.lt
      refine ⟨S2.mb, w.heap.size + 2, K2, rfl, by omega, ⟨F, n, (hm.of_block (hb7.block _ hmlt)).of_block (hwx.block _ (Nat.lt_of_lt_of_le hmlt hb7.size) (by omega)), hF⟩, hcp.nd, fun x hx => ?_, hall, ?_⟩
      · obtain ⟨a1, a2, a3, a4⟩ := hcp.win x hx
        refine ⟨(a1.keep (R := fun _ => False) (WinE.Lets.ofBelow hb7) (fun e => e) (fun _ _ e => e)).keep (wr_lets hwx) (by omega) (fun g hg => by have := a3 g hg; omega), by omega, fun g hg => by have := a3 g hg; omega, a4⟩
      · exact (hbwr.trans (hb7.mono hbwr.size)).trans (hwx.below w.heap.size (Nat.le_trans hbwr.size hb7.size) (fun k e => by omega))
    · obtain ⟨hmem, hns⟩ := mem_left he
      obtain ⟨y, hy, hk, hv⟩ := HEs.out e hmem
      have hsh := left_shrinks es seen e he
      have hr1 : r < wr.heap.size := (Array.getElem?_eq_some_iff.1 hit).1
      have hs1 : w5.heap = wr.heap := by rcases hw5 with rfl | rfl <;> rfl
      have g0 : (setBlock w5 r (.mapIter (some C.wb) clock (seen.push e.born) clock)).heap[r]? = some (.mapIter (some C.wb) clock (seen.push e.born) clock) := heap_set_same (o := .mapIter (some C.wb) clock seen c0) (by rw [hs1]; exact hit)
      have g1 : ∀ k, k ≠ r → (setBlock w5 r (.mapIter (some C.wb) clock (seen.push e.born) clock)).heap[k]? = wr.heap[k]? := fun k hk => by
        show (w5.heap.setIfInBounds r _)[k]? = _
        rw [Array.getElem?_setIfInBounds_ne (fun e => hk e.symm), hs1]
      have hwr2 : Wr (fun k => k = w.heap.size + 2 ∨ k = r) w4 (setBlock w5 r (.mapIter (some C.wb) clock (seen.push e.born) clock)) := by
        have q1 : Wr (fun k => k = w.heap.size + 2 ∨ k = r) w4 w5 := by
          have := hC.wrs
          rcases hw5 with rfl | rfl
          · exact this
          · exact ⟨this.os, this.tape, this.output, this.size, this.block⟩
        exact q1.on (wr_set _) (fun k e => .inl (.inr e))
      have hwl : ∀ k, k ≠ r → Wr (fun k => k = r) wr (setBlock w5 r (.mapIter (some C.wb) clock (seen.push e.born) clock)) := fun _ _ => ⟨by rcases hw5 with rfl | rfl <;> rfl, by rcases hw5 with rfl | rfl <;> rfl, by rcases hw5 with rfl | rfl <;> rfl, by simp [setBlock, hs1], fun k hk hn => g1 k hn⟩
      generalize hW2 : setBlock w5 r (.mapIter (some C.wb) clock (seen.push e.born) clock) = W2 at *
      have hen := run_entry_at (P := Tryz.prog) W2 r C.wb clock seen es clock e g0 ((g1 C.wb (by omega)).trans hsrcr) hmem hBn.2
      rw [hk, hv] at hen hrun
      obtain ⟨K2, hcp⟩ := hC.cp
      obtain ⟨F, n, hm, hF⟩ := hcp.map
      have hbW2 : Below w.heap.size w W2 := hbw.trans (hwr2.below w.heap.size hbw.size (fun k hk => by omega))
      obtain ⟨y1, y2, y3, y4, y5, y6⟩ := HH.out.wok y hy
      have hlen := y4.len (by rw [y2, y3]) HH.out.q0
      have HFk := hid (wfork_any W2 y.p y.go y.s (y1.keep (R := fun _ => False) (WinE.Lets.ofBelow hbW2) (fun e => e) (fun _ _ e => e)) (by omega))
      have hsize : wr.heap.size ≤ W2.heap.size := (hwl 0 (by omega)).size
      have hyk : y.k.size ≤ maxLen := by
        obtain ⟨l, hl⟩ := HKy.out e hmem
        rw [hk] at hl
        obtain ⟨s, hs, hs2⟩ := key_string hl
        injection hs with hs
        rw [hs]; exact hs2
      have hmlt := hm.lt
      have HI := hid (And.intro hcp (And.intro hm (And.intro hF (And.intro hwr2 (And.intro g0 (And.intro g1 (And.intro hsh (And.intro hit (And.intro hmem (And.intro hns (And.intro hk (And.intro hy (And.intro hsize (And.intro hyk hmlt))))))))))))))
      have HBw := hid (And.intro hbW2 (hwl 0 (by omega)))
      clear hC hit hsrc hx0 hx1 hBn hpw hsrcr hc0 hw5 hs1 hwl hW2 hrr hs4 y1 y2 y3 y4 y5 y6 hlen hbW2 hcp hm hF hwr2 g0 g1 hsh hns hk hsize hyk hbw hbwr hv hmem hr1 hmlt he
      go_wp2_with fail
      refine HFk.out.mono ?_
      rintro e6 w6 ⟨⟨q, go', rfl, hq, hw6, hgo'⟩, hb6⟩
      obtain ⟨hcp, hm, hF, hwr2, g0, g1, hsh, hit, hmem, hns, hk, hy, hsize, hyk, hmlt⟩ := HI.out
      obtain ⟨hbW2, hwl⟩ := HBw.out
      obtain ⟨hbw, hsrc, hx0, hx1, hBn, hpw⟩ := H4.out
      have hrr := HRr.out
      have hs4 := HS4.out
      have hr2 : r < W2.heap.size := (Array.getElem?_eq_some_iff.1 g0).1
      have hm6 := (hm.of_block (g1 _ (by omega))).of_block (hb6.block _ (by omega))
      have hr6 := (hb6.block r hr2).trans g0
      obtain ⟨es6, ck6, hmb6, -⟩ := hm6
      have hm6 := (hm.of_block (g1 _ (by omega))).of_block (hb6.block _ (by omega))
      obtain ⟨w8, hst, hm8, hw8⟩ := hm6.store (val := ptr q) keyedS Tryz.underlying60 (Go.WideMaps.keyOf_string_mk Tryz.underlying9 hyk)
      have hB : w.heap.size + 4 ≤ W2.heap.size := by have := hwr2.size; omega
      have hcp8 := Cpd.step hcp hBn hpw hmem hns hy hk (q := q) (go := go') (by omega) (fun g hg => by have := hgo' g hg; omega) hw6 (fun x hx => by
        have h1 := (hcp.win x hx).1
        obtain ⟨f1, f2⟩ := win_far h1 hit (fun _ _ h => by cases h)
        have h2 := h1.keep (wr_lets hwl) f1 (fun g hg e => f2 (by rw [hg, e]))
        exact h2.keep (R := fun _ => False) (WinE.Lets.ofBelow hb6) (fun e => e) (fun _ _ e => e)) (fun x hx => win_far hx hmb6 (fun _ _ h => by cases h)) hF hm8 hw8
      have i8 : w8.heap[r]? = some (.mapIter (some C.wb) clock (seen.push e.born) clock) := (hw8.block r (by have := hb6.size; omega) (by omega)).trans hr6
      have HC8 : Hid (Cpl w4 (w.heap.size + 4) K es clock C.wb (w.heap.size + 2) r (seen.push e.born) w8) := hid ⟨⟨_, Nat.le_refl _, i8⟩, ⟨_, hcp8⟩, (hwr2.on (Wr.ofBelow (R := fun _ => False) hb6) (fun _ e => e.elim)).on hw8 (fun k e => .inl (.inl e))⟩
      have HM : Hid (mesW es r w8 < mesW es r wr) := hid (by unfold mesW; rw [i8, hit]; exact hsh)
      unfold ptr at hst
      clear hcp hm hF hwr2 g0 g1 hsh hit hmem hns hk hy hsize hyk hmlt hbW2 hwl hbw hsrc hx0 hx1 hBn hpw hrr hs4 hr2 hm6 hr6 hmb6 hm8 hw8 hB hcp8 i8 hq hw6 hgo' hb6 hrun hen
      go_wp2_with fail
      go_roundw
      case rel => exact ⟨_, HC8.out⟩
      case measure => exact HM.out

end Go.Proofs.YtbihelpnojjacaaGreat.HotV

/- A hot parameter's rule at work: Fork. -/
namespace Go.Proofs.YtbihelpnojjacaaGreat.HotW
open Go.ChangeShapes Go.WideShapes Go.ChangeAt Go.RowKit Go.Deep Base Wri Map LruA LruB LruC LruD LruE LruF HotA HotB HotC HotD HotE HotF HotG HotH HotI HotJ HotK HotL HotM HotN HotO HotR WinO HotV
set_option linter.unusedVariables false
variable {w w' : World} {own : Nat → Tg} {C : HC} {last : Nat} {L L' : List Ent} {K K' : List KW} {Z Z' : SK}

/-- what is kept of a copy: what its Used reads of values that are kept; all of it from B on -/
structure FMem (w : World) (B q : Nat) (C : HC) (last : Nat) (K : List KW) (K2 : List KW) (wb2 : Nat) : Prop where
  head : ∃ mb2 sp2, w.heap[q]? = some (.cells #[.int .i64 C.cnt, .int .i64 ((10 * C.q : Nat) : Int), .map (some C.itb), .pointer (some ⟨mb2, 0, none⟩), .map (some wb2), .pointer (some ⟨sp2, 0, none⟩), .int .i64 last] 72)
  wins : ∃ F n, MapOf Tryz.prog 9 w wb2 F n ∧ ∀ s v, F (.string s) = some v ↔ ∃ x ∈ K2, x.k = s ∧ v = ptr x.p
  win : ∀ x ∈ K2, WinE.IsWin w x.p x.go x.s ∧ B ≤ x.p ∧ (∀ g, x.go = some g → B ≤ g) ∧ ∃ y ∈ K, y.k = x.k ∧ y.s = x.s ∧ y.t = x.t
  all : ∀ y ∈ K, ∃ x ∈ K2, x.k = y.k
  b1 : B ≤ q
  b2 : B ≤ wb2

theorem FMem.wr {B q : Nat} {K2 : List KW} {wb2 : Nat} {R : Nat → Prop} (h : FMem w B q C last K K2 wb2) (hw : Wr R w w') (hR : ∀ k, B ≤ k → k < w.heap.size → ¬ R k) : FMem w' B q C last K K2 wb2 := by
  obtain ⟨mb2, sp2, h1⟩ := h.head
  obtain ⟨F, n, h2, h3⟩ := h.wins
  refine ⟨⟨mb2, sp2, (hw.block _ (Array.getElem?_eq_some_iff.1 h1).1 (hR _ h.b1 (Array.getElem?_eq_some_iff.1 h1).1)).trans h1⟩, ⟨F, n, h2.of_block (hw.block _ h2.lt (hR _ h.b2 h2.lt)), h3⟩, fun x hx => ?_, h.all, h.b1, h.b2⟩
  obtain ⟨a1, a2, a3, a4⟩ := h.win x hx
  exact ⟨a1.keep (wr_lets hw) (hR _ a2 a1.lt) (fun g hg => hR _ (a3 g hg) (a1.lt2 g hg)), a2, a3, a4⟩

set_option maxRecDepth 20000 in
set_option maxHeartbeats 4000000 in
theorem HMem.fork (h : HMem w own C last L K Z) :
    Calls Tryz.prog 12 #[.pointer (some ⟨C.h, 0, none⟩)] w fun e w' => ∃ (q wb2 : Nat) (K2 : List KW), e = .returned (.pointer (some ⟨q, 0, none⟩)) ∧ FMem w' w.heap.size q C last K K2 wb2 ∧ Below w.heap.size w w' := by
  have hbd : Below w.heap.size w w.drew := (Below.refl _ _).drew
  have HE : Hid (Calls Tryz.prog 32 #[exV C] w.drew fun e w' => ∃ (mb2 wb2 : Nat), e = .returned (.agg #[.pointer (some ⟨mb2, 0, none⟩), .map (some wb2)]) ∧ (w'.cell? ⟨C.h, 0, none⟩ = some (.int .i64 C.cnt) ∧ w'.cell? ⟨C.h, 1, none⟩ = some (.int .i64 ((10 * C.q : Nat) : Int)) ∧ w'.cell? ⟨C.h, 2, none⟩ = some (.map (some C.itb)) ∧ w'.cell? ⟨C.h, 3, none⟩ = some (.pointer (some ⟨C.S.mb, 0, none⟩)) ∧ w'.cell? ⟨C.h, 4, none⟩ = some (.map (some C.wb)) ∧ w'.cell? ⟨C.h, 5, none⟩ = some (.pointer (some ⟨C.sp, 0, none⟩)) ∧ w'.cell? ⟨C.h, 6, none⟩ = some (.int .i64 last)) ∧
      Hid (Calls Tryz.prog 33 #[.pointer (some ⟨C.sp, 0, none⟩)] w' fun e w'' => ∃ sp2, e = .returned (.pointer (some ⟨sp2, 0, none⟩)) ∧ (w''.cell? ⟨C.h, 0, none⟩ = some (.int .i64 C.cnt) ∧ w''.cell? ⟨C.h, 1, none⟩ = some (.int .i64 ((10 * C.q : Nat) : Int)) ∧ w''.cell? ⟨C.h, 2, none⟩ = some (.map (some C.itb)) ∧ w''.cell? ⟨C.h, 3, none⟩ = some (.pointer (some ⟨C.S.mb, 0, none⟩)) ∧ w''.cell? ⟨C.h, 4, none⟩ = some (.map (some C.wb)) ∧ w''.cell? ⟨C.h, 5, none⟩ = some (.pointer (some ⟨C.sp, 0, none⟩)) ∧ w''.cell? ⟨C.h, 6, none⟩ = some (.int .i64 last)) ∧ Hid (∃ K2, FMem (w''.alloc (.cells #[.int .i64 C.cnt, .int .i64 ((10 * C.q : Nat) : Int), .map (some C.itb), .pointer (some ⟨mb2, 0, none⟩), .map (some wb2), .pointer (some ⟨sp2, 0, none⟩), .int .i64 last] 72)) w.heap.size w''.heap.size C last K K2 wb2 ∧ Below w.heap.size w (w''.alloc (.cells #[.int .i64 C.cnt, .int .i64 ((10 * C.q : Nat) : Int), .map (some C.itb), .pointer (some ⟨mb2, 0, none⟩), .map (some wb2), .pointer (some ⟨sp2, 0, none⟩), .int .i64 last] 72))))) := hid ((HMem.efork (h.below hbd)).mono fun e w1 h1 => by
    obtain ⟨mb2, wb2, K2, rfl, a1, a2, a3, a4, a5, a6⟩ := h1
    have hb1 : Below w.heap.size w w1 := hbd.trans (a6.mono (Nat.le_refl _))
    have hM1 := h.below hb1
    have hsk : Calls Tryz.prog 33 #[.pointer (some ⟨C.sp, 0, none⟩)] w1 (SruE.ForkPost w1 (hX C) C.q Z.t Z.ns Z.qs) := by
      have h2 := hM1.sk
      cases hgo : Z.go with
      | none => rw [hgo] at h2; exact SruE.fork_none h2
      | some g => rw [hgo] at h2; exact SruE.fork_some g h2
    refine ⟨mb2, wb2, rfl, HMem.cells hM1, hid (hsk.mono fun e w2 h2 => ?_)⟩
    obtain ⟨sp2, go2, mpf2, rfl, -, -, hb2⟩ := h2
    have hb2' := bl hb1 hb2
    have hbz : Below w2.heap.size w2 (w2.alloc (.cells #[.int .i64 C.cnt, .int .i64 ((10 * C.q : Nat) : Int), .map (some C.itb), .pointer (some ⟨mb2, 0, none⟩), .map (some wb2), .pointer (some ⟨sp2, 0, none⟩), .int .i64 last] 72)) := (Below.refl _ _).alloc (Nat.le_refl _) _
    refine ⟨sp2, rfl, HMem.cells (h.below hb2'), hid ⟨K2, ⟨⟨mb2, sp2, heap_alloc_new _ _⟩, ?_, fun x hx => ?_, a5, hb2'.size, a1⟩, bl hb2' hbz⟩⟩
    · obtain ⟨F, n, h3, h4⟩ := a2
      exact ⟨F, n, (h3.of_block (hb2.block _ h3.lt)).of_block (hbz.block _ (Nat.lt_of_lt_of_le h3.lt hb2.size)), h4⟩
    · obtain ⟨b1, b2, b3, b4⟩ := a4 x hx
      exact ⟨(b1.keep (R := fun _ => False) (WinE.Lets.ofBelow hb2) (fun e => e) (fun _ _ e => e)).keep (R := fun _ => False) (WinE.Lets.ofBelow hbz) (fun e => e) (fun _ _ e => e), b2, b3, b4⟩)
  obtain ⟨c0, c1, c2, c3, c4, c5, c6⟩ := HMem.cells h
  have hhl := h.hlt
  clear hbd h
  go_enter Tryz.func12, Tryz.ntmps12
  go_upto_region 3 with fail
  go_region_held3 (fun w' => w'.cell? ⟨C.h, 0, none⟩ = some (.int .i64 C.cnt) ∧ w'.cell? ⟨C.h, 1, none⟩ = some (.int .i64 ((10 * C.q : Nat) : Int)) ∧ w'.cell? ⟨C.h, 2, none⟩ = some (.map (some C.itb)) ∧ w'.cell? ⟨C.h, 3, none⟩ = some (.pointer (some ⟨C.S.mb, 0, none⟩)) ∧ w'.cell? ⟨C.h, 4, none⟩ = some (.map (some C.wb)) ∧ w'.cell? ⟨C.h, 5, none⟩ = some (.pointer (some ⟨C.sp, 0, none⟩)) ∧ w'.cell? ⟨C.h, 6, none⟩ = some (.int .i64 last)) (first | assumption | go_keep) (first | (go_at_call 32; with_reducible refine HE.out.mono ?_; rintro e w1 ⟨mb2, wb2, rfl, ⟨k0, k1, k2, k3, k4, k5, k6⟩, HS⟩) | (go_at_call 33; with_reducible refine HS.out.mono ?_; rintro e w2 ⟨sp2, rfl, ⟨m0, m1, m2, m3, m4, m5, m6⟩, HF⟩))
  go_wp2_with fail
  go_ret
  obtain ⟨K2, hF, hb⟩ := HF.out
  exact ⟨w2.heap.size, wb2, K2, rfl, hF, hb⟩

theorem FMem.cells {B q : Nat} {K2 : List KW} {wb2 : Nat} (h : FMem w B q C last K K2 wb2) : ∃ mb2 sp2, w.cell? ⟨q, 3, none⟩ = some (.pointer (some ⟨mb2, 0, none⟩)) ∧ w.cell? ⟨q, 4, none⟩ = some (.map (some wb2)) ∧ w.cell? ⟨q, 5, none⟩ = some (.pointer (some ⟨sp2, 0, none⟩)) ∧ w.cell? ⟨q, 6, none⟩ = some (.int .i64 last) := by
  obtain ⟨mb2, sp2, h1⟩ := h.head
  exact ⟨mb2, sp2, cell_of h1 3 _ rfl, cell_of h1 4 _ rfl, cell_of h1 5 _ rfl, cell_of h1 6 _ rfl⟩
theorem FMem.below {B q : Nat} {K2 : List KW} {wb2 : Nat} (h : FMem w B q C last K K2 wb2) (hb : Below w.heap.size w w') : FMem w' B q C last K K2 wb2 := h.wr (R := fun _ => False) (Wr.ofBelow hb) (fun _ _ _ e => e)
theorem FMem.lookW {B q : Nat} {K2 : List KW} {wb2 : Nat} (h : FMem w B q C last K K2 wb2) {x : KW} (hx : x ∈ K2) (hs : x.k.size ≤ maxLen) :
    (Instr.lookup 60 (.map (some wb2)) (.string x.k) false).run Tryz.prog w = .ok (.pointer (some ⟨x.p, 0, none⟩)) w := by
  obtain ⟨F, n, h1, h2⟩ := h.wins
  have hl := h1.look false keyedS Tryz.underlying60 (zeroW w) (Go.WideMaps.keyOf_string_mk Tryz.underlying9 hs)
  rw [hl, (h2 x.k (ptr x.p)).2 ⟨x, hx, rfl, rfl⟩]
  rfl

/-- a copy's Used of a value that is kept -/
theorem FMem.Used {B q : Nat} {K2 : List KW} {wb2 : Nat} (h : FMem w B q C last K K2 wb2) (hq0 : 0 < C.q) (hq1 : C.q ≤ 6000000) (hok : ∀ y ∈ K, y.s.width = 10 * C.q ∧ y.s.size = 10 ∧ WinN.Tidy C.q y.s y.t ∧ y.s.last = y.t ∧ y.t ≤ last) {y : KW} (hy : y ∈ K) (hun : ∀ z ∈ K, ∀ y ∈ K, z.k = y.k → z = y) (hs : y.k.size ≤ maxLen) (t : Int) :
    Calls Tryz.prog 21 #[.pointer (some ⟨q, 0, none⟩), .int .i64 t, .string y.k] w fun e w' => e = .returned (.tuple #[.int .i64 (if hotE last t false y.k.size = 0 then (passW C.q y.s t.toNat).pass else 0), .int .i64 (hotE last t false y.k.size)]) ∧ Below w.heap.size w w' := by
  obtain ⟨x, hx, hxk⟩ := h.all y hy
  have hsx : x.k.size ≤ maxLen := by rw [hxk]; exact hs
  have hok2 : ∀ wx, Below w.heap.size w wx → x.Ok C last wx := fun wx hb => by
    obtain ⟨a1, a2, a3, z, hz, hzk, hzs, hzt⟩ := (h.below hb).win x hx
    obtain ⟨b1, b2, b3, b4, b5⟩ := hok z hz
    exact ⟨a1, by rw [← hzs]; exact b1, by rw [← hzs]; exact b2, by rw [← hzs, ← hzt]; exact b3, by rw [← hzs, ← hzt]; exact b4, by rw [← hzt]; exact b5⟩
  have hxs : x.s = y.s := by
    obtain ⟨a1, a2, a3, z, hz, hzk, hzs, hzt⟩ := h.win x hx
    have : z = y := hun z hz y hy (hzk.trans hxk)
    rw [← hzs, this]
  obtain ⟨mb2, sp2, c3, c4, c5, c6⟩ := h.cells
  have hR : Calls Tryz.prog 43 #[.pointer (some ⟨q, 0, none⟩), .int .i64 t, .string y.k, .slice none 0 0] w fun e w' => e = .returned (.int .i64 (hotE last t false y.k.size)) ∧ w = w' :=
    refuses_core q last t y.k _ false w hs c6 _ (hid rfl) (hid (contains_core _ false w (hid (by simpa using indexNil _ w))))
  refine Used_core q t y.k (hotE last t false y.k.size) (passW C.q y.s t.toNat).pass _ ?_ w (hid hR) (hid fun e => ?_)
  · by_cases e : hotE last t false y.k.size = 0
    · rw [if_pos e]; exact .inl ⟨e, rfl⟩
    · rw [if_neg e]; exact .inr ⟨e, rfl⟩
  · obtain ⟨n, rfl, h1, h2, -, -⟩ := hot_ok e
    rw [← hxk, ← hxs]
    exact used_core q mb2 wb2 sp2 n x.k (passW C.q x.s n).pass true 0 _ (.inl ⟨rfl, by simp⟩) w c3 c4 c5 (hid (passed_core _ _ x.p n x.k _ w (hid fun wx hb => has_core _ _ _ _ _ wx (.inr ⟨x.p, rfl, rfl⟩) (hid fun wy hb2 => (h.below (hb.trans (hb2.mono hb.size))).lookW hx hsx)) (hid fun wx hb => (h.below hb).lookW hx hsx) (hid fun wx hb => KW.sum (hok2 wx hb) hq0 hq1 h2 h1))) (hid fun e => by cases e)

end Go.Proofs.YtbihelpnojjacaaGreat.HotW

/- HotApart: a rule at work beside a copy of it. -/
namespace Go.Proofs.YtbihelpnojjacaaGreat.HotX
open Go.ChangeShapes Go.WideShapes Go.ChangeAt Go.RowKit Go.Deep Base Wri Map LruA LruB LruC LruD LruE LruF HotA HotB HotC HotD HotE HotF HotG HotH HotI HotJ HotK HotL HotM HotN HotO HotR WinO HotV HotW
set_option linter.unusedVariables false

/-- texts of a row of keys -/
theorem ks_at {w : World} {B n c i : Nat} {a : Option Addr} {L : List Ent} {e : Ent} (h : w.ownsRow B 9 1 (.slice a n c) n (LruQ.ks L)) (hi : L[i]? = some e) : ∃ g, a = some ⟨g, 0, none⟩ ∧ B ≤ g ∧ g < w.heap.size ∧ w.cell? ⟨g, i, none⟩ = some (.string e.k) := by
  rcases h.2 with ⟨_, hz⟩ | ⟨g', cap', cur, e2, hg', hgb, _⟩
  · have h1 := h.1
    rw [hz] at h1
    have : L = [] := by
      unfold LruQ.ks at h1
      simpa using h1
    rw [this] at hi; cases hi
  · injection e2 with e1 _ e3
    subst e1
    have := World.ownsRow.cells h (g := g') rfl i (.string e.k) (by unfold LruQ.ks; rw [List.getElem?_map, hi]; rfl)
    rw [Go.WideShapes.add_plain, Nat.zero_add] at this
    exact ⟨g', rfl, hg', (Array.getElem?_eq_some_iff.1 hgb).1, this⟩

variable {w0 w w' : World} {own : Nat → Tg} {C : HC} {last : Nat} {L L' : List Ent} {K K' : List KW} {Z Z' : SK}

/-- Kept, Fork, Take, Kept; then Used of the copy and of the rule: of another value that is kept before and behind, both say the same -/
theorem At.apart (h : At w0 C w) (t : Int) (s : ByteArray) (hs : s.size ≤ maxLen) (n : Int) : ∃ (L : List Ent) (b : Bool) (r : Int), L.length ≤ 4096 ∧
    (∀ wx, Below w.heap.size w wx → Calls Tryz.prog 16 #[.pointer (some ⟨C.h, 0, none⟩)] wx fun e w1 => (∃ a c, e = .returned (.slice a L.length c) ∧ w1.ownsRow wx.heap.size 9 1 (.slice a L.length c) L.length (LruQ.ks L)) ∧ Below wx.heap.size wx w1) ∧
    (∀ wx, Below w.heap.size w wx → Calls Tryz.prog 12 #[.pointer (some ⟨C.h, 0, none⟩)] wx fun e w2 => ∃ q, e = .returned (.pointer (some ⟨q, 0, none⟩)) ∧ Below wx.heap.size wx w2 ∧
      Hid (∀ wy, Below w2.heap.size w2 wy → Calls Tryz.prog 20 #[.pointer (some ⟨C.h, 0, none⟩), .int .i64 t, .string s, .int .i64 n] wy fun e w3 => e = .returned (.tuple #[.bool b, .int .i64 r]) ∧ At w0 C w3 ∧ (∀ k, w.heap.size ≤ k → k < wy.heap.size → w3.heap[k]? = wy.heap[k]?) ∧
        Hid (r = 0 → ∃ L' : List Ent, L'.length ≤ 4096 ∧ (∀ wz, Below w3.heap.size w3 wz → Calls Tryz.prog 16 #[.pointer (some ⟨C.h, 0, none⟩)] wz fun e w1 => (∃ a c, e = .returned (.slice a L'.length c) ∧ w1.ownsRow wz.heap.size 9 1 (.slice a L'.length c) L'.length (LruQ.ks L')) ∧ Below wz.heap.size wz w1) ∧
          ∀ v ∈ L, v.k ≠ s → (∃ v' ∈ L', v'.k = v.k) → ∃ (x y : Int), 
            (∀ wz, Below w3.heap.size w3 wz → Calls Tryz.prog 21 #[.pointer (some ⟨q, 0, none⟩), .int .i64 t, .string v.k] wz fun e w1 => e = .returned (.tuple #[.int .i64 x, .int .i64 y]) ∧ Below wz.heap.size wz w1) ∧
            (∀ wz, Below w3.heap.size w3 wz → Calls Tryz.prog 21 #[.pointer (some ⟨C.h, 0, none⟩), .int .i64 t, .string v.k] wz fun e w1 => e = .returned (.tuple #[.int .i64 x, .int .i64 y]) ∧ Below wz.heap.size wz w1)))) := by
  obtain ⟨own, last, L, K, Z, hM, hsm, ho⟩ := h.ex
  obtain ⟨u, hu⟩ := us_of hM t s n
  refine ⟨L, letB C last t s n u, hotE last t (noC n) s.size, Nat.le_trans hM.lru.len hM.lru.rest.m2, fun wx hb => Kept_any (hM.below hb), fun wx hb => (HMem.fork (hM.below hb)).mono fun e w2 h2 => ?_⟩
  obtain ⟨q, wb2, K2, rfl, hF, hb2⟩ := h2
  refine ⟨q, rfl, hb2, hid fun wy hby => ?_⟩
  have hbx : Below w.heap.size w wy := hb.trans ((hb2.trans (hby.mono hb2.size)).mono hb.size)
  have hMy := HMem.extend hM hbx .non
  refine (HMem.Take hMy hsm t s hs n u hu).mono fun e w3 h3 => ?_
  obtain ⟨own', last', L', K', Z', hM', hsm', hst, hcase⟩ := h3.2
  have hB0 : w0.heap.size ≤ wy.heap.size := Nat.le_trans h.bel.size hbx.size
  have hoy : ∀ k, k < w0.heap.size → ext own w.heap.size .non k = .non := fun k hk => by rw [ext_lt (Nat.lt_of_lt_of_le hk h.bel.size)]; exact ho k hk
  have hnew : ∀ k, w.heap.size ≤ k → k < wy.heap.size → w3.heap[k]? = wy.heap[k]? := fun k hk hk2 => hst.wr.block k hk2 fun e => e (ext_ge hk)
  refine ⟨h3.1, ⟨⟨own', last', L', K', Z', hM', hsm', fun k hk => (hst.tag k (by omega)).trans (hoy k hk)⟩, (h.bel.trans (hbx.mono h.bel.size)).trans (step_below hst hB0 hoy)⟩, hnew, hid fun hr => ⟨L', Nat.le_trans hM'.lru.len hM'.lru.rest.m2, fun wz hbz => Kept_any (hM'.below hbz), fun v hv hvs hst' => ?_⟩⟩
  obtain ⟨y, hy, hyk⟩ := (hsm v.k).1 ⟨v, hv, rfl⟩
  obtain ⟨v', hv', hvk'⟩ := hst'
  have hvsz : v.k.size ≤ maxLen := (hM.lru.rest.ents v hv).2.2.2
  have hFy : FMem w3 wx.heap.size q C last K K2 wb2 := (hF.below hby).wr hst.wr fun k hk hk2 e => e (ext_ge (Nat.le_trans hb.size hk))
  obtain ⟨m, rfl, h5, h6, -, -⟩ := hot_ok hr
  have hcs : (last' : Int) = m ∧ y ∈ K' := by
    rcases hcase with ⟨hne, _⟩ | ⟨_, hl, ⟨_, rfl, rfl, rfl⟩ | ⟨_, hTk⟩⟩
    · exact absurd hr hne
    · exact ⟨hl, hy⟩
    · exact ⟨hl, (hTk.others y (by rw [hyk]; exact hvs)).2 ⟨hy, v', hv', by rw [hvk', hyk]⟩⟩
  obtain ⟨hl, hy'⟩ := hcs
  obtain rfl : last' = m := by omega
  obtain ⟨hl6⟩ : ∃ _ : True, True := ⟨trivial, trivial⟩
  have e1 : hotE last last' false v.k.size = hotE last' last' false v.k.size := by
    unfold hotE
    split
    · rfl
    · split
      · rfl
      · rw [if_neg (by omega), if_neg (by omega)]
  have hpass := pass_in (t := last') (hM'.wok y hy').2.2.2.1
  refine ⟨if hotE last last' false v.k.size = 0 then (passW C.q y.s last').pass else 0, hotE last last' false v.k.size, fun wz hbz => ?_, fun wz hbz => ?_⟩
  · have := FMem.Used (hFy.below hbz) hM.q0 hM.q1 (fun z hz => by obtain ⟨a1, a2⟩ := hM.wok z hz; exact a2) hy (fun z hz y hy e => kw_only hM hz hy e) (by rw [hyk]; exact hvsz) (last' : Int)
    rw [hyk] at this
    simpa using this
  · have := HMem.Used (hM'.below hbz) (last' : Int) v.k hvsz (passW C.q y.s last').pass.toNat (fun _ => .inl ⟨y, hy', hyk, by
      show ((passW C.q y.s last').pass.toNat : Int) = (passW C.q y.s (last' : Int).toNat).pass
      simp
      omega⟩)
    rw [← e1] at this
    rw [show (((passW C.q y.s last').pass.toNat : Nat) : Int) = (passW C.q y.s last').pass by omega] at this
    exact this

end Go.Proofs.YtbihelpnojjacaaGreat.HotX

/- HotApart: the law's walk. -/
namespace Go.Proofs.YtbihelpnojjacaaGreat.HotY
open Go.ChangeShapes Go.WideShapes Go.ChangeAt Go.RowKit Go.Deep Base Wri Map LruA LruB LruC LruD LruE LruF HotA HotB HotC HotD HotE HotF HotG HotH HotI HotJ HotK HotL HotM HotN HotO HotR WinO HotV HotW HotX
set_option linter.unusedVariables false

theorem bdr {B : Nat} {a w : World} (h : Below B a w) (n : Nat) : Below B a (w.drewN n) := ⟨h.os, h.tape, h.output, h.size, h.block⟩

set_option maxRecDepth 20000 in
set_option maxHeartbeats 8000000 in
theorem apart_core (res : ByteArray) (hres : res.size ≤ maxLen) (idx cnt sec : Int) (a : Option Addr) (n cap : Nat) (keys : Int) (seed : Nat) (f : Nat → Itm) (al : Option Addr) (nl cl : Nat) (g : Nat → Dd) (w : World) (hI : ItAt w a n f) (hfit : ∀ i, i < n → (f i).1.size ≤ maxLen) (hD : DeAt w al nl g) (hfit2 : ∀ i, i < nl → (g i).s.size ≤ maxLen) :
    Calls Tryz.prog 7 #[.agg #[.string res, .int .i64 idx, .int .i64 cnt, .int .i64 sec, .slice a n cap, .int .i64 keys, .int .u64 seed], .slice al nl cl] w fun e w' => e = .returned (.bool true) ∧ Below w.heap.size w w' := by
  have hb0 : Below w.heap.size w (w.alloc (.cells #[.string res, .int .i64 idx, .int .i64 cnt, .int .i64 sec, .slice a n cap, .int .i64 keys, .int .u64 seed] 27)) := (Below.refl _ _).alloc (Nat.le_refl _) _
  have HN := hid (New_any res hres idx cnt sec a n cap keys seed f _ (hI.below hb0) hfit)
  have HB0 := hid hb0
  have HD := hid (And.intro hD hfit2)
  have HL := hid live_any
  clear hb0 hI hfit hD hfit2
  go_enter Tryz.func7, Tryz.ntmps7
  go_wp2_with fail
  refine HN.out.mono ?_
  rintro e w1 h
  rcases h with ⟨r, hr, rfl, hb1⟩ | ⟨k, q, -, -, -, -, -, C, own, rfl, hM, hown, -, -, -, -, -, hb1⟩
  · have n0 : (r == 0) = false := by simpa using hr
    have HB1 := hid (bl HB0.out hb1)
    clear hb1 HN
    go_wp2_with fail
    refine (HL.out _).mono ?_
    rintro e w2 ⟨rfl, hb2⟩
    have HB2 := hid (bl HB1.out hb2)
    clear hb2
    go_wp2_with fail
    go_ret
    exact ⟨rfl, HB2.out⟩
  · have HA := hid (show At w C w1 from ⟨⟨own, 0, [], [], Z0, hM, HMem.new_same, fun k hk => hown k (Nat.lt_of_lt_of_le hk HB0.out.size)⟩, bl HB0.out hb1⟩)
    clear hM hown hb1 HN
    generalize hCh : C.h = ch at *
    have HCh := hid hCh
    clear hCh
    go_wp2_with fail
    go_loopw [7] (fun i wr => ∃ k : Nat, k ≤ nl ∧ i = .int .i64 k ∧ At w C wr) (fun i _ => nl - (intOf i).toNat)
    case atStart => exact ⟨0, Nat.zero_le _, rfl, HA.out⟩
    case round =>
      obtain ⟨k, hk, rfl, hA⟩ := hrel
      have HAt := hid hA
      clear hA
      by_cases hlt : k < nl
      · have hki : (k : Int) < nl := by omega
        have hki0 : (0 : Int) ≤ k := by omega
        by_cases h80 : k < 80
        · have h80i : (k : Int) < 80 := by omega
          obtain ⟨b, o, rfl, hb, hc⟩ := HD.out.1 (by omega)
          obtain ⟨p0, p1, p2, p3⟩ := hc k hlt
          have hfk := HD.out.2 k hlt
          have hbB := HAt.out.bel
          have c0 := (hbB.cell (p := ⟨b, o + k * 4, none⟩) hb).trans p0
          have c1 := (hbB.cell (p := ⟨b, o + k * 4 + 1, none⟩) hb).trans p1
          have c2 := (hbB.cell (p := ⟨b, o + k * 4 + 2, none⟩) hb).trans p2
          have c3 := (hbB.cell (p := ⟨b, o + k * 4 + 3, none⟩) hb).trans p3
          have hbl : b < wr.heap.size := Nat.lt_of_lt_of_le hb hbB.size
          obtain ⟨⟨kd, t, s, m⟩, hgk⟩ : ∃ x, g k = x := ⟨_, rfl⟩
          rw [hgk] at c0 c1 c2 c3 hfk
          dsimp only at c0 c1 c2 c3 hfk
          obtain ⟨bx, hbxe⟩ : ∃ bx, wr.heap.size = bx := ⟨_, rfl⟩
          have HBX := hid hbxe
          clear hbxe
          have hbx : Below wr.heap.size wr (wr.alloc (.cells #[.int .i64 kd, .int .i64 t, .string s, .int .i64 m] 41)) := (Below.refl _ _).alloc (Nat.le_refl _) _
          have hxx : (wr.alloc (.cells #[.int .i64 kd, .int .i64 t, .string s, .int .i64 m] 41)).heap[wr.heap.size]? = some (.cells #[.int .i64 kd, .int .i64 t, .string s, .int .i64 m] 41) := heap_alloc_new _ _
          obtain ⟨L, bb, rr, hlw4, hKp, hFk⟩ := HotX.At.apart HAt.out t s hfk m
          rw [HCh.out] at hKp hFk
          have HK1 := hid (hKp _ hbx)
          have HF := hid hFk
          have HX := hid (And.intro hbx hxx)
          obtain ⟨lw, hlw⟩ : ∃ lw, L.length = lw := ⟨_, rfl⟩
          rw [hlw] at HK1 hlw4
          have HLw := hid hlw
          clear p0 p1 p2 p3 hc hfk hbB hb hgk hbx hxx hKp hFk hlw
          go_wp2_with fail
          refine HK1.out.mono ?_
          rintro e w2 ⟨⟨vb, vc, rfl, hrow⟩, hb2⟩
          obtain ⟨hbx, hxx⟩ := HX.out
          have hb2' := bl hbx hb2
          have hx2 := (hb2.block _ (Array.getElem?_eq_some_iff.1 hxx).1).trans hxx
          have HFk := hid (HF.out w2 hb2')
          have HR2 := hid (And.intro hrow (And.intro hb2' hx2))
          clear hrow hb2 hb2' hx2 hbx hxx HX HK1 HF
          go_wp2_with fail
          refine HFk.out.mono ?_
          rintro e w3 ⟨q, rfl, hb3, hTk⟩
          obtain ⟨hrow, hb2', hx2⟩ := HR2.out
          have hx3 := (hb3.block _ (Array.getElem?_eq_some_iff.1 hx2).1).trans hx2
          have e1 : w3.cell? ⟨wr.heap.size, 1, none⟩ = some (.int .i64 t) := cell_of hx3 1 _ rfl
          have e2 : w3.cell? ⟨wr.heap.size, 2, none⟩ = some (.string s) := cell_of hx3 2 _ rfl
          have e3 : w3.cell? ⟨wr.heap.size, 3, none⟩ = some (.int .i64 m) := cell_of hx3 3 _ rfl
          have hrow3 := owns_keep hrow (w' := w3) (fun g hg => hb3.block g (World.ownsRow.lt hrow g hg).2)
          have HT := hid (hTk.out w3 (Below.refl _ _))
          have H3 := hid (And.intro hrow3 (And.intro hx3 (show wr.heap.size ≤ w2.heap.size from hb2'.size)))
          clear hrow hb2' hx2 hx3 hrow3 hTk hb3 HR2 HFk
          go_wp2_with fail
          refine HT.out.mono ?_
          rintro e w4 ⟨rfl, hA4, hnew, hap⟩
          obtain ⟨hrow3, hx3, hs2⟩ := H3.out
          have hx4 := (hnew _ (Nat.le_refl _) (Array.getElem?_eq_some_iff.1 hx3).1).trans hx3
          have hrow4 := owns_keep hrow3 (w' := w4) (fun g hg => hnew g (by have := (World.ownsRow.lt hrow3 g hg).1; simp at this; omega) (World.ownsRow.lt hrow3 g hg).2)
          have HA4 := hid hA4
          have H4 := hid (And.intro hrow4 hx4)
          clear e1 e2 e3 hrow3 hx3 hs2 hx4 hrow4 hnew HT H3 hA4 c0 c1 c2 c3 hbl
          by_cases hr0 : rr = 0
          · subst hr0
            obtain ⟨L', hln4, hKp2, hall⟩ := hap.out rfl
            have HK2 := hid (hKp2 w4 (Below.refl _ _))
            obtain ⟨ln, hln⟩ : ∃ ln, L'.length = ln := ⟨_, rfl⟩
            rw [hln] at HK2 hln4
            have HLn := hid hln
            have HAll := hid hall
            clear hap hKp2 hall hln
            go_wp2_with fail
            refine HK2.out.mono ?_
            rintro e w5 ⟨⟨vn, vnc, rfl, hrow5⟩, hb5⟩
            obtain ⟨hrow4, hx4⟩ := H4.out
            have hx5 := (hb5.block _ (Array.getElem?_eq_some_iff.1 hx4).1).trans hx4
            have hrowW := owns_keep hrow4 (w' := w5) (fun g hg => hb5.block g (World.ownsRow.lt hrow4 g hg).2)
            rw [HBX.out] at hx5
            have H5 := hid (And.intro hrowW (And.intro hrow5 (And.intro hx5 hb5)))
            clear hrow4 hx4 hx5 hrowW hrow5 hb5 HK2 H4
            go_wp2_with fail
            rw [HBX.out]
            clear HBX
            go_loopw [14] (fun i wr => ∃ j : Nat, j ≤ lw ∧ i = .int .i64 j ∧ Below w5.heap.size w5 wr) (fun i _ => lw - (intOf i).toNat)
            case atStart => exact ⟨0, Nat.zero_le _, rfl, Below.refl _ _⟩
            case round =>
              obtain ⟨j, hj, rfl, hbw⟩ := hrel
              have HBw := hid hbw
              clear hbw
              by_cases hlt2 : j < lw
              · have hji : (j : Int) < lw := by omega
                have hji0 : (0 : Int) ≤ j := by omega
                have hjl : j < L.length := by rw [HLw.out]; exact hlt2
                obtain ⟨v, hv⟩ : ∃ v, L[j]? = some v := ⟨_, List.getElem?_eq_getElem hjl⟩
                obtain ⟨gw, rfl, hgw0, hgw, hcw⟩ := ks_at H5.out.1 hv
                have hvm : v ∈ L := List.mem_of_getElem? hv
                have HKp : Hid (∀ wx, Below w5.heap.size w5 wx → wx.cell? ⟨gw, j, none⟩ = some (.string v.k) ∧ wx.cell? ⟨bx, 1, none⟩ = some (.int .i64 t) ∧ wx.cell? ⟨bx, 2, none⟩ = some (.string s)) := hid fun wx hb => ⟨kcB hb hcw, kcB hb (cell_of H5.out.2.2.1 1 _ rfl), kcB hb (cell_of H5.out.2.2.1 2 _ rfl)⟩
                clear hjl hv hcw hgw0
                have HAv := hid (HAll.out v hvm)
                generalize hvk : v.k = vk at *
                have HHere := hid hgw
                clear hvk hvm hgw
                go_wp2_with fail
                go_loopw [15, 16] (fun sv i wr => ∃ (z : Nat) (st : Bool), z ≤ ln ∧ i = .int .i64 z ∧ sv = .bool st ∧ (st = true ↔ ∃ y, y < z ∧ ∃ e, L'[y]? = some e ∧ e.k = vk) ∧ Below w5.heap.size w5 wr) (fun _ i _ => ln - (intOf i).toNat)
                case atStart => exact ⟨0, false, Nat.zero_le _, rfl, rfl, ⟨fun h => (by cases h), fun ⟨y, h, _⟩ => absurd h (Nat.not_lt_zero _)⟩, HBw.out⟩
                case round =>
                  obtain ⟨z, st, hz, rfl, rfl, hst, hbv⟩ := hrel
                  have HSt := hid hst
                  have HBv := hid hbv
                  clear hst hbv
                  obtain ⟨c0, c1, c2⟩ := HKp.out wr HBv.out
                  have hgw2 : gw < wr.heap.size := World.block_lt_of_cell? _ _ c0
                  have hbx2 : bx < wr.heap.size := World.block_lt_of_cell? _ _ c1
                  by_cases hlt3 : z < ln
                  · have hzi : (z : Int) < ln := by omega
                    have hzi0 : (0 : Int) ≤ z := by omega
                    obtain ⟨e, he⟩ : ∃ e, L'[z]? = some e := ⟨_, List.getElem?_eq_getElem (by rw [HLn.out]; exact hlt3)⟩
                    obtain ⟨gn, rfl, -, -, hcn⟩ := ks_at H5.out.2.1 he
                    have d0 := kcB HBv.out hcn
                    have hgn2 : gn < wr.heap.size := World.block_lt_of_cell? _ _ d0
                    have HEe := hid he
                    clear he hcn c1 c2 hbx2
                    cases st with
                    | true =>
                      go_upto_region 20 with fail
                      go_quiet (fail)
                      clear d0 c0
                      go_wp2_with fail
                      go_roundw
                      case rel => exact ⟨z + 1, true, hlt3, by go_num, rfl, ⟨fun _ => by obtain ⟨y, hy, h⟩ := HSt.out.1 rfl; exact ⟨y, by omega, h⟩, fun _ => rfl⟩, bdr HBv.out _⟩
                      case measure => simp [intOf]; omega
                    | false =>
                      by_cases hek : e.k = vk
                      · have e1 : (e.k.toList == vk.toList) = true := by rw [Txt.text_eq]; exact decide_eq_true hek
                        go_upto_region 20 with fail
                        go_quiet (fail)
                        clear d0 c0
                        go_wp2_with fail
                        go_roundw
                        case rel => exact ⟨z + 1, true, hlt3, by go_num, rfl, ⟨fun _ => ⟨z, Nat.lt_succ_self _, e, HEe.out, hek⟩, fun _ => rfl⟩, bdr HBv.out _⟩
                        case measure => simp [intOf]; omega
                      · have e1 : (e.k.toList == vk.toList) = false := by rw [Txt.text_eq]; exact decide_eq_false hek
                        go_upto_region 20 with fail
                        go_quiet (fail)
                        clear d0 c0
                        go_wp2_with fail
                        go_roundw
                        case rel => exact ⟨z + 1, false, hlt3, by go_num, rfl, ⟨fun h => (by cases h), fun ⟨y, hy, e', he', hk'⟩ => by
                          by_cases hyz : y = z
                          · subst hyz; rw [HEe.out] at he'; cases he'; exact absurd hk' hek
                          · exact HSt.out.2 ⟨y, by omega, e', he', hk'⟩⟩, bdr HBv.out _⟩
                        case measure => simp [intOf]; omega
                  · obtain rfl : z = ln := by omega
                    by_cases hvs : vk = s
                    · have e1 : (vk.toList == s.toList) = true := by rw [Txt.text_eq]; exact decide_eq_true hvs
                      go_upto_region 21 with fail
                      go_quiet (fail)
                      clear c0 c1 c2
                      go_wp2_with fail
                      go_roundw
                      case rel => exact ⟨j + 1, hlt2, by go_num, bdr HBv.out _⟩
                      case measure => simp [intOf]; omega
                    · have e1 : (vk.toList == s.toList) = false := by rw [Txt.text_eq]; exact decide_eq_false hvs
                      cases st with
                      | false =>
                        go_upto_region 21 with fail
                        go_quiet (fail)
                        clear c0 c1 c2
                        go_wp2_with fail
                        go_roundw
                        case rel => exact ⟨j + 1, hlt2, by go_num, bdr HBv.out _⟩
                        case measure => simp [intOf]; omega
                      | true =>
                        obtain ⟨x, y, hU1, hU2⟩ := HAv.out hvs (by
                          obtain ⟨y, hy, e, he, hk⟩ := HSt.out.1 rfl
                          exact ⟨e, List.mem_of_getElem? he, hk⟩)
                        have HU1 := hid hU1
                        have HU2 := hid hU2
                        clear hU1 hU2
                        go_upto_region 21 with fail
                        go_quiet (fail)
                        clear c0 c1 c2 hgw2 hbx2
                        have HBq := hid (bdr HBv.out nq)
                        generalize wr.drewN nq = wv at *
                        obtain ⟨c0, c1, c2⟩ := HKp.out wv HBq.out
                        have hgw2 : gw < wv.heap.size := World.block_lt_of_cell? _ _ c0
                        have hbx2 : bx < wv.heap.size := World.block_lt_of_cell? _ _ c1
                        have HV1 := hid (HU1.out wv.drew (H5.out.2.2.2.trans (HBq.out.drew.mono H5.out.2.2.2.size)))
                        go_upto_region 22 with fail
                        go_region_held3 (fun w' => w'.cell? ⟨gw, j, none⟩ = some (.string vk) ∧ w'.cell? ⟨bx, 1, none⟩ = some (.int .i64 t)) (first | assumption | (have h9 := HKp.out _ (by first | exact HBt.out); exact ⟨h9.1, h9.2.1⟩) | go_keep) (first | (go_at_call 21; with_reducible refine HV1.out.mono ?_; rintro e w8 ⟨rfl, hb8⟩; have HBt : Hid (Below w5.heap.size w5 w8) := hid (HBq.out.drew.trans (hb8.mono HBq.out.drew.size)); clear hb8))
                        clear c0 c1 c2 hgw2 hbx2
                        have HBt2 : Hid (Below w5.heap.size w5 w8) := HBt
                        clear HBt
                        obtain ⟨c0, c1, c2⟩ := HKp.out w8 HBt2.out
                        have hgw2 : gw < w8.heap.size := World.block_lt_of_cell? _ _ c0
                        have hbx2 : bx < w8.heap.size := World.block_lt_of_cell? _ _ c1
                        have HV2 := hid (HU2.out w8.drew (H5.out.2.2.2.trans (HBt2.out.drew.mono H5.out.2.2.2.size)))
                        go_upto_region 23 with fail
                        go_region_held3 (fun w' => w'.cell? ⟨gw, j, none⟩ = some (.string vk) ∧ w'.cell? ⟨bx, 1, none⟩ = some (.int .i64 t)) (first | assumption | (have h9 := HKp.out _ (by first | exact HBt.out); exact ⟨h9.1, h9.2.1⟩) | go_keep) (first | (go_at_call 21; with_reducible refine HV2.out.mono ?_; rintro e w9 ⟨rfl, hb9⟩; have HBt : Hid (Below w5.heap.size w5 w9) := hid (HBt2.out.drew.trans (hb9.mono HBt2.out.drew.size)); clear hb9))
                        clear c0 c1 c2 hgw2 hbx2
                        go_wp2_with fail
                        go_roundw
                        case rel => exact ⟨j + 1, hlt2, by go_num, HBt.out⟩
                        case measure => simp [intOf]; omega
              · obtain rfl : j = lw := by omega
                have HA5 := hid (HA4.out.below (H5.out.2.2.2.trans (HBw.out.mono H5.out.2.2.2.size)))
                go_wp2_with fail
                go_roundw
                case rel => exact ⟨k + 1, hlt, by go_num, HA5.out⟩
                case measure => simp [intOf]; omega
          · have n0 : (rr == 0) = false := by simpa using hr0
            clear hap hr0
            go_wp2_with fail
            go_roundw
            case rel => exact ⟨k + 1, hlt, by go_num, HA4.out⟩
            case measure => simp [intOf]; omega
        · have h80i : ¬ (k : Int) < 80 := by omega
          have HBw := hid HAt.out.bel
          go_wp2_with fail
          refine (HL.out _).mono ?_
          rintro e w2 ⟨rfl, hb2⟩
          have HB2 := hid (bl HBw.out hb2)
          clear hb2
          go_wp2_with fail
          go_ret
          exact ⟨rfl, HB2.out⟩
      · obtain rfl : k = nl := by omega
        have HBw := hid HAt.out.bel
        go_wp2_with fail
        refine (HL.out _).mono ?_
        rintro e w2 ⟨rfl, hb2⟩
        have HB2 := hid (bl HBw.out hb2)
        clear hb2
        go_wp2_with fail
        go_ret
        exact ⟨rfl, HB2.out⟩

/-- the law's main, of HotApart -/
theorem main {H : Type} {enc : TypeId × Value → H} {W : World} {base : Nat} {spare : Nat → Bool} {held : Bool} (res : ByteArray) (idx cnt sec : Int) (a : Option Addr) (m c : Nat) (keys : Int) (seed : Nat) (f : Nat → Itm) (hres : res.size ≤ maxLen) (hI : ItAt W a m f) (hfit : ∀ i, i < m → (f i).1.size ≤ maxLen) (hk : (Lit.int .i64 keys).wf = true) (hsd : seed < 18446744073709551616)
    (al : Option Addr) (nl cl : Nat) {d : DataW H} {p : List MemPlace} (h : DataW.Trod enc Tryz.prog W base spare held 28 (.slice al nl cl) d p) :
    Calls Tryz.prog 7 #[.agg #[.string res, .int .i64 idx, .int .i64 cnt, .int .i64 sec, .slice a m c, .int .i64 keys, .int .u64 seed], .slice al nl cl] W fun e W' => e = .returned (.bool true) ∧ Below W.heap.size W W' := by
  obtain ⟨g, h1, h2⟩ := HotP.deeds_of h
  exact apart_core res hres idx cnt sec a m c keys seed f al nl cl g W hI hfit h1 h2

end Go.Proofs.YtbihelpnojjacaaGreat.HotY

namespace Go.Proofs.YtbihelpnojjacaaGreat.hotApart
open Go.ChangeShapes Go.WideShapes Go.ChangeAt Go.RowKit Go.Deep
open Go.ChangeMaps (open_string shut_string)
set_option linter.unusedVariables false

theorem own : ownKnob Tryz.prog.godebug = none := by kernel_rfl
theorem laidOut : laidOutB Tryz.prog = true := by kernel_rfl

set_option maxRecDepth 100000 in
theorem lifted (os : Os) (started : os.Started) (H : Type) (enc : TypeId × Value → H) :
    ReturnsInHanded {} Tryz.checked os 7 .any (Rows.hotApartSpec.pre6 enc Tryz.prog Tryz.f7 Rows.hotApartRow.domain false) (Rows.hotApartSpec.post enc Tryz.prog Tryz.f7 false true false false) := by
  refine returnsInHanded_of_change_sized (C := Tryz.checked) own started (by kernel_rfl) Tryz.func7
    (ChangeSpec.witness6 (enc := enc) (C := Tryz.checked) false ⟨#[], #[.agg #[.string ⟨#[]⟩, .int .i64 0, .int .i64 0, .int .i64 0, .slice none 0 0, .int .i64 0, .int .u64 0], .slice none 0 0], []⟩ 8 (by kernel_rfl) (by kernel_rfl) (by kernel_rfl) (by kernel_rfl)) ?_
  intro W base args ds gs before hval0 hW hcnd hsz0 _
  have hval : ∀ (j : Nat) t v, Tryz.f7.params[j]? = some t → args[j]? = some v → Value.okWide Tryz.prog W .any base t v := hval0
  have hW' := hW
  obtain ⟨p, q, hA0, hV, rfl, hfz, hnd⟩ := hW
  have hA : DataW.TrodAll enc Tryz.prog W 0 (fun _ => true) true Tryz.f7.params.toList args.toList ds p := hA0
  rw [Tryz.params7] at hA hval
  obtain ⟨v0, vs0, d0, ds0, p0, q0, hargs, rfl, rfl, h0, r0⟩ := trodAll_cons hA
  obtain ⟨v1, vs1, d1, ds1, p1, q1, rfl, rfl, rfl, h1, r1⟩ := trodAll_cons r0
  obtain ⟨rfl, rfl, rfl⟩ := trodAll_nil r1
  obtain rfl : args = #[v0, v1] := by cases args; simp_all
  obtain ⟨rfl, rfl⟩ := trodVars_none hV
  obtain ⟨res0, idx0, cnt0, sec0, a0, m0, c0, keys0, seed0, f0, rfl, hres0, hI0, hfit0, hk0, hsd0⟩ := HotP.set_of (hval 0 27 v0 rfl rfl) h0
  obtain ⟨a1, len1, cap1, rfl⟩ := okWide_slice Tryz.underlying28 (hval 1 28 v1 rfl rfl)
  have k0 := h0
  have lt0 : ∀ x ∈ p0, x.block < W.heap.size := by obtain ⟨m, hm⟩ := k0; exact DataW.trod_lt m _ _ _ hm
  have k1 := h1
  have lt1 : ∀ x ∈ p1, x.block < W.heap.size := by obtain ⟨m, hm⟩ := k1; exact DataW.trod_lt m _ _ _ hm
  clear hA0 hval0
  refine (HotY.main res0 idx0 cnt0 sec0 a0 m0 c0 keys0 seed0 f0 hres0 hI0 hfit0 hk0 hsd0 a1 len1 cap1 h1).mono fun e W' ⟨he, bel⟩ => ?_
  subst he
  exact ⟨_, rfl, _, _, _, [], _, [], hW', trodAll_mk1 (shut_bool Tryz.underlying4 _), (trodAll_cons_mk (Below.trod laidOut (by kernel_rfl) (of_decide_eq_true (by kernel_rfl)) k0 bel lt0) (trodAll_cons_mk (Below.trod laidOut (by kernel_rfl) (of_decide_eq_true (by kernel_rfl)) k1 bel lt1) trodAll_mk0)), rfl, bel.frame _, fun h => by cases h⟩

theorem over : Rows.hotApartRow.holds Tryz.pinned (OpenSpec.ofChange Rows.hotApartSpec) :=
  OpenClaim.holds_of_wide 7 Tryz.f7 rfl rfl rfl rfl rfl rfl rfl ⟨rfl, rfl, rfl, rfl, rfl⟩ rfl rfl rfl rfl rfl (by kernel_rfl) Tryz.func7 (by kernel_rfl)
    (of_decide_eq_true (by kernel_rfl)) (by unfold Func.isWrapper; first | (rw [if_pos (by decide +kernel)]; kernel_rfl) | (rw [if_neg (by decide +kernel)]; exact ⟨rfl, rfl⟩))
    (fun os started H enc _ => lifted os started H enc)

theorem proved : Rows.HotApartSaid := over
#print axioms proved
end Go.Proofs.YtbihelpnojjacaaGreat.hotApart
