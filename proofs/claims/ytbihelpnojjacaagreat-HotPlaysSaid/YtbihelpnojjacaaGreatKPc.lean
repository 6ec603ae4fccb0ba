/- HotPlays: the program's Fork, what is kept of it. -/
import Derived.Test.YtbihelpnojjacaaGreatKWin
import Derived.Test.YtbihelpnojjacaaGreatKHa
import Derived.Maps.AppendAt
import Derived.Lib.SliceRun
import Derived.Test.YtbihelpnojjacaaGreatKHb
import Derived.Test.YtbihelpnojjacaaGreatKLr
import Derived.Maps.RangeRun
import Derived.Test.YtbihelpnojjacaaGreatKPs
import Derived.Deep.RegionHeld3

/- Copies of windows. -/
namespace Go.Proofs.YtbihelpnojjacaaGreat.WinO
set_option linter.unusedVariables false
open Go.ChangeShapes Go.WideShapes Go.ChangeAt Go.RowKit Go.Deep Base Wri Map LruA WinM WinA WinB WinC WinD WinE WinF WinG WinH WinI WinJ WinK WinN HotD

def cells7 (f : Nat → Bkt) (n : Nat) : List Value := ((List.range n).map f).flatMap WinC.bv
theorem cells7_succ (f : Nat → Bkt) (n : Nat) : cells7 f (n + 1) = cells7 f n ++ WinC.bv (f n) := by unfold cells7; simp [List.range_succ]
theorem bv_len (b : Bkt) : (WinC.bv b).length = 7 := rfl
theorem cells7_len (f : Nat → Bkt) (n : Nat) : (cells7 f n).length = n * 7 := by
  induction n with
  | zero => rfl
  | succ n ih => rw [cells7_succ, List.length_append, ih, bv_len]; omega
theorem cells7_at (f : Nat → Bkt) (n : Nat) : ∀ i, i < n → ∀ j, j < 7 → (cells7 f n)[i * 7 + j]? = (WinC.bv (f i))[j]? := by
  induction n with
  | zero => intro i hi; omega
  | succ n ih =>
    intro i hi j hj
    rw [cells7_succ]
    by_cases e : i = n
    · subst e
      rw [List.getElem?_append_right (by rw [cells7_len]; omega), cells7_len, show i * 7 + j - i * 7 = j by omega]
    · rw [List.getElem?_append_left (by rw [cells7_len]; omega)]
      exact ih i (by omega) j hj
theorem one7 (f : Nat → Bkt) (n : Nat) : ∀ u ∈ cells7 f n, u.oneCell' = true := by
  intro u hu
  unfold cells7 at hu
  obtain ⟨x, hx, hu⟩ := List.mem_flatMap.1 hu
  unfold WinC.bv at hu
  simp at hu
  rcases hu with rfl | rfl | rfl | rfl | rfl | rfl | rfl <;> rfl
theorem infoBk : (Tryz.prog.info? 182).map (fun i => (i.zero, i.size, i.bytes)) = some (some (.agg #[.int .i64 0, .int .i64 0, .int .i64 0, .int .i64 0, .int .i64 0, .int .i64 0, .int .i64 0]), 7, 56) := by kernel_rfl

/-- a row of one's own as buckets -/
theorem bk_of {w : World} {B n : Nat} {v : Value} {f : Nat → Bkt} (h : w.ownsRow B 182 7 v n (cells7 f n)) (hn : 0 < n) : ∃ g cap, v = .slice (some ⟨g, 0, none⟩) n cap ∧ B ≤ g ∧ IsBk w g cap n f := by
  rcases h.2 with ⟨rfl, hz⟩ | ⟨g, cap, cur, rfl, hg, hgb, h1, h2, h3, h4⟩
  · omega
  · refine ⟨g, cap, rfl, hg, cur, hgb, h3, h1, h2, fun i hi j hj => ?_⟩
    have h5 := cells7_at f n i hi j hj
    rw [← h4, List.getElem?_take, if_pos (by omega), Array.getElem?_toList] at h5
    exact h5

set_option maxRecDepth 20000 in
set_option maxHeartbeats 2000000 in
theorem bclone_any (w : World) (go : Option Nat) (v : Value) (bs : List Bkt) (h : Holds w go v bs) (hl : bs.length ≤ 1000) :
    Calls Tryz.prog 91 #[v] w fun e w' => (∃ a n c, e = .returned (.slice a n c) ∧ ∃ go', Holds w' go' (.slice a n c) bs ∧ ∀ g, go' = some g → w.heap.size ≤ g) ∧ Below w.heap.size w w' := by
  obtain ⟨i0, hi, hz0, hz1, hz2⟩ := info_parts infoBk
  rcases h with ⟨rfl, rfl, rfl⟩ | ⟨g, cap, f, rfl, rfl, hbk, htl⟩
  · have he : ∀ wx, (binOp .eql 177 (.slice none 0 0) (.slice none 0 0)).run Tryz.prog wx = .ok (.bool true) wx := fun wx => Go.Lib.run_eql_slice_nil wx _ 182 _ _ _ _ _ Tryz.underlying177
    go_enter Tryz.func91, Tryz.ntmps91
    go_wp2_with fail
    go_ret
    exact ⟨⟨none, 0, 0, rfl, none, .inl ⟨rfl, rfl, rfl⟩, fun g hg => by cases hg⟩, Below.refl _ _⟩
  · obtain ⟨n, hn⟩ : ∃ n, bs.length = n := ⟨_, rfl⟩
    rw [hn] at hbk htl hl ⊢
    have he : ∀ wx, (binOp .eql 177 (.slice (some ⟨g, 0, none⟩) n cap) (.slice none 0 0)).run Tryz.prog wx = .ok (.bool false) wx := fun wx => Go.Lib.run_eql_slice_nil wx _ 182 _ _ _ _ _ Tryz.underlying177
    have hb0 : Below w.heap.size w (w.alloc (.cells #[] 182)) := (Below.refl _ _).alloc (Nat.le_refl _) _
    have h0 : (w.alloc (.cells #[] 182)).ownsRow w.heap.size 182 7 (.slice (some ⟨w.heap.size, 0, none⟩) 0 0) 0 [] := ⟨rfl, .inr ⟨w.heap.size, 0, #[], rfl, Nat.le_refl _, heap_alloc_new _ _, Nat.le_refl _, Nat.zero_le _, rfl, rfl⟩⟩
    have hbk2 := hbk.of_block (hb0.block g hbk.lt)
    have hnews : ∀ (j : Nat) (u : Value), (cells7 f n)[j]? = some u → (w.alloc (.cells #[] 182)).cell? ((⟨g, 0, none⟩ : Addr).add j) = some u := fun j u hu => by
      have hj := (List.getElem?_eq_some_iff.1 hu).1
      rw [cells7_len] at hj
      have h5 := cells7_at f n (j / 7) (by omega) (j % 7) (by omega)
      rw [show j / 7 * 7 + j % 7 = j by omega] at h5
      rw [Go.WideShapes.add_plain, Nat.zero_add]
      have := hbk2.cell (j / 7) (by omega) (j % 7) (by omega) u (by rw [← h5]; exact hu)
      rwa [show j / 7 * 7 + j % 7 = j by omega] at this
    have HX := hid (And.intro h0 (And.intro hb0 (And.intro hnews htl)))
    have HN := hid hn
    clear hbk hbk2 h0 hb0 hnews htl hn
    go_enter Tryz.func91, Tryz.ntmps91
    go_wp2_with (at_builtin; refine wpList_append_own_at _ rfl _ _ 177 rfl w.heap.size 182 i0 (.agg #[.int .i64 0, .int .i64 0, .int .i64 0, .int .i64 0, .int .i64 0, .int .i64 0, .int .i64 0]) 7 56 Tryz.underlying177 hi hz0 hz1 hz2 rfl (by decide) (.slice (some ⟨w.heap.size, 0, none⟩) 0 0) 0 [] rfl HX.out.1 ⟨g, 0, none⟩ n cap (cells7 f n) rfl (cells7_len f n) HX.out.2.2.1 (one7 f n) (by unfold maxLen; omega) (by omega) (by simp) ?_; intro v6 w6 hown6 hgr6 hnil6 hat6; obtain ⟨vb, vd, rfl⟩ := owns_shape hown6)
    go_ret
    rw [Nat.zero_add, List.nil_append] at hown6
    have hbel : Below w.heap.size w w6 := HX.out.2.1.grown hgr6 (by simp) (fun k e => by simp [Value.ownBlock] at e; omega)
    refine ⟨⟨vb, _, vd, rfl, ?_⟩, hbel⟩
    by_cases hn0 : n = 0
    · subst hn0
      obtain rfl : bs = [] := List.eq_nil_of_length_eq_zero HN.out
      rcases hown6.2 with ⟨e, _⟩ | ⟨g6, cap6, cur6, e, hg6, hgb6, h1, h2, h3, h4⟩
      · exact ⟨none, .inl ⟨rfl, e, rfl⟩, fun g hg => by cases hg⟩
      · exact ⟨some g6, .inr ⟨g6, cap6, fun _ => ⟨0, ⟨0, 0, 0, 0, 0, 0⟩⟩, rfl, e, ⟨cur6, hgb6, h3, h1, h2, fun i hi => absurd hi (Nat.not_lt_zero _)⟩, rfl⟩, fun g hg => by cases hg; exact hg6⟩
    · obtain ⟨g6, cap6, e, hg6, hbk6⟩ := bk_of hown6 (by omega)
      exact ⟨some g6, .inr ⟨g6, cap6, f, rfl, by rw [HN.out]; exact e, by rw [HN.out]; exact hbk6, by rw [HN.out]; exact HX.out.2.2.2⟩, fun g hg => by cases hg; exact hg6⟩

set_option maxRecDepth 20000 in
set_option maxHeartbeats 2000000 in
theorem wfork_any (w : World) (p : Nat) (go : Option Nat) (s : Win) (h : IsWin w p go s) (hl : s.bs.length ≤ 1000) :
    Calls Tryz.prog 59 #[.pointer (some ⟨p, 0, none⟩)] w fun e w' => (∃ q go', e = .returned (.pointer (some ⟨q, 0, none⟩)) ∧ w.heap.size ≤ q ∧ IsWin w' q go' s ∧ ∀ g, go' = some g → w.heap.size ≤ g) ∧ Below w.heap.size w w' := by
  obtain ⟨hne, v, hb, hh⟩ := h
  have hsh : ∃ a n c, v = .slice a n c := by
    rcases hh with ⟨_, rfl, _⟩ | ⟨g, cap, f, _, rfl, _⟩
    · exact ⟨_, _, _, rfl⟩
    · exact ⟨_, _, _, rfl⟩
  obtain ⟨a, n, c, rfl⟩ := hsh
  have hpl : p < w.heap.size := (Array.getElem?_eq_some_iff.1 hb).1
  have c0 := cell_of hb 0 _ rfl
  have c1 := cell_of hb 1 _ rfl
  have c2 := cell_of hb 2 _ rfl
  have c3 := cell_of hb 3 _ rfl
  have hbx : Below w.heap.size w (w.alloc (.cells #[.int .i64 s.width, .int .i64 s.size, .int .i64 s.last, .slice a n c] 179)) := (Below.refl _ _).alloc (Nat.le_refl _) _
  have HC := hid (bclone_any _ go _ s.bs (hh.of_block (w' := w.alloc (.cells #[.int .i64 s.width, .int .i64 s.size, .int .i64 s.last, .slice a n c] 179)) fun g hg => hbx.block g (hh.lt g hg)) hl)
  have HBx := hid (And.intro hbx (heap_alloc_new w (.cells #[.int .i64 s.width, .int .i64 s.size, .int .i64 s.last, .slice a n c] 179)))
  clear hh hb hbx hne
  have HS := hid (show (⟨s.width, s.size, s.last, s.bs⟩ : Win) = s from rfl)
  generalize s.width = x1 at *
  generalize s.size = x2 at *
  generalize s.last = x3 at *
  generalize s.bs = bs at *
  go_enter Tryz.func59, Tryz.ntmps59
  go_wp2_with fail
  refine HC.out.mono ?_
  rintro e w2 ⟨⟨a2, n2, c2', rfl, go2, hh2, hg2⟩, hb2⟩
  have hq2 := (hb2.block w.heap.size (Array.getElem?_eq_some_iff.1 HBx.out.2).1).trans HBx.out.2
  have d3 := cell_of hq2 3 _ rfl
  have f3 : w2.frozen? ⟨w.heap.size, 3, none⟩ = false := by simp [World.frozen?, hq2]
  have hsz := hb2.size
  have HH := hid (And.intro hh2 (And.intro hg2 (And.intro hb2 hq2)))
  clear hh2 hg2 hb2 hq2 hsz
  go_wp2_with fail
  go_ret
  obtain ⟨hh2, hg2, hb2, hq2⟩ := HH.out
  have hsz := HBx.out.1.size
  have hsz2 : (w.alloc (.cells #[.int .i64 x1, .int .i64 x2, .int .i64 x3, .slice a n c] 179)).heap.size = w.heap.size + 1 := by simp
  refine ⟨⟨_, go2, rfl, Nat.le_refl _, ⟨?_, .slice a2 n2 c2', ?_, ?_⟩, fun g hg => ?_⟩, ?_⟩
  · intro e
    have := hg2 _ e
    omega
  · rw [← HS.out]
    exact heap_setCell_same _ _ _ _ _ _ hq2
  · rw [← HS.out]
    refine hh2.of_block fun g hg => heap_setCell_other _ _ _ _ ?_
    have := hg2 g hg
    show g ≠ w.heap.size
    omega
  · have := hg2 g hg
    omega
  · have hb3 := HBx.out.1.trans (hb2.mono hsz)
    exact hb3.setCell (Nat.le_refl _) _

end Go.Proofs.YtbihelpnojjacaaGreat.WinO

/- A hot parameter's rule at work: the copy of what is kept exactly. -/
namespace Go.Proofs.YtbihelpnojjacaaGreat.HotV
open Go.ChangeShapes Go.WideShapes Go.ChangeAt Go.RowKit Go.Deep Base Wri Map LruA LruB LruC LruD LruE LruF HotA HotB HotC HotD HotE HotF HotG HotH HotI HotJ HotK HotL HotM HotN HotO HotR WinO
open Go.Maps (Keyed string_keyed)
open Go.ChangeMaps (setBlock modify_eq_set)
set_option linter.unusedVariables false

theorem key_string {v : Value} {l : Lit} (h : keyOf Tryz.prog 9 v = some l) : ∃ s : ByteArray, v = .string s ∧ s.size ≤ maxLen := by
  have hu := Tryz.underlying9
  unfold keyOf at h
  simp [hu] at h
  unfold mapKey at h
  simp only [hu] at h
  cases v <;> simp at h
  exact ⟨_, rfl, h.1⟩

theorem run_hintW (n : Nat) (w : World) : (Instr.makeMap 60 (some (.int .i64 n))).run Tryz.prog w = .ok (.map (some w.heap.size)) (w.alloc (.map #[] 0)) := by
  have h1 := Tryz.underlying60
  simp [Instr.makeMap, run_underlying h1, asInt, asIntOf, Result.andThen]

/-- windows that were copied: as many as were seen -/
structure Cpd (B : Nat) (K : List KW) (es : Array MapEntry) (seen : Array Nat) (K2 : List KW) (wb2 : Nat) (w : World) : Prop where
  map : ∃ F n, MapOf Tryz.prog 9 w wb2 F n ∧ ∀ s v, F (.string s) = some v ↔ ∃ x ∈ K2, x.k = s ∧ v = ptr x.p
  nd : (K2.map KW.k).Nodup
  win : ∀ x ∈ K2, WinE.IsWin w x.p x.go x.s ∧ B ≤ x.p ∧ (∀ g, x.go = some g → B ≤ g) ∧ ∃ y ∈ K, y.k = x.k ∧ y.s = x.s ∧ y.t = x.t
  got : ∀ e ∈ es.toList, seen.contains e.born = true → ∃ x ∈ K2, e.key = .string x.k
  far : ∀ x ∈ K2, ∃ e ∈ es.toList, seen.contains e.born = true ∧ e.key = .string x.k

variable {w w' : World} {own : Nat → Tg} {C : HC} {last : Nat} {L L' : List Ent} {K K' : List KW} {Z Z' : SK}

theorem push_has {seen : Array Nat} {a b : Nat} : (seen.push a).contains b = true ↔ seen.contains b = true ∨ b = a := by
  simp

/-- one window more was copied -/
theorem Cpd.step {B : Nat} {es : Array MapEntry} {seen : Array Nat} {K2 : List KW} {wb2 : Nat} {w w5 w6 : World} {clock : Nat} (h : Cpd B K es seen K2 wb2 w) (hB : Bn es clock) (hpw : es.toList.Pairwise (fun x y => x.key ≠ y.key)) {e : MapEntry} (he : e ∈ es.toList) (hns : seen.contains e.born = false) {y : KW} (hy : y ∈ K) (hk : e.key = .string y.k)
    {q : Nat} {go : Option Nat} (hq : B ≤ q) (hgo : ∀ g, go = some g → B ≤ g) (hw : WinE.IsWin w5 q go y.s) (h5 : ∀ x ∈ K2, WinE.IsWin w5 x.p x.go x.s) (hwb : ∀ x : KW, WinE.IsWin w5 x.p x.go x.s → x.p ≠ wb2 ∧ x.go ≠ some wb2)
    {F : Value → Option Value} {n : Nat} (hF : ∀ s v, F (.string s) = some v ↔ ∃ x ∈ K2, x.k = s ∧ v = ptr x.p) (hm : MapOf Tryz.prog 9 w6 wb2 (put F (.string y.k) (ptr q)) n) (h6 : Wr (fun k => k = wb2) w5 w6) :
    Cpd B K es (seen.push e.born) (K2 ++ [⟨y.k, q, go, y.s, y.t⟩]) wb2 w6 := by
  have hno : ∀ x ∈ K2, x.k ≠ y.k := fun x hx hxk => by
    obtain ⟨e', he', hs', hk'⟩ := h.far x hx
    have hke : e'.key = e.key := by rw [hk', hk, hxk]
    obtain ⟨i, hi⟩ := List.getElem?_of_mem he'
    obtain ⟨j, hj⟩ := List.getElem?_of_mem he
    have := only hpw hi hj hke
    subst this
    rw [hi] at hj
    cases hj
    rw [hs'] at hns
    cases hns
  have keep : ∀ x : KW, WinE.IsWin w5 x.p x.go x.s → WinE.IsWin w6 x.p x.go x.s := fun x hx => hx.keep (wr_lets h6) (hwb x hx).1 (fun g hg e => (hwb x hx).2 (by rw [hg, e]))
  refine ⟨⟨_, _, hm, fun s v => ?_⟩, ?_, fun x hx => ?_, fun e' he' hs' => ?_, fun x hx => ?_⟩
  · by_cases e1 : s = y.k
    · subst e1
      rw [put_same]
      constructor
      · intro h0; cases h0; exact ⟨_, List.mem_append_right _ (List.mem_singleton.2 rfl), rfl, rfl⟩
      · rintro ⟨x, hx, hxk, rfl⟩
        rcases List.mem_append.1 hx with hx | hx
        · exact absurd hxk (hno x hx)
        · obtain rfl := List.mem_singleton.1 hx; rfl
    · rw [put_other (fun e2 => e1 (by injection e2)), hF s v]
      constructor
      · rintro ⟨x, hx, hxk⟩; exact ⟨x, List.mem_append_left _ hx, hxk⟩
      · rintro ⟨x, hx, hxk⟩
        rcases List.mem_append.1 hx with hx | hx
        · exact ⟨x, hx, hxk⟩
        · obtain rfl := List.mem_singleton.1 hx; exact absurd hxk.1.symm e1
  · rw [List.map_append, List.nodup_append]
    refine ⟨h.nd, by simp, fun a ha b hb => ?_⟩
    obtain ⟨x, hx, rfl⟩ := List.mem_map.1 ha
    simp at hb
    subst hb
    exact hno x hx
  · rcases List.mem_append.1 hx with hx | hx
    · obtain ⟨a1, a2, a3, a4⟩ := h.win x hx
      exact ⟨keep x (h5 x hx), a2, a3, a4⟩
    · obtain rfl := List.mem_singleton.1 hx
      exact ⟨keep ⟨y.k, q, go, y.s, y.t⟩ hw, hq, hgo, y, hy, rfl, rfl, rfl⟩
  · rcases push_has.1 hs' with hs' | hs'
    · obtain ⟨x, hx, hxk⟩ := h.got e' he' hs'
      exact ⟨x, List.mem_append_left _ hx, hxk⟩
    · obtain ⟨i, hi⟩ := List.getElem?_of_mem he'
      obtain ⟨j, hj⟩ := List.getElem?_of_mem he
      have hij : i = j := by
        have h1 : (es.toList.map (·.born))[i]? = some e'.born := by rw [List.getElem?_map, hi]; rfl
        have h2 : (es.toList.map (·.born))[j]? = some e'.born := by rw [List.getElem?_map, hj, hs']; rfl
        obtain ⟨hil, h1⟩ := List.getElem?_eq_some_iff.1 h1
        obtain ⟨hjl, h2⟩ := List.getElem?_eq_some_iff.1 h2
        exact (List.getElem_inj (h₀ := hil) (h₁ := hjl) hB.2).1 (h1.trans h2.symm)
      subst hij
      rw [hi] at hj
      cases hj
      exact ⟨_, List.mem_append_right _ (List.mem_singleton.2 rfl), hk⟩
  · rcases List.mem_append.1 hx with hx | hx
    · obtain ⟨e', he', hs', hk'⟩ := h.far x hx
      exact ⟨e', he', push_has.2 (.inl hs'), hk'⟩
    · obtain rfl := List.mem_singleton.1 hx
      exact ⟨e, he, push_has.2 (.inr rfl), hk⟩

/-- a window lies in cells -/
theorem win_cells {w : World} {p : Nat} {go : Option Nat} {s : Wn} (h : WinE.IsWin w p go s) : (∃ cs ty, w.heap[p]? = some (.cells cs ty)) ∧ ∀ g, go = some g → ∃ cs ty, w.heap[g]? = some (.cells cs ty) := by
  obtain ⟨-, v, hb, hh⟩ := h
  refine ⟨⟨_, _, hb⟩, fun g hg => ?_⟩
  rcases hh with ⟨e, _⟩ | ⟨g', cap, f, e, _, hbk, _⟩
  · rw [e] at hg; cases hg
  · rw [e] at hg; cases hg
    obtain ⟨cur, hgb, _⟩ := hbk
    exact ⟨_, _, hgb⟩
theorem win_far {w : World} {p b : Nat} {go : Option Nat} {s : Wn} (h : WinE.IsWin w p go s) {o : Obj} (hb : w.heap[b]? = some o) (ho : ∀ cs ty, o ≠ .cells cs ty) : p ≠ b ∧ go ≠ some b := by
  obtain ⟨⟨cs, ty, h1⟩, h2⟩ := win_cells h
  refine ⟨fun e => ?_, fun e => ?_⟩
  · rw [e, hb] at h1; exact ho cs ty (Option.some.inj h1)
  · obtain ⟨cs, ty, h3⟩ := h2 b e
    rw [hb] at h3; exact ho cs ty (Option.some.inj h3)

/-- the loop of the copy: the map that is gone through, its iterator, what was copied -/
structure Cpl (w4 : World) (B : Nat) (K : List KW) (es : Array MapEntry) (clock wb wb2 r : Nat) (seen : Array Nat) (wr : World) : Prop where
  it : ∃ c0, clock ≤ c0 ∧ wr.heap[r]? = some (.mapIter (some wb) clock seen c0)
  cp : ∃ K2, Cpd B K es seen K2 wb2 wr
  wrs : Wr (fun k => k = wb2 ∨ k = r) w4 wr

def mesW (es : Array MapEntry) (r : Nat) (wr : World) : Nat := match wr.heap[r]? with
  | some (.mapIter _ _ seen _) => (leftOf es seen).size
  | _ => 0

set_option maxRecDepth 20000 in
set_option maxHeartbeats 4000000 in
theorem HMem.efork (h : HMem w own C last L K Z) :
    Calls Tryz.prog 32 #[exV C] w fun e w' => ∃ (mb2 wb2 : Nat) (K2 : List KW), e = .returned (.agg #[.pointer (some ⟨mb2, 0, none⟩), .map (some wb2)]) ∧ w.heap.size ≤ wb2 ∧ (∃ F n, MapOf Tryz.prog 9 w' wb2 F n ∧ ∀ s v, F (.string s) = some v ↔ ∃ x ∈ K2, x.k = s ∧ v = ptr x.p) ∧ (K2.map KW.k).Nodup ∧
      (∀ x ∈ K2, WinE.IsWin w' x.p x.go x.s ∧ w.heap.size ≤ x.p ∧ (∀ g, x.go = some g → w.heap.size ≤ g) ∧ ∃ y ∈ K, y.k = x.k ∧ y.s = x.s ∧ y.t = x.t) ∧ (∀ y ∈ K, ∃ x ∈ K2, x.k = y.k) ∧ Below w.heap.size w w' := by
  obtain ⟨F0, n0, hmo, hF0⟩ := h.wins
  have hmo' := hmo
  obtain ⟨es, clock, hwb, hn0, hks, hpw, hiff, hBn⟩ := hmo'
  have hwbl := hmo.lt
  have HEs : Hid (∀ e ∈ es.toList, ∃ y ∈ K, e.key = .string y.k ∧ e.val = .pointer (some ⟨y.p, 0, none⟩)) := hid fun e he => by
    obtain ⟨l, hl⟩ := hks e he
    obtain ⟨s, hs, -⟩ := key_string hl
    have h1 := (hiff e.key e.val).2 ⟨e, he, rfl, rfl⟩
    rw [hs] at h1
    obtain ⟨y, hy, hyk, hyv⟩ := (hF0 s e.val).1 h1
    exact ⟨y, hy, by rw [hs, hyk], hyv⟩
  have HKy : Hid (∀ e ∈ es.toList, ∃ l, keyOf Tryz.prog 9 e.key = some l) := hid hks
  have HKs : Hid (∀ y ∈ K, ∃ e ∈ es.toList, e.key = .string y.k) := hid fun y hy => by
    obtain ⟨e, he, hk, -⟩ := (hiff _ _).1 ((hF0 y.k (ptr y.p)).2 ⟨y, hy, rfl, rfl⟩)
    exact ⟨e, he, hk⟩
  have hb2 : Below w.heap.size w (((w.alloc (exBox C)).alloc (.cells #[.pointer none, .map none] 62)).alloc (.map #[] 0)) := (by repeat (first | (with_reducible exact Below.refl _ _) | (with_reducible refine Below.setCell ?_ (by first | (simp; done) | (simp; omega) | omega) _) | (with_reducible refine Below.alloc ?_ (by first | (simp; done) | (simp; omega) | omega) _) | (with_reducible refine Below.drew ?_)))
  have hlen := fun ty => (hmo.of_block (w' := (w.alloc (exBox C)).alloc (.cells #[.pointer none, .map none] 62)) ((heap_alloc_old _ _ (by simp; omega)).trans (heap_alloc_old _ _ hwbl))).len Tryz.underlying60 ty
  have hmk := run_hintW n0 ((w.alloc (exBox C)).alloc (.cells #[.pointer none, .map none] 62))
  have hmm := MapOf.made (P := Tryz.prog) (k := 9) ((w.alloc (exBox C)).alloc (.cells #[.pointer none, .map none] 62))
  have hsz : ((w.alloc (exBox C)).alloc (.cells #[.pointer none, .map none] 62)).heap.size = w.heap.size + 2 := by simp
  rw [hsz] at hmk hmm
  have hwb3 := (hb2.block _ hwbl).trans hwb
  have hrg := run_range_map (P := Tryz.prog) (((w.alloc (exBox C)).alloc (.cells #[.pointer none, .map none] 62)).alloc (.map #[] 0)) 60 9 126 C.wb es clock Tryz.underlying60 hwb3
  have hlen0 := hlen 0
  have hlen3 := hlen 3
  have HH := hid h
  have HX := hid (And.intro hb2 (And.intro hmm (And.intro hwbl (And.intro hBn (And.intro hpw hwb3)))))
  clear h hmo hwb hn0 hks hpw hiff hBn hF0 hb2 hmm hsz hwb3 hlen
  go_enter Tryz.func32, Tryz.ntmps32
  go_wp2_with fail
  clear hlen0 hlen3 hmk hrg
  obtain ⟨hb2, hmm, -, hBn, hpw, hwb3⟩ := HX.out
  obtain ⟨w4, hw4⟩ : ∃ w4, ((((w.alloc (exBox C)).alloc (.cells #[.pointer none, .map none] 62)).alloc (.map #[] 0)).alloc (.mapIter (some C.wb) clock #[] clock)) = w4 := ⟨_, rfl⟩
  have hsz3 : (((w.alloc (exBox C)).alloc (.cells #[.pointer none, .map none] 62)).alloc (.map #[] 0)).heap.size = w.heap.size + 3 := by simp
  have hb34 : Below (w.heap.size + 3) (((w.alloc (exBox C)).alloc (.cells #[.pointer none, .map none] 62)).alloc (.map #[] 0)) w4 := by
    rw [← hw4, ← hsz3]; exact (Below.refl _ _).alloc (Nat.le_refl _) _
  have hit : w4.heap[w.heap.size + 3]? = some (.mapIter (some C.wb) clock #[] clock) := by rw [← hw4, ← hsz3]; exact heap_alloc_new _ _
  have hbx0 : (((w.alloc (exBox C)).alloc (.cells #[.pointer none, .map none] 62)).alloc (.map #[] 0)).heap[w.heap.size]? = some (exBox C) := ((heap_alloc_old _ _ (by simp; omega)).trans (heap_alloc_old _ _ (by simp))).trans (heap_alloc_new _ _)
  have hbx1 : (((w.alloc (exBox C)).alloc (.cells #[.pointer none, .map none] 62)).alloc (.map #[] 0)).heap[w.heap.size + 1]? = some (.cells #[.pointer none, .map none] 62) := (heap_alloc_old _ _ (by simp)).trans (by have := heap_alloc_new (w.alloc (exBox C)) (.cells #[.pointer none, .map none] 62); simpa using this)
  have H4 := hid (And.intro (show Below w.heap.size w w4 from hb2.trans (hb34.mono (by omega))) (And.intro ((hb34.block _ (by omega)).trans hwb3) (And.intro ((hb34.block _ (by omega)).trans hbx0) (And.intro ((hb34.block _ (by omega)).trans hbx1) (And.intro hBn hpw)))))
  have HC : Hid (Cpl w4 (w.heap.size + 4) K es clock C.wb (w.heap.size + 2) (w.heap.size + 3) #[] w4) := hid ⟨⟨_, Nat.le_refl _, hit⟩, ⟨[], ⟨⟨_, _, hmm.of_block (hb34.block _ (by omega)), fun s v => ⟨fun h => (by cases h), fun ⟨x, hx, _⟩ => (by cases hx)⟩⟩, List.nodup_nil, fun x hx => (by cases hx), fun e he hs => (by simp at hs), fun x hx => (by cases hx)⟩⟩, Wr.refl _ _⟩
  have hs4 : w4.heap.size = w.heap.size + 4 := by rw [← hw4]; simp
  have HS4 := hid hs4
  rw [hw4]
  clear hb2 hmm hBn hpw hwb3 hw4 hsz3 hb34 hit hbx0 hbx1 hs4 HX
  generalize hrr : w.heap.size + 1 + 1 + 1 = r at *
  have HRr := hid (show r = w.heap.size + 3 by omega)
  clear hrr
  go_loopw [13] (fun _ wr => ∃ seen, Cpl w4 (w.heap.size + 4) K es clock C.wb (w.heap.size + 2) r seen wr) (fun _ wr => mesW es r wr)
  case atStart => exact ⟨_, HC.out⟩
  case round =>
    obtain ⟨seen, hC⟩ := hrel
    obtain ⟨c0, hc0, hit⟩ := hC.it
    obtain ⟨hbw, hsrc, hx0, hx1, hBn, hpw⟩ := H4.out
    have hrr := HRr.out
    have hs4 := HS4.out
    have hsrcr := (hC.wrs.block C.wb (by omega) (by omega)).trans hsrc
    have hbwr : Below w.heap.size w wr := hbw.trans (hC.wrs.below w.heap.size hbw.size (fun k hk => by omega))
    rcases run_next_at (P := Tryz.prog) wr 0 r C.wb clock c0 seen es clock hit hsrcr hBn.1 hc0 with ⟨hz, hrun⟩ | ⟨e, he, w5, hw5, hrun⟩
    · have hy0 := (hC.wrs.block w.heap.size (by omega) (by omega)).trans hx0
      have hy1 := (hC.wrs.block (w.heap.size + 1) (by omega) (by omega)).trans hx1
      have c0 : wr.cell? ⟨w.heap.size, 0, none⟩ = some (.pointer (some ⟨C.S.mb, 0, none⟩)) := cell_of hy0 0 _ rfl
      have HF := hid (LruT.fork_any ((HH.out.below hbwr).lru))
      unfold ptr at HF
      obtain ⟨K2, hcp⟩ := hC.cp
      have hall : ∀ y ∈ K, ∃ x ∈ K2, x.k = y.k := fun y hy => by
        obtain ⟨e, he, hk⟩ := HKs.out y hy
        obtain ⟨x, hx, hk2⟩ := hcp.got e he (all_seen es seen hz e he)
        refine ⟨x, hx, ?_⟩
        rw [hk] at hk2
        injection hk2 with h
        exact h.symm
      have HE := hid (And.intro hcp (And.intro hall (And.intro hbwr hy1)))
      clear hC hit hz hsrc hx0 hx1 hBn hpw hrr hsrcr hc0 hy0 hy1 hcp hall hbw hbwr
      go_wp2_with fail
      refine HF.out.mono ?_
      rintro e w7 ⟨⟨S2, L2, rfl, -, -, -, -⟩, hb7⟩
      obtain ⟨hcp, hall, hbwr, hy1⟩ := HE.out
      have hy7 := (hb7.block _ (Array.getElem?_eq_some_iff.1 hy1).1).trans hy1
      have z0 : w7.cell? ⟨w.heap.size + 1, 0, none⟩ = some (.pointer none) := cell_of hy7 0 _ rfl
      have z1 : w7.cell? ⟨w.heap.size + 1, 1, none⟩ = some (.map none) := cell_of hy7 1 _ rfl
      have f0 : w7.frozen? ⟨w.heap.size + 1, 0, none⟩ = false := by simp [World.frozen?, hy7]
      have f1 : w7.frozen? ⟨w.heap.size + 1, 1, none⟩ = false := by simp [World.frozen?, hy7]
      have H7 := hid (And.intro hb7 hy7)
      clear hcp hall hbwr hy1 hy7 hb7 HF c0
      go_wp2_with fail
      obtain ⟨hb7, hy7⟩ := H7.out
      obtain ⟨hcp, hall, hbwr, hy1⟩ := HE.out
      obtain ⟨wx, hwx0⟩ : ∃ wx, (w7.setCell ⟨w.heap.size + 1, 0, none⟩ (.pointer (some ⟨S2.mb, 0, none⟩))).setCell ⟨w.heap.size + 1, 1, none⟩ (.map (some (w.heap.size + 2))) = wx := ⟨_, rfl⟩
      have hwx : Wr (fun k => k = w.heap.size + 1) w7 wx := by rw [← hwx0]; exact (Wr.set (R := fun k => k = w.heap.size + 1) _ _ rfl).trans (Wr.set (R := fun k => k = w.heap.size + 1) _ _ rfl)
      have hxx : wx.heap[w.heap.size + 1]? = some (.cells #[.pointer (some ⟨S2.mb, 0, none⟩), .map (some (w.heap.size + 2))] 62) := by
        rw [← hwx0]
        exact heap_setCell_same _ _ _ _ _ _ (heap_setCell_same _ _ _ _ _ _ hy7)
      rw [hwx0]
      have q0 : wx.cell? ⟨w.heap.size + 1, 0, none⟩ = some (.pointer (some ⟨S2.mb, 0, none⟩)) := cell_of hxx 0 _ rfl
      have q1 : wx.cell? ⟨w.heap.size + 1, 1, none⟩ = some (.map (some (w.heap.size + 2))) := cell_of hxx 1 _ rfl
      refine bodyPost_ret (v := .agg #[.pointer (some ⟨S2.mb, 0, none⟩), .map (some (w.heap.size + 2))]) (by simp [results, Tryz.results32, go_sem, q0, q1]) rfl ?_
      obtain ⟨F, n, hm, hF⟩ := hcp.map
      have hmlt := hm.lt
      refine ⟨S2.mb, w.heap.size + 2, K2, rfl, by omega, ⟨F, n, (hm.of_block (hb7.block _ hmlt)).of_block (hwx.block _ (Nat.lt_of_lt_of_le hmlt hb7.size) (by omega)), hF⟩, hcp.nd, fun x hx => ?_, hall, ?_⟩
      · obtain ⟨a1, a2, a3, a4⟩ := hcp.win x hx
        refine ⟨(a1.keep (R := fun _ => False) (WinE.Lets.ofBelow hb7) (fun e => e) (fun _ _ e => e)).keep (wr_lets hwx) (by omega) (fun g hg => by have := a3 g hg; omega), by omega, fun g hg => by have := a3 g hg; omega, a4⟩
      · exact (hbwr.trans (hb7.mono hbwr.size)).trans (hwx.below w.heap.size (Nat.le_trans hbwr.size hb7.size) (fun k e => by omega))
    · obtain ⟨hmem, hns⟩ := mem_left he
      obtain ⟨y, hy, hk, hv⟩ := HEs.out e hmem
      have hsh := left_shrinks es seen e he
      have hr1 : r < wr.heap.size := (Array.getElem?_eq_some_iff.1 hit).1
      have hs1 : w5.heap = wr.heap := by rcases hw5 with rfl | rfl <;> rfl
      have g0 : (setBlock w5 r (.mapIter (some C.wb) clock (seen.push e.born) clock)).heap[r]? = some (.mapIter (some C.wb) clock (seen.push e.born) clock) := heap_set_same (o := .mapIter (some C.wb) clock seen c0) (by rw [hs1]; exact hit)
      have g1 : ∀ k, k ≠ r → (setBlock w5 r (.mapIter (some C.wb) clock (seen.push e.born) clock)).heap[k]? = wr.heap[k]? := fun k hk => by
        show (w5.heap.setIfInBounds r _)[k]? = _
        rw [Array.getElem?_setIfInBounds_ne (fun e => hk e.symm), hs1]
      have hwr2 : Wr (fun k => k = w.heap.size + 2 ∨ k = r) w4 (setBlock w5 r (.mapIter (some C.wb) clock (seen.push e.born) clock)) := by
        have q1 : Wr (fun k => k = w.heap.size + 2 ∨ k = r) w4 w5 := by
          have := hC.wrs
          rcases hw5 with rfl | rfl
          · exact this
          · exact ⟨this.os, this.tape, this.output, this.size, this.block⟩
        exact q1.on (wr_set _) (fun k e => .inl (.inr e))
      have hwl : ∀ k, k ≠ r → Wr (fun k => k = r) wr (setBlock w5 r (.mapIter (some C.wb) clock (seen.push e.born) clock)) := fun _ _ => ⟨by rcases hw5 with rfl | rfl <;> rfl, by rcases hw5 with rfl | rfl <;> rfl, by rcases hw5 with rfl | rfl <;> rfl, by simp [setBlock, hs1], fun k hk hn => g1 k hn⟩
      generalize hW2 : setBlock w5 r (.mapIter (some C.wb) clock (seen.push e.born) clock) = W2 at *
      have hen := run_entry_at (P := Tryz.prog) W2 r C.wb clock seen es clock e g0 ((g1 C.wb (by omega)).trans hsrcr) hmem hBn.2
      rw [hk, hv] at hen hrun
      obtain ⟨K2, hcp⟩ := hC.cp
      obtain ⟨F, n, hm, hF⟩ := hcp.map
      have hbW2 : Below w.heap.size w W2 := hbw.trans (hwr2.below w.heap.size hbw.size (fun k hk => by omega))
      obtain ⟨y1, y2, y3, y4, y5, y6⟩ := HH.out.wok y hy
      have hlen := y4.len (by rw [y2, y3]) HH.out.q0
      have HFk := hid (wfork_any W2 y.p y.go y.s (y1.keep (R := fun _ => False) (WinE.Lets.ofBelow hbW2) (fun e => e) (fun _ _ e => e)) (by omega))
      have hsize : wr.heap.size ≤ W2.heap.size := (hwl 0 (by omega)).size
      have hyk : y.k.size ≤ maxLen := by
        obtain ⟨l, hl⟩ := HKy.out e hmem
        rw [hk] at hl
        obtain ⟨s, hs, hs2⟩ := key_string hl
        injection hs with hs
        rw [hs]; exact hs2
      have hmlt := hm.lt
      have HI := hid (And.intro hcp (And.intro hm (And.intro hF (And.intro hwr2 (And.intro g0 (And.intro g1 (And.intro hsh (And.intro hit (And.intro hmem (And.intro hns (And.intro hk (And.intro hy (And.intro hsize (And.intro hyk hmlt))))))))))))))
      have HBw := hid (And.intro hbW2 (hwl 0 (by omega)))
      clear hC hit hsrc hx0 hx1 hBn hpw hsrcr hc0 hw5 hs1 hwl hW2 hrr hs4 y1 y2 y3 y4 y5 y6 hlen hbW2 hcp hm hF hwr2 g0 g1 hsh hns hk hsize hyk hbw hbwr hv hmem hr1 hmlt he
      go_wp2_with fail
      refine HFk.out.mono ?_
      rintro e6 w6 ⟨⟨q, go', rfl, hq, hw6, hgo'⟩, hb6⟩
      obtain ⟨hcp, hm, hF, hwr2, g0, g1, hsh, hit, hmem, hns, hk, hy, hsize, hyk, hmlt⟩ := HI.out
      obtain ⟨hbW2, hwl⟩ := HBw.out
      obtain ⟨hbw, hsrc, hx0, hx1, hBn, hpw⟩ := H4.out
      have hrr := HRr.out
      have hs4 := HS4.out
      have hr2 : r < W2.heap.size := (Array.getElem?_eq_some_iff.1 g0).1
      have hm6 := (hm.of_block (g1 _ (by omega))).of_block (hb6.block _ (by omega))
      have hr6 := (hb6.block r hr2).trans g0
      obtain ⟨es6, ck6, hmb6, -⟩ := hm6
      have hm6 := (hm.of_block (g1 _ (by omega))).of_block (hb6.block _ (by omega))
      obtain ⟨w8, hst, hm8, hw8⟩ := hm6.store (val := ptr q) keyedS Tryz.underlying60 (Go.WideMaps.keyOf_string_mk Tryz.underlying9 hyk)
      have hB : w.heap.size + 4 ≤ W2.heap.size := by have := hwr2.size; omega
      have hcp8 := Cpd.step hcp hBn hpw hmem hns hy hk (q := q) (go := go') (by omega) (fun g hg => by have := hgo' g hg; omega) hw6 (fun x hx => by
        have h1 := (hcp.win x hx).1
        obtain ⟨f1, f2⟩ := win_far h1 hit (fun _ _ h => by cases h)
        have h2 := h1.keep (wr_lets hwl) f1 (fun g hg e => f2 (by rw [hg, e]))
        exact h2.keep (R := fun _ => False) (WinE.Lets.ofBelow hb6) (fun e => e) (fun _ _ e => e)) (fun x hx => win_far hx hmb6 (fun _ _ h => by cases h)) hF hm8 hw8
      have i8 : w8.heap[r]? = some (.mapIter (some C.wb) clock (seen.push e.born) clock) := (hw8.block r (by have := hb6.size; omega) (by omega)).trans hr6
      have HC8 : Hid (Cpl w4 (w.heap.size + 4) K es clock C.wb (w.heap.size + 2) r (seen.push e.born) w8) := hid ⟨⟨_, Nat.le_refl _, i8⟩, ⟨_, hcp8⟩, (hwr2.on (Wr.ofBelow (R := fun _ => False) hb6) (fun _ e => e.elim)).on hw8 (fun k e => .inl (.inl e))⟩
      have HM : Hid (mesW es r w8 < mesW es r wr) := hid (by unfold mesW; rw [i8, hit]; exact hsh)
      unfold ptr at hst
      clear hcp hm hF hwr2 g0 g1 hsh hit hmem hns hk hy hsize hyk hmlt hbW2 hwl hbw hsrc hx0 hx1 hBn hpw hrr hs4 hr2 hm6 hr6 hmb6 hm8 hw8 hB hcp8 i8 hq hw6 hgo' hb6 hrun hen
      go_wp2_with fail
      go_roundw
      case rel => exact ⟨_, HC8.out⟩
      case measure => exact HM.out

end Go.Proofs.YtbihelpnojjacaaGreat.HotV

namespace Go.Proofs.YtbihelpnojjacaaGreat.RtH
open Go.ChangeShapes Go.WideShapes Go.ChangeAt Go.RowKit Go.Deep Base Wri Map LruA LruB LruC LruD LruE LruF HotA HotB HotC HotD HotE HotF HotG HotH HotI HotJ HotK HotL HotM HotN HotO HotR WinO
open Go.Maps (Keyed string_keyed)
open Go.ChangeMaps (setBlock modify_eq_set)
set_option linter.unusedVariables false
open HotV
variable {w w' : World} {own : Nat → Tg} {C : HC} {last : Nat} {L L' : List Ent} {K K' : List KW} {Z Z' : SK}
set_option maxRecDepth 20000 in
set_option maxHeartbeats 4000000 in
theorem efork2 (h : HMem w own C last L K Z) :
    Calls Tryz.prog 32 #[exV C] w fun e w' => ∃ (mb2 wb2 : Nat), e = .returned (.agg #[.pointer (some ⟨mb2, 0, none⟩), .map (some wb2)]) ∧ (∃ S2 L2, mb2 = Spot.mb S2 ∧ IsLru w' S2 L2 ∧ LruR.kvs L2 = LruR.kvs L ∧ ∀ k, Has S2 L2 k → w.heap.size ≤ k) ∧ Below w.heap.size w w' := by
  obtain ⟨F0, n0, hmo, hF0⟩ := h.wins
  have hmo' := hmo
  obtain ⟨es, clock, hwb, hn0, hks, hpw, hiff, hBn⟩ := hmo'
  have hwbl := hmo.lt
  have HEs : Hid (∀ e ∈ es.toList, ∃ y ∈ K, e.key = .string y.k ∧ e.val = .pointer (some ⟨y.p, 0, none⟩)) := hid fun e he => by
    obtain ⟨l, hl⟩ := hks e he
    obtain ⟨s, hs, -⟩ := key_string hl
    have h1 := (hiff e.key e.val).2 ⟨e, he, rfl, rfl⟩
    rw [hs] at h1
    obtain ⟨y, hy, hyk, hyv⟩ := (hF0 s e.val).1 h1
    exact ⟨y, hy, by rw [hs, hyk], hyv⟩
  have HKy : Hid (∀ e ∈ es.toList, ∃ l, keyOf Tryz.prog 9 e.key = some l) := hid hks
  have HKs : Hid (∀ y ∈ K, ∃ e ∈ es.toList, e.key = .string y.k) := hid fun y hy => by
    obtain ⟨e, he, hk, -⟩ := (hiff _ _).1 ((hF0 y.k (ptr y.p)).2 ⟨y, hy, rfl, rfl⟩)
    exact ⟨e, he, hk⟩
  have hb2 : Below w.heap.size w (((w.alloc (exBox C)).alloc (.cells #[.pointer none, .map none] 62)).alloc (.map #[] 0)) := (by repeat (first | (with_reducible exact Below.refl _ _) | (with_reducible refine Below.setCell ?_ (by first | (simp; done) | (simp; omega) | omega) _) | (with_reducible refine Below.alloc ?_ (by first | (simp; done) | (simp; omega) | omega) _) | (with_reducible refine Below.drew ?_)))
  have hlen := fun ty => (hmo.of_block (w' := (w.alloc (exBox C)).alloc (.cells #[.pointer none, .map none] 62)) ((heap_alloc_old _ _ (by simp; omega)).trans (heap_alloc_old _ _ hwbl))).len Tryz.underlying60 ty
  have hmk := run_hintW n0 ((w.alloc (exBox C)).alloc (.cells #[.pointer none, .map none] 62))
  have hmm := MapOf.made (P := Tryz.prog) (k := 9) ((w.alloc (exBox C)).alloc (.cells #[.pointer none, .map none] 62))
  have hsz : ((w.alloc (exBox C)).alloc (.cells #[.pointer none, .map none] 62)).heap.size = w.heap.size + 2 := by simp
  rw [hsz] at hmk hmm
  have hwb3 := (hb2.block _ hwbl).trans hwb
  have hrg := run_range_map (P := Tryz.prog) (((w.alloc (exBox C)).alloc (.cells #[.pointer none, .map none] 62)).alloc (.map #[] 0)) 60 9 126 C.wb es clock Tryz.underlying60 hwb3
  have hlen0 := hlen 0
  have hlen3 := hlen 3
  have HH := hid h
  have HX := hid (And.intro hb2 (And.intro hmm (And.intro hwbl (And.intro hBn (And.intro hpw hwb3)))))
  clear h hmo hwb hn0 hks hpw hiff hBn hF0 hb2 hmm hsz hwb3 hlen
  go_enter Tryz.func32, Tryz.ntmps32
  go_wp2_with fail
  clear hlen0 hlen3 hmk hrg
  obtain ⟨hb2, hmm, -, hBn, hpw, hwb3⟩ := HX.out
  obtain ⟨w4, hw4⟩ : ∃ w4, ((((w.alloc (exBox C)).alloc (.cells #[.pointer none, .map none] 62)).alloc (.map #[] 0)).alloc (.mapIter (some C.wb) clock #[] clock)) = w4 := ⟨_, rfl⟩
  have hsz3 : (((w.alloc (exBox C)).alloc (.cells #[.pointer none, .map none] 62)).alloc (.map #[] 0)).heap.size = w.heap.size + 3 := by simp
  have hb34 : Below (w.heap.size + 3) (((w.alloc (exBox C)).alloc (.cells #[.pointer none, .map none] 62)).alloc (.map #[] 0)) w4 := by
    rw [← hw4, ← hsz3]; exact (Below.refl _ _).alloc (Nat.le_refl _) _
  have hit : w4.heap[w.heap.size + 3]? = some (.mapIter (some C.wb) clock #[] clock) := by rw [← hw4, ← hsz3]; exact heap_alloc_new _ _
  have hbx0 : (((w.alloc (exBox C)).alloc (.cells #[.pointer none, .map none] 62)).alloc (.map #[] 0)).heap[w.heap.size]? = some (exBox C) := ((heap_alloc_old _ _ (by simp; omega)).trans (heap_alloc_old _ _ (by simp))).trans (heap_alloc_new _ _)
  have hbx1 : (((w.alloc (exBox C)).alloc (.cells #[.pointer none, .map none] 62)).alloc (.map #[] 0)).heap[w.heap.size + 1]? = some (.cells #[.pointer none, .map none] 62) := (heap_alloc_old _ _ (by simp)).trans (by have := heap_alloc_new (w.alloc (exBox C)) (.cells #[.pointer none, .map none] 62); simpa using this)
  have H4 := hid (And.intro (show Below w.heap.size w w4 from hb2.trans (hb34.mono (by omega))) (And.intro ((hb34.block _ (by omega)).trans hwb3) (And.intro ((hb34.block _ (by omega)).trans hbx0) (And.intro ((hb34.block _ (by omega)).trans hbx1) (And.intro hBn hpw)))))
  have HC : Hid (Cpl w4 (w.heap.size + 4) K es clock C.wb (w.heap.size + 2) (w.heap.size + 3) #[] w4) := hid ⟨⟨_, Nat.le_refl _, hit⟩, ⟨[], ⟨⟨_, _, hmm.of_block (hb34.block _ (by omega)), fun s v => ⟨fun h => (by cases h), fun ⟨x, hx, _⟩ => (by cases hx)⟩⟩, List.nodup_nil, fun x hx => (by cases hx), fun e he hs => (by simp at hs), fun x hx => (by cases hx)⟩⟩, Wr.refl _ _⟩
  have hs4 : w4.heap.size = w.heap.size + 4 := by rw [← hw4]; simp
  have HS4 := hid hs4
  rw [hw4]
  clear hb2 hmm hBn hpw hwb3 hw4 hsz3 hb34 hit hbx0 hbx1 hs4 HX
  generalize hrr : w.heap.size + 1 + 1 + 1 = r at *
  have HRr := hid (show r = w.heap.size + 3 by omega)
  clear hrr
  go_loopw [13] (fun _ wr => ∃ seen, Cpl w4 (w.heap.size + 4) K es clock C.wb (w.heap.size + 2) r seen wr) (fun _ wr => mesW es r wr)
  case atStart => exact ⟨_, HC.out⟩
  case round =>
    obtain ⟨seen, hC⟩ := hrel
    obtain ⟨c0, hc0, hit⟩ := hC.it
    obtain ⟨hbw, hsrc, hx0, hx1, hBn, hpw⟩ := H4.out
    have hrr := HRr.out
    have hs4 := HS4.out
    have hsrcr := (hC.wrs.block C.wb (by omega) (by omega)).trans hsrc
    have hbwr : Below w.heap.size w wr := hbw.trans (hC.wrs.below w.heap.size hbw.size (fun k hk => by omega))
    rcases run_next_at (P := Tryz.prog) wr 0 r C.wb clock c0 seen es clock hit hsrcr hBn.1 hc0 with ⟨hz, hrun⟩ | ⟨e, he, w5, hw5, hrun⟩
    · have hy0 := (hC.wrs.block w.heap.size (by omega) (by omega)).trans hx0
      have hy1 := (hC.wrs.block (w.heap.size + 1) (by omega) (by omega)).trans hx1
      have c0 : wr.cell? ⟨w.heap.size, 0, none⟩ = some (.pointer (some ⟨C.S.mb, 0, none⟩)) := cell_of hy0 0 _ rfl
      have HF := hid (LruT.fork_any ((HH.out.below hbwr).lru))
      unfold ptr at HF
      obtain ⟨K2, hcp⟩ := hC.cp
      have hall : ∀ y ∈ K, ∃ x ∈ K2, x.k = y.k := fun y hy => by
        obtain ⟨e, he, hk⟩ := HKs.out y hy
        obtain ⟨x, hx, hk2⟩ := hcp.got e he (all_seen es seen hz e he)
        refine ⟨x, hx, ?_⟩
        rw [hk] at hk2
        injection hk2 with h
        exact h.symm
      have hszr : w.heap.size + 4 ≤ wr.heap.size := by have := hC.wrs.size; omega
      have HE := hid (And.intro hcp (And.intro hall (And.intro hbwr hy1)))
      clear hC hit hz hsrc hx0 hx1 hBn hpw hrr hsrcr hc0 hy0 hy1 hcp hall hbw hbwr
      go_wp2_with fail
      refine HF.out.mono ?_
      rintro e w7 ⟨⟨S2, L2, rfl, -, hlr, hkv, hhas⟩, hb7⟩
      have HLR := hid (And.intro hlr (And.intro hkv hhas))
      clear hlr hkv hhas
      obtain ⟨hcp, hall, hbwr, hy1⟩ := HE.out
      have hy7 := (hb7.block _ (Array.getElem?_eq_some_iff.1 hy1).1).trans hy1
      have z0 : w7.cell? ⟨w.heap.size + 1, 0, none⟩ = some (.pointer none) := cell_of hy7 0 _ rfl
      have z1 : w7.cell? ⟨w.heap.size + 1, 1, none⟩ = some (.map none) := cell_of hy7 1 _ rfl
      have f0 : w7.frozen? ⟨w.heap.size + 1, 0, none⟩ = false := by simp [World.frozen?, hy7]
      have f1 : w7.frozen? ⟨w.heap.size + 1, 1, none⟩ = false := by simp [World.frozen?, hy7]
      have H7 := hid (And.intro hb7 hy7)
      clear hcp hall hbwr hy1 hy7 hb7 HF c0
      go_wp2_with fail
      obtain ⟨hb7, hy7⟩ := H7.out
      obtain ⟨hcp, hall, hbwr, hy1⟩ := HE.out
      obtain ⟨wx, hwx0⟩ : ∃ wx, (w7.setCell ⟨w.heap.size + 1, 0, none⟩ (.pointer (some ⟨S2.mb, 0, none⟩))).setCell ⟨w.heap.size + 1, 1, none⟩ (.map (some (w.heap.size + 2))) = wx := ⟨_, rfl⟩
      have hwx : Wr (fun k => k = w.heap.size + 1) w7 wx := by rw [← hwx0]; exact (Wr.set (R := fun k => k = w.heap.size + 1) _ _ rfl).trans (Wr.set (R := fun k => k = w.heap.size + 1) _ _ rfl)
      have hxx : wx.heap[w.heap.size + 1]? = some (.cells #[.pointer (some ⟨S2.mb, 0, none⟩), .map (some (w.heap.size + 2))] 62) := by
        rw [← hwx0]
        exact heap_setCell_same _ _ _ _ _ _ (heap_setCell_same _ _ _ _ _ _ hy7)
      rw [hwx0]
      have q0 : wx.cell? ⟨w.heap.size + 1, 0, none⟩ = some (.pointer (some ⟨S2.mb, 0, none⟩)) := cell_of hxx 0 _ rfl
      have q1 : wx.cell? ⟨w.heap.size + 1, 1, none⟩ = some (.map (some (w.heap.size + 2))) := cell_of hxx 1 _ rfl
      refine bodyPost_ret (v := .agg #[.pointer (some ⟨S2.mb, 0, none⟩), .map (some (w.heap.size + 2))]) (by simp [results, Tryz.results32, go_sem, q0, q1]) rfl ?_
      obtain ⟨F, n, hm, hF⟩ := hcp.map
      have hmlt := hm.lt
      exact ⟨S2.mb, w.heap.size + 2, rfl, ⟨S2, L2, rfl, HLR.out.1.wr hwx (fun k hk e => by have := HLR.out.2.2 k hk; omega), HLR.out.2.1, fun k hk => by have := HLR.out.2.2 k hk; omega⟩, (hbwr.trans (hb7.mono hbwr.size)).trans (hwx.below w.heap.size (Nat.le_trans hbwr.size hb7.size) (fun k e => by omega))⟩
    · obtain ⟨hmem, hns⟩ := mem_left he
      obtain ⟨y, hy, hk, hv⟩ := HEs.out e hmem
      have hsh := left_shrinks es seen e he
      have hr1 : r < wr.heap.size := (Array.getElem?_eq_some_iff.1 hit).1
      have hs1 : w5.heap = wr.heap := by rcases hw5 with rfl | rfl <;> rfl
      have g0 : (setBlock w5 r (.mapIter (some C.wb) clock (seen.push e.born) clock)).heap[r]? = some (.mapIter (some C.wb) clock (seen.push e.born) clock) := heap_set_same (o := .mapIter (some C.wb) clock seen c0) (by rw [hs1]; exact hit)
      have g1 : ∀ k, k ≠ r → (setBlock w5 r (.mapIter (some C.wb) clock (seen.push e.born) clock)).heap[k]? = wr.heap[k]? := fun k hk => by
        show (w5.heap.setIfInBounds r _)[k]? = _
        rw [Array.getElem?_setIfInBounds_ne (fun e => hk e.symm), hs1]
      have hwr2 : Wr (fun k => k = w.heap.size + 2 ∨ k = r) w4 (setBlock w5 r (.mapIter (some C.wb) clock (seen.push e.born) clock)) := by
        have q1 : Wr (fun k => k = w.heap.size + 2 ∨ k = r) w4 w5 := by
          have := hC.wrs
          rcases hw5 with rfl | rfl
          · exact this
          · exact ⟨this.os, this.tape, this.output, this.size, this.block⟩
        exact q1.on (wr_set _) (fun k e => .inl (.inr e))
      have hwl : ∀ k, k ≠ r → Wr (fun k => k = r) wr (setBlock w5 r (.mapIter (some C.wb) clock (seen.push e.born) clock)) := fun _ _ => ⟨by rcases hw5 with rfl | rfl <;> rfl, by rcases hw5 with rfl | rfl <;> rfl, by rcases hw5 with rfl | rfl <;> rfl, by simp [setBlock, hs1], fun k hk hn => g1 k hn⟩
      generalize hW2 : setBlock w5 r (.mapIter (some C.wb) clock (seen.push e.born) clock) = W2 at *
      have hen := run_entry_at (P := Tryz.prog) W2 r C.wb clock seen es clock e g0 ((g1 C.wb (by omega)).trans hsrcr) hmem hBn.2
      rw [hk, hv] at hen hrun
      obtain ⟨K2, hcp⟩ := hC.cp
      obtain ⟨F, n, hm, hF⟩ := hcp.map
      have hbW2 : Below w.heap.size w W2 := hbw.trans (hwr2.below w.heap.size hbw.size (fun k hk => by omega))
      obtain ⟨y1, y2, y3, y4, y5, y6⟩ := HH.out.wok y hy
      have hlen := y4.len (by rw [y2, y3]) HH.out.q0
      have HFk := hid (wfork_any W2 y.p y.go y.s (y1.keep (R := fun _ => False) (WinE.Lets.ofBelow hbW2) (fun e => e) (fun _ _ e => e)) (by omega))
      have hsize : wr.heap.size ≤ W2.heap.size := (hwl 0 (by omega)).size
      have hyk : y.k.size ≤ maxLen := by
        obtain ⟨l, hl⟩ := HKy.out e hmem
        rw [hk] at hl
        obtain ⟨s, hs, hs2⟩ := key_string hl
        injection hs with hs
        rw [hs]; exact hs2
      have hmlt := hm.lt
      have HI := hid (And.intro hcp (And.intro hm (And.intro hF (And.intro hwr2 (And.intro g0 (And.intro g1 (And.intro hsh (And.intro hit (And.intro hmem (And.intro hns (And.intro hk (And.intro hy (And.intro hsize (And.intro hyk hmlt))))))))))))))
      have HBw := hid (And.intro hbW2 (hwl 0 (by omega)))
      clear hC hit hsrc hx0 hx1 hBn hpw hsrcr hc0 hw5 hs1 hwl hW2 hrr hs4 y1 y2 y3 y4 y5 y6 hlen hbW2 hcp hm hF hwr2 g0 g1 hsh hns hk hsize hyk hbw hbwr hv hmem hr1 hmlt he
      go_wp2_with fail
      refine HFk.out.mono ?_
      rintro e6 w6 ⟨⟨q, go', rfl, hq, hw6, hgo'⟩, hb6⟩
      obtain ⟨hcp, hm, hF, hwr2, g0, g1, hsh, hit, hmem, hns, hk, hy, hsize, hyk, hmlt⟩ := HI.out
      obtain ⟨hbW2, hwl⟩ := HBw.out
      obtain ⟨hbw, hsrc, hx0, hx1, hBn, hpw⟩ := H4.out
      have hrr := HRr.out
      have hs4 := HS4.out
      have hr2 : r < W2.heap.size := (Array.getElem?_eq_some_iff.1 g0).1
      have hm6 := (hm.of_block (g1 _ (by omega))).of_block (hb6.block _ (by omega))
      have hr6 := (hb6.block r hr2).trans g0
      obtain ⟨es6, ck6, hmb6, -⟩ := hm6
      have hm6 := (hm.of_block (g1 _ (by omega))).of_block (hb6.block _ (by omega))
      obtain ⟨w8, hst, hm8, hw8⟩ := hm6.store (val := ptr q) keyedS Tryz.underlying60 (Go.WideMaps.keyOf_string_mk Tryz.underlying9 hyk)
      have hB : w.heap.size + 4 ≤ W2.heap.size := by have := hwr2.size; omega
      have hcp8 := Cpd.step hcp hBn hpw hmem hns hy hk (q := q) (go := go') (by omega) (fun g hg => by have := hgo' g hg; omega) hw6 (fun x hx => by
        have h1 := (hcp.win x hx).1
        obtain ⟨f1, f2⟩ := win_far h1 hit (fun _ _ h => by cases h)
        have h2 := h1.keep (wr_lets hwl) f1 (fun g hg e => f2 (by rw [hg, e]))
        exact h2.keep (R := fun _ => False) (WinE.Lets.ofBelow hb6) (fun e => e) (fun _ _ e => e)) (fun x hx => win_far hx hmb6 (fun _ _ h => by cases h)) hF hm8 hw8
      have i8 : w8.heap[r]? = some (.mapIter (some C.wb) clock (seen.push e.born) clock) := (hw8.block r (by have := hb6.size; omega) (by omega)).trans hr6
      have HC8 : Hid (Cpl w4 (w.heap.size + 4) K es clock C.wb (w.heap.size + 2) r (seen.push e.born) w8) := hid ⟨⟨_, Nat.le_refl _, i8⟩, ⟨_, hcp8⟩, (hwr2.on (Wr.ofBelow (R := fun _ => False) hb6) (fun _ e => e.elim)).on hw8 (fun k e => .inl (.inl e))⟩
      have HM : Hid (mesW es r w8 < mesW es r wr) := hid (by unfold mesW; rw [i8, hit]; exact hsh)
      unfold ptr at hst
      clear hcp hm hF hwr2 g0 g1 hsh hit hmem hns hk hy hsize hyk hmlt hbW2 hwl hbw hsrc hx0 hx1 hBn hpw hrr hs4 hr2 hm6 hr6 hmb6 hm8 hw8 hB hcp8 i8 hq hw6 hgo' hb6 hrun hen
      go_wp2_with fail
      go_roundw
      case rel => exact ⟨_, HC8.out⟩
      case measure => exact HM.out


/-- what is kept of a copy -/
structure FK (w : World) (B q : Nat) (C : HC) (ks : List ByteArray) : Prop where
  ex : ∃ (wb2 sp2 last : Nat) (S2 : Spot) (L2 : List Ent), w.heap[q]? = some (.cells #[.int .i64 C.cnt, .int .i64 ((10 * C.q : Nat) : Int), .map (some C.itb), .pointer (some ⟨S2.mb, 0, none⟩), .map (some wb2), .pointer (some ⟨sp2, 0, none⟩), .int .i64 last] 72) ∧ IsLru w S2 L2 ∧ L2.map Ent.k = ks ∧ (∀ k, Has S2 L2 k → B ≤ k)
  b : B ≤ q
theorem FK.lt {B q : Nat} {ks : List ByteArray} (h : FK w B q C ks) : q < w.heap.size := by
  obtain ⟨a, b, c, d, e, h1, -⟩ := h.ex
  exact (Array.getElem?_eq_some_iff.1 h1).1
theorem FK.wr {B q : Nat} {ks : List ByteArray} {R : Nat → Prop} (h : FK w B q C ks) (hw : Wr R w w') (hR : ∀ k, B ≤ k → k < w.heap.size → ¬ R k) : FK w' B q C ks := by
  obtain ⟨a, b, c, d, e, h1, h2, h3, h4⟩ := h.ex
  have hq := (Array.getElem?_eq_some_iff.1 h1).1
  exact ⟨⟨a, b, c, d, e, (hw.block q hq (hR q h.b hq)).trans h1, h2.wr hw (fun k hk => hR k (h4 k hk) (h2.rest.lt k hk)), h3, h4⟩, h.b⟩

theorem keys_kvs {L L2 : List Ent} (h : LruR.kvs L2 = LruR.kvs L) : L2.map Ent.k = L.map Ent.k := by
  have := congrArg (List.map Prod.fst) h
  unfold LruR.kvs at this
  rw [List.map_map, List.map_map] at this
  exact this

set_option maxRecDepth 20000 in
set_option maxHeartbeats 4000000 in
theorem fork2 (h : HMem w own C last L K Z) :
    Calls Tryz.prog 12 #[.pointer (some ⟨C.h, 0, none⟩)] w fun e w' => ∃ q, e = .returned (.pointer (some ⟨q, 0, none⟩)) ∧ FK w' w.heap.size q C (L.map Ent.k) ∧ Below w.heap.size w w' := by
  have hbd : Below w.heap.size w w.drew := (Below.refl _ _).drew
  have HE : Hid (Calls Tryz.prog 32 #[exV C] w.drew fun e w' => ∃ (mb2 wb2 : Nat), e = .returned (.agg #[.pointer (some ⟨mb2, 0, none⟩), .map (some wb2)]) ∧ (w'.cell? ⟨C.h, 0, none⟩ = some (.int .i64 C.cnt) ∧ w'.cell? ⟨C.h, 1, none⟩ = some (.int .i64 ((10 * C.q : Nat) : Int)) ∧ w'.cell? ⟨C.h, 2, none⟩ = some (.map (some C.itb)) ∧ w'.cell? ⟨C.h, 3, none⟩ = some (.pointer (some ⟨C.S.mb, 0, none⟩)) ∧ w'.cell? ⟨C.h, 4, none⟩ = some (.map (some C.wb)) ∧ w'.cell? ⟨C.h, 5, none⟩ = some (.pointer (some ⟨C.sp, 0, none⟩)) ∧ w'.cell? ⟨C.h, 6, none⟩ = some (.int .i64 last)) ∧
      Hid (Calls Tryz.prog 33 #[.pointer (some ⟨C.sp, 0, none⟩)] w' fun e w'' => ∃ sp2, e = .returned (.pointer (some ⟨sp2, 0, none⟩)) ∧ (w''.cell? ⟨C.h, 0, none⟩ = some (.int .i64 C.cnt) ∧ w''.cell? ⟨C.h, 1, none⟩ = some (.int .i64 ((10 * C.q : Nat) : Int)) ∧ w''.cell? ⟨C.h, 2, none⟩ = some (.map (some C.itb)) ∧ w''.cell? ⟨C.h, 3, none⟩ = some (.pointer (some ⟨C.S.mb, 0, none⟩)) ∧ w''.cell? ⟨C.h, 4, none⟩ = some (.map (some C.wb)) ∧ w''.cell? ⟨C.h, 5, none⟩ = some (.pointer (some ⟨C.sp, 0, none⟩)) ∧ w''.cell? ⟨C.h, 6, none⟩ = some (.int .i64 last)) ∧ Hid (FK (w''.alloc (.cells #[.int .i64 C.cnt, .int .i64 ((10 * C.q : Nat) : Int), .map (some C.itb), .pointer (some ⟨mb2, 0, none⟩), .map (some wb2), .pointer (some ⟨sp2, 0, none⟩), .int .i64 last] 72)) w.heap.size w''.heap.size C (L.map Ent.k) ∧ Below w.heap.size w (w''.alloc (.cells #[.int .i64 C.cnt, .int .i64 ((10 * C.q : Nat) : Int), .map (some C.itb), .pointer (some ⟨mb2, 0, none⟩), .map (some wb2), .pointer (some ⟨sp2, 0, none⟩), .int .i64 last] 72))))) := hid ((efork2 (h.below hbd)).mono fun e w1 h1 => by
    obtain ⟨mb2, wb2, rfl, ⟨S2, L2, rfl, hlr, hkv, hhas⟩, a6⟩ := h1
    have hb1 : Below w.heap.size w w1 := hbd.trans (a6.mono (Nat.le_refl _))
    have hM1 := h.below hb1
    have hsk : Calls Tryz.prog 33 #[.pointer (some ⟨C.sp, 0, none⟩)] w1 (SruE.ForkPost w1 (hX C) C.q Z.t Z.ns Z.qs) := by
      have h2 := hM1.sk
      cases hgo : Z.go with
      | none => rw [hgo] at h2; exact SruE.fork_none h2
      | some g => rw [hgo] at h2; exact SruE.fork_some g h2
    refine ⟨S2.mb, wb2, rfl, HMem.cells hM1, hid (hsk.mono fun e w2 h2 => ?_)⟩
    obtain ⟨sp2, go2, mpf2, rfl, -, -, hb2⟩ := h2
    have hb2' := bl hb1 hb2
    have hbz : Below w2.heap.size w2 (w2.alloc (.cells #[.int .i64 C.cnt, .int .i64 ((10 * C.q : Nat) : Int), .map (some C.itb), .pointer (some ⟨S2.mb, 0, none⟩), .map (some wb2), .pointer (some ⟨sp2, 0, none⟩), .int .i64 last] 72)) := (Below.refl _ _).alloc (Nat.le_refl _) _
    refine ⟨sp2, rfl, HMem.cells (h.below hb2'), hid ⟨⟨⟨wb2, sp2, last, S2, L2, heap_alloc_new _ _, ?_, keys_kvs hkv, fun k hk => hhas k hk⟩, hb2'.size⟩, bl hb2' hbz⟩⟩
    exact (hlr.wr (Q := fun _ => False) (Wr.ofBelow hb2) (fun _ _ e => e)).wr (Q := fun _ => False) (Wr.ofBelow hbz) (fun _ _ e => e))
  obtain ⟨c0, c1, c2, c3, c4, c5, c6⟩ := HMem.cells h
  have hhl := h.hlt
  clear hbd h
  go_enter Tryz.func12, Tryz.ntmps12
  go_upto_region 3 with fail
  go_region_held3 (fun w' => w'.cell? ⟨C.h, 0, none⟩ = some (.int .i64 C.cnt) ∧ w'.cell? ⟨C.h, 1, none⟩ = some (.int .i64 ((10 * C.q : Nat) : Int)) ∧ w'.cell? ⟨C.h, 2, none⟩ = some (.map (some C.itb)) ∧ w'.cell? ⟨C.h, 3, none⟩ = some (.pointer (some ⟨C.S.mb, 0, none⟩)) ∧ w'.cell? ⟨C.h, 4, none⟩ = some (.map (some C.wb)) ∧ w'.cell? ⟨C.h, 5, none⟩ = some (.pointer (some ⟨C.sp, 0, none⟩)) ∧ w'.cell? ⟨C.h, 6, none⟩ = some (.int .i64 last)) (first | assumption | go_keep) (first | (go_at_call 32; with_reducible refine HE.out.mono ?_; rintro e w1 ⟨mb2, wb2, rfl, ⟨k0, k1, k2, k3, k4, k5, k6⟩, HS⟩) | (go_at_call 33; with_reducible refine HS.out.mono ?_; rintro e w2 ⟨sp2, rfl, ⟨m0, m1, m2, m3, m4, m5, m6⟩, HF⟩))
  go_wp2_with fail
  go_ret
  exact ⟨w2.heap.size, rfl, HF.out⟩

set_option maxHeartbeats 1000000 in
theorem FK.Limit {B q : Nat} {ks : List ByteArray} (hk : FK w B q C ks) (h : HMem w own C last L K Z) (s : ByteArray) (hs : s.size ≤ maxLen) :
    Calls Tryz.prog 18 #[.pointer (some ⟨q, 0, none⟩), .string s] w fun e w' => e = .returned (.int .i64 (limN C s)) ∧ Below w.heap.size w w' := by
  obtain ⟨wb2, sp2, la, S2, L2, hd, -⟩ := hk.ex
  have c0 : w.cell? ⟨q, 0, none⟩ = some (.int .i64 C.cnt) := cell_of hd 0 _ rfl
  have c1 : w.cell? ⟨q, 1, none⟩ = some (.int .i64 ((10 * C.q : Nat) : Int)) := cell_of hd 1 _ rfl
  have c2 : w.cell? ⟨q, 2, none⟩ = some (.map (some C.itb)) := cell_of hd 2 _ rfl
  have HL := hid (HMem.limit h s hs ((10 * C.q : Nat) : Int))
  generalize limN C s = r at *
  clear h hd hk
  go_enter Tryz.func18, Tryz.ntmps18
  go_wp2_with fail
  refine HL.out.mono ?_
  rintro e w1 ⟨rfl, hb1⟩
  have HB1 := hid hb1
  clear hb1 c0 c1 c2
  go_wp2_with fail
  go_ret
  exact ⟨rfl, HB1.out⟩

set_option maxHeartbeats 1000000 in
theorem FK.Kept {B q : Nat} {ks : List ByteArray} (hk : FK w B q C ks) :
    Calls Tryz.prog 16 #[.pointer (some ⟨q, 0, none⟩)] w fun e w' => (∃ a c, e = .returned (.slice a ks.length c) ∧ w'.ownsRow w.heap.size 9 1 (.slice a ks.length c) ks.length (ks.map Value.string)) ∧ Below w.heap.size w w' := by
  obtain ⟨wb2, sp2, la, S2, L2, hd, hl, hks, -⟩ := hk.ex
  have c3 : w.cell? ⟨q, 3, none⟩ = some (.pointer (some ⟨S2.mb, 0, none⟩)) := cell_of hd 3 _ rfl
  have HK := hid (LruQ.keys_any hl)
  have hk2 : LruQ.ks L2 = ks.map Value.string := by rw [← hks]; unfold LruQ.ks; rw [List.map_map]; rfl
  have hkl : ks.length = L2.length := by rw [← hks, List.length_map]
  rw [hk2] at HK
  rw [hkl]
  clear hk hd hl hks hk2 hkl
  unfold ptr at HK
  go_enter Tryz.func16, Tryz.ntmps16
  go_wp2_with fail
  refine HK.out.mono ?_
  rintro e w1 ⟨⟨x, rfl, hrow⟩, hb1⟩
  have HR := hid (And.intro hrow hb1)
  clear hrow hb1 c3
  go_wp2_with fail
  go_ret
  obtain ⟨a, c, rfl⟩ := owns_shape HR.out.1
  exact ⟨⟨a, c, rfl, HR.out.1⟩, HR.out.2⟩

end Go.Proofs.YtbihelpnojjacaaGreat.RtH
