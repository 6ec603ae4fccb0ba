/- The document's bounded map: a list of pairs. Contracts of place and out. -/
import Derived.Test.YtkdldcigooiljaaLruC
import Derived.Test.YtkdldcigooiljaaStr
namespace Go.Proofs.Ytkdldcigooiljaa.RefL
open Go.ChangeShapes Go.WideShapes Go.ChangeAt Go.RowKit Base Wri Str LruA

def cellsP (ps : List (ByteArray × Int)) : List Value := ps.flatMap fun p => [.string p.1, .int .i64 p.2]
theorem cellsP_app (a b : List (ByteArray × Int)) : cellsP (a ++ b) = cellsP a ++ cellsP b := by simp [cellsP]
theorem cellsP_len (a : List (ByteArray × Int)) : (cellsP a).length = a.length * 2 := by
  induction a with
  | nil => rfl
  | cons x r ih => simp only [cellsP, List.flatMap_cons, List.length_append] at ih ⊢; simp [ih]; omega
theorem cellsP_get {ps : List (ByteArray × Int)} {i : Nat} {p : ByteArray × Int} (h : ps[i]? = some p) : (cellsP ps)[i * 2]? = some (.string p.1) ∧ (cellsP ps)[i * 2 + 1]? = some (.int .i64 p.2) := by
  induction ps generalizing i with
  | nil => simp at h
  | cons x r ih =>
    cases i with
    | zero => simp at h; subst h; exact ⟨rfl, rfl⟩
    | succ i =>
      have := ih (i := i) (by simpa using h)
      have e : (i + 1) * 2 = i * 2 + 2 := by omega
      rw [e]
      exact this
theorem cellsP_one : ∀ ps : List (ByteArray × Int), ∀ u ∈ cellsP ps, u.oneCell' = true := by
  intro ps u hu
  obtain ⟨p, _, hp⟩ := List.mem_flatMap.1 hu
  simp at hp
  rcases hp with rfl | rfl <;> rfl

theorem infoP : (Try.prog.info? 127).map (fun i => (i.zero, i.size, i.bytes)) = some (some (.agg #[.string ⟨#[]⟩, .int .i64 0]), 2, 24) := by kernel_rfl

/-- the document's map: in block rb, its pairs in the row of v -/
structure RM (w0 w : World) (rb most : Nat) (v : Value) (ps : List (ByteArray × Int)) : Prop where
  blk : w.heap[rb]? = some (.cells #[.int .i64 most, v] 121)
  row : w.ownsRow w0.heap.size 127 2 v ps.length (cellsP ps)
  far : ∀ g, v.ownBlock = some g → g ≠ rb
  lb : w0.heap.size ≤ rb

variable {w0 w w' : World} {rb most : Nat} {v : Value} {ps : List (ByteArray × Int)}

theorem RM.lt (h : RM w0 w rb most v ps) : rb < w.heap.size := (Array.getElem?_eq_some_iff.1 h.blk).1
theorem RM.keep (h : RM w0 w rb most v ps) (hk : ∀ k, (k = rb ∨ v.ownBlock = some k) → w'.heap[k]? = w.heap[k]?) : RM w0 w' rb most v ps :=
  ⟨(hk rb (.inl rfl)).trans h.blk, owns_keep h.row (fun g e => hk g (.inr e)), h.far, h.lb⟩
theorem RM.below (h : RM w0 w rb most v ps) (hb : Below w.heap.size w w') : RM w0 w' rb most v ps :=
  h.keep fun k hk => hb.block k (hk.elim (fun e => e ▸ h.lt) (fun e => (h.row.lt k e).2))
theorem RM.cells (h : RM w0 w rb most v ps) : w.cell? ⟨rb, 0, none⟩ = some (.int .i64 most) ∧ w.cell? ⟨rb, 1, none⟩ = some v ∧ w.frozen? ⟨rb, 1, none⟩ = false := by
  have := h.blk
  exact ⟨by simp [World.cell?, this], by simp [World.cell?, this], by simp [World.frozen?, this]⟩

/-- where its pairs lie -/
theorem RM.at_ (h : RM w0 w rb most v ps) (hn : 0 < ps.length) : ∃ g c, v = .slice (some ⟨g, 0, none⟩) ps.length c ∧ ps.length ≤ c ∧ c ≤ maxLen ∧ g < w.heap.size ∧ ∀ j u, (cellsP ps)[j]? = some u → w.cell? ⟨g, j, none⟩ = some u := by
  have hlt := h.row.lt
  obtain ⟨hl, h2⟩ := h.row
  rcases h2 with ⟨_, h0⟩ | ⟨g, cap, cur, rfl, hg, hh, hc, hm, hs, hcur⟩
  · omega
  · refine ⟨g, cap, rfl, hc, hm, (hlt g rfl).2, fun j u hu => ?_⟩
    have hj : j < ps.length * 2 := by
      have := (List.getElem?_eq_some_iff.1 hu).1
      rwa [cellsP_len] at this
    have h1 : (cur.toList.take (ps.length * 2))[j]? = (cellsP ps)[j]? := by rw [hcur]
    rw [List.getElem?_take, if_pos hj, hu] at h1
    have e : cur[j]? = some u := by rw [← Array.getElem?_toList, h1]
    simp [World.cell?, hh, e]

/-- the place of a key: from a place on -/
def placeF (s : ByteArray) : List (ByteArray × Int) → Option Nat
  | [] => none
  | p :: r => if p.1 = s then some 0 else (placeF s r).map (· + 1)
theorem placeF_some {s : ByteArray} {ps : List (ByteArray × Int)} {i : Nat} (h : placeF s ps = some i) : ∃ p, ps[i]? = some p ∧ p.1 = s := by
  induction ps generalizing i with
  | nil => cases h
  | cons x r ih =>
    unfold placeF at h
    split at h
    · cases h; exact ⟨x, rfl, by assumption⟩
    · obtain ⟨j, hj, rfl⟩ := Option.map_eq_some_iff.1 h
      obtain ⟨p, h1, h2⟩ := ih hj
      exact ⟨p, by simpa using h1, h2⟩
theorem placeF_app {s : ByteArray} {a : List (ByteArray × Int)} (h : ∀ p ∈ a, p.1 ≠ s) (b : List (ByteArray × Int)) : placeF s (a ++ b) = (placeF s b).map (· + a.length) := by
  induction a with
  | nil => simp
  | cons x r ih =>
    have h1 := h x List.mem_cons_self
    have h2 := ih (fun p hp => h p (List.mem_cons_of_mem _ hp))
    simp only [List.cons_append, placeF, if_neg h1, h2, List.length_cons, Option.map_map]
    cases placeF s b with
    | none => rfl
    | some j => simp; omega
theorem placeF_none {s : ByteArray} {ps : List (ByteArray × Int)} : placeF s ps = none ↔ ∀ p ∈ ps, p.1 ≠ s := by
  induction ps with
  | nil => simp [placeF]
  | cons x r ih =>
    unfold placeF
    by_cases h : x.1 = s
    · simp [h]
    · simp [h, ih]

/-- as a number: -1 of none -/
def placeI (s : ByteArray) (ps : List (ByteArray × Int)) : Int := match placeF s ps with | some i => (i : Int) | none => -1

set_option maxRecDepth 20000 in
set_option maxHeartbeats 1000000 in
theorem place_any (s : ByteArray) (h : RM w0 w rb most v ps) (hl : ps.length ≤ 9223372036854775807) :
    Calls Try.prog 104 #[ptr rb, .string s] w fun e w' => e = .returned (.int .i64 (placeI s ps)) ∧ w = w' := by
  obtain ⟨k0, k1, kf⟩ := h.cells
  obtain ⟨va, vc, rfl⟩ := owns_shape h.row
  have H := hid h
  have hlt := h.lt
  clear h
  unfold ptr
  go_enter Try.func104, Try.ntmps104
  go_wp2_with fail
  go_loop [5] (fun i => ∃ k : Nat, k ≤ ps.length ∧ i = .int .i64 k ∧ ∀ p ∈ ps.take k, p.1 ≠ s) (fun i => ps.length - (intOf i).toNat)
  case atStart => exact ⟨0, Nat.zero_le _, rfl, by simp⟩
  case round =>
    obtain ⟨k, hk, rfl, hno⟩ := hrel
    have HNo := hid hno
    clear hno
    by_cases hlt2 : k < ps.length
    · obtain ⟨g, c, hv, _, _, hg, hc⟩ := H.out.at_ (by omega)
      obtain ⟨p, hp⟩ : ∃ p, ps[k]? = some p := ⟨ps[k], List.getElem?_eq_getElem hlt2⟩
      have c0 : w.cell? ⟨g, k * 2, none⟩ = some (.string p.1) := hc _ _ (cellsP_get hp).1
      injection hv with e1 e2 e3
      subst e1
      have HP := hid hp
      clear hc e2 e3 hp
      by_cases hs : p.1 = s
      · have HR : Hid (placeI s ps = k) := hid (by
          have e : ps = ps.take k ++ ps.drop k := (List.take_append_drop k ps).symm
          unfold placeI
          rw [e, placeF_app HNo.out]
          have hd : ps.drop k = p :: ps.drop (k + 1) := by rw [List.drop_eq_getElem_cons hlt2]; congr 1; have := HP.out; rw [List.getElem?_eq_getElem hlt2] at this; exact Option.some.inj this
          rw [hd]
          simp [placeF, hs]
          omega)
        have hb : (p.1.toList == s.toList) = true := by rw [text_eq, decide_eq_true hs]
        clear hs
        go_wp2_with fail
        go_ret
        exact ⟨by rw [HR.out]; rfl, rfl⟩
      · have HS : Hid (∀ q ∈ ps.take (k + 1), q.1 ≠ s) := hid (fun q hq => by
          rw [List.take_add_one, HP.out] at hq
          rcases List.mem_append.1 hq with hq | hq
          · exact HNo.out q hq
          · rw [List.mem_singleton.1 hq]; exact hs)
        have hb : (p.1.toList == s.toList) = false := by rw [text_eq, decide_eq_false hs]
        clear hs
        go_wp2_with fail
        go_round
        case rel => exact ⟨k + 1, by omega, by go_num, HS.out⟩
        case measure => simp [intOf]; omega
    · have HR : Hid (placeI s ps = -1) := hid (by
        unfold placeI
        rw [placeF_none.2 (fun p hp => HNo.out p (by rw [List.take_of_length_le (by omega)]; exact hp))])
      go_wp2_with fail
      go_ret
      exact ⟨by rw [HR.out]; rfl, rfl⟩

theorem rm_set {i n most : Nat} {v v6 : Value} {w6 : World} (ho : w6.ownsRow w0.heap.size 127 2 v6 (0 + i + (n - (i + 1))) (([] ++ cellsP (ps.take i)) ++ cellsP (ps.drop (i + 1)))) (hb : w6.heap[rb]? = some (.cells #[.int .i64 most, v] 121))
    (ha : ∀ g, v6.ownBlock = some g → w.heap.size ≤ g) (hlt : rb < w.heap.size) (lb : w0.heap.size ≤ rb) (hi : i < ps.length) (hn : ps.length = n) : RM w0 (w6.setCell ⟨rb, 1, none⟩ v6) rb most v6 (ps.eraseIdx i) := by
  have far : ∀ g, v6.ownBlock = some g → g ≠ rb := fun g e => by have := ha g e; omega
  refine ⟨by have := heap_setCell_same _ rb 1 _ _ v6 hb; simpa using this, ?_, far, lb⟩
  have hl : (ps.eraseIdx i).length = 0 + i + (n - (i + 1)) := by rw [List.length_eraseIdx, if_pos hi]; omega
  have hc : cellsP (ps.eraseIdx i) = ([] ++ cellsP (ps.take i)) ++ cellsP (ps.drop (i + 1)) := by rw [List.eraseIdx_eq_take_drop_succ, cellsP_app]; rfl
  rw [hl, hc]
  exact owns_keep ho (fun g e => heap_setCell_other _ _ _ _ (far g e))

set_option maxRecDepth 20000 in
set_option maxHeartbeats 1000000 in
theorem out_any (i : Nat) (h : RM w0 w rb most v ps) (hi : i < ps.length) (hl : ps.length ≤ 4096) (hb : w0.heap.size ≤ w.heap.size) :
    Calls Try.prog 105 #[ptr rb, .int .i64 i] w fun e w' => e = .returned (.tuple #[]) ∧ (∃ v', RM w0 w' rb most v' (ps.eraseIdx i) ∧ (∀ g, v'.ownBlock = some g → w.heap.size ≤ g)) ∧ Wr (fun k => k = rb) w w' := by
  obtain ⟨i0, hi0, hz0, hz1, hz2⟩ := info_parts infoP
  obtain ⟨k0, k1, kf⟩ := h.cells
  obtain ⟨g, c, rfl, hc1, hc2, hg, hcc⟩ := h.at_ (by omega)
  have HC := hid hcc
  have H := hid h
  have hlt := h.lt
  unfold maxLen at hc2
  have hown0 : w.ownsRow w0.heap.size 127 2 (.slice none 0 0) 0 [] := ⟨rfl, .inl ⟨rfl, rfl⟩⟩
  clear h hcc
  unfold ptr
  go_enter Try.func105, Try.ntmps105
  obtain ⟨n, hn⟩ : ∃ n, ps.length = n := ⟨_, rfl⟩
  have hn1 : (cellsP (ps.take i)).length = i * 2 := by rw [cellsP_len, List.length_take]; omega
  have hn2 : (cellsP (ps.drop (i + 1))).length = (n - (i + 1)) * 2 := by rw [cellsP_len, List.length_drop]; omega
  have hnews1 : ∀ (j : Nat) u, (cellsP (ps.take i))[j]? = some u → w.cell? ((⟨g, 0, none⟩ : Addr).add j) = some u := fun j u hu => by
    rw [Go.WideShapes.add_plain, Nat.zero_add]
    refine HC.out j u ?_
    rw [← List.take_append_drop i ps, cellsP_app, List.getElem?_append_left (List.getElem?_eq_some_iff.1 hu).1]
    exact hu
  have hnews2 : ∀ (j : Nat) u, (cellsP (ps.drop (i + 1)))[j]? = some u → w.cell? ((⟨g, (i + 1) * 2, none⟩ : Addr).add j) = some u := fun j u hu => by
    rw [Go.WideShapes.add_plain]
    refine HC.out _ u ?_
    rw [← List.take_append_drop (i + 1) ps, cellsP_app, List.getElem?_append_right (by rw [cellsP_len, List.length_take]; omega), cellsP_len, List.length_take]
    rw [← hu]
    congr 1
    omega
  have HN2 := hid hnews2
  have HNL := hid (And.intro hn1 hn2)
  clear hnews2 hn2
  rw [hn] at hc1 hi hl k1 H
  by_cases hci : c = i + 1
  · subst hci
    go_wp2_with (at_builtin; (first
        | (refine wpList_append_own_at _ rfl _ _ 119 rfl w0.heap.size 127 i0 (.agg #[.string ⟨#[]⟩, .int .i64 0]) 2 24 Try.underlying119 hi0 hz0 hz1 hz2 rfl (by decide) _ _ _ rfl hown0 ⟨g, 0, none⟩ i (i + 1) (cellsP (ps.take i)) rfl hn1 hnews1 (cellsP_one _) (by unfold maxLen; omega) (by omega) hb ?_; intro v5 w5 hown5 hgr5 hnil5 hat5
           have HB5 : Hid (Below w.heap.size w w5) := hid ((Below.refl _ _).grown hgr5 (Nat.le_refl _) (fun k e => by cases e))
           have HR5 := hid (H.out.below HB5.out)
           have k15 := HR5.out.cells.2.1
           have kf5 := HR5.out.cells.2.2
           have h5lt : rb < w5.heap.size := HR5.out.lt
           have hnews5 : ∀ (j : Nat) u, (cellsP (ps.drop (i + 1)))[j]? = some u → w5.cell? ((⟨g, (i + 1) * 2, none⟩ : Addr).add j) = some u := fun j u hu => by
             have := HN2.out j u hu
             rw [Go.WideShapes.add_plain] at this ⊢
             exact (HB5.out.cell (p := ⟨g, (i + 1) * 2 + j, none⟩) hg).trans this
           have hb5 : w0.heap.size ≤ w5.heap.size := Nat.le_trans hb HB5.out.size
           have hn2 := HNL.out.2
           have hat5' : ∀ b, v5.ownBlock = some b → w.heap.size ≤ b := fun b e => by
             rcases hat5 with e2 | e2
             · rw [e2] at e; cases e
             · rw [e2] at e; cases e; exact Nat.le_refl _
           clear hgr5 hnil5 hat5 hown0 hnews1 hn1)
        | (refine wpList_append_own_at _ rfl _ _ 119 rfl w0.heap.size 127 i0 (.agg #[.string ⟨#[]⟩, .int .i64 0]) 2 24 Try.underlying119 hi0 hz0 hz1 hz2 rfl (by decide) _ _ _ rfl hown5 ⟨g, 0, none⟩ 0 0 [] rfl rfl (fun j u hu => by simp at hu) (fun u hu => by cases hu) (by unfold maxLen; omega) (by omega) hb5 ?_; intro v6 w6 hown6 hgr6 hnil6 hat6
           obtain ⟨va6, vc6, hv6⟩ := owns_shape hown6
           have hrbw : w6.heap[rb]? = w5.heap[rb]? := hgr6.block rb h5lt (fun e => by have := hat5' rb e.symm; omega)
           have h6b := hrbw.trans HR5.out.blk
           have k16 : w6.cell? ⟨rb, 1, none⟩ = some (.slice (some ⟨g, 0, none⟩) n (i + 1)) := by simp [World.cell?, h6b]
           have kf6 : w6.frozen? ⟨rb, 1, none⟩ = false := by simp [World.frozen?, h6b]
           have hat6' : ∀ b, v6.ownBlock = some b → w.heap.size ≤ b := fun b e => by
             rcases hat6 with e2 | e2
             · exact hat5' b (e2 ▸ e)
             · rw [e2] at e; cases e; exact HB5.out.size
           have HO6 : Hid (w6.ownsRow w0.heap.size 127 2 v6 (0 + i + (n - (i + 1))) (([] ++ cellsP (ps.take i)) ++ cellsP (ps.drop (i + 1)))) := hid (by rw [show n - (i + 1) = 0 by omega, show ps.drop (i + 1) = [] from List.drop_of_length_le (by omega)]; exact hown6)
           have HB6 := hid h6b
           have HA6 := hid hat6'
           have h6lt : rb < w6.heap.size := Nat.lt_of_lt_of_le h5lt hgr6.size
           have HW6 : Hid (Below w.heap.size w w6) := hid (HB5.out.grown hgr6 HB5.out.size hat5')
           clear hgr6 hnil6 hat6 hown5 hnews5 hn2 hown6 h6b hat6' hrbw k15 kf5 hat5'
           subst hv6)))
    go_end0
    have HRM : RM w0 (w6.setCell ⟨rb, 1, none⟩ (.slice va6 (0 + i + 0) vc6)) rb most (.slice va6 (0 + i + 0) vc6) (ps.eraseIdx i) := rm_set HO6.out HB6.out HA6.out hlt H.out.lb (by rw [hn]; exact hi) (by rw [hn])
    simp only [Nat.zero_add, Nat.add_zero] at HRM HA6
    exact ⟨rfl, ⟨_, HRM, HA6.out⟩, (Wr.ofBelow HW6.out).trans (Wr.set ⟨rb, 1, none⟩ _ rfl)⟩
  · have hcd : decide (c = i + 1) = false := by simpa using hci
    go_wp2_with (at_builtin; (first
        | (refine wpList_append_own_at _ rfl _ _ 119 rfl w0.heap.size 127 i0 (.agg #[.string ⟨#[]⟩, .int .i64 0]) 2 24 Try.underlying119 hi0 hz0 hz1 hz2 rfl (by decide) _ _ _ rfl hown0 ⟨g, 0, none⟩ i c (cellsP (ps.take i)) rfl hn1 hnews1 (cellsP_one _) (by unfold maxLen; omega) (by omega) hb ?_; intro v5 w5 hown5 hgr5 hnil5 hat5
           have HB5 : Hid (Below w.heap.size w w5) := hid ((Below.refl _ _).grown hgr5 (Nat.le_refl _) (fun k e => by cases e))
           have HR5 := hid (H.out.below HB5.out)
           have k15 := HR5.out.cells.2.1
           have kf5 := HR5.out.cells.2.2
           have h5lt : rb < w5.heap.size := HR5.out.lt
           have hnews5 : ∀ (j : Nat) u, (cellsP (ps.drop (i + 1)))[j]? = some u → w5.cell? ((⟨g, (i + 1) * 2, none⟩ : Addr).add j) = some u := fun j u hu => by
             have := HN2.out j u hu
             rw [Go.WideShapes.add_plain] at this ⊢
             exact (HB5.out.cell (p := ⟨g, (i + 1) * 2 + j, none⟩) hg).trans this
           have hb5 : w0.heap.size ≤ w5.heap.size := Nat.le_trans hb HB5.out.size
           have hn2 := HNL.out.2
           have hat5' : ∀ b, v5.ownBlock = some b → w.heap.size ≤ b := fun b e => by
             rcases hat5 with e2 | e2
             · rw [e2] at e; cases e
             · rw [e2] at e; cases e; exact Nat.le_refl _
           clear hgr5 hnil5 hat5 hown0 hnews1 hn1)
        | (refine wpList_append_own_at _ rfl _ _ 119 rfl w0.heap.size 127 i0 (.agg #[.string ⟨#[]⟩, .int .i64 0]) 2 24 Try.underlying119 hi0 hz0 hz1 hz2 rfl (by decide) _ _ _ rfl hown5 ⟨g, (i + 1) * 2, none⟩ (n - (i + 1)) (c - (i + 1)) (cellsP (ps.drop (i + 1))) rfl hn2 hnews5 (cellsP_one _) (by unfold maxLen; omega) (by omega) hb5 ?_; intro v6 w6 hown6 hgr6 hnil6 hat6
           obtain ⟨va6, vc6, hv6⟩ := owns_shape hown6
           have hrbw : w6.heap[rb]? = w5.heap[rb]? := hgr6.block rb h5lt (fun e => by have := hat5' rb e.symm; omega)
           have h6b := hrbw.trans HR5.out.blk
           have k16 : w6.cell? ⟨rb, 1, none⟩ = some (.slice (some ⟨g, 0, none⟩) n c) := by simp [World.cell?, h6b]
           have kf6 : w6.frozen? ⟨rb, 1, none⟩ = false := by simp [World.frozen?, h6b]
           have hat6' : ∀ b, v6.ownBlock = some b → w.heap.size ≤ b := fun b e => by
             rcases hat6 with e2 | e2
             · exact hat5' b (e2 ▸ e)
             · rw [e2] at e; cases e; exact HB5.out.size
           have HO6 := hid hown6
           have HB6 := hid h6b
           have HA6 := hid hat6'
           have h6lt : rb < w6.heap.size := Nat.lt_of_lt_of_le h5lt hgr6.size
           have HW6 : Hid (Below w.heap.size w w6) := hid (HB5.out.grown hgr6 HB5.out.size hat5')
           clear hgr6 hnil6 hat6 hown5 hnews5 hn2 hown6 h6b hat6' hrbw k15 kf5 hat5'
           subst hv6)))
    go_end0
    have HRM : RM w0 (w6.setCell ⟨rb, 1, none⟩ (.slice va6 (0 + i + (n - (i + 1))) vc6)) rb most (.slice va6 (0 + i + (n - (i + 1))) vc6) (ps.eraseIdx i) := rm_set HO6.out HB6.out HA6.out hlt H.out.lb (by rw [hn]; exact hi) (by rw [hn])
    simp only [Nat.zero_add] at HRM HA6
    exact ⟨rfl, ⟨_, HRM, HA6.out⟩, (Wr.ofBelow HW6.out).trans (Wr.set ⟨rb, 1, none⟩ _ rfl)⟩

end Go.Proofs.Ytkdldcigooiljaa.RefL
