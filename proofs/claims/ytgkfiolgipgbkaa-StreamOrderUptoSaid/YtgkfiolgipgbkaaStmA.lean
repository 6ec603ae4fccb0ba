/- Queues of bytes: rows of one's own, from a place on; what is put behind them, what is taken from them. -/
import Derived.Test.YtgkfiolgipgbkaaFrmA
import Derived.Lib.SliceRun
namespace Go.Proofs.Ytgkfiolgipgbkaa.StmA
open Go.ChangeShapes Go.WideShapes Go.ChangeAt Go.RowKit Base Wri FrmP FrmA
set_option linter.unusedVariables false
set_option linter.unusedSimpArgs false

theorem infoB : (Try.prog.info? 5).map (fun i => (i.zero, i.size, i.bytes)) = some (some (.int .u8 0), 1, 1) := by kernel_rfl

/-- bytes in a block, from a place on -/
def Que (W : World) (B : Nat) (v : Value) (s : Bs) : Prop :=
  (v = .slice none 0 0 ∧ s = []) ∨ ∃ g o cap cur, v = .slice (some ⟨g, o, none⟩) s.length cap ∧ B ≤ g ∧ W.heap[g]? = some (.cells cur 5 (0, 0)) ∧ s.length ≤ cap ∧ cap ≤ maxLen ∧ o + cap ≤ cur.size ∧ ∀ i x, s[i]? = some x → cur[o + i]? = some (bv x)

theorem Que.nil (W : World) (B : Nat) : Que W B (.slice none 0 0) [] := .inl ⟨rfl, rfl⟩
theorem Que.keep {W W' : World} {B : Nat} {v : Value} {s : Bs} (h : Que W B v s) (hk : ∀ g, v.ownBlock = some g → W'.heap[g]? = W.heap[g]?) : Que W' B v s := by
  rcases h with h | ⟨g, o, cap, cur, rfl, h1, h2, h3⟩
  · exact .inl h
  · exact .inr ⟨g, o, cap, cur, rfl, h1, (hk g rfl).trans h2, h3⟩
theorem Que.low {W : World} {B B' : Nat} {v : Value} {s : Bs} (h : Que W B v s) (hb : B' ≤ B) : Que W B' v s := by
  rcases h with h | ⟨g, o, cap, cur, rfl, h1, h2⟩
  · exact .inl h
  · exact .inr ⟨g, o, cap, cur, rfl, by omega, h2⟩
theorem Que.lt {W : World} {B : Nat} {v : Value} {s : Bs} (h : Que W B v s) : ∀ g, v.ownBlock = some g → B ≤ g ∧ g < W.heap.size := by
  intro g e
  rcases h with ⟨rfl, _⟩ | ⟨g', o, cap, cur, rfl, h1, h2, h3⟩
  · simp [Value.ownBlock] at e
  · cases e
    exact ⟨h1, (Array.getElem?_eq_some_iff.1 h2).1⟩
theorem Que.shape {W : World} {B : Nat} {v : Value} {s : Bs} (h : Que W B v s) : ∃ a c, v = .slice a s.length c ∧ s.length ≤ c ∧ c ≤ maxLen ∧ ∀ n0, (∀ g, v.ownBlock = some g → g < n0) → BAt W n0 a s := by
  rcases h with ⟨rfl, rfl⟩ | ⟨g, o, cap, cur, rfl, h1, h2, h3, h4, h5, h6⟩
  · exact ⟨none, 0, rfl, Nat.le_refl _, by decide, fun _ _ h => absurd h (by decide)⟩
  · exact ⟨_, cap, rfl, h3, h4, fun n0 hn h0 => ⟨g, o, rfl, hn g rfl, fun i x hx => by simp [World.cell?, h2, h6 i x hx]⟩⟩
theorem Que.bat {W : World} {B : Nat} {v : Value} {s : Bs} (h : Que W B v s) : ∃ a c, v = .slice a s.length c ∧ s.length ≤ c ∧ c ≤ maxLen ∧ BAt W W.heap.size a s := by
  obtain ⟨a, c, h1, h2, h3, h4⟩ := h.shape
  exact ⟨a, c, h1, h2, h3, h4 _ fun g e => (h.lt g e).2⟩

theorem newsB {w : World} {g o : Nat} {s : Bs} (h : ∀ i x, s[i]? = some x → w.cell? ⟨g, o + i, none⟩ = some (bv x)) : ∀ j u, (s.map bv)[j]? = some u → w.cell? ((⟨g, o, none⟩ : Addr).add j) = some u := by
  intro j u hj
  rw [List.getElem?_map] at hj
  cases hx : s[j]? with
  | none => rw [hx] at hj; cases hj
  | some x =>
    rw [hx] at hj
    obtain rfl : bv x = u := by simpa using hj
    rw [Go.WideShapes.add_plain]
    exact h j x hx
theorem oneB (s : Bs) : ∀ u ∈ s.map bv, u.oneCell' = true := by
  intro u hu
  obtain ⟨x, _, rfl⟩ := List.mem_map.1 hu
  rfl

/-- append's second type plays no part, if it is a slice's -/
theorem append_type (w : World) (T1 T2 T2' ty e : TypeId) (b : Option Addr) (n c : Nat) (y : Value) (h1 : Try.prog.underlying T1 = some (.slice e)) (h2 : Try.prog.underlying T2 = some (.slice e)) (h2' : Try.prog.underlying T2' = some (.slice e)) :
    (Builtin.append_ #[T1, T2] ty #[.slice b n c, y]).run Try.prog w = (Builtin.append_ #[T1, T2'] ty #[.slice b n c, y]).run Try.prog w := by
  unfold Builtin.append_
  simp [run_underlying h1, run_underlying h2, run_underlying h2']

theorem grown_row (w : World) (row : Option Nat) (o : Obj) : w.grownBy (w.drew.alloc o) row := ⟨rfl, rfl, rfl, by simp, fun k hk _ => heap_alloc_old w.drew o hk⟩

theorem que_made (w : World) (B n cap : Nat) (s : Bs) (xs : Array Value) (hB : B ≤ w.heap.size) (hn : n = s.length) (h1 : s.length ≤ cap) (h2 : cap ≤ maxLen) (h3 : cap ≤ xs.size) (h4 : ∀ (i : Nat) (x : UInt8), s[i]? = some x → xs[i]? = some (bv x)) :
    Que (w.drew.alloc (.cells xs 5)) B (.slice (some ⟨w.heap.size, 0, none⟩) n cap) s :=
  .inr ⟨w.heap.size, 0, cap, xs, by rw [hn], hB, heap_alloc_new w.drew _, h1, h2, by omega, fun i x hx => by rw [Nat.zero_add]; exact h4 i x hx⟩

theorem map_get {s : Bs} {i : Nat} {x : UInt8} (h : s[i]? = some x) : (s.map bv)[i]? = some (bv x) := by rw [List.getElem?_map, h]; rfl

theorem run_append_que (w : World) {B n0 : Nat} {v : Value} {s t : Bs} {ax : Option Addr} {cx : Nat} {T1 T2 ty : TypeId} (h1 : Try.prog.underlying T1 = some (.slice 5)) (h2 : Try.prog.underlying T2 = some (.slice 5)) (hq : Que w B v s) (ht : BAt w n0 ax t) (hB : B ≤ w.heap.size) (hs : s.length + t.length ≤ 1099511627776) :
    ∃ v' w', (Builtin.append_ #[T1, T2] ty #[v, .slice ax t.length cx]).run Try.prog w = .ok v' w' ∧ Que w' B v' (s ++ t) ∧ w.grownBy w' v.ownBlock ∧ (v'.ownBlock = v.ownBlock ∨ v'.ownBlock = some w.heap.size) := by
  obtain ⟨i0, hi, hz0, hz1, hz2⟩ := info_parts infoB
  have hvv : (Builtin.append_ #[T1, T2] ty #[v, .slice ax t.length cx]).run Try.prog w = (Builtin.append_ #[T1, T1] ty #[v, .slice ax t.length cx]).run Try.prog w := by
    obtain ⟨a', c', rfl, hc', _⟩ := hq.shape
    exact append_type w T1 T2 T1 ty 5 _ _ _ _ h1 h2 h1
  rw [hvv]
  clear hvv
  by_cases ht0 : t.length = 0
  · obtain rfl : t = [] := List.eq_nil_of_length_eq_zero ht0
    refine ⟨v, w, ?_, by rw [List.append_nil]; exact hq, ⟨rfl, rfl, rfl, Nat.le_refl _, fun _ _ _ => rfl⟩, .inl rfl⟩
    obtain ⟨a', c', rfl, hc', _⟩ := hq.shape
    cases a' <;> cases ax <;> simp [Builtin.append_, run_underlying h1, sizeOf, typeInfo, hi, Builtin.lenOf, hc', Builtin.firstCells, loadCells, loadCellsFrom, storeCells]
  · obtain ⟨gx, ox, rfl, hgx, hx⟩ := ht (by omega)
    have hnews := newsB hx
    have hl : (t.map bv).length = t.length * i0.size := by rw [hz1, List.length_map, Nat.mul_one]
    have hzc : (Value.int .u8 0).cells.size = 1 := rfl
    rcases hq with ⟨rfl, rfl⟩ | ⟨g, o, cap, cur, rfl, hg, hgb, hc, hcm, hcs, hcur⟩
    · have hr := run_append_nil (P := Try.prog) w T1 ty 5 i0 (.int .u8 0) h1 hi hz0 ⟨gx, ox, none⟩ t.length cx (t.map bv) hl hnews (by omega) (by simp at hs; omega) (by rw [hz2]; simp at hs; omega)
      have hge := grownCap_ge w t.length 0 5
      refine ⟨_, _, hr, ?_, grown_row _ _ _, .inr rfl⟩
      refine que_made w B _ _ _ _ hB (by simp) (by simpa using hge) (grownCap_le_maxLen w _ 0 _ (by simp at hs; unfold maxLen; omega)) (by rw [Array.size_append, size_zeroCells, hzc]; simp; omega) (fun i x hx => ?_)
      rw [List.nil_append] at hx
      have hi := (List.getElem?_eq_some_iff.1 hx).1
      rw [Array.getElem?_append_left (by simpa using hi)]
      simp [hx]
    · by_cases hroom : s.length + t.length ≤ cap
      · have hf := run_firstCells_some (P := Try.prog) w i0.size t.length ⟨gx, ox, none⟩ t.length cx (t.map bv) hl hnews
        rw [hz1] at hf
        have hst := run_storeCells_at Try.prog g (o + s.length) 5 (t.map bv) 0 cur w hgb (by simp; omega) (oneB t)
        simp only [Nat.add_zero] at hst
        refine ⟨.slice (some ⟨g, o, none⟩) (s.length + t.length) cap, w.setRow g (cur.toList.take (o + s.length) ++ t.map bv ++ cur.toList.drop (o + s.length + (t.map bv).length)).toArray, ?_, ?_, ⟨rfl, rfl, rfl, by simp, fun k hk hne => setRow_other w g k _ (fun e => hne (by simp [Value.ownBlock, e]))⟩, .inl rfl⟩
        · simp [Builtin.append_, run_underlying h1, sizeOf, typeInfo, hi, Builtin.lenOf, hroom, hf, Go.WideShapes.add_plain, hz1, hst]
        · refine .inr ⟨g, o, cap, _, by rw [List.length_append], hg, setRow_heap w g cur _ _ _ hgb, by rw [List.length_append]; exact hroom, hcm, ?_, fun i x hx => ?_⟩
          · simp
            omega
          · rw [List.getElem?_toArray]
            by_cases his : i < s.length
            · rw [List.getElem?_append_left his] at hx
              rw [List.append_assoc, List.getElem?_append_left (by simp; omega), List.getElem?_take, if_pos (by omega), Array.getElem?_toList]
              exact hcur i x hx
            · rw [List.getElem?_append_right (by omega)] at hx
              have hit := (List.getElem?_eq_some_iff.1 hx).1
              rw [List.append_assoc, List.getElem?_append_right (by simp; omega), List.getElem?_append_left (by simp; omega), List.getElem?_map]
              simp only [List.length_take, Array.length_toList]
              rw [show o + i - min (o + s.length) cur.size = i - s.length by omega, hx]
              rfl
      · have holds : ∀ j u, (s.map bv)[j]? = some u → w.cell? ((⟨g, o, none⟩ : Addr).add j) = some u := newsB (fun i x hx => by simp [World.cell?, hgb, hcur i x hx])
        have hr := run_append_grow (P := Try.prog) w T1 ty 5 i0 (.int .u8 0) h1 hi hz0 ⟨g, o, none⟩ s.length cap (s.map bv) (by rw [hz1, List.length_map, Nat.mul_one]) holds ⟨gx, ox, none⟩ t.length cx (t.map bv) hl hnews (by omega) (by omega) (by rw [hz2]; exact growslice_fits (by omega) (by omega))
        have hge := grownCap_ge w (s.length + t.length) cap 5
        refine ⟨_, _, hr, ?_, grown_row _ _ _, .inr rfl⟩
        refine que_made w B _ _ _ _ hB (by simp) (by simpa using hge) (grownCap_le_maxLen w _ _ _ (by unfold maxLen; omega)) (by rw [Array.size_append, size_zeroCells, hzc]; simp; omega) (fun i x hx => ?_)
        have hi := (List.getElem?_eq_some_iff.1 hx).1
        rw [List.length_append] at hi
        rw [Array.getElem?_append_left (by simp; omega)]
        by_cases his : i < s.length
        · rw [List.getElem?_append_left his] at hx
          rw [Array.getElem?_append_left (by simpa using his)]
          simp [hx]
        · rw [List.getElem?_append_right (by omega)] at hx
          rw [Array.getElem?_append_right (by simp; omega)]
          simp [hx]

theorem wpList_append_que {ops : Array Oper} {rest : List Oper} {w : World} {op : Oper} {a : Act} {Q : Exit → Act → World → Prop} (hgd : op.guard = none) (s0 x0 : Operand) (T1 T2 : TypeId)
    (ho : op.op = .call { callee := .builtin .append, args := #[s0, x0], argTypes := #[T1, T2] }) (h1 : Try.prog.underlying T1 = some (.slice 5)) (h2 : Try.prog.underlying T2 = some (.slice 5))
    {B n0 : Nat} {v : Value} {s t : Bs} {ax : Option Addr} {cx n : Nat} (hs : a.eval s0 = v) (hx : a.eval x0 = .slice ax n cx) (hn : n = t.length) (hq : Que w B v s) (ht : BAt w n0 ax t) (hB : B ≤ w.heap.size) (hsz : s.length + n ≤ 1099511627776)
    (h : ∀ v' w', Que w' B v' (s ++ t) → w.grownBy w' v.ownBlock → (v'.ownBlock = v.ownBlock ∨ v'.ownBlock = some w.heap.size) → wpList Try.prog ops Q rest (a.put op.dst v') w') :
    wpList Try.prog ops Q (op :: rest) a w := by
  subst hn
  refine wpList_plain hgd fun K hK => ?_
  obtain ⟨v', w', hr, h3, h4, h5⟩ := run_append_que w (ty := op.type) (cx := cx) h1 h2 hq ht hB hsz
  unfold Oper.wp execOp
  simp only [ho, resolve, invoke, builtin, Sem.run_bind, Sem.run_pure, Result.andThen_ok, List.map_toArray, List.map_cons, List.map_nil, hs, hx, hr]
  exact hK _ _ (h v' w' h3 h4 h5)

/-- a part of a queue, from its beginning, or from a place on -/
theorem run_upto (ad : Option Addr) (cp n q : Nat) (hq : q ≤ cp) (T : TypeId) (hT : Try.prog.underlying T = some (.slice 5)) (hT2 : Try.prog.elem T = 5) (wx : World) :
    Sem.run Try.prog (Instr.sliceAt T (.slice ad n cp) none (some (.int .i64 (q : Nat))) none) wx = .ok (.slice ad q cp) wx := by
  obtain ⟨j0, hu8, hy0, hu8s, hy2⟩ := info_parts infoB
  rw [run_sliceAt_slice _ _ _ _ _ _ (by rw [hT2]; exact hT), run_slice_h _ _ _ _ _ (by rw [hT2]; exact hT) _ _ (by omega) (by omega), hT2]
  cases ad <;> simp [sizeOf, typeInfo, hu8, Result.andThen, sliced, hu8s, Addr.add]
theorem run_from (ad : Option Addr) (cp n q : Nat) (hq : q ≤ n) (hc : n ≤ cp) (T : TypeId) (hT : Try.prog.underlying T = some (.slice 5)) (hT2 : Try.prog.elem T = 5) (wx : World) :
    Sem.run Try.prog (Instr.sliceAt T (.slice ad n cp) (some (.int .i64 (q : Nat))) none none) wx = .ok (.slice (if cp = q then ad else ad.map (·.add (q * 1))) (n - q) (cp - q)) wx := by
  obtain ⟨j0, hu8, hy0, hu8s, hy2⟩ := info_parts infoB
  rw [run_sliceAt_slice _ _ _ _ _ _ (by rw [hT2]; exact hT), run_slice_l _ _ _ _ _ (by rw [hT2]; exact hT) _ _ (by omega) (by omega), hT2]
  simp [sizeOf, typeInfo, hu8, Result.andThen, sliced, hu8s]
theorem Que.rest {W : World} {B : Nat} {ad : Option Addr} {cp n q : Nat} {s : Bs} (h : Que W B (.slice ad n cp) s) (hq : q ≤ s.length) : Que W B (.slice (if cp = q then ad else ad.map (·.add (q * 1))) (n - q) (cp - q)) (s.drop q) ∧ (∀ g, (Value.slice (if cp = q then ad else ad.map (·.add (q * 1))) (n - q) (cp - q)).ownBlock = some g → (Value.slice ad n cp).ownBlock = some g) := by
  rcases h with ⟨e, rfl⟩ | ⟨g, o, cap, cur, e, h1, h2, h3, h4, h5, h6⟩
  · cases e
    have : q = 0 := by simpa using hq
    subst this
    exact ⟨.inl ⟨rfl, rfl⟩, fun g e => e⟩
  · cases e
    by_cases hc : cp = q
    · rw [if_pos hc]
      have hqs : q = s.length := by omega
      refine ⟨.inr ⟨g, o, cp - q, cur, by rw [List.length_drop], h1, h2, by rw [List.length_drop]; omega, by omega, by omega, fun i x hx => ?_⟩, fun g e => e⟩
      rw [List.getElem?_drop, List.getElem?_eq_none (by omega)] at hx
      cases hx
    · rw [if_neg hc]
      refine ⟨.inr ⟨g, o + q, cp - q, cur, ?_, h1, h2, by rw [List.length_drop]; omega, by omega, by omega, fun i x hx => ?_⟩, fun g' e => ?_⟩
      · rw [List.length_drop, Option.map_some, Go.WideShapes.add_plain, Nat.mul_one]
      · rw [List.getElem?_drop] at hx
        rw [Nat.add_assoc]
        exact h6 _ x hx
      · rw [Option.map_some, Go.WideShapes.add_plain] at e
        exact e

set_option maxRecDepth 20000 in
set_option maxHeartbeats 1000000 in
/-- a copy of bytes -/
theorem clone_any (ad : Option Addr) (cap : Nat) (s : Bs) (w : World) (hs : s.length ≤ 17592186044416 / 16) (h : BAt w w.heap.size ad s) (h0 : ad = none → s = []) :
    Calls Try.prog 70 #[.slice ad s.length cap] w fun e w' => ∃ v, e = .returned v ∧ Que w' w.heap.size v s ∧ Below w.heap.size w w' := by
  cases ad with
  | none =>
    obtain rfl := h0 rfl
    have he : ∀ wx, (binOp .eql 76 (.slice none 0 cap) (.slice none 0 0)).run Try.prog wx = .ok (.bool true) wx := fun wx => Go.Lib.run_eql_slice_nil wx _ 5 _ _ _ _ _ Try.underlying76
    go_enter Try.func70, Try.ntmps70
    go_wp2_with fail
    go_ret
    exact ⟨_, rfl, Que.nil _ _, Below.refl _ _⟩
  | some a =>
    have he : ∀ wx, (binOp .eql 76 (.slice (some a) s.length cap) (.slice none 0 0)).run Try.prog wx = .ok (.bool false) wx := fun wx => Go.Lib.run_eql_slice_nil wx _ 5 _ _ _ _ _ Try.underlying76
    have hb0 : Below w.heap.size w (w.alloc (.cells #[] 5)) := (Below.refl _ _).alloc (Nat.le_refl _) _
    have hq : Que (w.alloc (.cells #[] 5)) w.heap.size (.slice (some ⟨w.heap.size, 0, none⟩) 0 0) [] := .inr ⟨w.heap.size, 0, 0, #[], rfl, Nat.le_refl _, heap_alloc_new _ _, Nat.le_refl _, by decide, Nat.le_refl _, fun i x hx => by cases hx⟩
    have HX := hid (And.intro hq (And.intro hb0 (h.below hb0)))
    obtain ⟨n, hn⟩ : ∃ n, s.length = n := ⟨_, rfl⟩
    have HN := hid hn
    rw [hn] at he hs ⊢
    clear hq hb0 h h0 hn
    go_enter Try.func70, Try.ntmps70
    go_wp2_with (at_builtin; refine wpList_append_que rfl _ _ 76 76 rfl Try.underlying76 Try.underlying76 rfl rfl HN.out.symm HX.out.1 HX.out.2.2 (by simp) (by simp; omega) ?_; intro v2 w2 hq2 hgr2 hat2; have H2 := hid (And.intro hq2 (And.intro hgr2 hat2)); clear hq2 hgr2 hat2)
    go_ret
    refine ⟨_, rfl, H2.out.1, HX.out.2.1.trans (Below.grown (Below.refl _ _) H2.out.2.1 (by simp) (fun k e => by cases e; exact Nat.le_refl _))⟩

end Go.Proofs.Ytgkfiolgipgbkaa.StmA
