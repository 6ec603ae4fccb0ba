/- The two rules of hot parameters, the program's and the document's, made of the same setting and asked the same deeds, answer the same each time, and their copies made on the way answer the same at the end. -/
import Derived.Test.YtbihelpnojjacaaGreatKPc
import Derived.Test.YtbihelpnojjacaaGreatKPb
import Derived.Test.YtbihelpnojjacaaGreatKPs
import Derived.Deep.RegionHeld3
import Derived.Test.YtbihelpnojjacaaGreatKRh
import Derived.Test.YtbihelpnojjacaaGreatKHb
import Derived.Test.YtbihelpnojjacaaGreatRows
import Derived.WalkKit
import Derived.ProofKit
import Derived.OpenShut
import Derived.ShutString
import Derived.ChangeOld
import Derived.Below
import Derived.SizedLaws
import Derived.ChangeShapes
import Derived.Test.YtbihelpnojjacaaGreatOpn

/- HotPlays: the document's Forks. -/
namespace Go.Proofs.YtbihelpnojjacaaGreat.RtI
open Go.ChangeShapes Go.WideShapes Go.ChangeAt Go.RowKit Base Wri LruA HotA HotJ RefL RefM RwR RwS RwD RwF RwG RwE RhA RhB RhC RhD RhF RhG RhH
set_option linter.unusedVariables false
set_option linter.unusedSimpArgs false
attribute [local go_sem ↓ high] RwR.builtin_app

set_option maxHeartbeats 2000000 in
theorem wfork_any {w : World} {p B wd sz last : Nat} {v : Value} {L : List WinC.Bkt} (h : IsRw w p B wd sz last v L) (hl : L.length ≤ 1000000) :
    Calls Tryz.prog 36 #[.pointer (some ⟨p, 0, none⟩)] w fun e w' => (∃ q, e = .returned (.pointer (some ⟨q, 0, none⟩))) ∧ Below w.heap.size w w' := by
  obtain ⟨c0, c1, c2, c3, -, -⟩ := h.cells
  have hpl := h.lt
  obtain ⟨va, vc, rfl⟩ := owns_shape h.row
  have HH := hid h
  clear h
  go_enter Tryz.func36, Tryz.ntmps36
  go_wp2_with fail
  go_region
  go_upto_region 4 with fail
  obtain ⟨q, hq⟩ : ∃ q, w.heap.size = q := ⟨_, rfl⟩
  obtain ⟨W4, hW4⟩ : ∃ W4, (w.alloc (.cells #[.int .i64 wd, .int .i64 sz, .int .i64 last, .slice none 0 0] 138)).drew = W4 := ⟨_, rfl⟩
  have hb4 : Below w.heap.size w W4 := by rw [← hW4]; exact ((Below.refl _ _).alloc (Nat.le_refl _) _).drew
  have hq4 : W4.heap[q]? = some (.cells #[.int .i64 wd, .int .i64 sz, .int .i64 last, .slice none 0 0] 138) := by rw [← hW4, ← hq]; exact heap_alloc_new _ _
  have hs4 : W4.heap.size = q + 1 := by rw [← hW4, ← hq]; show (w.alloc _).heap.size = _; simp
  rw [hW4, hq]
  have h4 := HH.out.keep fun k hk => hb4.block k (hk.elim (fun e => e ▸ hpl) (fun e => (HH.out.row.lt k e).2))
  have hrow : W4.drew.ownsRow B 167 7 (.slice va L.length vc) L.length (cB L) := h4.row
  obtain ⟨v6, w6, hrun, hown6, hb6, -⟩ := copy_gen tyB W4.drew B _ _ _ hrow (cB_one _) (fun e => h4.nil (List.length_eq_zero_iff.1 e)) (by unfold maxLen; omega) (by omega)
  have p3 : W4.cell? ⟨p, 3, none⟩ = some (.slice va L.length vc) := h4.cells.2.2.2.1
  obtain ⟨va6, vc6, rfl⟩ := owns_shape hown6
  have q3 : W4.cell? ⟨q, 3, none⟩ = some (.slice none 0 0) := by simp [World.cell?, hq4]
  have hq6 := (hb6.block q (by show q < W4.heap.size; omega)).trans hq4
  have q36 : w6.cell? ⟨q, 3, none⟩ = some (.slice none 0 0) := by simp [World.cell?, hq6]
  have f36 : w6.frozen? ⟨q, 3, none⟩ = false := by simp [World.frozen?, hq6]
  have hb6' : Below w.heap.size w w6 := (hb4.drew).trans (hb6.mono hb4.size)
  have HB6 := hid hb6'
  clear hW4 hb4 hq4 hrow hown6 hb6 hq6 hb6' h4 c0 c1 c2 c3 HH
  go_region
  go_wp2_with fail
  go_ret
  exact ⟨⟨q, rfl⟩, HB6.out.setCell (by show w.heap.size ≤ q; omega) _⟩

/-- what is kept of a copy -/
structure FR (w0 w : World) (B q : Nat) (C : RC) (ps : List (ByteArray × Int)) : Prop where
  ex : ∃ (mb sb : Nat) (mv rv : Value) (noted : Nat), w.heap[q]? = some (.cells #[.string C.res, .int .i64 C.idx, .int .i64 C.cnt, .int .i64 C.sec, C.iv, .pointer (some ⟨mb, 0, none⟩), rv, .pointer (some ⟨sb, 0, none⟩), .int .i64 noted] 81) ∧ RM w0 w mb C.most mv ps ∧ B ≤ mb ∧ (∀ g, mv.ownBlock = some g → B ≤ g)
  b : B ≤ q
theorem FR.lt {w0 w : World} {B q : Nat} {C : RC} {ps : List (ByteArray × Int)} (h : FR w0 w B q C ps) : q < w.heap.size := by
  obtain ⟨a, b, c, d, e, h1, -⟩ := h.ex
  exact (Array.getElem?_eq_some_iff.1 h1).1
theorem FR.wr {w0 w w' : World} {B q : Nat} {C : RC} {ps : List (ByteArray × Int)} {R : Nat → Prop} (h : FR w0 w B q C ps) (hw : Wr R w w') (hR : ∀ k, B ≤ k → k < w.heap.size → ¬ R k) : FR w0 w' B q C ps := by
  obtain ⟨a, b, c, d, e, h1, h2, h3, h4⟩ := h.ex
  have hq := (Array.getElem?_eq_some_iff.1 h1).1
  refine ⟨⟨a, b, c, d, e, (hw.block q hq (hR q h.b hq)).trans h1, h2.keep fun k hk => ?_, h3, h4⟩, h.b⟩
  rcases hk with rfl | hk
  · exact hw.block _ h2.lt (hR _ h3 h2.lt)
  · exact hw.block _ (h2.row.lt k hk).2 (hR _ (h4 k hk) (h2.row.lt k hk).2)

variable {w0 w w' : World} {own : Nat → Tg} {C : RC} {d : Nat} {S : RS}


end Go.Proofs.YtbihelpnojjacaaGreat.RtI

/- HotPlays: the document's Hot.Fork. -/
namespace Go.Proofs.YtbihelpnojjacaaGreat.RtJ
open Go.ChangeShapes Go.WideShapes Go.ChangeAt Go.RowKit Base Wri LruA HotA HotJ RefL RefM RwR RwS RwD RwF RwG RwE RhA RhB RhC RhD RhF RhG RhH RtI
set_option linter.unusedVariables false
set_option linter.unusedSimpArgs false
attribute [local go_sem ↓ high] RwR.builtin_app

variable {w0 w w' : World} {own : Nat → Tg} {C : RC} {d : Nat} {S : RS}

/-- what the head of the copy begins with -/
structure St (w0 w W : World) (own : Nat → Tg) (C : RC) (d : Nat) (S : RS) (mb2 sb2 q : Nat) (mv2 : Value) : Prop where
  head : W.heap[q]? = some (.cells #[.string C.res, .int .i64 C.idx, .int .i64 C.cnt, .int .i64 C.sec, C.iv, .pointer (some ⟨mb2, 0, none⟩), .slice none 0 0, .pointer (some ⟨sb2, 0, none⟩), .int .i64 S.noted] 81)
  size : W.heap.size = q + 1
  mem : RMem w0 W own C d S
  bel : Below w.heap.size w W
  map : RM w0 W mb2 C.most mv2 S.ps
  mq : w.heap.size ≤ mb2 ∧ mb2 < q
  vq : ∀ g, mv2.ownBlock = some g → w.heap.size ≤ g ∧ g < q
  hq : C.h < w.heap.size
  gq : ∀ g, S.rv.ownBlock = some g → g < q
  xq : ∀ x ∈ S.K, x.p ≠ q
  xv : ∀ x ∈ S.K, ∀ g, x.v.ownBlock = some g → g ≠ q

theorem cells_of (h : RMem w0 w own C d S) {va ra : Option Addr} {vc rc : Nat} (hiv : C.iv = .slice va C.n vc) (hrv : S.rv = .slice ra S.K.length rc) : w.cell? ⟨C.h, 0, none⟩ = some (.string C.res) ∧ w.cell? ⟨C.h, 1, none⟩ = some (.int .i64 C.idx) ∧ w.cell? ⟨C.h, 2, none⟩ = some (.int .i64 C.cnt) ∧ w.cell? ⟨C.h, 3, none⟩ = some (.int .i64 C.sec) ∧ w.cell? ⟨C.h, 4, none⟩ = some (.slice va C.n vc) ∧ w.cell? ⟨C.h, 5, none⟩ = some (.pointer (some ⟨C.mb, 0, none⟩)) ∧ w.cell? ⟨C.h, 6, none⟩ = some (.slice ra S.K.length rc) ∧ w.cell? ⟨C.h, 7, none⟩ = some (.pointer (some ⟨C.sb, 0, none⟩)) ∧ w.cell? ⟨C.h, 8, none⟩ = some (.int .i64 S.noted) := by
  obtain ⟨c0, c1, c2, c3, c4, c5, c6, c7, c8, -⟩ := h.cells
  rw [hiv] at c4
  rw [hrv] at c6
  exact ⟨c0, c1, c2, c3, c4, c5, c6, c7, c8⟩

theorem blk_row {W : World} {p : Nat} {x0 x1 x2 x3 x4 x5 x6 x7 x8 v : Value} {t : TypeId} (h : W.heap[p]? = some (.cells #[x0, x1, x2, x3, x4, x5, x6, x7, x8] t (0, 0))) : (W.setCell ⟨p, 6, none⟩ v).heap[p]? = some (.cells #[x0, x1, x2, x3, x4, x5, v, x7, x8] t (0, 0)) := by
  obtain ⟨hlt, hk⟩ := Array.getElem?_eq_some_iff.1 h
  show (W.heap.modify p _)[p]? = _
  rw [Array.getElem?_eq_getElem (by rw [Array.size_modify]; exact hlt), Array.getElem_modify_self, hk]
  rfl

theorem step_app {ops : Array Oper} {o : Oper} {a : Act} {w w' : World} {v' : Value} {K : Act → World → Prop} {Q : Exit → Act → World → Prop} {E : Prop} (s x : Operand) (t : TypeId)
    (hg : o.guard = none) (hop : o.op = Op.call { callee := Callee.builtin Builtin.append, args := #[s, x], argTypes := #[t, t] }) {vs vx : Value} (hs : a.eval s = vs) (hx : a.eval x = vx)
    (hrun : (app #[t, t] o.type #[vs, vx]).run Tryz.prog w = .ok v' w') (hK : K (a.put o.dst v') w') : if Region.wanted o (yielded ops a.tmps) = true then Oper.wp Tryz.prog o a w K Q else E := by
  have hw : Region.wanted o (yielded ops a.tmps) = true := by simp [Region.wanted, hg]
  rw [if_pos hw]
  subst hs
  subst hx
  unfold Oper.wp
  simp [execOp, hop, resolve, invoke, RwR.builtin_app, hrun, Result.andThen]
  exact hK

/-- the loop, at its k-th row -/
structure Lp (W3 W : World) (C : RC) (S : RS) (mb2 sb2 q k : Nat) (v : Value) : Prop where
  wr : Wr (fun j => j = q) W3 W
  head : W.heap[q]? = some (.cells #[.string C.res, .int .i64 C.idx, .int .i64 C.cnt, .int .i64 C.sec, C.iv, .pointer (some ⟨mb2, 0, none⟩), v, .pointer (some ⟨sb2, 0, none⟩), .int .i64 S.noted] 81)
  own : ∃ xs, W.ownsRow W3.heap.size 88 2 v k xs

/-- what the round reads -/
structure Rd (w' : World) (h g k n rc xp : Nat) (xk : ByteArray) : Prop where
  a : w'.cell? ⟨h, 6, none⟩ = some (.slice (some ⟨g, 0, none⟩) n rc)
  b : w'.cell? ⟨g, k * 2, none⟩ = some (.string xk)
  c : w'.cell? ⟨g, k * 2 + 1, none⟩ = some (.pointer (some ⟨xp, 0, none⟩))

variable {W3 W : World} {mb2 sb2 q k : Nat} {mv2 v : Value}

theorem Lp.rd (hs : St w0 w W3 own C d S mb2 sb2 q mv2) (hw : Wr (fun j => j = q) W3 W) {g rc : Nat} {x : RW} (hrv : S.rv = .slice (some ⟨g, 0, none⟩) S.K.length rc) (hx : S.K[k]? = some x) : Rd W C.h g k S.K.length rc x.p x.k := by
  have hk : k < S.K.length := (List.getElem?_eq_some_iff.1 hx).1
  obtain ⟨g', cc, hv, hg, hgl, hnc, hfz, hcl⟩ := own_cells hs.mem.rows (by omega)
  rw [hrv] at hv
  injection hv with e1 e2 e3
  have e1 : g = g' := by injection e1 with e1; injection e1
  subst e1
  obtain ⟨i0, i1⟩ := cK_get hx
  have hgq : g ≠ q := fun e => by have := hs.gq g (by rw [hrv]; rfl); omega
  have hhq : C.h ≠ q := by have := hs.hq; have := hs.mq; omega
  have c6 := hs.mem.cells.2.2.2.2.2.2.1
  rw [hrv] at c6
  exact ⟨(hw.cell 6 hs.mem.hlt hhq).trans c6, (hw.cell _ hgl hgq).trans (hcl _ _ i0), (hw.cell _ hgl hgq).trans (hcl _ _ i1)⟩

set_option maxHeartbeats 2000000 in
theorem Lp.step (hs : St w0 w W3 own C d S mb2 sb2 q mv2) (hl : Lp W3 W C S mb2 sb2 q k v) (hd : d ≤ 1000000) {g rc : Nat} {x : RW} (hrv : S.rv = .slice (some ⟨g, 0, none⟩) S.K.length rc) (hx : S.K[k]? = some x) {va7 : Option Addr} {c7 : Nat} (hv7 : v = .slice va7 k c7) :
    Rd W C.h g k S.K.length rc x.p x.k ∧ W.cell? ⟨q, 6, none⟩ = some (.slice va7 k c7) ∧ Calls Tryz.prog 36 #[.pointer (some ⟨x.p, 0, none⟩)] W.drew fun e w1 => ∃ p2, e = .returned (.pointer (some ⟨p2, 0, none⟩)) ∧ Rd w1 C.h g k S.K.length rc x.p x.k ∧ w1.cell? ⟨q, 6, none⟩ = some (.slice va7 k c7) ∧
      (w1.alloc (.cells #[.string x.k, .pointer (some ⟨p2, 0, none⟩)] 88)).cell? ⟨q, 6, none⟩ = some (.slice va7 k c7) ∧ Rd (w1.alloc (.cells #[.string x.k, .pointer (some ⟨p2, 0, none⟩)] 88)) C.h g k S.K.length rc x.p x.k ∧
      ∃ va9 vc9 w9, (app #[79, 79] 79 #[.slice va7 k c7, .slice (some ⟨w1.heap.size, 0, none⟩) 1 1]).run Tryz.prog (w1.alloc (.cells #[.string x.k, .pointer (some ⟨p2, 0, none⟩)] 88)) = .ok (.slice va9 (k + 1) vc9) w9 ∧ Rd w9 C.h g k S.K.length rc x.p x.k ∧ w9.cell? ⟨q, 6, none⟩ = some (.slice va7 k c7) ∧ w9.frozen? ⟨q, 6, none⟩ = false ∧ Rd (w9.setCell ⟨q, 6, none⟩ (.slice va9 (k + 1) vc9)) C.h g k S.K.length rc x.p x.k ∧ Hid (Lp W3 (w9.setCell ⟨q, 6, none⟩ (.slice va9 (k + 1) vc9)) C S mb2 sb2 q (k + 1) (.slice va9 (k + 1) vc9)) := by
  subst hv7
  have hk : k < S.K.length := (List.getElem?_eq_some_iff.1 hx).1
  have hkd : k < 1000000 := by have := hs.mem.kl; omega
  have hq3 := hs.size
  obtain ⟨xs, hown⟩ := hl.own
  have hwd : Wr (fun j => j = q) W3 W.drew := hl.wr.trans (Wr.ofBelow ((Below.refl _ _).drew))
  have hxm := hs.mem.wins x (List.mem_of_getElem? hx)
  have hxo := hs.mem.ox x (List.mem_of_getElem? hx)
  have hxw : IsRw W.drew x.p 0 (10 * C.q) 10 x.last x.v x.L := hxm.1.keep fun j hj => hwd.block j (hj.elim (fun e => e ▸ hxm.1.lt) (fun e => (hxm.1.row.lt j e).2)) (hj.elim (fun e e2 => hs.xq x (List.mem_of_getElem? hx) (e.symm.trans e2)) (fun e e2 => hs.xv x (List.mem_of_getElem? hx) j e e2))
  refine ⟨Lp.rd hs hl.wr hrv hx, by simp [World.cell?, hl.head], (wfork_any hxw (Nat.le_trans hxm.2.2.1 hd)).mono ?_⟩
  rintro e w1 ⟨⟨p2, rfl⟩, hb1⟩
  have hw1 : Wr (fun j => j = q) W3 w1 := hwd.trans (Wr.ofBelow hb1)
  have hh1 : w1.heap[q]? = _ := (hb1.block q (Array.getElem?_eq_some_iff.1 hl.head).1).trans hl.head
  have ho1 : w1.ownsRow W3.heap.size 88 2 (.slice va7 k c7) k xs := owns_keep hown fun j e => hb1.block j (hown.lt j e).2
  have hwa : Wr (fun j => j = q) W3 (w1.alloc (.cells #[.string x.k, .pointer (some ⟨p2, 0, none⟩)] 88)) := hw1.trans (Wr.ofBelow ((Below.refl _ _).alloc (Nat.le_refl _) _))
  have hql : q < w1.heap.size := (Array.getElem?_eq_some_iff.1 hh1).1
  have hha : (w1.alloc (.cells #[.string x.k, .pointer (some ⟨p2, 0, none⟩)] 88)).heap[q]? = _ := (((Below.refl w1.heap.size w1).alloc (Nat.le_refl _) (.cells #[.string x.k, .pointer (some ⟨p2, 0, none⟩)] 88)).block q hql).trans hh1
  obtain ⟨v9, w9, hrun9, hown9, hwr9, hat9, hne9⟩ := push_gen tyW w1 W3.heap.size (.slice va7 k c7) k _ [.string x.k, .pointer (some ⟨p2, 0, none⟩)] ho1 rfl (by intro y hy; simp at hy; rcases hy with rfl | rfl <;> rfl) (by unfold maxLen; omega) (by omega) hw1.size
  obtain ⟨va9, vc9, rfl⟩ := owns_shape hown9
  have hw9 : Wr (fun j => j = q) W3 w9 := hw1.on hwr9 (fun j e => .inr (ho1.lt j e).1)
  have hh9 : w9.heap[q]? = _ := (hwr9.block q hql (fun e => by have := (ho1.lt q e).1; omega)).trans hh1
  have hws : Wr (fun j => j = q) W3 (w9.setCell ⟨q, 6, none⟩ (.slice va9 (k + 1) vc9)) := hw9.trans (Wr.set _ _ rfl)
  refine ⟨p2, rfl, Lp.rd hs hw1 hrv hx, by simp [World.cell?, hh1], by simp only [World.cell?, hha]; rfl, Lp.rd hs hwa hrv hx, va9, vc9, w9, hrun9, Lp.rd hs hw9 hrv hx, by simp [World.cell?, hh9], by simp [World.frozen?, hh9], Lp.rd hs hws hrv hx, hid ⟨hws, blk_row hh9, _, owns_keep hown9 fun j e => ?_⟩⟩
  have hjq : j ≠ q := fun e2 => by have := (hown9.lt j e).1; omega
  exact (Wr.set (R := fun j => j = q) ⟨q, 6, none⟩ (.slice va9 (k + 1) vc9) rfl).block j (hown9.lt j e).2 hjq

set_option maxRecDepth 20000 in
set_option maxHeartbeats 4000000 in
theorem rfork_any (h : RMem w0 w own C d S) (hd : d ≤ 1000000) :
    Calls Tryz.prog 13 #[.pointer (some ⟨C.h, 0, none⟩)] w fun e w' => ∃ q, e = .returned (.pointer (some ⟨q, 0, none⟩)) ∧ FR w0 w' w.heap.size q C S.ps ∧ Below w.heap.size w w' := by
  obtain ⟨va, vc, hiv⟩ := owns_shape h.items
  obtain ⟨ra, rc, hrv⟩ := owns_shape h.rows
  have HSH := hid (And.intro hiv hrv)
  have hbd : Below w.heap.size w w.drew := (Below.refl _ _).drew
  have HE : Hid (Calls Tryz.prog 34 #[.pointer (some ⟨C.mb, 0, none⟩)] w.drew fun e w1 => ∃ (mb2 : Nat), e = .returned (.pointer (some ⟨mb2, 0, none⟩)) ∧ (w1.cell? ⟨C.h, 0, none⟩ = some (.string C.res) ∧ w1.cell? ⟨C.h, 1, none⟩ = some (.int .i64 C.idx) ∧ w1.cell? ⟨C.h, 2, none⟩ = some (.int .i64 C.cnt) ∧ w1.cell? ⟨C.h, 3, none⟩ = some (.int .i64 C.sec) ∧ w1.cell? ⟨C.h, 4, none⟩ = some (.slice va C.n vc) ∧ w1.cell? ⟨C.h, 5, none⟩ = some (.pointer (some ⟨C.mb, 0, none⟩)) ∧ w1.cell? ⟨C.h, 6, none⟩ = some (.slice ra S.K.length rc) ∧ w1.cell? ⟨C.h, 7, none⟩ = some (.pointer (some ⟨C.sb, 0, none⟩)) ∧ w1.cell? ⟨C.h, 8, none⟩ = some (.int .i64 S.noted)) ∧
      Hid (Calls Tryz.prog 35 #[.pointer (some ⟨C.sb, 0, none⟩)] w1 fun e w2 => ∃ sb2, e = .returned (.pointer (some ⟨sb2, 0, none⟩)) ∧ (w2.cell? ⟨C.h, 0, none⟩ = some (.string C.res) ∧ w2.cell? ⟨C.h, 1, none⟩ = some (.int .i64 C.idx) ∧ w2.cell? ⟨C.h, 2, none⟩ = some (.int .i64 C.cnt) ∧ w2.cell? ⟨C.h, 3, none⟩ = some (.int .i64 C.sec) ∧ w2.cell? ⟨C.h, 4, none⟩ = some (.slice va C.n vc) ∧ w2.cell? ⟨C.h, 5, none⟩ = some (.pointer (some ⟨C.mb, 0, none⟩)) ∧ w2.cell? ⟨C.h, 6, none⟩ = some (.slice ra S.K.length rc) ∧ w2.cell? ⟨C.h, 7, none⟩ = some (.pointer (some ⟨C.sb, 0, none⟩)) ∧ w2.cell? ⟨C.h, 8, none⟩ = some (.int .i64 S.noted)) ∧ Hid (∃ mv2, St w0 w (w2.alloc (.cells #[.string C.res, .int .i64 C.idx, .int .i64 C.cnt, .int .i64 C.sec, .slice va C.n vc, .pointer (some ⟨mb2, 0, none⟩), .slice none 0 0, .pointer (some ⟨sb2, 0, none⟩), .int .i64 S.noted] 81)) own C d S mb2 sb2 w2.heap.size mv2))) := hid ((RefQ.rfork_any ((h.below hbd).map) (Nat.le_trans h.pl h.m1) (h.below hbd).big).mono fun e w1 h1 => by
    obtain ⟨rfl, ⟨mv2, hrm, hvg⟩, a6⟩ := h1
    have hb1 : Below w.heap.size w w1 := hbd.trans (a6.mono (Nat.le_refl _))
    have hM1 := h.below hb1
    refine ⟨w.drew.heap.size, rfl, cells_of hM1 hiv hrv, hid ((SruG.rfork_any hM1.sk).mono fun e w2 h2 => ?_)⟩
    obtain ⟨sb2, rv2, rfl, -, -, -, hb2⟩ := h2
    have hb2' : Below w.heap.size w w2 := hb1.trans (hb2.mono hb1.size)
    have hbz : Below w2.heap.size w2 (w2.alloc (.cells #[.string C.res, .int .i64 C.idx, .int .i64 C.cnt, .int .i64 C.sec, .slice va C.n vc, .pointer (some ⟨w.drew.heap.size, 0, none⟩), .slice none 0 0, .pointer (some ⟨sb2, 0, none⟩), .int .i64 S.noted] 81)) := (Below.refl _ _).alloc (Nat.le_refl _) _
    refine ⟨sb2, rfl, cells_of (h.below hb2') hiv hrv, hid ⟨mv2, ?_⟩⟩
    have hz : Below w.heap.size w (w2.alloc (.cells #[.string C.res, .int .i64 C.idx, .int .i64 C.cnt, .int .i64 C.sec, .slice va C.n vc, .pointer (some ⟨w.drew.heap.size, 0, none⟩), .slice none 0 0, .pointer (some ⟨sb2, 0, none⟩), .int .i64 S.noted] 81)) := hb2'.trans (hbz.mono hb2'.size)
    refine ⟨by rw [hiv]; exact heap_alloc_new _ _, by simp, h.below hz, hz, (hrm.below hb2).below hbz, ⟨Nat.le_refl _, Nat.lt_of_lt_of_le hrm.lt hb2.size⟩, fun g e => ⟨hvg g e, Nat.lt_of_lt_of_le (hrm.row.lt g e).2 hb2.size⟩, h.hlt, fun g e => Nat.lt_of_lt_of_le (h.rows.lt g e).2 hb2'.size, fun x hx e => by have := (h.wins x hx).1.lt; have := hb2'.size; omega, fun x hx g hg e => by have := ((h.wins x hx).1.row.lt g hg).2; have := hb2'.size; omega⟩)
  obtain ⟨c0, c1, c2, c3, c4, c5, c6, c7, c8⟩ := cells_of h hiv hrv
  have hhl := h.hlt
  clear hbd h hiv hrv
  go_enter Tryz.func13, Tryz.ntmps13
  go_upto_region 3 with fail
  go_region_held3 (fun w' => w'.cell? ⟨C.h, 0, none⟩ = some (.string C.res) ∧ w'.cell? ⟨C.h, 1, none⟩ = some (.int .i64 C.idx) ∧ w'.cell? ⟨C.h, 2, none⟩ = some (.int .i64 C.cnt) ∧ w'.cell? ⟨C.h, 3, none⟩ = some (.int .i64 C.sec) ∧ w'.cell? ⟨C.h, 4, none⟩ = some (.slice va C.n vc) ∧ w'.cell? ⟨C.h, 5, none⟩ = some (.pointer (some ⟨C.mb, 0, none⟩)) ∧ w'.cell? ⟨C.h, 6, none⟩ = some (.slice ra S.K.length rc) ∧ w'.cell? ⟨C.h, 7, none⟩ = some (.pointer (some ⟨C.sb, 0, none⟩)) ∧ w'.cell? ⟨C.h, 8, none⟩ = some (.int .i64 S.noted)) (first | assumption | go_keep) (first | (go_at_call 34; with_reducible refine HE.out.mono ?_; rintro e w1 ⟨mb2, rfl, ⟨k0, k1, k2, k3, k4, k5, k6, k7, k8⟩, HS⟩) | (go_at_call 35; with_reducible refine HS.out.mono ?_; rintro e w2 ⟨sb2, rfl, ⟨m0, m1, m2, m3, m4, m5, m6, m7, m8⟩, HF⟩))
  go_upto_region 4 with fail
  obtain ⟨mv2, hst⟩ := HF.out
  obtain ⟨W3, hW3⟩ : ∃ W3, w2.alloc (.cells #[.string C.res, .int .i64 C.idx, .int .i64 C.cnt, .int .i64 C.sec, .slice va C.n vc, .pointer (some ⟨mb2, 0, none⟩), .slice none 0 0, .pointer (some ⟨sb2, 0, none⟩), .int .i64 S.noted] 81) = W3 := ⟨_, rfl⟩
  rw [hW3] at hst ⊢
  clear hW3 HF HE HS
  obtain ⟨q, hq⟩ : ∃ q, w2.heap.size = q := ⟨_, rfl⟩
  rw [hq] at hst ⊢
  have HT := hid hst
  clear hq hst m0 m1 m2 m3 m4 m5 m6 m7 m8 k0 k1 k2 k3 k4 k5 k6 k7 k8 c0 c1 c2 c3 c4 c5 c6 c7 c8 hhl
  obtain ⟨n, hn⟩ : ∃ n, S.K.length = n := ⟨_, rfl⟩
  have HN := hid hn
  have hnd : n ≤ d := by rw [← hn]; exact HT.out.mem.kl
  clear hn
  go_wp2_with fail
  go_loopw [4] (fun i wr => ∃ k : Nat, k ≤ n ∧ i = .int .i64 k ∧ ∃ v, Lp W3 wr C S mb2 sb2 q k v) (fun i _ => n - (intOf i).toNat)
  case atStart => exact ⟨0, Nat.zero_le _, rfl, .slice none 0 0, Wr.refl _ _, HT.out.head, [], World.ownsRow_nil _ _ _ _⟩
  case round =>
    obtain ⟨k, hk, rfl, v, hlp⟩ := hrel
    have HLp := hid hlp
    have h6 : wr.cell? ⟨C.h, 6, none⟩ = some (.slice ra n rc) := by
      have hhq : C.h ≠ q := by have := HT.out.hq; have := HT.out.mq; omega
      have c6 := HT.out.mem.cells.2.2.2.2.2.2.1
      rw [HSH.out.2, HN.out] at c6
      exact (hlp.wr.cell 6 HT.out.mem.hlt hhq).trans c6
    by_cases hlt : k < n
    · obtain ⟨x, hx⟩ : ∃ x, S.K[k]? = some x := ⟨S.K[k]'(by rw [HN.out]; exact hlt), List.getElem?_eq_getElem _⟩
      obtain ⟨g, cc, hv, -⟩ := own_cells HT.out.mem.rows (by rw [HN.out]; omega)
      have hv0 := hv
      rw [HSH.out.2] at hv
      injection hv with e1 e2 e3
      subst e1
      subst e3
      obtain ⟨xs, hown⟩ := hlp.own
      obtain ⟨va7, c7, hv7⟩ := owns_shape hown
      obtain ⟨hrd, q6, hcall⟩ := Lp.step HT.out hlp hd hv0 hx hv7
      rw [HN.out] at hrd hcall
      have ra6 := hrd.a
      have rb6 := hrd.b
      have rc6 := hrd.c
      have HC := hid hcall
      clear hcall hrd hv7 hown xs hv0 e2 hx hlp
      go_upto_region 7 with fail
      refine wp_region_held_drew (S := (fun w' => w'.cell? ⟨C.h, 6, none⟩ = some (.slice (some ⟨g, 0, none⟩) n rc) ∧ w'.cell? ⟨g, k * 2, none⟩ = some (.string x.k) ∧ w'.cell? ⟨g, k * 2 + 1, none⟩ = some (.pointer (some ⟨x.p, 0, none⟩)))) (by kernel_rfl) ⟨ra6, rb6, rc6⟩ (fun hHeld => ?_)
      refine wpAnyH_take (i := 0) (v := ?_) rfl (by kernel_rfl) (by kernel_rfl) (by kernel_rfl) (fun _ _ _ h => h) (Or.inl ⟨by rfl, ?_⟩) (by assumption) ?_
      rotate_left
      · intro w hSw; (try dsimp only at hSw); go_simp; try with_reducible rfl
      try simp only [List.getElem_toArray, List.getElem_cons_succ, List.getElem_cons_zero, Act.put, List.setIfInBounds_toArray, List.set_cons_zero, List.set_cons_succ]
      refine wpAnyH_take (i := 1) (v := ?_) rfl (by kernel_rfl) (by kernel_rfl) (by kernel_rfl) (fun _ _ _ h => h) (Or.inl ⟨by rfl, ?_⟩) (by assumption) ?_
      rotate_left
      · intro w hSw; (try dsimp only at hSw); go_simp; try with_reducible rfl
      try simp only [List.getElem_toArray, List.getElem_cons_succ, List.getElem_cons_zero, Act.put, List.setIfInBounds_toArray, List.set_cons_zero, List.set_cons_succ]
      refine wpAnyH_take (i := 2) (v := ?_) rfl (by kernel_rfl) (by kernel_rfl) (by kernel_rfl) (fun _ _ _ h => h) (Or.inl ⟨by rfl, ?_⟩) (by assumption) ?_
      rotate_left
      · intro w hSw; (try dsimp only at hSw); go_simp; try with_reducible rfl
      try simp only [List.getElem_toArray, List.getElem_cons_succ, List.getElem_cons_zero, Act.put, List.setIfInBounds_toArray, List.set_cons_zero, List.set_cons_succ]
      refine wpAnyH_take (i := 3) (v := ?_) rfl (by kernel_rfl) (by kernel_rfl) (by kernel_rfl) (fun _ _ _ h => h) (Or.inl ⟨by rfl, ?_⟩) (by assumption) ?_
      rotate_left
      · intro w hSw; (try dsimp only at hSw); go_simp; try with_reducible rfl
      try simp only [List.getElem_toArray, List.getElem_cons_succ, List.getElem_cons_zero, Act.put, List.setIfInBounds_toArray, List.set_cons_zero, List.set_cons_succ]
      refine wpAnyH_take (i := 5) (v := ?_) rfl (by kernel_rfl) (by kernel_rfl) (by kernel_rfl) (fun _ _ _ h => h) (Or.inl ⟨by rfl, ?_⟩) (by assumption) ?_
      rotate_left
      · intro w hSw; (try dsimp only at hSw); go_simp; try with_reducible rfl
      try simp only [List.getElem_toArray, List.getElem_cons_succ, List.getElem_cons_zero, Act.put, List.setIfInBounds_toArray, List.set_cons_zero, List.set_cons_succ]
      refine wpAnyH_take (i := 6) (v := ?_) rfl (by kernel_rfl) (by kernel_rfl) (by kernel_rfl) (fun _ _ _ h => h) (Or.inl ⟨by rfl, ?_⟩) (by assumption) ?_
      rotate_left
      · intro w hSw; (try dsimp only at hSw); go_simp; try with_reducible rfl
      try simp only [List.getElem_toArray, List.getElem_cons_succ, List.getElem_cons_zero, Act.put, List.setIfInBounds_toArray, List.set_cons_zero, List.set_cons_succ]
      refine wpAnyH_take (i := 7) (v := ?_) rfl (by kernel_rfl) (by kernel_rfl) (by kernel_rfl) (fun _ _ _ h => h) (Or.inl ⟨by rfl, ?_⟩) (by assumption) ?_
      rotate_left
      · intro w hSw; (try dsimp only at hSw); go_simp; try with_reducible rfl
      try simp only [List.getElem_toArray, List.getElem_cons_succ, List.getElem_cons_zero, Act.put, List.setIfInBounds_toArray, List.set_cons_zero, List.set_cons_succ]
      refine wpAnyH_take (i := 8) (v := ?_) rfl (by kernel_rfl) (by kernel_rfl) (by kernel_rfl) (fun _ _ _ h => h) (Or.inl ⟨by rfl, ?_⟩) (by assumption) ?_
      rotate_left
      · intro w hSw; (try dsimp only at hSw); go_simp; try with_reducible rfl
      try simp only [List.getElem_toArray, List.getElem_cons_succ, List.getElem_cons_zero, Act.put, List.setIfInBounds_toArray, List.set_cons_zero, List.set_cons_succ]
      refine wpAnyH_take (i := 9) (v := ?_) rfl (by kernel_rfl) (by kernel_rfl) (by kernel_rfl) (fun _ _ _ h => h) (Or.inl ⟨by rfl, ?_⟩) (by assumption) ?_
      rotate_left
      · intro w hSw; (try dsimp only at hSw); go_simp; try with_reducible rfl
      try simp only [List.getElem_toArray, List.getElem_cons_succ, List.getElem_cons_zero, Act.put, List.setIfInBounds_toArray, List.set_cons_zero, List.set_cons_succ]
      refine wpAnyH_take (i := 10) (v := ?_) rfl (by kernel_rfl) (by kernel_rfl) (by kernel_rfl) (fun _ _ _ h => h) (Or.inl ⟨by rfl, ?_⟩) (by assumption) ?_
      rotate_left
      · intro w hSw; (try dsimp only at hSw); go_simp; try with_reducible rfl
      try simp only [List.getElem_toArray, List.getElem_cons_succ, List.getElem_cons_zero, Act.put, List.setIfInBounds_toArray, List.set_cons_zero, List.set_cons_succ]
      refine wpAnyH_take (i := 11) (v := ?_) rfl (by kernel_rfl) (by kernel_rfl) (by kernel_rfl) (fun _ _ _ h => h) (Or.inl ⟨by rfl, ?_⟩) (by assumption) ?_
      rotate_left
      · intro w hSw; (try dsimp only at hSw); go_simp; try with_reducible rfl
      try simp only [List.getElem_toArray, List.getElem_cons_succ, List.getElem_cons_zero, Act.put, List.setIfInBounds_toArray, List.set_cons_zero, List.set_cons_succ]
      refine wpAnyH_take (i := 12) (v := ?_) rfl (by kernel_rfl) (by kernel_rfl) (by kernel_rfl) (fun _ _ _ h => h) (Or.inl ⟨by rfl, ?_⟩) (by assumption) ?_
      rotate_left
      · intro w hSw; (try dsimp only at hSw); go_simp; try with_reducible rfl
      try simp only [List.getElem_toArray, List.getElem_cons_succ, List.getElem_cons_zero, Act.put, List.setIfInBounds_toArray, List.set_cons_zero, List.set_cons_succ]
      refine wpAnyH_take (i := 13) (v := ?_) rfl (by kernel_rfl) (by kernel_rfl) (by kernel_rfl) (fun _ _ _ h => h) (Or.inl ⟨by rfl, ?_⟩) (by assumption) ?_
      rotate_left
      · intro w hSw; (try dsimp only at hSw); go_simp; try with_reducible rfl
      try simp only [List.getElem_toArray, List.getElem_cons_succ, List.getElem_cons_zero, Act.put, List.setIfInBounds_toArray, List.set_cons_zero, List.set_cons_succ]
      refine wpAnyH_take (i := 14) (v := ?_) rfl (by kernel_rfl) (by kernel_rfl) (by kernel_rfl) (fun _ _ _ h => h) (Or.inl ⟨by rfl, ?_⟩) (by assumption) ?_
      rotate_left
      · intro w hSw; (try dsimp only at hSw); go_simp; try with_reducible rfl
      try simp only [List.getElem_toArray, List.getElem_cons_succ, List.getElem_cons_zero, Act.put, List.setIfInBounds_toArray, List.set_cons_zero, List.set_cons_succ]
      refine wpAnyH_take (i := 15) (v := ?_) rfl (by kernel_rfl) (by kernel_rfl) (by kernel_rfl) (fun _ _ _ h => h) (Or.inl ⟨by rfl, ?_⟩) (by assumption) ?_
      rotate_left
      · intro w hSw; (try dsimp only at hSw); go_simp; try with_reducible rfl
      try simp only [List.getElem_toArray, List.getElem_cons_succ, List.getElem_cons_zero, Act.put, List.setIfInBounds_toArray, List.set_cons_zero, List.set_cons_succ]
      refine wpAnyH_take (i := 16) (v := ?_) rfl (by kernel_rfl) (by kernel_rfl) (by kernel_rfl) (fun _ _ _ h => h) (Or.inl ⟨by rfl, ?_⟩) (by assumption) ?_
      rotate_left
      · intro w hSw; (try dsimp only at hSw); go_simp; try with_reducible rfl
      try simp only [List.getElem_toArray, List.getElem_cons_succ, List.getElem_cons_zero, Act.put, List.setIfInBounds_toArray, List.set_cons_zero, List.set_cons_succ]
      refine wpAnyH_take (i := 17) (v := ?_) rfl (by kernel_rfl) (by kernel_rfl) (by kernel_rfl) (fun _ _ _ h => h) (Or.inl ⟨by rfl, ?_⟩) (by assumption) ?_
      rotate_left
      · intro w hSw; (try dsimp only at hSw); go_simp; try with_reducible rfl
      try simp only [List.getElem_toArray, List.getElem_cons_succ, List.getElem_cons_zero, Act.put, List.setIfInBounds_toArray, List.set_cons_zero, List.set_cons_succ]
      refine wpAnyH_take (i := 18) (v := ?_) rfl (by kernel_rfl) (by kernel_rfl) (by kernel_rfl) (fun _ _ _ h => h) (Or.inl ⟨by rfl, ?_⟩) (by assumption) ?_
      rotate_left
      · intro w hSw; (try dsimp only at hSw); go_simp; try with_reducible rfl
      try simp only [List.getElem_toArray, List.getElem_cons_succ, List.getElem_cons_zero, Act.put, List.setIfInBounds_toArray, List.set_cons_zero, List.set_cons_succ]
      refine wpAnyH_take (i := 19) (v := ?_) rfl (by kernel_rfl) (by kernel_rfl) (by kernel_rfl) (fun _ _ _ h => h) (Or.inl ⟨by rfl, ?_⟩) (by assumption) ?_
      rotate_left
      · intro w hSw; (try dsimp only at hSw); go_simp; try with_reducible rfl
      try simp only [List.getElem_toArray, List.getElem_cons_succ, List.getElem_cons_zero, Act.put, List.setIfInBounds_toArray, List.set_cons_zero, List.set_cons_succ]
      refine wpAnyH_take (i := 20) (v := ?_) rfl (by kernel_rfl) (by kernel_rfl) (by kernel_rfl) (fun _ _ _ h => h) (Or.inl ⟨by rfl, ?_⟩) (by assumption) ?_
      rotate_left
      · intro w hSw; (try dsimp only at hSw); go_simp; try with_reducible rfl
      try simp only [List.getElem_toArray, List.getElem_cons_succ, List.getElem_cons_zero, Act.put, List.setIfInBounds_toArray, List.set_cons_zero, List.set_cons_succ]
      refine wpAnyH_ready (rs := [4, 21]) (by kernel_rfl) (by simp) ?_
      refine AllReadyH.cons rfl (fun K1 hK1 => ?_) ?_
      · skip
        go_simp
        refine hK1.out _ _ ?_ (fun hHeld1 => ?_)
        · exact ⟨ra6, rb6, rc6⟩
        clear hK1 K1
        refine wpAnyH_ready (rs := [21]) (by kernel_rfl) (by simp) ?_
        refine AllReadyH.cons rfl (fun K2 hK2 => ?_) ?_
        · skip
          go_simp
          go_wp2_with (go_at_call 36; with_reducible refine HC.out.mono ?_; rintro e w1 ⟨p2, rfl, ⟨u1, u2, u3⟩, q1, qa, ⟨ua1, ua2, ua3⟩, va9, vc9, w9, hrun9, ⟨u91, u92, u93⟩, q9, f9, ⟨us1, us2, us3⟩, HL9⟩)
          refine hK2.out _ _ ?_ (fun hHeld2 => ?_)
          · exact ⟨u1, u2, u3⟩
          clear hK2 K2
          refine wpAnyH_take (i := 22) (v := ?_) rfl (by kernel_rfl) (by kernel_rfl) (by kernel_rfl) (fun _ _ _ h => h) (Or.inl ⟨by rfl, ?_⟩) (by assumption) ?_
          rotate_left
          · intro w hSw; (try dsimp only at hSw); go_simp; try with_reducible rfl
          try simp only [List.getElem_toArray, List.getElem_cons_succ, List.getElem_cons_zero, Act.put, List.setIfInBounds_toArray, List.set_cons_zero, List.set_cons_succ]
          refine wpAnyH_ready (rs := [23]) (by kernel_rfl) (by simp) ?_
          refine AllReadyH.cons rfl (fun K3 hK3 => ?_) ?_
          · skip
            go_simp
            refine hK3.out _ _ ?_ (fun hHeld3 => ?_)
            · exact ⟨ua1, ua2, ua3⟩
            clear hK3 K3
            refine wpAnyH_ready (rs := [24]) (by kernel_rfl) (by simp) ?_
            refine AllReadyH.cons rfl (fun K4 hK4 => ?_) ?_
            · skip
              refine step_app (.tmp 40) (.tmp 59) 79 rfl rfl rfl rfl hrun9 ?_
              try simp only [List.getElem_toArray, List.getElem_cons_succ, List.getElem_cons_zero, Act.put, List.setIfInBounds_toArray, List.set_cons_zero, List.set_cons_succ]
              refine hK4.out _ _ ?_ (fun hHeld4 => ?_)
              · exact ⟨u91, u92, u93⟩
              clear hK4 K4
              refine wpAnyH_take (i := 25) (v := ?_) rfl (by kernel_rfl) (by kernel_rfl) (by kernel_rfl) (fun _ _ _ h => h) (Or.inl ⟨by rfl, ?_⟩) (by assumption) ?_
              rotate_left
              · intro w hSw; (try dsimp only at hSw); go_simp; try with_reducible rfl
              try simp only [List.getElem_toArray, List.getElem_cons_succ, List.getElem_cons_zero, Act.put, List.setIfInBounds_toArray, List.set_cons_zero, List.set_cons_succ]
              refine wpAnyH_take (i := 26) (v := ?_) rfl (by kernel_rfl) (by kernel_rfl) (by kernel_rfl) (fun _ _ _ h => h) (Or.inl ⟨by rfl, ?_⟩) (by assumption) ?_
              rotate_left
              · intro w hSw; (try dsimp only at hSw); go_simp; try with_reducible rfl
              try simp only [List.getElem_toArray, List.getElem_cons_succ, List.getElem_cons_zero, Act.put, List.setIfInBounds_toArray, List.set_cons_zero, List.set_cons_succ]
              refine wpAnyH_ready (rs := [27]) (by kernel_rfl) (by simp) ?_
              refine AllReadyH.cons rfl (fun K5 hK5 => ?_) ?_
              · skip
                go_simp
                refine hK5.out _ _ ?_ (fun hHeld5 => ?_)
                · exact ⟨us1, us2, us3⟩
                clear hK5 K5
                refine wpAnyH_done (by kernel_rfl) ?_ _
                go_wp2_with fail
                go_roundw
                case rel => exact ⟨k + 1, by omega, by go_num, _, HL9.out⟩
                case measure => simp [intOf]; omega
              exact AllReadyH.nil
            exact AllReadyH.nil
          exact AllReadyH.nil
        exact AllReadyH.nil
      refine AllReadyH.cons rfl (fun K6 hK6 => ?_) ?_
      · skip
        go_simp
        go_wp2_with (go_at_call 36; with_reducible refine HC.out.mono ?_; rintro e w1 ⟨p2, rfl, ⟨u1, u2, u3⟩, q1, qa, ⟨ua1, ua2, ua3⟩, va9, vc9, w9, hrun9, ⟨u91, u92, u93⟩, q9, f9, ⟨us1, us2, us3⟩, HL9⟩)
        refine hK6.out _ _ ?_ (fun hHeld6 => ?_)
        · exact ⟨u1, u2, u3⟩
        clear hK6 K6
        refine wpAnyH_take (i := 22) (v := ?_) rfl (by kernel_rfl) (by kernel_rfl) (by kernel_rfl) (fun _ _ _ h => h) (Or.inl ⟨by rfl, ?_⟩) (by assumption) ?_
        rotate_left
        · intro w hSw; (try dsimp only at hSw); go_simp; try with_reducible rfl
        try simp only [List.getElem_toArray, List.getElem_cons_succ, List.getElem_cons_zero, Act.put, List.setIfInBounds_toArray, List.set_cons_zero, List.set_cons_succ]
        refine wpAnyH_ready (rs := [4, 23]) (by kernel_rfl) (by simp) ?_
        refine AllReadyH.cons rfl (fun K7 hK7 => ?_) ?_
        · skip
          go_simp
          refine hK7.out _ _ ?_ (fun hHeld7 => ?_)
          · exact ⟨u1, u2, u3⟩
          clear hK7 K7
          refine wpAnyH_ready (rs := [23]) (by kernel_rfl) (by simp) ?_
          refine AllReadyH.cons rfl (fun K8 hK8 => ?_) ?_
          · skip
            go_simp
            refine hK8.out _ _ ?_ (fun hHeld8 => ?_)
            · exact ⟨ua1, ua2, ua3⟩
            clear hK8 K8
            refine wpAnyH_ready (rs := [24]) (by kernel_rfl) (by simp) ?_
            refine AllReadyH.cons rfl (fun K9 hK9 => ?_) ?_
            · skip
              refine step_app (.tmp 40) (.tmp 59) 79 rfl rfl rfl rfl hrun9 ?_
              try simp only [List.getElem_toArray, List.getElem_cons_succ, List.getElem_cons_zero, Act.put, List.setIfInBounds_toArray, List.set_cons_zero, List.set_cons_succ]
              refine hK9.out _ _ ?_ (fun hHeld9 => ?_)
              · exact ⟨u91, u92, u93⟩
              clear hK9 K9
              refine wpAnyH_take (i := 25) (v := ?_) rfl (by kernel_rfl) (by kernel_rfl) (by kernel_rfl) (fun _ _ _ h => h) (Or.inl ⟨by rfl, ?_⟩) (by assumption) ?_
              rotate_left
              · intro w hSw; (try dsimp only at hSw); go_simp; try with_reducible rfl
              try simp only [List.getElem_toArray, List.getElem_cons_succ, List.getElem_cons_zero, Act.put, List.setIfInBounds_toArray, List.set_cons_zero, List.set_cons_succ]
              refine wpAnyH_take (i := 26) (v := ?_) rfl (by kernel_rfl) (by kernel_rfl) (by kernel_rfl) (fun _ _ _ h => h) (Or.inl ⟨by rfl, ?_⟩) (by assumption) ?_
              rotate_left
              · intro w hSw; (try dsimp only at hSw); go_simp; try with_reducible rfl
              try simp only [List.getElem_toArray, List.getElem_cons_succ, List.getElem_cons_zero, Act.put, List.setIfInBounds_toArray, List.set_cons_zero, List.set_cons_succ]
              refine wpAnyH_ready (rs := [27]) (by kernel_rfl) (by simp) ?_
              refine AllReadyH.cons rfl (fun K10 hK10 => ?_) ?_
              · skip
                go_simp
                refine hK10.out _ _ ?_ (fun hHeld10 => ?_)
                · exact ⟨us1, us2, us3⟩
                clear hK10 K10
                refine wpAnyH_done (by kernel_rfl) ?_ _
                go_wp2_with fail
                go_roundw
                case rel => exact ⟨k + 1, by omega, by go_num, _, HL9.out⟩
                case measure => simp [intOf]; omega
              exact AllReadyH.nil
            exact AllReadyH.nil
          exact AllReadyH.nil
        refine AllReadyH.cons rfl (fun K11 hK11 => ?_) ?_
        · skip
          go_simp
          refine hK11.out _ _ ?_ (fun hHeld11 => ?_)
          · exact ⟨ua1, ua2, ua3⟩
          clear hK11 K11
          refine wpAnyH_ready (rs := [4]) (by kernel_rfl) (by simp) ?_
          refine AllReadyH.cons rfl (fun K12 hK12 => ?_) ?_
          · skip
            go_simp
            refine hK12.out _ _ ?_ (fun hHeld12 => ?_)
            · exact ⟨ua1, ua2, ua3⟩
            clear hK12 K12
            refine wpAnyH_ready (rs := [24]) (by kernel_rfl) (by simp) ?_
            refine AllReadyH.cons rfl (fun K13 hK13 => ?_) ?_
            · skip
              refine step_app (.tmp 40) (.tmp 59) 79 rfl rfl rfl rfl hrun9 ?_
              try simp only [List.getElem_toArray, List.getElem_cons_succ, List.getElem_cons_zero, Act.put, List.setIfInBounds_toArray, List.set_cons_zero, List.set_cons_succ]
              refine hK13.out _ _ ?_ (fun hHeld13 => ?_)
              · exact ⟨u91, u92, u93⟩
              clear hK13 K13
              refine wpAnyH_take (i := 25) (v := ?_) rfl (by kernel_rfl) (by kernel_rfl) (by kernel_rfl) (fun _ _ _ h => h) (Or.inl ⟨by rfl, ?_⟩) (by assumption) ?_
              rotate_left
              · intro w hSw; (try dsimp only at hSw); go_simp; try with_reducible rfl
              try simp only [List.getElem_toArray, List.getElem_cons_succ, List.getElem_cons_zero, Act.put, List.setIfInBounds_toArray, List.set_cons_zero, List.set_cons_succ]
              refine wpAnyH_take (i := 26) (v := ?_) rfl (by kernel_rfl) (by kernel_rfl) (by kernel_rfl) (fun _ _ _ h => h) (Or.inl ⟨by rfl, ?_⟩) (by assumption) ?_
              rotate_left
              · intro w hSw; (try dsimp only at hSw); go_simp; try with_reducible rfl
              try simp only [List.getElem_toArray, List.getElem_cons_succ, List.getElem_cons_zero, Act.put, List.setIfInBounds_toArray, List.set_cons_zero, List.set_cons_succ]
              refine wpAnyH_ready (rs := [27]) (by kernel_rfl) (by simp) ?_
              refine AllReadyH.cons rfl (fun K14 hK14 => ?_) ?_
              · skip
                go_simp
                refine hK14.out _ _ ?_ (fun hHeld14 => ?_)
                · exact ⟨us1, us2, us3⟩
                clear hK14 K14
                refine wpAnyH_done (by kernel_rfl) ?_ _
                go_wp2_with fail
                go_roundw
                case rel => exact ⟨k + 1, by omega, by go_num, _, HL9.out⟩
                case measure => simp [intOf]; omega
              exact AllReadyH.nil
            exact AllReadyH.nil
          exact AllReadyH.nil
        exact AllReadyH.nil
      exact AllReadyH.nil
    · go_wp2_with fail
      go_ret
      have hqw : w.heap.size ≤ q := by have := HT.out.mq; omega
      exact ⟨q, rfl, ⟨⟨mb2, sb2, mv2, v, S.noted, HLp.out.head, HT.out.map.keep fun j hj => HLp.out.wr.block j (hj.elim (fun e => e ▸ HT.out.map.lt) (fun e => (HT.out.map.row.lt j e).2)) (fun e => by have e : j = q := e; have h1 := HT.out.mq.2; rcases hj with hj | hj; omega; have h2 := (HT.out.vq j hj).2; omega), HT.out.mq.1, fun g e => (HT.out.vq g e).1⟩, hqw⟩, HT.out.bel.trans (HLp.out.wr.below _ HT.out.bel.size (fun j e => by have e : j = q := e; omega))⟩

end Go.Proofs.YtbihelpnojjacaaGreat.RtJ

/- HotPlays: what is not there; both forks. -/
namespace Go.Proofs.YtbihelpnojjacaaGreat.RtL
open Go.ChangeShapes Go.WideShapes Go.ChangeAt Go.RowKit Base Wri LruA HotA HotB HotC HotD HotE HotF HotG HotH HotI HotJ HotK HotL HotM HotN HotO HotZ RefL RefM RwR RwS RwD RwF RwG RwE RhA RhB RhC RhD RhE RhF RhG RhH RhK RtA RtB RtD RtQ RtG RtH RtI RtJ
set_option linter.unusedVariables false
set_option linter.unusedSimpArgs false
variable {B : Nat → Prop} {w0 w w' : World} {C : HC} {D : RC} {d : Nat}

set_option maxHeartbeats 400000 in
theorem rFork_nil (w : World) : Calls Tryz.prog 13 #[.pointer none] w fun e w' => e = .returned (.pointer none) ∧ w = w' := by
  go_enter Tryz.func13, Tryz.ntmps13
  go_wp2
  go_ret
  exact ⟨rfl, rfl⟩

set_option maxHeartbeats 400000 in
theorem rUsed_nil (t : Int) (s : ByteArray) (w : World) : Calls Tryz.prog 37 #[.pointer none, .int .i64 t, .string s] w fun e w' => e = .returned (.tuple #[.int .i64 0, .int .i64 1]) ∧ w = w' := by
  go_enter Tryz.func37, Tryz.ntmps37
  go_wp2_with fail
  refine (rlook_nil _ _ _ _).mono ?_
  rintro e w1 ⟨rfl, rfl⟩
  go_wp2
  go_ret2
  exact ⟨rfl, rfl⟩

theorem fork_both (hF : Full B w0 C D d w) (hd : d ≤ 1000000) :
    Calls Tryz.prog 12 #[.pointer (some ⟨C.h, 0, none⟩)] w fun e w1 => ∃ q1, e = .returned (.pointer (some ⟨q1, 0, none⟩)) ∧ Below w.heap.size w w1 ∧
      Calls Tryz.prog 13 #[.pointer (some ⟨D.h, 0, none⟩)] w1 fun e w2 => ∃ q2, e = .returned (.pointer (some ⟨q2, 0, none⟩)) ∧ Below w.heap.size w w2 ∧
        ∃ ps, FK w2 w.heap.size q1 C (ps.map Prod.fst) ∧ FR w0 w2 w.heap.size q2 D ps ∧ ps.length ≤ D.most ∧ D.most ≤ 4096 ∧ Full (fun k => B k ∨ (w.heap.size ≤ k ∧ k < w2.heap.size)) w0 C D d w2 := by
  obtain ⟨oP, oD, la, L, K, Z, S, h⟩ := hF
  refine (fork2 h.p).mono ?_
  rintro e w1 ⟨q1, rfl, hk, hb1⟩
  refine ⟨q1, rfl, hb1, (RtJ.rfork_any (h.r.below hb1) hd).mono ?_⟩
  rintro e w2 ⟨q2, rfl, hr, hb2⟩
  have hb : Below w.heap.size w w2 := hb1.trans (hb2.mono hb1.size)
  have hkk : FK w2 w.heap.size q1 C (L.map LruC.Ent.k) := hk.wr (R := fun _ => False) (Wr.ofBelow hb2) (fun _ _ _ e => e)
  rw [h.tie.keys] at hkk
  obtain ⟨⟨mb, sb, mv, rv, noted, x1, x2, x3, x4⟩, x5⟩ := hr
  exact ⟨q2, rfl, hb, S.ps, hkk, ⟨⟨mb, sb, mv, rv, noted, x1, x2, Nat.le_trans hb1.size x3, fun g e => Nat.le_trans hb1.size (x4 g e)⟩, Nat.le_trans hb1.size x5⟩, h.r.pl, h.r.m1, _, _, _, _, _, _, _, RtQ.fresh_of h hb⟩

set_option maxRecDepth 20000 in
set_option maxHeartbeats 2000000 in
theorem do_nil (kd at_ m : Int) (s : ByteArray) (hs : s.size ≤ maxLen) (w : World) :
    Calls Tryz.prog 14 #[.pointer none, .pointer none, .agg #[.int .i64 kd, .int .i64 at_, .string s, .int .i64 m]] w fun e w' => e = .returned (.bool true) ∧ Below w.heap.size w w' := by
  have hbX : Below w.heap.size w (w.alloc (.cells #[.int .i64 kd, .int .i64 at_, .string s, .int .i64 m] 41)) := (Below.refl _ _).alloc (Nat.le_refl _) _
  have hcX : (w.alloc (.cells #[.int .i64 kd, .int .i64 at_, .string s, .int .i64 m] 41)).heap[w.heap.size]? = some (.cells #[.int .i64 kd, .int .i64 at_, .string s, .int .i64 m] 41) := heap_alloc_new _ _
  obtain ⟨X, hX⟩ : ∃ X, w.heap.size = X := ⟨_, rfl⟩
  obtain ⟨W, hW⟩ : ∃ W, w.alloc (.cells #[.int .i64 kd, .int .i64 at_, .string s, .int .i64 m] 41) = W := ⟨_, rfl⟩
  rw [hW] at hbX hcX
  rw [hX] at hcX
  have HBX := hid hbX
  clear hbX
  go_enter Tryz.func14, Tryz.ntmps14
  go_upto_region 1 with fail
  clear hW hX
  have x0 : W.cell? ⟨X, 0, none⟩ = some (.int .i64 kd) := by simp [World.cell?, hcX]
  have x1 : W.cell? ⟨X, 1, none⟩ = some (.int .i64 at_) := by simp [World.cell?, hcX]
  have x2 : W.cell? ⟨X, 2, none⟩ = some (.string s) := by simp [World.cell?, hcX]
  have x3 : W.cell? ⟨X, 3, none⟩ = some (.int .i64 m) := by simp [World.cell?, hcX]
  clear hcX
  by_cases hk0 : kd = 0
  · subst hk0
    go_wp2_with fail
    refine (Used_nil _ _ _).mono ?_
    rintro e w2 ⟨rfl, rfl⟩
    go_wp2_with fail
    refine (rUsed_nil _ _ _).mono ?_
    rintro e w3 ⟨rfl, rfl⟩
    go_wp2_with fail
    go_ret
    exact ⟨rfl, HBX.out⟩
  · have n0 : (kd == 0) = false := by simpa using hk0
    by_cases hk1 : kd = 1
    · subst hk1
      go_wp2_with fail
      refine (Look_nil _ _ _ _).mono ?_
      rintro e w2 ⟨rfl, hb2⟩
      have y1 : w2.cell? ⟨X, 1, none⟩ = some (.int .i64 at_) := RwC.kc hb2 x1
      have y2 : w2.cell? ⟨X, 2, none⟩ = some (.string s) := RwC.kc hb2 x2
      have y3 : w2.cell? ⟨X, 3, none⟩ = some (.int .i64 m) := RwC.kc hb2 x3
      have HB2 := hid (HBX.out.trans (hb2.mono HBX.out.size))
      clear hb2 x0 x1 x2 x3
      go_wp2_with fail
      refine (rLook_nil _ _ _ _).mono ?_
      rintro e w3 ⟨rfl, rfl⟩
      go_wp2_with fail
      go_ret
      exact ⟨rfl, HB2.out⟩
    · have n1 : (kd == 1) = false := by simpa using hk1
      clear hk0 hk1
      go_wp2_with fail
      refine (Take_nil _ _ _ _).mono ?_
      rintro e w2 ⟨rfl, hb2⟩
      have y1 : w2.cell? ⟨X, 1, none⟩ = some (.int .i64 at_) := RwC.kc hb2 x1
      have y2 : w2.cell? ⟨X, 2, none⟩ = some (.string s) := RwC.kc hb2 x2
      have y3 : w2.cell? ⟨X, 3, none⟩ = some (.int .i64 m) := RwC.kc hb2 x3
      have HB2 := hid (HBX.out.trans (hb2.mono HBX.out.size))
      clear hb2 x0 x1 x2 x3
      go_wp2_with fail
      refine (rTake_nil _ _ _ _).mono ?_
      rintro e w3 ⟨rfl, rfl⟩
      have kb0 : Below w2.heap.size w2 w2.drew := (Below.refl _ _).drew
      have HLm := hid (fun (w' : World) => Limit_nil s w')
      have HLr := hid (fun (w' : World) => rLimit_nil s w')
      have HKm := hid (fun (w' : World) => HotZ.Kept_nil w')
      have HKr := hid (fun (w' : World) => rKept_nil w')
      have HTx := hid (fun (w' : World) => texts_nil w')
      go_upto_region 12 with fail
      go_region_held3 (fun w' => w'.cell? ⟨X, 2, none⟩ = some (.string s)) (first | assumption | go_keep) (first
        | (go_at_call 18; with_reducible refine (HLm.out _).mono ?_; rintro e w9 ⟨rfl, rfl⟩)
        | (go_at_call 19; with_reducible refine (HLr.out _).mono ?_; rintro e w9 ⟨rfl, rfl⟩)
        | (go_at_call 16; with_reducible refine (HKm.out _).mono ?_; rintro e w9 ⟨rfl, rfl⟩)
        | (go_at_call 17; with_reducible refine (HKr.out _).mono ?_; rintro e w9 ⟨rfl, rfl⟩)
        | (go_at_call 15; with_reducible refine (HTx.out _).mono ?_; rintro e w9 ⟨rfl, hb⟩; have q2 : w9.cell? ⟨X, 2, none⟩ = some (.string s) := RwC.kc hb (by first | assumption | go_cell); have kb : Below w2.heap.size w2 w9 := bs (by first | assumption | exact Below.drew (by assumption)) hb))
      rename_i hHeld
      clear hHeld
      have HBl := hid kb
      clear HLm HLr HKm HKr HTx q2 kb0
      go_wp2_with fail
      go_ret
      exact ⟨rfl, HB2.out.trans (HBl.out.mono HB2.out.size)⟩


end Go.Proofs.YtbihelpnojjacaaGreat.RtL

/- HotPlays: Limit and Kept of a document's copy. -/
namespace Go.Proofs.YtbihelpnojjacaaGreat.RtK
open Go.ChangeShapes Go.WideShapes Go.ChangeAt Go.RowKit Base Wri LruA HotA HotJ RefL RefM RwR RwS RwD RwF RwG RwE RhA RhB RhC RhD RhF RhG RhH RtI
set_option linter.unusedVariables false
set_option linter.unusedSimpArgs false
variable {w0 w w' : World} {own : Nat → Tg} {C : RC} {d : Nat} {S : RS}

set_option maxRecDepth 20000 in
set_option maxHeartbeats 4000000 in
theorem FR.Limit {B q : Nat} {ps : List (ByteArray × Int)} (hk : FR w0 w B q C ps) (h : RMem w0 w own C d S) (s : ByteArray) :
    Calls Tryz.prog 19 #[.pointer (some ⟨q, 0, none⟩), .string s] w fun e w' => e = .returned (.int .i64 (limR C s)) ∧ w = w' := by
  obtain ⟨mb, sb, mv, rv, noted, hdd, -⟩ := hk.ex
  have c2 : w.cell? ⟨q, 2, none⟩ = some (.int .i64 C.cnt) := by simp [World.cell?, hdd]
  have c4 : w.cell? ⟨q, 4, none⟩ = some C.iv := by simp [World.cell?, hdd]
  clear hdd hk
  obtain ⟨va, vc, hiv⟩ := owns_shape h.items
  rw [hiv] at c4
  have HI := hid h.items
  have hn1 := h.n1
  obtain ⟨n, hn⟩ : ∃ n, C.n = n := ⟨_, rfl⟩
  have HN := hid hn
  have HIV := hid hiv
  rw [hn] at c4 hn1
  have HL := hid (show limR C s = limG C.f C.cnt s 0 n by unfold limR; rw [hn])
  obtain ⟨r, hr⟩ : ∃ r, limR C s = r := ⟨_, rfl⟩
  rw [hr] at HL ⊢
  clear h hn hiv hr
  go_enter Tryz.func19, Tryz.ntmps19
  go_wp2_with fail
  go_loop [5] (fun i => ∃ k : Nat, k ≤ n ∧ i = .int .i64 k ∧ r = limG C.f C.cnt s k (n - k)) (fun i => n - (intOf i).toNat)
  case atStart => exact ⟨0, Nat.zero_le _, rfl, by rw [Nat.sub_zero]; exact HL.out⟩
  case round =>
    obtain ⟨k, hk, rfl, hlim⟩ := hrel
    have HLim := hid hlim
    clear hlim
    by_cases hlt : k < n
    · obtain ⟨g, cc, hv, hg, hgl, hnc, hfz, hcl⟩ := own_cells HI.out (by rw [HN.out]; omega)
      rw [HIV.out, HN.out] at hv
      injection hv with e1 e2 e3
      subst e1
      subst e3
      obtain ⟨i0, i1⟩ := cI_at C.f C.n k (by rw [HN.out]; exact hlt)
      have c10 := hcl _ _ i0
      have c11 := hcl _ _ i1
      have hst : limG C.f C.cnt s k (n - k) = if (C.f k).1 = s then (C.f k).2 else limG C.f C.cnt s (k + 1) (n - (k + 1)) := by
        rw [show n - k = (n - (k + 1)) + 1 by omega]; rfl
      have HSt := hid hst
      obtain ⟨⟨s2, v2⟩, hf⟩ : ∃ x, C.f k = x := ⟨_, rfl⟩
      rw [hf] at c10 c11 HSt
      dsimp only at c10 c11 HSt
      clear hst hf i0 i1 hcl hg hnc hfz
      by_cases he : s2 = s
      · subst he
        have HRr := hid (show r = v2 by rw [HLim.out, HSt.out, if_pos rfl])
        go_wp2_with fail
        go_ret
        exact ⟨HotJ.ret_int HRr.out.symm, rfl⟩
      · have n3 : (s2.toList == s.toList) = false := by rw [Txt.text_eq]; exact decide_eq_false he
        have HRr := hid (show r = limG C.f C.cnt s (k + 1) (n - (k + 1)) by rw [HLim.out, HSt.out, if_neg he])
        go_wp2_with fail
        go_round
        case rel => exact ⟨k + 1, hlt, by go_num, HRr.out⟩
        case measure => simp [intOf]; omega
    · obtain rfl : k = n := by omega
      have HRr := hid (show r = C.cnt by rw [HLim.out, Nat.sub_self]; rfl)
      go_wp2_with fail
      go_ret
      exact ⟨HotJ.ret_int HRr.out.symm, rfl⟩

set_option maxHeartbeats 1000000 in
theorem FR.Kept {B q : Nat} {ps : List (ByteArray × Int)} (hk : FR w0 w B q C ps) (hp : ps.length ≤ C.most) (hm : C.most ≤ 4096) :
    Calls Tryz.prog 17 #[.pointer (some ⟨q, 0, none⟩)] w fun e w' => (∃ x, e = .returned x ∧ RefP.OwnS w.heap.size w' x (ps.map Prod.fst)) ∧ Below w.heap.size w w' := by
  obtain ⟨mb, sb, mv, rv, noted, hdd, hrm, -⟩ := hk.ex
  have c5 : w.cell? ⟨q, 5, none⟩ = some (.pointer (some ⟨mb, 0, none⟩)) := by simp [World.cell?, hdd]
  have HK := hid (RefP.rkeys_any hrm (Nat.le_trans hp hm))
  unfold ptr at HK
  clear hk hdd hrm
  go_enter Tryz.func17, Tryz.ntmps17
  go_wp2_with fail
  refine HK.out.mono ?_
  rintro e w1 ⟨⟨x, rfl, ho⟩, hb⟩
  have HO := hid ho
  have HB := hid hb
  clear ho hb HK
  go_wp2_with fail
  go_ret
  exact ⟨⟨x, rfl, HO.out⟩, HB.out⟩

end Go.Proofs.YtbihelpnojjacaaGreat.RtK

/- HotPlays: what a round keeps. -/
namespace Go.Proofs.YtbihelpnojjacaaGreat.RtM
open Go.ChangeShapes Go.WideShapes Go.ChangeAt Go.RowKit Base Wri LruA HotA HotB HotC HotD HotE HotF HotG HotH HotI HotJ HotK HotL HotM HotN HotO HotZ RefL RefM RwR RwS RwD RwF RwG RwE RhA RhB RhC RhD RhE RhF RhG RhH RhK RtA RtB RtD RtQ RtG RtH RtI RtJ RtL
set_option linter.unusedVariables false
set_option linter.unusedSimpArgs false
variable {w00 w w' : World} {d : Nat} {hv rv gv tv : Value}

/-- both, or none -/
def Pre (X0 d : Nat) (hv rv : Value) (w : World) : Prop := (hv = .pointer none ∧ rv = .pointer none) ∨ ∃ (C : HC) (D : RC) (w0 : World) (Bp : Nat → Prop), hv = .pointer (some ⟨C.h, 0, none⟩) ∧ rv = .pointer (some ⟨D.h, 0, none⟩) ∧ RGood D ∧ 1 ≤ D.most ∧ Full Bp w0 C D d w ∧ ∀ k, k < X0 → Bp k

theorem Pre.below {X0 : Nat} (h : Pre X0 d hv rv w) (hb : Below w.heap.size w w') : Pre X0 d hv rv w' := by
  rcases h with h | ⟨C, D, w0, Bp, h1, h2, h3, h4, h5, h6⟩
  · exact .inl h
  · exact .inr ⟨C, D, w0, Bp, h1, h2, h3, h4, h5.below hb, h6⟩

/-- both and their copies, or none -/
def One (X0 d : Nat) (hv rv gv tv : Value) (w : World) : Prop := (hv = .pointer none ∧ rv = .pointer none ∧ gv = .pointer none ∧ tv = .pointer none) ∨ ∃ (C : HC) (D : RC) (w0 : World) (Bp : Nat → Prop) (q1 q2 : Nat) (wF : World) (b : Nat) (ps : List (ByteArray × Int)), hv = .pointer (some ⟨C.h, 0, none⟩) ∧ rv = .pointer (some ⟨D.h, 0, none⟩) ∧ gv = .pointer (some ⟨q1, 0, none⟩) ∧ tv = .pointer (some ⟨q2, 0, none⟩) ∧ (RGood D ∧ 1 ≤ D.most ∧ D.most ≤ 4096 ∧ ps.length ≤ D.most) ∧ Full Bp w0 C D d w ∧ (∀ k, k < X0 → Bp k) ∧ FK wF b q1 C (ps.map Prod.fst) ∧ FR w0 wF b q2 D ps ∧ (∀ k, b ≤ k → k < wF.heap.size → Bp k) ∧ Wr (fun k => ¬ Bp k) wF w

def Inv (w00 : World) (d : Nat) (hv rv gv tv : Value) (w : World) : Prop := Below w00.heap.size w00 w ∧ One w00.heap.size d hv rv gv tv w

theorem Inv.pre (h : Inv w00 d hv rv gv tv w) : Pre w00.heap.size d hv rv w := by
  rcases h.2 with ⟨h1, h2, -, -⟩ | ⟨C, D, w0, Bp, q1, q2, wF, b, ps, h1, h2, -, -, ⟨h5, h6, -, -⟩, h7, h8, -⟩
  · exact .inl ⟨h1, h2⟩
  · exact .inr ⟨C, D, w0, Bp, h1, h2, h5, h6, h7, h8⟩

theorem forks (hb : Below w00.heap.size w00 w) (h : Pre w00.heap.size d hv rv w) (hd : d ≤ 1000000) :
    Calls Tryz.prog 12 #[hv] w fun e w1 => ∃ gv, e = .returned gv ∧ Calls Tryz.prog 13 #[rv] w1 fun e w2 => ∃ tv, e = .returned tv ∧ Inv w00 d hv rv gv tv w2 := by
  rcases h with ⟨rfl, rfl⟩ | ⟨C, D, w0, Bp, rfl, rfl, h5, h6, h7, h8⟩
  · refine (Fork_nil w).mono ?_
    rintro e w1 ⟨rfl, rfl⟩
    refine ⟨_, rfl, (rFork_nil w).mono ?_⟩
    rintro e w2 ⟨rfl, rfl⟩
    exact ⟨_, rfl, hb, .inl ⟨rfl, rfl, rfl, rfl⟩⟩
  · refine (fork_both h7 hd).mono ?_
    rintro e w1 ⟨q1, rfl, hb1, hc⟩
    refine ⟨_, rfl, hc.mono ?_⟩
    rintro e w2 ⟨q2, rfl, hb2, ps, a1, a2, a3, a4, a5⟩
    exact ⟨_, rfl, hb.trans (hb2.mono hb.size), .inr ⟨C, D, w0, _, q1, q2, w2, w.heap.size, ps, rfl, rfl, rfl, rfl, ⟨h5, h6, a4, a3⟩, a5, fun k hk => .inl (h8 k hk), a1, a2, fun k h1 h2 => .inr ⟨h1, h2⟩, Wr.refl _ _⟩⟩

theorem dos (h : Inv w00 d hv rv gv tv w) (hd : d + 2 ≤ 1000000) (kd at_ m : Int) (s : ByteArray) (hs : s.size ≤ maxLen) :
    Calls Tryz.prog 14 #[hv, rv, .agg #[.int .i64 kd, .int .i64 at_, .string s, .int .i64 m]] w fun e w' => e = .returned (.bool true) ∧ Inv w00 (d + 2) hv rv gv tv w' := by
  obtain ⟨hb, h⟩ := h
  rcases h with ⟨rfl, rfl, h3, h4⟩ | ⟨C, D, w0, Bp, q1, q2, wF, b, ps, rfl, rfl, h3, h4, ⟨h5, h6, h61, h62⟩, h7, h8, h9, h10, h11, h12⟩
  · refine (do_nil kd at_ m s hs w).mono ?_
    rintro e w1 ⟨rfl, hb1⟩
    exact ⟨rfl, hb.trans (hb1.mono hb.size), .inl ⟨rfl, rfl, h3, h4⟩⟩
  · refine (do_any h7 hd h5 h6 kd at_ m s hs).mono ?_
    rintro e w1 ⟨rfl, hF, hw⟩
    exact ⟨rfl, hb.trans (hw.below _ hb.size fun k hk => Nat.le_of_not_lt fun h => hk (h8 k h)), .inr ⟨C, D, w0, Bp, q1, q2, wF, b, ps, rfl, rfl, h3, h4, ⟨h5, h6, h61, h62⟩, hF, h8, h9, h10, h11, h12.trans hw⟩⟩

theorem ends (h : Inv w00 d hv rv gv tv w) (s : ByteArray) (hs : s.size ≤ maxLen) :
    Calls Tryz.prog 16 #[gv] w fun e w1 => ∃ kv, e = .returned kv ∧ Calls Tryz.prog 17 #[tv] w1 fun e w2 => ∃ lv, e = .returned lv ∧ Calls Tryz.prog 15 #[kv, lv] w2 fun e w3 => e = .returned (.bool true) ∧
      Calls Tryz.prog 18 #[gv, .string s] w3 fun e w4 => ∃ n : Int, e = .returned (.int .i64 n) ∧ Calls Tryz.prog 19 #[tv, .string s] w4 fun e w5 => e = .returned (.int .i64 n) ∧ Below w00.heap.size w00 w5 := by
  obtain ⟨hb, h⟩ := h
  rcases h with ⟨rfl, rfl, rfl, rfl⟩ | ⟨C, D, w0, Bp, q1, q2, wF, b, ps, rfl, rfl, rfl, rfl, ⟨h5, h6, h61, h62⟩, h7, h8, h9, h10, h11, h12⟩
  · refine (HotZ.Kept_nil w).mono ?_
    rintro e w1 ⟨rfl, rfl⟩
    refine ⟨_, rfl, (rKept_nil w).mono ?_⟩
    rintro e w2 ⟨rfl, rfl⟩
    refine ⟨_, rfl, (texts_nil w).mono ?_⟩
    rintro e w3 ⟨rfl, hb3⟩
    refine ⟨rfl, (Limit_nil s w3).mono ?_⟩
    rintro e w4 ⟨rfl, rfl⟩
    refine ⟨0, rfl, (rLimit_nil s w3).mono ?_⟩
    rintro e w5 ⟨rfl, rfl⟩
    exact ⟨rfl, hb.trans (hb3.mono hb.size)⟩
  · have hk := h9.wr h12 fun k a1 a2 hn => hn (h11 k a1 a2)
    have hr := h10.wr h12 fun k a1 a2 hn => hn (h11 k a1 a2)
    obtain ⟨oP, oD, la, L, K, Z, S, hT⟩ := h7
    refine (RtH.FK.Kept hk).mono ?_
    rintro e w1 ⟨⟨a1, c1, rfl, hr1⟩, hb1⟩
    have hrb1 : FR w0 w1 b q2 D ps := hr.wr (R := fun _ => False) (Wr.ofBelow hb1) (fun _ _ _ e => e)
    refine ⟨_, rfl, (RtK.FR.Kept hrb1 h62 h61).mono ?_⟩
    rintro e w2 ⟨⟨x, rfl, hx⟩, hb2⟩
    unfold RefP.OwnS at hx
    obtain ⟨a2, c2, rfl⟩ := owns_shape hx
    have hr2 := owns_keep hr1 fun g e => hb2.block g (hr1.lt g e).2
    refine ⟨_, rfl, (texts_any (ps.map Prod.fst) a1 a2 c1 c2 _ _ w2 (by rw [List.length_map]; omega) hr2 hx).mono ?_⟩
    rintro e w3 ⟨rfl, hb3⟩
    have hb12 : Below w.heap.size w w3 := (hb1.trans (hb2.mono hb1.size)).trans (hb3.mono (Nat.le_trans hb1.size hb2.size))
    have hk3 : FK w3 b q1 C (ps.map Prod.fst) := hk.wr (R := fun _ => False) (Wr.ofBelow hb12) (fun _ _ _ e => e)
    refine ⟨rfl, (RtH.FK.Limit hk3 (hT.below hb12).p s hs).mono ?_⟩
    rintro e w4 ⟨rfl, hb4⟩
    have hb14 : Below w.heap.size w w4 := hb12.trans (hb4.mono hb12.size)
    have hr4 : FR w0 w4 b q2 D ps := hr.wr (R := fun _ => False) (Wr.ofBelow hb14) (fun _ _ _ e => e)
    refine ⟨limN C s, rfl, (RtK.FR.Limit hr4 (hT.below hb14).r s).mono ?_⟩
    rintro e w5 ⟨rfl, rfl⟩
    exact ⟨by rw [hT.tie.lim s], hb.trans (hb14.mono hb.size)⟩

end Go.Proofs.YtbihelpnojjacaaGreat.RtM

/- HotPlays: the law's walk. -/
namespace Go.Proofs.YtbihelpnojjacaaGreat.RtN
open Go.ChangeShapes Go.WideShapes Go.ChangeAt Go.RowKit Base Wri LruA HotA HotB HotC HotD HotE HotF HotG HotH HotI HotJ HotK HotL HotM HotN HotO HotZ RefL RefM RwR RwS RwD RwF RwG RwE RhA RhB RhC RhD RhE RhF RhG RhH RhK RtA RtB RtD RtE RtQ RtG RtH RtI RtJ RtL RtM
set_option linter.unusedVariables false
set_option linter.unusedSimpArgs false

theorem pre_of {w00 w : World} {b : Nat} {hv rv : Value} (hb : w00.heap.size ≤ b) (h : J b hv rv w) : Pre w00.heap.size 0 hv rv w := by
  rcases h with h | ⟨C, D, w0, h1, h2, h3, h4, h5⟩
  · exact .inl h
  · exact .inr ⟨C, D, w0, _, h1, h2, h4, h5, full_of h3, fun k hk => Nat.lt_of_lt_of_le hk hb⟩

set_option maxRecDepth 20000 in
set_option maxHeartbeats 4000000 in
theorem plays_core (res : ByteArray) (hres : res.size ≤ maxLen) (idx cnt sec : Int) (a : Option Addr) (n cap : Nat) (keys : Int) (seed : Nat) (f : Nat → Itm) (al : Option Addr) (nl cl : Nat) (g : Nat → Dd) (w : World) (hI : ItAt w a n f) (hfit : ∀ i, i < n → (f i).1.size ≤ maxLen) (hsd : seed < 18446744073709551616) (hD : DeAt w al nl g) (hfit2 : ∀ i, i < nl → (g i).s.size ≤ maxLen) :
    Calls Tryz.prog 3 #[.agg #[.string res, .int .i64 idx, .int .i64 cnt, .int .i64 sec, .slice a n cap, .int .i64 keys, .int .u64 seed], .slice al nl cl] w fun e w' => e = .returned (.bool true) ∧ Below w.heap.size w w' := by
  obtain ⟨W, hW⟩ : ∃ W, w.alloc (.cells #[.string res, .int .i64 idx, .int .i64 cnt, .int .i64 sec, .slice a n cap, .int .i64 keys, .int .u64 seed] 27) = W := ⟨_, rfl⟩
  have hbw : Below w.heap.size w W := by rw [← hW]; exact (Below.refl _ _).alloc (Nat.le_refl _) _
  have hxw : W.heap[w.heap.size]? = some (.cells #[.string res, .int .i64 idx, .int .i64 cnt, .int .i64 sec, .slice a n cap, .int .i64 keys, .int .u64 seed] 27) := by rw [← hW]; exact heap_alloc_new _ _
  have hsz : W.heap.size = w.heap.size + 1 := by rw [← hW]; simp
  have HN := hid (New_v res hres idx cnt sec a a n cap cap keys seed f W (hI.below hbw) (hI.below hbw) hfit hsd)
  have HB := hid (And.intro hbw (And.intro hxw hsz))
  have HD := hid (And.intro hD hfit2)
  have HL := hid live_any
  clear hbw hxw hsz hI hfit hD hfit2
  go_enter Tryz.func3, Tryz.ntmps3
  go_upto_region 1 with fail
  try rw [hW]
  clear hW
  obtain ⟨X, hX⟩ : ∃ X, w.heap.size = X := ⟨_, rfl⟩
  have HX := hid hX
  have hc := HB.out.2.1
  rw [hX] at hc ⊢
  clear hX
  have d0 : W.cell? ⟨X, 0, none⟩ = some (.string res) := by simp [World.cell?, hc]
  have d1 : W.cell? ⟨X, 1, none⟩ = some (.int .i64 idx) := by simp [World.cell?, hc]
  have d2 : W.cell? ⟨X, 2, none⟩ = some (.int .i64 cnt) := by simp [World.cell?, hc]
  have d3 : W.cell? ⟨X, 3, none⟩ = some (.int .i64 sec) := by simp [World.cell?, hc]
  have d4 : W.cell? ⟨X, 4, none⟩ = some (.slice a n cap) := by simp [World.cell?, hc]
  have d5 : W.cell? ⟨X, 5, none⟩ = some (.int .i64 keys) := by simp [World.cell?, hc]
  have d6 : W.cell? ⟨X, 6, none⟩ = some (.int .u64 seed) := by simp [World.cell?, hc]
  unfold hotV at HN
  go_wp2_with fail
  refine HN.out.mono ?_
  rintro e w1 ⟨hv, rfl, hb1, hc1⟩
  have HB1 := hid hb1
  have HC1 := hid hc1
  have e0 := RwC.kc hb1 d0
  have e1 := RwC.kc hb1 d1
  have e2 := RwC.kc hb1 d2
  have e3 := RwC.kc hb1 d3
  have e4 := RwC.kc hb1 d4
  have e5 := RwC.kc hb1 d5
  have e6 := RwC.kc hb1 d6
  clear hb1 hc1 d0 d1 d2 d3 d4 d5 d6 hc HN
  generalize newE (hotR res idx cnt sec n f) keys = ne at *
  go_wp2_with fail
  refine HC1.out.mono ?_
  rintro e w2 ⟨rv, rfl, hb2, hJ⟩
  have HB2 := hid (show Below w.heap.size w w2 from (HB.out.1.trans (HB1.out.mono HB.out.1.size)).trans (hb2.mono (Nat.le_trans HB.out.1.size HB1.out.size)))
  have HJ := hid (pre_of (w00 := w) (by have := HB.out.2.2; omega) hJ)
  have HCas := hid (show (hv = .pointer none ∧ rv = .pointer none) ∨ ∃ p q, hv = .pointer (some ⟨p, 0, none⟩) ∧ rv = .pointer (some ⟨q, 0, none⟩) from hJ.imp id fun ⟨C, D, _, h1, h2, _⟩ => ⟨C.h, D.h, h1, h2⟩)
  clear hb2 hJ e0 e1 e2 e3 e4 e5 e6 HC1 HB1 HB
  rcases HCas.out with ⟨rfl, rfl⟩ | ⟨ph, pr, rfl, rfl⟩
  · clear HCas
    go_wp2_with fail
    refine (HL.out _).mono ?_
    rintro e w3 ⟨rfl, hb3⟩
    have HB3 := hid (HB2.out.trans (hb3.mono HB2.out.size))
    have HP := hid (show Pre w.heap.size 0 (.pointer none) (.pointer none) w3 from Pre.below HJ.out hb3)
    clear hb3 HB2 HJ HL
    have HF := hid (forks HB3.out HP.out (by omega))
    go_wp2_with fail
    refine HF.out.mono ?_
    rintro e w4 ⟨gv, rfl, hf4⟩
    have HF4 := hid hf4
    clear hf4 HF
    go_wp2_with fail
    refine HF4.out.mono ?_
    rintro e w5 ⟨tv, rfl, hi5⟩
    have HI5 := hid hi5
    clear hi5 HF4
    go_wp2_with fail
    go_loopw [9, 10, 11] (fun gv tv i wr => ∃ j : Nat, j ≤ nl ∧ j ≤ 80 ∧ i = .int .i64 j ∧ Inv w (2 * j) (.pointer none) (.pointer none) gv tv wr) (fun _ _ i _ => nl - (intOf i).toNat)
    case atStart => exact ⟨0, Nat.zero_le _, Nat.zero_le _, rfl, HI5.out⟩
    case round =>
      obtain ⟨j, hj, hj80, rfl, hinv⟩ := hrel
      have HV := hid hinv
      clear hinv HI5
      by_cases hlt : j < nl
      · have hji : (j : Int) < nl := by omega
        have hji0 : (0 : Int) ≤ j := by omega
        by_cases h80 : j < 80
        · have h80i : (j : Int) < 80 := by omega
          obtain ⟨b, o, rfl, hb, hc⟩ := HD.out.1 (by omega)
          obtain ⟨p0, p1, p2, p3⟩ := hc j hlt
          have hfk := HD.out.2 j hlt
          obtain ⟨⟨kd, t, s, m⟩, hgk⟩ : ∃ x, g j = x := ⟨_, rfl⟩
          rw [hgk] at p0 p1 p2 p3 hfk
          dsimp only at p0 p1 p2 p3 hfk
          have HPP := hid (And.intro p0 (And.intro p1 (And.intro p2 p3)))
          have HFK := hid hfk
          clear hc p0 p1 p2 p3 hfk hgk
          by_cases hmid : ((j : Int) == wrap64 ((nl : Int) / 2)) = true
          · have HFk := hid (forks HV.out.1 (Inv.pre HV.out) (by omega))
            go_wp2_with fail
            refine HFk.out.mono ?_
            rintro e w8 ⟨gv8, rfl, hf8⟩
            have HF8 := hid hf8
            clear hf8 HFk
            go_wp2_with fail
            refine HF8.out.mono ?_
            rintro e w9 ⟨tv9, rfl, hi9⟩
            have HV9 := hid hi9
            clear hi9 HF8
            have q0 := (HV9.out.1.cell (p := ⟨b, o + j * 4, none⟩) hb).trans HPP.out.1
            have q1 := (HV9.out.1.cell (p := ⟨b, o + j * 4 + 1, none⟩) hb).trans HPP.out.2.1
            have q2 := (HV9.out.1.cell (p := ⟨b, o + j * 4 + 2, none⟩) hb).trans HPP.out.2.2.1
            have q3 := (HV9.out.1.cell (p := ⟨b, o + j * 4 + 3, none⟩) hb).trans HPP.out.2.2.2
            have HDo := hid (dos HV9.out (by omega) kd t m s HFK.out)
            go_wp2_with fail
            refine HDo.out.mono ?_
            rintro e wz ⟨rfl, hiz⟩
            have HZ := hid hiz
            clear hiz HDo q0 q1 q2 q3
            go_wp2_with fail
            go_roundw
            case rel => exact ⟨j + 1, by omega, by omega, by go_num, by rw [show 2 * (j + 1) = 2 * j + 2 by omega]; exact HZ.out⟩
            case measure => simp [intOf]; omega
          · have hmid : ((j : Int) == wrap64 ((nl : Int) / 2)) = false := by simpa using hmid
            have q0 := (HV.out.1.cell (p := ⟨b, o + j * 4, none⟩) hb).trans HPP.out.1
            have q1 := (HV.out.1.cell (p := ⟨b, o + j * 4 + 1, none⟩) hb).trans HPP.out.2.1
            have q2 := (HV.out.1.cell (p := ⟨b, o + j * 4 + 2, none⟩) hb).trans HPP.out.2.2.1
            have q3 := (HV.out.1.cell (p := ⟨b, o + j * 4 + 3, none⟩) hb).trans HPP.out.2.2.2
            have HDo := hid (dos HV.out (by omega) kd t m s HFK.out)
            go_wp2_with fail
            refine HDo.out.mono ?_
            rintro e wz ⟨rfl, hiz⟩
            have HZ := hid hiz
            clear hiz HDo q0 q1 q2 q3
            go_wp2_with fail
            go_roundw
            case rel => exact ⟨j + 1, by omega, by omega, by go_num, by rw [show 2 * (j + 1) = 2 * j + 2 by omega]; exact HZ.out⟩
            case measure => simp [intOf]; omega
        · have h80i : decide ((j : Int) < 80) = false := by simp; omega
          have HE := hid (ends HV.out ⟨#[118, 105, 112]⟩ (by unfold maxLen; decide))
          go_wp2_with fail
          refine HE.out.mono ?_
          rintro e w6 ⟨kv, rfl, h6⟩
          have HE6 := hid h6
          clear h6 HE
          go_wp2_with fail
          refine HE6.out.mono ?_
          rintro e w7 ⟨lv, rfl, h7⟩
          have HE7 := hid h7
          clear h7 HE6
          go_wp2_with fail
          refine HE7.out.mono ?_
          rintro e w8 ⟨rfl, h8⟩
          have HE8 := hid h8
          clear h8 HE7
          go_wp2_with fail
          refine HE8.out.mono ?_
          rintro e w9 ⟨nn, rfl, h9⟩
          have HE9 := hid h9
          clear h9 HE8
          go_wp2_with fail
          refine HE9.out.mono ?_
          rintro e w10 ⟨rfl, hb10⟩
          have HBe := hid hb10
          clear hb10 HE9
          go_wp2_with fail
          go_ret
          exact ⟨by simp, HBe.out⟩
      · have hle : decide ((j : Int) < nl) = false := by simp; omega
        have HE := hid (ends HV.out ⟨#[118, 105, 112]⟩ (by unfold maxLen; decide))
        go_wp2_with fail
        refine HE.out.mono ?_
        rintro e w6 ⟨kv, rfl, h6⟩
        have HE6 := hid h6
        clear h6 HE
        go_wp2_with fail
        refine HE6.out.mono ?_
        rintro e w7 ⟨lv, rfl, h7⟩
        have HE7 := hid h7
        clear h7 HE6
        go_wp2_with fail
        refine HE7.out.mono ?_
        rintro e w8 ⟨rfl, h8⟩
        have HE8 := hid h8
        clear h8 HE7
        go_wp2_with fail
        refine HE8.out.mono ?_
        rintro e w9 ⟨nn, rfl, h9⟩
        have HE9 := hid h9
        clear h9 HE8
        go_wp2_with fail
        refine HE9.out.mono ?_
        rintro e w10 ⟨rfl, hb10⟩
        have HBe := hid hb10
        clear hb10 HE9
        go_wp2_with fail
        go_ret
        exact ⟨by simp, HBe.out⟩

  · clear HCas
    go_wp2_with fail
    refine (HL.out _).mono ?_
    rintro e w3 ⟨rfl, hb3⟩
    have HB3 := hid (HB2.out.trans (hb3.mono HB2.out.size))
    have HP := hid (show Pre w.heap.size 0 (.pointer (some ⟨ph, 0, none⟩)) (.pointer (some ⟨pr, 0, none⟩)) w3 from Pre.below HJ.out hb3)
    clear hb3 HB2 HJ HL
    have HF := hid (forks HB3.out HP.out (by omega))
    go_wp2_with fail
    refine HF.out.mono ?_
    rintro e w4 ⟨gv, rfl, hf4⟩
    have HF4 := hid hf4
    clear hf4 HF
    go_wp2_with fail
    refine HF4.out.mono ?_
    rintro e w5 ⟨tv, rfl, hi5⟩
    have HI5 := hid hi5
    clear hi5 HF4
    go_wp2_with fail
    go_loopw [9, 10, 11] (fun gv tv i wr => ∃ j : Nat, j ≤ nl ∧ j ≤ 80 ∧ i = .int .i64 j ∧ Inv w (2 * j) (.pointer (some ⟨ph, 0, none⟩)) (.pointer (some ⟨pr, 0, none⟩)) gv tv wr) (fun _ _ i _ => nl - (intOf i).toNat)
    case atStart => exact ⟨0, Nat.zero_le _, Nat.zero_le _, rfl, HI5.out⟩
    case round =>
      obtain ⟨j, hj, hj80, rfl, hinv⟩ := hrel
      have HV := hid hinv
      clear hinv HI5
      by_cases hlt : j < nl
      · have hji : (j : Int) < nl := by omega
        have hji0 : (0 : Int) ≤ j := by omega
        by_cases h80 : j < 80
        · have h80i : (j : Int) < 80 := by omega
          obtain ⟨b, o, rfl, hb, hc⟩ := HD.out.1 (by omega)
          obtain ⟨p0, p1, p2, p3⟩ := hc j hlt
          have hfk := HD.out.2 j hlt
          obtain ⟨⟨kd, t, s, m⟩, hgk⟩ : ∃ x, g j = x := ⟨_, rfl⟩
          rw [hgk] at p0 p1 p2 p3 hfk
          dsimp only at p0 p1 p2 p3 hfk
          have HPP := hid (And.intro p0 (And.intro p1 (And.intro p2 p3)))
          have HFK := hid hfk
          clear hc p0 p1 p2 p3 hfk hgk
          by_cases hmid : ((j : Int) == wrap64 ((nl : Int) / 2)) = true
          · have HFk := hid (forks HV.out.1 (Inv.pre HV.out) (by omega))
            go_wp2_with fail
            refine HFk.out.mono ?_
            rintro e w8 ⟨gv8, rfl, hf8⟩
            have HF8 := hid hf8
            clear hf8 HFk
            go_wp2_with fail
            refine HF8.out.mono ?_
            rintro e w9 ⟨tv9, rfl, hi9⟩
            have HV9 := hid hi9
            clear hi9 HF8
            have q0 := (HV9.out.1.cell (p := ⟨b, o + j * 4, none⟩) hb).trans HPP.out.1
            have q1 := (HV9.out.1.cell (p := ⟨b, o + j * 4 + 1, none⟩) hb).trans HPP.out.2.1
            have q2 := (HV9.out.1.cell (p := ⟨b, o + j * 4 + 2, none⟩) hb).trans HPP.out.2.2.1
            have q3 := (HV9.out.1.cell (p := ⟨b, o + j * 4 + 3, none⟩) hb).trans HPP.out.2.2.2
            have HDo := hid (dos HV9.out (by omega) kd t m s HFK.out)
            go_wp2_with fail
            refine HDo.out.mono ?_
            rintro e wz ⟨rfl, hiz⟩
            have HZ := hid hiz
            clear hiz HDo q0 q1 q2 q3
            go_wp2_with fail
            go_roundw
            case rel => exact ⟨j + 1, by omega, by omega, by go_num, by rw [show 2 * (j + 1) = 2 * j + 2 by omega]; exact HZ.out⟩
            case measure => simp [intOf]; omega
          · have hmid : ((j : Int) == wrap64 ((nl : Int) / 2)) = false := by simpa using hmid
            have q0 := (HV.out.1.cell (p := ⟨b, o + j * 4, none⟩) hb).trans HPP.out.1
            have q1 := (HV.out.1.cell (p := ⟨b, o + j * 4 + 1, none⟩) hb).trans HPP.out.2.1
            have q2 := (HV.out.1.cell (p := ⟨b, o + j * 4 + 2, none⟩) hb).trans HPP.out.2.2.1
            have q3 := (HV.out.1.cell (p := ⟨b, o + j * 4 + 3, none⟩) hb).trans HPP.out.2.2.2
            have HDo := hid (dos HV.out (by omega) kd t m s HFK.out)
            go_wp2_with fail
            refine HDo.out.mono ?_
            rintro e wz ⟨rfl, hiz⟩
            have HZ := hid hiz
            clear hiz HDo q0 q1 q2 q3
            go_wp2_with fail
            go_roundw
            case rel => exact ⟨j + 1, by omega, by omega, by go_num, by rw [show 2 * (j + 1) = 2 * j + 2 by omega]; exact HZ.out⟩
            case measure => simp [intOf]; omega
        · have h80i : decide ((j : Int) < 80) = false := by simp; omega
          have HE := hid (ends HV.out ⟨#[118, 105, 112]⟩ (by unfold maxLen; decide))
          go_wp2_with fail
          refine HE.out.mono ?_
          rintro e w6 ⟨kv, rfl, h6⟩
          have HE6 := hid h6
          clear h6 HE
          go_wp2_with fail
          refine HE6.out.mono ?_
          rintro e w7 ⟨lv, rfl, h7⟩
          have HE7 := hid h7
          clear h7 HE6
          go_wp2_with fail
          refine HE7.out.mono ?_
          rintro e w8 ⟨rfl, h8⟩
          have HE8 := hid h8
          clear h8 HE7
          go_wp2_with fail
          refine HE8.out.mono ?_
          rintro e w9 ⟨nn, rfl, h9⟩
          have HE9 := hid h9
          clear h9 HE8
          go_wp2_with fail
          refine HE9.out.mono ?_
          rintro e w10 ⟨rfl, hb10⟩
          have HBe := hid hb10
          clear hb10 HE9
          go_wp2_with fail
          go_ret
          exact ⟨by simp, HBe.out⟩
      · have hle : decide ((j : Int) < nl) = false := by simp; omega
        have HE := hid (ends HV.out ⟨#[118, 105, 112]⟩ (by unfold maxLen; decide))
        go_wp2_with fail
        refine HE.out.mono ?_
        rintro e w6 ⟨kv, rfl, h6⟩
        have HE6 := hid h6
        clear h6 HE
        go_wp2_with fail
        refine HE6.out.mono ?_
        rintro e w7 ⟨lv, rfl, h7⟩
        have HE7 := hid h7
        clear h7 HE6
        go_wp2_with fail
        refine HE7.out.mono ?_
        rintro e w8 ⟨rfl, h8⟩
        have HE8 := hid h8
        clear h8 HE7
        go_wp2_with fail
        refine HE8.out.mono ?_
        rintro e w9 ⟨nn, rfl, h9⟩
        have HE9 := hid h9
        clear h9 HE8
        go_wp2_with fail
        refine HE9.out.mono ?_
        rintro e w10 ⟨rfl, hb10⟩
        have HBe := hid hb10
        clear hb10 HE9
        go_wp2_with fail
        go_ret
        exact ⟨by simp, HBe.out⟩


theorem main {H : Type} {enc : TypeId × Value → H} {W : World} {base : Nat} {spare : Nat → Bool} {held : Bool} (res : ByteArray) (idx cnt sec : Int) (a : Option Addr) (m c : Nat) (keys : Int) (seed : Nat) (f : Nat → Itm) (hres : res.size ≤ maxLen) (hI : ItAt W a m f) (hfit : ∀ i, i < m → (f i).1.size ≤ maxLen) (hk : (Lit.int .i64 keys).wf = true) (hsd : seed < 18446744073709551616)
    (al : Option Addr) (nl cl : Nat) {d : DataW H} {p : List MemPlace} (h : DataW.Trod enc Tryz.prog W base spare held 28 (.slice al nl cl) d p) :
    Calls Tryz.prog 3 #[.agg #[.string res, .int .i64 idx, .int .i64 cnt, .int .i64 sec, .slice a m c, .int .i64 keys, .int .u64 seed], .slice al nl cl] W fun e W' => e = .returned (.bool true) ∧ Below W.heap.size W W' := by
  obtain ⟨g, h1, h2⟩ := HotP.deeds_of h
  exact plays_core res hres idx cnt sec a m c keys seed f al nl cl g W hI hfit hsd h1 h2

end Go.Proofs.YtbihelpnojjacaaGreat.RtN

namespace Go.Proofs.YtbihelpnojjacaaGreat.hotPlays
open Go.ChangeShapes Go.WideShapes Go.ChangeAt Go.RowKit Go.Deep
open Go.ChangeMaps (open_string shut_string)
set_option linter.unusedVariables false

theorem own : ownKnob Tryz.prog.godebug = none := by kernel_rfl
theorem laidOut : laidOutB Tryz.prog = true := by kernel_rfl

set_option maxRecDepth 100000 in
theorem lifted (os : Os) (started : os.Started) (H : Type) (enc : TypeId × Value → H) :
    ReturnsInHanded {} Tryz.checked os 3 .any (Rows.hotPlaysSpec.pre6 enc Tryz.prog Tryz.f3 Rows.hotPlaysRow.domain false) (Rows.hotPlaysSpec.post enc Tryz.prog Tryz.f3 false true false false) := by
  refine returnsInHanded_of_change_sized (C := Tryz.checked) own started (by kernel_rfl) Tryz.func3
    (ChangeSpec.witness6 (enc := enc) (C := Tryz.checked) false ⟨#[], #[.agg #[.string ⟨#[]⟩, .int .i64 0, .int .i64 0, .int .i64 0, .slice none 0 0, .int .i64 0, .int .u64 0], .slice none 0 0], []⟩ 8 (by kernel_rfl) (by kernel_rfl) (by kernel_rfl) (by kernel_rfl)) ?_
  intro W base args ds gs before hval0 hW hcnd hsz0 _
  have hval : ∀ (j : Nat) t v, Tryz.f3.params[j]? = some t → args[j]? = some v → Value.okWide Tryz.prog W .any base t v := hval0
  have hW' := hW
  obtain ⟨p, q, hA0, hV, rfl, hfz, hnd⟩ := hW
  have hA : DataW.TrodAll enc Tryz.prog W 0 (fun _ => true) true Tryz.f3.params.toList args.toList ds p := hA0
  rw [Tryz.params3] at hA hval
  obtain ⟨v0, vs0, d0, ds0, p0, q0, hargs, rfl, rfl, h0, r0⟩ := trodAll_cons hA
  obtain ⟨v1, vs1, d1, ds1, p1, q1, rfl, rfl, rfl, h1, r1⟩ := trodAll_cons r0
  obtain ⟨rfl, rfl, rfl⟩ := trodAll_nil r1
  obtain rfl : args = #[v0, v1] := by cases args; simp_all
  obtain ⟨rfl, rfl⟩ := trodVars_none hV
  obtain ⟨res0, idx0, cnt0, sec0, a0, m0, c0, keys0, seed0, f0, rfl, hres0, hI0, hfit0, hk0, hsd0⟩ := HotP.set_of (hval 0 27 v0 rfl rfl) h0
  obtain ⟨a1, len1, cap1, rfl⟩ := okWide_slice Tryz.underlying28 (hval 1 28 v1 rfl rfl)
  have k0 := h0
  have lt0 : ∀ x ∈ p0, x.block < W.heap.size := by obtain ⟨m, hm⟩ := k0; exact DataW.trod_lt m _ _ _ hm
  have k1 := h1
  have lt1 : ∀ x ∈ p1, x.block < W.heap.size := by obtain ⟨m, hm⟩ := k1; exact DataW.trod_lt m _ _ _ hm
  clear hA0 hval0
  refine (RtN.main res0 idx0 cnt0 sec0 a0 m0 c0 keys0 seed0 f0 hres0 hI0 hfit0 hk0 hsd0 a1 len1 cap1 h1).mono fun e W' ⟨he, bel⟩ => ?_
  subst he
  exact ⟨_, rfl, _, _, _, [], _, [], hW', trodAll_mk1 (shut_bool Tryz.underlying4 _), (trodAll_cons_mk (Below.trod laidOut (by kernel_rfl) (of_decide_eq_true (by kernel_rfl)) k0 bel lt0) (trodAll_cons_mk (Below.trod laidOut (by kernel_rfl) (of_decide_eq_true (by kernel_rfl)) k1 bel lt1) trodAll_mk0)), rfl, bel.frame _, fun h => by cases h⟩

theorem over : Rows.hotPlaysRow.holds Tryz.pinned (OpenSpec.ofChange Rows.hotPlaysSpec) :=
  OpenClaim.holds_of_wide 3 Tryz.f3 rfl rfl rfl rfl rfl rfl rfl ⟨rfl, rfl, rfl, rfl, rfl⟩ rfl rfl rfl rfl rfl (by kernel_rfl) Tryz.func3 (by kernel_rfl)
    (of_decide_eq_true (by kernel_rfl)) (by unfold Func.isWrapper; first | (rw [if_pos (by decide +kernel)]; kernel_rfl) | (rw [if_neg (by decide +kernel)]; exact ⟨rfl, rfl⟩))
    (fun os started H enc _ => lifted os started H enc)

theorem proved : Rows.HotPlaysSaid := over
#print axioms proved
end Go.Proofs.YtbihelpnojjacaaGreat.hotPlays
