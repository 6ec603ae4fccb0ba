/- A bucket's numbers: what is added to them. -/
import Derived.Test.YtnpldfacnmhemaaSkH
import Derived.Deep.RegionLaw
namespace Go.Proofs.Ytnpldfacnmhemaa.SkI
open Go.ChangeShapes Go.WideShapes Go.ChangeAt Go.RowKit Base Wri Map WldF WldG SkK SkA SkB SkC SkD SkE SkF SkG SkH

/-- block mb is a map of places: what stands at each, 0 where there is nothing -/
def Num (w : World) (mb : Nat) (m : Nat → Nat → Nat) : Prop :=
  ∃ F n, MapOf Try.prog 91 w mb F n ∧ ∀ r c, r < 8 → c < 4096 → F (pv r c) = some (.int .i64 (m r c)) ∨ (F (pv r c) = none ∧ m r c = 0)

variable {w w' : World} {mb : Nat} {m : Nat → Nat → Nat}

theorem Num.of_block (h : Num w mb m) (e : w'.heap[mb]? = w.heap[mb]?) : Num w' mb m := by
  obtain ⟨F, n, h1, h2⟩ := h
  exact ⟨F, n, h1.of_block e, h2⟩
theorem Num.lt (h : Num w mb m) : mb < w.heap.size := by
  obtain ⟨F, n, h1, _⟩ := h
  exact h1.lt
theorem Num.congr {m' : Nat → Nat → Nat} (h : Num w mb m) (e : ∀ r c, r < 8 → c < 4096 → m r c = m' r c) : Num w mb m' := by
  obtain ⟨F, n, h1, h2⟩ := h
  exact ⟨F, n, h1, fun r c hr hc => by rw [← e r c hr hc]; exact h2 r c hr hc⟩
theorem Num.none (h : w.heap[mb]? = some (.map #[] 0)) : Num w mb (fun _ _ => 0) :=
  ⟨fun _ => .none, 0, ⟨#[], 0, h, rfl, by simp, by simp, by simp⟩, fun _ _ _ _ => .inr ⟨rfl, rfl⟩⟩

theorem zeroI (w : World) : (zeroValue 3).run Try.prog w = .ok (.int .i64 0) w := by kernel_rfl

theorem Num.look (h : Num w mb m) (r c : Nat) (hr : r < 8) (hc : c < 4096) : (Instr.lookup 86 (.map (some mb)) (pv r c) false).run Try.prog w = .ok (.int .i64 (m r c)) w := by
  obtain ⟨F, n, h1, h2⟩ := h
  obtain ⟨kl, hkl⟩ := key_of r c hr hc
  have := h1.look false keyed Try.underlying86 (zeroI w) hkl
  rw [this]
  rcases h2 r c hr hc with e | ⟨e, e0⟩
  · rw [e]; rfl
  · rw [e, e0]; rfl

theorem Num.store (h : Num w mb m) (r c x : Nat) (hr : r < 8) (hc : c < 4096) :
    ∃ w', (Instr.mapUpdate 86 (.map (some mb)) (pv r c) (.int .i64 x)).run Try.prog w = .ok () w' ∧ Num w' mb (fun r' c' => if r' = r ∧ c' = c then x else m r' c') ∧ Wr (fun j => j = mb) w w' := by
  obtain ⟨F, n, h1, h2⟩ := h
  obtain ⟨kl, hkl⟩ := key_of r c hr hc
  obtain ⟨w', hrun, hM, hW⟩ := h1.store (val := .int .i64 x) keyed Try.underlying86 hkl
  refine ⟨w', hrun, ⟨_, _, hM, fun r' c' hr' hc' => ?_⟩, hW⟩
  by_cases e : r' = r ∧ c' = c
  · obtain ⟨rfl, rfl⟩ := e
    left
    rw [put_same]
    simp
  · rw [put_other (fun e2 => e (pv_inj e2))]
    simp only [if_neg e]
    exact h2 r' c' hr' hc'

/-- the numbers when k places are done -/
def upd (m : Nat → Nat → Nat) (col : Nat → Nat) (more k : Nat) (r c : Nat) : Nat := if r < k ∧ c = col r then sat (m r c + more) else m r c
theorem upd_zero (m : Nat → Nat → Nat) (col : Nat → Nat) (more : Nat) : upd m col more 0 = m := by
  funext r c
  unfold upd
  rw [if_neg (by omega)]
theorem upd_succ (m : Nat → Nat → Nat) (col : Nat → Nat) (more k : Nat) : upd m col more (k + 1) = fun r c => if r = k ∧ c = col k then sat (upd m col more k k (col k) + more) else upd m col more k r c := by
  funext r c
  by_cases e : r = k ∧ c = col k
  · obtain ⟨rfl, rfl⟩ := e
    simp [upd]
  · rw [if_neg e]
    unfold upd
    by_cases h : r < k ∧ c = col r
    · rw [if_pos h, if_pos ⟨by omega, h.2⟩]
    · rw [if_neg h, if_neg]
      rintro ⟨h1, h2⟩
      by_cases hk : r = k
      · subst hk; exact e ⟨rfl, h2⟩
      · exact h ⟨by omega, h2⟩

set_option maxRecDepth 20000 in
set_option maxHeartbeats 2000000 in
theorem add_any (g cap n i gp rows more : Nat) (f : Nat → Bk) (T : Nat) (col : Nat → Nat) (hb : IsBk w g cap n f) (hi : i < n) (hT : (f i).tot = (T : Int)) (hm : (f i).mp = mb) (hN : Num w mb m) (hp : Pl w gp rows rows col) (hr : rows ≤ 8) (hcol : ∀ r, r < rows → col r < 4096)
    (hd1 : mb ≠ g) (hd2 : mb ≠ gp) (hd3 : g ≠ gp) :
    Calls Try.prog 39 #[.pointer (some ⟨g, i * 3, none⟩), .int .i64 more, .slice (some ⟨gp, 0, none⟩) rows rows] w fun e w' =>
      e = .returned (.tuple #[]) ∧ IsBk w' g cap n (fun k => if k = i then ⟨(f i).at_, sat (T + more), mb⟩ else f k) ∧ Num w' mb (upd m col more rows) ∧ Wr (fun k => k = g ∨ k = mb) w w' := by
  obtain ⟨-, c1, c2⟩ := hb.at3 i hi
  have z1 := hb.frozen (i * 3 + 1)
  rw [hT] at c1
  rw [hm] at c2
  have HP := hid (plus_two T more (w.alloc (.cells #[.int .i64 T, .int .i64 more] 3)) w rfl)
  have hgl := hb.lt
  go_enter Try.func39, Try.ntmps39
  go_wp2_with fail
  refine HP.out.mono ?_
  rintro e w1 ⟨rfl, rfl⟩
  have hsz1 : (w.setCell ⟨g, i * 3 + 1, none⟩ (.int .i64 (sat (T + more) : Nat))).heap.size = w.heap.size := by simp [World.setCell]
  have hbs : Below (w.setCell ⟨g, i * 3 + 1, none⟩ (.int .i64 (sat (T + more) : Nat))).heap.size (w.setCell ⟨g, i * 3 + 1, none⟩ (.int .i64 (sat (T + more) : Nat))) ((w.setCell ⟨g, i * 3 + 1, none⟩ (.int .i64 (sat (T + more) : Nat))).alloc (.cells #[.int .i64 T, .int .i64 more] 3)) := (Below.refl _ _).alloc (Nat.le_refl _) _
  have HB1 : Hid (IsBk ((w.setCell ⟨g, i * 3 + 1, none⟩ (.int .i64 (sat (T + more) : Nat))).alloc (.cells #[.int .i64 T, .int .i64 more] 3)) g cap n (fun k => if k = i then ⟨(f i).at_, (sat (T + more) : Nat), (f i).mp⟩ else f k)) := hid ((hb.putTot i hi _).below hbs (by rw [hsz1]; exact hgl))
  have HN1 : Hid (Num ((w.setCell ⟨g, i * 3 + 1, none⟩ (.int .i64 (sat (T + more) : Nat))).alloc (.cells #[.int .i64 T, .int .i64 more] 3)) mb (upd m col more 0)) := hid (by
    rw [upd_zero]
    exact (hN.of_block (heap_setCell_other _ _ _ _ hd1)).of_block (hbs.block mb (by rw [hsz1]; exact hN.lt)))
  have HW1 : Hid (Wr (fun k => k = g ∨ k = mb) w ((w.setCell ⟨g, i * 3 + 1, none⟩ (.int .i64 (sat (T + more) : Nat))).alloc (.cells #[.int .i64 T, .int .i64 more] 3))) := hid ((Wr.set ⟨g, i * 3 + 1, none⟩ _ (.inl rfl)).trans (Wr.ofBelow hbs))
  have HPl := hid hp
  have HNm := hid hm
  have hgpl := hp.lt
  clear HP hb hN hp hT hbs hsz1
  rw [hm] at HB1
  clear hm
  go_wp2_with fail
  clear c1 c2 z1
  go_loopw [20] (fun j wr => ∃ k : Nat, k ≤ rows ∧ j = .int .i64 k ∧ IsBk wr g cap n (fun k => if k = i then ⟨(f i).at_, (sat (T + more) : Nat), mb⟩ else f k) ∧ Num wr mb (upd m col more k) ∧ Wr (fun k => k = g ∨ k = mb) w wr) (fun j _ => rows - (intOf j).toNat)
  case atStart => exact ⟨0, Nat.zero_le _, rfl, HB1.out, HN1.out, HW1.out⟩
  case round =>
    clear HB1 HN1 HW1
    obtain ⟨k, hk, rfl, hb, hN, hW⟩ := hrel
    have HB := hid hb
    have HN := hid hN
    have HW := hid hW
    by_cases hlt : k < rows
    · have hpw : Pl wr gp rows rows col := HPl.out.of_block (hW.block gp hgpl (fun e => e.elim (fun e => hd3 e.symm) (fun e => hd2 e.symm)))
      obtain ⟨k0, k1⟩ := hpw.cells k hlt
      obtain ⟨-, -, b2⟩ := hb.at3 i hi
      simp only [if_true] at b2
      have hgw := hb.lt
      have hmw := hN.lt
      have hgpw := hpw.lt
      have hcl := hcol k hlt
      obtain ⟨x, hx⟩ : ∃ x, upd m col more k k (col k) = x := ⟨_, rfl⟩
      have HX := hid hx
      obtain ⟨W1, hW1⟩ : ∃ W1, wr.alloc (.cells #[.int .i64 k, .int .i64 (col k)] 91) = W1 := ⟨_, rfl⟩
      have hbW : Below wr.heap.size wr W1 := by rw [← hW1]; exact (Below.refl _ wr).alloc (Nat.le_refl _) _
      have hN1 := hN.of_block (hbW.block mb hmw)
      have hl1 : (Instr.lookup 86 (.map (some mb)) (.agg #[.int .i64 k, .int .i64 (col k)]) false).run Try.prog W1.drew = .ok (.int .i64 (upd m col more k k (col k) : Nat)) W1.drew := Num.look (w := W1.drew) (hN1.of_block rfl) k (col k) (by omega) hcl
      rw [hx] at hl1
      have hs1 : W1.heap.size = wr.heap.size + 1 := by rw [← hW1]; simp
      have hB1 := HB.out.below hbW hgw
      have q2 := (hB1.at3 i hi).2.2
      simp only [if_true] at q2
      have hnp : W1.heap[wr.heap.size]? = some (.cells #[.int .i64 k, .int .i64 (col k)] 91) := by rw [← hW1]; exact heap_alloc_new wr _
      have q0 : W1.cell? ⟨wr.heap.size, 0, none⟩ = some (.int .i64 k) := by simp [World.cell?, hnp]
      have q1 : W1.cell? ⟨wr.heap.size, 1, none⟩ = some (.int .i64 (col k)) := by simp [World.cell?, hnp]
      have hbY : Below W1.heap.size W1 (W1.alloc (.cells #[.int .i64 x, .int .i64 more] 3)).drew := ((Below.refl _ W1).alloc (Nat.le_refl _) _).drew
      have hgW1 := hB1.lt
      have hmW1 := hN1.lt
      obtain ⟨w5, hrun, hN5, hW5⟩ := (hN1.of_block (hbY.block mb hmW1)).store k (col k) (sat (x + more)) (by omega) hcl
      have hrun5 : (Instr.mapUpdate 86 (.map (some mb)) (.agg #[.int .i64 k, .int .i64 (col k)]) (.int .i64 (sat (x + more) : Nat))).run Try.prog (W1.alloc (.cells #[.int .i64 x, .int .i64 more] 3)).drew = .ok () w5 := hrun
      have hsz5 : (W1.alloc (.cells #[.int .i64 x, .int .i64 more] 3)).drew.heap.size = W1.heap.size + 1 := by show (W1.alloc _).heap.size = _; simp
      have p2 : w5.cell? ⟨g, i * 3 + 2, none⟩ = some (.map (some mb)) := (hW5.cell (i * 3 + 2) (by omega) (fun e => hd1 e.symm)).trans ((hbY.cell (p := ⟨g, i * 3 + 2, none⟩) hgW1).trans q2)
      have p0 : w5.cell? ⟨wr.heap.size, 0, none⟩ = some (.int .i64 k) := (hW5.cell 0 (by omega) (fun e => by omega)).trans ((hbY.cell (p := ⟨wr.heap.size, 0, none⟩) (by show wr.heap.size < _; omega)).trans q0)
      have p1 : w5.cell? ⟨wr.heap.size, 1, none⟩ = some (.int .i64 (col k)) := (hW5.cell 1 (by omega) (fun e => by omega)).trans ((hbY.cell (p := ⟨wr.heap.size, 1, none⟩) (by show wr.heap.size < _; omega)).trans q1)
      have HPX := hid (plus_two x more (W1.alloc (.cells #[.int .i64 x, .int .i64 more] 3)).drew W1 rfl)
      have HEnd : Hid (IsBk w5 g cap n (fun k => if k = i then ⟨(f i).at_, (sat (T + more) : Nat), mb⟩ else f k) ∧ Num w5 mb (upd m col more (k + 1)) ∧ Wr (fun k => k = g ∨ k = mb) w w5) := hid ⟨hB1.of_block ((hW5.block g (by omega) (fun e => hd1 e.symm)).trans (hbY.block g hgW1)), by rw [upd_succ, hx]; exact hN5, ((HW.out.trans (Wr.ofBelow hbW)).trans (Wr.ofBelow hbY)).trans (hW5.mono (fun k e => .inr e))⟩
      have hlt1 : wr.heap.size < W1.heap.size := by omega
      clear hpw hb hN hW hx hN1 hB1 hbY hN5 hW5 hrun hbW hsz5 hs1 hnp
      go_wp2_with fail
      go_region_held3 (fun w' => w'.cell? ⟨g, i * 3 + 2, none⟩ = some (.map (some mb)) ∧ w'.cell? ⟨wr.heap.size, 0, none⟩ = some (.int .i64 k) ∧ w'.cell? ⟨wr.heap.size, 1, none⟩ = some (.int .i64 (col k))) (first | assumption | go_keep)
        (first | (go_at_call 36; refine HPX.out.mono ?_; rintro e w6 ⟨rfl, rfl⟩))
      all_goals
        clear hl1 hrun5 q0 q1 q2 p0 p1 p2 b2
        go_wp2_with fail
        go_roundw
        case rel => exact ⟨k + 1, by omega, by go_num, HEnd.out.1, HEnd.out.2.1, HEnd.out.2.2⟩
        case measure => simp [intOf]; omega
    · obtain rfl : k = rows := by omega
      clear hb hN hW
      go_wp2_with fail
      go_end0
      exact ⟨rfl, HB.out, HN.out, HW.out⟩

end Go.Proofs.Ytnpldfacnmhemaa.SkI
