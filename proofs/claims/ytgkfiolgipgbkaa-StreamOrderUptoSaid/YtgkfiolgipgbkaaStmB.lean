/- The calls of a queue and of a way. -/
import Derived.Test.YtgkfiolgipgbkaaStmA
namespace Go.Proofs.Ytgkfiolgipgbkaa.StmB
open Go.ChangeShapes Go.WideShapes Go.ChangeAt Go.RowKit Base Wri FrmP FrmA StmA
set_option linter.unusedVariables false
set_option linter.unusedSimpArgs false

set_option maxRecDepth 20000 in
set_option maxHeartbeats 1000000 in
theorem put_any (k off B : Nat) (v : Value) (s t : Bs) (ax : Option Addr) (cx : Nat) (w : World) (hc : w.cell? ⟨k, off, none⟩ = some v) (hf : w.frozen? ⟨k, off, none⟩ = false) (hq : Hid (Que w B v s)) (ht : Hid (BAt w w.heap.size ax t)) (hne : v.ownBlock ≠ some k) (hB : B ≤ w.heap.size) (hsz : s.length + t.length ≤ 1099511627776) :
    Calls Try.prog 53 #[.pointer (some ⟨k, off, none⟩), .slice ax t.length cx] w fun e w' => e = .returned (.tuple #[]) ∧ ∃ v' w1, w1.setCell ⟨k, off, none⟩ v' = w' ∧ Que w1 B v' (s ++ t) ∧ w.grownBy w1 v.ownBlock ∧ (v'.ownBlock = v.ownBlock ∨ v'.ownBlock = some w.heap.size) := by
  have hk := World.block_lt_of_cell? _ _ hc
  have HK : Hid (k < w.heap.size ∧ v.ownBlock ≠ some k) := hid ⟨hk, hne⟩
  have HF := hid hf
  have HC := hid hc
  obtain ⟨n, hn⟩ : ∃ n, t.length = n := ⟨_, rfl⟩
  have HN := hid hn
  rw [hn] at hsz ⊢
  clear hk hne hn hf
  go_enter Try.func53, Try.ntmps53
  go_wp2_with (at_builtin
               refine wpList_append_que rfl _ _ 76 32 rfl Try.underlying76 Try.underlying32 rfl rfl HN.out.symm hq.out ht.out hB (by omega) ?_
               intro v2 w2 hq2 hgr2 hat2
               obtain ⟨a2, d2, rfl, -⟩ := hq2.shape
               have c2 : w2.cell? ⟨k, off, none⟩ = some v := (World.cell?_of_block (a := ⟨k, off, none⟩) (hgr2.block k HK.out.1 (fun e => HK.out.2 e.symm))).trans HC.out
               have f2 : w2.frozen? ⟨k, off, none⟩ = false := (World.frozen?_of_block (a := ⟨k, off, none⟩) (hgr2.block k HK.out.1 (fun e => HK.out.2 e.symm))).trans HF.out
               have H2 := hid (And.intro hq2 (And.intro hgr2 hat2))
               clear hq2 hgr2 hat2)
  go_end0
  exact ⟨rfl, .slice a2 (s ++ t).length d2, w2, by rw [List.length_append, HN.out], H2.out.1, H2.out.2.1, H2.out.2.2⟩

theorem take_min (s : Bs) (m : Nat) : s.take (min m s.length) = s.take m := by
  rcases Nat.le_total m s.length with h | h
  · rw [Nat.min_eq_left h]
  · rw [Nat.min_eq_right h, List.take_of_length_le (Nat.le_refl _), List.take_of_length_le h]
theorem drop_min (s : Bs) (m : Nat) : s.drop (min m s.length) = s.drop m := by
  rcases Nat.le_total m s.length with h | h
  · rw [Nat.min_eq_left h]
  · rw [Nat.min_eq_right h, List.drop_of_length_le (Nat.le_refl _), List.drop_of_length_le h]

set_option maxRecDepth 20000 in
set_option maxHeartbeats 1000000 in
theorem take_any (k off B m : Nat) (v : Value) (s : Bs) (w : World) (hc : w.cell? ⟨k, off, none⟩ = some v) (hf : w.frozen? ⟨k, off, none⟩ = false) (hq : Hid (Que w B v s)) (hsz : s.length ≤ 1099511627776) :
    Calls Try.prog 58 #[.pointer (some ⟨k, off, none⟩), .int .i64 m] w fun e w' => ∃ x v' w1, e = .returned x ∧ Que w1 w.heap.size x (s.take m) ∧ w1.setCell ⟨k, off, none⟩ v' = w' ∧ Below w.heap.size w w1 ∧ Que w1 B v' (s.drop m) ∧ ∀ g, v'.ownBlock = some g → v.ownBlock = some g := by
  have hk := World.block_lt_of_cell? _ _ hc
  have HK : Hid (k < w.heap.size) := hid hk
  obtain ⟨ad, cp, rfl, h1, h2, h3⟩ := hq.out.bat
  obtain ⟨q, hqm⟩ : ∃ q : Nat, min m s.length = q := ⟨_, rfl⟩
  have hqn : q ≤ s.length := by omega
  have hz : ad = none → s = [] := fun e => by
    rcases hq.out with ⟨_, h⟩ | ⟨g, o, cap, cur, e2, _⟩
    · exact h
    · cases e2; cases e
  have hts : (s.take q).length = q := by rw [List.length_take]; omega
  have hba : BAt w w.heap.size ad (s.take q) := fun h0 => by
    obtain ⟨g, o, e, hg, hcc⟩ := h3 (by omega)
    exact ⟨g, o, e, hg, fun i x hx => hcc i x (by
      rw [List.getElem?_take] at hx
      split at hx
      · exact hx
      · cases hx)⟩
  have HCL := hid (clone_any ad cp (s.take q) w (by omega) hba (fun e => by rw [hz e, List.take_nil]))
  rw [hts] at HCL
  have hrest := hq.out.rest hqn
  have HR := hid (And.intro hrest.1 (And.intro hrest.2 (fun g e => (hq.out.lt g (hrest.2 g e)).2)))
  clear hrest
  have hr1 := fun wx => run_upto ad cp s.length q (by omega) 76 Try.underlying76 (by kernel_rfl) wx
  have hr2 := fun wx => run_from ad cp s.length q hqn h1 76 Try.underlying76 (by kernel_rfl) wx
  have HT : Hid ((∀ x W, Que W w.heap.size x (s.take q) → Que W w.heap.size x (s.take m)) ∧ ∀ x W, Que W B x (s.drop q) → Que W B x (s.drop m)) := hid ⟨fun x W h => by rw [← take_min s m, hqm]; exact h, fun x W h => by rw [← drop_min s m, hqm]; exact h⟩
  have HFQ := hid hf
  have HC := hid hc
  obtain ⟨n, hn⟩ : ∃ n, s.length = n := ⟨_, rfl⟩
  rw [hn] at hc HR hr1 hr2 HC hsz hqn h1 hqm
  obtain ⟨a2, ha2⟩ : ∃ a2, (if cp = q then ad else ad.map (·.add (q * 1))) = a2 := ⟨_, rfl⟩
  rw [ha2] at HR hr2
  clear hts hba hz ha2 h2 h3 hk hf
  have HN := hid hn
  rcases Nat.lt_trichotomy n m with hmn | hmn | hmn
  · obtain rfl : q = n := by omega
    rw [hn]
    rw [Nat.sub_self] at HR hr2
    clear hn hqm hqn
    go_enter Try.func58, Try.ntmps58
    go_wp2_with fail
    refine HCL.out.mono ?_
    rintro e w1 ⟨x, rfl, hx, hb⟩
    have c1 := (hb.cell (p := ⟨k, off, none⟩) HK.out).trans HC.out
    have f1 : w1.frozen? ⟨k, off, none⟩ = false := (World.frozen?_of_block (a := ⟨k, off, none⟩) (hb.block k HK.out)).trans HFQ.out
    have H1 := hid (And.intro hx hb)
    clear hx hb HCL hr1
    go_wp2_with fail
    go_ret
    exact ⟨x, _, w1, rfl, HT.out.1 _ _ H1.out.1, rfl, H1.out.2, HT.out.2 _ _ (HR.out.1.keep (fun g e => H1.out.2.block g (HR.out.2.2 g e))), HR.out.2.1⟩
  · obtain rfl : q = n := by omega
    subst hmn
    rw [hn]
    rw [Nat.sub_self] at HR hr2
    clear hn hqm hqn
    go_enter Try.func58, Try.ntmps58
    go_wp2_with fail
    refine HCL.out.mono ?_
    rintro e w1 ⟨x, rfl, hx, hb⟩
    have c1 := (hb.cell (p := ⟨k, off, none⟩) HK.out).trans HC.out
    have f1 : w1.frozen? ⟨k, off, none⟩ = false := (World.frozen?_of_block (a := ⟨k, off, none⟩) (hb.block k HK.out)).trans HFQ.out
    have H1 := hid (And.intro hx hb)
    clear hx hb HCL hr1
    go_wp2_with fail
    go_ret
    exact ⟨x, _, w1, rfl, HT.out.1 _ _ H1.out.1, rfl, H1.out.2, HT.out.2 _ _ (HR.out.1.keep (fun g e => H1.out.2.block g (HR.out.2.2 g e))), HR.out.2.1⟩
  · obtain rfl : q = m := by omega
    rw [hn]
    clear hn hqm
    go_enter Try.func58, Try.ntmps58
    go_wp2_with fail
    refine HCL.out.mono ?_
    rintro e w1 ⟨x, rfl, hx, hb⟩
    have c1 := (hb.cell (p := ⟨k, off, none⟩) HK.out).trans HC.out
    have f1 : w1.frozen? ⟨k, off, none⟩ = false := (World.frozen?_of_block (a := ⟨k, off, none⟩) (hb.block k HK.out)).trans HFQ.out
    have H1 := hid (And.intro hx hb)
    clear hx hb HCL hr1
    go_wp2_with fail
    go_ret
    exact ⟨x, _, w1, rfl, HT.out.1 _ _ H1.out.1, rfl, H1.out.2, HT.out.2 _ _ (HR.out.1.keep (fun g e => H1.out.2.block g (HR.out.2.2 g e))), HR.out.2.1⟩

end Go.Proofs.Ytgkfiolgipgbkaa.StmB
