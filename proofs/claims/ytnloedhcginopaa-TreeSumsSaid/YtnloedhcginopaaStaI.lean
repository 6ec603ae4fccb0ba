/- Block, and the other refusals of Pass and Done; a node's log told count by count. -/
import Derived.Test.YtnloedhcginopaaStaH
namespace Go.Proofs.Ytnloedhcginopaa.StaI
open Go.ChangeShapes Go.WideShapes Go.ChangeAt Go.RowKit Base WinM WinA WinB WinC WinD WinE WinF WinG WinH WinI WinJ WinK WinL WinN StaA StaB StaC StaD StaH WldF WldG

theorem right_block (p : Int) (h : InN p) : (Cnt.mk 0 p 0 0 0 0).Right := by
  unfold Cnt.Right Cnt.Fine InN at *
  dsimp only
  omega

set_option maxRecDepth 20000 in
set_option maxHeartbeats 1000000 in
theorem block_yes (S : Spots) (N : Nd) (last at_ : Nat) (a : Option Addr) (n cap : Nat) (f : Nat → Int) (w : World) (h : IsNode w S N) (ho : N.Ok last) (hat : at_ ≤ 1152921504606846976) (hback : last ≤ at_) (hn : n ≤ 9223372036854775807)
    (hi : Ints w a n f) (hx : ∀ i, i < n → badC (f i) = false) :
    Calls Try.prog 37 #[.pointer (some ⟨S.n, 0, none⟩), .int .i64 at_, .slice a n cap] w (NodePost S (N.noted at_ ⟨0, tokM (firsts f n), 0, 0, 0, 0⟩) w) := by
  obtain ⟨k0, k1, k2, kf⟩ := h.cells
  have hg : goodC f n = true := by unfold goodC; simpa using hx
  have HA := hid (areCounts_any a n cap f w (by omega) hi)
  rw [hg] at HA
  have HR := hid (nrefuses_any S.n S.p1 last at_ true w k1 (by rw [h.2.1.cells.2.2.1, ho.l1]))
  have e0 : nrefM last at_ true = 0 := by unfold nrefM isT; simp; omega
  rw [e0] at HR
  have HS := hid (sum_any a n cap f w (by omega) hi hx)
  have htok := tokM_in f n hx
  have HN := hid (fun (wz : World) (hz : Below w.heap.size w wz) =>
    note_yes S N last at_ 0 (tokM (firsts f n)) 0 0 0 0 wz (h.below hz) ho hat hback (right_block _ htok))
  clear h ho hi hx hg e0 htok
  generalize tokM (firsts f n) = tk at *
  go_enter Try.func37, Try.ntmps37
  go_wp2_with fail
  refine HA.out.mono ?_
  rintro e w1 ⟨rfl, rfl⟩
  go_wp2_with fail
  refine HR.out.mono ?_
  rintro e w1 ⟨rfl, rfl⟩
  go_wp2_with fail
  refine HS.out.mono ?_
  rintro e w1 ⟨rfl, hb⟩
  have HB := hid hb
  have HN2 := hid (HN.out w1 hb)
  clear hb HA HR HS HN
  go_wp2_with fail
  refine HN2.out.mono ?_
  rintro e w2 ⟨rfl, S', hn', hgr, hl⟩
  go_wp2
  go_ret
  have hsz := HB.out.size
  refine ⟨rfl, S', hn', ⟨hgr.1, hgr.2.1, hgr.2.2.1, hgr.2.2.2.1.imp_right fun ⟨g, h1, h2⟩ => ⟨g, h1, by omega⟩, hgr.2.2.2.2.imp_right fun ⟨g, h1, h2⟩ => ⟨g, h1, by omega⟩⟩, (Lets.ofBelow HB.out).trans hl⟩

set_option maxRecDepth 20000 in
set_option maxHeartbeats 1000000 in
theorem pass_full (S : Spots) (N : Nd) (last at_ : Nat) (a : Option Addr) (n cap : Nat) (f : Nat → Int) (w : World) (h : IsNode w S N) (ho : N.Ok last) (hat : at_ ≤ 1152921504606846976) (hback : last ≤ at_) (hn : n ≤ 9223372036854775807)
    (hi : Ints w a n f) (hx : ∀ i, i < n → badC (f i) = false) (hroom : 4096 - N.entries < n) :
    Calls Try.prog 20 #[.pointer (some ⟨S.n, 0, none⟩), .int .i64 at_, .slice a n cap] w fun e w' => (∃ r : Int, r ≠ 0 ∧ e = .returned (.int .i64 r)) ∧ w = w' := by
  have he1 := ho.e1
  have he2 := ho.e2
  obtain ⟨k0, k1, k2, kf⟩ := h.cells
  have hg : goodC f n = true := by unfold goodC; simpa using hx
  have HA := hid (areCounts_any a n cap f w (by omega) hi)
  rw [hg] at HA
  have HR := hid (nrefuses_any S.n S.p1 last at_ true w k1 (by rw [h.2.1.cells.2.2.1, ho.l1]))
  have e0 : nrefM last at_ true = 0 := by unfold nrefM isT; simp; omega
  rw [e0] at HR
  have hroom' : decide ((n : Int) ≤ 4096 - N.entries) = false := by simp; omega
  clear h ho hi hx hg e0
  go_enter Try.func20, Try.ntmps20
  go_wp2_with fail
  refine HA.out.mono ?_
  rintro e w1 ⟨rfl, rfl⟩
  go_wp2_with fail
  refine HR.out.mono ?_
  rintro e w1 ⟨rfl, rfl⟩
  go_wp2_with fail
  refine (holds_any S.n N.entries n _ k0 ⟨he1, he2⟩).mono ?_
  rintro e w1 ⟨rfl, rfl⟩
  go_wp2
  go_ret
  exact ⟨⟨_, by decide, rfl⟩, rfl⟩

set_option maxRecDepth 20000 in
set_option maxHeartbeats 1000000 in
theorem done_empty (S : Spots) (N : Nd) (last at_ : Nat) (rt : Int) (fl : Bool) (w : World) (h : IsNode w S N) (ho : N.Ok last) (hat : at_ ≤ 1152921504606846976) (hback : last ≤ at_) (hrt : 0 ≤ rt ∧ rt ≤ 1152921504606846976) (hne : N.entries = 0) :
    Calls Try.prog 41 #[.pointer (some ⟨S.n, 0, none⟩), .int .i64 at_, .int .i64 rt, .bool fl] w fun e w' => (∃ r : Int, r ≠ 0 ∧ e = .returned (.int .i64 r)) ∧ w = w' := by
  obtain ⟨k0, k1, k2, kf⟩ := h.cells
  have HT := hid (isTime_any rt w)
  have ht : isT rt = true := by unfold isT; simp; omega
  rw [ht] at HT
  have HR := hid (nrefuses_any S.n S.p1 last at_ true w k1 (by rw [h.2.1.cells.2.2.1, ho.l1]))
  have e0 : nrefM last at_ true = 0 := by unfold nrefM isT; simp; omega
  rw [e0] at HR
  rw [hne] at k0
  clear h ho e0 ht
  go_enter Try.func41, Try.ntmps41
  go_wp2_with fail
  refine HT.out.mono ?_
  rintro e w1 ⟨rfl, rfl⟩
  go_wp2_with fail
  refine HR.out.mono ?_
  rintro e w1 ⟨rfl, rfl⟩
  go_wp2_with fail
  refine (empty_any S.n 0 _ k0).mono ?_
  rintro e w1 ⟨rfl, rfl⟩
  go_wp2
  go_ret
  exact ⟨⟨_, by decide, rfl⟩, rfl⟩

/-- a log may be told in another way, that sums up alike -/
theorem NGood.retold {N : Nd} {last : Nat} {E E' : List (Nat × Int)} (h : NGood N last E) (he : ∀ q L, ev q L E' = ev q L E) (ht : tot E' = tot E) (hp : ∀ e ∈ E', 0 ≤ e.2) : NGood N last E' :=
  { h with d1 := fun L hL => (h.d1 L hL).trans (he _ _).symm, d2 := fun L hL => (h.d2 L hL).trans (he _ _).symm, pos := hp, all := by rw [ht]; exact h.all }

/-- counts that came at one time, one by one -/
def each (t : Nat) (f : Nat → Int) (n : Nat) : List (Nat × Int) := (List.range n).map fun i => (t, f i)
theorem each_succ (t : Nat) (f : Nat → Int) (n : Nat) : each t f (n + 1) = each t f n ++ [(t, f n)] := by simp [each, List.range_succ]
theorem ev_each (q : Nat) (L : Int) (t : Nat) (f : Nat → Int) (n : Nat) : ev q L (each t f n) = ev q L [(t, sumTo f n)] := by
  induction n with
  | zero => simp [each, ev, sumTo]
  | succ n ih =>
    rw [each_succ, ev_app, ih]
    simp only [ev, sumTo]
    split <;> omega
theorem tot_each (t : Nat) (f : Nat → Int) (n : Nat) : tot (each t f n) = sumTo f n := by
  induction n with
  | zero => simp [each, tot, sumTo]
  | succ n ih => rw [each_succ, tot_app, ih]; simp [tot, sumTo]

theorem plus_firsts (f : Nat → Int) (n : Nat) (hf : ∀ i, i < n → 0 ≤ f i ∧ f i ≤ 1099511627776) (hn : n ≤ 4096) : Plu.plusL (firsts f n) = sumTo f n ∧ 0 ≤ sumTo f n ∧ sumTo f n ≤ n * 1099511627776 := by
  induction n with
  | zero => simp [firsts, Plu.plusL, sumTo]
  | succ n ih =>
    obtain ⟨h1, h2, h3⟩ := ih (fun i hi => hf i (by omega)) (by omega)
    have hx := hf n (by omega)
    rw [firsts_succ, Plu.plusL_snoc, h1]
    simp only [sumTo]
    have hk : NumC.keep (sumTo f n + f n) = sumTo f n + f n := by unfold NumC.keep; rw [if_pos (by unfold NumM.Fits; omega)]
    refine ⟨hk, by omega, by omega⟩

theorem tok_sum (f : Nat → Int) (n : Nat) (hx : ∀ i, i < n → badC (f i) = false) (hn : n ≤ 4096) : tokM (firsts f n) = sumTo f n := by
  have h := plus_firsts f n (fun i hi => by have := hx i hi; unfold badC at this; simp at this; omega) hn
  unfold tokM
  rw [h.1]
  omega

end Go.Proofs.Ytnloedhcginopaa.StaI
