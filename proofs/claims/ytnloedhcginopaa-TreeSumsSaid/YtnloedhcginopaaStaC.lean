/- Contracts of New, Pass, Done, Sum, Past, Mean of a node. -/
import Derived.Test.YtnloedhcginopaaStaB
import Derived.Test.YtnloedhcginopaaPlu
import Derived.Test.YtnloedhcginopaaNumE
namespace Go.Proofs.Ytnloedhcginopaa.StaC
open Go.ChangeShapes Go.WideShapes Go.ChangeAt Go.RowKit Base WinM WinA WinB WinC WinD WinE WinF WinG WinH WinI WinJ WinK WinL StaA StaB WldF WldG

def Win.fresh (wd sz : Nat) : Win := ⟨wd, sz, 0, []⟩
def Nd.new : Nd := ⟨0, ⟨1000000, 10, 0, []⟩, ⟨2000000, 2, 0, []⟩⟩

theorem newOk : Nd.new.Ok 0 := { w1 := rfl, s1 := rfl, w2 := rfl, s2 := rfl, l1 := rfl, l2 := rfl, f1 := (fun _ h => by cases h), f2 := (fun _ h => by cases h), n1 := by decide, n2 := by decide, e1 := by decide, e2 := by decide }

theorem heap3 (w : World) (A B C : Obj) : (((w.alloc A).alloc B).alloc C).heap[w.heap.size]? = some A ∧ (((w.alloc A).alloc B).alloc C).heap[w.heap.size + 1]? = some B ∧ (((w.alloc A).alloc B).alloc C).heap[w.heap.size + 2]? = some C := by
  have e1 : ((w.alloc A).alloc B).heap.size = w.heap.size + 2 := by simp
  have e0 : (w.alloc A).heap.size = w.heap.size + 1 := by simp
  refine ⟨?_, ?_, ?_⟩
  · rw [Below.heap_alloc _ _ _ (by omega)]; exact heap_alloc2_old _ _ _
  · rw [Below.heap_alloc _ _ _ (by omega), ← e0]; exact heap_alloc_new _ _
  · rw [← e1]; exact heap_alloc_new _ _

set_option maxHeartbeats 400000 in
theorem new_any (w : World) :
    Calls Try.prog 62 #[] w fun e w' => e = .returned (.pointer (some ⟨w.heap.size + 2, 0, none⟩)) ∧ IsNode w' ⟨w.heap.size + 2, w.heap.size, none, w.heap.size + 1, none⟩ Nd.new ∧ Below w.heap.size w w' ∧ w'.heap.size = w.heap.size + 3 := by
  have H1 := hid (winNew_any 1000000 10 100000 w (by omega) (by omega) (by omega) (by omega) (by omega))
  have H2 := hid (winNew_any 2000000 2 1000000 (w.alloc (.cells #[.int .i64 1000000, .int .i64 10, .int .i64 0, .slice none 0 0] 112)) (by omega) (by omega) (by omega) (by omega) (by omega))
  go_enter Try.func62, Try.ntmps62
  go_wp2_with fail
  refine H1.out.mono ?_
  rintro e w1 ⟨rfl, rfl⟩
  go_wp2_with fail
  refine H2.out.mono ?_
  rintro e w1 ⟨rfl, rfl⟩
  go_wp2
  go_ret
  obtain ⟨h1, h2, h3⟩ := heap3 w (.cells #[.int .i64 1000000, .int .i64 10, .int .i64 0, .slice none 0 0] 112) (.cells #[.int .i64 2000000, .int .i64 2, .int .i64 0, .slice none 0 0] 112) (.cells #[.int .i64 0, .pointer (some ⟨w.heap.size, 0, none⟩), .pointer (some ⟨w.heap.size + 1, 0, none⟩)] 85)
  exact ⟨rfl, ⟨h3, ⟨by simp, _, h1, .inl ⟨rfl, rfl, rfl⟩⟩, ⟨by simp, _, h2, .inl ⟨rfl, rfl, rfl⟩⟩, by simp, by simp, by simp, by simp, by simp, by simp, by simp, fun g h => by cases h⟩, (by repeat (first | (with_reducible exact Below.refl _ _) | (with_reducible refine Below.setCell ?_ (by first | (simp; done) | (simp; omega) | omega) _) | (with_reducible refine Below.alloc ?_ (by first | (simp; done) | (simp; omega) | omega) _) | (with_reducible refine Below.drew ?_) | (with_reducible refine below_drewN ?_ _))), by simp⟩

/-- tokens together, as a node notes them -/
def tokM (xs : List Int) : Int := min (Plu.plusL xs) 4611686018427387904

set_option maxHeartbeats 400000 in
theorem sum_core (v : Value) (r : Int) (w : World) (HP : Hid (Calls Try.prog 69 #[v] w fun e w' => e = .returned (.int .i64 r) ∧ Below w.heap.size w w')) :
    Calls Try.prog 50 #[v] w fun e w' => e = .returned (.int .i64 (min r 4611686018427387904)) ∧ Below w.heap.size w w' := by
  go_enter Try.func50, Try.ntmps50
  go_wp2_with fail
  refine HP.out.mono ?_
  rintro e w1 ⟨rfl, hb⟩
  have HB := hid hb
  clear hb
  go_wp2
  all_goals
    go_ret
    refine ⟨?_, HB.out⟩
    first
      | rfl
      | (show Ending.returned (.int .i64 _) = _; congr 2; omega)

theorem sum_any (a : Option Addr) (n cap : Nat) (f : Nat → Int) (w : World) (hn : n ≤ 9223372036854775807) (h : Ints w a n f) (hx : ∀ i, i < n → badC (f i) = false) :
    Calls Try.prog 50 #[.slice a n cap] w fun e w' => e = .returned (.int .i64 (tokM (firsts f n))) ∧ Below w.heap.size w w' := by
  by_cases h0 : n = 0
  · subst h0
    exact sum_core _ 0 w (hid (Plu.plus_empty a cap w))
  · obtain ⟨g, o, rfl, hg, hc⟩ := h (by omega)
    refine sum_core _ _ w (hid (Plu.plus_list g o n cap (firsts f n) w hn hg (hid (firsts_len f n)) (hid fun i hi => by rw [firsts_get f n i hi]; exact hc i hi) (hid fun i => ?_)))
    by_cases hi : i < n
    · rw [firsts_get f n i hi]
      have := hx i hi
      unfold badC at this
      unfold NumM.Fits
      simp at this
      omega
    · have : (firsts f n).getD i 0 = 0 := by simp [List.getD, firsts, hi]
      rw [this]
      unfold NumM.Fits
      omega

theorem plusL_pos (l : List Int) (h : ∀ x ∈ l, 0 ≤ x) : 0 ≤ Plu.plusL l := by
  unfold Plu.plusL
  suffices ∀ s, 0 ≤ s → 0 ≤ l.foldl (fun s x => NumC.keep (s + x)) s from this 0 (by omega)
  induction l with
  | nil => intro s hs; exact hs
  | cons x l ih =>
    intro s hs
    refine ih (fun y hy => h y (by simp [hy])) _ ?_
    have := h x (by simp)
    dsimp only
    unfold NumC.keep
    split
    · omega
    · split <;> omega

theorem tokM_in (f : Nat → Int) (n : Nat) (h : ∀ i, i < n → badC (f i) = false) : InN (tokM (firsts f n)) := by
  have := plusL_pos (firsts f n) (fun x hx => by
    obtain ⟨i, hi, rfl⟩ := List.mem_map.1 hx
    have := h i (List.mem_range.1 hi)
    unfold badC at this
    simp at this
    omega)
  unfold InN tokM
  omega

theorem right_pass (p : Int) (h : InN p) : (Cnt.mk p 0 0 0 0 0).Right := by
  unfold Cnt.Right Cnt.Fine InN at *
  dsimp only
  omega
theorem right_block (p : Int) (h : InN p) : (Cnt.mk 0 p 0 0 0 0).Right := by
  unfold Cnt.Right Cnt.Fine InN at *
  dsimp only
  omega
theorem right_done (rt e : Int) (h : 0 ≤ rt ∧ rt ≤ 1152921504606846976) (he : e = 0 ∨ e = 1) : (Cnt.mk 0 0 1 e rt rt).Right := by
  unfold Cnt.Right Cnt.Fine InN
  dsimp only
  omega

theorem IsNode.setEntries {w : World} {S : Spots} {N : Nd} (h : IsNode w S N) (k : Int) : IsNode (w.setCell ⟨S.n, 0, none⟩ (.int .i64 k)) S { N with entries := k } := by
  obtain ⟨h1, h2, h3, h4⟩ := h
  have hl : Lets (fun b => b = S.n) w (w.setCell ⟨S.n, 0, none⟩ (.int .i64 k)) := (Lets.refl _ _).set _ _ (.inl rfl)
  exact ⟨heap_setCell_same _ _ _ _ _ _ h1, h2.keep hl (fun e => h4.1 e.symm) (fun g e e2 => h4.2.2.2.1 (by rw [e, e2])), h3.keep hl (fun e => h4.2.1 e.symm) (fun g e e2 => h4.2.2.2.2.2.1 (by rw [e, e2])), h4⟩

theorem okSetEntries {N : Nd} {last : Nat} (h : N.Ok last) (k : Int) (h1 : 0 ≤ k) (h2 : k ≤ 4096) : Nd.Ok { N with entries := k } last := { h with e1 := h1, e2 := h2 }

set_option maxRecDepth 20000 in
set_option maxHeartbeats 1000000 in
theorem pass_yes (S : Spots) (N : Nd) (last at_ : Nat) (a : Option Addr) (n cap : Nat) (f : Nat → Int) (w : World) (h : IsNode w S N) (ho : N.Ok last) (hat : at_ ≤ 1152921504606846976) (hback : last ≤ at_)
    (hi : Ints w a n f) (hfar : 0 < n → ∀ g o, a = some ⟨g, o, none⟩ → g ≠ S.n) (hx : ∀ i, i < n → badC (f i) = false) (hroom : (n : Int) ≤ 4096 - N.entries) :
    Calls Try.prog 20 #[.pointer (some ⟨S.n, 0, none⟩), .int .i64 at_, .slice a n cap] w (NodePost S (({ N with entries := N.entries + n } : Nd).noted at_ ⟨tokM (firsts f n), 0, 0, 0, 0, 0⟩) w) := by
  have he1 := ho.e1
  have he2 := ho.e2
  have hn : n ≤ 4096 := by omega
  obtain ⟨k0, k1, k2, kf⟩ := h.cells
  have hg : goodC f n = true := by unfold goodC; simpa using hx
  have HA := hid (areCounts_any a n cap f w (by omega) hi)
  rw [hg] at HA
  have HR := hid (nrefuses_any S.n S.p1 last at_ true w k1 (by rw [h.2.1.cells.2.2.1, ho.l1]))
  have e0 : nrefM last at_ true = 0 := by unfold nrefM isT; simp; omega
  rw [e0] at HR
  have h1 := IsNode.setEntries h (N.entries + n)
  have hi1 : Ints (w.setCell ⟨S.n, 0, none⟩ (.int .i64 (N.entries + n))) a n f := fun h0 => by
    obtain ⟨g, o, ha, hgs, hc⟩ := hi h0
    exact ⟨g, o, ha, by simpa using hgs, fun i hi2 => by rw [World.cell?_setCell_other _ _ _ _ (by intro e; exact hfar h0 g o ha (congrArg Addr.block e).symm)]; exact hc i hi2⟩
  have HS := hid (sum_any a n cap f _ (by omega) hi1 hx)
  have htok := tokM_in f n hx
  have HN := hid (fun (wz : World) (hz : Below (w.setCell ⟨S.n, 0, none⟩ (.int .i64 (N.entries + n))).heap.size (w.setCell ⟨S.n, 0, none⟩ (.int .i64 (N.entries + n))) wz) =>
    note_yes S { N with entries := N.entries + n } last at_ (tokM (firsts f n)) 0 0 0 0 0 wz (h1.below hz) (okSetEntries ho _ (by omega) (by omega)) hat hback (right_pass _ htok))
  have hroom' : decide ((n : Int) ≤ 4096 - N.entries) = true := by simpa using hroom
  have hL : Lets S.Has w (w.setCell ⟨S.n, 0, none⟩ (.int .i64 (N.entries + n))) := (Lets.refl _ _).set _ _ (.inl (.inl rfl))
  have HL := hid hL
  clear h ho hi hi1 hx hg e0 h1 htok hL hfar
  generalize tokM (firsts f n) = tk at *
  go_enter Try.func20, Try.ntmps20
  go_wp2_with fail
  refine HA.out.mono ?_
  rintro e w1 ⟨rfl, rfl⟩
  go_wp2_with fail
  refine HR.out.mono ?_
  rintro e w1 ⟨rfl, rfl⟩
  go_wp2_with fail
  refine (holds_any S.n N.entries n _ k0 ⟨he1, he2⟩).mono ?_
  rintro e w1 ⟨rfl, rfl⟩
  go_wp2_with fail
  refine (come_any S.n N.entries n _ k0 kf ⟨he1, he2⟩ ⟨by omega, by omega⟩).mono ?_
  rintro e w1 ⟨rfl, rfl⟩
  go_wp2_with fail
  refine HS.out.mono ?_
  rintro e w1 ⟨rfl, hb⟩
  have HB := hid hb
  have HN2 := hid (HN.out w1 hb)
  clear hb HA HR HS HN
  go_wp2_with fail
  refine HN2.out.mono ?_
  rintro e w2 ⟨rfl, S', hn', hgr, hl⟩
  go_wp2
  go_ret
  have hsz := HB.out.size
  simp only [World.size_setCell] at hsz
  refine ⟨rfl, S', hn', ⟨hgr.1, hgr.2.1, hgr.2.2.1, hgr.2.2.2.1.imp_right fun ⟨g, h1, h2⟩ => ⟨g, h1, by omega⟩, hgr.2.2.2.2.imp_right fun ⟨g, h1, h2⟩ => ⟨g, h1, by omega⟩⟩, (HL.out.trans (Lets.ofBelow HB.out)).trans hl⟩

set_option maxRecDepth 20000 in
set_option maxHeartbeats 1000000 in
theorem done_yes (S : Spots) (N : Nd) (last at_ : Nat) (rt : Int) (fl : Bool) (w : World) (h : IsNode w S N) (ho : N.Ok last) (hat : at_ ≤ 1152921504606846976) (hback : last ≤ at_) (hrt : 0 ≤ rt ∧ rt ≤ 1152921504606846976) (hne : N.entries ≠ 0) :
    Calls Try.prog 41 #[.pointer (some ⟨S.n, 0, none⟩), .int .i64 at_, .int .i64 rt, .bool fl] w (NodePost S (({ N with entries := N.entries - 1 } : Nd).noted at_ ⟨0, 0, 1, if fl then 1 else 0, rt, rt⟩) w) := by
  have he1 := ho.e1
  have he2 := ho.e2
  obtain ⟨k0, k1, k2, kf⟩ := h.cells
  have hn := h.lt
  have HT := hid (isTime_any rt w)
  have e1 : isT rt = true := by unfold isT; simpa using hrt
  rw [e1] at HT
  have HR := hid (nrefuses_any S.n S.p1 last at_ true w k1 (by rw [h.2.1.cells.2.2.1, ho.l1]))
  have e0 : nrefM last at_ true = 0 := by unfold nrefM isT; simp; omega
  rw [e0] at HR
  have h1 := IsNode.setEntries h (N.entries - 1)
  have HN := hid (fun (wz : World) (hz : Below (w.setCell ⟨S.n, 0, none⟩ (.int .i64 (N.entries - 1))).heap.size (w.setCell ⟨S.n, 0, none⟩ (.int .i64 (N.entries - 1))) wz) =>
    note_yes S { N with entries := N.entries - 1 } last at_ 0 0 1 (if fl then 1 else 0) rt rt wz (h1.below hz) (okSetEntries ho _ (by omega) (by omega)) hat hback (right_done rt _ hrt (by cases fl; exact .inl rfl; exact .inr rfl)))
  have hne' : (N.entries == 0) = false := by simpa using hne
  have hL : Lets S.Has w (w.setCell ⟨S.n, 0, none⟩ (.int .i64 (N.entries - 1))) := (Lets.refl _ _).set _ _ (.inl (.inl rfl))
  have HL := hid hL
  clear h ho e0 e1 h1 hL hne hrt
  cases fl with
  | true =>
    have HN2 := hid (HN.out ((w.setCell ⟨S.n, 0, none⟩ (.int .i64 (N.entries - 1))).alloc (.cells #[.int .i64 0, .int .i64 0, .int .i64 1, .int .i64 1, .int .i64 rt, .int .i64 rt] 32)) ((Below.refl _ _).alloc (Nat.le_refl _) _))
    clear HN
    simp only [if_true] at HN2
    go_enter Try.func41, Try.ntmps41
    go_wp2_with fail
    refine HT.out.mono ?_
    rintro e w1 ⟨rfl, rfl⟩
    go_wp2_with fail
    refine HR.out.mono ?_
    rintro e w1 ⟨rfl, rfl⟩
    go_wp2_with fail
    refine (empty_any S.n N.entries _ k0).mono ?_
    rintro e w1 ⟨rfl, rfl⟩
    go_wp2_with fail
    refine (leave_any S.n N.entries _ k0 kf ⟨he1, he2⟩).mono ?_
    rintro e w1 ⟨rfl, rfl⟩
    go_wp2_with fail
    refine HN2.out.mono ?_
    rintro e w2 ⟨rfl, S', hn', hgr, hl⟩
    go_wp2
    go_ret
    refine ⟨rfl, S', hn', ⟨hgr.1, hgr.2.1, hgr.2.2.1, hgr.2.2.2.1.imp_right fun ⟨g, h1, h2⟩ => ⟨g, h1, by simp at h2; omega⟩, hgr.2.2.2.2.imp_right fun ⟨g, h1, h2⟩ => ⟨g, h1, by simp at h2; omega⟩⟩, (HL.out.alloc _).trans hl⟩
  | false =>
    have HN2 := hid (HN.out ((w.setCell ⟨S.n, 0, none⟩ (.int .i64 (N.entries - 1))).alloc (.cells #[.int .i64 0, .int .i64 0, .int .i64 1, .int .i64 0, .int .i64 rt, .int .i64 rt] 32)) ((Below.refl _ _).alloc (Nat.le_refl _) _))
    clear HN
    simp only [Bool.false_eq_true, if_false] at HN2
    go_enter Try.func41, Try.ntmps41
    go_wp2_with fail
    refine HT.out.mono ?_
    rintro e w1 ⟨rfl, rfl⟩
    go_wp2_with fail
    refine HR.out.mono ?_
    rintro e w1 ⟨rfl, rfl⟩
    go_wp2_with fail
    refine (empty_any S.n N.entries _ k0).mono ?_
    rintro e w1 ⟨rfl, rfl⟩
    go_wp2_with fail
    refine (leave_any S.n N.entries _ k0 kf ⟨he1, he2⟩).mono ?_
    rintro e w1 ⟨rfl, rfl⟩
    go_wp2_with fail
    refine HN2.out.mono ?_
    rintro e w2 ⟨rfl, S', hn', hgr, hl⟩
    go_wp2
    go_ret
    refine ⟨rfl, S', hn', ⟨hgr.1, hgr.2.1, hgr.2.2.1, hgr.2.2.2.1.imp_right fun ⟨g, h1, h2⟩ => ⟨g, h1, by simp at h2; omega⟩, hgr.2.2.2.2.imp_right fun ⟨g, h1, h2⟩ => ⟨g, h1, by simp at h2; omega⟩⟩, (HL.out.alloc _).trans hl⟩

/-- what a node's second tells at a time -/
def sumN (N : Nd) (at_ : Nat) : Cnt := sumM (stays ((begN 100000 at_ : Int) - 1000000 + 100000) N.sec.bs)
def pastN (N : Nd) (at_ : Nat) : Int := mostM (begN 1000000 at_) (stays ((begN 1000000 at_ : Int) - 2000000 + 1000000) N.pair.bs)

set_option maxRecDepth 20000 in
set_option maxHeartbeats 1000000 in
theorem nsum_yes (S : Spots) (N : Nd) (last at_ : Nat) (w : World) (h : IsNode w S N) (ho : N.Ok last) (hat : at_ ≤ 1152921504606846976) (hback : last ≤ at_) :
    Calls Try.prog 54 #[.pointer (some ⟨S.n, 0, none⟩), .int .i64 at_] w fun e w' => e = .returned (.tuple #[cv ((sumN N at_)), .int .i64 0]) ∧ Below w.heap.size w w' := by
  have hn := h.lt
  have hb0 : Below w.heap.size w (w.alloc (.cells #[.int .i64 0, .int .i64 0, .int .i64 0, .int .i64 0, .int .i64 0, .int .i64 0] 32)) := (Below.refl _ _).alloc (Nat.le_refl _) _
  have h2 := h.below hb0
  obtain ⟨_, k1, _, _⟩ := h2.cells
  have HS := hid (sum_yes S.p1 S.g1 N.sec 100000 at_ _ h2.2.1 (by rw [ho.w1, ho.s1]) (by omega) (by rw [ho.s1]; omega) (by rw [ho.w1]; omega) hat (by rw [ho.l1]; omega) ho.f1 ho.n1)
  rw [ho.w1] at HS
  have hsum : sumM (stays ((begN 100000 at_ : Int) - ((1000000 : Nat) : Int) + ((100000 : Nat) : Int)) N.sec.bs) = (sumN N at_) := rfl
  rw [hsum] at HS
  generalize (sumN N at_) = c at *
  clear h h2 hb0 hsum ho
  go_enter Try.func54, Try.ntmps54
  go_wp2_with fail
  refine (second_any S.n S.p1 _ k1).mono ?_
  rintro e w1 ⟨rfl, rfl⟩
  go_wp2_with fail
  refine HS.out.mono ?_
  rintro e w1 ⟨rfl, hb⟩
  obtain ⟨hc1, hf1⟩ := bcell hb
  have c0 : w1.cell? ⟨w.heap.size, 0, none⟩ = some (.int .i64 0) := by rw [hc1 _ _ (by simp)]; go_cell
  have c1 : w1.cell? ⟨w.heap.size, 1, none⟩ = some (.int .i64 0) := by rw [hc1 _ _ (by simp)]; go_cell
  have c2 : w1.cell? ⟨w.heap.size, 2, none⟩ = some (.int .i64 0) := by rw [hc1 _ _ (by simp)]; go_cell
  have c3 : w1.cell? ⟨w.heap.size, 3, none⟩ = some (.int .i64 0) := by rw [hc1 _ _ (by simp)]; go_cell
  have c4 : w1.cell? ⟨w.heap.size, 4, none⟩ = some (.int .i64 0) := by rw [hc1 _ _ (by simp)]; go_cell
  have c5 : w1.cell? ⟨w.heap.size, 5, none⟩ = some (.int .i64 0) := by rw [hc1 _ _ (by simp)]; go_cell
  have f0 : w1.frozen? ⟨w.heap.size, 0, none⟩ = false := by rw [hf1 _ _ (by simp)]; go_cell
  have f1 : w1.frozen? ⟨w.heap.size, 1, none⟩ = false := by rw [hf1 _ _ (by simp)]; go_cell
  have f2 : w1.frozen? ⟨w.heap.size, 2, none⟩ = false := by rw [hf1 _ _ (by simp)]; go_cell
  have f3 : w1.frozen? ⟨w.heap.size, 3, none⟩ = false := by rw [hf1 _ _ (by simp)]; go_cell
  have f4 : w1.frozen? ⟨w.heap.size, 4, none⟩ = false := by rw [hf1 _ _ (by simp)]; go_cell
  have f5 : w1.frozen? ⟨w.heap.size, 5, none⟩ = false := by rw [hf1 _ _ (by simp)]; go_cell
  have HB : Hid (Below w.heap.size w w1) := hid (((Below.refl _ _).alloc (Nat.le_refl _) _).trans (hb.mono (by simp)))
  clear hb hc1 hf1 HS k1
  unfold cv
  go_wp2
  refine bodyPost_ret (v := .tuple #[cv c, .int .i64 0]) (by simp [results, Try.results54, go_sem, World.cell?_setCell_same', c0, c1, c2, c3, c4, c5, cv]) rfl ⟨rfl, ?_⟩
  have hb := HB.out
  exact (by repeat (first | (with_reducible exact Below.refl _ _) | (with_reducible refine Below.setCell ?_ (by first | (simp; done) | (simp; omega) | omega) _) | (with_reducible refine Below.alloc ?_ (by first | (simp; done) | (simp; omega) | omega) _) | (with_reducible refine Below.drew ?_) | (with_reducible refine below_drewN ?_ _) | (with_reducible exact hb) | (with_reducible refine Below.trans ?_ (Below.mono hb (by first | (simp; done) | (simp; omega) | omega)))))

end Go.Proofs.Ytnloedhcginopaa.StaC
