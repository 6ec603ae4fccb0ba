/- Contract of Most; errors of Sum and Most. -/
import Derived.Test.YtfpbjkmnipacdaaWinK
import Derived.Sort.QuietIn
namespace Go.Proofs.Ytfpbjkmnipacdaa.WinL
open Go.ChangeShapes Go.WideShapes Go.ChangeAt Go.RowKit Base WinM WinA WinB WinC WinD WinE WinF WinG WinH WinI WinJ WinK WldF WldG
open Go.Shelf

set_option maxHeartbeats 400000 in
theorem sum_no (p : Nat) (last at_ : Int) (w : World) (h : w.cell? ⟨p, 2, none⟩ = some (.int .i64 last)) (hr : refM last at_ ≠ 0) :
    Calls Try.prog 70 #[.pointer (some ⟨p, 0, none⟩), .int .i64 at_] w fun e w' => e = .returned (.tuple #[cv ⟨0, 0, 0, 0, 0, 0⟩, .int .i64 (refM last at_)]) ∧ Below w.heap.size w w' := by
  have hp := World.block_lt_of_cell? _ _ h
  have HR := hid (refuses_any p last at_ (w.alloc (.cells #[.int .i64 0, .int .i64 0, .int .i64 0, .int .i64 0, .int .i64 0, .int .i64 0] 30)) (by go_cell))
  generalize refM last at_ = r at *
  have hr' : (r != 0) = true := by simpa using hr
  clear hr h
  go_enter Try.func70, Try.ntmps70
  go_wp2_with fail
  refine HR.out.mono ?_
  rintro e w1 ⟨rfl, rfl⟩
  go_wp2
  refine bodyPost_ret (v := .tuple #[cv ⟨0, 0, 0, 0, 0, 0⟩, .int .i64 r]) (by simp [results, Try.results70, go_sem, cv]) rfl ⟨rfl, ?_⟩
  exact (by repeat (first | (with_reducible exact Below.refl _ _) | (with_reducible refine Below.setCell ?_ (by first | (simp; done) | (simp; omega) | omega) _) | (with_reducible refine Below.alloc ?_ (by first | (simp; done) | (simp; omega) | omega) _) | (with_reducible refine Below.drew ?_) | (with_reducible refine below_drewN ?_ _)))

attribute [local go_sem] Oper.semAt_some

/-- the greatest pass of buckets -/
def maxF (l : List FB) : Int := l.foldl (fun m b => max m b.1.c.pass) 0
theorem maxF_snoc (l : List FB) (x : FB) : maxF (l ++ [x]) = max (maxF l) x.1.c.pass := by simp [maxF]
/-- .. but of that one that begins at b, and of those behind it -/
def mostM (b : Int) (l : List Bkt) : Int := (l.takeWhile fun x => !decide (x.at_ = b)).foldl (fun m x => max m x.c.pass) 0

theorem foldl_max_map (l : List FB) (m : Int) : (l.map (·.1)).foldl (fun m x => max m x.c.pass) m = l.foldl (fun m b => max m b.1.c.pass) m := by rw [List.foldl_map]
theorem takeWhile_part {b : Int} (l : List FB) (rest : List Bkt) (h : ∀ y ∈ l, y.1.at_ ≠ b) : (l.map (·.1) ++ rest).takeWhile (fun x => !decide (x.at_ = b)) = l.map (·.1) ++ rest.takeWhile (fun x => !decide (x.at_ = b)) := by
  induction l with
  | nil => rfl
  | cons y l ih =>
    have := h y (by simp)
    simp only [List.map_cons, List.cons_append]
    rw [List.takeWhile_cons, if_pos (by simpa using this), ih (fun z hz => h z (by simp [hz]))]
theorem mostM_all {b : Int} {l : List FB} (h : ∀ y ∈ l, y.1.at_ ≠ b) : mostM b (l.map (·.1)) = maxF l := by
  have := takeWhile_part l [] h
  simp only [List.append_nil] at this
  unfold mostM maxF
  rw [this]
  simp only [List.takeWhile_nil, List.append_nil]
  exact foldl_max_map l 0
theorem mostM_part {b : Int} {l : List FB} {x : FB} {rest : List Bkt} (h : ∀ y ∈ l, y.1.at_ ≠ b) (hx : x.1.at_ = b) : mostM b (l.map (·.1) ++ ([x].map (·.1) ++ rest)) = maxF l := by
  unfold mostM maxF
  rw [takeWhile_part l _ h]
  simp only [List.map_cons, List.map_nil, List.singleton_append]
  rw [List.takeWhile_cons, if_neg (by simpa using hx), List.append_nil]
  exact foldl_max_map l 0

set_option maxRecDepth 100000 in
set_option maxHeartbeats 4000000 in
theorem most_yes (p : Nat) (go : Option Nat) (s : Win) (q at_ : Nat) (w : World) (h : IsWin w p go s) (hq : s.width / s.size = q) (hq0 : 0 < q) (hz : 0 < s.size) (hwd : s.width ≤ 1099511627776)
    (hat : at_ ≤ 1152921504606846976) (hback : s.last ≤ at_) (hfine : ∀ x ∈ s.bs, x.c.Fine) (hlen : s.bs.length ≤ 1000) :
    Calls Try.prog 82 #[.pointer (some ⟨p, 0, none⟩), .int .i64 at_] w fun e w' => e = .returned (.tuple #[.int .i64 (mostM (begN q at_) (stays ((begN q at_ : Int) - s.width + q) s.bs)), .int .i64 0]) ∧ Below w.heap.size w w' := by
  have hr0 : refM s.last at_ = 0 := by unfold refM; rw [if_neg (by omega), if_neg (by omega)]
  refine callsIn_wide.1 (callsIn_of_wp_marks (n := 10) Try.func82 rfl trivial ?_ rfl)
  simp only [Try.ntmps82, List.size_toArray, List.length_cons, List.length_nil, Nat.reduceAdd, Nat.reduceSub, Array.replicate_succ, Array.replicate_zero, List.push_toArray, List.append_toArray, List.nil_append, List.cons_append]
  have hp := h.lt
  have hg := h.lt2
  obtain ⟨wa, hwa⟩ : ∃ wa, (w.alloc (.cells #[.pointer (some ⟨p, 0, none⟩)] 116)).alloc (.cells #[.int .i64 at_] 3) = wa := ⟨_, rfl⟩
  have hba : Below w.heap.size w wa := by rw [← hwa]; exact ((Below.refl _ w).alloc (Nat.le_refl _) _).alloc (by simp) _
  have hb0 : wa.heap[w.heap.size]? = some (.cells #[.pointer (some ⟨p, 0, none⟩)] 116) := by rw [← hwa]; exact heap_alloc2_old _ _ _
  have hb1 : wa.heap[w.heap.size + 1]? = some (.cells #[.int .i64 at_] 3) := by
    rw [← hwa]
    have := heap_alloc_new (w.alloc (.cells #[.pointer (some ⟨p, 0, none⟩)] 116)) (.cells #[.int .i64 at_] 3)
    simp only [World.size_alloc] at this
    exact this
  have hza : wa.heap.size = w.heap.size + 2 := by rw [← hwa]; simp
  have hw1 : IsWin wa p go s := h.keep (R := fun _ => False) (Lets.ofBelow hba) (fun h => h) (fun _ _ h => h)
  have HR := hid (refuses_any p s.last at_ _ hw1.cells.2.2.1)
  rw [hr0] at HR
  have hw2 : IsWin (wa.alloc (.cells #[.int .i64 0] 3)) p go s := hw1.keep (R := fun _ => False) (Lets.ofBelow ((Below.refl _ _).alloc (Nat.le_refl _) _)) (fun h => h) (fun _ _ h => h)
  have HWi := hid (within_any p s go q at_ _ hw2 hq hq0 hz hwd hat)
  have c0 : wa.cell? ⟨w.heap.size, 0, none⟩ = some (.pointer (some ⟨p, 0, none⟩)) := by simp [World.cell?, hb0]
  have c1 : wa.cell? ⟨w.heap.size + 1, 0, none⟩ = some (.int .i64 at_) := by simp [World.cell?, hb1]
  have HQ := hid (And.intro hq (And.intro hq0 (And.intro hz (And.intro hwd hat))))
  have HW2 := hid hw2
  have HLen := hid hlen
  have HFine := hid hfine
  have HBA := hid hba
  have HB0 := hid hb0
  have HB1 := hid hb1
  have HZA := hid hza
  clear hw1 hw2 h hq hq0 hz hwd hback hfine hlen hr0 hba hb0 hb1 hza
  gi_wp2_with fail
  refine ⟨trivial, ?_⟩
  refine (callsIn_wide.2 HR.out).mono ?_
  rintro e w1 ⟨rfl, rfl⟩
  have hza := HZA.out
  clear HR
  gi_wp2_with fail
  refine ⟨trivial, ?_⟩
  refine (callsIn_wide.2 HWi.out).mono ?_
  rintro e w2 ⟨rfl, hb2, k1, k2, hsz2⟩
  simp only [World.size_alloc, hza] at k1 k2 hsz2
  have hA0 : w2.heap[w.heap.size]? = some (.cells #[.pointer (some ⟨p, 0, none⟩)] 116) := by
    rw [hb2.block _ (by simp; omega), Below.heap_alloc _ _ _ (by omega)]
    exact HB0.out
  have hA1 : w2.heap[w.heap.size + 1]? = some (.cells #[.int .i64 at_] 3) := by
    rw [hb2.block _ (by simp; omega), Below.heap_alloc _ _ _ (by omega)]
    exact HB1.out
  have hA2 : w2.heap[w.heap.size + 2]? = some (.cells #[.int .i64 0] 3) := by
    rw [hb2.block _ (by simp; omega), ← hza]
    exact heap_alloc_new _ _
  have hB2 : Below w.heap.size w w2 := (HBA.out.alloc (by omega) _).trans (hb2.mono (by simp; omega))
  have hW3 : IsWin w2 p go s := HW2.out.keep (R := fun _ => False) (Lets.ofBelow hb2) (fun h => h) (fun _ _ h => h)
  have HSZ := hid hsz2
  clear hb2 HW2 HWi hsz2 c0 c1
  gi_wp2_with fail
  have hz2 := HSZ.out
  refine wpIn_rangeFunc_ownH rfl (by omega) (gf := 159) (lb := #[.pointer (some ⟨w.heap.size + 2 + 1, 0, none⟩), .pointer (some ⟨w.heap.size + 2 + 1 + 1, 0, none⟩)]) rfl trivial (enters_of Try.func159 (by kernel_rfl) rfl)
    (within_stops 9 (by omega) (w.heap.size + 2 + 1) (w.heap.size + 2 + 1 + 1) p go s ((begN q at_ : Int) - s.width + q) w.heap.size w2 (by omega) (by omega) (by omega) hg (by have := HLen.out; omega) HFine.out k1 k2 hW3) Kp.trans (kp_b (by omega) (by omega)) (Below.refl _ _) (fun _ => rfl)
    (fun pre W => (W.heap[w.heap.size + 2]? = some (.cells #[.int .i64 (maxF pre)] 3) ∧ W.heap[w.heap.size]? = some (.cells #[.pointer (some ⟨p, 0, none⟩)] 116) ∧ W.heap[w.heap.size + 1]? = some (.cells #[.int .i64 at_] 3) ∧ ∀ y ∈ pre, y.1.at_ ≠ ((begN q at_ : Nat) : Int)) ∧ Below w.heap.size w2 W)
    (fun c pre W => (c = .exit 0 ∧ ∃ pre' x, pre = pre' ++ [x] ∧ x.1.at_ = ((begN q at_ : Nat) : Int) ∧ (∀ y ∈ pre', y.1.at_ ≠ ((begN q at_ : Nat) : Int)) ∧ W.heap[w.heap.size + 2]? = some (.cells #[.int .i64 (maxF pre')] 3)) ∧ Below w.heap.size w2 W)
    (OwnFrom.and (Own.from (fun s A B row hs hg hr => ⟨block_own _ _ (fun (_ : Unit) => _) () A B row hs.1 hg hr, block_own _ _ (fun (_ : Unit) => _) () A B row hs.2.1 hg hr, block_own _ _ (fun (_ : Unit) => _) () A B row hs.2.2.1 hg hr, hs.2.2.2⟩) _) (ownFrom_below (by omega) (by omega)))
    (fun c => OwnFrom.and (Own.from (fun s A B row hs hg hr => by obtain ⟨h1, pre', x, h2, h3, h4, h5⟩ := hs; exact ⟨h1, pre', x, h2, h3, h4, block_own _ _ (fun (_ : Unit) => _) () A B row h5 hg hr⟩) _) (ownFrom_below (by omega) (by omega)))
    ⟨⟨hA2, hA0, hA1, fun y hy => by cases hy⟩, Below.refl _ _⟩
    (fun x a' W => ∃ Bx, w.heap.size + 5 ≤ Bx ∧ W.heap[Bx]? = some (.cells (bl x.1) 194) ∧ a' = { tmps := #[.pointer (some ⟨p, 0, none⟩), .int .i64 at_, .pointer (some ⟨w.heap.size, 0, none⟩), .pointer (some ⟨w.heap.size + 1, 0, none⟩), .int .i64 0, .int .i64 0, .int .i64 0, .pointer (some ⟨w.heap.size + 2, 0, none⟩), .pointer (some ⟨Bx, 0, none⟩), .pointer (some ⟨p, 0, none⟩), .int .i64 at_, .int .i64 0, .int .i64 0, .bool false, undef, .pointer (some ⟨p, 0, none⟩), .int .i64 at_, .func (Fn.func 159) #[] #[.pointer (some ⟨w.heap.size + 2 + 1, 0, none⟩), .pointer (some ⟨w.heap.size + 2 + 1 + 1, 0, none⟩)], .agg #[.int .i64 x.1.at_, .int .i64 x.1.c.pass, .int .i64 x.1.c.block, .int .i64 x.1.c.done, .int .i64 x.1.c.errs, .int .i64 x.1.c.rt, .int .i64 x.1.c.low], undef, undef, undef, undef, undef, undef, undef, undef, undef, undef, undef, undef], defers := [] })
    (fun x a' _ X Y row hs hg hr => by obtain ⟨Bx, h1, h2, h3⟩ := hs; exact ⟨Bx, h1, block_own Bx _ (fun (_ : Unit) => bl x.1) () X Y row h2 hg (fun r e => (hr r e).2), h3⟩)
    ?assign ?body ?done ?stop
  case assign =>
    rintro l pre x W K ⟨⟨hA2, hA0, hA1, hne⟩, hB⟩ hK
    have HK := hid hK
    have HNe := hid hne
    clear hK hne
    unfold be
    gi_wp2
    have hs1 := hB.size
    exact HK.out _ _ ((KeepsOthers.alloc _ _).from _) ((Kp.refl _ _ _).alloc (by omega) (by omega) _) ⟨⟨(Below.heap_alloc _ _ _ (by omega)).trans hA2, (Below.heap_alloc _ _ _ (by omega)).trans hA0, (Below.heap_alloc _ _ _ (by omega)).trans hA1, HNe.out⟩, hB.alloc (by omega) _⟩ ⟨W.heap.size, by omega, heap_alloc_new _ _, rfl⟩
  case body =>
    rintro l pre x a' W hl ⟨r, hr⟩ ⟨⟨hA2, hA0, hA1, hne⟩, hB⟩ ⟨Bx, hBx, bX, rfl⟩ hlt
    have hs1 := hB.size
    have HA2 := hid hA2
    have HA0 := hid hA0
    have HA1 := hid hA1
    have HB := hid hB
    have HNe := hid hne
    have hW4 : IsWin W p go s := hW3.keep (R := fun k => w.heap.size ≤ k) ⟨hB.os, hB.tape, hB.output, hB.size, fun k _ hk => hB.block k (by omega)⟩ (by omega) (fun g e h => by have := hg g e; omega)
    obtain ⟨p0, p1, _, _⟩ := hW4.cells
    have HBg := hid (fun m => begin_any p s.width s.size q at_ (W.drewN m) p0 p1 HQ.out.2.2.1 HQ.out.1 HQ.out.2.1 HQ.out.2.2.2.1 HQ.out.2.2.2.2)
    have s0 : W.cell? ⟨w.heap.size, 0, none⟩ = some (.pointer (some ⟨p, 0, none⟩)) := by simp [World.cell?, hA0]
    have s1 : W.cell? ⟨w.heap.size + 1, 0, none⟩ = some (.int .i64 at_) := by simp [World.cell?, hA1]
    have s2 : W.cell? ⟨w.heap.size + 2, 0, none⟩ = some (.int .i64 (maxF pre)) := by simp [World.cell?, hA2]
    have f2 : W.frozen? ⟨w.heap.size + 2, 0, none⟩ = false := by simp [World.frozen?, hA2]
    unfold bl at bX
    have x0 : W.cell? ⟨Bx, 0, none⟩ = some (.int .i64 x.1.at_) := by simp [World.cell?, bX]
    have x1 : W.cell? ⟨Bx, 1, none⟩ = some (.int .i64 x.1.c.pass) := by simp [World.cell?, bX]
    clear hA2 hA0 hA1 hB bX hne hW4 p0 p1
    by_cases hq : x.1.at_ = begN q at_
    · gi_wp2_with fail
      gi_region_with (refine ⟨trivial, ?_⟩; gi_at_call 138; refine (CallsIn.inRound l (callsIn_wide.2 (HBg.out _))).mono ?_; rintro e w3 ⟨rfl, m, rfl⟩)
      all_goals gi_wp2
      all_goals exact ⟨⟨Nat.le_refl _, fun _ _ _ h _ => h⟩, ⟨rfl, pre, x, rfl, hq, HNe.out, HA2.out⟩, below_drewN HB.out _⟩
    · have hq' : (x.1.at_ == ((begN q at_ : Nat) : Int)) = false := by simpa using hq
      have HMx := hid (maxF_snoc pre x)
      have HNe2 : Hid (∀ y ∈ pre ++ [x], y.1.at_ ≠ ((begN q at_ : Nat) : Int)) := hid (fun y hy => by rcases List.mem_append.1 hy with h | h; exact HNe.out y h; (simp at h; subst h; exact hq))
      clear hq
      have HEnd := hid (show ∀ (k : Nat) (v : Int), maxF (pre ++ [x]) = v → KeepsFrom w2.heap.size W ((W.drewN k).setCell ⟨w.heap.size + 2, 0, none⟩ (.int .i64 v)) ∧ Kp w.heap.size (w.heap.size + 2 + 1 + 1) W ((W.drewN k).setCell ⟨w.heap.size + 2, 0, none⟩ (.int .i64 v)) ∧
          (((W.drewN k).setCell ⟨w.heap.size + 2, 0, none⟩ (.int .i64 v)).heap[w.heap.size + 2]? = some (.cells #[.int .i64 (maxF (pre ++ [x]))] 3) ∧ ((W.drewN k).setCell ⟨w.heap.size + 2, 0, none⟩ (.int .i64 v)).heap[w.heap.size]? = some (.cells #[.pointer (some ⟨p, 0, none⟩)] 116) ∧ ((W.drewN k).setCell ⟨w.heap.size + 2, 0, none⟩ (.int .i64 v)).heap[w.heap.size + 1]? = some (.cells #[.int .i64 at_] 3) ∧ ∀ y ∈ pre ++ [x], y.1.at_ ≠ ((begN q at_ : Nat) : Int)) ∧ Below w.heap.size w2 ((W.drewN k).setCell ⟨w.heap.size + 2, 0, none⟩ (.int .i64 v)) from by
        intro k v hv
        rw [hv]
        have hk0 : KeepsFrom w2.heap.size W (W.drewN k) := ⟨Nat.le_refl _, fun _ _ _ h _ => h⟩
        have hk1 : KeepsFrom w2.heap.size (W.drewN k) ((W.drewN k).setCell ⟨w.heap.size + 2, 0, none⟩ (.int .i64 v)) := (KeepsOthers.setCell _ _ _).from _
        have ho : ∀ b, b ≠ w.heap.size + 2 → ((W.drewN k).setCell ⟨w.heap.size + 2, 0, none⟩ (.int .i64 v)).heap[b]? = W.heap[b]? := fun b hb => heap_setCell_other (W.drewN k) ⟨w.heap.size + 2, 0, none⟩ b _ hb
        have hle : w.heap.size ≤ (⟨w.heap.size + 2, 0, none⟩ : Addr).block := by show w.heap.size ≤ w.heap.size + 2; omega
        refine ⟨hk0.trans hk1, ⟨(below_drewN (Below.refl w.heap.size W) k).setCell hle _, ho _ (by omega)⟩, ⟨?_, (ho _ (by omega)).trans HA0.out, (ho _ (by omega)).trans HA1.out, HNe2.out⟩, (below_drewN HB.out k).setCell hle _⟩
        exact heap_setCell_same (W.drewN k) _ _ _ _ _ HA2.out)
      rcases Int.lt_trichotomy (maxF pre) x.1.c.pass with hm | hm | hm
      · have HMv : Hid (maxF (pre ++ [x]) = x.1.c.pass) := hid (by rw [HMx.out]; omega)
        clear HMx
        gi_wp2_with fail
        gi_region_with (refine ⟨trivial, ?_⟩; gi_at_call 138; refine (CallsIn.inRound l (callsIn_wide.2 (HBg.out _))).mono ?_; rintro e w3 ⟨rfl, m, rfl⟩)
        all_goals gi_wp2
        all_goals exact HEnd.out _ _ HMv.out
      · have HMv : Hid (maxF (pre ++ [x]) = x.1.c.pass) := hid (by rw [HMx.out]; omega)
        rw [hm] at s2
        clear hm
        clear HMx
        gi_wp2_with fail
        gi_region_with (refine ⟨trivial, ?_⟩; gi_at_call 138; refine (CallsIn.inRound l (callsIn_wide.2 (HBg.out _))).mono ?_; rintro e w3 ⟨rfl, m, rfl⟩)
        all_goals gi_wp2
        all_goals exact HEnd.out _ _ HMv.out
      · have HMv : Hid (maxF (pre ++ [x]) = maxF pre) := hid (by rw [HMx.out]; omega)
        clear HMx
        gi_wp2_with fail
        gi_region_with (refine ⟨trivial, ?_⟩; gi_at_call 138; refine (CallsIn.inRound l (callsIn_wide.2 (HBg.out _))).mono ?_; rintro e w3 ⟨rfl, m, rfl⟩)
        all_goals gi_wp2
        all_goals exact HEnd.out _ _ HMv.out
  case done =>
    rintro D ys W hD hys ⟨⟨hA2, hA0, hA1, hne⟩, hB⟩ hK
    have hs1 := hB.size
    have HB := hid hB
    have s2 : W.cell? ⟨w.heap.size + 2, 0, none⟩ = some (.int .i64 (maxF ys)) := by simp [World.cell?, hA2]
    have HM : Hid (mostM (begN q at_ : Nat) (stays ((begN q at_ : Int) - s.width + q) s.bs) = maxF ys) := hid (by rw [← hys]; exact mostM_all hne)
    clear hA2 hA0 hA1 hne hB hys
    gi_wp2
    refine ⟨by simp, .inl ⟨_, _, rfl, run_takeDeferred hK, ?_⟩⟩
    rw [HM.out]
    refine ⟨.tuple #[.int .i64 (maxF ys), .int .i64 0], ?_, rfl, (hB2.trans HB.out).trans (belowK_b (w := w) (Nat.le_refl _) W D _ _ (by omega) hK rfl rfl)⟩
    simp [results, Try.results82, go_sem]
  case stop =>
    rintro D c pre W hD hpre ⟨⟨rfl, pre', x, rfl, hx, hne, hA2⟩, hB⟩ hK
    have hs1 := hB.size
    have HB := hid hB
    have s2 : W.cell? ⟨w.heap.size + 2, 0, none⟩ = some (.int .i64 (maxF pre')) := by simp [World.cell?, hA2]
    have HM : Hid (mostM (begN q at_ : Nat) (stays ((begN q at_ : Int) - s.width + q) s.bs) = maxF pre') := hid (by
      obtain ⟨rest, hr⟩ := hpre
      rw [← hr, List.map_append, List.append_assoc]
      exact mostM_part hne hx)
    clear hA2 hne hB hpre hx
    gi_wp2
    refine ⟨by simp, .inl ⟨_, _, rfl, run_takeDeferred hK, ?_⟩⟩
    rw [HM.out]
    refine ⟨.tuple #[.int .i64 (maxF pre'), .int .i64 0], ?_, rfl, (hB2.trans HB.out).trans (belowK_b (w := w) (Nat.le_refl _) W D _ _ (by omega) hK rfl rfl)⟩
    simp [results, Try.results82, go_sem]

end Go.Proofs.Ytfpbjkmnipacdaa.WinL
