/- The document's rule of hot parameters at work: Take, Kept. -/
import Derived.Test.YtbihelpnojjacaaGreatHotJ
import Derived.Deep.QuietTactic
import Derived.Test.YtbihelpnojjacaaGreatKRw
import Derived.Test.YtbihelpnojjacaaGreatKLr
import Derived.Test.YtbihelpnojjacaaGreatKSk
import Derived.Test.YtbihelpnojjacaaGreatKHa

/- The document's look at a rule of hot parameters. -/
namespace Go.Proofs.YtbihelpnojjacaaGreat.RhA
open Go.ChangeShapes Go.WideShapes Go.ChangeAt Go.RowKit Base Wri RulA Txt ValA LisA LisB HotJ
set_option linter.unusedVariables false

theorem vals_at (n : Nat) (f : Nat → Itm) (i : Nat) (h : i < n) : (vals n f)[i]? = some (f i).1.data.toList := by
  unfold vals
  rw [List.getElem?_map, List.getElem?_range h]
  rfl
theorem bytes_ne {a b : ByteArray} (h : a ≠ b) : a.data.toList ≠ b.data.toList := fun e => h (by
  obtain ⟨⟨a⟩⟩ := a
  obtain ⟨⟨b⟩⟩ := b
  have e2 : a = b := e
  rw [e2])
theorem nodup_iff (n : Nat) (f : Nat → Itm) : (vals n f).Nodup ↔ ∀ i, i < n → ∀ j, j < i → (f j).1 ≠ (f i).1 := by
  induction n with
  | zero => simp [vals]
  | succ n ih =>
    rw [vals_succ, List.nodup_append]
    constructor
    · rintro ⟨h1, h2, h3⟩ i hi j hj
      by_cases e : i = n
      · subst e
        intro e2
        refine h3 (f j).1.data.toList ?_ (f i).1.data.toList (List.mem_singleton.2 rfl) (by rw [e2])
        exact List.mem_of_getElem? (vals_at i f j hj)
      · exact ih.1 h1 i (by omega) j hj
    · intro h
      refine ⟨ih.2 fun i hi j hj => h i (by omega) j hj, by simp, ?_⟩
      intro a ha b hb e
      obtain rfl := List.mem_singleton.1 hb
      unfold vals at ha
      obtain ⟨j, hj, rfl⟩ := List.mem_map.1 ha
      exact bytes_ne (h n (by omega) j (List.mem_range.1 hj)) e

set_option maxRecDepth 20000 in
set_option maxHeartbeats 4000000 in
theorem rhot_core (res : ByteArray) (idx cnt sec : Int) (a : Option Addr) (n cap : Nat) (f : Nat → Itm) (b0 b1 b2 b3 : Bool) (r : Int) (R : Hid ((if b0 then (if b1 && b2 && b3 && itemsB n f then (0 : Int) else 32) else 10) = r)) (w : World) (hI : ItAt w a n f) (hfit : ∀ i, i < n → (f i).1.size ≤ maxLen)
    (H0 : Hid (∀ w, Calls Tryz.prog 57 #[.string res] w fun e w' => e = .returned (.bool b0) ∧ w = w'))
    (H1 : Hid (∀ w, Calls Tryz.prog 58 #[.int .i64 idx, .int .i64 0, .int .i64 7] w fun e w' => e = .returned (.bool b1) ∧ w = w'))
    (H2 : Hid (∀ w, Calls Tryz.prog 58 #[.int .i64 cnt, .int .i64 0, .int .i64 1099511627776] w fun e w' => e = .returned (.bool b2) ∧ w = w'))
    (H3 : Hid (∀ w, Calls Tryz.prog 58 #[.int .i64 sec, .int .i64 1, .int .i64 60] w fun e w' => e = .returned (.bool b3) ∧ w = w')) :
    Calls Tryz.prog 29 #[.agg #[.string res, .int .i64 idx, .int .i64 cnt, .int .i64 sec, .slice a n cap]] w fun e w' => e = .returned (.int .i64 r) ∧ Below w.heap.size w w' := by
  have HB0 : Hid (Below w.heap.size w (w.alloc (.cells #[.string res, .int .i64 idx, .int .i64 cnt, .int .i64 sec, .slice a n cap] 24))) := hid ((Below.refl _ w).alloc (Nat.le_refl _) _)
  have HI := hid (And.intro hI hfit)
  clear hI hfit
  go_enter Tryz.func29, Tryz.ntmps29
  go_wp2_with fail
  refine (H0.out _).mono ?_
  rintro e w1 ⟨rfl, rfl⟩
  cases b0 with
  | false =>
    go_wp2_with fail
    go_ret
    exact ⟨HotJ.ret_int (by rw [← R.out]; rfl), HB0.out⟩
  | true =>
    go_wp2_with fail
    refine (H1.out _).mono ?_
    rintro e w1 ⟨rfl, rfl⟩
    cases b1 with
    | false =>
      go_wp2_with fail
      go_ret
      exact ⟨HotJ.ret_int (by rw [← R.out]; rfl), HB0.out⟩
    | true =>
      go_wp2_with fail
      refine (H2.out _).mono ?_
      rintro e w1 ⟨rfl, rfl⟩
      cases b2 with
      | false =>
        go_wp2_with fail
        go_ret
        exact ⟨HotJ.ret_int (by rw [← R.out]; rfl), HB0.out⟩
      | true =>
        go_wp2_with fail
        refine (H3.out _).mono ?_
        rintro e w1 ⟨rfl, rfl⟩
        cases b3 with
        | false =>
          go_wp2_with fail
          go_ret
          exact ⟨HotJ.ret_int (by rw [← R.out]; rfl), HB0.out⟩
        | true =>
          clear H0 H1 H2 H3
          have HR : Hid ((if itemsB n f then (0 : Int) else 32) = r) := hid (by rw [← R.out]; simp)
          clear R
          by_cases hmany : 32 < n
          · have n1 : (32 : Int) < n := by omega
            have HRf : Hid (r = 32) := hid (by rw [← HR.out]; unfold itemsB; rw [decide_eq_false (by omega)]; rfl)
            go_wp2_with fail
            go_ret
            exact ⟨HotJ.ret_int HRf.out.symm, HB0.out⟩
          · have n1 : ¬ (32 : Int) < n := by omega
            go_wp2_with fail
            go_loopw [3] (fun i wr => ∃ k : Nat, k ≤ n ∧ i = .int .i64 k ∧ (∀ j, j < k → okI (f j) = true) ∧ (vals k f).Nodup ∧ ∃ m, (w.alloc (.cells #[.string res, .int .i64 idx, .int .i64 cnt, .int .i64 sec, .slice a n cap] 24)).drewN m = wr) (fun i _ => n - (intOf i).toNat)
            case atStart => exact ⟨0, Nat.zero_le _, rfl, (fun j h => by omega), by simp [vals], 0, rfl⟩
            case round =>
              obtain ⟨k, hk, rfl, hok, hnd, m, rfl⟩ := hrel
              have HOk := hid hok
              have HNd := hid hnd
              clear hok hnd
              have HBm : Hid (∀ m', Below w.heap.size w ((w.alloc (.cells #[.string res, .int .i64 idx, .int .i64 cnt, .int .i64 sec, .slice a n cap] 24)).drewN m')) := hid fun m' => below_drewN HB0.out m'
              by_cases hlt : k < n
              · have hki : (k : Int) < n := by omega
                obtain ⟨g, o, rfl, hg0, hc⟩ := HI.out.1 (by omega)
                obtain ⟨p0, p1⟩ := hc k hlt
                have hfk := HI.out.2 k hlt
                obtain ⟨⟨s, v⟩, hfk2⟩ : ∃ x, f k = x := ⟨_, rfl⟩
                rw [hfk2] at p0 p1 hfk
                have HFE := hid hfk2
                dsimp only at p0 p1 hfk
                have HC := hid (And.intro hg0 hc)
                have c0 := (HB0.out.cell (p := ⟨g, o + k * 2, none⟩) hg0).trans p0
                have c1 := (HB0.out.cell (p := ⟨g, o + k * 2 + 1, none⟩) hg0).trans p1
                clear hfk2 hc p0 p1 hg0
                by_cases hs : 64 < s.size
                · have hs2 : (64 : Int) < s.size := by omega
                  have HRf : Hid (r = 32) := hid (by
                    rw [← HR.out]; unfold itemsB
                    rw [decide_eq_false (p := ∀ i, i < n → okI (f i) = true) (fun h => by
                      have := h k hlt
                      rw [HFE.out] at this
                      unfold okI at this
                      simp at this
                      omega)]
                    simp)
                  go_wp2_with fail
                  go_ret
                  exact ⟨HotJ.ret_int HRf.out.symm, HBm.out _⟩
                · have hs2 : ¬ (64 : Int) < s.size := by omega
                  have HW := hid (fun w => in_any v 0 1099511627776 w)
                  cases hin : inR v 0 1099511627776 with
                  | false =>
                    have HRf : Hid (r = 32) := hid (by
                      rw [← HR.out]; unfold itemsB
                      rw [decide_eq_false (p := ∀ i, i < n → okI (f i) = true) (fun h => by
                        have := h k hlt
                        rw [HFE.out] at this
                        unfold okI at this
                        simp [hin] at this)]
                      simp)
                    rw [hin] at HW
                    go_wp2_with fail
                    refine (HW.out _).mono ?_
                    rintro e w2 ⟨rfl, rfl⟩
                    go_wp2_with fail
                    go_ret
                    exact ⟨HotJ.ret_int HRf.out.symm, HBm.out _⟩
                  | true =>
                    have HOk2 : Hid (∀ j, j < k + 1 → okI (f j) = true) := hid (fun j hj => by
                      by_cases e : j = k
                      · subst e
                        rw [HFE.out]
                        unfold okI
                        simp [hin]
                        omega
                      · exact HOk.out j (by omega))
                    rw [hin] at HW
                    go_wp2_with fail
                    refine (HW.out _).mono ?_
                    rintro e w2 ⟨rfl, rfl⟩
                    clear HW
                    go_wp2_with fail
                    go_loopw [4] (fun i wr => ∃ l : Nat, l ≤ k ∧ i = .int .i64 l ∧ (∀ j, j < l → (f j).1 ≠ s) ∧ ∃ m, (w.alloc (.cells #[.string res, .int .i64 idx, .int .i64 cnt, .int .i64 sec, .slice (some ⟨g, o, none⟩) n cap] 24)).drewN m = wr) (fun i _ => k - (intOf i).toNat)
                    case atStart => exact ⟨0, Nat.zero_le _, rfl, (fun j h => by omega), m, rfl⟩
                    case round =>
                      obtain ⟨l, hl, rfl, hne, m2, rfl⟩ := hrel
                      have HNe := hid hne
                      clear hne
                      by_cases hlk : l < k
                      · have hli : (l : Int) < k := by omega
                        have hli2 : (l : Int) < n := by omega
                        have d0 := (HB0.out.cell (p := ⟨g, o + l * 2, none⟩) HC.out.1).trans (HC.out.2 l (by omega)).1
                        obtain ⟨s2, hs2⟩ : ∃ x, (f l).1 = x := ⟨_, rfl⟩
                        rw [hs2] at d0
                        have HS2 := hid hs2
                        clear hs2
                        by_cases he : s2 = s
                        · subst he
                          have HRf : Hid (r = 32) := hid (by
                            rw [← HR.out]; unfold itemsB
                            rw [decide_eq_false (p := (vals n f).Nodup) (fun h => by
                              refine (nodup_iff n f).1 h k hlt l hlk ?_
                              rw [HS2.out, HFE.out])]
                            simp)
                          go_wp2_with fail
                          go_quiet (fail)
                          go_wp2_with fail
                          go_ret
                          exact ⟨HotJ.ret_int HRf.out.symm, below_drewN (HBm.out _) _⟩
                        · have n3 : (s2.toList == s.toList) = false := by rw [text_eq]; exact decide_eq_false he
                          have HNe2 : Hid (∀ j, j < l + 1 → (f j).1 ≠ s) := hid (fun j hj => by
                            by_cases e : j = l
                            · subst e; rw [HS2.out]; exact he
                            · exact HNe.out j (by omega))
                          go_wp2_with fail
                          go_quiet (fail)
                          go_wp2_with fail
                          go_roundw
                          case rel => exact ⟨l + 1, hlk, by go_num, HNe2.out, _, rfl⟩
                          case measure => simp [intOf]; omega
                      · obtain rfl : l = k := by omega
                        have HNd2 : Hid ((vals (l + 1) f).Nodup) := hid ((nodup_iff _ _).2 fun i hi j hj => by
                          by_cases e : i = l
                          · subst e
                            have := HNe.out j hj
                            rw [HFE.out]
                            exact this
                          · exact (nodup_iff _ _).1 HNd.out i (by omega) j hj)
                        go_wp2_with fail
                        go_roundw
                        case rel => exact ⟨l + 1, hlt, by go_num, HOk2.out, HNd2.out, _, rfl⟩
                        case measure => simp [intOf]; omega
              · obtain rfl : k = n := by omega
                have HRt : Hid (r = 0) := hid (by
                  rw [← HR.out]; unfold itemsB
                  rw [decide_eq_true (show k ≤ 32 by omega), decide_eq_true HOk.out, decide_eq_true HNd.out]
                  rfl)
                go_wp2_with fail
                go_ret
                exact ⟨HotJ.ret_int HRt.out.symm, HBm.out _⟩

set_option maxHeartbeats 1000000 in
theorem rHot_any (res : ByteArray) (hres : res.size ≤ maxLen) (idx cnt sec : Int) (a : Option Addr) (n cap : Nat) (f : Nat → Itm) (w : World) (hI : ItAt w a n f) (hfit : ∀ i, i < n → (f i).1.size ≤ maxLen) :
    Calls Tryz.prog 29 #[hotV res idx cnt sec a n cap] w fun e w' => e = .returned (.int .i64 (hotR res idx cnt sec n f)) ∧ Below w.heap.size w w' :=
  rhot_core res idx cnt sec a n cap f _ _ _ _ (hotR res idx cnt sec n f) (hid rfl) w hI hfit (hid fun w => rname_any res w hres) (hid fun w => in_any idx 0 7 w) (hid fun w => in_any cnt 0 1099511627776 w) (hid fun w => in_any sec 1 60 w)

end Go.Proofs.YtbihelpnojjacaaGreat.RhA

/- The document's rule of hot parameters at work, as what lies in memory. -/
namespace Go.Proofs.YtbihelpnojjacaaGreat.RhB
open Go.ChangeShapes Go.WideShapes Go.ChangeAt Go.RowKit Base Wri LruA HotA HotJ RefL RefM RwR RwD
set_option linter.unusedVariables false

/-- a value that is kept, with its window -/
structure RW where
  k : ByteArray
  p : Nat
  v : Value
  last : Nat
  L : List WinC.Bkt
/-- what stays as it is -/
structure RC where
  h : Nat
  mb : Nat
  sb : Nat
  iv : Value
  n : Nat
  f : Nat → Itm
  res : ByteArray
  idx : Int
  cnt : Int
  q : Nat
  sec : Nat
  seed : Nat
  most : Nat
/-- what changes -/
structure RS where
  noted : Nat
  ps : List (ByteArray × Int)
  mv : Value
  K : List RW
  rv : Value
  rs : List SkA.Note
  sv : Value
  sl : Nat

def rX (C : RC) : SkG.Shp := ⟨10 * C.q, 10, 4, 256, C.seed⟩
def cK (K : List RW) : List Value := K.flatMap fun x => [.string x.k, ptr x.p]
def cI (f : Nat → Itm) (n : Nat) : List Value := (List.range n).flatMap fun i => [.string (f i).1, .int .i64 (f i).2]
theorem cK_app (a b : List RW) : cK (a ++ b) = cK a ++ cK b := by simp [cK]
theorem cK_len (a : List RW) : (cK a).length = a.length * 2 := by
  induction a with
  | nil => rfl
  | cons x r ih => simp only [cK, List.flatMap_cons, List.length_append] at ih ⊢; simp [ih]; omega
theorem cK_get {K : List RW} {i : Nat} {x : RW} (h : K[i]? = some x) : (cK K)[i * 2]? = some (.string x.k) ∧ (cK K)[i * 2 + 1]? = some (ptr x.p) := by
  induction K generalizing i with
  | nil => simp at h
  | cons y r ih =>
    cases i with
    | zero => simp at h; subst h; exact ⟨rfl, rfl⟩
    | succ i =>
      have := ih (i := i) (by simpa using h)
      have e : (i + 1) * 2 = i * 2 + 2 := by omega
      rw [e]
      exact this
theorem cK_one (K : List RW) : ∀ u ∈ cK K, u.oneCell' = true := by
  intro u hu
  obtain ⟨p, _, hp⟩ := List.mem_flatMap.1 hu
  simp [ptr] at hp
  rcases hp with rfl | rfl <;> rfl
theorem cI_succ (f : Nat → Itm) (n : Nat) : cI f (n + 1) = cI f n ++ [.string (f n).1, .int .i64 (f n).2] := by unfold cI; rw [List.range_succ, List.flatMap_append]; rfl
theorem cI_len (f : Nat → Itm) (n : Nat) : (cI f n).length = n * 2 := by
  induction n with
  | zero => rfl
  | succ n ih => rw [cI_succ, List.length_append, ih]; simp; omega
theorem cI_at (f : Nat → Itm) (n : Nat) : ∀ i, i < n → (cI f n)[i * 2]? = some (.string (f i).1) ∧ (cI f n)[i * 2 + 1]? = some (.int .i64 (f i).2) := by
  induction n with
  | zero => intro i hi; omega
  | succ n ih =>
    intro i hi
    rw [cI_succ]
    by_cases e : i = n
    · subst e
      constructor
      · rw [List.getElem?_append_right (by rw [cI_len]; omega), cI_len, show i * 2 - i * 2 = 0 by omega]; rfl
      · rw [List.getElem?_append_right (by rw [cI_len]; omega), cI_len, show i * 2 + 1 - i * 2 = 1 by omega]; rfl
    · obtain ⟨h1, h2⟩ := ih i (by omega)
      exact ⟨by rw [List.getElem?_append_left (by rw [cI_len]; omega)]; exact h1, by rw [List.getElem?_append_left (by rw [cI_len]; omega)]; exact h2⟩
theorem cI_one (f : Nat → Itm) (n : Nat) : ∀ u ∈ cI f n, u.oneCell' = true := by
  intro u hu
  obtain ⟨p, _, hp⟩ := List.mem_flatMap.1 hu
  simp at hp
  rcases hp with rfl | rfl <;> rfl

/-- a window of it -/
def RW.Ok (x : RW) (C : RC) (noted d : Nat) (w : World) : Prop := IsRw w x.p 0 (10 * C.q) 10 x.last x.v x.L ∧ x.last ≤ noted ∧ x.L.length ≤ d ∧ ∀ b ∈ x.L, b.c.Fine

structure RMem (w0 w : World) (own : Nat → Tg) (C : RC) (d : Nat) (S : RS) : Prop where
  head : w.heap[C.h]? = some (.cells #[.string C.res, .int .i64 C.idx, .int .i64 C.cnt, .int .i64 C.sec, C.iv, ptr C.mb, S.rv, ptr C.sb, .int .i64 S.noted] 81)
  items : w.ownsRow 0 52 2 C.iv C.n (cI C.f C.n)
  map : RM w0 w C.mb C.most S.mv S.ps
  rows : w.ownsRow 0 88 2 S.rv S.K.length (cK S.K)
  wins : ∀ x ∈ S.K, x.Ok C S.noted d w
  sk : SruB.IsRS w C.sb 0 (rX C) C.q S.sl S.sv S.rs
  kn : (S.K.map RW.k).Nodup
  skd : S.rs.length ≤ d
  skt : S.sl ≤ S.noted
  late : S.noted ≤ 1152921504606846976
  big : w0.heap.size ≤ w.heap.size
  q0 : 0 < C.q
  q1 : C.q ≤ 6000000
  qs : C.sec * 100000 = C.q
  m1 : C.most ≤ 4096
  pl : S.ps.length ≤ C.most
  kl : S.K.length ≤ d
  n1 : C.n ≤ 32
  oh : own C.h = .hd
  oi : ∀ g, C.iv.ownBlock = some g → own g = .it
  om : own C.mb = .lr ∧ ∀ g, S.mv.ownBlock = some g → own g = .lr
  ow : ∀ g, S.rv.ownBlock = some g → own g = .wn
  os : own C.sb = .sk ∧ ∀ g, S.sv.ownBlock = some g → own g = .sk
  ox : ∀ x ∈ S.K, own x.p = .win x.k ∧ ∀ g, x.v.ownBlock = some g → own g = .win x.k

variable {w0 w w' : World} {own : Nat → Tg} {C : RC} {d : Nat} {S : RS}

theorem RMem.hlt (h : RMem w0 w own C d S) : C.h < w.heap.size := (Array.getElem?_eq_some_iff.1 h.head).1
theorem RW.Ok.lt {x : RW} {noted : Nat} (h : x.Ok C noted d w) : x.p < w.heap.size ∧ ∀ g, x.v.ownBlock = some g → g < w.heap.size := ⟨h.1.lt, fun g e => (h.1.row.lt g e).2⟩
theorem RW.Ok.keep {x : RW} {noted : Nat} (h : x.Ok C noted d w) (hk : ∀ k, (k = x.p ∨ x.v.ownBlock = some k) → w'.heap[k]? = w.heap[k]?) : x.Ok C noted d w' := ⟨h.1.keep hk, h.2⟩
theorem RMem.slt (h : RMem w0 w own C d S) : C.sb < w.heap.size := h.sk.lt

/-- the tags behind a step that made blocks of one part -/
theorem RMem.owns (h : RMem w0 w own C d S) (T : Tg) :
    ext own w.heap.size T C.h = .hd ∧ (∀ g, C.iv.ownBlock = some g → ext own w.heap.size T g = .it) ∧ (ext own w.heap.size T C.mb = .lr ∧ ∀ g, S.mv.ownBlock = some g → ext own w.heap.size T g = .lr) ∧ (∀ g, S.rv.ownBlock = some g → ext own w.heap.size T g = .wn) ∧
    (ext own w.heap.size T C.sb = .sk ∧ ∀ g, S.sv.ownBlock = some g → ext own w.heap.size T g = .sk) ∧ (∀ x ∈ S.K, ext own w.heap.size T x.p = .win x.k ∧ ∀ g, x.v.ownBlock = some g → ext own w.heap.size T g = .win x.k) :=
  ⟨by rw [ext_lt h.hlt, h.oh], fun g e => by rw [ext_lt (h.items.lt g e).2, h.oi g e], ⟨by rw [ext_lt h.map.lt, h.om.1], fun g e => by rw [ext_lt (h.map.row.lt g e).2, h.om.2 g e]⟩, fun g e => by rw [ext_lt (h.rows.lt g e).2, h.ow g e],
   ⟨by rw [ext_lt h.slt, h.os.1], fun g e => by rw [ext_lt (h.sk.own.lt g e).2, h.os.2 g e]⟩, fun x hx => ⟨by rw [ext_lt (h.wins x hx).lt.1, (h.ox x hx).1], fun g e => by rw [ext_lt ((h.wins x hx).lt.2 g e), (h.ox x hx).2 g e]⟩⟩

/-- what a step that writes one part leaves of the others -/
theorem RMem.carry (h : RMem w0 w own C d S) (T : Tg) (hw : Wr (fun k => own k = T) w w') :
    (T ≠ .hd → w'.heap[C.h]? = w.heap[C.h]?) ∧ (T ≠ .it → w'.ownsRow 0 52 2 C.iv C.n (cI C.f C.n)) ∧ (T ≠ .lr → RM w0 w' C.mb C.most S.mv S.ps) ∧
    (T ≠ .wn → w'.ownsRow 0 88 2 S.rv S.K.length (cK S.K)) ∧ (∀ x ∈ S.K, T ≠ .win x.k → x.Ok C S.noted d w') ∧ (T ≠ .sk → SruB.IsRS w' C.sb 0 (rX C) C.q S.sl S.sv S.rs) := by
  refine ⟨fun e => hw.block _ h.hlt (fun e2 => e (by rw [← e2, h.oh])), fun e => owns_wr h.items hw fun g hg e2 => e (by rw [← e2, h.oi g hg]), fun e => h.map.keep fun k hk => ?_, fun e => owns_wr h.rows hw fun g hg e2 => e (by rw [← e2, h.ow g hg]), fun x hx e => (h.wins x hx).keep fun k hk => ?_, fun e => h.sk.keep ?_ fun g hg => ?_⟩
  · rcases hk with rfl | hk
    · exact hw.block _ h.map.lt (fun e2 => e (by rw [← e2, h.om.1]))
    · exact hw.block _ (h.map.row.lt k hk).2 (fun e2 => e (by rw [← e2, h.om.2 k hk]))
  · rcases hk with rfl | hk
    · exact hw.block _ (h.wins x hx).lt.1 (fun e2 => e (by rw [← e2, (h.ox x hx).1]))
    · exact hw.block _ ((h.wins x hx).lt.2 k hk) (fun e2 => e (by rw [← e2, (h.ox x hx).2 k hk]))
  · exact hw.block _ h.slt (fun e2 => e (by rw [← e2, h.os.1]))
  · exact hw.block _ (h.sk.own.lt g hg).2 (fun e2 => e (by rw [← e2, h.os.2 g hg]))

/-- where nothing of it was written -/
theorem RMem.keep (h : RMem w0 w own C d S) (hs : w.heap.size ≤ w'.heap.size) (hb : ∀ k, k < w.heap.size → own k ≠ .non → w'.heap[k]? = w.heap[k]?) : RMem w0 w' own C d S :=
  { head := (hb _ h.hlt (by rw [h.oh]; simp)).trans h.head, items := owns_keep h.items fun g e => hb g (h.items.lt g e).2 (by rw [h.oi g e]; simp),
    map := h.map.keep fun k hk => by
      rcases hk with rfl | hk
      · exact hb _ h.map.lt (by rw [h.om.1]; simp)
      · exact hb _ (h.map.row.lt k hk).2 (by rw [h.om.2 k hk]; simp)
    rows := owns_keep h.rows fun g e => hb g (h.rows.lt g e).2 (by rw [h.ow g e]; simp),
    wins := fun x hx => (h.wins x hx).keep fun k hk => by
      rcases hk with rfl | hk
      · exact hb _ (h.wins x hx).lt.1 (by rw [(h.ox x hx).1]; simp)
      · exact hb _ ((h.wins x hx).lt.2 k hk) (by rw [(h.ox x hx).2 k hk]; simp)
    sk := h.sk.keep (hb _ h.slt (by rw [h.os.1]; simp)) fun g e => hb g (h.sk.own.lt g e).2 (by rw [h.os.2 g e]; simp),
    kn := h.kn, skd := h.skd, skt := h.skt, late := h.late, big := Nat.le_trans h.big hs, q0 := h.q0, q1 := h.q1, qs := h.qs, m1 := h.m1, pl := h.pl, kl := h.kl, n1 := h.n1, oh := h.oh, oi := h.oi, om := h.om, ow := h.ow, os := h.os, ox := h.ox }
theorem RMem.below (h : RMem w0 w own C d S) (hb : Below w.heap.size w w') : RMem w0 w' own C d S := h.keep hb.size fun k hk _ => hb.block k hk
/-- what is new is somebody's -/
theorem RMem.extend (h : RMem w0 w own C d S) (hb : Below w.heap.size w w') (T : Tg) : RMem w0 w' (ext own w.heap.size T) C d S := by
  have h2 := h.below hb
  obtain ⟨o1, o2, o3, o4, o5, o6⟩ := h.owns T
  exact { h2 with oh := o1, oi := o2, om := o3, ow := o4, os := o5, ox := o6 }
theorem RMem.more (h : RMem w0 w own C d S) {d' : Nat} (hd : d ≤ d') : RMem w0 w own C d' S :=
  { h with wins := fun x hx => by obtain ⟨h1, h2, h3, h4⟩ := h.wins x hx; exact ⟨h1, h2, by omega, h4⟩, skd := Nat.le_trans h.skd hd, kl := Nat.le_trans h.kl hd }

theorem RMem.cells (h : RMem w0 w own C d S) : w.cell? ⟨C.h, 0, none⟩ = some (.string C.res) ∧ w.cell? ⟨C.h, 1, none⟩ = some (.int .i64 C.idx) ∧ w.cell? ⟨C.h, 2, none⟩ = some (.int .i64 C.cnt) ∧ w.cell? ⟨C.h, 3, none⟩ = some (.int .i64 C.sec) ∧ w.cell? ⟨C.h, 4, none⟩ = some C.iv ∧
    w.cell? ⟨C.h, 5, none⟩ = some (ptr C.mb) ∧ w.cell? ⟨C.h, 6, none⟩ = some S.rv ∧ w.cell? ⟨C.h, 7, none⟩ = some (ptr C.sb) ∧ w.cell? ⟨C.h, 8, none⟩ = some (.int .i64 S.noted) ∧ ∀ o, w.frozen? ⟨C.h, o, none⟩ = false := by
  have := h.head
  exact ⟨by simp [World.cell?, this], by simp [World.cell?, this], by simp [World.cell?, this], by simp [World.cell?, this], by simp [World.cell?, this], by simp [World.cell?, this], by simp [World.cell?, this], by simp [World.cell?, this], by simp [World.cell?, this], fun o => by simp [World.frozen?, this]⟩

end Go.Proofs.YtbihelpnojjacaaGreat.RhB

/- The document's rule of hot parameters at work: Limit, window, look. -/
namespace Go.Proofs.YtbihelpnojjacaaGreat.RhC
open Go.ChangeShapes Go.WideShapes Go.ChangeAt Go.RowKit Base Wri LruA HotA HotJ RefL RefM RwR RwD RhB
set_option linter.unusedVariables false
variable {w0 w w' : World} {own : Nat → Tg} {C : RC} {d : Nat} {S : RS}

/-- the limit of a value, from the i-th item on -/
def limG (f : Nat → Itm) (cnt : Int) (s : ByteArray) : Nat → Nat → Int
  | _, 0 => cnt
  | i, m + 1 => if (f i).1 = s then (f i).2 else limG f cnt s (i + 1) m
def limR (C : RC) (s : ByteArray) : Int := limG C.f C.cnt s 0 C.n
def winR (K : List RW) (s : ByteArray) : Option RW := K.find? fun x => decide (x.k = s)
def ptrO : Option RW → Value
  | some x => .pointer (some ⟨x.p, 0, none⟩)
  | none => .pointer none

set_option maxRecDepth 20000 in
set_option maxHeartbeats 1000000 in
theorem rLimit_any (h : RMem w0 w own C d S) (s : ByteArray) :
    Calls Tryz.prog 19 #[.pointer (some ⟨C.h, 0, none⟩), .string s] w fun e w' => e = .returned (.int .i64 (limR C s)) ∧ w = w' := by
  obtain ⟨-, -, c2, -, c4, -⟩ := h.cells
  obtain ⟨va, vc, hiv⟩ := owns_shape h.items
  rw [hiv] at c4
  have HI := hid h.items
  have hn1 := h.n1
  obtain ⟨n, hn⟩ : ∃ n, C.n = n := ⟨_, rfl⟩
  have HN := hid hn
  have HIV := hid hiv
  rw [hn] at c4 hn1
  have HL := hid (show limR C s = limG C.f C.cnt s 0 n by unfold limR; rw [hn])
  obtain ⟨r, hr⟩ : ∃ r, limR C s = r := ⟨_, rfl⟩
  rw [hr] at HL ⊢
  clear h hn hiv hr
  go_enter Tryz.func19, Tryz.ntmps19
  go_wp2_with fail
  go_loop [5] (fun i => ∃ k : Nat, k ≤ n ∧ i = .int .i64 k ∧ r = limG C.f C.cnt s k (n - k)) (fun i => n - (intOf i).toNat)
  case atStart => exact ⟨0, Nat.zero_le _, rfl, by rw [Nat.sub_zero]; exact HL.out⟩
  case round =>
    obtain ⟨k, hk, rfl, hlim⟩ := hrel
    have HLim := hid hlim
    clear hlim
    by_cases hlt : k < n
    · obtain ⟨g, cc, hv, hg, hgl, hnc, hfz, hcl⟩ := own_cells HI.out (by rw [HN.out]; omega)
      rw [HIV.out, HN.out] at hv
      injection hv with e1 e2 e3
      subst e1
      subst e3
      obtain ⟨i0, i1⟩ := cI_at C.f C.n k (by rw [HN.out]; exact hlt)
      have c10 := hcl _ _ i0
      have c11 := hcl _ _ i1
      have hst : limG C.f C.cnt s k (n - k) = if (C.f k).1 = s then (C.f k).2 else limG C.f C.cnt s (k + 1) (n - (k + 1)) := by
        rw [show n - k = (n - (k + 1)) + 1 by omega]; rfl
      have HSt := hid hst
      obtain ⟨⟨s2, v2⟩, hf⟩ : ∃ x, C.f k = x := ⟨_, rfl⟩
      rw [hf] at c10 c11 HSt
      dsimp only at c10 c11 HSt
      clear hst hf i0 i1 hcl hg hnc hfz
      by_cases he : s2 = s
      · subst he
        have HRr := hid (show r = v2 by rw [HLim.out, HSt.out, if_pos rfl])
        go_wp2_with fail
        go_ret
        exact ⟨HotJ.ret_int HRr.out.symm, rfl⟩
      · have n3 : (s2.toList == s.toList) = false := by rw [Txt.text_eq]; exact decide_eq_false he
        have HRr := hid (show r = limG C.f C.cnt s (k + 1) (n - (k + 1)) by rw [HLim.out, HSt.out, if_neg he])
        go_wp2_with fail
        go_round
        case rel => exact ⟨k + 1, hlt, by go_num, HRr.out⟩
        case measure => simp [intOf]; omega
    · obtain rfl : k = n := by omega
      have HRr := hid (show r = C.cnt by rw [HLim.out, Nat.sub_self]; rfl)
      go_wp2_with fail
      go_ret
      exact ⟨HotJ.ret_int HRr.out.symm, rfl⟩

set_option maxRecDepth 20000 in
set_option maxHeartbeats 1000000 in
theorem window_any (h : RMem w0 w own C d S) (hd : d ≤ 1000000) (s : ByteArray) :
    Calls Tryz.prog 45 #[.pointer (some ⟨C.h, 0, none⟩), .string s] w fun e w' => e = .returned (ptrO (winR S.K s)) ∧ w = w' := by
  obtain ⟨-, -, -, -, -, -, c6, -⟩ := h.cells
  obtain ⟨va, vc, hiv⟩ := owns_shape h.rows
  rw [hiv] at c6
  have HI := hid h.rows
  have hn1 := h.kl
  obtain ⟨n, hn⟩ : ∃ n, S.K.length = n := ⟨_, rfl⟩
  have HN := hid hn
  have HIV := hid hiv
  rw [hn] at c6 hn1
  obtain ⟨r, hr⟩ : ∃ r, ptrO (winR S.K s) = r := ⟨_, rfl⟩
  have HL := hid hr
  rw [hr]
  clear h hn hiv hr
  go_enter Tryz.func45, Tryz.ntmps45
  go_wp2_with fail
  go_loop [5] (fun i => ∃ k : Nat, k ≤ n ∧ i = .int .i64 k ∧ ptrO (winR (S.K.drop k) s) = r) (fun i => n - (intOf i).toNat)
  case atStart => exact ⟨0, Nat.zero_le _, rfl, HL.out⟩
  case round =>
    obtain ⟨k, hk, rfl, hlim⟩ := hrel
    have HLim := hid hlim
    clear hlim
    by_cases hlt : k < n
    · obtain ⟨x, hx⟩ : ∃ x, S.K[k]? = some x := ⟨S.K[k]'(by rw [HN.out]; exact hlt), List.getElem?_eq_getElem _⟩
      obtain ⟨g, cc, hv, hg, hgl, hnc, hfz, hcl⟩ := own_cells HI.out (by rw [HN.out]; omega)
      rw [HIV.out, HN.out] at hv
      injection hv with e1 e2 e3
      subst e1
      subst e3
      obtain ⟨i0, i1⟩ := cK_get hx
      have c10 := hcl _ _ i0
      have c11 := hcl _ _ i1
      have hst : S.K.drop k = x :: S.K.drop (k + 1) := by
        rw [List.drop_eq_getElem_cons (by rw [HN.out]; exact hlt)]
        congr 1
        rw [List.getElem?_eq_some_iff] at hx
        exact hx.2
      have HSt := hid (show winR (S.K.drop k) s = if x.k = s then some x else winR (S.K.drop (k + 1)) s by
        rw [hst]; unfold winR; rw [List.find?_cons]; by_cases e : x.k = s <;> simp [e])
      obtain ⟨s2, xp, xv, xl, xL⟩ := x
      dsimp only [ptr] at c10 c11 HSt
      clear hst i0 i1 hcl hg hnc hfz hx
      by_cases he : s2 = s
      · subst he
        have HRr := hid (show r = .pointer (some ⟨xp, 0, none⟩) by rw [← HLim.out, HSt.out, if_pos rfl]; rfl)
        go_wp2_with fail
        go_ret
        exact ⟨congrArg Ending.returned HRr.out.symm, rfl⟩
      · have n3 : (s2.toList == s.toList) = false := by rw [Txt.text_eq]; exact decide_eq_false he
        have HRr := hid (show ptrO (winR (S.K.drop (k + 1)) s) = r by rw [← HLim.out, HSt.out, if_neg he])
        go_wp2_with fail
        go_round
        case rel => exact ⟨k + 1, hlt, by go_num, HRr.out⟩
        case measure => simp [intOf]; omega
    · obtain rfl : k = n := by omega
      have HRr := hid (show r = .pointer none by rw [← HLim.out, ← HN.out, List.drop_length]; rfl)
      go_wp2_with fail
      go_ret
      exact ⟨congrArg Ending.returned HRr.out.symm, rfl⟩

/-- the error of a call -/
def refH (noted at_ : Int) (s : ByteArray) (count : Int) : Int := if at_ < 0 ∨ 1152921504606846976 < at_ ∨ count < 1 ∨ 1099511627776 < count then 2 else if 64 < s.size then 5 else if at_ < noted then 7 else 0

set_option maxHeartbeats 1000000 in
theorem rlook_core (b : Nat) (noted at_ count : Int) (s : ByteArray) (r : Int) (R : Hid (refH noted at_ s count = r)) (w : World) (h : w.cell? ⟨b, 8, none⟩ = some (.int .i64 noted)) (hs : s.size ≤ maxLen) :
    Calls Tryz.prog 63 #[.pointer (some ⟨b, 0, none⟩), .int .i64 at_, .string s, .int .i64 count] w fun e w' => e = .returned (.int .i64 r) ∧ w = w' := by
  unfold maxLen at hs
  unfold refH at R
  by_cases h1 : at_ < 0
  · have HR := hid (show r = 2 by rw [← R.out, if_pos (.inl h1)])
    clear R
    go_enter Tryz.func63, Tryz.ntmps63
    go_wp2_with fail
    go_ret
    exact ⟨HotJ.ret_int HR.out.symm, rfl⟩
  · have h1' : decide (at_ < 0) = false := by simpa using h1
    by_cases h2 : 1152921504606846976 < at_
    · have HR := hid (show r = 2 by rw [← R.out, if_pos (.inr (.inl h2))])
      clear R
      go_enter Tryz.func63, Tryz.ntmps63
      go_wp2_with fail
      go_ret
      exact ⟨HotJ.ret_int HR.out.symm, rfl⟩
    · have h2' : decide (1152921504606846976 < at_) = false := by simpa using h2
      by_cases h3 : count < 1
      · have HR := hid (show r = 2 by rw [← R.out, if_pos (.inr (.inr (.inl h3)))])
        clear R
        go_enter Tryz.func63, Tryz.ntmps63
        go_wp2_with fail
        go_ret
        exact ⟨HotJ.ret_int HR.out.symm, rfl⟩
      · have h3' : decide (count < 1) = false := by simpa using h3
        by_cases h4 : 1099511627776 < count
        · have HR := hid (show r = 2 by rw [← R.out, if_pos (.inr (.inr (.inr h4)))])
          clear R
          go_enter Tryz.func63, Tryz.ntmps63
          go_wp2_with fail
          go_ret
          exact ⟨HotJ.ret_int HR.out.symm, rfl⟩
        · have h4' : decide (1099511627776 < count) = false := by simpa using h4
          by_cases h5 : 64 < s.size
          · have HR := hid (show r = 5 by rw [← R.out, if_neg (by omega), if_pos h5])
            have h5' : decide ((64 : Int) < s.size) = true := by simp; omega
            clear R
            go_enter Tryz.func63, Tryz.ntmps63
            go_wp2_with fail
            go_ret
            exact ⟨HotJ.ret_int HR.out.symm, rfl⟩
          · have h5' : decide ((64 : Int) < s.size) = false := by simp; omega
            have h5'' : ¬ ((64 : Int) < s.size) := by omega
            by_cases h6 : at_ < noted
            · have HR := hid (show r = 7 by rw [← R.out, if_neg (by omega), if_neg h5, if_pos h6])
              clear R
              go_enter Tryz.func63, Tryz.ntmps63
              go_wp2_with fail
              go_ret
              exact ⟨HotJ.ret_int HR.out.symm, rfl⟩
            · have h6' : decide (at_ < noted) = false := by simpa using h6
              have HR := hid (show r = 0 by rw [← R.out, if_neg (by omega), if_neg h5, if_neg h6])
              clear R
              go_enter Tryz.func63, Tryz.ntmps63
              go_wp2_with fail
              go_ret
              exact ⟨HotJ.ret_int HR.out.symm, rfl⟩
theorem rlook_any (h : RMem w0 w own C d S) (at_ count : Int) (s : ByteArray) (hs : s.size ≤ maxLen) :
    Calls Tryz.prog 63 #[.pointer (some ⟨C.h, 0, none⟩), .int .i64 at_, .string s, .int .i64 count] w fun e w' => e = .returned (.int .i64 (refH S.noted at_ s count)) ∧ w = w' :=
  rlook_core C.h S.noted at_ count s _ (hid rfl) w h.cells.2.2.2.2.2.2.2.2.1 hs

end Go.Proofs.YtbihelpnojjacaaGreat.RhC

/- The document's rule of hot parameters at work: used, Used, Look. -/
namespace Go.Proofs.YtbihelpnojjacaaGreat.RhD
open Go.ChangeShapes Go.WideShapes Go.ChangeAt Go.RowKit Base Wri LruA HotA HotJ RefL RefM RwR RwD RwF RwG RhB RhC
set_option linter.unusedVariables false
variable {w0 w w' : World} {own : Nat → Tg} {C : RC} {d : Nat} {S : RS}

/-- what counts as used -/
noncomputable def usedR (C : RC) (S : RS) (t : Nat) (s : ByteArray) : Int :=
  match winR S.K s with
  | some x => (sumB (x.L.filter (tells C.q (10 * C.q) t))).pass
  | none => (SkL.estN C.q (rX C) S.rs t s : Nat)

theorem win_mem {K : List RW} {s : ByteArray} {x : RW} (h : winR K s = some x) : x ∈ K ∧ x.k = s := by
  unfold winR at h
  refine ⟨List.mem_of_find?_eq_some h, ?_⟩
  have := List.find?_some h
  simpa using this

theorem div10 (q : Nat) : 10 * q / 10 = q := by omega

set_option maxRecDepth 20000 in
set_option maxHeartbeats 1000000 in
theorem used_any (h : RMem w0 w own C d S) (hd : d ≤ 1000000) (t : Nat) (ht : S.noted ≤ t) (ht2 : t ≤ 1152921504606846976) (s : ByteArray) (hs : s.size ≤ maxLen) :
    Calls Tryz.prog 46 #[.pointer (some ⟨C.h, 0, none⟩), .int .i64 t, .string s] w fun e w' => e = .returned (.int .i64 (usedR C S t s)) ∧ Below w.heap.size w w' := by
  have HW := hid (window_any h hd s)
  have c7 := h.cells.2.2.2.2.2.2.2.1
  have HH := hid h
  obtain ⟨r, hr⟩ : ∃ r, usedR C S t s = r := ⟨_, rfl⟩
  rw [hr]
  have HR := hid hr
  unfold ptr at c7
  clear hr h
  cases hwin : winR S.K s with
  | some x =>
    rw [hwin] at HW
    obtain ⟨hx1, hx2⟩ := win_mem hwin
    obtain ⟨k1, k2, k3, k4⟩ := HH.out.wins x hx1
    have HS := hid (sum_any x.p 0 (10 * C.q) 10 C.q x.last t x.v x.L w k1 (Nat.le_trans k3 hd) k4 (by decide) (div10 _) HH.out.q0 (by have := HH.out.q1; omega) (Nat.le_trans k2 ht) ht2)
    have HRr := hid (show r = (sumB (x.L.filter (tells C.q (10 * C.q) t))).pass by rw [← HR.out]; unfold usedR; rw [hwin])
    generalize sumB (x.L.filter (tells C.q (10 * C.q) t)) = c at *
    obtain ⟨a1, a2, a3, a4, a5, a6⟩ := c
    unfold WinA.cv at HS
    dsimp only [ptrO] at HS HW
    clear k1 k2 k3 k4 hx1 hx2 hwin c7
    go_enter Tryz.func46, Tryz.ntmps46
    go_wp2_with fail
    refine HW.out.mono ?_
    rintro e w1 ⟨rfl, rfl⟩
    clear HW
    go_wp2_with fail
    refine HS.out.mono ?_
    rintro e w2 ⟨rfl, hb2⟩
    have hb := hid hb2
    clear hb2 HS
    go_wp2_with fail
    go_ret
    have hb2 := hb.out
    exact ⟨HotJ.ret_int HRr.out.symm, by have := hb2.size; exact (by repeat (first | (with_reducible exact Below.refl _ _) | (with_reducible refine Below.setCell ?_ (by first | (simp; done) | (simp; omega) | omega) _) | (with_reducible refine Below.alloc ?_ (by first | (simp; done) | (simp; omega) | omega) _) | (with_reducible refine Below.drew ?_) | (with_reducible refine below_drewN ?_ _) | (with_reducible exact hb2) | (with_reducible refine Below.trans ?_ (Below.mono hb2 (by first | (simp; done) | (simp; omega) | omega)))))⟩
  | none =>
    rw [hwin] at HW
    have HRr := hid (show r = (SkL.estN C.q (rX C) S.rs t s : Nat) by rw [← HR.out]; unfold usedR; rw [hwin])
    have HS := hid (SruB.restimate_yes HH.out.sk (Nat.le_trans HH.out.skt ht) ht2 s hs)
    generalize ((SkL.estN C.q (rX C) S.rs t s : Nat) : Int) = c at *
    dsimp only [ptrO] at HW
    clear hwin
    go_enter Tryz.func46, Tryz.ntmps46
    go_wp2_with fail
    refine HW.out.mono ?_
    rintro e w1 ⟨rfl, rfl⟩
    clear HW
    go_wp2_with fail
    refine HS.out.mono ?_
    rintro e w2 ⟨rfl, hb2⟩
    have hb := hid hb2
    clear hb2 HS
    go_wp2_with fail
    go_ret
    exact ⟨HotJ.ret_int HRr.out.symm, hb.out⟩

set_option maxHeartbeats 1000000 in
theorem rUsed_any (h : RMem w0 w own C d S) (hd : d ≤ 1000000) (at_ : Int) (s : ByteArray) (hs : s.size ≤ maxLen) :
    Calls Tryz.prog 37 #[.pointer (some ⟨C.h, 0, none⟩), .int .i64 at_, .string s] w fun e w' => e = .returned (.tuple #[.int .i64 (if refH S.noted at_ s 1 = 0 then usedR C S at_.toNat s else 0), .int .i64 (refH S.noted at_ s 1)]) ∧ Below w.heap.size w w' := by
  have HL := hid (rlook_any h at_ 1 s hs)
  obtain ⟨r, hr⟩ : ∃ r, refH S.noted at_ s 1 = r := ⟨_, rfl⟩
  rw [hr] at HL ⊢
  by_cases h0 : r = 0
  · subst h0
    have h1 : 0 ≤ at_ ∧ at_ ≤ 1152921504606846976 ∧ (S.noted : Int) ≤ at_ := by
      unfold refH at hr
      split at hr
      · omega
      · split at hr
        · omega
        · split at hr <;> omega
    obtain ⟨t, rfl⟩ : ∃ t : Nat, at_ = t := ⟨at_.toNat, by omega⟩
    have HU := hid (used_any h hd t (by omega) (by omega) s hs)
    rw [if_pos rfl, Int.toNat_natCast]
    clear hr h h1
    generalize usedR C S t s = u at *
    go_enter Tryz.func37, Tryz.ntmps37
    go_wp2_with fail
    refine HL.out.mono ?_
    rintro e w1 ⟨rfl, rfl⟩
    go_wp2_with fail
    refine HU.out.mono ?_
    rintro e w2 ⟨rfl, hb2⟩
    have hb := hid hb2
    clear hb2
    go_wp2_with fail
    go_ret2
    exact ⟨rfl, hb.out⟩
  · rw [if_neg h0]
    have hd2 : (r != 0) = true := by simpa using h0
    clear hr h h0
    go_enter Tryz.func37, Tryz.ntmps37
    go_wp2_with fail
    refine HL.out.mono ?_
    rintro e w1 ⟨rfl, rfl⟩
    go_wp2_with fail
    go_ret2
    exact ⟨rfl, Below.refl _ _⟩

def RGood (C : RC) : Prop := ∀ s, 0 ≤ limR C s ∧ limR C s ≤ 1099511627776
/-- may a call come? -/
noncomputable def letR (C : RC) (S : RS) (t : Nat) (s : ByteArray) (count : Int) : Bool := decide (usedR C S t s ≤ limR C s - count)

set_option maxHeartbeats 1000000 in
theorem rLook_any (h : RMem w0 w own C d S) (hd : d ≤ 1000000) (hg : RGood C) (at_ count : Int) (s : ByteArray) (hs : s.size ≤ maxLen) :
    Calls Tryz.prog 38 #[.pointer (some ⟨C.h, 0, none⟩), .int .i64 at_, .string s, .int .i64 count] w fun e w' => e = .returned (.tuple #[.bool (decide (refH S.noted at_ s count = 0) && letR C S at_.toNat s count), .int .i64 (refH S.noted at_ s count)]) ∧ Below w.heap.size w w' := by
  have HL := hid (rlook_any h at_ count s hs)
  obtain ⟨r, hr⟩ : ∃ r, refH S.noted at_ s count = r := ⟨_, rfl⟩
  rw [hr] at HL ⊢
  by_cases h0 : r = 0
  · subst h0
    have h1 : 0 ≤ at_ ∧ at_ ≤ 1152921504606846976 ∧ (S.noted : Int) ≤ at_ ∧ 1 ≤ count ∧ count ≤ 1099511627776 := by
      unfold refH at hr
      split at hr
      · omega
      · split at hr
        · omega
        · split at hr <;> omega
    obtain ⟨t, rfl⟩ : ∃ t : Nat, at_ = t := ⟨at_.toNat, by omega⟩
    obtain ⟨ht0, ht1, ht2, hc1, hc2⟩ := h1
    have HU := hid (used_any h hd t (by omega) (by omega) s hs)
    have HLi := hid (fun w' (hb : Below w.heap.size w w') => rLimit_any (h.below hb) s)
    obtain ⟨l0, l1⟩ := hg s
    rw [Int.toNat_natCast]
    have HB := hid (show letR C S t s count = decide (usedR C S t s ≤ limR C s - count) from rfl)
    clear hr h
    generalize letR C S t s count = b at *
    generalize usedR C S t s = u at *
    generalize limR C s = l at *
    have hwr : IntKind.i64.wrap (l - count) = l - count := by rw [IntKind.wrap_i64]; omega
    go_enter Tryz.func38, Tryz.ntmps38
    go_wp2_with fail
    refine HL.out.mono ?_
    rintro e w1 ⟨rfl, rfl⟩
    go_wp2_with fail
    refine HU.out.mono ?_
    rintro e w2 ⟨rfl, hb2⟩
    have hb := hid hb2
    clear hb2 HL HU
    go_wp2_with fail
    refine (HLi.out _ hb.out).mono ?_
    rintro e w3 ⟨rfl, rfl⟩
    go_wp2_with fail
    go_ret2
    exact ⟨by rw [HB.out]; simp, hb.out⟩
  · have hd2 : (r != 0) = true := by simpa using h0
    rw [decide_eq_false h0, Bool.false_and]
    clear hr h h0
    go_enter Tryz.func38, Tryz.ntmps38
    go_wp2_with fail
    refine HL.out.mono ?_
    rintro e w1 ⟨rfl, rfl⟩
    go_wp2_with fail
    go_ret2
    exact ⟨rfl, Below.refl _ _⟩

end Go.Proofs.YtbihelpnojjacaaGreat.RhD

/- A row that came in, copied into one of one's own. -/
namespace Go.Proofs.YtbihelpnojjacaaGreat.RwS
set_option linter.unusedVariables false
open Go.ChangeShapes Go.WideShapes Go.ChangeAt Go.RowKit Base Wri RwR HotJ RhB

theorem infoIt : (Tryz.prog.info? 52).map (fun i => (i.zero, i.size, i.bytes)) = some (some (.agg #[.string ⟨#[]⟩, .int .i64 0]), 2, 24) := by kernel_rfl
theorem tyI : Ty 22 52 2 24 := by
  obtain ⟨i0, hi, hz0, hz1, hz2⟩ := info_parts infoIt
  exact ⟨Tryz.underlying22, ⟨i0, _, hi, hz0, hz1, hz2, rfl⟩, by decide, fun w => by kernel_rfl⟩
theorem infoRow : (Tryz.prog.info? 88).map (fun i => (i.zero, i.size, i.bytes)) = some (some (.agg #[.string ⟨#[]⟩, .pointer none]), 2, 24) := by kernel_rfl
theorem tyW : Ty 79 88 2 24 := by
  obtain ⟨i0, hi, hz0, hz1, hz2⟩ := info_parts infoRow
  exact ⟨Tryz.underlying79, ⟨i0, _, hi, hz0, hz1, hz2, rfl⟩, by decide, fun w => by kernel_rfl⟩

theorem nilI (cap : Nat) (w : World) : (app #[22, 22] 22 #[.slice none 0 0, .slice none 0 cap]).run Tryz.prog w = .ok (.slice none 0 0) w := by kernel_rfl

theorem copy_items (w : World) (a : Option Addr) (n cap : Nat) (f : Nat → Itm) (h : ItAt w a n f) (hn : n ≤ 1000000) :
    ∃ v2 w2, (app #[22, 22] 22 #[.slice none 0 0, .slice a n cap]).run Tryz.prog w = .ok v2 w2 ∧ w2.ownsRow w.heap.size 52 2 v2 n (cI f n) ∧ Below w.heap.size w w2 := by
  obtain ⟨i, z, hi, hz, hs, hby, hzs⟩ := tyI.inf
  have key : ∀ ad : Addr, a = some ad → (∀ j u, (cI f n)[j]? = some u → w.cell? (ad.add j) = some u) → ∃ v2 w2, (app #[22, 22] 22 #[.slice none 0 0, .slice a n cap]).run Tryz.prog w = .ok v2 w2 ∧ w2.ownsRow w.heap.size 52 2 v2 n (cI f n) ∧ Below w.heap.size w w2 := by
    rintro ad rfl hc
    obtain ⟨v6, w6, hrun, hown6, hgr, hnil, hat⟩ := run_append_own_at (P := Tryz.prog) w w.heap.size 22 22 52 i z 2 24 tyI.und hi hz hs hby hzs tyI.pos (.slice none 0 0) 0 [] (World.ownsRow_nil _ _ _ _) ad n cap (cI f n) (cI_len f n) hc (cI_one f n) (by unfold maxLen; omega) (by omega) (Nat.le_refl _)
    rw [Nat.zero_add, List.nil_append] at hown6
    exact ⟨v6, w6, hrun, hown6, (Below.refl _ _).grown hgr (Nat.le_refl _) (fun j e => by cases e)⟩
  by_cases h0 : n = 0
  · subst h0
    cases a with
    | none => exact ⟨_, _, nilI cap w, ⟨rfl, .inl ⟨rfl, rfl⟩⟩, Below.refl _ _⟩
    | some ad => exact key ad rfl (fun j u hu => by simp [cI] at hu)
  · obtain ⟨g, o, ha, hg, hc⟩ := h (by omega)
    refine key ⟨g, o, none⟩ ha fun j u hu => ?_
    rw [Go.WideShapes.add_plain]
    have hj : j < n * 2 := by rw [← cI_len f n]; exact (List.getElem?_eq_some_iff.1 hu).1
    obtain ⟨c0, c1⟩ := hc (j / 2) (by omega)
    obtain ⟨e0, e1⟩ := cI_at f n (j / 2) (by omega)
    by_cases hev : j % 2 = 0
    · rw [show j = j / 2 * 2 by omega] at hu ⊢
      rw [e0] at hu
      cases hu
      exact c0
    · rw [show j = j / 2 * 2 + 1 by omega] at hu ⊢
      rw [e1] at hu
      cases hu
      rw [← Nat.add_assoc]
      exact c1

end Go.Proofs.YtbihelpnojjacaaGreat.RwS

/- The document's rule of hot parameters at work: New. -/
namespace Go.Proofs.YtbihelpnojjacaaGreat.RhE
open Go.ChangeShapes Go.WideShapes Go.ChangeAt Go.RowKit Base Wri LruA HotA HotJ RefL RefM RwR RwS RwD RwF RwG RhA RhB RhC RhD
set_option linter.unusedVariables false
attribute [local go_sem ↓ high] RwR.builtin_app

/-- the error of New -/
noncomputable def newE (hr keys : Int) : Int := if hr ≠ 0 then hr else if 1 ≤ keys ∧ keys ≤ 4096 then 0 else 2

def S0 : RS := ⟨0, [], .slice none 0 0, [], .slice none 0 0, [], .slice none 0 0, 0⟩
/-- what New leaves -/
def RNew (res : ByteArray) (idx cnt sec : Int) (n : Nat) (f : Nat → Itm) (keys : Int) (seed : Nat) (w : World) (e : Ending) (w' : World) : Prop :=
  ∃ (C : RC) (own : Nat → Tg), e = .returned (.tuple #[.pointer (some ⟨C.h, 0, none⟩), .int .i64 0]) ∧ RMem w w' own C 0 S0 ∧ (∀ k, k < w.heap.size → own k = .non) ∧ C.cnt = cnt ∧ C.n = n ∧ C.f = f ∧ (C.sec : Int) = sec ∧ C.seed = seed ∧ (C.most : Int) = keys ∧ 1 ≤ C.most

set_option maxRecDepth 20000 in
set_option maxHeartbeats 4000000 in
theorem rnew_yes (res : ByteArray) (idx cnt : Int) (sec keys seed : Nat) (a : Option Addr) (n cap : Nat) (f : Nat → Itm) (w : World) (hI : ItAt w a n f) (hn : n ≤ 32) (hs1 : 1 ≤ sec) (hs2 : sec ≤ 60) (hk1 : 1 ≤ keys) (hk2 : keys ≤ 4096) (hsd : seed < 18446744073709551616)
    (HHt : Hid (∀ w', Below w.heap.size w w' → Calls Tryz.prog 29 #[hotV res idx cnt sec a n cap] w' fun e w2 => e = .returned (.int .i64 0) ∧ Below w'.heap.size w' w2)) :
    Calls Tryz.prog 10 #[hotV res idx cnt sec a n cap, .int .i64 keys, .int .u64 seed] w fun e w' => RNew res idx cnt sec n f keys seed w e w' ∧ Below w.heap.size w w' := by
  have HI := hid hI
  have hwr : IntKind.i64.wrap ((sec : Int) * 1000000) = ((10 * (sec * 100000) : Nat) : Int) := by rw [IntKind.wrap_i64]; omega
  have hb0 : Below w.heap.size w (w.alloc (.cells #[.string res, .int .i64 idx, .int .i64 cnt, .int .i64 sec, .slice a n cap] 24)) := (Below.refl _ w).alloc (Nat.le_refl _) _
  have HB0 := hid hb0
  have HN := hid (fun w => RefN.rnew_yes keys w hk1 hk2)
  have HS := hid (fun w => SruB.rnew_ok ((10 * (sec * 100000) : Nat) : Nat) 10 4 256 seed w (by omega) (by omega) (by decide) (by decide) (by decide) (by decide) (by decide) (by decide) (by omega))
  clear hI hb0
  unfold hotV at *
  go_enter Tryz.func10, Tryz.ntmps10
  go_wp2_with fail
  refine (HHt.out _ HB0.out).mono ?_
  rintro e w2 ⟨rfl, hb2⟩
  clear HHt
  have hs0 : w.heap.size < w2.heap.size := by have := hb2.size; simp at this; omega
  have hp2 : w2.heap[w.heap.size]? = some (.cells #[.string res, .int .i64 idx, .int .i64 cnt, .int .i64 sec, .slice a n cap] 24) := (hb2.block _ (by simp)).trans (heap_alloc_new _ _)
  have hbw : Below w.heap.size w w2 := HB0.out.trans (hb2.mono (by simp))
  have p0 : w2.cell? ⟨w.heap.size, 0, none⟩ = some (.string res) := by simp [World.cell?, hp2]
  have p1 : w2.cell? ⟨w.heap.size, 1, none⟩ = some (.int .i64 idx) := by simp [World.cell?, hp2]
  have p2 : w2.cell? ⟨w.heap.size, 2, none⟩ = some (.int .i64 cnt) := by simp [World.cell?, hp2]
  have p3 : w2.cell? ⟨w.heap.size, 3, none⟩ = some (.int .i64 sec) := by simp [World.cell?, hp2]
  have p4 : w2.cell? ⟨w.heap.size, 4, none⟩ = some (.slice a n cap) := by simp [World.cell?, hp2]
  have HB2 := hid hbw
  have HI2 := hid (HI.out.below hbw)
  clear hb2 hbw HB0 hp2
  go_wp2_with fail
  refine (HN.out _).mono ?_
  rintro e w3 ⟨rfl, hw3⟩
  subst hw3
  clear HN
  unfold ptr
  go_wp2_with fail
  refine (HS.out _).mono ?_
  rintro e w4 ⟨rfl, hw4⟩
  subst hw4
  clear HS
  go_wp2_with fail
  obtain ⟨W5, hW5⟩ : ∃ W5, (((w2.alloc (.cells #[.int .i64 keys, .slice none 0 0] 122)).alloc (.cells #[.int .i64 (10 * ((sec : Int) * 100000)), .int .i64 10, .int .i64 4, .int .i64 256, .int .u64 seed, .slice none 0 0, .int .i64 0] 125)).alloc (.cells #[.string res, .int .i64 idx, .int .i64 cnt, .int .i64 sec, .slice none 0 0, .pointer (some ⟨w2.heap.size, 0, none⟩), .slice none 0 0, .pointer (some ⟨w2.heap.size + 1, 0, none⟩), .int .i64 0] 81)) = W5 := ⟨_, rfl⟩
  obtain ⟨g, hg⟩ : ∃ g, w2.heap.size = g := ⟨_, rfl⟩
  have hsz5 : W5.heap.size = g + 3 := by rw [← hW5]; simp; omega
  have hm5 : W5.heap[g]? = some (.cells #[.int .i64 keys, .slice none 0 0] 122) := by
    rw [← hW5, ← hg]
    exact ((heap_alloc_old _ _ (by simp; omega)).trans (heap_alloc_old _ _ (by simp))).trans (heap_alloc_new _ _)
  have hk5 : W5.heap[g + 1]? = some (.cells #[.int .i64 (10 * ((sec : Int) * 100000)), .int .i64 10, .int .i64 4, .int .i64 256, .int .u64 seed, .slice none 0 0, .int .i64 0] 125) := by
    rw [← hW5, ← hg]
    refine (heap_alloc_old _ _ (by simp)).trans ?_
    have := heap_alloc_new (w2.alloc (.cells #[.int .i64 keys, .slice none 0 0] 122)) (.cells #[.int .i64 (10 * ((sec : Int) * 100000)), .int .i64 10, .int .i64 4, .int .i64 256, .int .u64 seed, .slice none 0 0, .int .i64 0] 125)
    simpa using this
  have hh5 : W5.heap[g + 2]? = some (.cells #[.string res, .int .i64 idx, .int .i64 cnt, .int .i64 sec, .slice none 0 0, .pointer (some ⟨g, 0, none⟩), .slice none 0 0, .pointer (some ⟨g + 1, 0, none⟩), .int .i64 0] 81) := by
    rw [← hW5, hg]
    have := heap_alloc_new ((w2.alloc (.cells #[.int .i64 keys, .slice none 0 0] 122)).alloc (.cells #[.int .i64 (10 * ((sec : Int) * 100000)), .int .i64 10, .int .i64 4, .int .i64 256, .int .u64 seed, .slice none 0 0, .int .i64 0] 125)) (.cells #[.string res, .int .i64 idx, .int .i64 cnt, .int .i64 sec, .slice none 0 0, .pointer (some ⟨g, 0, none⟩), .slice none 0 0, .pointer (some ⟨g + 1, 0, none⟩), .int .i64 0] 81)
    simpa [hg] using this
  have hb5 : Below w.heap.size w W5 := by
    have hbb := HB2.out
    have := hbb.size
    rw [← hW5]
    exact ((hbb.alloc this _).alloc (by simp; omega) _).alloc (by simp; omega) _
  have p45 : W5.cell? ⟨w.heap.size, 4, none⟩ = some (.slice a n cap) := by
    rw [← hW5]
    exact ((World.cell?_of_block (a := ⟨w.heap.size, 4, none⟩) (heap_alloc_old _ _ (by simp; omega))).trans ((World.cell?_of_block (a := ⟨w.heap.size, 4, none⟩) (heap_alloc_old _ _ (by simp; omega))).trans (World.cell?_of_block (a := ⟨w.heap.size, 4, none⟩) (heap_alloc_old _ _ hs0)))).trans p4
  rw [hW5]
  have hI5 : ItAt W5.drew a n f := by
    have h1 : ItAt W5 a n f := HI.out.below hb5
    exact h1.below ((Below.refl _ W5).drew)
  obtain ⟨v6, w6, hrun, hown6, hb6⟩ := copy_items W5.drew a n cap f hI5 (by omega)
  obtain ⟨va6, vc6, rfl⟩ := owns_shape hown6
  have hs6 : W5.heap.size ≤ w6.heap.size := hb6.size
  have hm6 := (hb6.block g (by show g < W5.heap.size; omega)).trans hm5
  have hk6 := (hb6.block (g + 1) (by show g + 1 < W5.heap.size; omega)).trans hk5
  have hh6 := (hb6.block (g + 2) (by show g + 2 < W5.heap.size; omega)).trans hh5
  have e4 : W5.cell? ⟨g + 2, 4, none⟩ = some (.slice none 0 0) := by simp [World.cell?, hh5]
  have e46 : w6.cell? ⟨g + 2, 4, none⟩ = some (.slice none 0 0) := by simp [World.cell?, hh6]
  have f46 : w6.frozen? ⟨g + 2, 4, none⟩ = false := by simp [World.frozen?, hh6]
  have hgw : w.heap.size < g := by omega
  have HX := hid (And.intro hown6 (And.intro hm6 (And.intro hk6 (And.intro hh6 (And.intro hb6 hb5)))))
  rw [hg]
  clear hown6 hm6 hk6 hh6 hb6 hb5 hW5 hm5 hk5 hh5 p0 p1 p2 p3 p4 hs0 hI5
  go_region
  go_wp2_with fail
  go_ret2
  obtain ⟨hown6, hm6, hk6, hh6, hb6, hb5⟩ := HX.out
  have hne : ∀ b, (Value.slice va6 n vc6).ownBlock = some b → g + 3 ≤ b := fun b e => by
    have := (hown6.lt b e).1
    have h2 : W5.drew.heap.size = W5.heap.size := rfl
    omega
  have hw6 : Below w.heap.size w w6 := (hb5.drew).trans (hb6.mono (by show w.heap.size ≤ W5.heap.size; omega))
  have hh7 : (w6.setCell ⟨g + 2, 4, none⟩ (.slice va6 n vc6)).heap[g + 2]? = some (.cells #[.string res, .int .i64 idx, .int .i64 cnt, .int .i64 sec, .slice va6 n vc6, .pointer (some ⟨g, 0, none⟩), .slice none 0 0, .pointer (some ⟨g + 1, 0, none⟩), .int .i64 0] 81) := heap_setCell_same _ _ _ _ _ _ hh6
  have hoth : ∀ k, k ≠ g + 2 → (w6.setCell ⟨g + 2, 4, none⟩ (.slice va6 n vc6)).heap[k]? = w6.heap[k]? := fun k e => heap_setCell_other _ _ _ _ e
  have hk7 := (hoth (g + 1) (by omega)).trans hk6
  refine ⟨⟨⟨g + 2, g, g + 1, .slice va6 n vc6, n, f, res, idx, cnt, sec * 100000, sec, seed, keys⟩, fun k => if k < w.heap.size then .non else if k = g then .lr else if k = g + 1 then .sk else if k = g + 2 then .hd else .it, rfl, ?_, fun k hk => if_pos hk, rfl, rfl, rfl, rfl, rfl, rfl, hk1⟩, hw6.setCell (by show w.heap.size ≤ g + 2; omega) _⟩
  have hwz : w.heap.size ≤ (w6.setCell ⟨g + 2, 4, none⟩ (.slice va6 n vc6)).heap.size := by simp; omega
  have o1 : (fun k => if k < w.heap.size then Tg.non else if k = g then .lr else if k = g + 1 then .sk else if k = g + 2 then .hd else .it) g = .lr := by show (if g < w.heap.size then Tg.non else _) = _; rw [if_neg (by omega), if_pos rfl]
  have o2 : (fun k => if k < w.heap.size then Tg.non else if k = g then .lr else if k = g + 1 then .sk else if k = g + 2 then .hd else .it) (g + 1) = .sk := by show (if g + 1 < w.heap.size then Tg.non else _) = _; rw [if_neg (by omega), if_neg (by omega), if_pos rfl]
  have o3 : (fun k => if k < w.heap.size then Tg.non else if k = g then .lr else if k = g + 1 then .sk else if k = g + 2 then .hd else .it) (g + 2) = .hd := by show (if g + 2 < w.heap.size then Tg.non else _) = _; rw [if_neg (by omega), if_neg (by omega), if_neg (by omega), if_pos rfl]
  have o4 : ∀ b, (Value.slice va6 n vc6).ownBlock = some b → (fun k => if k < w.heap.size then Tg.non else if k = g then .lr else if k = g + 1 then .sk else if k = g + 2 then .hd else .it) b = .it := fun b e => by have := hne b e; show (if b < w.heap.size then Tg.non else _) = _; rw [if_neg (by omega), if_neg (by omega), if_neg (by omega), if_neg (by omega)]
  have hok : SkL.Ok ⟨10 * (sec * 100000), 10, 4, 256, seed⟩ (sec * 100000) := ⟨(by show 10 * (sec * 100000) ≤ _; omega), (by simp), (by simp), (by simp), (by simp), (by simp), (by simp), (by show 10 * (sec * 100000) / 10 = _; omega), (by show 10 * (sec * 100000) = sec * 100000 * 10; omega), (by omega)⟩
  have hmm := (hoth g (by omega)).trans hm6
  have hit := owns_base (B' := 0) (owns_keep hown6 fun b e => hoth b (by have := hne b e; omega)) (Nat.zero_le _)
  have hsk : SruB.IsRS (w6.setCell ⟨g + 2, 4, none⟩ (.slice va6 n vc6)) (g + 1) 0 ⟨10 * (sec * 100000), 10, 4, 256, seed⟩ (sec * 100000) 0 (.slice none 0 0) [] :=
    ⟨hok, hsd, by simp [World.cell?, hk7], by simp [World.cell?, hk7], by simp [World.cell?, hk7], by simp [World.cell?, hk7], by simp [World.cell?, hk7], by simp [World.cell?, hk7], by simp [World.cell?, hk7], by simp [World.frozen?, hk7], by simp [World.frozen?, hk7], ⟨rfl, .inl ⟨rfl, rfl⟩⟩, (fun g hg => by cases hg), by decide, (fun x hx => by cases hx), by decide⟩
  have q1 : 0 < sec * 100000 := by omega
  have q2 : sec * 100000 ≤ 6000000 := by omega
  generalize (fun k => if k < w.heap.size then Tg.non else if k = g then .lr else if k = g + 1 then .sk else if k = g + 2 then .hd else .it) = own at *
  exact { head := hh7, items := hit, map := ⟨hmm, ⟨rfl, .inl ⟨rfl, rfl⟩⟩, (fun b e => by cases e), Nat.le_of_lt hgw⟩,
          rows := ⟨rfl, .inl ⟨rfl, rfl⟩⟩, wins := (fun x hx => by cases hx), sk := hsk,
          kn := List.nodup_nil, skd := Nat.le_refl _, skt := Nat.le_refl _, late := (by decide), big := hwz,
          q0 := q1, q1 := q2, qs := rfl, m1 := hk2, pl := Nat.zero_le _, kl := Nat.le_refl _, n1 := hn,
          oh := o3, oi := o4, om := ⟨o1, fun b e => by cases e⟩, ow := (fun b e => by cases e), os := ⟨o2, fun b e => by cases e⟩, ox := (fun x hx => by cases hx) }

theorem hotR_ok {res : ByteArray} {idx cnt sec : Int} {n : Nat} {f : Nat → Itm} (h : hotR res idx cnt sec n f = 0) : 1 ≤ sec ∧ sec ≤ 60 ∧ 0 ≤ cnt ∧ cnt ≤ 1099511627776 ∧ n ≤ 32 ∧ (∀ i, i < n → okI (f i) = true) ∧ (vals n f).Nodup := by
  unfold hotR at h
  split at h
  · split at h
    · rename_i h2
      simp only [Bool.and_eq_true] at h2
      obtain ⟨⟨⟨-, h3⟩, h4⟩, h5⟩ := h2
      have h3 := RulA.inR_iff.1 h3
      have h4 := RulA.inR_iff.1 h4
      unfold itemsB at h5
      simp only [Bool.and_eq_true, decide_eq_true_eq] at h5
      exact ⟨h4.1, h4.2, h3.1, h3.2, h5.1.1, h5.1.2, h5.2⟩
    · omega
  · omega

set_option maxRecDepth 20000 in
set_option maxHeartbeats 2000000 in
theorem rNew_any (res : ByteArray) (hres : res.size ≤ maxLen) (idx cnt sec keys : Int) (seed : Nat) (a : Option Addr) (n cap : Nat) (f : Nat → Itm) (w : World) (hI : ItAt w a n f) (hfit : ∀ i, i < n → (f i).1.size ≤ maxLen) (hsd : seed < 18446744073709551616) :
    Calls Tryz.prog 10 #[hotV res idx cnt sec a n cap, .int .i64 keys, .int .u64 seed] w fun e w' =>
      ((newE (hotR res idx cnt sec n f) keys ≠ 0 ∧ e = .returned (.tuple #[.pointer none, .int .i64 (newE (hotR res idx cnt sec n f) keys)])) ∨ (newE (hotR res idx cnt sec n f) keys = 0 ∧ RNew res idx cnt sec n f keys seed w e w')) ∧ Below w.heap.size w w' := by
  have HHt := hid (fun w' (hb : Below w.heap.size w w') => rHot_any res hres idx cnt sec a n cap f w' (hI.below hb) hfit)
  obtain ⟨r, hr⟩ : ∃ r, hotR res idx cnt sec n f = r := ⟨_, rfl⟩
  rw [hr] at HHt ⊢
  by_cases h0 : r = 0
  · subst h0
    obtain ⟨s1, s2, -, -, hn, -, -⟩ := hotR_ok hr
    obtain ⟨sn, rfl⟩ : ∃ sn : Nat, sec = sn := ⟨sec.toNat, by omega⟩
    by_cases hk : 1 ≤ keys ∧ keys ≤ 4096
    · obtain ⟨kn, rfl⟩ : ∃ kn : Nat, keys = kn := ⟨keys.toNat, by omega⟩
      have he : newE 0 kn = 0 := by unfold newE; rw [if_neg (by simp), if_pos hk]
      refine (rnew_yes res idx cnt sn kn seed a n cap f w hI hn (by omega) (by omega) (by omega) (by omega) hsd HHt).mono ?_
      rintro e w' ⟨h1, h2⟩
      exact ⟨.inr ⟨he, h1⟩, h2⟩
    · have he : newE 0 keys = 2 := by unfold newE; rw [if_neg (by simp), if_neg hk]
      rw [he]
      have HN := hid (fun w => RefN.rnew_no keys w hk)
      have HB0 : Hid (Below w.heap.size w (w.alloc (.cells #[.string res, .int .i64 idx, .int .i64 cnt, .int .i64 sn, .slice a n cap] 24))) := hid ((Below.refl _ w).alloc (Nat.le_refl _) _)
      clear hI hfit hr he
      unfold hotV at *
      go_enter Tryz.func10, Tryz.ntmps10
      go_wp2_with fail
      refine (HHt.out _ HB0.out).mono ?_
      rintro e w2 ⟨rfl, hb2⟩
      have HB2 := hid (HB0.out.trans (hb2.mono (by simp)))
      clear hb2 HHt HB0
      go_wp2_with fail
      refine (HN.out _).mono ?_
      rintro e w3 ⟨rfl, rfl⟩
      go_wp2_with fail
      go_ret2
      exact ⟨.inl ⟨by decide, rfl⟩, HB2.out⟩
  · have he : newE r keys = r := by unfold newE; rw [if_pos h0]
    rw [he]
    have h0' : (r != 0) = true := by simpa using h0
    have H0 := hid h0
    have HB0 : Hid (Below w.heap.size w (w.alloc (.cells #[.string res, .int .i64 idx, .int .i64 cnt, .int .i64 sec, .slice a n cap] 24))) := hid ((Below.refl _ w).alloc (Nat.le_refl _) _)
    clear hI hfit hr he h0
    unfold hotV at *
    go_enter Tryz.func10, Tryz.ntmps10
    go_wp2_with fail
    refine (HHt.out _ HB0.out).mono ?_
    rintro e w2 ⟨rfl, hb2⟩
    have HB2 := hid (HB0.out.trans (hb2.mono (by simp)))
    clear hb2 HHt HB0
    go_wp2_with fail
    go_ret2
    exact ⟨.inl ⟨H0.out, rfl⟩, HB2.out⟩

end Go.Proofs.YtbihelpnojjacaaGreat.RhE

/- The document's rule of hot parameters at work: its steps. -/
namespace Go.Proofs.YtbihelpnojjacaaGreat.RhF
open Go.ChangeShapes Go.WideShapes Go.ChangeAt Go.RowKit Base Wri LruA HotA HotJ RefL RefM RwR RwS RwD RwF RwG RwE RhA RhB RhC RhD
set_option linter.unusedVariables false
variable {w0 w w' : World} {own : Nat → Tg} {C : RC} {d : Nat} {S : RS}

/-- a call's time noted -/
theorem noted (h : RMem w0 w own C d S) {t : Nat} (ht : S.noted ≤ t) (ht2 : t ≤ 1152921504606846976) : RMem w0 (w.setCell ⟨C.h, 8, none⟩ (.int .i64 t)) own C d { S with noted := t } := by
  have hw : Wr (fun k => own k = .hd) w (w.setCell ⟨C.h, 8, none⟩ (.int .i64 t)) := Wr.set _ _ h.oh
  obtain ⟨-, c1, c2, c3, c4, c5⟩ := h.carry .hd hw
  exact { head := heap_setCell_same _ _ _ _ _ _ h.head, items := c1 (by simp), map := c2 (by simp), rows := c3 (by simp),
          wins := fun x hx => by obtain ⟨a1, a2, a3⟩ := c4 x hx (by simp); exact ⟨a1, Nat.le_trans a2 ht, a3⟩,
          sk := c5 (by simp), kn := h.kn, skd := h.skd, skt := Nat.le_trans h.skt ht, late := ht2, big := by have := h.big; simpa using this, q0 := h.q0, q1 := h.q1, qs := h.qs, m1 := h.m1, pl := h.pl, kl := h.kl, n1 := h.n1, oh := h.oh, oi := h.oi, om := h.om, ow := h.ow, os := h.os, ox := h.ox }

/-- the map turned -/
theorem mapTo (h : RMem w0 w own C d S) {ps' : List (ByteArray × Int)} (hp : RPost w0 w C.mb C.most S.mv ps' w') (hl : ps'.length ≤ C.most) :
    ∃ mv', RMem w0 w' (ext own w.heap.size .lr) C d { S with ps := ps', mv := mv' } ∧ Wr (fun k => own k = .lr) w w' := by
  obtain ⟨⟨v', hm, hn⟩, hw⟩ := hp
  have hw2 : Wr (fun k => own k = .lr) w w' := hw.mono fun k hk => hk.elim (fun e => e ▸ h.om.1) (fun e => h.om.2 k e)
  obtain ⟨c0, c1, -, c3, c4, c5⟩ := h.carry .lr hw2
  obtain ⟨o1, o2, o3, o4, o5, o6⟩ := h.owns .lr
  exact ⟨v', { head := (c0 (by simp)).trans h.head, items := c1 (by simp), map := hm, rows := c3 (by simp), wins := fun x hx => c4 x hx (by simp), sk := c5 (by simp), kn := h.kn, skd := h.skd, skt := h.skt, late := h.late, big := Nat.le_trans h.big hw.size, q0 := h.q0, q1 := h.q1, qs := h.qs, m1 := h.m1, pl := hl, kl := h.kl, n1 := h.n1, oh := o1, oi := o2, om := ⟨o3.1, fun g e => (hn g e).elim (o3.2 g) (fun e => ext_ge e)⟩, ow := o4, os := o5, ox := o6 }, hw2⟩

/-- a value's window turned -/
def setW (K : List RW) (s : ByteArray) (v : Value) (t : Nat) (L : List WinC.Bkt) : List RW := K.map fun x => if x.k = s then ⟨x.k, x.p, v, t, L⟩ else x
theorem setW_k (K : List RW) (s : ByteArray) (v : Value) (t : Nat) (L : List WinC.Bkt) : (setW K s v t L).map RW.k = K.map RW.k := by
  unfold setW
  rw [List.map_map]
  refine List.map_congr_left fun x _ => ?_
  show (if x.k = s then _ else x).k = x.k
  split <;> rfl
theorem setW_c (K : List RW) (s : ByteArray) (v : Value) (t : Nat) (L : List WinC.Bkt) : cK (setW K s v t L) = cK K := by
  induction K with
  | nil => rfl
  | cons x K ih =>
    have e : cK (setW (x :: K) s v t L) = [.string (if x.k = s then (⟨x.k, x.p, v, t, L⟩ : RW) else x).k, ptr (if x.k = s then (⟨x.k, x.p, v, t, L⟩ : RW) else x).p] ++ cK (setW K s v t L) := rfl
    rw [e, ih]
    by_cases hk : x.k = s
    · rw [if_pos hk]; rfl
    · rw [if_neg hk]; rfl
theorem setW_len (K : List RW) (s : ByteArray) (v : Value) (t : Nat) (L : List WinC.Bkt) : (setW K s v t L).length = K.length := by unfold setW; simp

theorem winTo (h : RMem w0 w own C d S) {x : RW} (hx : x ∈ S.K) {t : Nat} {v' : Value} {L' : List WinC.Bkt} (hi : IsRw w' x.p w.heap.size (10 * C.q) 10 t v' L') (hw : Wr (fun k => k = x.p) w w') (ht : t ≤ S.noted) (hl : L'.length ≤ d) (hf : ∀ b ∈ L', b.c.Fine) :
    RMem w0 w' (ext own w.heap.size (.win x.k)) C d { S with K := setW S.K x.k v' t L' } ∧ Wr (fun k => own k = .win x.k) w w' := by
  have hw2 : Wr (fun k => own k = .win x.k) w w' := hw.mono fun k hk => by rw [hk]; exact (h.ox x hx).1
  obtain ⟨c0, c1, c2, c3, c4, c5⟩ := h.carry (.win x.k) hw2
  obtain ⟨o1, o2, o3, o4, o5, o6⟩ := h.owns (.win x.k)
  have huniq : ∀ y ∈ S.K, y.k = x.k → y = x := fun y hy e => by
    obtain ⟨i, hi1, hi2⟩ := List.getElem_of_mem hy
    obtain ⟨j, hj1, hj2⟩ := List.getElem_of_mem hx
    have hnd := h.kn
    have e1 : (S.K.map RW.k)[i]'(by simpa using hi1) = (S.K.map RW.k)[j]'(by simpa using hj1) := by rw [List.getElem_map, List.getElem_map, hi2, hj2, e]
    have := (List.getElem_inj hnd).1 e1
    subst this
    rw [← hi2, ← hj2]
  refine ⟨{ head := (c0 (by simp)).trans h.head, items := c1 (by simp), map := c2 (by simp), rows := by rw [setW_len, setW_c]; exact c3 (by simp), wins := fun y hy => ?_, sk := c5 (by simp), kn := by rw [setW_k]; exact h.kn, skd := h.skd, skt := h.skt, late := h.late, big := Nat.le_trans h.big hw.size, q0 := h.q0, q1 := h.q1, qs := h.qs, m1 := h.m1, pl := h.pl, kl := by rw [setW_len]; exact h.kl, n1 := h.n1, oh := o1, oi := o2, om := o3, ow := o4, os := o5, ox := fun y hy => ?_ }, hw2⟩
  · obtain ⟨z, hz, rfl⟩ := List.mem_map.1 hy
    by_cases e : z.k = x.k
    · have := huniq z hz e
      subst this
      rw [if_pos rfl]
      exact ⟨⟨hi.blk, owns_base hi.row (Nat.zero_le _), hi.off, hi.nil⟩, ht, hl, hf⟩
    · rw [if_neg e]
      exact c4 z hz (fun e2 => e (by injection e2 with e3; exact e3.symm))
  · obtain ⟨z, hz, rfl⟩ := List.mem_map.1 hy
    by_cases e : z.k = x.k
    · have := huniq z hz e
      subst this
      rw [if_pos rfl]
      exact ⟨(o6 z hz).1, fun g e2 => ext_ge (hi.row.lt g e2).1⟩
    · rw [if_neg e]
      exact o6 z hz

/-- the sketch turned -/
theorem skTo (h : RMem w0 w own C d S) {t : Nat} {sv' : Value} {rs' : List SkA.Note} (hi : SruB.IsRS w' C.sb 0 (rX C) C.q t sv' rs') (hn : ∀ g, sv'.ownBlock = some g → S.sv.ownBlock = some g ∨ w.heap.size ≤ g) (hw : Wr (fun j => j = C.sb ∨ S.sv.ownBlock = some j) w w') (ht : t ≤ S.noted) (hl : rs'.length ≤ d) :
    RMem w0 w' (ext own w.heap.size .sk) C d { S with rs := rs', sv := sv', sl := t } ∧ Wr (fun k => own k = .sk) w w' := by
  have hw2 : Wr (fun k => own k = .sk) w w' := hw.mono fun k hk => hk.elim (fun e => e ▸ h.os.1) (fun e => h.os.2 k e)
  obtain ⟨c0, c1, c2, c3, c4, -⟩ := h.carry .sk hw2
  obtain ⟨o1, o2, o3, o4, o5, o6⟩ := h.owns .sk
  exact ⟨{ head := (c0 (by simp)).trans h.head, items := c1 (by simp), map := c2 (by simp), rows := c3 (by simp), wins := fun x hx => c4 x hx (by simp), sk := hi, kn := h.kn, skd := hl, skt := ht, late := h.late, big := Nat.le_trans h.big hw.size, q0 := h.q0, q1 := h.q1, qs := h.qs, m1 := h.m1, pl := h.pl, kl := h.kl, n1 := h.n1, oh := o1, oi := o2, om := o3, ow := o4, os := ⟨o5.1, fun g e => (hn g e).elim (o5.2 g) (fun e => ext_ge e)⟩, ox := o6 }, hw2⟩

/-- the rows turned: some of those that there were, and a new one -/
theorem rowsTo (h : RMem w0 w own C d S) {K' : List RW} {x : RW} {rv' : Value} (hsub : K'.Sublist S.K) (hr : w.ownsRow 0 88 2 rv' (K' ++ [x]).length (cK (K' ++ [x]))) (hrt : ∀ g, rv'.ownBlock = some g → own g = .wn)
    (hx : x.Ok C S.noted d w) (hxt : own x.p = .win x.k ∧ ∀ g, x.v.ownBlock = some g → own g = .win x.k) (hnew : ∀ y ∈ K', y.k ≠ x.k) (hl : (K' ++ [x]).length ≤ d) :
    RMem w0 (w.setCell ⟨C.h, 6, none⟩ rv') own C d { S with K := K' ++ [x], rv := rv' } ∧ Wr (fun k => own k = .hd) w (w.setCell ⟨C.h, 6, none⟩ rv') := by
  have hw : Wr (fun k => own k = .hd) w (w.setCell ⟨C.h, 6, none⟩ rv') := Wr.set _ _ h.oh
  obtain ⟨-, c1, c2, -, c4, c5⟩ := h.carry .hd hw
  have hb : ∀ k, own k ≠ .hd → (w.setCell ⟨C.h, 6, none⟩ rv').heap[k]? = w.heap[k]? := fun k hk => heap_setCell_other _ _ _ _ (fun e => hk (by rw [e]; exact h.oh))
  refine ⟨{ head := heap_setCell_same _ _ _ _ _ _ h.head, items := c1 (by simp), map := c2 (by simp), rows := owns_keep hr fun g e => hb g (by rw [hrt g e]; simp), wins := fun y hy => ?_, sk := c5 (by simp), kn := ?_, skd := h.skd, skt := h.skt, late := h.late, big := by have := h.big; simpa using this, q0 := h.q0, q1 := h.q1, qs := h.qs, m1 := h.m1, pl := h.pl, kl := hl, n1 := h.n1, oh := h.oh, oi := h.oi, om := h.om, ow := hrt, os := h.os, ox := fun y hy => ?_ }, hw⟩
  · rcases List.mem_append.1 hy with hy | hy
    · exact c4 y (hsub.subset hy) (by simp)
    · obtain rfl := List.mem_singleton.1 hy
      exact hx.keep fun k hk => hb k (by
        rcases hk with rfl | hk
        · rw [hxt.1]; simp
        · rw [hxt.2 k hk]; simp)
  · rw [List.map_append]
    refine List.nodup_append.2 ⟨(hsub.map RW.k).nodup h.kn, by simp, ?_⟩
    intro a ha b hb2 e
    obtain ⟨y, hy, rfl⟩ := List.mem_map.1 ha
    obtain rfl := List.mem_singleton.1 hb2
    exact hnew y hy e
  · rcases List.mem_append.1 hy with hy | hy
    · exact h.ox y (hsub.subset hy)
    · obtain rfl := List.mem_singleton.1 hy
      exact hxt

/-- numbers that count as used -/
theorem used_in (h : RMem w0 w own C d S) (t : Nat) (s : ByteArray) : 0 ≤ usedR C S t s ∧ usedR C S t s ≤ 4611686018427387904 := by
  unfold usedR
  cases hw : winR S.K s with
  | some x =>
    obtain ⟨hx, -⟩ := win_mem hw
    obtain ⟨-, -, -, hf⟩ := h.wins x hx
    have := sumB_fine (x.L.filter (tells C.q (10 * C.q) t)) fun y hy => hf y (List.mem_filter.1 hy).1
    exact this.1
  | none =>
    refine ⟨by simp, ?_⟩
    have : SkL.estN C.q (rX C) S.rs t s ≤ 4611686018427387904 := SkA.least_top _ _
    exact Int.ofNat_le.2 this

end Go.Proofs.YtbihelpnojjacaaGreat.RhF

/- The document's rule of hot parameters at work: Take. -/
namespace Go.Proofs.YtbihelpnojjacaaGreat.RhG
open Go.ChangeShapes Go.WideShapes Go.ChangeAt Go.RowKit Base Wri LruA HotA HotJ RefL RefM RwR RwS RwD RwF RwG RwE RhA RhB RhC RhD RhF
set_option linter.unusedVariables false
set_option linter.unusedSimpArgs false
attribute [local go_sem ↓ high] RwR.builtin_app
variable {w0 w w' : World} {own : Nat → Tg} {C : RC} {d : Nat} {S : RS}

/-- the map and the rows speak of the same values -/
structure Both (S : RS) : Prop where
  same : ∀ s, s ∈ S.ps.map Prod.fst ↔ s ∈ S.K.map RW.k
  nodup : (S.ps.map Prod.fst).Nodup
  zero : ∀ p ∈ S.ps, p.2 = 0

def passC (n : Int) : WinM.Cnt := ⟨n, 0, 0, 0, 0, 0⟩
theorem pass_right {u : Int} (h0 : 0 ≤ u) (hu : u ≤ 4611686018427387904) : (⟨u, 0, 0, 0, 0, 0⟩ : WinM.Cnt).Right := by
  refine ⟨⟨⟨h0, hu⟩, ?_⟩, ?_, ?_, ?_⟩ <;> simp [WinM.InN]

open Classical in
/-- what a call that comes leaves -/
structure TookR (C : RC) (S : RS) (t : Nat) (s : ByteArray) (n : Nat) (S' : RS) : Prop where
  rs : S'.rs = S.rs ++ [⟨t, s, n⟩]
  zt : S'.sl = t
  nt : S'.noted = t
  keys : S'.ps.map Prod.fst = (if (∃ x ∈ S.K, x.k = s) ∨ S.ps.length < C.most then S.ps.map Prod.fst else (S.ps.map Prod.fst).drop 1).filter (fun k => decide (k ≠ s)) ++ [s]
  mine : ∃ y ∈ S'.K, y.k = s ∧ y.last = t ∧ ((∃ x ∈ S.K, x.k = s ∧ y.L = noteR ((WinE.begN C.q t : Nat) : Int) (passC n) x.L) ∨ ((∀ x ∈ S.K, x.k ≠ s) ∧ y.L = noteR ((WinE.begN C.q t : Nat) : Int) (passC n) (noteR ((WinE.begN C.q t : Nat) : Int) (passC (usedR C S t s)) [])))
  others : ∀ z : RW, z.k ≠ s → (z ∈ S'.K ↔ z ∈ S.K ∧ z.k ∈ S'.ps.map Prod.fst)
  both : Both S'

theorem place_erase {s : ByteArray} : ∀ {ps : List (ByteArray × Int)} {i : Nat}, placeF s ps = some i → (ps.map Prod.fst).Nodup → (ps.eraseIdx i).map Prod.fst = (ps.map Prod.fst).filter (fun k => decide (k ≠ s))
  | [], i, h, _ => by cases h
  | p :: r, i, h, hn => by
    unfold placeF at h
    rw [List.map_cons, List.nodup_cons] at hn
    by_cases e : p.1 = s
    · rw [if_pos e] at h
      cases h
      have : ∀ k ∈ r.map Prod.fst, decide (k ≠ s) = true := fun k hk => by
        rw [decide_eq_true_eq]
        rintro rfl
        exact hn.1 (by rw [e]; exact hk)
      show r.map Prod.fst = _
      rw [List.map_cons, List.filter_cons, if_neg (by simp [e]), List.filter_eq_self.2 this]
    · rw [if_neg e] at h
      cases hr : placeF s r with
      | none => rw [hr] at h; cases h
      | some j =>
        rw [hr] at h
        cases h
        rw [List.map_cons, List.filter_cons, if_pos (by simpa using e), List.eraseIdx_cons_succ, List.map_cons, place_erase hr hn.2]
theorem place_mem {s : ByteArray} {ps : List (ByteArray × Int)} (h : s ∈ ps.map Prod.fst) : ∃ i p, placeF s ps = some i ∧ ps[i]? = some p ∧ p.1 = s := by
  cases hp : placeF s ps with
  | none =>
    obtain ⟨p, hp1, hp2⟩ := List.mem_map.1 h
    exact absurd hp2 (placeF_none.1 hp p hp1)
  | some i =>
    obtain ⟨p, h1, h2⟩ := placeF_some hp
    exact ⟨i, p, rfl, h1, h2⟩
theorem mem_of_win {K : List RW} {s : ByteArray} {x : RW} (h : winR K s = some x) : s ∈ K.map RW.k := List.mem_map.2 ⟨x, (win_mem h).1, (win_mem h).2⟩
theorem win_none {K : List RW} {s : ByteArray} (h : winR K s = none) : s ∉ K.map RW.k := fun hm => by
  obtain ⟨x, hx, hk⟩ := List.mem_map.1 hm
  have := List.find?_eq_none.1 h x hx
  simp [hk] at this

end Go.Proofs.YtbihelpnojjacaaGreat.RhG

/- The document's rule of hot parameters at work: Take, the walk. -/
namespace Go.Proofs.YtbihelpnojjacaaGreat.RhH
open Go.ChangeShapes Go.WideShapes Go.ChangeAt Go.RowKit Base Wri LruA HotA HotJ RefL RefM RwR RwS RwD RwF RwG RwE RhA RhB RhC RhD RhF RhG
open HotD (Step)
set_option linter.unusedVariables false
set_option linter.unusedSimpArgs false
attribute [local go_sem ↓ high] RwR.builtin_app
variable {w0 w w' : World} {own : Nat → Tg} {C : RC} {d : Nat} {S : RS}

/-- where it stands on the way -/
structure On (w0 w : World) (own : Nat → Tg) (C : RC) (d : Nat) (wi : World) (owni : Nat → Tg) (Si : RS) : Prop where
  mem : RMem w0 wi owni C d Si
  step : Step w own wi owni
theorem On.below {wi wj : World} {owni : Nat → Tg} {Si : RS} (h : On w0 w own C d wi owni Si) (hb : Below wi.heap.size wi wj) : On w0 w own C d wj owni Si := ⟨h.mem.below hb, h.step.trans (Step.ofBelow hb owni)⟩
theorem On.extend {wi wj : World} {owni : Nat → Tg} {Si : RS} (h : On w0 w own C d wi owni Si) (hb : Below wi.heap.size wi wj) (T : Tg) (hT : T ≠ .non) : On w0 w own C d wj (ext owni wi.heap.size T) Si :=
  ⟨h.mem.extend hb T, h.step.trans (Step.ext hT (Wr.ofBelow (R := fun _ => False) hb) (fun _ e => e.elim))⟩
theorem On.noted {wi : World} {owni : Nat → Tg} {Si : RS} (h : On w0 w own C d wi owni Si) {t : Nat} (ht : Si.noted ≤ t) (ht2 : t ≤ 1152921504606846976) : On w0 w own C d (wi.setCell ⟨C.h, 8, none⟩ (.int .i64 t)) owni { Si with noted := t } :=
  ⟨RhF.noted h.mem ht ht2, h.step.trans ⟨(Wr.set (R := fun k => owni k = .hd) _ _ h.mem.oh).mono fun k e => by rw [e]; simp, fun _ _ => rfl⟩⟩
theorem On.mapTo {wi wj : World} {owni : Nat → Tg} {Si : RS} (h : On w0 w own C d wi owni Si) {ps' : List (ByteArray × Int)} (hp : RPost w0 wi C.mb C.most Si.mv ps' wj) (hl : ps'.length ≤ C.most) : ∃ mv', On w0 w own C d wj (ext owni wi.heap.size .lr) { Si with ps := ps', mv := mv' } := by
  obtain ⟨mv', h1, h2⟩ := RhF.mapTo h.mem hp hl
  exact ⟨mv', h1, h.step.trans (Step.ext (by simp) h2 (fun _ e => e))⟩
theorem On.winTo {wi wj : World} {owni : Nat → Tg} {Si : RS} (h : On w0 w own C d wi owni Si) {x : RW} (hx : x ∈ Si.K) {t : Nat} {v' : Value} {L' : List WinC.Bkt} (hi : IsRw wj x.p wi.heap.size (10 * C.q) 10 t v' L') (hw : Wr (fun k => k = x.p) wi wj) (ht : t ≤ Si.noted) (hl : L'.length ≤ d) (hf : ∀ b ∈ L', b.c.Fine) :
    On w0 w own C d wj (ext owni wi.heap.size (.win x.k)) { Si with K := setW Si.K x.k v' t L' } := by
  obtain ⟨h1, h2⟩ := RhF.winTo h.mem hx hi hw ht hl hf
  exact ⟨h1, h.step.trans (Step.ext (by simp) h2 (fun _ e => e))⟩
theorem On.skTo {wi wj : World} {owni : Nat → Tg} {Si : RS} (h : On w0 w own C d wi owni Si) {t : Nat} {sv' : Value} {rs' : List SkA.Note} (hi : SruB.IsRS wj C.sb 0 (rX C) C.q t sv' rs') (hn : ∀ g, sv'.ownBlock = some g → Si.sv.ownBlock = some g ∨ wi.heap.size ≤ g) (hw : Wr (fun j => j = C.sb ∨ Si.sv.ownBlock = some j) wi wj) (ht : t ≤ Si.noted) (hl : rs'.length ≤ d) :
    On w0 w own C d wj (ext owni wi.heap.size .sk) { Si with rs := rs', sv := sv', sl := t } := by
  obtain ⟨h1, h2⟩ := RhF.skTo h.mem hi hn hw ht hl
  exact ⟨h1, h.step.trans (Step.ext (by simp) h2 (fun _ e => e))⟩
theorem On.rowsTo {wi : World} {owni : Nat → Tg} {Si : RS} (h : On w0 w own C d wi owni Si) {K' : List RW} {x : RW} {rv' : Value} (hsub : K'.Sublist Si.K) (hr : wi.ownsRow 0 88 2 rv' (K' ++ [x]).length (cK (K' ++ [x]))) (hrt : ∀ g, rv'.ownBlock = some g → owni g = .wn)
    (hx : x.Ok C Si.noted d wi) (hxt : owni x.p = .win x.k ∧ ∀ g, x.v.ownBlock = some g → owni g = .win x.k) (hnew : ∀ y ∈ K', y.k ≠ x.k) (hl : (K' ++ [x]).length ≤ d) :
    On w0 w own C d (wi.setCell ⟨C.h, 6, none⟩ rv') owni { Si with K := K' ++ [x], rv := rv' } := by
  obtain ⟨h1, h2⟩ := RhF.rowsTo h.mem hsub hr hrt hx hxt hnew hl
  exact ⟨h1, h.step.trans ⟨h2.mono fun k e => by rw [e]; simp, fun _ _ => rfl⟩⟩

theorem noteR_len (b : Int) (c : WinM.Cnt) (L : List WinC.Bkt) : (noteR b c L).length ≤ L.length + 1 := by
  unfold noteR
  rcases List.eq_nil_or_concat L with rfl | ⟨L0, x, rfl⟩
  · simp
  · simp only [List.concat_eq_append, List.getLast?_append, List.getLast?_singleton, Option.some_or]
    split <;> simp
theorem noteR_fine {b : Int} {c : WinM.Cnt} {L : List WinC.Bkt} (hc : c.Fine) (h : ∀ x ∈ L, x.c.Fine) : ∀ x ∈ noteR b c L, x.c.Fine := by
  unfold noteR
  rcases List.eq_nil_or_concat L with rfl | ⟨L0, y, rfl⟩
  · intro x hx; simp at hx; subst hx; exact hc
  · rw [List.concat_eq_append] at *
    simp only [List.getLast?_append, List.getLast?_singleton, Option.some_or]
    intro x hx
    split at hx
    · simp at hx
      rcases hx with hx | rfl
      · exact h x (List.mem_append_left _ hx)
      · exact WinM.joinM_fine (h y (List.mem_append_right _ (List.mem_singleton.2 rfl))) hc
    · rcases List.mem_append.1 hx with hx | hx
      · exact h x hx
      · obtain rfl := List.mem_singleton.1 hx; exact hc

end Go.Proofs.YtbihelpnojjacaaGreat.RhH

/- The document's rule of hot parameters at work: Take where a call comes. -/
namespace Go.Proofs.YtbihelpnojjacaaGreat.RhI
open Go.ChangeShapes Go.WideShapes Go.ChangeAt Go.RowKit Base Wri LruA HotA HotJ RefL RefM RwR RwS RwD RwF RwG RwE RhA RhB RhC RhD RhF RhG RhH
open HotD (Step)
set_option linter.unusedVariables false
set_option linter.unusedSimpArgs false
attribute [local go_sem ↓ high] RwR.builtin_app
variable {w0 w w' : World} {own : Nat → Tg} {C : RC} {d : Nat} {S : RS}

/-- what the end of a call that comes does -/
structure TailR (SA : RS) (s : ByteArray) (t n : Nat) (x : RW) (L' : List WinC.Bkt) (S' : RS) : Prop where
  rs : S'.rs = SA.rs ++ [⟨t, s, n⟩]
  zt : S'.sl = t
  nt : S'.noted = SA.noted
  keys : S'.ps.map Prod.fst = (SA.ps.map Prod.fst).filter (fun k => decide (k ≠ s)) ++ [s]
  mine : ∃ y ∈ S'.K, y.k = s ∧ y.last = t ∧ y.L = L'
  others : ∀ z : RW, z.k ≠ s → (z ∈ S'.K ↔ z ∈ SA.K)
  both : Both S'

theorem tail_of {s : ByteArray} {SA : RS} (hb : Both SA) {x : RW} (hx : x ∈ SA.K) (hk : x.k = s) {i : Nat} {pp : ByteArray × Int} (hpl : placeF s SA.ps = some i) (hpp : SA.ps[i]? = some pp) (hpk : pp.1 = s) {t n : Nat} {v sv : Value} {mv : Value} {L' : List WinC.Bkt} :
    TailR SA s t n x L' { SA with ps := SA.ps.eraseIdx i ++ [pp], mv := mv, K := setW SA.K x.k v t L', rs := SA.rs ++ SruC.newR t s (fun _ => (n : Int)) 1, sv := sv, sl := t } := by
  have hkeys : (SA.ps.eraseIdx i ++ [pp]).map Prod.fst = (SA.ps.map Prod.fst).filter (fun k => decide (k ≠ s)) ++ [s] := by
    rw [List.map_append, place_erase hpl hb.nodup, ← hpk]; rfl
  have hs : s ∈ SA.ps.map Prod.fst := by rw [← hpk]; exact List.mem_map.2 ⟨pp, List.mem_of_getElem? hpp, rfl⟩
  refine ⟨by show SA.rs ++ _ = _; simp [SruC.newR], rfl, rfl, hkeys, ⟨⟨x.k, x.p, v, t, L'⟩, List.mem_map.2 ⟨x, hx, if_pos rfl⟩, hk, rfl, rfl⟩, fun z hz => ?_, ⟨fun a => ?_, ?_, fun p hp => ?_⟩⟩
  · constructor
    · intro h
      obtain ⟨y, hy, e⟩ := List.mem_map.1 h
      by_cases e2 : y.k = x.k
      · rw [if_pos e2] at e
        exact absurd (by rw [← e]; exact e2.trans hk) hz
      · rw [if_neg e2] at e
        rw [← e]; exact hy
    · intro h
      exact List.mem_map.2 ⟨z, h, if_neg (by rw [hk]; exact hz)⟩
  · show a ∈ (SA.ps.eraseIdx i ++ [pp]).map Prod.fst ↔ a ∈ (setW SA.K x.k v t L').map RW.k
    rw [hkeys, setW_k, ← hb.same a]
    simp only [List.mem_append, List.mem_filter, List.mem_singleton, decide_eq_true_eq]
    constructor
    · rintro (⟨h, -⟩ | rfl)
      · exact h
      · exact hs
    · intro h
      by_cases e : a = s
      · exact .inr e
      · exact .inl ⟨h, e⟩
  · show ((SA.ps.eraseIdx i ++ [pp]).map Prod.fst).Nodup
    rw [hkeys]
    refine List.nodup_append.2 ⟨hb.nodup.filter _, by simp, ?_⟩
    intro a ha b hb2 e
    obtain rfl := List.mem_singleton.1 hb2
    have := (List.mem_filter.1 ha).2
    rw [decide_eq_true_eq] at this
    exact this e
  · rcases List.mem_append.1 hp with hp | hp
    · exact hb.zero p (List.mem_of_mem_eraseIdx hp)
    · obtain rfl := List.mem_singleton.1 hp
      exact hb.zero p (List.mem_of_getElem? hpp)

theorem took_there {s : ByteArray} {S S' : RS} {x : RW} {t n : Nat} (hb : Both S) (hx : winR S.K s = some x) (h : TailR { S with noted := t } s t n x (noteR ((WinE.begN C.q t : Nat) : Int) (passC n) x.L) S') : TookR C S t s n S' := by
  obtain ⟨hx1, hx2⟩ := win_mem hx
  have he : ∃ x ∈ S.K, x.k = s := ⟨x, hx1, hx2⟩
  refine ⟨h.rs, h.zt, h.nt, by rw [if_pos (.inl he)]; exact h.keys, ?_, fun z hz => ?_, h.both⟩
  · obtain ⟨y, h1, h2, h3, h4⟩ := h.mine
    exact ⟨y, h1, h2, h3, .inl ⟨x, hx1, hx2, h4⟩⟩
  · rw [h.others z hz]
    constructor
    · intro h1
      refine ⟨h1, ?_⟩
      rw [h.keys]
      refine List.mem_append_left _ (List.mem_filter.2 ⟨(hb.same _).2 (List.mem_map.2 ⟨z, h1, rfl⟩), ?_⟩)
      simpa using hz
    · exact fun h1 => h1.1

set_option maxRecDepth 20000 in
set_option maxHeartbeats 4000000 in
theorem take_there (h : RMem w0 w own C d S) (hd : d + 2 ≤ 1000000) (hb : Both S) (t n : Nat) (s : ByteArray) (hs : s.size ≤ maxLen) (ht : S.noted ≤ t) (ht2 : t ≤ 1152921504606846976) (hn1 : 1 ≤ n) (hn2 : n ≤ 1099511627776) {x : RW} (hx : winR S.K s = some x)
    (HLk : Hid (Calls Tryz.prog 38 #[.pointer (some ⟨C.h, 0, none⟩), .int .i64 t, .string s, .int .i64 n] w fun e w' => e = .returned (.tuple #[.bool true, .int .i64 0]) ∧ Below w.heap.size w w')) :
    Calls Tryz.prog 23 #[.pointer (some ⟨C.h, 0, none⟩), .int .i64 t, .string s, .int .i64 n] w fun e w' => e = .returned (.tuple #[.bool true, .int .i64 0]) ∧ ∃ own' S', On w0 w own C (d + 2) w' own' S' ∧ TookR C S t s n S' := by
  obtain ⟨hx1, hx2⟩ := win_mem hx
  have H0 := hid (show On w0 w own C (d + 2) w own S from ⟨h.more (by omega), Step.refl _ _⟩)
  obtain ⟨i, pp, hpl, hpp, hpk⟩ := place_mem ((hb.same s).2 (mem_of_win hx))
  have hxl := (h.wins x hx1).2.2.1
  have hrl := h.skd
  have HX0 := hid hx
  have HBo := hid hb
  have hd3 := hd
  clear h hx hb
  go_enter Tryz.func23, Tryz.ntmps23
  go_wp2_with fail
  refine HLk.out.mono ?_
  rintro e w1 ⟨rfl, hb1⟩
  have H1 := hid (H0.out.below hb1)
  clear HLk hb1
  obtain ⟨-, -, -, -, -, -, -, -, c8, cf⟩ := H1.out.mem.cells
  have f8 := cf 8
  have H2 := hid (H1.out.noted ht ht2)
  clear cf
  obtain ⟨w2, hw2⟩ : ∃ w2, w1.setCell ⟨C.h, 8, none⟩ (.int .i64 t) = w2 := ⟨_, rfl⟩
  rw [hw2] at H2
  go_upto_region 7 with fail
  clear hw2 c8 f8 H1 H0
  obtain ⟨SA, hSA⟩ : ∃ SA, ({ S with noted := t } : RS) = SA := ⟨_, rfl⟩
  rw [hSA] at H2
  have e1 : SA.noted = t := by rw [← hSA]
  have e2 : SA.ps = S.ps := by rw [← hSA]
  have e3 : SA.K = S.K := by rw [← hSA]
  have e4 : SA.rs = S.rs := by rw [← hSA]
  have HA := H2
  clear H2
  have HW2 := hid (window_any HA.out.mem hd s)
  rw [show winR SA.K s = some x by rw [e3]; exact HX0.out] at HW2
  dsimp only [ptrO] at HW2
  go_wp2_with fail
  refine HW2.out.mono ?_
  rintro e w3 ⟨rfl, rfl⟩
  clear HW2
  have Hpl := hid (show placeF s SA.ps = some i by rw [e2]; exact hpl)
  have Hpp := hid (show SA.ps[i]? = some pp by rw [e2]; exact hpp)
  have HNt := hid e1
  have HX := hid (show x ∈ SA.K ∧ x.L.length + 1 ≤ d + 2 from ⟨by rw [e3]; exact hx1, by omega⟩)
  have HRs := hid (show SA.rs.length + 1 ≤ d + 2 from (by rw [e4]; omega))
  have HSA := hid hSA
  clear hx1 hpl hpp e1 e2 e3 e4 hSA
  -- the end: it is kept, its window is x
  obtain ⟨-, -, -, -, -, c5, -, c7, -, -⟩ := HA.out.mem.cells
  unfold ptr at c5 c7
  have HG := hid (RefO.rget_yes HA.out.mem.map (s := s) (i := i) (by unfold placeI; rw [Hpl.out]) Hpp.out (Nat.le_trans HA.out.mem.pl HA.out.mem.m1) HA.out.mem.big)
  unfold ptr at HG
  go_wp2_with fail
  refine HG.out.mono ?_
  rintro e wB ⟨rfl, hpost⟩
  obtain ⟨mvB, hB⟩ := HA.out.mapTo hpost (by
    have hil : i < _ := (List.getElem?_eq_some_iff.1 Hpp.out).1
    rw [List.length_append, List.length_eraseIdx, if_pos hil]
    have := HA.out.mem.pl
    simp
    omega)
  have HB := hid hB
  clear HG hpost hB c5
  have hbC : Below wB.heap.size wB (wB.alloc (.cells #[.int .i64 n, .int .i64 0, .int .i64 0, .int .i64 0, .int .i64 0, .int .i64 0] 98)) := (Below.refl _ _).alloc (Nat.le_refl _) _
  have HC := hid (HB.out.extend hbC .it (by simp))
  have HW := hid (add_any x.p (10 * C.q) 10 C.q x.last t wB.heap.size 1 n 0 0 0 0 0 x.v 0 x.L _ (HC.out.mem.wins x HX.out.1).1 (Nat.le_trans (HC.out.mem.wins x HX.out.1).2.2.1 hd) (HC.out.mem.wins x HX.out.1).2.2.2 (pass_right (by omega) (by omega)) (by simp) (by have : x.p < wB.heap.size := (HB.out.mem.wins x HX.out.1).1.lt; omega) (hid ⟨by go_cell, by go_cell, by go_cell, by go_cell, by go_cell, by go_cell⟩) (by decide) (div10 _) HA.out.mem.q0 (by have := HA.out.mem.q1; omega) (by have h9 := (HC.out.mem.wins x HX.out.1).2.1; exact Nat.le_trans h9 (Nat.le_of_eq HNt.out)) ht2)
  obtain ⟨-, -, -, -, -, -, -, c7B, -, -⟩ := HB.out.mem.cells
  unfold ptr at c7B
  go_wp2_with fail
  refine HW.out.mono ?_
  rintro e wD ⟨rfl, vD, hiD, hwD⟩
  have HD := hid (HC.out.winTo HX.out.1 hiD hwD (Nat.le_of_eq HNt.out.symm) (Nat.le_trans (noteR_len _ _ _) HX.out.2) (noteR_fine (pass_right (by omega) (by omega)).1 (HC.out.mem.wins x HX.out.1).2.2.2))
  clear HW hiD hwD hbC c7B
  have hbE : Below wD.heap.size wD (wD.alloc (.cells #[.int .i64 n] 3)) := (Below.refl _ _).alloc (Nat.le_refl _) _
  have HE := hid (HD.out.extend hbE .it (by simp))
  obtain ⟨-, -, -, -, -, -, -, c7D, -, -⟩ := HD.out.mem.cells
  unfold ptr at c7D
  have HK := hid (SruC.radd_yes HE.out.mem.sk (Nat.zero_le _) t (by have := HE.out.mem.skt; exact Nat.le_trans this (Nat.le_of_eq HNt.out)) ht2 s hs (some ⟨wD.heap.size, 0, none⟩) 1 1 (fun _ => n) (Nat.le_trans HRs.out (by omega)) (by
    intro _
    refine ⟨wD.heap.size, 0, rfl, by simp, fun j hj => ?_⟩
    obtain rfl : j = 0 := by omega
    exact HotD.cell_of (heap_alloc_new _ _) 0 _ rfl) (by
    unfold SkB.goodC SkB.badC
    refine decide_eq_true fun j _ => decide_eq_false (show ¬ (((n : Nat) : Int) < 0 ∨ 1099511627776 < ((n : Nat) : Int)) from ?_)
    omega) (by
    rintro g o he -
    cases he
    exact ⟨by have := HD.out.mem.slt; omega, fun e => by have := (HD.out.mem.sk.own.lt _ e).2; omega⟩))
  go_wp2_with fail
  refine HK.out.mono ?_
  rintro e wF ⟨rfl, svF, hiF, hnF, hwF⟩
  have HF := hid (HE.out.skTo hiF hnF hwF (Nat.le_of_eq HNt.out.symm) (by have := HRs.out; rw [List.length_append, SruC.newR_len]; exact this))
  clear HK hiF hnF hwF hbE c7D
  go_wp2_with fail
  go_ret2
  have hbS : Both SA := by
    rw [← HSA.out]
    exact ⟨HBo.out.same, HBo.out.nodup, HBo.out.zero⟩
  have hT := tail_of (t := t) (n := n) (v := vD) (sv := svF) (mv := mvB) (L' := noteR ((WinE.begN C.q t : Nat) : Int) (passC n) x.L) hbS HX.out.1 hx2 Hpl.out Hpp.out hpk
  refine ⟨rfl, _, _, HF.out, ?_⟩
  refine took_there HBo.out HX0.out ?_
  rw [HSA.out]
  exact hT

end Go.Proofs.YtbihelpnojjacaaGreat.RhI

/- The document's rule of hot parameters at work: Take of a value that is not kept yet. -/
namespace Go.Proofs.YtbihelpnojjacaaGreat.RhJ
open Go.ChangeShapes Go.WideShapes Go.ChangeAt Go.RowKit Base Wri LruA HotA HotJ RefL RefM RwR RwS RwD RwF RwG RwE RhA RhB RhC RhD RhF RhG RhH RhI
open HotD (Step)
set_option linter.unusedVariables false
set_option linter.unusedSimpArgs false
attribute [local go_sem ↓ high] RwR.builtin_app
variable {w0 w w' : World} {own : Nat → Tg} {C : RC} {d : Nat} {S : RS}

/-- what Put does with the pairs of a value that is not there -/
theorem put_any {w : World} {rb most : Nat} {v : Value} {ps : List (ByteArray × Int)} (h : RM w0 w rb most v ps) (s : ByteArray) (hp : placeF s ps = none) (h1 : 1 ≤ most) (hl : ps.length ≤ most) (hm : most ≤ 4096) (hb : w0.heap.size ≤ w.heap.size) :
    ∃ (gone : ByteArray) (b : Bool) (ps' : List (ByteArray × Int)), ((b = false ∧ ps.length < most ∧ ps' = ps) ∨ (b = true ∧ ps.length = most ∧ ∃ p, ps = p :: ps' ∧ gone = p.1)) ∧
      Calls Tryz.prog 49 #[ptr rb, .string s, .int .i64 0] w fun e w' => e = .returned (.tuple #[.string gone, .bool b, .int .i64 0]) ∧ RPost w0 w rb most v (ps' ++ [(s, 0)]) w' := by
  have hpi : placeI s ps = -1 := by unfold placeI; rw [hp]
  by_cases hlt : ps.length < most
  · exact ⟨_, _, ps, .inl ⟨rfl, hlt, rfl⟩, rput_room 0 h hpi hlt hm hb⟩
  · have he : ps.length = most := by omega
    cases ps with
    | nil => simp at he; omega
    | cons p r => exact ⟨p.1, true, r, .inr ⟨rfl, he, p, rfl, rfl⟩, rput_full 0 h hpi he hm hb⟩

def keepF (b : Bool) (gone : ByteArray) (x : RW) : Bool := !b || decide (x.k ≠ gone)

theorem keep_case {S : RS} {most : Nat} {ps' : List (ByteArray × Int)} {gone : ByteArray} {bb : Bool} (hb : Both S) (hc : (bb = false ∧ S.ps.length < most ∧ ps' = S.ps) ∨ (bb = true ∧ S.ps.length = most ∧ ∃ p, S.ps = p :: ps' ∧ gone = p.1)) :
    (∀ z ∈ S.K, (keepF bb gone z = true ↔ z.k ∈ ps'.map Prod.fst)) ∧ (ps'.map Prod.fst).Nodup ∧ (∀ p ∈ ps', p ∈ S.ps) ∧ (∀ a ∈ ps'.map Prod.fst, a ∈ S.ps.map Prod.fst) := by
  rcases hc with ⟨rfl, -, rfl⟩ | ⟨rfl, -, p, hp, rfl⟩
  · exact ⟨fun z hz => ⟨fun _ => (hb.same _).2 (List.mem_map.2 ⟨z, hz, rfl⟩), fun _ => rfl⟩, hb.nodup, fun p h => h, fun a h => h⟩
  · have hn := hb.nodup
    rw [hp, List.map_cons, List.nodup_cons] at hn
    refine ⟨fun z hz => ?_, hn.2, fun q h => by rw [hp]; exact List.mem_cons_of_mem _ h, fun a h => by rw [hp, List.map_cons]; exact List.mem_cons_of_mem _ h⟩
    have h1 : z.k ∈ S.ps.map Prod.fst := (hb.same _).2 (List.mem_map.2 ⟨z, hz, rfl⟩)
    rw [hp, List.map_cons, List.mem_cons] at h1
    unfold keepF
    simp only [Bool.not_true, Bool.false_or, decide_eq_true_eq]
    constructor
    · intro h; exact h1.elim (fun e => absurd e h) (fun e => e)
    · intro h e; exact hn.1 (by rw [← e]; exact h)

theorem both_new {S : RS} {most : Nat} {ps' : List (ByteArray × Int)} {gone s : ByteArray} {bb : Bool} (hb : Both S) (hs : s ∉ S.K.map RW.k) (hc : (bb = false ∧ S.ps.length < most ∧ ps' = S.ps) ∨ (bb = true ∧ S.ps.length = most ∧ ∃ p, S.ps = p :: ps' ∧ gone = p.1)) {S8 : RS} {x : RW} (hx : x.k = s)
    (h1 : S8.ps = ps' ++ [(s, 0)]) (h2 : S8.K = S.K.filter (keepF bb gone) ++ [x]) : Both S8 ∧ ∀ p ∈ ps', p.1 ≠ s := by
  obtain ⟨k1, k2, k3, k4⟩ := keep_case hb hc
  have hps : s ∉ ps'.map Prod.fst := fun h => hs ((hb.same s).1 (k4 s h))
  refine ⟨⟨fun a => ?_, ?_, fun p hp => ?_⟩, fun p hp e => hps (by rw [← e]; exact List.mem_map.2 ⟨p, hp, rfl⟩)⟩
  · rw [h1, h2, List.map_append, List.map_append, List.mem_append, List.mem_append]
    have : a ∈ (S.K.filter (keepF bb gone)).map RW.k ↔ a ∈ ps'.map Prod.fst := by
      constructor
      · intro h
        obtain ⟨z, hz, rfl⟩ := List.mem_map.1 h
        obtain ⟨h3, h4⟩ := List.mem_filter.1 hz
        exact (k1 z h3).1 h4
      · intro h
        obtain ⟨z, hz, rfl⟩ := List.mem_map.1 ((hb.same a).1 (k4 a h))
        exact List.mem_map.2 ⟨z, List.mem_filter.2 ⟨hz, (k1 z hz).2 h⟩, rfl⟩
    rw [this]
    simp [hx]
  · rw [h1, List.map_append]
    refine List.nodup_append.2 ⟨k2, by simp, ?_⟩
    intro a ha b hb2 e
    obtain rfl := List.mem_singleton.1 hb2
    subst e
    exact hps ha
  · rw [h1] at hp
    rcases List.mem_append.1 hp with hp | hp
    · exact hb.zero p (k3 p hp)
    · obtain rfl := List.mem_singleton.1 hp; rfl

theorem took_new {S S8 S' : RS} {C : RC} {ps' : List (ByteArray × Int)} {gone s : ByteArray} {bb : Bool} {t n : Nat} (hb : Both S) (hs : s ∉ S.K.map RW.k) (hc : (bb = false ∧ S.ps.length < C.most ∧ ps' = S.ps) ∨ (bb = true ∧ S.ps.length = C.most ∧ ∃ p, S.ps = p :: ps' ∧ gone = p.1)) {x : RW} (hx : x.k = s)
    (hxL : x.L = noteR ((WinE.begN C.q t : Nat) : Int) (passC (usedR C S t s)) []) (h0 : S8.noted = t) (h1 : S8.ps = ps' ++ [(s, 0)]) (h2 : S8.K = S.K.filter (keepF bb gone) ++ [x]) (h3 : S8.rs = S.rs)
    (h : TailR S8 s t n x (noteR ((WinE.begN C.q t : Nat) : Int) (passC n) x.L) S') : TookR C S t s n S' := by
  obtain ⟨k1, k2, k3, k4⟩ := keep_case hb hc
  have hno : ∀ y ∈ S.K, y.k ≠ s := fun y hy e => hs (by rw [← e]; exact List.mem_map.2 ⟨y, hy, rfl⟩)
  have hne : ¬ ∃ y ∈ S.K, y.k = s := fun ⟨y, hy, e⟩ => hno y hy e
  have hkeys : S'.ps.map Prod.fst = (ps'.map Prod.fst).filter (fun k => decide (k ≠ s)) ++ [s] := by
    rw [h.keys, h1, List.map_append, List.filter_append]
    simp
  refine ⟨by rw [h.rs, h3], h.zt, by rw [h.nt, h0], ?_, ?_, fun z hz => ?_, h.both⟩
  · rw [hkeys]
    rcases hc with ⟨-, hl, rfl⟩ | ⟨-, hl, p, hp, -⟩
    · rw [if_pos (.inr hl)]
    · rw [if_neg (by rintro (h | h); exact hne h; omega), hp]; rfl
  · obtain ⟨y, m1, m2, m3, m4⟩ := h.mine
    exact ⟨y, m1, m2, m3, .inr ⟨hno, by rw [m4, hxL]⟩⟩
  · rw [h.others z hz, h2, List.mem_append, hkeys]
    constructor
    · rintro (h4 | h4)
      · obtain ⟨h5, h6⟩ := List.mem_filter.1 h4
        exact ⟨h5, List.mem_append_left _ (List.mem_filter.2 ⟨(k1 z h5).1 h6, by simpa using hz⟩)⟩
      · obtain rfl := List.mem_singleton.1 h4
        exact absurd hx hz
    · rintro ⟨h4, h5⟩
      rcases List.mem_append.1 h5 with h5 | h5
      · exact .inl (List.mem_filter.2 ⟨h4, (k1 z h4).2 (List.mem_filter.1 h5).1⟩)
      · exact absurd (List.mem_singleton.1 h5) hz

set_option maxRecDepth 20000 in
set_option maxHeartbeats 2000000 in
theorem take_new (h : RMem w0 w own C d S) (hd : d + 2 ≤ 1000000) (hb : Both S) (hm1 : 1 ≤ C.most) (t n : Nat) (s : ByteArray) (hs : s.size ≤ maxLen) (ht : S.noted ≤ t) (ht2 : t ≤ 1152921504606846976) (hn1 : 1 ≤ n) (hn2 : n ≤ 1099511627776) (hx : winR S.K s = none)
    (HLk : Hid (Calls Tryz.prog 38 #[.pointer (some ⟨C.h, 0, none⟩), .int .i64 t, .string s, .int .i64 n] w fun e w' => e = .returned (.tuple #[.bool true, .int .i64 0]) ∧ Below w.heap.size w w')) :
    Calls Tryz.prog 23 #[.pointer (some ⟨C.h, 0, none⟩), .int .i64 t, .string s, .int .i64 n] w fun e w' => e = .returned (.tuple #[.bool true, .int .i64 0]) ∧ ∃ own' S', On w0 w own C (d + 2) w' own' S' ∧ TookR C S t s n S' := by
  have H0 := hid (show On w0 w own C (d + 2) w own S from ⟨h.more (by omega), Step.refl _ _⟩)
  have hrl := h.skd
  have hkl := h.kl
  have HX0 := hid hx
  have HBo := hid hb
  have hd3 := hd
  have hq0 := h.q0
  have hq1 := h.q1
  have hqs := h.qs
  have hwr : IntKind.i64.wrap ((C.sec : Int) * 1000000) = ((10 * C.q : Nat) : Int) := by rw [IntKind.wrap_i64]; omega
  clear h hx hb
  go_enter Tryz.func23, Tryz.ntmps23
  go_wp2_with fail
  refine HLk.out.mono ?_
  rintro e w1 ⟨rfl, hb1⟩
  have H1 := hid (H0.out.below hb1)
  clear HLk hb1
  obtain ⟨-, -, -, -, -, -, -, -, c8, cf⟩ := H1.out.mem.cells
  have f8 := cf 8
  have H2 := hid (H1.out.noted ht ht2)
  clear cf
  obtain ⟨w2, hw2⟩ : ∃ w2, w1.setCell ⟨C.h, 8, none⟩ (.int .i64 t) = w2 := ⟨_, rfl⟩
  rw [hw2] at H2
  go_upto_region 7 with fail
  clear hw2 c8 f8 H1 H0
  obtain ⟨SA, hSA⟩ : ∃ SA, ({ S with noted := t } : RS) = SA := ⟨_, rfl⟩
  rw [hSA] at H2
  have e1 : SA.noted = t := by rw [← hSA]
  have e2 : SA.ps = S.ps := by rw [← hSA]
  have e3 : SA.K = S.K := by rw [← hSA]
  have e4 : SA.rs = S.rs := by rw [← hSA]
  have HW2 := hid (window_any H2.out.mem hd s)
  rw [show winR SA.K s = none by rw [e3]; exact HX0.out] at HW2
  dsimp only [ptrO] at HW2
  have HU := hid (used_any H2.out.mem hd t (by rw [e1]; exact Nat.le_refl _) ht2 s hs)
  have hui := used_in H2.out.mem t s
  have hu1 : usedR C SA t s = usedR C S t s := by unfold usedR; rw [e3, e4]
  rw [hu1] at HU hui
  obtain ⟨u, hu⟩ : ∃ u, usedR C S t s = u := ⟨_, rfl⟩
  rw [hu] at HU hui
  obtain ⟨u0, u1⟩ := hui
  have HUu := hid hu
  go_wp2_with fail
  refine HW2.out.mono ?_
  rintro e w3 ⟨rfl, rfl⟩
  clear HW2 hu hu1
  go_wp2_with fail
  refine HU.out.mono ?_
  rintro e w3 ⟨rfl, hb3⟩
  have H3 := hid (H2.out.below hb3)
  clear HU hb3 H2
  obtain ⟨-, -, -, c3, -, -, -, -, -, -⟩ := H3.out.mem.cells
  have HN := hid (rnew_any (10 * C.q) 10 C.q w3 (by decide) (by decide) hq0 (by omega) rfl)
  go_wp2_with fail
  refine HN.out.mono ?_
  rintro e w4 ⟨rfl, hw4⟩
  clear HN c3
  have hb4 : Below w3.heap.size w3 w4 := by rw [← hw4]; exact (Below.refl _ _).alloc (Nat.le_refl _) _
  have hs4 : w4.heap.size = w3.heap.size + 1 := by rw [← hw4]; simp
  have hI4 : IsRw w4 w3.heap.size 0 (10 * C.q) 10 0 (.slice none 0 0) [] := ⟨by rw [← hw4]; exact heap_alloc_new _ _, ⟨rfl, .inl ⟨rfl, rfl⟩⟩, (fun g e => by cases e), fun _ => rfl⟩
  have hI4a : IsRw (w4.alloc (.cells #[.int .i64 u, .int .i64 0, .int .i64 0, .int .i64 0, .int .i64 0, .int .i64 0] 98)) w3.heap.size 0 (10 * C.q) 10 0 (.slice none 0 0) [] := hI4.keep fun k hk => heap_alloc_old _ _ (by
    rcases hk with rfl | hk
    · omega
    · cases hk)
  have HW := hid (add_any w3.heap.size (10 * C.q) 10 C.q 0 t w4.heap.size 1 u 0 0 0 0 0 (.slice none 0 0) 0 [] (w4.alloc (.cells #[.int .i64 u, .int .i64 0, .int .i64 0, .int .i64 0, .int .i64 0, .int .i64 0] 98)) hI4a (Nat.zero_le _) (fun x hx => by cases hx) (pass_right u0 u1) (by simp) (by omega) (hid ⟨by go_cell, by go_cell, by go_cell, by go_cell, by go_cell, by go_cell⟩) (by decide) (div10 _) hq0 (by omega) (Nat.zero_le _) ht2)
  rw [hs4] at HW
  clear hw4 hI4 hI4a
  go_wp2_with fail
  with_reducible refine HW.out.mono ?_
  rintro e w5 ⟨rfl, v5, hI5, hw5⟩
  clear HW
  have hb4a : Below w3.heap.size w3 (w4.alloc (.cells #[.int .i64 u, .int .i64 0, .int .i64 0, .int .i64 0, .int .i64 0, .int .i64 0] 98)) := hb4.alloc (by omega) _
  have hs4a : w3.heap.size + 2 = (w4.alloc (.cells #[.int .i64 u, .int .i64 0, .int .i64 0, .int .i64 0, .int .i64 0, .int .i64 0] 98)).heap.size := by simp; omega
  rw [← hs4a] at hI5
  have hb5 : Below w3.heap.size w3 w5 := hb4a.trans ⟨hw5.os, hw5.tape, hw5.output, hw5.size, fun k hk => hw5.block k (by omega) (by omega)⟩
  have H5 := hid (H3.out.extend hb5 (.win s) (by simp))
  have ho5p : ext own w3.heap.size (.win s) w3.heap.size = .win s := ext_ge (Nat.le_refl _)
  have ho5v : ∀ g, v5.ownBlock = some g → ext own w3.heap.size (.win s) g = .win s := fun g e => ext_ge (by have := (hI5.row.lt g e).1; omega)
  obtain ⟨own5, hown5⟩ : ∃ own5, ext own w3.heap.size (.win s) = own5 := ⟨_, rfl⟩
  rw [hown5] at H5 ho5p ho5v
  clear hb4 hb4a hs4a hs4 hw5 hb5 hown5
  have hnk : s ∉ SA.K.map RW.k := win_none (by rw [e3]; exact HX0.out)
  have hbS : Both SA := by
    rw [← hSA]
    exact ⟨HBo.out.same, HBo.out.nodup, HBo.out.zero⟩
  have hpn : placeF s SA.ps = none := placeF_none.2 fun p hp e => hnk ((hbS.same s).1 (by rw [← e]; exact List.mem_map.2 ⟨p, hp, rfl⟩))
  obtain ⟨gone, bb, ps', hcase, HPut⟩ := put_any H5.out.mem.map s hpn hm1 H5.out.mem.pl H5.out.mem.m1 H5.out.mem.big
  unfold ptr at HPut
  have HCase := hid hcase
  have HBS := hid (And.intro hbS hnk)
  obtain ⟨-, -, -, -, -, c5, -, -, -, -⟩ := H5.out.mem.cells
  unfold ptr at c5
  have HI5 := hid (And.intro hI5 (And.intro ho5p ho5v))
  clear hcase hbS hnk hI5 ho5p ho5v hpn
  go_wp2_with fail
  refine HPut.mono ?_
  rintro e w6 ⟨rfl, hpost⟩
  have hk6 : ∀ k, k < w5.heap.size → own5 k = .win s → w6.heap[k]? = w5.heap[k]? := fun k hk hok => hpost.2.block k hk (fun e => by
    rcases e with e | e
    · rw [e, H5.out.mem.om.1] at hok; cases hok
    · rw [H5.out.mem.om.2 k e] at hok; cases hok)
  have hI6 : IsRw w6 w3.heap.size (w3.heap.size + 2) (10 * C.q) 10 t v5 (noteR ((WinE.begN C.q t : Nat) : Int) (passC u) []) := HI5.out.1.keep fun k hk => by
    rcases hk with rfl | hk
    · exact hk6 _ HI5.out.1.lt HI5.out.2.1
    · exact hk6 _ (HI5.out.1.row.lt k hk).2 (HI5.out.2.2 k hk)
  obtain ⟨mv6, h6⟩ := H5.out.mapTo hpost (by
    have := H5.out.mem.pl
    rw [List.length_append]
    rcases HCase.out with ⟨-, h1, rfl⟩ | ⟨-, h1, p, h2, -⟩
    · show _ + 1 ≤ _; omega
    · rw [h2] at h1; simp at h1 ⊢; omega)
  have ho6 : ∀ k, k < w5.heap.size → own5 k = .win s → ext own5 w5.heap.size .lr k = .win s := fun k hk e => by rw [ext_lt hk, e]
  have HO6 := hid (And.intro (ho6 _ HI5.out.1.lt HI5.out.2.1) (fun g e => ho6 g (HI5.out.1.row.lt g e).2 (HI5.out.2.2 g e)))
  obtain ⟨own6, hown6⟩ : ∃ own6, ext own5 w5.heap.size .lr = own6 := ⟨_, rfl⟩
  rw [hown6] at HO6 h6
  obtain ⟨S6, hS6⟩ : ∃ S6, ({ SA with ps := ps' ++ [(s, 0)], mv := mv6 } : RS) = S6 := ⟨_, rfl⟩
  rw [hS6] at h6
  have f1 : S6.noted = t := by rw [← hS6]; exact e1
  have f2 : S6.ps = ps' ++ [(s, 0)] := by rw [← hS6]
  have f3 : S6.K = S.K := by rw [← hS6]; exact e3
  have f4 : S6.rs = S.rs := by rw [← hS6]; exact e4
  have H6 := hid h6
  have HI6 := hid hI6
  have HS6 := hid (And.intro f1 (And.intro f2 (And.intro f3 f4)))
  clear HPut hpost hk6 hI6 ho6 hown6 h6 c5 H3
  obtain ⟨m, hm⟩ : ∃ m, S6.K.length = m := ⟨_, rfl⟩
  have hmd : m ≤ d := by rw [← hm, f3]; exact hkl
  clear f1 f2 f3 f4 e1 e2 e3 e4 hS6
  obtain ⟨va, vc, hrv⟩ := owns_shape H6.out.mem.rows
  rw [hm] at hrv
  obtain ⟨-, -, -, -, -, -, c6, -, -, cf6⟩ := H6.out.mem.cells
  rw [hrv] at c6
  have HM := hid hm
  have HRV := hid hrv
  clear cf6 hm hrv
  have hl6 := H6.out.mem.hlt
  go_wp2_with fail
  go_loopw [17, 18] (fun x i wr => Below w6.heap.size w6 wr ∧ ∃ k : Nat, k ≤ m ∧ i = .int .i64 k ∧ wr.ownsRow w6.heap.size 88 2 x ((S6.K.take k).filter (keepF bb gone)).length (cK ((S6.K.take k).filter (keepF bb gone)))) (fun _ i _ => m - (intOf i).toNat)
  case atStart => exact ⟨Below.refl _ _, 0, Nat.zero_le _, rfl, ⟨rfl, .inl ⟨rfl, rfl⟩⟩⟩
  case round =>
    obtain ⟨hbel, k, hk, rfl, ho⟩ := hrel
    obtain ⟨a7, c7, rfl⟩ := owns_shape ho
    replace c6 := (hbel.cell (p := ⟨C.h, 6, none⟩) hl6).trans c6
    have HO := hid ho
    have HBel := hid hbel
    by_cases hlt : k < m
    · obtain ⟨x, hx⟩ : ∃ x, S6.K[k]? = some x := ⟨S6.K[k]'(by rw [HM.out]; exact hlt), List.getElem?_eq_getElem _⟩
      obtain ⟨g, cc, hv, hg, hgl, hnc, hfz, hcl⟩ := own_cells H6.out.mem.rows (by rw [HM.out]; omega)
      rw [HRV.out, HM.out] at hv
      injection hv with e1 e2 e3
      subst e1
      subst e3
      obtain ⟨i0, i1⟩ := cK_get hx
      have a0 := (hbel.cell (p := ⟨g, k * 2, none⟩) hgl).trans (hcl _ _ i0)
      have a1 := (hbel.cell (p := ⟨g, k * 2 + 1, none⟩) hgl).trans (hcl _ _ i1)
      have htk : S6.K.take (k + 1) = S6.K.take k ++ [x] := by rw [List.take_add_one, hx]; rfl
      have HF := hid (show ((S6.K.take (k + 1)).filter (keepF bb gone)) = (S6.K.take k).filter (keepF bb gone) ++ (if keepF bb gone x then [x] else []) by
        rw [htk, List.filter_append]
        cases hh : keepF bb gone x <;> simp [hh])
      obtain ⟨xk, xp, xv, xl, xL⟩ := x
      dsimp only [ptr] at a0 a1
      have HTl := hid (show keepF bb gone ⟨xk, xp, xv, xl, xL⟩ = (!bb || decide (xk ≠ gone)) from rfl)
      clear hcl hx htk ho hbel hfz hg hnc i0 i1
      cases bb with
      | false =>
        have hlk : ((S6.K.take k).filter (keepF false gone)).length ≤ 1000000 := Nat.le_trans (List.length_filter_le _ _) (by rw [List.length_take]; omega)
        generalize hm7 : ((S6.K.take k).filter (keepF false gone)).length = m7 at *
        have HM7 := hid hm7
        have hsw := HBel.out.size
        obtain ⟨v9, w9, hrun9, hown9, hwr9, hat9, hne9⟩ := push_gen tyW wr w6.heap.size (.slice a7 m7 c7) m7 _ [.string xk, .pointer (some ⟨xp, 0, none⟩)] HO.out rfl (by intro y hy; simp at hy; rcases hy with rfl | rfl <;> rfl) (by unfold maxLen; omega) (by omega) hsw
        have hb9 : Below w6.heap.size w6 w9 := HBel.out.trans ⟨hwr9.os, hwr9.tape, hwr9.output, hwr9.size, fun j hj => hwr9.block j (Nat.lt_of_lt_of_le hj hsw) (fun e => by have := (HO.out.lt j e).1; omega)⟩
        obtain ⟨va9, vc9, rfl⟩ := owns_shape hown9
        have hrun9 : (app #[79, 79] 79 #[.slice a7 m7 c7, .slice (some ⟨wr.heap.size, 0, none⟩) 1 1]).run Tryz.prog (wr.alloc (.cells #[.string xk, .pointer (some ⟨xp, 0, none⟩)] 88)) = .ok (.slice va9 (m7 + 1) vc9) w9 := hrun9
        have HR := hid (And.intro hown9 hb9)
        clear hown9 hwr9 hat9 hne9 hb9 hm7
        go_wp2_with fail
        go_roundw
        case rel => exact ⟨HR.out.2, k + 1, by omega, by go_num, by rw [HF.out, HTl.out]; simp only [Bool.not_false, Bool.not_true, Bool.false_or, Bool.true_or, Bool.not_false, if_true, List.length_append, HM7.out, cK_app]; exact HR.out.1⟩
        case measure => simp [intOf]; omega
      | true =>
        by_cases hxg : xk = gone
        · subst hxg
          go_wp2_with fail
          go_roundw
          case rel => exact ⟨HBel.out, k + 1, by omega, by go_num, by rw [HF.out, HTl.out]; simp; exact HO.out⟩
          case measure => simp [intOf]; omega
        · have n3 : (xk.toList == gone.toList) = false := by rw [Txt.text_eq]; exact decide_eq_false hxg
          have hxd : decide (xk ≠ gone) = true := decide_eq_true hxg
          have HXD := hid hxd
          clear hxd
          have hlk : ((S6.K.take k).filter (keepF true gone)).length ≤ 1000000 := Nat.le_trans (List.length_filter_le _ _) (by rw [List.length_take]; omega)
          generalize hm7 : ((S6.K.take k).filter (keepF true gone)).length = m7 at *
          have HM7 := hid hm7
          have hsw := HBel.out.size
          obtain ⟨v9, w9, hrun9, hown9, hwr9, hat9, hne9⟩ := push_gen tyW wr w6.heap.size (.slice a7 m7 c7) m7 _ [.string xk, .pointer (some ⟨xp, 0, none⟩)] HO.out rfl (by intro y hy; simp at hy; rcases hy with rfl | rfl <;> rfl) (by unfold maxLen; omega) (by omega) hsw
          have hb9 : Below w6.heap.size w6 w9 := HBel.out.trans ⟨hwr9.os, hwr9.tape, hwr9.output, hwr9.size, fun j hj => hwr9.block j (Nat.lt_of_lt_of_le hj hsw) (fun e => by have := (HO.out.lt j e).1; omega)⟩
          obtain ⟨va9, vc9, rfl⟩ := owns_shape hown9
          have hrun9 : (app #[79, 79] 79 #[.slice a7 m7 c7, .slice (some ⟨wr.heap.size, 0, none⟩) 1 1]).run Tryz.prog (wr.alloc (.cells #[.string xk, .pointer (some ⟨xp, 0, none⟩)] 88)) = .ok (.slice va9 (m7 + 1) vc9) w9 := hrun9
          have HR := hid (And.intro hown9 hb9)
          clear hown9 hwr9 hat9 hne9 hb9 hm7
          go_wp2_with fail
          go_roundw
          case rel => exact ⟨HR.out.2, k + 1, by omega, by go_num, by rw [HF.out, HTl.out]; simp only [Bool.not_false, Bool.not_true, Bool.false_or, Bool.true_or, HXD.out, if_true, List.length_append, HM7.out, cK_app]; exact HR.out.1⟩
          case measure => simp [intOf]; omega
    · obtain rfl : k = m := by omega
      have hkp : S6.K.take k = S6.K := by rw [← HM.out, List.take_length]
      obtain ⟨K', hK'⟩ : ∃ K', (S6.K.take k).filter (keepF bb gone) = K' := ⟨_, rfl⟩
      have hK'2 : K' = S6.K.filter (keepF bb gone) := by rw [← hK', hkp]
      have hK'l : K'.length ≤ d := by rw [hK'2]; exact Nat.le_trans (List.length_filter_le _ _) (by rw [HM.out]; exact hmd)
      rw [hK'] at HO ⊢
      have HK' := hid hK'2
      clear hK' hkp hK'2 ho hbel
      obtain ⟨m7, hm7⟩ : ∃ m7, K'.length = m7 := ⟨_, rfl⟩
      rw [hm7] at HO hK'l ⊢
      have HM7 := hid hm7
      have hsw := HBel.out.size
      obtain ⟨p, hp⟩ : ∃ p, w3.heap.size = p := ⟨_, rfl⟩
      rw [hp] at HI6 HO6 ⊢
      obtain ⟨v9, w9, hrun9, hown9, hwr9, hat9, hne9⟩ := push_gen tyW wr w6.heap.size (.slice a7 m7 c7) m7 _ [.string s, .pointer (some ⟨p, 0, none⟩)] HO.out rfl (by intro y hy; simp at hy; rcases hy with rfl | rfl <;> rfl) (by unfold maxLen; omega) (by omega) hsw
      have hb9 : Below w6.heap.size w6 w9 := HBel.out.trans ⟨hwr9.os, hwr9.tape, hwr9.output, hwr9.size, fun j hj => hwr9.block j (Nat.lt_of_lt_of_le hj hsw) (fun e => by have := (HO.out.lt j e).1; omega)⟩
      obtain ⟨va9, vc9, rfl⟩ := owns_shape hown9
      have hrun9 : (app #[79, 79] 79 #[.slice a7 m7 c7, .slice (some ⟨wr.heap.size, 0, none⟩) 1 1]).run Tryz.prog (wr.alloc (.cells #[.string s, .pointer (some ⟨p, 0, none⟩)] 88)) = .ok (.slice va9 (m7 + 1) vc9) w9 := hrun9
      have H7 := hid (H6.out.extend hb9 .wn (by simp))
      have hot : ∀ g, (Value.slice va9 (m7 + 1) vc9).ownBlock = some g → ext own6 w6.heap.size .wn g = .wn := fun g e => ext_ge (hown9.lt g e).1
      have hp6 := HI6.out.lt
      have hop : ext own6 w6.heap.size .wn p = .win s ∧ ∀ g, v5.ownBlock = some g → ext own6 w6.heap.size .wn g = .win s := ⟨by rw [ext_lt hp6, HO6.out.1], fun g e => by rw [ext_lt (HI6.out.row.lt g e).2, HO6.out.2 g e]⟩
      obtain ⟨own7, hown7⟩ : ∃ own7, ext own6 w6.heap.size .wn = own7 := ⟨_, rfl⟩
      rw [hown7] at H7 hot hop
      have hI9 : IsRw w9 p (p + 2) (10 * C.q) 10 t v5 (noteR ((WinE.begN C.q t : Nat) : Int) (passC u) []) := HI6.out.keep fun k hk => by
        rcases hk with rfl | hk
        · exact hb9.block _ hp6
        · exact hb9.block _ (HI6.out.row.lt k hk).2
      obtain ⟨L7, hL7⟩ : ∃ L7, noteR ((WinE.begN C.q t : Nat) : Int) (passC u) [] = L7 := ⟨_, rfl⟩
      have hL7l : L7.length ≤ 1 := by rw [← hL7]; exact noteR_len _ _ _
      have hL7f : ∀ x ∈ L7, x.c.Fine := by rw [← hL7]; exact noteR_fine (pass_right u0 u1).1 (fun x hx => by cases hx)
      rw [hL7] at hI9
      have hno : ∀ y ∈ K', y.k ≠ s := fun y hy e => win_none HX0.out (by
        rw [HK'.out, HS6.out.2.2.1] at hy
        rw [← e]; exact List.mem_map.2 ⟨y, (List.mem_filter.1 hy).1, rfl⟩)
      have H8 := H7.out.rowsTo (K' := K') (x := ⟨s, p, v5, t, L7⟩) (rv' := .slice va9 (m7 + 1) vc9) (by rw [HK'.out]; exact List.filter_sublist) (by
        rw [cK_app, List.length_append, HM7.out]
        exact owns_base hown9 (Nat.zero_le _)) hot ⟨⟨hI9.blk, owns_base hI9.row (Nat.zero_le _), hI9.off, hI9.nil⟩, Nat.le_of_eq HS6.out.1.symm, (by show L7.length ≤ _; omega), hL7f⟩ hop hno (by rw [List.length_append, HM7.out]; show m7 + 1 ≤ _; omega)
      obtain ⟨w10, hw10⟩ : ∃ w10, w9.setCell ⟨C.h, 6, none⟩ (.slice va9 (m7 + 1) vc9) = w10 := ⟨_, rfl⟩
      rw [hw10] at H8
      obtain ⟨-, -, -, -, -, -, c69, -, -, cf9⟩ := H7.out.mem.cells
      have f69 := cf9 6
      obtain ⟨va8, vc8, hrv8⟩ := owns_shape H7.out.mem.rows
      obtain ⟨S8, hS8⟩ : ∃ S8, ({ S6 with K := K' ++ [⟨s, p, v5, t, L7⟩], rv := .slice va9 (m7 + 1) vc9 } : RS) = S8 := ⟨_, rfl⟩
      rw [hS8] at H8
      have g0 : S8.noted = t := by rw [← hS8]; exact HS6.out.1
      have g1 : S8.ps = ps' ++ [(s, 0)] := by rw [← hS8]; exact HS6.out.2.1
      have g2 : S8.K = S.K.filter (keepF bb gone) ++ [⟨s, p, v5, t, L7⟩] := by rw [← hS8, ← HS6.out.2.2.1, ← HK'.out]
      have g3 : S8.rs = S.rs := by rw [← hS8]; exact HS6.out.2.2.2
      have HA := hid H8
      have HSA2 := hid (show (SA.ps = S.ps ∧ SA.K = S.K) from ⟨by rw [← hSA], by rw [← hSA]⟩)
      have hcs := HCase.out
      rw [HSA2.out.1] at hcs
      have hbn := both_new (S8 := S8) (x := ⟨s, p, v5, t, L7⟩) HBo.out (win_none HX0.out) hcs rfl g1 g2
      have Hpl := hid (show placeF s S8.ps = some ps'.length by
        rw [g1, placeF_app hbn.2]
        simp [placeF])
      have Hpp := hid (show S8.ps[ps'.length]? = some (s, 0) by rw [g1]; simp)
      have HNt := hid g0
      have HX := hid (show (⟨s, p, v5, t, L7⟩ : RW) ∈ S8.K ∧ L7.length + 1 ≤ d + 2 from ⟨by rw [g2]; exact List.mem_append_right _ (List.mem_singleton.2 rfl), by omega⟩)
      have HRs := hid (show S8.rs.length + 1 ≤ d + 2 from (by rw [g3]; omega))
      have HGg := hid (And.intro g1 (And.intro g2 (And.intro g3 (And.intro hbn.1 (And.intro hL7 hcs)))))
      obtain ⟨i, hi⟩ : ∃ i, ps'.length = i := ⟨_, rfl⟩
      rw [hi] at Hpl Hpp
      clear H8 hown9 hwr9 hat9 hne9 hb9 hot hop hI9 hown7 hL7 hno hS8 g0 g1 g2 g3 hbn hcs cf9 hi hL7f hL7l hrv8 hp6
      go_upto_region 20 with fail
      clear hw10 c69 f69 hrun9 c6 H7
      -- the end: it is kept, its window is x
      obtain ⟨-, -, -, -, -, c5, -, c7, -, -⟩ := HA.out.mem.cells
      unfold ptr at c5 c7
      have HG := hid (RefO.rget_yes HA.out.mem.map (s := s) (i := i) (by unfold placeI; rw [Hpl.out]) Hpp.out (Nat.le_trans HA.out.mem.pl HA.out.mem.m1) HA.out.mem.big)
      unfold ptr at HG
      go_wp2_with fail
      refine HG.out.mono ?_
      rintro e wB ⟨rfl, hpost⟩
      obtain ⟨mvB, hB⟩ := HA.out.mapTo hpost (by
        have hil : i < _ := (List.getElem?_eq_some_iff.1 Hpp.out).1
        rw [List.length_append, List.length_eraseIdx, if_pos hil]
        have := HA.out.mem.pl
        simp
        omega)
      have HB := hid hB
      clear HG hpost hB c5
      have hbC : Below wB.heap.size wB (wB.alloc (.cells #[.int .i64 n, .int .i64 0, .int .i64 0, .int .i64 0, .int .i64 0, .int .i64 0] 98)) := (Below.refl _ _).alloc (Nat.le_refl _) _
      have HC := hid (HB.out.extend hbC .it (by simp))
      have HW := hid (add_any p (10 * C.q) 10 C.q t t wB.heap.size 1 n 0 0 0 0 0 v5 0 L7 _ (HC.out.mem.wins ⟨s, p, v5, t, L7⟩ HX.out.1).1 (Nat.le_trans (HC.out.mem.wins ⟨s, p, v5, t, L7⟩ HX.out.1).2.2.1 hd) (HC.out.mem.wins ⟨s, p, v5, t, L7⟩ HX.out.1).2.2.2 (pass_right (by omega) (by omega)) (by simp) (by have : p < wB.heap.size := (HB.out.mem.wins ⟨s, p, v5, t, L7⟩ HX.out.1).1.lt; omega) (hid ⟨by go_cell, by go_cell, by go_cell, by go_cell, by go_cell, by go_cell⟩) (by decide) (div10 _) HA.out.mem.q0 (by have := HA.out.mem.q1; omega) (by have h9 := (HC.out.mem.wins ⟨s, p, v5, t, L7⟩ HX.out.1).2.1; exact Nat.le_trans h9 (Nat.le_of_eq HNt.out)) ht2)
      obtain ⟨-, -, -, -, -, -, -, c7B, -, -⟩ := HB.out.mem.cells
      unfold ptr at c7B
      go_wp2_with fail
      refine HW.out.mono ?_
      rintro e wD ⟨rfl, vD, hiD, hwD⟩
      have HD := hid (HC.out.winTo HX.out.1 hiD hwD (Nat.le_of_eq HNt.out.symm) (Nat.le_trans (noteR_len _ _ _) HX.out.2) (noteR_fine (pass_right (by omega) (by omega)).1 (HC.out.mem.wins ⟨s, p, v5, t, L7⟩ HX.out.1).2.2.2))
      clear HW hiD hwD hbC c7B
      have hbE : Below wD.heap.size wD (wD.alloc (.cells #[.int .i64 n] 3)) := (Below.refl _ _).alloc (Nat.le_refl _) _
      have HE := hid (HD.out.extend hbE .it (by simp))
      obtain ⟨-, -, -, -, -, -, -, c7D, -, -⟩ := HD.out.mem.cells
      unfold ptr at c7D
      have HK := hid (SruC.radd_yes HE.out.mem.sk (Nat.zero_le _) t (by have := HE.out.mem.skt; exact Nat.le_trans this (Nat.le_of_eq HNt.out)) ht2 s hs (some ⟨wD.heap.size, 0, none⟩) 1 1 (fun _ => n) (Nat.le_trans HRs.out (by omega)) (by
        intro _
        refine ⟨wD.heap.size, 0, rfl, by simp, fun j hj => ?_⟩
        obtain rfl : j = 0 := by omega
        exact HotD.cell_of (heap_alloc_new _ _) 0 _ rfl) (by
        unfold SkB.goodC SkB.badC
        refine decide_eq_true fun j _ => decide_eq_false (show ¬ (((n : Nat) : Int) < 0 ∨ 1099511627776 < ((n : Nat) : Int)) from ?_)
        omega) (by
        rintro g o he -
        cases he
        exact ⟨by have := HD.out.mem.slt; omega, fun e => by have := (HD.out.mem.sk.own.lt _ e).2; omega⟩))
      go_wp2_with fail
      refine HK.out.mono ?_
      rintro e wF ⟨rfl, svF, hiF, hnF, hwF⟩
      have HF := hid (HE.out.skTo hiF hnF hwF (Nat.le_of_eq HNt.out.symm) (by have := HRs.out; rw [List.length_append, SruC.newR_len]; exact this))
      clear HK hiF hnF hwF hbE c7D
      go_wp2_with fail
      go_ret2
      have hT := tail_of (t := t) (n := n) (v := vD) (sv := svF) (mv := mvB) (L' := noteR ((WinE.begN C.q t : Nat) : Int) (passC n) L7) HGg.out.2.2.2.1 HX.out.1 rfl Hpl.out Hpp.out rfl
      refine ⟨rfl, _, _, HF.out, ?_⟩
      exact took_new (x := ⟨s, p, v5, t, L7⟩) HBo.out (win_none HX0.out) HGg.out.2.2.2.2.2 rfl (by rw [HUu.out]; exact HGg.out.2.2.2.2.1.symm) HNt.out HGg.out.1 HGg.out.2.1 HGg.out.2.2.1 hT

end Go.Proofs.YtbihelpnojjacaaGreat.RhJ

namespace Go.Proofs.YtbihelpnojjacaaGreat.RhK
open Go.ChangeShapes Go.WideShapes Go.ChangeAt Go.RowKit Base Wri LruA HotA HotJ RefL RefM RwR RwS RwD RwF RwG RwE RhA RhB RhC RhD RhF RhG RhH RhI RhJ
open HotD (Step)
set_option linter.unusedVariables false
variable {w0 w w' : World} {own : Nat → Tg} {C : RC} {d : Nat} {S : RS}

set_option maxHeartbeats 1000000 in
theorem take_err (h t n : Nat) (at_ count r : Int) (s : ByteArray) (w : World) (h0 : (r != 0) = true)
    (HLk : Hid (Calls Tryz.prog 38 #[.pointer (some ⟨h, 0, none⟩), .int .i64 at_, .string s, .int .i64 count] w fun e w' => e = .returned (.tuple #[.bool false, .int .i64 r]) ∧ Below w.heap.size w w')) :
    Calls Tryz.prog 23 #[.pointer (some ⟨h, 0, none⟩), .int .i64 at_, .string s, .int .i64 count] w fun e w' => e = .returned (.tuple #[.bool false, .int .i64 r]) ∧ Below w.heap.size w w' := by
  go_enter Tryz.func23, Tryz.ntmps23
  go_wp2_with fail
  refine HLk.out.mono ?_
  rintro e w1 ⟨rfl, hb1⟩
  have HB := hid hb1
  clear hb1
  go_wp2_with fail
  go_ret2
  exact ⟨rfl, HB.out⟩

set_option maxHeartbeats 1000000 in
theorem take_not (h : RMem w0 w own C d S) (t : Nat) (n : Int) (s : ByteArray) (ht : S.noted ≤ t) (ht2 : t ≤ 1152921504606846976)
    (HLk : Hid (Calls Tryz.prog 38 #[.pointer (some ⟨C.h, 0, none⟩), .int .i64 t, .string s, .int .i64 n] w fun e w' => e = .returned (.tuple #[.bool false, .int .i64 0]) ∧ Below w.heap.size w w')) :
    Calls Tryz.prog 23 #[.pointer (some ⟨C.h, 0, none⟩), .int .i64 t, .string s, .int .i64 n] w fun e w' => e = .returned (.tuple #[.bool false, .int .i64 0]) ∧ On w0 w own C d w' own { S with noted := t } := by
  have H0 := hid (show On w0 w own C d w own S from ⟨h, Step.refl _ _⟩)
  clear h
  go_enter Tryz.func23, Tryz.ntmps23
  go_wp2_with fail
  refine HLk.out.mono ?_
  rintro e w1 ⟨rfl, hb1⟩
  have H1 := hid (H0.out.below hb1)
  clear HLk hb1
  obtain ⟨-, -, -, -, -, -, -, -, c8, cf⟩ := H1.out.mem.cells
  have f8 := cf 8
  have H2 := hid (H1.out.noted ht ht2)
  clear cf
  go_wp2_with fail
  go_ret2
  exact ⟨rfl, H2.out⟩

/-- what Take leaves -/
def RTake (w0 w : World) (own : Nat → Tg) (C : RC) (d : Nat) (S : RS) (at_ : Int) (s : ByteArray) (count : Int) (w' : World) : Prop :=
  ∃ own' S', On w0 w own C (d + 2) w' own' S' ∧ Both S' ∧
    ((refH S.noted at_ s count ≠ 0 ∧ S' = S) ∨ (refH S.noted at_ s count = 0 ∧ letR C S at_.toNat s count = false ∧ S' = { S with noted := at_.toNat }) ∨
     (refH S.noted at_ s count = 0 ∧ letR C S at_.toNat s count = true ∧ TookR C S at_.toNat s count.toNat S'))

theorem ref_ok {noted : Nat} {at_ count : Int} {s : ByteArray} (hr : refH noted at_ s count = 0) : 0 ≤ at_ ∧ at_ ≤ 1152921504606846976 ∧ (noted : Int) ≤ at_ ∧ 1 ≤ count ∧ count ≤ 1099511627776 := by
  unfold refH at hr
  split at hr
  · omega
  · split at hr
    · omega
    · split at hr <;> omega

theorem rTake_any (h : RMem w0 w own C d S) (hd : d + 2 ≤ 1000000) (hg : RGood C) (hb : Both S) (hm1 : 1 ≤ C.most) (at_ count : Int) (s : ByteArray) (hs : s.size ≤ maxLen) :
    Calls Tryz.prog 23 #[.pointer (some ⟨C.h, 0, none⟩), .int .i64 at_, .string s, .int .i64 count] w fun e w' => e = .returned (.tuple #[.bool (decide (refH S.noted at_ s count = 0) && letR C S at_.toNat s count), .int .i64 (refH S.noted at_ s count)]) ∧ RTake w0 w own C d S at_ s count w' := by
  have HL := rLook_any h (by omega) hg at_ count s hs
  by_cases h0 : refH S.noted at_ s count = 0
  · obtain ⟨t1, t2, t3, t4, t5⟩ := ref_ok h0
    rw [decide_eq_true h0, Bool.true_and] at HL ⊢
    have h0' := h0
    obtain ⟨t, rfl⟩ : ∃ t : Nat, at_ = t := ⟨at_.toNat, by omega⟩
    obtain ⟨n, rfl⟩ : ∃ n : Nat, count = n := ⟨count.toNat, by omega⟩
    rw [h0] at HL ⊢
    rw [Int.toNat_natCast] at HL ⊢
    cases hl : letR C S t s n with
    | false =>
      rw [hl] at HL
      refine (take_not h t n s (by omega) (by omega) (hid HL)).mono ?_
      rintro e w' ⟨rfl, h1⟩
      refine ⟨rfl, own, _, ⟨h1.mem.more (by omega), h1.step⟩, ⟨hb.same, hb.nodup, hb.zero⟩, .inr (.inl ⟨h0, by rw [Int.toNat_natCast]; exact hl, by rw [Int.toNat_natCast]⟩)⟩
    | true =>
      rw [hl] at HL
      have fin : ∀ e w', (e = Ending.returned (.tuple #[.bool true, .int .i64 0]) ∧ ∃ own' S', On w0 w own C (d + 2) w' own' S' ∧ TookR C S t s n S') → e = Ending.returned (.tuple #[.bool true, .int .i64 0]) ∧ RTake w0 w own C d S t s n w' := by
        rintro e w' ⟨rfl, own', S', h1, h2⟩
        exact ⟨rfl, own', S', h1, h2.both, .inr (.inr ⟨h0, by rw [Int.toNat_natCast]; exact hl, by rw [Int.toNat_natCast, Int.toNat_natCast]; exact h2⟩)⟩
      cases hx : winR S.K s with
      | some x => exact (take_there h hd hb t n s hs (by omega) (by omega) (by omega) (by omega) hx (hid HL)).mono fin
      | none => exact (take_new h hd hb hm1 t n s hs (by omega) (by omega) (by omega) (by omega) hx (hid HL)).mono fin
  · rw [decide_eq_false h0, Bool.false_and] at HL ⊢
    refine (take_err C.h 0 0 at_ count _ s w (by simpa using h0) (hid HL)).mono ?_
    rintro e w' ⟨rfl, h1⟩
    exact ⟨rfl, own, S, ⟨(h.below h1).more (by omega), Step.ofBelow h1 own⟩, hb, .inl ⟨h0, rfl⟩⟩

set_option maxHeartbeats 1000000 in
theorem rKept_any (h : RMem w0 w own C d S) :
    Calls Tryz.prog 17 #[.pointer (some ⟨C.h, 0, none⟩)] w fun e w' => (∃ x, e = .returned x ∧ RefP.OwnS w.heap.size w' x (S.ps.map Prod.fst)) ∧ Below w.heap.size w w' := by
  obtain ⟨-, -, -, -, -, c5, -⟩ := h.cells
  have HK := hid (RefP.rkeys_any h.map (Nat.le_trans h.pl h.m1))
  unfold ptr at c5 HK
  clear h
  go_enter Tryz.func17, Tryz.ntmps17
  go_wp2_with fail
  refine HK.out.mono ?_
  rintro e w1 ⟨⟨x, rfl, ho⟩, hb⟩
  have HO := hid ho
  have HB := hid hb
  clear ho hb HK
  go_wp2_with fail
  go_ret
  exact ⟨⟨x, rfl, HO.out⟩, HB.out⟩

end Go.Proofs.YtbihelpnojjacaaGreat.RhK
