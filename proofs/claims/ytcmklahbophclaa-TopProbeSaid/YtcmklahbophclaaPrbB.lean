/- Paced calls and a breaker: the walk of TopProbe. -/
import Derived.Test.YtcmklahbophclaaBreK
import Derived.Test.YtcmklahbophclaaPacM
import Derived.Deep.DeepCutAuto
import Derived.OpenShut
namespace Go.Proofs.Ytcmklahbophclaa.PrbA
set_option linter.unusedVariables false
open Go.ChangeShapes Go.WideShapes Go.ChangeAt Go.RowKit Base NumM NumA NumE WrmA WinE WinM BreP BreA BreZ BreJ BreK BreY PacP

/-- a pace at pp and a breaker at p, apart, both newer than w0 -/
def Both (w0 w : World) (pp p : Nat) (m : Pc) (B : Bk) : Prop :=
  ∃ H, PacM.At w pp m ∧ Iv w p H B ∧ ¬ H pp ∧ w0.heap.size ≤ pp ∧ (∀ k, H k → w0.heap.size ≤ k) ∧ Below w0.heap.size w0 w

theorem Both.bel {w0 w : World} {pp p : Nat} {m : Pc} {B : Bk} (h : Both w0 w pp p m B) : Below w0.heap.size w0 w := by obtain ⟨H, -, -, -, -, -, h⟩ := h; exact h

theorem lets_of {R : Nat → Prop} {w w' : World} (h : Wri.Wr R w w') : Lets R w w' := ⟨h.os, h.tape, h.output, h.size, h.block⟩

theorem both_below {w0 w w' : World} {pp p : Nat} {m : Pc} {B : Bk} (h : Both w0 w pp p m B) (hb : Below w.heap.size w w') : Both w0 w' pp p m B := by
  obtain ⟨H, h1, h2, h3, h4, h5, h6⟩ := h
  exact ⟨H, h1.below hb h1.lt, iv_keep (R := fun _ => False) h2 (Lets.ofBelow hb) (fun _ _ h => h), h3, h4, h5, h6.trans (hb.mono h6.size)⟩

theorem both_go {w0 w : World} {pp p : Nat} {m : Pc} {B : Bk} (h : Both w0 w pp p m B) (ho : m.Ok) (t n : Int) :
    Calls Try.prog 28 #[PacM.ptr pp, .int .i64 t, .int .i64 n] w fun e w' => e = .returned (.tuple #[.int .i64 (wA m t n m.count), .bool (gA m t n m.count), .int .i64 (refW m t n m.count)]) ∧ Both w0 w' pp p (stepA m t n m.count) B := by
  obtain ⟨H, h1, h2, h3, h4, h5, h6⟩ := h
  refine (PacM.Go_any pp m ho t n w h1).mono ?_
  rintro e w' ⟨rfl, ha, hw⟩
  have hl := lets_of hw
  exact ⟨rfl, H, ha, iv_keep h2 hl (fun k hk e => h3 (e ▸ hk)), h3, h4, h5, h6.trans (hl.below _ h6.size (fun k e => by subst e; exact h4))⟩

theorem both_moved {w0 w w' : World} {pp p : Nat} {m : Pc} {B' : Bk} {H : Nat → Prop} (h1 : PacM.At w pp m) (h3 : ¬ H pp) (h4 : w0.heap.size ≤ pp) (h5 : ∀ k, H k → w0.heap.size ≤ k) (h6 : Below w0.heap.size w0 w) (hm : Moved Iv w w' p H B') : Both w0 w' pp p m B' := by
  obtain ⟨H', a, b, c⟩ := hm
  have hs := h1.lt
  exact ⟨H', (c.block pp hs h3).trans h1, a, fun e => (b pp e).elim h3 (fun h => by omega), h4, fun k hk => (b k hk).elim (h5 k) (fun h => Nat.le_trans h6.size h), h6.trans (c.below _ h6.size h5)⟩

theorem both_enter {w0 w : World} {pp p : Nat} {m : Pc} {B : Bk} (h : Both w0 w pp p m B) (t : Int) (x y : Bool) (z : Int) (B' : Bk) (hx : goesB B t = x) (hy : (goesB B t && decide (B.st = 2)) = y) (hz : refT B t 0 = z) (hB : enterB B t = B') :
    Calls Try.prog 17 #[BreA.ptr p, .int .i64 t] w fun e w' => e = .returned (.tuple #[.bool x, .bool y, .int .i64 z]) ∧ Both w0 w' pp p m B' := by
  subst hx hy hz hB
  obtain ⟨H, h1, h2, h3, h4, h5, h6⟩ := h
  exact (enter_any t h2).mono fun e w' y => ⟨y.1, both_moved h1 h3 h4 h5 h6 y.2⟩

theorem both_done {w0 w : World} {pp p : Nat} {m : Pc} {B : Bk} (h : Both w0 w pp p m B) (t rt : Int) (f pr : Bool) (z : Int) (B' : Bk) (hz : refD B t rt pr = z) (hB : doneB B t rt f pr = B') (hn : B'.n ≤ 10000000000000) :
    Calls Try.prog 18 #[BreA.ptr p, .int .i64 t, .int .i64 rt, .bool f, .bool pr] w fun e w' => e = .returned (.int .i64 z) ∧ Both w0 w' pp p m B' := by
  subst hz hB
  obtain ⟨H, h1, h2, h3, h4, h5, h6⟩ := h
  exact (done_any t rt f pr h2 hn).mono fun e w' y => ⟨y.1, both_moved h1 h3 h4 h5 h6 y.2⟩

theorem both_state {w0 w : World} {pp p : Nat} {m : Pc} {B : Bk} (h : Both w0 w pp p m B) (st : Int) (hs : ((B.st : Nat) : Int) = st) :
    Calls Try.prog 15 #[BreA.ptr p] w fun e w' => e = .returned (.int .u8 st) ∧ Both w0 w' pp p m B := by
  subst hs
  have hb := h
  obtain ⟨H, -, ⟨q, go, h1, -⟩, -⟩ := h
  exact (state_core p B.st w (h1.cell 0 _ rfl)).mono fun e w' y => ⟨y.1, both_below hb y.2⟩

def rule0 : Rule := ⟨⟨#[97]⟩, 2, 0, 0, 1, 1000000, 3000000⟩
theorem rule0_right : BreR.refR rule0 = 0 := by decide

theorem both_new {w0 w : World} {pp : Nat} {m : Pc} (h : PacM.At w pp m) (h4 : w0.heap.size ≤ pp) (hb : Below w0.heap.size w0 w) :
    Calls Try.prog 10 #[.agg #[.string ⟨#[97]⟩, .int .u8 2, .int .i64 0, .int .i64 0, .int .i64 1, .int .i64 1000000, .int .i64 3000000]] w fun e w' => ∃ p, e = .returned (.tuple #[BreA.ptr p, .int .i64 0]) ∧ Both w0 w' pp p m (fresh rule0) := by
  refine (new_any rule0 w (by show 1 ≤ maxLen; unfold maxLen; omega)).mono ?_
  rintro e w' (⟨p, H, rfl, -, -, h1, h2, h3⟩ | ⟨h1, -⟩)
  · have hlt := h.lt
    exact ⟨p, rfl, H, h.below h3 hlt, h1, fun e => by have := h2 pp e; omega, h4, fun k hk => Nat.le_trans hb.size (h2 k hk), hb.trans (h3.mono hb.size)⟩
  · exact absurd rule0_right h1

/-- the first end trips: whatever the time -/
theorem first_trips (l t : Nat) (hl : l ≤ t) (ht : t ≤ 1152921504606846976) : refD { fresh rule0 with last := l } t 5 false = 0 ∧ ∃ B', doneB { fresh rule0 with last := l } t 5 true false = B' ∧ B'.st = 2 ∧ B'.til = t + 3000000 ∧ B'.last = t ∧ B'.n = 1 := by
  have hT : refT { fresh rule0 with last := l } t 5 = 0 := by
    unfold refT
    rw [inT_iff.2 ⟨by omega, by omega⟩, show inT 5 = true by decide]
    simp
    omega
  have hD : refD { fresh rule0 with last := l } t 5 false = 0 := by unfold refD; rw [if_pos hT, if_neg (by simp)]
  refine ⟨hD, _, rfl, ?_⟩
  have hst : ({ fresh rule0 with last := l } : Bk).st = 1 := rfl
  have hb : badB { fresh rule0 with last := l } 5 true = true := rfl
  have ho : overB rule0 (winS (winA (freshW rule0) t true) t) = true := by
    have e1 : winA (freshW rule0) t true = ⟨1000000, 1, (t : Nat), [⟨(begN 1000000 t : Nat), WinM.joinM ⟨0, 0, 0, 0, 0, 0⟩ ⟨0, 0, 1, 1, 0, 0⟩⟩]⟩ := by
      unfold winA WinH.addM
      simp [freshW, rule0, WinD.stays, WinH.noteM]
    rw [e1]
    unfold winS WinD.stays WinK.sumM
    have e2 : (decide (((begN 1000000 t : Nat) : Int) < ((begN 1000000 t : Nat) : Int) - ((1000000 : Nat) : Int) + ((1000000 : Nat) : Int))) = false := decide_eq_false (by omega)
    simp only [Int.toNat_natCast, List.filter_cons, e2, List.filter_nil, Bool.not_false, if_true, List.foldl_cons, List.foldl_nil]
    decide
  have e0 : doneB { fresh rule0 with last := l } t 5 true false = tripB { fresh rule0 with last := t, n := 1, win := winA (freshW rule0) t true } t := by
    unfold doneB
    rw [if_pos hD, if_neg (by decide), if_pos hst, hb]
    unfold countB
    rw [if_pos (by exact ho)]
    simp only [Int.toNat_natCast]
    rfl
  rw [e0]
  refine ⟨by simp only [tripB], ?_, by simp only [tripB], by simp only [tripB]⟩
  have e3 : BreP.plusM (t : Nat) 3000000 = t + 3000000 := by unfold BreP.plusM; omega
  simp only [tripB]
  exact e3

theorem go_facts {m : Pc} (ho : m.Ok) (t : Nat) (h1 : t ≤ 1152921504606846976) (h2 : m.noted ≤ t) (hq : m.queue = 1000000) :
    ∃ (z : Nat) (g : Bool) (m' : Pc), wA m t 1 m.count = z ∧ gA m t 1 m.count = g ∧ refW m t 1 m.count = 0 ∧ stepA m t 1 m.count = m' ∧ z ≤ 1000000 ∧ m'.Ok ∧ m'.queue = 1000000 ∧ m'.noted = t := by
  have hz : refW m t 1 m.count = 0 := by
    unfold refW
    rw [inW_iff.2 ⟨by omega, by omega⟩, tokB_iff.2 ⟨by omega, by omega⟩, tokB_iff.2 ⟨by have := ho.c1; omega, by have := ho.c2; omega⟩]
    simp
    omega
  refine ⟨waitN m t 1 m.count, _, _, ?_, rfl, hz, rfl, ?_, stepA_ok ho _ _ _, ?_, ?_⟩
  · unfold wA
    rw [if_pos hz]
    simp
  · have := waitN_le m t 1 m.count
    omega
  · unfold stepA
    rw [if_pos hz]
    exact hq
  · unfold stepA
    rw [if_pos hz]
    simp

def Phase (B : Bk) (u pr : Int) : Prop := (u = -1 ∧ pr = 0 ∧ B = fresh rule0) ∨ ∃ un : Nat, u = un ∧ (pr = 0 ∧ B.st = 2 ∧ B.til = un ∨ pr = 1 ∧ B.st = 3)

theorem ref_ok {B : Bk} (t : Nat) (h : B.last ≤ t) (ht : t ≤ 1152921504606846976) : refT B t 0 = 0 := by
  unfold refT
  rw [inT_iff.2 ⟨by omega, by omega⟩, show inT 0 = true by decide]
  simp
  omega

theorem enter_any' {B : Bk} (t : Nat) (h : B.last ≤ t) (ht : t ≤ 1152921504606846976) (b : Bool) (hp : passB B t = b) :
    goesB B t = b ∧ refT B t 0 = 0 ∧ enterB B t = (if b = true ∧ B.st = 2 then { B with last := t, st := 3 } else { B with last := t }) := by
  have hz := ref_ok t h ht
  refine ⟨by unfold BreP.goesB; rw [hz, hp]; simp, hz, ?_⟩
  unfold enterB
  rw [if_pos hz, hp]
  simp

set_option maxHeartbeats 1000000 in
theorem which_core (n all m r : Int) (w : World) (hz : ¬ all = 0) (hm : Int.tmod n all = m) (hw : wrap64 m = m) (hr : decide (m < 0) = true ∧ wrap64 (m + all) = r ∨ decide (m < 0) = false ∧ r = m) :
    Calls Try.prog 27 #[.int .i64 n, .int .i64 all] w fun e w' => e = .returned (.int .i64 r) ∧ w = w' := by
  go_enter Try.func27, Try.ntmps27
  rcases hr with ⟨h1, h2⟩ | ⟨h1, rfl⟩
  · go_wp2_with fail
    go_ret
    exact ⟨by rw [← h2]; rfl, rfl⟩
  · go_wp2_with fail
    go_ret
    exact ⟨rfl, rfl⟩

theorem which_any (n : Int) (all : Nat) (w : World) (h0 : 0 < all) (h1 : all ≤ 10000000) :
    Calls Try.prog 27 #[.int .i64 n, .int .i64 all] w fun e w' => (∃ r : Nat, r < all ∧ e = .returned (.int .i64 r)) ∧ w = w' := by
  have a1 : Int.tmod n all < all := Int.tmod_lt_of_pos n (by omega)
  have a2 : -(all : Int) < Int.tmod n all := by
    have := Int.tmod_lt_of_pos (-n) (show (0 : Int) < all by omega)
    rw [Int.neg_tmod] at this
    omega
  by_cases hm : Int.tmod n all < 0
  · refine (which_core n all _ (Int.tmod n all + all) w (by omega) rfl (by unfold wrap64; omega) (.inl ⟨decide_eq_true hm, by unfold wrap64; omega⟩)).mono ?_
    rintro e w' ⟨rfl, rfl⟩
    exact ⟨⟨(Int.tmod n all + all).toNat, by omega, by rw [show (((Int.tmod n all + all).toNat : Nat) : Int) = Int.tmod n all + all by omega]⟩, rfl⟩
  · refine (which_core n all _ (Int.tmod n all) w (by omega) rfl (by unfold wrap64; omega) (.inr ⟨decide_eq_false hm, rfl⟩)).mono ?_
    rintro e w' ⟨rfl, rfl⟩
    exact ⟨⟨(Int.tmod n all).toNat, by omega, by rw [show (((Int.tmod n all).toNat : Nat) : Int) = Int.tmod n all by omega]⟩, rfl⟩

def IntsAt (w : World) (a : Option Addr) (n : Nat) (f : Nat → Int) : Prop := 0 < n → ∃ g o, a = some ⟨g, o, none⟩ ∧ g < w.heap.size ∧ ∀ i, i < n → w.cell? ⟨g, o + i, none⟩ = some (.int .i64 (f i))

end Go.Proofs.Ytcmklahbophclaa.PrbA
namespace Go.Proofs.Ytcmklahbophclaa.PrbB
set_option linter.unusedVariables false
open Go.ChangeShapes Go.WideShapes Go.ChangeAt Go.RowKit Base NumM NumA NumE WrmA WinE WinM BreP BreA BreZ BreJ BreK BreY PacP PrbA

def Rel (w0 : World) (pp p n : Nat) (a_ u_ q_ i : Value) (wr : World) : Prop :=
  ∃ (k t : Nat) (m : Pc) (B : Bk) (u pr : Int), a_ = .int .i64 t ∧ u_ = .int .i64 u ∧ q_ = .int .i64 pr ∧ i = .int .i64 k ∧ k ≤ n ∧ k ≤ 100 ∧ t ≤ 3000000 * k ∧ m.Ok ∧ m.queue = 1000000 ∧ m.noted ≤ t ∧ B.last ≤ t ∧ Both w0 wr pp p m B ∧ Phase B u pr

theorem phase_bb {B : Bk} {u pr : Int} (h : Phase B u pr) : ∃ bb : Bool, decide (u < 0) = bb ∧ (((B.st : Nat) : Int) == 1) = bb := by
  rcases h with ⟨rfl, rfl, rfl⟩ | ⟨un, rfl, ⟨rfl, hs, hti⟩ | ⟨rfl, hs⟩⟩
  · exact ⟨true, by decide, rfl⟩
  · exact ⟨false, decide_eq_false (by omega), by rw [hs]; rfl⟩
  · exact ⟨false, decide_eq_false (by omega), by rw [hs]; rfl⟩

theorem Rel.mk {w0 wr : World} {pp p n k t : Nat} {m : Pc} {B : Bk} {u pr at_ : Int} (k2 : Int) (e0 : at_ = t) (e1 : k2 = ((k + 1 : Nat) : Int)) (h1 : k + 1 ≤ n) (h2 : k + 1 ≤ 100) (h3 : t ≤ 3000000 * (k + 1)) (h4 : m.Ok) (h5 : m.queue = 1000000) (h6 : m.noted ≤ t) (h7 : B.last ≤ t) (h8 : Both w0 wr pp p m B) (h9 : Phase B u pr) :
    Rel w0 pp p n (.int .i64 at_) (.int .i64 u) (.int .i64 pr) (.int .i64 k2) wr := by
  subst e0 e1
  exact ⟨k + 1, t, m, B, u, pr, rfl, rfl, rfl, rfl, h1, h2, h3, h4, h5, h6, h7, h8, h9⟩

structure Step (k t r : Nat) (m : Pc) (B : Bk) (t1 z t2 : Nat) (g : Bool) (m' : Pc) : Prop where
  w1 : wrap64 ((t : Int) + r) = (t1 : Nat)
  a1 : wA m (t1 : Nat) 1 m.count = z
  a2 : gA m (t1 : Nat) 1 m.count = g
  a3 : refW m (t1 : Nat) 1 m.count = 0
  a4 : stepA m (t1 : Nat) 1 m.count = m'
  ok : m'.Ok
  q : m'.queue = 1000000
  no1 : m'.noted ≤ t1
  no2 : m'.noted ≤ t2
  w2 : wrap64 ((t1 : Int) + z) = (t2 : Nat)
  b1 : t1 ≤ 3000000 * (k + 1)
  b2 : t2 ≤ 3000000 * (k + 1)
  big : t2 ≤ 1152921504606846976
  l1 : B.last ≤ t1
  l2 : B.last ≤ t2
  w3 : wrap64 ((t2 : Int) + 3000000) = (t2 + 3000000 : Nat)
  wk : wrap64 ((k : Int) + 1) = (k + 1 : Nat)

theorem step_of {n k t r : Nat} {m : Pc} {B : Bk} (h : k ≤ n ∧ k ≤ 100 ∧ t ≤ 3000000 * k ∧ m.Ok ∧ m.queue = 1000000 ∧ m.noted ≤ t ∧ B.last ≤ t) (hr : r < 2000000) : ∃ t1 z t2 g m', Step k t r m B t1 z t2 g m' := by
  obtain ⟨_, h2, ht, ho, hq, hno, hla⟩ := h
  obtain ⟨z, g, m', a1, a2, a3, a4, hz, ho', hq', hn'⟩ := go_facts ho (t + r) (by omega) (by omega) hq
  exact ⟨t + r, z, t + r + z, g, m', by unfold wrap64; omega, a1, a2, a3, a4, ho', hq', by omega, by omega, by unfold wrap64; omega, by omega, by omega, by omega, by omega, by omega, by unfold wrap64; omega, by unfold wrap64; omega⟩

set_option maxRecDepth 100000 in
set_option maxHeartbeats 4000000 in
theorem core (c : Int) (a : Option Addr) (n cap : Nat) (f : Nat → Int) (w : World) (hn : n ≤ 9223372036854775807) (h : IntsAt w a n f) :
    Calls Try.prog 8 #[.int .i64 c, .slice a n cap] w fun e w' => e = .returned (.bool true) ∧ Below w.heap.size w w' := by
  have HI := hid h
  clear h
  go_enter Try.func8, Try.ntmps8
  go_wp2_with fail
  refine (which_any c 100 w (by omega) (by omega)).mono ?_
  rintro e w1 ⟨⟨c0, hc0, rfl⟩, rfl⟩
  have hc1 : wrap64 (1 + (c0 : Int)) = 1 + c0 := by unfold wrap64; omega
  go_wp2_with fail
  refine (PacM.New_any (1 + c0) 1000000 w).mono ?_
  rintro e w2 (⟨cn, qn, e1, e2, ho, rfl, ha, hb⟩ | ⟨h1, -⟩)
  rotate_left
  · exfalso
    rw [tokB_iff.2 ⟨by omega, by omega⟩] at h1
    exact absurd h1 (by decide)
  obtain rfl : qn = 1000000 := by omega
  have HN := hid (both_new (w0 := w) ha (Nat.le_refl _) hb)
  have HO := hid ho
  clear e1 e2 ho ha hb hc1
  go_wp2_with fail
  refine HN.out.mono ?_
  rintro e w3 ⟨p, rfl, hm⟩
  have HM := hid hm
  clear hm HN
  generalize hpp : w.heap.size = pp at *
  go_wp2_with fail
  go_loopw [9, 10, 11, 12] (fun a_ u_ q_ i wr => Rel w pp p n a_ u_ q_ i wr) (fun _ _ _ i _ => 100 - (intOf i).toNat)
  case atStart => exact ⟨0, 0, _, _, -1, 0, rfl, rfl, rfl, rfl, Nat.zero_le _, Nat.zero_le _, Nat.zero_le _, HO.out, rfl, Nat.zero_le _, Nat.zero_le _, HM.out, .inl ⟨rfl, rfl, rfl⟩⟩
  case round =>
    clear HM HO
    obtain ⟨k, t, m, B, u, pr, rfl, rfl, rfl, rfl, hkn, hk, ht, ho, hq, hno, hla, hB, hph⟩ := hrel
    have HF := hid (And.intro hkn (And.intro hk (And.intro ht (And.intro ho (And.intro hq (And.intro hno hla))))))
    have HM := hid hB
    have HP := hid hph
    clear ho hq hno hla hB hph
    by_cases hlt : k < n ∧ k < 100
    rotate_left
    · by_cases hk1 : k < n
      · have hki : (k : Int) < n := by omega
        have hkh : (100 : Int) ≤ k := by omega
        clear hlt hk1 hkn hk
        obtain ⟨bb, hu, hs⟩ := phase_bb HP.out
        have HS := hid (both_state HM.out _ rfl)
        clear HP HF HI
        generalize ((B.st : Nat) : Int) = sv at *
        cases bb with
        | false =>
          go_wp2_with fail
          refine HS.out.mono ?_
          rintro e w4 ⟨rfl, hm⟩
          have HE := hid hm.bel
          clear hm
          go_wp2_with fail
          go_ret
          exact ⟨rfl, HE.out⟩
        | true =>
          go_wp2_with fail
          refine HS.out.mono ?_
          rintro e w4 ⟨rfl, hm⟩
          have HE := hid hm.bel
          clear hm
          go_wp2_with fail
          go_ret
          exact ⟨rfl, HE.out⟩
      · have hki : (n : Int) ≤ k := by omega
        have hkn2 : n ≤ k := by omega
        clear hlt hk1 hkn hk
        obtain ⟨bb, hu, hs⟩ := phase_bb HP.out
        have HS := hid (both_state HM.out _ rfl)
        clear HP HF HI
        generalize ((B.st : Nat) : Int) = sv at *
        cases bb with
        | false =>
          go_wp2_with fail
          refine HS.out.mono ?_
          rintro e w4 ⟨rfl, hm⟩
          have HE := hid hm.bel
          clear hm
          go_wp2_with fail
          go_ret
          exact ⟨rfl, HE.out⟩
        | true =>
          go_wp2_with fail
          refine HS.out.mono ?_
          rintro e w4 ⟨rfl, hm⟩
          have HE := hid hm.bel
          clear hm
          go_wp2_with fail
          go_ret
          exact ⟨rfl, HE.out⟩
    obtain ⟨hk1, hk2⟩ := hlt
    have hki : (k : Int) < n := by omega
    have hki0 : (0 : Int) ≤ k := by omega
    have hkh : (k : Int) < 100 := by omega
    obtain ⟨g, o, rfl, hg, hx⟩ := HI.out (by omega)
    have HB := hid (HM.out.bel)
    have hc : wr.cell? ⟨g, o + k, none⟩ = some (.int .i64 (f k)) := (HB.out.cell (p := ⟨g, o + k, none⟩) hg).trans (hx k hk1)
    have HX := hid hx
    clear hx hkn hk
    generalize hfk : f k = fk at hc
    clear hfk
    go_wp2_with fail
    refine (which_any fk 2000000 wr (by omega) (by omega)).mono ?_
    rintro e w4 ⟨⟨r, hr, rfl⟩, rfl⟩
    obtain ⟨t1, z, t2, gb, m', hst⟩ := step_of HF.out hr
    have HG : Hid (Calls Try.prog 28 #[PacM.ptr pp, .int .i64 (t1 : Nat), .int .i64 1] wr fun e w' => e = .returned (.tuple #[.int .i64 (z : Nat), .bool gb, .int .i64 0]) ∧ Both w w' pp p m' B) := hid (by
      have := both_go HM.out HF.out.2.2.2.1 (t1 : Nat) 1
      rw [hst.a1, hst.a2, hst.a3, hst.a4] at this
      exact this)
    have HS := hid hst
    have hw1 := hst.w1
    clear hst HM hr hc
    go_wp2_with fail
    refine HG.out.mono ?_
    rintro e w5 ⟨rfl, hm⟩
    have HM := hid hm
    clear hm HG
    have hk3 := HS.out.wk
    cases gb with
    | false =>
      go_wp2_with fail
      go_roundw
      case rel => exact Rel.mk _ (by first | exact rfl | exact HS.out.w1 | exact HS.out.w2) (by first | exact hk3 | exact rfl | omega) hk1 hk2 HS.out.b1 HS.out.ok HS.out.q HS.out.no1 HS.out.l1 HM.out HP.out
      case measure => simp [intOf]; omega
    | true =>
      have hw2 := HS.out.w2
      rcases HP.out with ⟨rfl, rfl, rfl⟩ | ⟨un, rfl, ⟨rfl, hs, hti⟩ | ⟨rfl, hs⟩⟩
      · have hE := enter_any' (B := BreP.fresh rule0) t2 (Nat.zero_le _) HS.out.big true rfl
        have HE : Hid (Calls Try.prog 17 #[BreA.ptr p, .int .i64 (t2 : Nat)] w5 fun e w' => e = .returned (.tuple #[.bool true, .bool false, .int .i64 0]) ∧ Both w w' pp p m' { BreP.fresh rule0 with last := t2 }) := hid (both_enter HM.out (t2 : Int) _ _ _ _ hE.1 (by rw [hE.1]; rfl) hE.2.1 (by rw [hE.2.2, if_neg (by simp [BreP.fresh])]))
        clear hE HM
        go_wp2_with fail
        refine HE.out.mono ?_
        rintro e w6 ⟨rfl, hm⟩
        have HM6a := hid hm
        clear hm HE
        obtain ⟨hd, B', hB', b1, b2, b3, b4⟩ := first_trips t2 t2 (Nat.le_refl _) HS.out.big
        have HD := hid (both_done HM6a.out (t2 : Int) 5 true false 0 B' hd hB' (by omega))
        clear hd hB' HM6a
        have hw3 := HS.out.w3
        have HBB := hid (And.intro b1 (And.intro b2 b3))
        clear b1 b2 b3 b4
        go_wp2_with fail
        refine HD.out.mono ?_
        rintro e w7 ⟨rfl, hm⟩
        have HSt := hid (both_state hm 2 (by rw [HBB.out.1]; rfl))
        clear hm HD
        go_wp2_with fail
        refine HSt.out.mono ?_
        rintro e w8 ⟨rfl, hm⟩
        have HM6 := hid hm
        clear hm HSt
        go_wp2_with fail
        go_roundw
        case rel => exact Rel.mk _ (by first | exact rfl | exact HS.out.w1 | exact HS.out.w2) (by first | exact hk3 | exact rfl | omega) hk1 hk2 HS.out.b2 HS.out.ok HS.out.q HS.out.no2 (Nat.le_of_eq HBB.out.2.2) HM6.out (.inr ⟨t2 + 3000000, by first | rfl | exact hw3 | omega, .inl ⟨rfl, HBB.out.1, HBB.out.2.1⟩⟩)
        case measure => simp [intOf]; omega
      · have hu : decide ((un : Int) < 0) = false := decide_eq_false (by omega)
        have hu0 : (0 : Int) ≤ (un : Int) := by omega
        have HS0 := hid (And.intro hs hti)
        by_cases hle : un ≤ t2
        · have hle2 : (un : Int) ≤ (t2 : Int) := by omega
          have hE := enter_any' (B := B) t2 HS.out.l2 HS.out.big true (by unfold passB; rw [hs, hti, decide_eq_true hle2]; rfl)
          have HE : Hid (Calls Try.prog 17 #[BreA.ptr p, .int .i64 (t2 : Nat)] w5 fun e w' => e = .returned (.tuple #[.bool true, .bool true, .int .i64 0]) ∧ Both w w' pp p m' { B with last := t2, st := 3 }) := hid (both_enter HM.out (t2 : Int) _ _ _ _ hE.1 (by rw [hE.1, hs]; rfl) hE.2.1 (by rw [hE.2.2, if_pos ⟨rfl, hs⟩]))
          clear hE HM
          clear hs hti
          go_wp2_with fail
          refine HE.out.mono ?_
          rintro e w6 ⟨rfl, hm⟩
          have HM6 := hid hm
          clear hm HE
          go_wp2_with fail
          go_roundw
          case rel => exact Rel.mk _ (by first | exact rfl | exact HS.out.w1 | exact HS.out.w2) (by first | exact hk3 | exact rfl | omega) hk1 hk2 HS.out.b2 HS.out.ok HS.out.q HS.out.no2 (Nat.le_refl _) HM6.out (.inr ⟨un, rfl, .inr ⟨by first | rfl | omega, rfl⟩⟩)
          case measure => simp [intOf]; omega
        · have hle2 : decide ((un : Int) ≤ (t2 : Int)) = false := decide_eq_false (by omega)
          have hle3 : (t2 : Int) < (un : Int) := by omega
          have hE := enter_any' (B := B) t2 HS.out.l2 HS.out.big false (by unfold passB; rw [hs, hti, hle2]; rfl)
          have HE : Hid (Calls Try.prog 17 #[BreA.ptr p, .int .i64 (t2 : Nat)] w5 fun e w' => e = .returned (.tuple #[.bool false, .bool false, .int .i64 0]) ∧ Both w w' pp p m' { B with last := t2 }) := hid (both_enter HM.out (t2 : Int) _ _ _ _ hE.1 (by rw [hE.1, hs]; rfl) hE.2.1 (by rw [hE.2.2, if_neg (by simp)]))
          clear hE HM
          clear hs hti
          go_wp2_with fail
          refine HE.out.mono ?_
          rintro e w6 ⟨rfl, hm⟩
          have HM6 := hid hm
          clear hm HE
          go_wp2_with fail
          go_roundw
          case rel => exact Rel.mk _ (by first | exact rfl | exact HS.out.w1 | exact HS.out.w2) (by first | exact hk3 | exact rfl | omega) hk1 hk2 HS.out.b2 HS.out.ok HS.out.q HS.out.no2 (Nat.le_refl _) HM6.out (.inr ⟨un, rfl, .inl ⟨by first | rfl | omega, HS0.out.1, HS0.out.2⟩⟩)
          case measure => simp [intOf]; omega
      · have hu : decide ((un : Int) < 0) = false := decide_eq_false (by omega)
        have hu0 : (0 : Int) ≤ (un : Int) := by omega
        have HS0 := hid hs
        have hE := enter_any' (B := B) t2 HS.out.l2 HS.out.big false (by unfold passB; rw [hs]; rfl)
        have HE : Hid (Calls Try.prog 17 #[BreA.ptr p, .int .i64 (t2 : Nat)] w5 fun e w' => e = .returned (.tuple #[.bool false, .bool false, .int .i64 0]) ∧ Both w w' pp p m' { B with last := t2 }) := hid (both_enter HM.out (t2 : Int) _ _ _ _ hE.1 (by rw [hE.1, hs]; rfl) hE.2.1 (by rw [hE.2.2, if_neg (by simp)]))
        clear hE HM
        clear hs
        by_cases hle : un ≤ t2
        · have hle2 : (un : Int) ≤ (t2 : Int) := by omega
          go_wp2_with fail
          refine HE.out.mono ?_
          rintro e w6 ⟨rfl, hm⟩
          have HM6 := hid hm
          clear hm HE
          go_wp2_with fail
          go_roundw
          case rel => exact Rel.mk _ (by first | exact rfl | exact HS.out.w1 | exact HS.out.w2) (by first | exact hk3 | exact rfl | omega) hk1 hk2 HS.out.b2 HS.out.ok HS.out.q HS.out.no2 (Nat.le_refl _) HM6.out (.inr ⟨un, rfl, .inr ⟨by first | rfl | omega, HS0.out⟩⟩)
          case measure => simp [intOf]; omega
        · have hle3 : (t2 : Int) < (un : Int) := by omega
          go_wp2_with fail
          refine HE.out.mono ?_
          rintro e w6 ⟨rfl, hm⟩
          have HM6 := hid hm
          clear hm HE
          go_wp2_with fail
          go_roundw
          case rel => exact Rel.mk _ (by first | exact rfl | exact HS.out.w1 | exact HS.out.w2) (by first | exact hk3 | exact rfl | omega) hk1 hk2 HS.out.b2 HS.out.ok HS.out.q HS.out.no2 (Nat.le_refl _) HM6.out (.inr ⟨un, rfl, .inr ⟨by first | rfl | omega, HS0.out⟩⟩)
          case measure => simp [intOf]; omega

theorem main {H : Type} {enc : TypeId × Value → H} {W : World} {base : Nat} {spare : Nat → Bool} {held : Bool} {d1 : DataW H} {p1 : List MemPlace} (a0 : Int) (w0 : (Lit.int .i64 a0).wf = true) (a1 : Option Addr) (len1 cap1 : Nat)
    (h1 : ∃ fuel, DataW.trod enc Try.prog W base spare held fuel 69 [.slice a1 len1 cap1] = some (d1, p1)) :
    Calls Try.prog 8 #[.int .i64 a0, .slice a1 len1 cap1] W fun e w' => e = .returned (.bool true) ∧ Below W.heap.size W w' := by
  obtain ⟨k0, h1⟩ := h1
  rcases open_ints Try.underlying69 Try.underlying3 (by kernel_rfl) h1 with ⟨hv, _⟩ | ⟨a, l, c, zs, hcs, _, hl, hm, hz, hx, hcc, hw⟩
  · simp only [List.cons.injEq, Value.slice.injEq, and_true] at hv
    obtain ⟨rfl, rfl, rfl⟩ := hv
    exact core a0 none 0 0 (fun _ => 0) W (by omega) (fun h => by omega)
  · simp only [List.cons.injEq, Value.slice.injEq, and_true] at hcs
    obtain ⟨rfl, rfl, rfl⟩ := hcs
    have hzl : len1 ≤ zs.length := by rw [hz]; split <;> omega
    refine core a0 (some a) len1 cap1 (fun i => zs.getD i 0) W (by unfold maxLen at hm; omega) (fun h => ?_)
    obtain ⟨b, off, rfl, hcd⟩ := ints_at hcc (by omega)
    exact ⟨b, off, rfl, World.block_lt_of_cell? _ _ (hcc 0 (by omega)), fun i hi => hcd i (by omega)⟩

end Go.Proofs.Ytcmklahbophclaa.PrbB
