/- what is told is the caller's, and nodes that are told are copies -/
import Derived.Test.YtaaeeilfpchpnaaTreMb
import Derived.Test.YtaaeeilfpchpnaaTreMp
import Derived.Test.YtaaeeilfpchpnaaRows
import Derived.WalkKit
import Derived.ProofKit
import Derived.OpenShut
import Derived.ShutString
import Derived.ChangeOld
import Derived.Below
import Derived.SizedLaws
import Derived.ChangeShapes
import Derived.Test.YtaaeeilfpchpnaaOpn

/- TreeOwn: what is told is the caller's, and nodes that are told are copies. -/
namespace Go.Proofs.Ytaaeeilfpchpnaa.TreAi
set_option linter.unusedVariables false
open Go.ChangeShapes Go.WideShapes Go.ChangeAt Go.RowKit Go.Deep Base Wri Map Opn TreA TreB TreC TreD TreE TreF TreG TreH TreJ TreK TreL TreP TreQ TreR TreS TreT TreV TreW TreX TreY TreWa TreWb TreZ TreAa TreAb TreAc TreAd TreAe TreAf TreAg TreAh WinM WinA WinB WinC WinD WinE WinF WinG WinH WinI WinJ WinK WinN StaA StaB StaC StaD StaH StaI

/-- Pass of a copy, whatever it answers -/
theorem npass_all (S : Spots) (N : Nd) (l : Nat) (t : Int) (w : World) (h : IsNode w S N) (hk : NK N l) :
    Calls Try.prog 20 #[ptr S.n, .int .i64 t, .slice (some ⟨w.heap.size, 0, none⟩) 1 1] (w.alloc (.cells #[.int .i64 5] 3)) fun e w' => (∃ r, e = .returned (.int .i64 r)) ∧ Lets S.Has w w' := by
  have hbel : Below w.heap.size w (w.alloc (.cells #[.int .i64 5] 3)) := (Below.refl _ _).alloc (Nat.le_refl _) _
  have hi := ints_one w 5
  have hx : ∀ i : Nat, i < 1 → badC ((fun _ : Nat => (5 : Int)) i) = false := fun _ _ => by show badC 5 = false; decide
  have h2 := h.below hbel
  have L0 : Lets S.Has w (w.alloc (.cells #[.int .i64 5] 3)) := Lets.ofBelow hbel
  by_cases hr : nrefM l t (goodC (fun _ => 5) 1) = 0
  · have hg : goodC (fun _ => (5 : Int)) 1 = true := by decide
    rw [hg] at hr
    unfold nrefM isT at hr
    simp only [true_and, decide_eq_true_eq] at hr
    by_cases h1 : 0 ≤ t ∧ t ≤ 1152921504606846976
    · rw [if_pos h1] at hr
      have hb : ¬ t < l := fun h3 => by rw [if_pos h3] at hr; cases hr
      obtain ⟨k, rfl⟩ : ∃ k : Nat, t = k := ⟨t.toNat, by omega⟩
      by_cases hroom : ((1 : Nat) : Int) ≤ 4096 - N.entries
      · refine (pass_yes S N l k _ 1 1 (fun _ => 5) _ h2 hk.ok (by omega) (by omega) hi (fun _ g o e => by cases e; have := h.lt; omega) hx hroom).mono fun e w' hp => ?_
        obtain ⟨rfl, S', q1, q2, q3⟩ := hp
        exact ⟨⟨0, rfl⟩, L0.trans q3⟩
      · refine (pass_full S N l k _ 1 1 (fun _ => 5) _ h2 hk.ok (by omega) (by omega) (by decide) hi hx (by omega)).mono fun e w' hp => ?_
        obtain ⟨⟨r, _, rfl⟩, rfl⟩ := hp
        exact ⟨⟨r, rfl⟩, L0⟩
    · rw [if_neg h1] at hr; cases hr
  · refine (pass_no S N l t _ 1 1 (fun _ => 5) _ h2 hk.ok.l1 (by decide) hi hr).mono fun e w' hp => ?_
    obtain ⟨rfl, rfl⟩ := hp
    exact ⟨⟨_, rfl⟩, L0⟩

theorem _root_.Go.Proofs.Ytaaeeilfpchpnaa.TreAa.Tr.wr {w0 : World} {p : Nat} {s : St} {wr w' : World} {own : Nat → Nat} {R : Nat → Prop} (h : Tr w0 p s wr own) (hw : Wr R wr w') (hR : ∀ k, R k → own k = 0 ∧ w0.heap.size ≤ k) : Tr w0 p s w' own :=
  ⟨by obtain ⟨b, v, L, hL, hT⟩ := h.t; exact ⟨b, v, L, hL, hT.wr hw fun k hk hr => hk (hR k hr).1⟩, h.bel.trans (hw.below _ h.bel.size fun k hk => (hR k hk).2), h.low⟩
theorem row_key {w : World} {B n g cap j : Nat} {l : List Key} {x : Key} (h : KRow w B (.slice (some ⟨g, 0, none⟩) n cap) l) (hx : l[j]? = some x) : w.cell? ⟨g, j * 4, none⟩ = some (.int .u8 x.k) ∧ w.cell? ⟨g, j * 4 + 1, none⟩ = some (.string x.c) ∧ w.cell? ⟨g, j * 4 + 2, none⟩ = some (.string x.r) ∧ w.cell? ⟨g, j * 4 + 3, none⟩ = some (.string x.o) := by
  obtain ⟨h0, h1, h2, h3⟩ := cellsL_at l j x hx
  have hc : ∀ q u, (cellsL l)[q]? = some u → w.cell? ⟨g, q, none⟩ = some u := fun q u hu => by
    have := World.ownsRow.cells h (g := g) rfl q u hu
    rwa [Go.WideShapes.add_plain, Nat.zero_add] at this
  exact ⟨hc _ _ h0, hc _ _ h1, hc _ _ h2, hc _ _ h3⟩
theorem row_shape {w : World} {B n vc : Nat} {va : Option Addr} {l : List Key} (h : KRow w B (.slice va n vc) l) (hl : 0 < l.length) : ∃ g, va = some ⟨g, 0, none⟩ ∧ B ≤ g ∧ g < w.heap.size := by
  rcases h.2 with ⟨e, hz⟩ | ⟨g', cap', cur, e, hg', hgb, _⟩
  · omega
  · injection e with e1 e2 e3
    exact ⟨g', e1, hg', (Array.getElem?_eq_some_iff.1 hgb).1⟩
theorem heap2 (w : World) (A B : Obj) : ((w.alloc A).alloc B).heap[w.heap.size]? = some A ∧ ((w.alloc A).alloc B).heap[w.heap.size + 1]? = some B :=
  ⟨(heap_alloc_old _ _ (by simp)).trans (heap_alloc_new _ _), by have := heap_alloc_new (w.alloc A) B; simpa using this⟩
theorem kat_of {w : World} {b : Nat} {x : Key} (h : w.heap[b]? = some (.cells #[.int .u8 x.k, .string x.c, .string x.r, .string x.o] 30)) : KAt w (some ⟨b, 0, none⟩) 1 (fun _ => x) := fun _ => by
  refine ⟨b, 0, rfl, (Array.getElem?_eq_some_iff.1 h).1, fun i hi => ?_⟩
  obtain rfl : i = 0 := by omega
  exact ⟨cell_of h 0 _ rfl, cell_of h 1 _ rfl, cell_of h 2 _ rfl, cell_of h 3 _ rfl⟩
theorem _root_.Go.Proofs.Ytaaeeilfpchpnaa.TreAa.Tr.last {w0 : World} {p : Nat} {s : St} {wr : World} {own : Nat → Nat} (h : Tr w0 p s wr own) : wr.cell? ⟨p, 2, none⟩ = some (.int .i64 s.last) := by
  obtain ⟨b, v, L, hL, hT⟩ := h.t
  exact hT.cells.2.2.1
set_option maxHeartbeats 400000 in
theorem last_at (p : Nat) (t : Int) (w : World) (h2 : w.cell? ⟨p, 2, none⟩ = some (.int .i64 t)) : Calls Try.prog 11 #[ptr p] w fun e w' => e = .returned (.int .i64 t) ∧ w = w' := by
  go_enter Try.func11, Try.ntmps11
  go_wp2_with fail
  go_ret
  exact ⟨rfl, rfl⟩
theorem keep6 {w : World} {g o p : Nat} {v v0 v1 v2 v3 v4 v5 : Value} (h : w.cell? ⟨g, o, none⟩ = some v) (hne : g ≠ p) : ((((((w.setCell ⟨p, 0, none⟩ v0).setCell ⟨p, 1, none⟩ v1).setCell ⟨p, 2, none⟩ v2).setCell ⟨p, 3, none⟩ v3).setCell ⟨p, 4, none⟩ v4).setCell ⟨p, 5, none⟩ v5).cell? ⟨g, o, none⟩ = some v := by
  have hn : ∀ q, (⟨p, q, none⟩ : Addr) ≠ ⟨g, o, none⟩ := fun q e => hne (congrArg Addr.block e).symm
  rw [World.cell?_setCell_other _ _ _ _ (hn _), World.cell?_setCell_other _ _ _ _ (hn _), World.cell?_setCell_other _ _ _ _ (hn _), World.cell?_setCell_other _ _ _ _ (hn _), World.cell?_setCell_other _ _ _ _ (hn _), World.cell?_setCell_other _ _ _ _ (hn _)]
  exact h
theorem box_end {wA wr : World} {b : Nat} {J1 J2 J3 J4 J5 J6 n1 e1 : Int} (hz : wA.heap[b]? = some (.cells (cl zeroC) 32)) (hb : Below wr.heap.size wr wA) (hle : wr.heap.size ≤ b) :
    ∃ bx, (Value.pointer (some ⟨b, 0, none⟩)) = .pointer (some ⟨bx, 0, none⟩) ∧ Value.int .i64 n1 = .int .i64 n1 ∧ Value.int .i64 e1 = .int .i64 e1 ∧ ((((((wA.setCell ⟨b, 0, none⟩ (.int .i64 J1)).setCell ⟨b, 1, none⟩ (.int .i64 J2)).setCell ⟨b, 2, none⟩ (.int .i64 J3)).setCell ⟨b, 3, none⟩ (.int .i64 J4)).setCell ⟨b, 4, none⟩ (.int .i64 J5)).setCell ⟨b, 5, none⟩ (.int .i64 J6)).heap[bx]? = some (.cells (cl ⟨J1, J2, J3, J4, J5, J6⟩) 32) ∧ Below wr.heap.size wr ((((((wA.setCell ⟨b, 0, none⟩ (.int .i64 J1)).setCell ⟨b, 1, none⟩ (.int .i64 J2)).setCell ⟨b, 2, none⟩ (.int .i64 J3)).setCell ⟨b, 3, none⟩ (.int .i64 J4)).setCell ⟨b, 4, none⟩ (.int .i64 J5)).setCell ⟨b, 5, none⟩ (.int .i64 J6)) :=
  ⟨b, rfl, rfl, rfl, set6_heap (c := ⟨J1, J2, J3, J4, J5, J6⟩) hz, set6_below hb b ⟨J1, J2, J3, J4, J5, J6⟩ hle⟩
theorem box_new {wA wr : World} {J1 J2 J3 J4 J5 J6 n1 e1 : Int} (hb : Below wr.heap.size wr wA) :
    ∃ bx, (Value.pointer (some ⟨wA.heap.size, 0, none⟩)) = .pointer (some ⟨bx, 0, none⟩) ∧ Value.int .i64 n1 = .int .i64 n1 ∧ Value.int .i64 e1 = .int .i64 e1 ∧ (wA.alloc (.cells #[.int .i64 J1, .int .i64 J2, .int .i64 J3, .int .i64 J4, .int .i64 J5, .int .i64 J6] 32)).heap[bx]? = some (.cells (cl ⟨J1, J2, J3, J4, J5, J6⟩) 32) ∧ Below wr.heap.size wr (wA.alloc (.cells #[.int .i64 J1, .int .i64 J2, .int .i64 J3, .int .i64 J4, .int .i64 J5, .int .i64 J6] 32)) :=
  ⟨_, rfl, rfl, rfl, heap_alloc_new _ _, hb.alloc hb.size _⟩

theorem box_end0 {wA wr : World} {J1 J2 J3 J4 J5 J6 n1 e1 : Int} (hz : wA.heap[wr.heap.size]? = some (.cells (cl zeroC) 32)) (hb : Below wr.heap.size wr wA) :
    ∃ bx, (Value.pointer (some ⟨wr.heap.size, 0, none⟩)) = .pointer (some ⟨bx, 0, none⟩) ∧ Value.int .i64 n1 = .int .i64 n1 ∧ Value.int .i64 e1 = .int .i64 e1 ∧ ((((((wA.setCell ⟨wr.heap.size, 0, none⟩ (.int .i64 J1)).setCell ⟨wr.heap.size, 1, none⟩ (.int .i64 J2)).setCell ⟨wr.heap.size, 2, none⟩ (.int .i64 J3)).setCell ⟨wr.heap.size, 3, none⟩ (.int .i64 J4)).setCell ⟨wr.heap.size, 4, none⟩ (.int .i64 J5)).setCell ⟨wr.heap.size, 5, none⟩ (.int .i64 J6)).heap[bx]? = some (.cells (cl ⟨J1, J2, J3, J4, J5, J6⟩) 32) ∧ Below wr.heap.size wr ((((((wA.setCell ⟨wr.heap.size, 0, none⟩ (.int .i64 J1)).setCell ⟨wr.heap.size, 1, none⟩ (.int .i64 J2)).setCell ⟨wr.heap.size, 2, none⟩ (.int .i64 J3)).setCell ⟨wr.heap.size, 3, none⟩ (.int .i64 J4)).setCell ⟨wr.heap.size, 4, none⟩ (.int .i64 J5)).setCell ⟨wr.heap.size, 5, none⟩ (.int .i64 J6)) :=
  box_end hz hb (by omega)

theorem box_end1 {wA wr : World} {J1 J2 J3 J4 J5 J6 n1 e1 : Int} (hz : wA.heap[wr.heap.size + 1]? = some (.cells (cl zeroC) 32)) (hb : Below wr.heap.size wr wA) :
    ∃ bx, (Value.pointer (some ⟨wr.heap.size + 1, 0, none⟩)) = .pointer (some ⟨bx, 0, none⟩) ∧ Value.int .i64 n1 = .int .i64 n1 ∧ Value.int .i64 e1 = .int .i64 e1 ∧ ((((((wA.setCell ⟨wr.heap.size + 1, 0, none⟩ (.int .i64 J1)).setCell ⟨wr.heap.size + 1, 1, none⟩ (.int .i64 J2)).setCell ⟨wr.heap.size + 1, 2, none⟩ (.int .i64 J3)).setCell ⟨wr.heap.size + 1, 3, none⟩ (.int .i64 J4)).setCell ⟨wr.heap.size + 1, 4, none⟩ (.int .i64 J5)).setCell ⟨wr.heap.size + 1, 5, none⟩ (.int .i64 J6)).heap[bx]? = some (.cells (cl ⟨J1, J2, J3, J4, J5, J6⟩) 32) ∧ Below wr.heap.size wr ((((((wA.setCell ⟨wr.heap.size + 1, 0, none⟩ (.int .i64 J1)).setCell ⟨wr.heap.size + 1, 1, none⟩ (.int .i64 J2)).setCell ⟨wr.heap.size + 1, 2, none⟩ (.int .i64 J3)).setCell ⟨wr.heap.size + 1, 3, none⟩ (.int .i64 J4)).setCell ⟨wr.heap.size + 1, 4, none⟩ (.int .i64 J5)).setCell ⟨wr.heap.size + 1, 5, none⟩ (.int .i64 J6)) :=
  box_end hz hb (by omega)

theorem below_drewN {B : Nat} {a w : World} (h : Below B a w) (n : Nat) : Below B a (w.drewN n) := ⟨h.os, h.tape, h.output, h.size, h.block⟩

theorem above_below {B : Nat} {S : Spots} {w w' : World} (hA : Above B S) (h : Lets S.Has w w') (hs : B ≤ w.heap.size) : Below B w w' := h.below B hs fun k hk => hA.has k hk

set_option maxRecDepth 100000 in
set_option maxHeartbeats 8000000 in
theorem own_core (a : Option Addr) (n cap : Nat) (f : Nat → Dd) (t : Int) (w : World) (hn : n ≤ 2000000000000) (hd : DAt w a n f) (hfit : ∀ i, i < n → (f i).x.Fit) :
    Calls Try.prog 5 #[.slice a n cap, .int .i64 t] w fun e w' => e = .returned (.bool true) ∧ Below w.heap.size w w' := by
  have HD := hid (And.intro hd hfit)
  clear hd hfit
  have HL := hid live_any
  go_enter Try.func5, Try.ntmps5
  go_wp2_with fail
  refine (HL.out _).mono ?_
  rintro e w1 ⟨rfl, hb1⟩
  have HB1 := hid hb1
  have HRun := hid (run_any a n cap f w1 hn (HD.out.1.below hb1) HD.out.2)
  clear hb1
  go_wp2_with fail
  refine HRun.out.mono ?_
  rintro e w2 ⟨p, own, rfl, hp, hT⟩
  have HT := hid hT
  have HA := hid (All_any p _ own w2 hT.t)
  have h512 : (runS f n).keys.length ≤ 512 := by
    obtain ⟨b, v, L, hL, hT⟩ := hT.t
    have := hT.len
    rw [← keys_ents hL, List.length_map]
    exact this
  clear hT hp HRun
  generalize hs : runS f n = s at *
  have HS := hid hs
  clear hs
  obtain ⟨ls, hls⟩ : ∃ ls, s.keys.length = ls := ⟨_, rfl⟩
  rw [hls] at HA h512
  have HLs := hid hls
  clear hls
  go_wp2_with fail
  refine HA.out.mono ?_
  rintro e w3 ⟨⟨va, vc, rfl, hrow⟩, hb3⟩
  have HT3 := hid (HT.out.below hb3)
  have HRow := hid hrow
  have HSz := hid (And.intro HB1.out (HT.out.bel.size))
  have HSz3 := hid hb3.size
  clear hrow hb3 HA
  -- the row is A's: its cells from j on stand as they were
  go_wp2_with fail
  go_loopw [7] (fun i wr => ∃ j : Nat, j ≤ ls ∧ i = .int .i64 j ∧ Wr (fun b => (Value.slice va ls vc).ownBlock = some b) w3 wr ∧ ∀ g, (Value.slice va ls vc).ownBlock = some g → ∀ q, j * 4 ≤ q → wr.cell? ⟨g, q, none⟩ = w3.cell? ⟨g, q, none⟩ ∧ wr.frozen? ⟨g, q, none⟩ = false) (fun i _ => ls - (intOf i).toNat)
  case atStart => exact ⟨0, Nat.zero_le _, rfl, Wr.refl _ _, fun g hg q _ => ⟨rfl, by
    rcases HRow.out.2 with ⟨e, _⟩ | ⟨g', cap', cur, e, _, hgb, _⟩
    · rw [e] at hg; cases hg
    · rw [e] at hg
      obtain rfl : g' = g := by simpa [Value.ownBlock] using hg
      simp [World.frozen?, hgb]⟩⟩
  case round =>
    obtain ⟨j, hj, rfl, hw, hcf⟩ := hrel
    by_cases hlt : j < ls
    · have hji : (j : Int) < ls := by omega
      have hji0 : (0 : Int) ≤ j := by omega
      obtain ⟨ga, hva, hga⟩ : ∃ ga, va = some ⟨ga, 0, none⟩ ∧ w2.heap.size ≤ ga ∧ ga < w3.heap.size := by
        rcases HRow.out.2 with ⟨e, hz⟩ | ⟨g', cap', cur, e, hg', hgb, _⟩
        · have := HLs.out; omega
        · injection e with e1 e2 e3
          exact ⟨g', e1, hg', (Array.getElem?_eq_some_iff.1 hgb).1⟩
      subst hva
      have hjs : j < s.keys.length := by rw [HLs.out]; exact hlt
      have hx : s.keys[j]? = some (s.keys.getD j default) := by rw [List.getD_eq_getElem?_getD, List.getElem?_eq_getElem hjs]; rfl
      have hmem : s.keys.getD j default ∈ s.keys := List.mem_of_getElem? hx
      have hfitx := HT3.out.fits _ hmem
      have hyes : hasS s (s.keys.getD j default) = true := decide_eq_true hmem
      obtain ⟨p0, p1, p2, p3⟩ := row_key HRow.out hx
      obtain ⟨q0, -⟩ := hcf ga rfl (j * 4) (Nat.le_refl _)
      obtain ⟨q1, -⟩ := hcf ga rfl (j * 4 + 1) (by omega)
      obtain ⟨q2, z2⟩ := hcf ga rfl (j * 4 + 2) (by omega)
      obtain ⟨q3, -⟩ := hcf ga rfl (j * 4 + 3) (by omega)
      have c0 := q0.trans p0
      have c1 := q1.trans p1
      have c2 := q2.trans p2
      have c3 := q3.trans p3
      have hTr : Tr w1 p s wr own := HT3.out.wr hw fun k hk => by
        have hk' : ga = k := by simpa [Value.ownBlock] using hk
        subst hk'
        exact ⟨HT.out.new_ _ hga.1, Nat.le_trans HT.out.bel.size hga.1⟩
      generalize s.keys.getD j default = x at *
      have HNo := hid (Node_any p s own x hfitx wr hTr.t)
      rw [hyes] at HNo
      have hgr : ga < wr.heap.size := Nat.lt_of_lt_of_le hga.2 hw.size
      have HW := hid (And.intro hw (And.intro hcf hga))
      have hzf : wr.frozen? ⟨ga, j * 4 + 2, none⟩ = false := z2
      unfold kv at HNo
      clear hw hcf hga hx hmem hfitx hyes p0 p1 p2 p3 q0 q1 q2 q3 z2 hTr hjs
      go_wp2_with fail
      refine HNo.out.mono ?_
      rintro e w4 ⟨h4, hb4⟩
      have h4' : ∃ (S : Spots) (N : Nd) (l : Nat), e = .returned (ptr S.n) ∧ Above wr.heap.size S ∧ IsNode w4 S N ∧ NK N l := by
        rcases h4 with ⟨h5, _⟩ | ⟨_, S, N, l, h6, h7, h8, h9, _⟩
        · cases h5
        · exact ⟨S, N, l, h6, h7, h8, h9⟩
      obtain ⟨S, N, l, rfl, hA4, hI4, hK4⟩ := h4'
      have HP := hid (npass_all S N l t w4 hI4 hK4)
      have H4 := hid (And.intro hA4 hb4)
      generalize hsn : S.n = sn at *
      clear h4 hb4 hA4 hI4 hK4 HNo
      go_wp2_with fail
      refine HP.out.mono ?_
      rintro e w5 ⟨⟨r5, rfl⟩, hl5⟩
      have hb5 : Below wr.heap.size wr w5 := H4.out.2.trans (above_below H4.out.1 hl5 H4.out.2.size)
      have d2 : w5.cell? ⟨ga, j * 4 + 2, none⟩ = some (.string x.r) := kcS hb5 c2
      have f2 : w5.frozen? ⟨ga, j * 4 + 2, none⟩ = false := (hb5.frozen (p := ⟨ga, j * 4 + 2, none⟩) hgr).trans hzf
      have HB5 := hid hb5
      clear hl5 hb5 HP c0 c1 c2 c3 hzf
      go_wp2_with fail
      go_roundw
      case rel =>
        obtain ⟨hw, hcf, hga⟩ := HW.out
        have hset : Wr (fun b => (Value.slice (some ⟨ga, 0, none⟩) ls vc).ownBlock = some b) w5 (w5.setCell ⟨ga, j * 4 + 2, none⟩ (.string ⟨#[99, 104, 97, 110, 103, 101, 100]⟩)) := Wr.set _ _ rfl
        refine ⟨j + 1, hlt, by go_num, (hw.on (Wr.ofBelow (R := fun _ => False) HB5.out) fun k e => e.elim).on hset (fun k e => .inl e), fun g hg q hq => ?_⟩
        obtain rfl : ga = g := by simpa [Value.ownBlock] using hg
        obtain ⟨h1, h2⟩ := hcf ga rfl q (by omega)
        refine ⟨?_, ?_⟩
        · rw [World.cell?_setCell_other _ _ _ _ (by intro e; have := congrArg Addr.off e; dsimp only at this; omega)]
          exact (HB5.out.cell (p := ⟨ga, q, none⟩) hgr).trans h1
        · have h3 := (HB5.out.frozen (p := ⟨ga, q, none⟩) hgr).trans h2
          simpa using h3
      case measure => simp [intOf]; omega
    · obtain rfl : j = ls := by omega
      have hBw : Below w.heap.size w wr := by
        have h1 : Below w.heap.size w w3 := HB1.out.trans (HT3.out.bel.mono HB1.out.size)
        refine h1.trans (hw.below _ h1.size fun k hk => ?_)
        have h2 := (KRow.has HRow.out k hk).1
        have h3 := HT.out.bel.size
        have h4 := HB1.out.size
        omega
      have hTr : Tr w1 p s wr own := HT3.out.wr hw fun k hk => by
        have h2 := (KRow.has HRow.out k hk).1
        exact ⟨HT.out.new_ _ h2, Nat.le_trans HT.out.bel.size h2⟩
      have HRun := hid (run_any a n cap f wr hn (HD.out.1.below hBw) HD.out.2)
      rw [HS.out] at HRun
      have HTr := hid (And.intro hTr hBw)
      clear hw hcf hBw hTr
      go_wp2_with fail
      refine HRun.out.mono ?_
      rintro e w5 ⟨p', own', rfl, hp', hT'⟩
      have HT5 := hid (And.intro (HTr.out.1.below hT'.bel) hT')
      have HBw5 := hid (HTr.out.2.trans (hT'.bel.mono HTr.out.2.size))
      have HA1 := hid (All_any p s own w5 HT5.out.1.t)
      rw [HLs.out] at HA1
      clear hp' hT' HRun
      go_wp2_with fail
      refine HA1.out.mono ?_
      rintro e w6 ⟨⟨vb, cb', rfl, hrow6⟩, hb6⟩
      have HA2 := hid (All_any p' s own' w6 (HT5.out.2.below hb6).t)
      rw [HLs.out] at HA2
      have H6 := hid (And.intro hrow6 hb6)
      clear hrow6 hb6 HA1
      go_wp2_with fail
      refine HA2.out.mono ?_
      rintro e w7 ⟨⟨vd, cd, rfl, hrow7⟩, hb7⟩
      have HR7 := hid (And.intro (KRow.below H6.out.1 hb7) hrow7)
      have HT7 := hid (And.intro ((HT5.out.1.below H6.out.2).below hb7) ((HT5.out.2.below H6.out.2).below hb7))
      have HBw7 := hid (HBw5.out.trans ((H6.out.2.trans (hb7.mono H6.out.2.size)).mono HBw5.out.size))
      clear hrow7 hb7 HA2
      go_wp2_with fail
      go_loopw [12] (fun i wr => ∃ k : Nat, k ≤ j ∧ i = .int .i64 k ∧ Below w7.heap.size w7 wr) (fun i _ => j - (intOf i).toNat)
      case atStart => exact ⟨0, Nat.zero_le _, rfl, Below.refl _ _⟩
      case round =>
        obtain ⟨k, hk, rfl, hbz⟩ := hrel
        have HBz := hid hbz
        clear hbz
        by_cases hlt2 : k < j
        · have hki : (k : Int) < j := by omega
          have hki0 : (0 : Int) ≤ k := by omega
          obtain ⟨gb, rfl, -, hgb⟩ := row_shape HR7.out.1 (by rw [HLs.out]; omega)
          obtain ⟨gc, rfl, -, hgc⟩ := row_shape HR7.out.2 (by rw [HLs.out]; omega)
          have hks : k < s.keys.length := by rw [HLs.out]; exact hlt2
          have hx : s.keys[k]? = some (s.keys.getD k default) := by rw [List.getD_eq_getElem?_getD, List.getElem?_eq_getElem hks]; rfl
          have hmem : s.keys.getD k default ∈ s.keys := List.mem_of_getElem? hx
          have hfitx := HT7.out.1.fits _ hmem
          obtain ⟨p0, p1, p2, p3⟩ := row_key HR7.out.1 hx
          obtain ⟨m0, m1, m2, m3⟩ := row_key HR7.out.2 hx
          generalize s.keys.getD k default = x at *
          obtain ⟨⟨⟨J1, J2, J3, J4, J5, J6⟩, n1, e1⟩, hJ⟩ : ∃ z, sumS s s.last [x] = z := ⟨_, rfl⟩
          have HS1 : Hid (∀ wx b, Below w7.heap.size w7 wx → wx.heap[b]? = some (.cells #[.int .u8 x.k, .string x.c, .string x.r, .string x.o] 30) → Calls Try.prog 10 #[ptr p, .int .i64 s.last, .slice (some ⟨b, 0, none⟩) 1 1] wx fun e w' => e = .returned (.tuple #[.agg #[.int .i64 J1, .int .i64 J2, .int .i64 J3, .int .i64 J4, .int .i64 J5, .int .i64 J6], .int .i64 n1, .int .i64 e1]) ∧ Below wx.heap.size wx w') := hid fun wx b hb hkb => by
            have := Sum_any p s own s.last (some ⟨b, 0, none⟩) 1 1 (fun _ => x) wx (by decide) (fun _ _ => hfitx) (kat_of hkb) (HT7.out.1.below hb).t
            rw [show firstK (fun _ => x) 1 = [x] from rfl, hJ] at this
            exact this
          have HS2 : Hid (∀ wx b, Below w7.heap.size w7 wx → wx.heap[b]? = some (.cells #[.int .u8 x.k, .string x.c, .string x.r, .string x.o] 30) → Calls Try.prog 10 #[ptr p', .int .i64 s.last, .slice (some ⟨b, 0, none⟩) 1 1] wx fun e w' => e = .returned (.tuple #[.agg #[.int .i64 J1, .int .i64 J2, .int .i64 J3, .int .i64 J4, .int .i64 J5, .int .i64 J6], .int .i64 n1, .int .i64 e1]) ∧ Below wx.heap.size wx w') := hid fun wx b hb hkb => by
            have := Sum_any p' s own' s.last (some ⟨b, 0, none⟩) 1 1 (fun _ => x) wx (by decide) (fun _ _ => hfitx) (kat_of hkb) (HT7.out.2.below hb).t
            rw [show firstK (fun _ => x) 1 = [x] from rfl, hJ] at this
            exact this
          have l1 : w7.cell? ⟨p, 2, none⟩ = some (.int .i64 s.last) := HT7.out.1.last
          have l2 : w7.cell? ⟨p', 2, none⟩ = some (.int .i64 s.last) := HT7.out.2.last
          have HKeep : Hid (∀ w', Below w7.heap.size w7 w' → w'.cell? ⟨gb, k * 4, none⟩ = some (.int .u8 x.k) ∧ w'.cell? ⟨gb, k * 4 + 1, none⟩ = some (.string x.c) ∧ w'.cell? ⟨gb, k * 4 + 2, none⟩ = some (.string x.r) ∧ w'.cell? ⟨gb, k * 4 + 3, none⟩ = some (.string x.o) ∧ w'.cell? ⟨gc, k * 4, none⟩ = some (.int .u8 x.k) ∧ w'.cell? ⟨gc, k * 4 + 1, none⟩ = some (.string x.c) ∧ w'.cell? ⟨gc, k * 4 + 2, none⟩ = some (.string x.r) ∧ w'.cell? ⟨gc, k * 4 + 3, none⟩ = some (.string x.o) ∧ w'.cell? ⟨p, 2, none⟩ = some (.int .i64 s.last) ∧ w'.cell? ⟨p', 2, none⟩ = some (.int .i64 s.last)) := hid fun w' hb => ⟨kcS hb p0, kcS hb p1, kcS hb p2, kcS hb p3, kcS hb m0, kcS hb m1, kcS hb m2, kcS hb m3, kcS hb l1, kcS hb l2⟩
          obtain ⟨c0, c1, c2, c3, c4, c5, c6, c7, c8, c9⟩ := HKeep.out wr HBz.out
          have hgb2 : gb < wr.heap.size := Nat.lt_of_lt_of_le hgb HBz.out.size
          have hgc2 : gc < wr.heap.size := Nat.lt_of_lt_of_le hgc HBz.out.size
          have HG := hid (And.intro hgb hgc)
          have hp2 : p < wr.heap.size := Nat.lt_of_lt_of_le (World.block_lt_of_cell? _ _ l1) HBz.out.size
          have hp3 : p' < wr.heap.size := Nat.lt_of_lt_of_le (World.block_lt_of_cell? _ _ l2) HBz.out.size
          clear p0 p1 p2 p3 m0 m1 m2 m3 l1 l2 hmem hfitx hx hks hJ hgb hgc
          go_upto_region 19 with fail
          go_cut [13, 14, 15] from 58 to 113 (fun s1 s2 s3 wx => ∃ bx, s1 = .pointer (some ⟨bx, 0, none⟩) ∧ s2 = .int .i64 n1 ∧ s3 = .int .i64 e1 ∧ wx.heap[bx]? = some (.cells (cl ⟨J1, J2, J3, J4, J5, J6⟩) 32) ∧ Below wr.heap.size wr wx)
          case first =>
            have HF0 : Hid (Calls Try.prog 10 #[ptr p, .int .i64 s.last, .slice (some ⟨wr.heap.size, 0, none⟩) 1 1] ((wr.alloc (.cells #[.int .u8 x.k, .string x.c, .string x.r, .string x.o] 30)).drew) fun e w' => e = .returned (.tuple #[.agg #[.int .i64 J1, .int .i64 J2, .int .i64 J3, .int .i64 J4, .int .i64 J5, .int .i64 J6], .int .i64 n1, .int .i64 e1]) ∧ (w'.cell? ⟨gb, k * 4, none⟩ = some (.int .u8 x.k) ∧ w'.cell? ⟨gb, k * 4 + 1, none⟩ = some (.string x.c) ∧ w'.cell? ⟨gb, k * 4 + 2, none⟩ = some (.string x.r) ∧ w'.cell? ⟨gb, k * 4 + 3, none⟩ = some (.string x.o) ∧ w'.cell? ⟨gc, k * 4, none⟩ = some (.int .u8 x.k) ∧ w'.cell? ⟨gc, k * 4 + 1, none⟩ = some (.string x.c) ∧ w'.cell? ⟨gc, k * 4 + 2, none⟩ = some (.string x.r) ∧ w'.cell? ⟨gc, k * 4 + 3, none⟩ = some (.string x.o) ∧ w'.cell? ⟨p, 2, none⟩ = some (.int .i64 s.last) ∧ w'.cell? ⟨p', 2, none⟩ = some (.int .i64 s.last)) ∧ Hid (Below wr.heap.size wr w')) := hid (by
              have hb0 : Below wr.heap.size wr ((wr.alloc (.cells #[.int .u8 x.k, .string x.c, .string x.r, .string x.o] 30)).drew) := (by repeat (first | (with_reducible exact Below.refl _ _) | (with_reducible refine Below.setCell ?_ (by first | (simp; done) | (simp; omega) | omega) _) | (with_reducible refine Below.alloc ?_ (by first | (simp; done) | (simp; omega) | omega) _) | (with_reducible refine Below.drew ?_)))
              refine (HS1.out _ _ (HBz.out.trans (hb0.mono HBz.out.size)) (heap_alloc_new _ _)).mono fun e w' h => ?_
              have hb2 := hb0.trans (h.2.mono hb0.size)
              exact ⟨h.1, HKeep.out w' (HBz.out.trans (hb2.mono HBz.out.size)), hid hb2⟩)
            have HF1 : Hid (Calls Try.prog 10 #[ptr p, .int .i64 s.last, .slice (some ⟨wr.heap.size, 0, none⟩) 1 1] (((wr.alloc (.cells #[.int .u8 x.k, .string x.c, .string x.r, .string x.o] 30)).alloc (.cells #[.int .i64 0, .int .i64 0, .int .i64 0, .int .i64 0, .int .i64 0, .int .i64 0] 32)).drew) fun e w' => e = .returned (.tuple #[.agg #[.int .i64 J1, .int .i64 J2, .int .i64 J3, .int .i64 J4, .int .i64 J5, .int .i64 J6], .int .i64 n1, .int .i64 e1]) ∧ (w'.cell? ⟨gb, k * 4, none⟩ = some (.int .u8 x.k) ∧ w'.cell? ⟨gb, k * 4 + 1, none⟩ = some (.string x.c) ∧ w'.cell? ⟨gb, k * 4 + 2, none⟩ = some (.string x.r) ∧ w'.cell? ⟨gb, k * 4 + 3, none⟩ = some (.string x.o) ∧ w'.cell? ⟨gc, k * 4, none⟩ = some (.int .u8 x.k) ∧ w'.cell? ⟨gc, k * 4 + 1, none⟩ = some (.string x.c) ∧ w'.cell? ⟨gc, k * 4 + 2, none⟩ = some (.string x.r) ∧ w'.cell? ⟨gc, k * 4 + 3, none⟩ = some (.string x.o) ∧ w'.cell? ⟨p, 2, none⟩ = some (.int .i64 s.last) ∧ w'.cell? ⟨p', 2, none⟩ = some (.int .i64 s.last)) ∧ (w'.cell? ⟨wr.heap.size + 1, 0, none⟩ = some (.int .i64 0) ∧ w'.cell? ⟨wr.heap.size + 1, 1, none⟩ = some (.int .i64 0) ∧ w'.cell? ⟨wr.heap.size + 1, 2, none⟩ = some (.int .i64 0) ∧ w'.cell? ⟨wr.heap.size + 1, 3, none⟩ = some (.int .i64 0) ∧ w'.cell? ⟨wr.heap.size + 1, 4, none⟩ = some (.int .i64 0) ∧ w'.cell? ⟨wr.heap.size + 1, 5, none⟩ = some (.int .i64 0) ∧ w'.frozen? ⟨wr.heap.size + 1, 0, none⟩ = false ∧ w'.frozen? ⟨wr.heap.size + 1, 1, none⟩ = false ∧ w'.frozen? ⟨wr.heap.size + 1, 2, none⟩ = false ∧ w'.frozen? ⟨wr.heap.size + 1, 3, none⟩ = false ∧ w'.frozen? ⟨wr.heap.size + 1, 4, none⟩ = false ∧ w'.frozen? ⟨wr.heap.size + 1, 5, none⟩ = false) ∧ Hid (w'.heap[wr.heap.size + 1]? = some (.cells (cl zeroC) 32)) ∧ Hid (Below wr.heap.size wr w')) := hid (by
              have hb0 : Below wr.heap.size wr (((wr.alloc (.cells #[.int .u8 x.k, .string x.c, .string x.r, .string x.o] 30)).alloc (.cells #[.int .i64 0, .int .i64 0, .int .i64 0, .int .i64 0, .int .i64 0, .int .i64 0] 32)).drew) := (by repeat (first | (with_reducible exact Below.refl _ _) | (with_reducible refine Below.setCell ?_ (by first | (simp; done) | (simp; omega) | omega) _) | (with_reducible refine Below.alloc ?_ (by first | (simp; done) | (simp; omega) | omega) _) | (with_reducible refine Below.drew ?_)))
              have hz : (((wr.alloc (.cells #[.int .u8 x.k, .string x.c, .string x.r, .string x.o] 30)).alloc (.cells #[.int .i64 0, .int .i64 0, .int .i64 0, .int .i64 0, .int .i64 0, .int .i64 0] 32)).drew).heap[wr.heap.size + 1]? = some (.cells (cl zeroC) 32) := (heap2 _ _ _).2
              refine (HS1.out _ _ (HBz.out.trans (hb0.mono HBz.out.size)) (heap2 _ _ _).1).mono fun e w' h => ?_
              have hb2 := hb0.trans (h.2.mono hb0.size)
              have hz2 := (h.2.block _ (Array.getElem?_eq_some_iff.1 hz).1).trans hz
              obtain ⟨⟨y0, y1, y2, y3, y4, y5⟩, ⟨v0, v1, v2, v3, v4, v5⟩⟩ := cl_at hz2
              simp only [Nat.zero_add, zeroC] at y0 y1 y2 y3 y4 y5 v0 v1 v2 v3 v4 v5
              exact ⟨h.1, HKeep.out w' (HBz.out.trans (hb2.mono HBz.out.size)), ⟨y0, y1, y2, y3, y4, y5, v0, v1, v2, v3, v4, v5⟩, hid hz2, hid hb2⟩)
            have HF2 : Hid (Calls Try.prog 10 #[ptr p, .int .i64 s.last, .slice (some ⟨wr.heap.size + 1, 0, none⟩) 1 1] (((wr.alloc (.cells #[.int .i64 0, .int .i64 0, .int .i64 0, .int .i64 0, .int .i64 0, .int .i64 0] 32)).alloc (.cells #[.int .u8 x.k, .string x.c, .string x.r, .string x.o] 30)).drew) fun e w' => e = .returned (.tuple #[.agg #[.int .i64 J1, .int .i64 J2, .int .i64 J3, .int .i64 J4, .int .i64 J5, .int .i64 J6], .int .i64 n1, .int .i64 e1]) ∧ (w'.cell? ⟨gb, k * 4, none⟩ = some (.int .u8 x.k) ∧ w'.cell? ⟨gb, k * 4 + 1, none⟩ = some (.string x.c) ∧ w'.cell? ⟨gb, k * 4 + 2, none⟩ = some (.string x.r) ∧ w'.cell? ⟨gb, k * 4 + 3, none⟩ = some (.string x.o) ∧ w'.cell? ⟨gc, k * 4, none⟩ = some (.int .u8 x.k) ∧ w'.cell? ⟨gc, k * 4 + 1, none⟩ = some (.string x.c) ∧ w'.cell? ⟨gc, k * 4 + 2, none⟩ = some (.string x.r) ∧ w'.cell? ⟨gc, k * 4 + 3, none⟩ = some (.string x.o) ∧ w'.cell? ⟨p, 2, none⟩ = some (.int .i64 s.last) ∧ w'.cell? ⟨p', 2, none⟩ = some (.int .i64 s.last)) ∧ (w'.cell? ⟨wr.heap.size, 0, none⟩ = some (.int .i64 0) ∧ w'.cell? ⟨wr.heap.size, 1, none⟩ = some (.int .i64 0) ∧ w'.cell? ⟨wr.heap.size, 2, none⟩ = some (.int .i64 0) ∧ w'.cell? ⟨wr.heap.size, 3, none⟩ = some (.int .i64 0) ∧ w'.cell? ⟨wr.heap.size, 4, none⟩ = some (.int .i64 0) ∧ w'.cell? ⟨wr.heap.size, 5, none⟩ = some (.int .i64 0) ∧ w'.frozen? ⟨wr.heap.size, 0, none⟩ = false ∧ w'.frozen? ⟨wr.heap.size, 1, none⟩ = false ∧ w'.frozen? ⟨wr.heap.size, 2, none⟩ = false ∧ w'.frozen? ⟨wr.heap.size, 3, none⟩ = false ∧ w'.frozen? ⟨wr.heap.size, 4, none⟩ = false ∧ w'.frozen? ⟨wr.heap.size, 5, none⟩ = false) ∧ Hid (w'.heap[wr.heap.size]? = some (.cells (cl zeroC) 32)) ∧ Hid (Below wr.heap.size wr w')) := hid (by
              have hb0 : Below wr.heap.size wr (((wr.alloc (.cells #[.int .i64 0, .int .i64 0, .int .i64 0, .int .i64 0, .int .i64 0, .int .i64 0] 32)).alloc (.cells #[.int .u8 x.k, .string x.c, .string x.r, .string x.o] 30)).drew) := (by repeat (first | (with_reducible exact Below.refl _ _) | (with_reducible refine Below.setCell ?_ (by first | (simp; done) | (simp; omega) | omega) _) | (with_reducible refine Below.alloc ?_ (by first | (simp; done) | (simp; omega) | omega) _) | (with_reducible refine Below.drew ?_)))
              have hz : (((wr.alloc (.cells #[.int .i64 0, .int .i64 0, .int .i64 0, .int .i64 0, .int .i64 0, .int .i64 0] 32)).alloc (.cells #[.int .u8 x.k, .string x.c, .string x.r, .string x.o] 30)).drew).heap[wr.heap.size]? = some (.cells (cl zeroC) 32) := (heap2 _ _ _).1
              refine (HS1.out _ _ (HBz.out.trans (hb0.mono HBz.out.size)) (heap2 _ _ _).2).mono fun e w' h => ?_
              have hb2 := hb0.trans (h.2.mono hb0.size)
              have hz2 := (h.2.block _ (Array.getElem?_eq_some_iff.1 hz).1).trans hz
              obtain ⟨⟨y0, y1, y2, y3, y4, y5⟩, ⟨v0, v1, v2, v3, v4, v5⟩⟩ := cl_at hz2
              simp only [Nat.zero_add, zeroC] at y0 y1 y2 y3 y4 y5 v0 v1 v2 v3 v4 v5
              exact ⟨h.1, HKeep.out w' (HBz.out.trans (hb2.mono HBz.out.size)), ⟨y0, y1, y2, y3, y4, y5, v0, v1, v2, v3, v4, v5⟩, hid hz2, hid hb2⟩)
            clear c4 c5 c6 c7 c9 hgc2 hp3
            go_region_held3 (fun w' => w'.cell? ⟨gb, k * 4, none⟩ = some (.int .u8 x.k) ∧ w'.cell? ⟨gb, k * 4 + 1, none⟩ = some (.string x.c) ∧ w'.cell? ⟨gb, k * 4 + 2, none⟩ = some (.string x.r) ∧ w'.cell? ⟨gb, k * 4 + 3, none⟩ = some (.string x.o) ∧ w'.cell? ⟨p, 2, none⟩ = some (.int .i64 s.last)) (first | with_reducible assumption | (go_split_ands; refine ⟨?_, ?_, ?_, ?_, ?_⟩ <;> with_reducible exact keep6 (by with_reducible assumption) (by omega)) | go_keep) (first | (go_at_call 11; refine (last_at p s.last _ (by first | with_reducible assumption | go_cell | exact c8)).mono ?_; rintro e wL ⟨rfl, rfl⟩) | (go_at_call 10; with_reducible refine HF0.out.mono ?_; rintro e wA ⟨rfl, ⟨k0, k1, k2, k3, k4, k5, k6, k7, k8, k9⟩, HbA⟩; clear k4 k5 k6 k7 k9) | (go_at_call 10; with_reducible refine HF1.out.mono ?_; rintro e wA ⟨rfl, ⟨k0, k1, k2, k3, k4, k5, k6, k7, k8, k9⟩, ⟨y0, y1, y2, y3, y4, y5, v0, v1, v2, v3, v4, v5⟩, HZA, HbA⟩; clear k4 k5 k6 k7 k9) | (go_at_call 10; with_reducible refine HF2.out.mono ?_; rintro e wA ⟨rfl, ⟨k0, k1, k2, k3, k4, k5, k6, k7, k8, k9⟩, ⟨y0, y1, y2, y3, y4, y5, v0, v1, v2, v3, v4, v5⟩, HZA, HbA⟩; clear k4 k5 k6 k7 k9))
            all_goals first | go_meet | (go_wp2_with fail; go_meet)
            all_goals first | with_reducible exact box_new HbA.out | with_reducible exact box_end1 HZA.out HbA.out | with_reducible exact box_end0 HZA.out HbA.out
          case rest =>
          obtain ⟨bx, rfl, rfl, rfl, hxbx, hbbx⟩ := hcut
          have HBc := hid (HBz.out.trans (hbbx.mono HBz.out.size))
          have HXb := hid hxbx
          have hgb3 : gb < wc.heap.size := Nat.lt_of_lt_of_le hgb2 hbbx.size
          have hgc3 : gc < wc.heap.size := Nat.lt_of_lt_of_le hgc2 hbbx.size
          have hp2' : p < wc.heap.size := Nat.lt_of_lt_of_le hp2 hbbx.size
          have hp3' : p' < wc.heap.size := Nat.lt_of_lt_of_le hp3 hbbx.size
          clear c0 c1 c2 c3 c4 c5 c6 c7 c8 c9 hgb2 hgc2 hp2 hp3 hxbx hbbx
          obtain ⟨c0, c1, c2, c3, c4, c5, c6, c7, c8, c9⟩ := HKeep.out wc HBc.out
          generalize hwc : wc = wd at *
          clear hwc
          go_upto_region 20 with fail
          go_cut [16, 17, 18] from 58 to 113 (fun s1 s2 s3 wx => ∃ bx, s1 = .pointer (some ⟨bx, 0, none⟩) ∧ s2 = .int .i64 n1 ∧ s3 = .int .i64 e1 ∧ wx.heap[bx]? = some (.cells (cl ⟨J1, J2, J3, J4, J5, J6⟩) 32) ∧ Below wd.heap.size wd wx)
          case first =>
            have HF0 : Hid (Calls Try.prog 10 #[ptr p', .int .i64 s.last, .slice (some ⟨wd.heap.size, 0, none⟩) 1 1] ((wd.alloc (.cells #[.int .u8 x.k, .string x.c, .string x.r, .string x.o] 30)).drew) fun e w' => e = .returned (.tuple #[.agg #[.int .i64 J1, .int .i64 J2, .int .i64 J3, .int .i64 J4, .int .i64 J5, .int .i64 J6], .int .i64 n1, .int .i64 e1]) ∧ (w'.cell? ⟨gb, k * 4, none⟩ = some (.int .u8 x.k) ∧ w'.cell? ⟨gb, k * 4 + 1, none⟩ = some (.string x.c) ∧ w'.cell? ⟨gb, k * 4 + 2, none⟩ = some (.string x.r) ∧ w'.cell? ⟨gb, k * 4 + 3, none⟩ = some (.string x.o) ∧ w'.cell? ⟨gc, k * 4, none⟩ = some (.int .u8 x.k) ∧ w'.cell? ⟨gc, k * 4 + 1, none⟩ = some (.string x.c) ∧ w'.cell? ⟨gc, k * 4 + 2, none⟩ = some (.string x.r) ∧ w'.cell? ⟨gc, k * 4 + 3, none⟩ = some (.string x.o) ∧ w'.cell? ⟨p, 2, none⟩ = some (.int .i64 s.last) ∧ w'.cell? ⟨p', 2, none⟩ = some (.int .i64 s.last)) ∧ Hid (Below wd.heap.size wd w')) := hid (by
              have hb0 : Below wd.heap.size wd ((wd.alloc (.cells #[.int .u8 x.k, .string x.c, .string x.r, .string x.o] 30)).drew) := (by repeat (first | (with_reducible exact Below.refl _ _) | (with_reducible refine Below.setCell ?_ (by first | (simp; done) | (simp; omega) | omega) _) | (with_reducible refine Below.alloc ?_ (by first | (simp; done) | (simp; omega) | omega) _) | (with_reducible refine Below.drew ?_)))
              refine (HS2.out _ _ (HBc.out.trans (hb0.mono HBc.out.size)) (heap_alloc_new _ _)).mono fun e w' h => ?_
              have hb2 := hb0.trans (h.2.mono hb0.size)
              exact ⟨h.1, HKeep.out w' (HBc.out.trans (hb2.mono HBc.out.size)), hid hb2⟩)
            have HF1 : Hid (Calls Try.prog 10 #[ptr p', .int .i64 s.last, .slice (some ⟨wd.heap.size, 0, none⟩) 1 1] (((wd.alloc (.cells #[.int .u8 x.k, .string x.c, .string x.r, .string x.o] 30)).alloc (.cells #[.int .i64 0, .int .i64 0, .int .i64 0, .int .i64 0, .int .i64 0, .int .i64 0] 32)).drew) fun e w' => e = .returned (.tuple #[.agg #[.int .i64 J1, .int .i64 J2, .int .i64 J3, .int .i64 J4, .int .i64 J5, .int .i64 J6], .int .i64 n1, .int .i64 e1]) ∧ (w'.cell? ⟨gb, k * 4, none⟩ = some (.int .u8 x.k) ∧ w'.cell? ⟨gb, k * 4 + 1, none⟩ = some (.string x.c) ∧ w'.cell? ⟨gb, k * 4 + 2, none⟩ = some (.string x.r) ∧ w'.cell? ⟨gb, k * 4 + 3, none⟩ = some (.string x.o) ∧ w'.cell? ⟨gc, k * 4, none⟩ = some (.int .u8 x.k) ∧ w'.cell? ⟨gc, k * 4 + 1, none⟩ = some (.string x.c) ∧ w'.cell? ⟨gc, k * 4 + 2, none⟩ = some (.string x.r) ∧ w'.cell? ⟨gc, k * 4 + 3, none⟩ = some (.string x.o) ∧ w'.cell? ⟨p, 2, none⟩ = some (.int .i64 s.last) ∧ w'.cell? ⟨p', 2, none⟩ = some (.int .i64 s.last)) ∧ (w'.cell? ⟨wd.heap.size + 1, 0, none⟩ = some (.int .i64 0) ∧ w'.cell? ⟨wd.heap.size + 1, 1, none⟩ = some (.int .i64 0) ∧ w'.cell? ⟨wd.heap.size + 1, 2, none⟩ = some (.int .i64 0) ∧ w'.cell? ⟨wd.heap.size + 1, 3, none⟩ = some (.int .i64 0) ∧ w'.cell? ⟨wd.heap.size + 1, 4, none⟩ = some (.int .i64 0) ∧ w'.cell? ⟨wd.heap.size + 1, 5, none⟩ = some (.int .i64 0) ∧ w'.frozen? ⟨wd.heap.size + 1, 0, none⟩ = false ∧ w'.frozen? ⟨wd.heap.size + 1, 1, none⟩ = false ∧ w'.frozen? ⟨wd.heap.size + 1, 2, none⟩ = false ∧ w'.frozen? ⟨wd.heap.size + 1, 3, none⟩ = false ∧ w'.frozen? ⟨wd.heap.size + 1, 4, none⟩ = false ∧ w'.frozen? ⟨wd.heap.size + 1, 5, none⟩ = false) ∧ Hid (w'.heap[wd.heap.size + 1]? = some (.cells (cl zeroC) 32)) ∧ Hid (Below wd.heap.size wd w')) := hid (by
              have hb0 : Below wd.heap.size wd (((wd.alloc (.cells #[.int .u8 x.k, .string x.c, .string x.r, .string x.o] 30)).alloc (.cells #[.int .i64 0, .int .i64 0, .int .i64 0, .int .i64 0, .int .i64 0, .int .i64 0] 32)).drew) := (by repeat (first | (with_reducible exact Below.refl _ _) | (with_reducible refine Below.setCell ?_ (by first | (simp; done) | (simp; omega) | omega) _) | (with_reducible refine Below.alloc ?_ (by first | (simp; done) | (simp; omega) | omega) _) | (with_reducible refine Below.drew ?_)))
              have hz : (((wd.alloc (.cells #[.int .u8 x.k, .string x.c, .string x.r, .string x.o] 30)).alloc (.cells #[.int .i64 0, .int .i64 0, .int .i64 0, .int .i64 0, .int .i64 0, .int .i64 0] 32)).drew).heap[wd.heap.size + 1]? = some (.cells (cl zeroC) 32) := (heap2 _ _ _).2
              refine (HS2.out _ _ (HBc.out.trans (hb0.mono HBc.out.size)) (heap2 _ _ _).1).mono fun e w' h => ?_
              have hb2 := hb0.trans (h.2.mono hb0.size)
              have hz2 := (h.2.block _ (Array.getElem?_eq_some_iff.1 hz).1).trans hz
              obtain ⟨⟨y0, y1, y2, y3, y4, y5⟩, ⟨v0, v1, v2, v3, v4, v5⟩⟩ := cl_at hz2
              simp only [Nat.zero_add, zeroC] at y0 y1 y2 y3 y4 y5 v0 v1 v2 v3 v4 v5
              exact ⟨h.1, HKeep.out w' (HBc.out.trans (hb2.mono HBc.out.size)), ⟨y0, y1, y2, y3, y4, y5, v0, v1, v2, v3, v4, v5⟩, hid hz2, hid hb2⟩)
            have HF2 : Hid (Calls Try.prog 10 #[ptr p', .int .i64 s.last, .slice (some ⟨wd.heap.size + 1, 0, none⟩) 1 1] (((wd.alloc (.cells #[.int .i64 0, .int .i64 0, .int .i64 0, .int .i64 0, .int .i64 0, .int .i64 0] 32)).alloc (.cells #[.int .u8 x.k, .string x.c, .string x.r, .string x.o] 30)).drew) fun e w' => e = .returned (.tuple #[.agg #[.int .i64 J1, .int .i64 J2, .int .i64 J3, .int .i64 J4, .int .i64 J5, .int .i64 J6], .int .i64 n1, .int .i64 e1]) ∧ (w'.cell? ⟨gb, k * 4, none⟩ = some (.int .u8 x.k) ∧ w'.cell? ⟨gb, k * 4 + 1, none⟩ = some (.string x.c) ∧ w'.cell? ⟨gb, k * 4 + 2, none⟩ = some (.string x.r) ∧ w'.cell? ⟨gb, k * 4 + 3, none⟩ = some (.string x.o) ∧ w'.cell? ⟨gc, k * 4, none⟩ = some (.int .u8 x.k) ∧ w'.cell? ⟨gc, k * 4 + 1, none⟩ = some (.string x.c) ∧ w'.cell? ⟨gc, k * 4 + 2, none⟩ = some (.string x.r) ∧ w'.cell? ⟨gc, k * 4 + 3, none⟩ = some (.string x.o) ∧ w'.cell? ⟨p, 2, none⟩ = some (.int .i64 s.last) ∧ w'.cell? ⟨p', 2, none⟩ = some (.int .i64 s.last)) ∧ (w'.cell? ⟨wd.heap.size, 0, none⟩ = some (.int .i64 0) ∧ w'.cell? ⟨wd.heap.size, 1, none⟩ = some (.int .i64 0) ∧ w'.cell? ⟨wd.heap.size, 2, none⟩ = some (.int .i64 0) ∧ w'.cell? ⟨wd.heap.size, 3, none⟩ = some (.int .i64 0) ∧ w'.cell? ⟨wd.heap.size, 4, none⟩ = some (.int .i64 0) ∧ w'.cell? ⟨wd.heap.size, 5, none⟩ = some (.int .i64 0) ∧ w'.frozen? ⟨wd.heap.size, 0, none⟩ = false ∧ w'.frozen? ⟨wd.heap.size, 1, none⟩ = false ∧ w'.frozen? ⟨wd.heap.size, 2, none⟩ = false ∧ w'.frozen? ⟨wd.heap.size, 3, none⟩ = false ∧ w'.frozen? ⟨wd.heap.size, 4, none⟩ = false ∧ w'.frozen? ⟨wd.heap.size, 5, none⟩ = false) ∧ Hid (w'.heap[wd.heap.size]? = some (.cells (cl zeroC) 32)) ∧ Hid (Below wd.heap.size wd w')) := hid (by
              have hb0 : Below wd.heap.size wd (((wd.alloc (.cells #[.int .i64 0, .int .i64 0, .int .i64 0, .int .i64 0, .int .i64 0, .int .i64 0] 32)).alloc (.cells #[.int .u8 x.k, .string x.c, .string x.r, .string x.o] 30)).drew) := (by repeat (first | (with_reducible exact Below.refl _ _) | (with_reducible refine Below.setCell ?_ (by first | (simp; done) | (simp; omega) | omega) _) | (with_reducible refine Below.alloc ?_ (by first | (simp; done) | (simp; omega) | omega) _) | (with_reducible refine Below.drew ?_)))
              have hz : (((wd.alloc (.cells #[.int .i64 0, .int .i64 0, .int .i64 0, .int .i64 0, .int .i64 0, .int .i64 0] 32)).alloc (.cells #[.int .u8 x.k, .string x.c, .string x.r, .string x.o] 30)).drew).heap[wd.heap.size]? = some (.cells (cl zeroC) 32) := (heap2 _ _ _).1
              refine (HS2.out _ _ (HBc.out.trans (hb0.mono HBc.out.size)) (heap2 _ _ _).2).mono fun e w' h => ?_
              have hb2 := hb0.trans (h.2.mono hb0.size)
              have hz2 := (h.2.block _ (Array.getElem?_eq_some_iff.1 hz).1).trans hz
              obtain ⟨⟨y0, y1, y2, y3, y4, y5⟩, ⟨v0, v1, v2, v3, v4, v5⟩⟩ := cl_at hz2
              simp only [Nat.zero_add, zeroC] at y0 y1 y2 y3 y4 y5 v0 v1 v2 v3 v4 v5
              exact ⟨h.1, HKeep.out w' (HBc.out.trans (hb2.mono HBc.out.size)), ⟨y0, y1, y2, y3, y4, y5, v0, v1, v2, v3, v4, v5⟩, hid hz2, hid hb2⟩)
            clear c0 c1 c2 c3 c8 hgb3 hp2'
            go_region_held3 (fun w' => w'.cell? ⟨gc, k * 4, none⟩ = some (.int .u8 x.k) ∧ w'.cell? ⟨gc, k * 4 + 1, none⟩ = some (.string x.c) ∧ w'.cell? ⟨gc, k * 4 + 2, none⟩ = some (.string x.r) ∧ w'.cell? ⟨gc, k * 4 + 3, none⟩ = some (.string x.o) ∧ w'.cell? ⟨p', 2, none⟩ = some (.int .i64 s.last)) (first | with_reducible assumption | (go_split_ands; refine ⟨?_, ?_, ?_, ?_, ?_⟩ <;> with_reducible exact keep6 (by with_reducible assumption) (by omega)) | go_keep) (first | (go_at_call 11; refine (last_at p' s.last _ (by first | with_reducible assumption | go_cell | exact c9)).mono ?_; rintro e wL ⟨rfl, rfl⟩) | (go_at_call 10; with_reducible refine HF0.out.mono ?_; rintro e wA ⟨rfl, ⟨k0, k1, k2, k3, k4, k5, k6, k7, k8, k9⟩, HbA⟩; clear k0 k1 k2 k3 k8) | (go_at_call 10; with_reducible refine HF1.out.mono ?_; rintro e wA ⟨rfl, ⟨k0, k1, k2, k3, k4, k5, k6, k7, k8, k9⟩, ⟨y0, y1, y2, y3, y4, y5, v0, v1, v2, v3, v4, v5⟩, HZA, HbA⟩; clear k0 k1 k2 k3 k8) | (go_at_call 10; with_reducible refine HF2.out.mono ?_; rintro e wA ⟨rfl, ⟨k0, k1, k2, k3, k4, k5, k6, k7, k8, k9⟩, ⟨y0, y1, y2, y3, y4, y5, v0, v1, v2, v3, v4, v5⟩, HZA, HbA⟩; clear k0 k1 k2 k3 k8))
            all_goals first | go_meet | (go_wp2_with fail; go_meet)
            all_goals first | with_reducible exact box_new HbA.out | with_reducible exact box_end1 HZA.out HbA.out | with_reducible exact box_end0 HZA.out HbA.out
          case rest =>
          obtain ⟨by_, rfl, rfl, rfl, hxby_, hbby_⟩ := hcut
          have HBd := hid (HBc.out.trans (hbby_.mono HBc.out.size))
          have hxbx2 := (hbby_.block bx (Array.getElem?_eq_some_iff.1 HXb.out).1).trans HXb.out
          obtain ⟨⟨y0, y1, y2, y3, y4, y5⟩, -⟩ := cl_at hxbx2
          obtain ⟨⟨z0, z1, z2, z3, z4, z5⟩, -⟩ := cl_at hxby_
          simp only [Nat.zero_add] at y0 y1 y2 y3 y4 y5 z0 z1 z2 z3 z4 z5
          clear c0 c1 c2 c3 c4 c5 c6 c7 c8 c9 hgb3 hgc3 hp2' hp3' hxbx2 hxby_ hbby_
          obtain ⟨c0, c1, c2, c3, c4, c5, c6, c7, -, -⟩ := HKeep.out wc HBd.out
          generalize hwe : wc = we at *
          clear hwe
          go_upto_region 21 with fail
          go_quiet (fail)
          clear c0 c1 c2 c3 c4 c5 c6 c7 y0 y1 y2 y3 y4 y5 z0 z1 z2 z3 z4 z5
          go_wp2_with fail
          go_roundw
          case rel => exact ⟨k + 1, hlt2, by go_num, below_drewN HBd.out _⟩
          case measure => simp [intOf]; omega
        · obtain rfl : k = j := by omega
          have HE := hid (HBw7.out.trans (HBz.out.mono HBw7.out.size))
          go_wp2_with fail
          go_ret
          exact ⟨rfl, HE.out⟩

/-- the law's main, of TreeOwn -/
theorem main {H : Type} {enc : TypeId × Value → H} {W : World} {base : Nat} {spare : Nat → Bool} {held : Bool} (a : Option Addr) (n cap : Nat) {d : DataW H} {p : List MemPlace} (h : DataW.Trod enc Try.prog W base spare held 22 (.slice a n cap) d p) (hw : ∀ m ∈ d.weights Try.prog 22, m ≤ reachBytes) (t : Int) (_ : (Lit.int .i64 t).wf = true) :
    Calls Try.prog 5 #[.slice a n cap, .int .i64 t] W fun e W' => e = .returned (.bool true) ∧ Below W.heap.size W W' := by
  obtain ⟨f, h1, h2, h3⟩ := deeds_of h hw
  exact own_core a n cap f t W h2 h1 h3

end Go.Proofs.Ytaaeeilfpchpnaa.TreAi

namespace Go.Proofs.Ytaaeeilfpchpnaa.treeOwn
open Go.ChangeShapes Go.WideShapes Go.ChangeAt Go.RowKit Go.Deep
open Go.ChangeMaps (open_string shut_string)
set_option linter.unusedVariables false

theorem own : ownKnob Try.prog.godebug = none := by kernel_rfl
theorem laidOut : laidOutB Try.prog = true := by kernel_rfl

set_option maxRecDepth 100000 in
theorem lifted (os : Os) (started : os.Started) (H : Type) (enc : TypeId × Value → H) :
    ReturnsInHanded {} Try.checked os 5 .any (Rows.treeOwnSpec.pre6 enc Try.prog Try.f5 Rows.treeOwnRow.domain false) (Rows.treeOwnSpec.post enc Try.prog Try.f5 false true false false) := by
  refine returnsInHanded_of_change_sized (C := Try.checked) own started (by kernel_rfl) Try.func5
    (ChangeSpec.witness6 (enc := enc) (C := Try.checked) false ⟨#[], #[.slice none 0 0, .int .i64 0], []⟩ 8 (by kernel_rfl) (by kernel_rfl) (by kernel_rfl) (by kernel_rfl)) ?_
  intro W base args ds gs before hval0 hW hcnd hsz0 _
  have hval : ∀ (j : Nat) t v, Try.f5.params[j]? = some t → args[j]? = some v → Value.okWide Try.prog W .any base t v := hval0
  have hW' := hW
  obtain ⟨p, q, hA0, hV, rfl, hfz, hnd⟩ := hW
  have hA : DataW.TrodAll enc Try.prog W 0 (fun _ => true) true Try.f5.params.toList args.toList ds p := hA0
  rw [Try.params5] at hA hval
  obtain ⟨v0, vs0, d0, ds0, p0, q0, hargs, rfl, rfl, h0, r0⟩ := trodAll_cons hA
  obtain ⟨v1, vs1, d1, ds1, p1, q1, rfl, rfl, rfl, h1, r1⟩ := trodAll_cons r0
  obtain ⟨rfl, rfl, rfl⟩ := trodAll_nil r1
  obtain rfl : args = #[v0, v1] := by cases args; simp_all
  obtain ⟨rfl, rfl⟩ := trodVars_none hV
  obtain ⟨a0, len0, cap0, rfl⟩ := okWide_slice Try.underlying22 (hval 0 22 v0 rfl rfl)
  obtain ⟨a1, rfl⟩ := okWide_int Try.underlying3 (hval 1 3 v1 rfl rfl)
  have w1 : (Lit.int .i64 a1).wf = true := by
    obtain ⟨fuel, hf⟩ := h1
    obtain ⟨n0, e0, _, hw⟩ := DataW.trod_int Try.underlying3 hf
    simp [Value.cells] at e0
    exact e0 ▸ hw
  have k0 := h0
  have lt0 : ∀ x ∈ p0, x.block < W.heap.size := by obtain ⟨m, hm⟩ := k0; exact DataW.trod_lt m _ _ _ hm
  have k1 := h1
  have lt1 : ∀ x ∈ p1, x.block < W.heap.size := by obtain ⟨m, hm⟩ := k1; exact DataW.trod_lt m _ _ _ hm
  clear hA0 hval0
  refine (TreAi.main a0 len0 cap0 h0 (fun m hm => by have := List.all_eq_true.1 hsz0 m (DataW.weights_mem_each (j := 0) rfl rfl m hm); simpa using this) a1 w1).mono fun e W' ⟨he, bel⟩ => ?_
  subst he
  exact ⟨_, rfl, _, _, _, [], _, [], hW', trodAll_mk1 (shut_bool Try.underlying4 _), (trodAll_cons_mk (Below.trod laidOut (by kernel_rfl) (of_decide_eq_true (by kernel_rfl)) k0 bel lt0) (trodAll_cons_mk (Below.trod laidOut (by kernel_rfl) (of_decide_eq_true (by kernel_rfl)) k1 bel lt1) trodAll_mk0)), rfl, bel.frame _, fun h => by cases h⟩

theorem over : Rows.treeOwnRow.holds Try.pinned (OpenSpec.ofChange Rows.treeOwnSpec) :=
  OpenClaim.holds_of_wide 5 Try.f5 rfl rfl rfl rfl rfl rfl rfl ⟨rfl, rfl, rfl, rfl, rfl⟩ rfl rfl rfl rfl rfl (by kernel_rfl) Try.func5 (by kernel_rfl)
    (of_decide_eq_true (by kernel_rfl)) (by unfold Func.isWrapper; first | (rw [if_pos (by decide +kernel)]; kernel_rfl) | (rw [if_neg (by decide +kernel)]; exact ⟨rfl, rfl⟩))
    (fun os started H enc _ => lifted os started H enc)

theorem proved : Rows.TreeOwnSaid := over
#print axioms proved
end Go.Proofs.Ytaaeeilfpchpnaa.treeOwn
