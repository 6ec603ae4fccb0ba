/- The document's Add. -/
import Derived.Test.YtnpldfacnmhemaaSruB
import Derived.Deep.RegionLaw
import Derived.Maps.AppendAt
namespace Go.Proofs.Ytnpldfacnmhemaa.SruC
open Go.ChangeShapes Go.WideShapes Go.ChangeAt Go.RowKit Go.Deep Base Wri Map WldA WldF WldG SkK SkA SkB SkC SkD SkE SkF SkG SkH SkI SkJ SkL SkM SkN SkP SkQ SkR SkS SkT SruA SruB
set_option linter.unusedVariables false

theorem infoNote : (Try.prog.info? 104).map (fun i => (i.zero, i.size, i.bytes)) = some (some (.agg #[.int .i64 0, .int .i64 0, .string ⟨#[]⟩]), 3, 32) := by kernel_rfl

/-- the notes of one Add -/
def newR (t : Nat) (s : ByteArray) (f : Nat → Int) (n : Nat) : List Note := (List.range n).map fun i => ⟨t, s, (f i).toNat⟩

theorem newR_len (t : Nat) (s : ByteArray) (f : Nat → Int) (n : Nat) : (newR t s f n).length = n := by simp [newR]
theorem newR_succ (t : Nat) (s : ByteArray) (f : Nat → Int) (n : Nat) : newR t s f (n + 1) = newR t s f n ++ [⟨t, s, (f n).toNat⟩] := by simp [newR, List.range_succ]

variable {w w' : World} {b B : Nat} {X : Shp} {q last t : Nat} {rv : Value} {rs : List Note}

/-- k notes more -/
structure More (w : World) (b B : Nat) (rv : Value) (rs : List Note) (t : Nat) (s : ByteArray) (f : Nat → Int) (k : Nat) (v : Value) (wr : World) : Prop where
  c5 : wr.cell? ⟨b, 5, none⟩ = some v
  f5 : wr.frozen? ⟨b, 5, none⟩ = false
  own : wr.ownsRow B 104 3 v (rs.length + k) (cellsR (rs ++ newR t s f k))
  off : ∀ g, v.ownBlock = some g → g ≠ b ∧ (rv.ownBlock = some g ∨ w.heap.size ≤ g)
  wrote : Wr (fun j => j = b ∨ rv.ownBlock = some j) w wr
  rest : ∀ j, j ≠ 5 → wr.cell? ⟨b, j, none⟩ = w.cell? ⟨b, j, none⟩ ∧ wr.frozen? ⟨b, j, none⟩ = w.frozen? ⟨b, j, none⟩

def RAddPost (w : World) (b B : Nat) (X : Shp) (q last : Nat) (rv : Value) (rs : List Note) (tt : Int) (s : ByteArray) (f : Nat → Int) (n : Nat) (e : Ending) (w' : World) : Prop :=
  e = .returned (.int .i64 (refT last tt (goodC f n))) ∧ (refT last tt (goodC f n) ≠ 0 → Below w.heap.size w w') ∧
    (refT last tt (goodC f n) = 0 → ∃ rv', IsRS w' b B X q tt.toNat rv' (rs ++ newR tt.toNat s f n) ∧ (∀ g, rv'.ownBlock = some g → rv.ownBlock = some g ∨ w.heap.size ≤ g) ∧ Wr (fun j => j = b ∨ rv.ownBlock = some j) w w')

theorem good_take {f : Nat → Int} {n : Nat} : goodC f n = false → ∃ i, i < n ∧ (f i < 0 ∨ 1099511627776 < f i) := by
  intro h
  refine Classical.byContradiction fun hn => ?_
  have : goodC f n = true := good_iff.2 fun i hi => ⟨by
    refine Classical.byContradiction fun h2 => hn ⟨i, hi, .inl (by omega)⟩, by
    refine Classical.byContradiction fun h2 => hn ⟨i, hi, .inr (by omega)⟩⟩
  rw [h] at this
  cases this

set_option maxRecDepth 20000 in
set_option maxHeartbeats 2000000 in
theorem radd_no (h : IsRS w b B X q last rv rs) (tt : Int) (s : ByteArray) (a : Option Addr) (n cap : Nat) (f : Nat → Int) (hn : n ≤ 9223372036854775807) (hI : Ints w a n f) (r : Int) (hr : refT last tt (goodC f n) = r) (h0 : r ≠ 0) :
    Calls Try.prog 12 #[.pointer (some ⟨b, 0, none⟩), .int .i64 tt, .string s, .slice a n cap] w fun e w' => e = .returned (.int .i64 r) ∧ w = w' := by
  have HI := hid hI
  have HW := hid (wrong_any b last tt w h.c6)
  have hd : (r != 0) = true := by simpa using h0
  have hd2 : (r == 0) = false := by simpa using h0
  have HB : Hid (goodC f n = false → r = 2) := hid (fun e => by rw [← hr, e]; unfold refT; rw [if_pos (.inl rfl)])
  have HT : Hid (goodC f n = true → refT last tt true = r) := hid (fun e => by rw [← hr, e])
  clear hr h0 hI h
  go_enter Try.func12, Try.ntmps12
  go_wp2_with fail
  go_loop [9] (fun i => ∃ k : Nat, k ≤ n ∧ i = .int .i64 k ∧ ∀ j, j < k → 0 ≤ f j ∧ f j ≤ 1099511627776) (fun i => n - (intOf i).toNat)
  case atStart => exact ⟨0, Nat.zero_le _, rfl, fun j hj => by omega⟩
  case round =>
    obtain ⟨k, hk, rfl, hgo⟩ := hrel
    have HG := hid hgo
    clear hgo
    by_cases hlt : k < n
    · obtain ⟨g, o, rfl, hg, hc⟩ := HI.out (by omega)
      have c0 := hc k hlt
      have HX : Hid (∀ x, f k = x → 0 ≤ x → x ≤ 1099511627776 → ∀ j, j < k + 1 → 0 ≤ f j ∧ f j ≤ 1099511627776) := hid (fun x hx h1 h2 j hj => by
        by_cases e : j = k
        · subst e; omega
        · exact HG.out j (by omega))
      have HBD : Hid (∀ x, f k = x → (x < 0 ∨ 1099511627776 < x) → r = 2) := hid (fun x hx h1 => HB.out (by
        cases e : goodC f n
        · rfl
        · have := good_iff.1 e k hlt; omega))
      clear hc
      obtain ⟨x, hx⟩ : ∃ x, f k = x := ⟨_, rfl⟩
      rw [hx] at c0
      have HXX := hid hx
      have hk1 : (k : Int) < (n : Int) := by omega
      clear hx
      by_cases h1 : x < 0
      · have h2 := HBD.out x HXX.out (.inl h1)
        subst h2
        go_wp2_with fail
        go_ret
        exact ⟨rfl, rfl⟩
      · have hd1 : decide (x < 0) = false := by simp; omega
        by_cases h3 : 1099511627776 < x
        · have h2 := HBD.out x HXX.out (.inr h3)
          subst h2
          go_wp2_with fail
          go_ret
          exact ⟨rfl, rfl⟩
        · have hd3 : decide (1099511627776 < x) = false := by simp; omega
          have HN := hid (HX.out x HXX.out (by omega) (by omega))
          clear HX HBD
          go_wp2_with fail
          go_round
          case rel => exact ⟨k + 1, by omega, by go_num, HN.out⟩
          case measure => simp [intOf]; omega
    · obtain rfl : k = n := by omega
      have hg : goodC f k = true := good_iff.2 HG.out
      rw [HT.out hg] at HW
      clear hg
      go_wp2_with fail
      refine HW.out.mono ?_
      rintro e w1 ⟨rfl, rfl⟩
      go_wp2_with fail
      go_ret
      exact ⟨rfl, rfl⟩

theorem More.step {s : ByteArray} {f : Nat → Int} {m x g6 c6 : Nat} {va : Option Addr} {vc : Nat} {wr w6 : World} {o : Obj} (hb : b < w.heap.size) (h : More w b B rv rs t s f m (.slice va (rs.length + m) vc) wr) (hx : rs ++ newR t s f (m + 1) = (rs ++ newR t s f m) ++ [⟨t, s, x⟩])
    (hown : w6.ownsRow B 104 3 (.slice (some ⟨g6, 0, none⟩) (rs.length + m + 1) c6) (rs.length + m + 1) (cellsR (rs ++ newR t s f m) ++ [.int .i64 t, .int .i64 x, .string s])) (hgr : (wr.alloc o).drew.grownBy w6 (Value.slice va (rs.length + m) vc).ownBlock)
    (hat : (Value.slice va (rs.length + m) vc).ownBlock = some g6 ∨ g6 = wr.heap.size + 1) : More w b B rv rs t s f (m + 1) (.slice (some ⟨g6, 0, none⟩) (rs.length + m + 1) c6) (w6.setCell ⟨b, 5, none⟩ (.slice (some ⟨g6, 0, none⟩) (rs.length + m + 1) c6)) := by
  have hs := h.wrote.size
  have hal : Below wr.heap.size wr (wr.alloc o).drew := ((Below.refl _ wr).alloc (Nat.le_refl _) _).drew
  have hals := hal.size
  have e6 : w6.heap[b]? = wr.heap[b]? := (hgr.block b (by omega) (fun e => (h.off b e.symm).1 rfl)).trans (hal.block b (by omega))
  have hg6 : ∀ g, (Value.slice (some ⟨g6, 0, none⟩) (rs.length + m + 1) c6).ownBlock = some g → g ≠ b ∧ (rv.ownBlock = some g ∨ w.heap.size ≤ g) := fun g hg => by
    have e : g6 = g := Option.some.inj hg
    rw [← e]
    rcases hat with h1 | h1
    · exact h.off g6 h1
    · exact ⟨by omega, .inr (by omega)⟩
  refine ⟨World.cell?_setCell_same _ _ _ ((World.cell?_of_block (a := ⟨b, 5, none⟩) e6).trans h.c5), by rw [World.frozen?_setCell]; exact (World.frozen?_of_block (a := ⟨b, 5, none⟩) e6).trans h.f5, ?_, hg6, ?_, fun j hj => ⟨?_, ?_⟩⟩
  · rw [hx, cellsR_app]
    refine owns_keep hown (fun g hg => (grown_set w6 ⟨b, 5, none⟩ _).block g (hown.lt g hg).2 (fun e => ?_))
    exact (hg6 g hg).1 (Option.some.inj e)
  · refine Wr.on (Wr.on (Wr.on h.wrote (Wr.ofBelow (R := fun _ => False) hal) (fun k e => e.elim)) (Wr.ofGrown hgr (R := fun k => (Value.slice va (rs.length + m) vc).ownBlock = some k) (fun k e => e)) (fun k e => ?_)) (Wr.set (R := fun k => k = b) ⟨b, 5, none⟩ _ rfl) (fun k e => .inl (.inl e))
    rcases (h.off k e).2 with h1 | h1
    · exact .inl (.inr h1)
    · exact .inr h1
  · rw [World.cell?_setCell_other _ _ _ _ (by intro e2; cases e2; exact hj rfl)]
    exact (World.cell?_of_block (a := ⟨b, j, none⟩) e6).trans (h.rest j hj).1
  · rw [World.frozen?_setCell]
    exact (World.frozen?_of_block (a := ⟨b, j, none⟩) e6).trans (h.rest j hj).2

theorem More.done {s : ByteArray} {f : Nat → Int} {n : Nat} {v : Value} {wr : World} (hS : IsRS w b B X q last rv rs) (h : More w b B rv rs t s f n v wr) (ht : last ≤ t) (ht2 : t ≤ 1152921504606846976) (hs : s.size ≤ maxLen) (hf : ∀ i, i < n → 0 ≤ f i ∧ f i ≤ 1099511627776) (hfew : rs.length + n ≤ 2000000) :
    IsRS (wr.setCell ⟨b, 6, none⟩ (.int .i64 t)) b B X q t v (rs ++ newR t s f n) := by
  have o : ∀ j, j ≠ 6 → (wr.setCell ⟨b, 6, none⟩ (.int .i64 t)).cell? ⟨b, j, none⟩ = wr.cell? ⟨b, j, none⟩ := fun j hj => World.cell?_setCell_other _ _ _ _ (by intro e2; cases e2; exact hj rfl)
  refine ⟨hS.ok, hS.seed, (o 0 (by omega)).trans ((h.rest 0 (by omega)).1.trans hS.c0), (o 1 (by omega)).trans ((h.rest 1 (by omega)).1.trans hS.c1), (o 2 (by omega)).trans ((h.rest 2 (by omega)).1.trans hS.c2), (o 3 (by omega)).trans ((h.rest 3 (by omega)).1.trans hS.c3), (o 4 (by omega)).trans ((h.rest 4 (by omega)).1.trans hS.c4), (o 5 (by omega)).trans h.c5,
    World.cell?_setCell_same _ _ _ ((h.rest 6 (by omega)).1.trans hS.c6), by rw [World.frozen?_setCell]; exact h.f5, by rw [World.frozen?_setCell]; exact (h.rest 6 (by omega)).2.trans hS.f6, ?_, fun g hg => (h.off g hg).1, ht2, fun x hx => ?_, by rw [List.length_append, newR_len]; exact hfew⟩
  · rw [List.length_append, newR_len]
    refine owns_keep h.own (fun g hg => (grown_set wr ⟨b, 6, none⟩ _).block g (h.own.lt g hg).2 (fun e => (h.off g hg).1 (Option.some.inj e)))
  · rcases List.mem_append.1 hx with hx | hx
    · have := hS.all x hx
      exact ⟨by omega, this.2⟩
    · unfold newR at hx
      obtain ⟨i, hi, rfl⟩ := List.mem_map.1 hx
      have := hf i (List.mem_range.1 hi)
      exact ⟨Nat.le_refl _, by dsimp only; omega, hs⟩

set_option maxRecDepth 20000 in
set_option maxHeartbeats 4000000 in
theorem radd_yes (h : IsRS w b B X q last rv rs) (hB : B ≤ w.heap.size) (t : Nat) (ht : last ≤ t) (ht2 : t ≤ 1152921504606846976) (s : ByteArray) (hs : s.size ≤ maxLen) (a : Option Addr) (n cap : Nat) (f : Nat → Int) (hfew : rs.length + n ≤ 2000000) (hI : Ints w a n f) (hgood : goodC f n = true) (hoff : ∀ g o, a = some ⟨g, o, none⟩ → 0 < n → g ≠ b ∧ rv.ownBlock ≠ some g) :
    Calls Try.prog 12 #[.pointer (some ⟨b, 0, none⟩), .int .i64 t, .string s, .slice a n cap] w fun e w' => e = .returned (.int .i64 0) ∧ ∃ rv', IsRS w' b B X q t rv' (rs ++ newR t s f n) ∧ (∀ g, rv'.ownBlock = some g → rv.ownBlock = some g ∨ w.heap.size ≤ g) ∧ Wr (fun j => j = b ∨ rv.ownBlock = some j) w w' := by
  obtain ⟨i0, hi, hz0, hz1, hz2⟩ := info_parts infoNote
  have HH := hid h
  have HI := hid hI
  have HW := hid (wrong_any b last t w h.c6)
  have e0 : refT last t true = 0 := by unfold refT; rw [if_neg (by simp; omega), if_neg (by omega)]
  rw [e0] at HW
  have HG := hid (good_iff.1 hgood)
  have HOF := hid hoff
  have hb := h.lt
  clear hI h hgood e0 hoff
  go_enter Try.func12, Try.ntmps12
  go_wp2_with fail
  go_loop [9] (fun i => ∃ k : Nat, k ≤ n ∧ i = .int .i64 k) (fun i => n - (intOf i).toNat)
  case atStart => exact ⟨0, Nat.zero_le _, rfl⟩
  case round =>
    obtain ⟨k, hk, rfl⟩ := hrel
    by_cases hlt : k < n
    · obtain ⟨g, o, rfl, hg, hc⟩ := HI.out (by omega)
      have c0 := hc k hlt
      have hgk := HG.out k hlt
      generalize f k = x at c0 hgk
      have hd1 : decide (x < 0) = false := by simp; omega
      have hd3 : decide (1099511627776 < x) = false := by simp; omega
      have hk1 : (k : Int) < (n : Int) := by omega
      clear hc
      go_wp2_with fail
      go_round
      case rel => exact ⟨k + 1, by omega, by go_num⟩
      case measure => simp [intOf]; omega
    · obtain rfl : k = n := by omega
      go_wp2_with fail
      refine HW.out.mono ?_
      rintro e w1 ⟨rfl, rfl⟩
      go_wp2_with fail
      go_loopw [11] (fun i wr => ∃ (m : Nat) (v : Value), m ≤ k ∧ i = .int .i64 m ∧ More w b B rv rs t s f m v wr) (fun i _ => k - (intOf i).toNat)
      case atStart => exact ⟨0, rv, Nat.zero_le _, rfl, ⟨HH.out.c5, HH.out.f5, by rw [show newR t s f 0 = [] from rfl, List.append_nil]; exact HH.out.own, fun g hg => ⟨HH.out.off g hg, .inl hg⟩, Wr.refl _ _, fun j _ => ⟨rfl, rfl⟩⟩⟩
      case round =>
        obtain ⟨m, v, hm, rfl, hM⟩ := hrel
        obtain ⟨va, vc, rfl⟩ := owns_shape hM.own
        have HM := hid hM
        clear hM
        have c5 := HM.out.c5
        have hws := HM.out.wrote.size
        by_cases hlt : m < k
        · obtain ⟨g, o, rfl, hg, hc⟩ := HI.out (by omega)
          have hne := HOF.out g o rfl (by omega)
          have cm : wr.cell? ⟨g, o + m, none⟩ = some (.int .i64 (f m)) := (HM.out.wrote.cell (o + m) hg (fun e => e.elim hne.1 hne.2)).trans (hc m hlt)
          have hfm := HG.out m hlt
          have HNW : Hid (rs ++ newR t s f (m + 1) = (rs ++ newR t s f m) ++ [⟨t, s, (f m).toNat⟩]) := hid (by rw [newR_succ, List.append_assoc])
          obtain ⟨x, hx⟩ : ∃ x, (f m).toNat = x := ⟨_, rfl⟩
          have hfx : f m = (x : Int) := by omega
          rw [hfx] at cm
          rw [hx] at HNW
          have hxm : x ≤ 1099511627776 := by omega
          clear hx hc hfx
          have hm1 : (m : Int) < (k : Int) := by omega
          have hownP : (wr.alloc (.cells #[.int .i64 t, .int .i64 x, .string s] 104)).drew.ownsRow B 104 3 (.slice va (rs.length + m) vc) (rs.length + m) (cellsR (rs ++ newR t s f m)) := World.ownsRow.alloc HM.out.own _
          have hbr : b < wr.heap.size := by omega
          go_wp2_with fail
          go_region_law
            ((refine step_append_lies _ (by rfl) _ _ 47 (by rfl) B 104 i0 (.agg #[.int .i64 0, .int .i64 0, .string ⟨#[]⟩]) 3 32 Try.underlying47 hi hz0 hz1 hz2 rfl (by decide) (.slice va (rs.length + m) vc) (rs.length + m) (cellsR (rs ++ newR t s f m)) (by rfl) hownP ⟨wr.heap.size, 0, none⟩ 1 1 [.int .i64 t, .int .i64 x, .string s] (by rfl) rfl (fun j u hu => by
               rw [Go.WideShapes.add_plain, Nat.zero_add]
               have hnn := heap_alloc_new wr (.cells #[.int .i64 t, .int .i64 x, .string s] 104)
               show World.cell? (wr.alloc _) _ = _
               unfold World.cell?
               rw [hnn]
               simpa using hu) (by intro u hu; simp at hu; rcases hu with rfl | rfl | rfl <;> rfl) (by decide) (by unfold maxLen; omega) (by omega) (by show B ≤ (wr.alloc _).heap.size; simp; omega) (wr.heap.size + 1) (by show (wr.alloc _).heap.size = _; simp) ?_; intro g6 c6 w6 hown6 hgr6 hat6 hlt6
              have e6 : w6.heap[b]? = wr.heap[b]? := (hgr6.block b (by show b < (wr.alloc _).heap.size; simp; omega) (fun e => (HM.out.off b e.symm).1 rfl)).trans (Below.heap_alloc wr _ b hbr)
              have q0 : w6.cell? ⟨b, 5, none⟩ = some (.slice va (rs.length + m) vc) := (World.cell?_of_block (a := ⟨b, 5, none⟩) e6).trans c5
              have qf : w6.frozen? ⟨b, 5, none⟩ = false := (World.frozen?_of_block (a := ⟨b, 5, none⟩) e6).trans HM.out.f5
              have HO6 := hid hown6
              have HG6 := hid hgr6
              have HA6 := hid hat6
              clear hown6 hgr6 hat6 hlt6 e6 hownP))
          all_goals
            go_wp2_with fail
            exact ⟨⟨m + 1, _, by omega, by go_num, More.step hb HM.out HNW.out HO6.out HG6.out HA6.out⟩, by simp [intOf]; omega⟩
        · obtain rfl : m = k := by omega
          have c6 := (HM.out.rest 6 (by omega)).1.trans HH.out.c6
          have f6 := (HM.out.rest 6 (by omega)).2.trans HH.out.f6
          have HD := hid (More.done HH.out HM.out ht ht2 hs HG.out hfew)
          go_wp2_with fail
          go_ret
          exact ⟨rfl, _, HD.out, fun g hg => (HM.out.off g hg).2, HM.out.wrote.trans (Wr.set (R := fun j => j = b ∨ rv.ownBlock = some j) ⟨b, 6, none⟩ _ (.inl rfl))⟩

end Go.Proofs.Ytnpldfacnmhemaa.SruC
