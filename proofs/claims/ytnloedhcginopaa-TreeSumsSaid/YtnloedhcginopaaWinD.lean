/- Contract of DeleteFunc over buckets, by forget's closure. -/
import Derived.Test.YtnloedhcginopaaWinC
namespace Go.Proofs.Ytnloedhcginopaa.WinD
open Go.ChangeShapes Go.WideShapes Go.ChangeAt Go.RowKit Base WinM WinA WinB WinC WldF WldG

theorem Keeps.sets {b : Nat} {w : World} : ∀ (vs : List Value) (w' : World) (o : Nat), Keeps b w w' → Keeps b w (w'.setCells b o vs)
  | [], _, _, h => h
  | v :: vs, w', o, h => by
    show Keeps b w ((w'.setCell ⟨b, o, none⟩ v).setCells b (o + 1) vs)
    exact Keeps.sets vs _ _ (h.set o v)

theorem Keeps.put7 {b : Nat} {w w' : World} (h : Keeps b w w') (o : Nat) (x : Bkt) : Keeps b w (put7 w' b o x) :=
  ((((((h.set _ _).set _ _).set _ _).set _ _).set _ _).set _ _).set _ _

/-- the first n as a list -/
def toL (f : Nat → Bkt) (n : Nat) : List Bkt := (List.range n).map f
theorem toL_succ (f : Nat → Bkt) (n : Nat) : toL f (n + 1) = toL f n ++ [f n] := by simp [toL, List.range_succ]
theorem toL_len (f : Nat → Bkt) (n : Nat) : (toL f n).length = n := by simp [toL]
theorem toL_congr {f f' : Nat → Bkt} {n : Nat} (h : ∀ i, i < n → f i = f' i) : toL f n = toL f' n := by
  unfold toL
  exact List.map_congr_left fun i hi => h i (List.mem_range.1 hi)
/-- what stays -/
def stays (lim : Int) (l : List Bkt) : List Bkt := l.filter fun b => !decide (b.at_ < lim)
theorem stays_all {lim : Int} {f : Nat → Bkt} {n : Nat} (h : ∀ i, i < n → lim ≤ (f i).at_) : stays lim (toL f n) = toL f n := by
  unfold stays toL
  rw [List.filter_eq_self]
  intro b hb
  obtain ⟨i, hi, rfl⟩ := List.mem_map.1 hb
  simpa using h i (List.mem_range.1 hi)
theorem stays_yes {lim : Int} {f : Nat → Bkt} {n : Nat} (h : lim ≤ (f n).at_) : stays lim (toL f (n + 1)) = stays lim (toL f n) ++ [f n] := by
  rw [toL_succ]; unfold stays; rw [List.filter_append]; congr 1; rw [List.filter_cons, if_pos (by simpa using h)]; rfl
theorem stays_no {lim : Int} {f : Nat → Bkt} {n : Nat} (h : (f n).at_ < lim) : stays lim (toL f (n + 1)) = stays lim (toL f n) := by
  rw [toL_succ]; unfold stays; rw [List.filter_append, List.filter_cons, if_neg (by simpa using h)]; simp

theorem run_clear7 (w : World) (ty : TypeId) (g o n c : Nat) (hn : 0 < n) (hc : ∀ j, j < n * 7 → (w.cell? ⟨g, o + j, none⟩).isSome = true) (hf : ∀ j, j < n * 7 → w.frozen? ⟨g, o + j, none⟩ = false) :
    (Builtin.clear_ #[110] ty #[.slice (some ⟨g, o, none⟩) n c]).run Try.prog w = .ok (.tuple #[]) (w.setCells g o (List.replicate (n * 7) (.int .i64 0))) := by
  have hzv : ∀ w, (zeroValue 115).run Try.prog w = .ok (.agg #[.int .i64 0, .int .i64 0, .int .i64 0, .int .i64 0, .int .i64 0, .int .i64 0, .int .i64 0]) w := fun _ => by kernel_rfl
  have hz : (Value.agg #[.int .i64 0, .int .i64 0, .int .i64 0, .int .i64 0, .int .i64 0, .int .i64 0, .int .i64 0]).cells = #[.int .i64 0, .int .i64 0, .int .i64 0, .int .i64 0, .int .i64 0, .int .i64 0, .int .i64 0] := rfl
  have hzc : (Builtin.zeroCells #[Value.int .i64 0, .int .i64 0, .int .i64 0, .int .i64 0, .int .i64 0, .int .i64 0, .int .i64 0] n).toList = List.replicate (n * 7) (.int .i64 0) := by
    simp [Builtin.zeroCells]
    apply List.ext_getElem
    · simp
    · intro i h1 h2
      simp
      have : i % 7 < 7 := Nat.mod_lt _ (by omega)
      generalize i % 7 = r at *
      match r, this with
      | 0, _ => rfl
      | 1, _ => rfl
      | 2, _ => rfl
      | 3, _ => rfl
      | 4, _ => rfl
      | 5, _ => rfl
      | 6, _ => rfl
  have hst := run_storeCells_cells (P := Try.prog) g o (List.replicate (n * 7) (.int .i64 0)) 0 w (by simpa using hc) (by simpa using hf) (by intro v hv'; rw [List.eq_of_mem_replicate hv']; rfl)
  simp only [Nat.add_zero] at hst
  obtain ⟨m, rfl⟩ : ∃ m, n = m + 1 := ⟨n - 1, by omega⟩
  simp [Builtin.clear_, run_underlying Try.underlying110, hzv, hz, hzc, hst]

def DelPost (g cap n : Nat) (f : Nat → Bkt) (lim : Int) (w : World) (e : Ending) (w' : World) : Prop :=
  ∃ (m : Nat) (f' : Nat → Bkt), e = .returned (.slice (some ⟨g, 0, none⟩) m cap) ∧ toL f' m = stays lim (toL f n) ∧ IsBk w' g cap m f' ∧ Keeps g w w'

set_option maxRecDepth 100000 in
set_option maxHeartbeats 2000000 in
theorem deleteBk (g cap n F : Nat) (f : Nat → Bkt) (lim : Int) (w : World) (hn : n ≤ 9223372036854775807) (hcap : cap ≤ 9223372036854775807) (hF : F < w.heap.size) (hFg : F ≠ g) (hl : w.cell? ⟨F, 0, none⟩ = some (.int .i64 lim)) (HB : Hid (IsBk w g cap n f)) :
    Calls Try.prog 92 #[.slice (some ⟨g, 0, none⟩) n cap, .func (Fn.func 93) #[] #[.pointer (some ⟨F, 0, none⟩)]] w (DelPost g cap n f lim w) := by
  have HL := hid hl
  have HG := HB.out.lt
  have hncap := HB.out.le.1
  go_enter Try.func92, Try.ntmps92
  go_wp2_with fail
  refine (indexBk g cap n cap F f lim _ hn hF hl HB).mono ?_
  rintro e w1 ⟨hb1, ⟨k0, hk0, rfl, hyes, hno⟩ | ⟨rfl, hno⟩⟩
  · have HB1 := hid hb1
    have HYes := hid hyes
    have HNo := hid hno
    clear hb1 hyes hno hl
    have hkm : ((k0 : Int) == -1) = false := by simp
    go_wp2
    go_loopw [5, 6] (fun i j wr => ∃ (ii jj : Nat) (f' : Nat → Bkt), i = .int .i64 ii ∧ j = .int .i64 jj ∧ ii < jj ∧ jj ≤ n ∧ IsBk wr g cap n f' ∧ toL f' ii = stays lim (toL f jj) ∧ (∀ k, jj ≤ k → k < n → f' k = f k) ∧ Keeps g w wr) (fun _ j _ => n - (intOf j).toNat)
    case atStart =>
      refine ⟨k0, k0 + 1, f, rfl, by go_num, by omega, by omega, HB.out.below HB1.out HG, ?_, fun _ _ _ => rfl, Keeps.belowOf HB1.out⟩
      rw [stays_no HYes.out, stays_all HNo.out]
    case round =>
      obtain ⟨ii, jj, f', rfl, rfl, hij, hjn, hbk, hst, hrest, hkeep⟩ := hrel
      have HBk := hid hbk
      have HSt := hid hst
      have HRest := hid hrest
      have HK := hid hkeep
      have hsz := hkeep.size
      have hFr : F < wr.heap.size := by omega
      have hl2 : wr.cell? ⟨F, 0, none⟩ = some (.int .i64 lim) := (hkeep.cell 0 hF hFg).trans HL.out
      clear hst hrest hkeep HYes HNo HB1
      by_cases hlt : jj < n
      · have hff := HRest.out jj (Nat.le_refl _) hlt
        obtain ⟨c0, c1, c2, c3, c4, c5, c6⟩ := hbk.at6 jj hlt
        rw [hff] at c0 c1 c2 c3 c4 c5 c6
        have HFF := hid hff
        clear hff hbk
        by_cases hq : (f jj).at_ < lim
        · have HQ := hid hq
          have hd : decide ((f jj).at_ < lim) = true := by simpa using hq
          clear hq
          go_wp2_with fail
          refine (forget1_any _ _ _ _ _ _ _ lim F _ (by simp; omega) (by go_cell)).mono ?_
          rintro e w2 ⟨rfl, hb2⟩
          have hs2 := hb2.size
          have hbw : Below wr.heap.size wr w2 := ((Below.refl _ _).alloc (Nat.le_refl _) _).trans (hb2.mono (by simp))
          have HBk2 := hid (HBk.out.below hbw (HBk.out.lt))
          have HK2 := hid (HK.out.trans (Keeps.belowOf hbw))
          clear hb2 hbw c0 c1 c2 c3 c4 c5 c6
          go_wp2
          go_roundw
          case rel => exact ⟨ii, jj + 1, f', rfl, by go_num, by omega, by omega, HBk2.out, by rw [stays_no HQ.out]; exact HSt.out, fun k h1 h2 => HRest.out k (by omega) h2, HK2.out⟩
          case measure => simp [intOf]; omega
        · have HQ : Hid (lim ≤ (f jj).at_) := hid (by omega)
          have hd : decide ((f jj).at_ < lim) = false := by simpa using hq
          clear hq
          go_wp2_with fail
          refine (forget1_any _ _ _ _ _ _ _ lim F _ (by simp; omega) (by go_cell)).mono ?_
          rintro e w2 ⟨rfl, hb2⟩
          obtain ⟨hc2, hf2⟩ := bcell hb2
          have d0 : w2.cell? ⟨wr.heap.size, 0, none⟩ = some (.int .i64 (f jj).at_) := by rw [hc2 _ _ (by simp)]; go_cell
          have d1 : w2.cell? ⟨wr.heap.size, 1, none⟩ = some (.int .i64 (f jj).c.pass) := by rw [hc2 _ _ (by simp)]; go_cell
          have d2 : w2.cell? ⟨wr.heap.size, 2, none⟩ = some (.int .i64 (f jj).c.block) := by rw [hc2 _ _ (by simp)]; go_cell
          have d3 : w2.cell? ⟨wr.heap.size, 3, none⟩ = some (.int .i64 (f jj).c.done) := by rw [hc2 _ _ (by simp)]; go_cell
          have d4 : w2.cell? ⟨wr.heap.size, 4, none⟩ = some (.int .i64 (f jj).c.errs) := by rw [hc2 _ _ (by simp)]; go_cell
          have d5 : w2.cell? ⟨wr.heap.size, 5, none⟩ = some (.int .i64 (f jj).c.rt) := by rw [hc2 _ _ (by simp)]; go_cell
          have d6 : w2.cell? ⟨wr.heap.size, 6, none⟩ = some (.int .i64 (f jj).c.low) := by rw [hc2 _ _ (by simp)]; go_cell
          have hbw : Below wr.heap.size wr w2 := ((Below.refl _ _).alloc (Nat.le_refl _) _).trans (hb2.mono (by simp))
          have hbk2 := HBk.out.below hbw (HBk.out.lt)
          have HK2 := hid (HK.out.trans (Keeps.belowOf hbw))
          obtain ⟨e0, e1, e2, e3, e4, e5, e6⟩ := hbk2.at6 ii (by omega)
          have z0 := hbk2.frozen (ii * 7)
          have z1 := hbk2.frozen (ii * 7 + 1)
          have z2 := hbk2.frozen (ii * 7 + 2)
          have z3 := hbk2.frozen (ii * 7 + 3)
          have z4 := hbk2.frozen (ii * 7 + 4)
          have z5 := hbk2.frozen (ii * 7 + 5)
          have z6 := hbk2.frozen (ii * 7 + 6)
          have HBk2 := hid hbk2
          clear hb2 hbw hc2 hf2 c0 c1 c2 c3 c4 c5 c6 hbk2
          go_wp2_with fail
          refine ⟨⟨ii + 1, jj + 1, fun k => if k = ii then f jj else f' k, by go_num, by go_num, by omega, by omega, HBk2.out.put7 ii (by omega) (f jj), ?_, ?_, Keeps.put7 HK2.out _ _⟩, by simp [intOf]; omega⟩
          · rw [stays_yes HQ.out, ← HSt.out, toL_succ, if_pos rfl]
            congr 1
            exact toL_congr fun i hi => if_neg (by omega)
          · intro k h1 h2
            dsimp only
            rw [if_neg (by omega)]
            exact HRest.out k (by omega) h2
      · obtain rfl : jj = n := by omega
        clear HRest
        have hcl : ∀ ty, (Builtin.clear_ #[110] ty #[.slice (some ⟨g, ii * 7, none⟩) (jj - ii) (cap - ii)]).run Try.prog wr = .ok (.tuple #[]) (wr.setCells g (ii * 7) (List.replicate ((jj - ii) * 7) (.int .i64 0))) :=
          fun ty => run_clear7 wr ty g (ii * 7) (jj - ii) (cap - ii) (by omega) (fun j hj => hbk.there _ (by omega)) (fun j hj => hbk.frozen _)
        clear hbk
        go_wp2
        go_ret
        exact ⟨ii, f', rfl, HSt.out, (HBk.out.less (by omega)).sets_past _ _ _ (Nat.le_refl _), Keeps.sets _ _ _ HK.out⟩
  · have HB1 := hid hb1
    have HNo := hid hno
    clear hb1 hno hl
    go_wp2
    go_ret
    exact ⟨n, f, rfl, (stays_all HNo.out).symm, HB.out.below HB1.out HG, Keeps.belowOf HB1.out⟩

end Go.Proofs.Ytnloedhcginopaa.WinD
