/- No hot: what a nil one answers. -/
import Derived.Test.YtbihelpnojjacaaGreatKHa
import Derived.Test.YtbihelpnojjacaaGreatHotJ
import Derived.Test.YtbihelpnojjacaaGreatKLr
import Derived.Maps.AppendAt
import Derived.Test.YtbihelpnojjacaaGreatOpn

/- A hot parameter's rule at work: newRule, newExact. -/
namespace Go.Proofs.YtbihelpnojjacaaGreat.HotK
open Go.ChangeShapes Go.WideShapes Go.ChangeAt Go.RowKit Go.Deep Base Wri Map LruA LruB LruC LruD LruE LruF HotA HotB HotC HotD HotE HotF HotG HotH HotI HotJ
open Go.Maps (Keyed string_keyed)
set_option linter.unusedVariables false

/-- the counts of values that have one of their own: the last one of a value counts -/
noncomputable def itF (f : Nat → Itm) : Nat → ByteArray → Option Int
  | 0, _ => none
  | k + 1, s => open Classical in if (f k).1 = s then some (f k).2 else itF f k s

theorem run_makeHint (n : Nat) (w : World) : (Instr.makeMap 57 (some (.int .i64 n))).run Tryz.prog w = .ok (.map (some w.heap.size)) (w.alloc (.map #[] 0)) := by
  have h1 := Tryz.underlying57
  simp [Instr.makeMap, run_underlying h1, asInt, asIntOf, Result.andThen]

set_option maxRecDepth 20000 in
set_option maxHeartbeats 2000000 in
theorem newRule_any (res : ByteArray) (idx cnt : Int) (sec : Nat) (hsec : sec ≤ 60) (a : Option Addr) (n cap : Nat) (hn : n ≤ 1000000) (f : Nat → Itm) (w : World) (hI : ItAt w a n f) (hfit : ∀ i, i < n → (f i).1.size ≤ maxLen) :
    Calls Tryz.prog 27 #[hotV res idx cnt sec a n cap] w fun e w' => ∃ itb, e = .returned (.agg #[.int .i64 cnt, .int .i64 ((10 * (sec * 100000) : Nat) : Int), .map (some itb)]) ∧ w.heap.size ≤ itb ∧ (∃ F m, MapOf Tryz.prog 9 w' itb F m ∧ ∀ s, F (.string s) = (itF f n s).map (.int .i64)) ∧ Below w.heap.size w w' := by
  have HI := hid (And.intro hI hfit)
  clear hI hfit
  have hmul : (sec : Int) * 1000000 = ((10 * (sec * 100000) : Nat) : Int) := by omega
  have hwrap : IntKind.i64.wrap ((sec : Int) * 1000000) = ((10 * (sec * 100000) : Nat) : Int) := by rw [hmul, IntKind.wrap_i64]; omega
  have HM := hid hwrap
  clear hmul hwrap
  have hmk := run_makeHint n ((w.alloc (.cells #[.string res, .int .i64 idx, .int .i64 cnt, .int .i64 sec, .slice a n cap] 24)).alloc (.cells #[.int .i64 0, .int .i64 0, .map none] 66))
  have hb0 : Below w.heap.size w (((w.alloc (.cells #[.string res, .int .i64 idx, .int .i64 cnt, .int .i64 sec, .slice a n cap] 24)).alloc (.cells #[.int .i64 0, .int .i64 0, .map none] 66)).alloc (.map #[] 0)) := (by repeat (first | (with_reducible exact Below.refl _ _) | (with_reducible refine Below.setCell ?_ (by first | (simp; done) | (simp; omega) | omega) _) | (with_reducible refine Below.alloc ?_ (by first | (simp; done) | (simp; omega) | omega) _) | (with_reducible refine Below.drew ?_)))
  have hm0 := MapOf.made (P := Tryz.prog) (k := 9) ((w.alloc (.cells #[.string res, .int .i64 idx, .int .i64 cnt, .int .i64 sec, .slice a n cap] 24)).alloc (.cells #[.int .i64 0, .int .i64 0, .map none] 66))
  have HB0 := hid (And.intro hb0 hm0)
  clear hb0 hm0
  have hsz : ((w.alloc (.cells #[.string res, .int .i64 idx, .int .i64 cnt, .int .i64 sec, .slice a n cap] 24)).alloc (.cells #[.int .i64 0, .int .i64 0, .map none] 66)).heap.size = w.heap.size + 2 := by simp
  rw [hsz] at hmk
  have HSz := hid hsz
  clear hsz
  go_enter Tryz.func27, Tryz.ntmps27
  go_wp2_with fail
  clear hmk
  have hw3 : ∀ v, ((((w.alloc (.cells #[.string res, .int .i64 idx, .int .i64 cnt, .int .i64 sec, .slice a n cap] 24)).alloc (.cells #[.int .i64 0, .int .i64 0, .map none] 66)).alloc (.map #[] 0)) = v → v.heap.size = w.heap.size + 3 ∧ v.heap[w.heap.size]? = some (.cells #[.string res, .int .i64 idx, .int .i64 cnt, .int .i64 sec, .slice a n cap] 24) ∧ v.heap[w.heap.size + 1]? = some (.cells #[.int .i64 0, .int .i64 0, .map none] 66)) := fun v e => by
    rw [← e]
    refine ⟨by simp, ?_, ?_⟩
    · exact ((heap_alloc_old _ _ (by simp; omega)).trans (heap_alloc_old _ _ (by simp))).trans (heap_alloc_new _ _)
    · refine (heap_alloc_old _ _ (by simp)).trans ?_; have := heap_alloc_new (w.alloc (.cells #[.string res, .int .i64 idx, .int .i64 cnt, .int .i64 sec, .slice a n cap] 24)) (.cells #[.int .i64 0, .int .i64 0, .map none] 66); simpa using this
  obtain ⟨hb0, hm0⟩ := HB0.out
  rw [HSz.out] at hm0
  obtain ⟨w3, hw3e⟩ : ∃ w3, (((w.alloc (.cells #[.string res, .int .i64 idx, .int .i64 cnt, .int .i64 sec, .slice a n cap] 24)).alloc (.cells #[.int .i64 0, .int .i64 0, .map none] 66)).alloc (.map #[] 0)) = w3 := ⟨_, rfl⟩
  have H3 := hid (hw3 w3 hw3e)
  rw [hw3e] at hb0 hm0 ⊢
  have HB3 := hid hb0
  have HM3 := hid hm0
  clear hw3 hw3e hb0 hm0 HB0 HSz
  go_loopw [13] (fun i wr => ∃ k : Nat, k ≤ n ∧ i = .int .i64 k ∧ (∃ F m, MapOf Tryz.prog 9 wr (w.heap.size + 2) F m ∧ ∀ s, F (.string s) = (itF f k s).map (.int .i64)) ∧ Wr (fun k => k = w.heap.size + 2) w3 wr) (fun i _ => n - (intOf i).toNat)
  case atStart => exact ⟨0, Nat.zero_le _, rfl, ⟨_, _, HM3.out, fun s => rfl⟩, Wr.refl _ _⟩
  case round =>
    obtain ⟨k, hk, rfl, hm, hw⟩ := hrel
    have HMp := hid hm
    have HW := hid hw
    clear hm hw
    by_cases hlt : k < n
    · have hki : (k : Int) < n := by omega
      have hki0 : (0 : Int) ≤ k := by omega
      obtain ⟨g, o, rfl, hg0, hc⟩ := HI.out.1 (by omega)
      obtain ⟨p0, p1⟩ := hc k hlt
      have hfk := HI.out.2 k hlt
      have hg3 : g < w3.heap.size := Nat.lt_of_lt_of_le hg0 HB3.out.size
      have hne : ¬ g = w.heap.size + 2 := by omega
      have c0 := (HW.out.cell (o + k * 2) hg3 hne).trans ((HB3.out.cell (p := ⟨g, o + k * 2, none⟩) hg0).trans p0)
      have c1 := (HW.out.cell (o + k * 2 + 1) hg3 hne).trans ((HB3.out.cell (p := ⟨g, o + k * 2 + 1, none⟩) hg0).trans p1)
      have hg : g < wr.heap.size := Nat.lt_of_lt_of_le hg3 HW.out.size
      have HIt : Hid (∀ s, itF f (k + 1) s = open Classical in if (f k).1 = s then some (f k).2 else itF f k s) := hid fun s => rfl
      obtain ⟨⟨s, m⟩, hfk2⟩ : ∃ x, f k = x := ⟨_, rfl⟩
      rw [hfk2] at c0 c1 hfk HIt
      dsimp only at c0 c1 hfk HIt
      obtain ⟨F, q, hm, hF⟩ := HMp.out
      have hm2 := hm.of_block (heap_alloc_old wr (.cells #[.string s, .int .i64 m] 52) hm.lt)
      obtain ⟨w4, hrun, hm4, hw4⟩ := hm2.store (val := .int .i64 m) keyedS Tryz.underlying57 (Go.WideMaps.keyOf_string_mk Tryz.underlying9 hfk)
      have HFin : Hid ((∃ F m, MapOf Tryz.prog 9 w4 (w.heap.size + 2) F m ∧ ∀ s, F (.string s) = (itF f (k + 1) s).map (.int .i64)) ∧ Wr (fun k => k = w.heap.size + 2) w3 w4) := hid ⟨⟨_, _, hm4, fun s' => by
        rw [HIt.out s']
        by_cases e : s = s'
        · subst e; rw [put_same, if_pos rfl]; rfl
        · rw [put_other (fun e2 => e (by injection e2 with e2; exact e2.symm)), if_neg e]; exact hF s'⟩, (HW.out.trans (Wr.ofBelow ((Below.refl _ wr).alloc (Nat.le_refl _) _))).trans hw4⟩
      clear p0 p1 hc hfk hfk2 hm hF hm2 hm4 hw4 hg0 hg3 hne
      go_wp2_with fail
      go_roundw
      case rel => exact ⟨k + 1, hlt, by go_num, HFin.out⟩
      case measure => simp [intOf]; omega
    · obtain rfl : k = n := by omega
      obtain ⟨hs3, hr3, hz3⟩ := H3.out
      have hr := (HW.out.block _ (by omega) (by omega)).trans hr3
      have hz := (HW.out.block _ (by omega) (by omega)).trans hz3
      have c2 : wr.cell? ⟨w.heap.size, 2, none⟩ = some (.int .i64 cnt) := cell_of hr 2 _ rfl
      have c3 : wr.cell? ⟨w.heap.size, 3, none⟩ = some (.int .i64 sec) := cell_of hr 3 _ rfl
      have z0 : wr.cell? ⟨w.heap.size + 1, 0, none⟩ = some (.int .i64 0) := cell_of hz 0 _ rfl
      have z1 : wr.cell? ⟨w.heap.size + 1, 1, none⟩ = some (.int .i64 0) := cell_of hz 1 _ rfl
      have z2 : wr.cell? ⟨w.heap.size + 1, 2, none⟩ = some (.map none) := cell_of hz 2 _ rfl
      have f0 : wr.frozen? ⟨w.heap.size + 1, 0, none⟩ = false := by simp [World.frozen?, hz]
      have f1 : wr.frozen? ⟨w.heap.size + 1, 1, none⟩ = false := by simp [World.frozen?, hz]
      have f2 : wr.frozen? ⟨w.heap.size + 1, 2, none⟩ = false := by simp [World.frozen?, hz]
      have hwrap := HM.out
      have HBf := hid (HB3.out.trans (HW.out.below w.heap.size HB3.out.size (fun k e => by omega)))
      clear hs3 hr3 hz3 hr hz
      go_wp2_with fail
      refine bodyPost_ret (v := .agg #[.int .i64 cnt, .int .i64 (10 * ((sec : Int) * 100000)), .map (some (w.heap.size + 2))]) (by simp [results, Tryz.results27, go_sem, z0, z1, z2]) rfl ?_
      obtain ⟨F, q, hm, hF⟩ := HMp.out
      have hwx : Wr (fun k => k = w.heap.size + 1) wr (((wr.setCell ⟨w.heap.size + 1, 0, none⟩ (.int .i64 cnt)).setCell ⟨w.heap.size + 1, 1, none⟩ (.int .i64 (10 * ((sec : Int) * 100000)))).setCell ⟨w.heap.size + 1, 2, none⟩ (.map (some (w.heap.size + 2)))) := ((Wr.set (R := fun k => k = w.heap.size + 1) _ _ rfl).trans (Wr.set (R := fun k => k = w.heap.size + 1) _ _ rfl)).trans (Wr.set (R := fun k => k = w.heap.size + 1) _ _ rfl)
      exact ⟨w.heap.size + 2, by simp, by omega, ⟨F, q, hm.of_block (hwx.block _ hm.lt (by omega)), hF⟩, HBf.out.trans (hwx.below w.heap.size HBf.out.size (fun k e => by omega))⟩

set_option maxHeartbeats 1000000 in
theorem newExact_yes (keys : Nat) (h1 : 1 ≤ keys) (h2 : keys ≤ 4096) (w : World) :
    Calls Tryz.prog 26 #[.int .i64 keys] w fun e w' => ∃ (S : Spot) (wb : Nat), e = .returned (.tuple #[.agg #[.pointer (some ⟨S.mb, 0, none⟩), .map (some wb)], .int .i64 0]) ∧ S.most = keys ∧ IsLru w' S [] ∧ MapOf Tryz.prog 9 w' wb (fun _ => none) 0 ∧ w.heap.size ≤ wb ∧ ¬ Has S [] wb ∧ (∀ k, Has S [] k → w.heap.size ≤ k) ∧ Below w.heap.size w w' := by
  have hb0 : Below w.heap.size w (w.alloc (.cells #[.pointer none, .map none] 62)) := (Below.refl _ w).alloc (Nat.le_refl _) _
  have hx0 : (w.alloc (.cells #[.pointer none, .map none] 62)).heap[w.heap.size]? = some (.cells #[.pointer none, .map none] 62) := heap_alloc_new _ _
  have HB0 := hid (And.intro hb0 (And.intro hx0 (show w.heap.size < (w.alloc (.cells #[.pointer none, .map none] 62)).heap.size by simp)))
  have HN := hid (new_yes keys (w.alloc (.cells #[.pointer none, .map none] 62)) h1 h2)
  clear hb0 hx0
  go_enter Tryz.func26, Tryz.ntmps26
  go_wp2_with fail
  refine HN.out.mono ?_
  rintro e w2 ⟨S, rfl, hm, hl, hb2, hh⟩
  obtain ⟨hb0, hx0, hs0⟩ := HB0.out
  have hx2 := (hb2.block _ hs0).trans hx0
  have hs2 := Nat.lt_of_lt_of_le hs0 hb2.size
  have z0 : w2.cell? ⟨w.heap.size, 0, none⟩ = some (.pointer none) := cell_of hx2 0 _ rfl
  have z1 : w2.cell? ⟨w.heap.size, 1, none⟩ = some (.map none) := cell_of hx2 1 _ rfl
  have f0 : w2.frozen? ⟨w.heap.size, 0, none⟩ = false := by simp [World.frozen?, hx2]
  have f1 : w2.frozen? ⟨w.heap.size, 1, none⟩ = false := by simp [World.frozen?, hx2]
  have hmk : (Instr.makeMap 60 none).run Tryz.prog w2 = .ok (.map (some w2.heap.size)) (w2.alloc (.map #[] 0)) := run_makeMap _ _
  have H2 := hid (And.intro hm (And.intro hl (And.intro (bl hb0 hb2) (And.intro hh hx2))))
  unfold ptr
  clear hb0 hx0 hs0 hx2 hm hl hb2 hh HN HB0
  go_wp2_with fail
  obtain ⟨hm, hl, hb2, hh, hx2⟩ := H2.out
  obtain ⟨wx, hwx0⟩ : ∃ wx, (w2.setCell ⟨w.heap.size, 0, none⟩ (.pointer (some ⟨S.mb, 0, none⟩))).setCell ⟨w.heap.size, 1, none⟩ (.map (some w2.heap.size)) = wx := ⟨_, rfl⟩
  have hwx : Wr (fun k => k = w.heap.size) w2 wx := by rw [← hwx0]; exact (Wr.set (R := fun k => k = w.heap.size) _ _ rfl).trans (Wr.set (R := fun k => k = w.heap.size) _ _ rfl)
  have hsx : wx.heap.size = w2.heap.size := by rw [← hwx0]; simp
  have hxx : wx.heap[w.heap.size]? = some (.cells #[.pointer (some ⟨S.mb, 0, none⟩), .map (some w2.heap.size)] 62) := by
    rw [← hwx0]
    exact heap_setCell_same _ _ _ _ _ _ (heap_setCell_same _ _ _ _ _ _ hx2)
  rw [hwx0]
  have hxz := (heap_alloc_old wx (.map #[] 0) (by omega : w.heap.size < wx.heap.size)).trans hxx
  have q0 : (wx.alloc (.map #[] 0)).cell? ⟨w.heap.size, 0, none⟩ = some (.pointer (some ⟨S.mb, 0, none⟩)) := cell_of hxz 0 _ rfl
  have q1 : (wx.alloc (.map #[] 0)).cell? ⟨w.heap.size, 1, none⟩ = some (.map (some w2.heap.size)) := cell_of hxz 1 _ rfl
  refine bodyPost_ret (v := .tuple #[.agg #[.pointer (some ⟨S.mb, 0, none⟩), .map (some w2.heap.size)], .int .i64 0]) (by simp [results, Tryz.results26, go_sem, q0, q1]) rfl ?_
  have hbz : Below wx.heap.size wx (wx.alloc (.map #[] 0)) := (Below.refl _ _).alloc (Nat.le_refl _) _
  have hh2 : ∀ k, Has S [] k → w.heap.size + 1 ≤ k := fun k hk => by have := hh k hk; simpa using this
  refine ⟨S, w2.heap.size, by simp, hm, ?_, ?_, hb2.size, fun hk => by have := hl.rest.lt _ hk; omega, fun k hk => by have := hh2 k hk; omega, ?_⟩
  · exact (hl.wr hwx fun k hk e => by have := hh2 k hk; omega).below hbz
  · have := MapOf.made (P := Tryz.prog) (k := 9) wx
    rwa [hsx] at this
  · exact (hb2.trans (hwx.below w.heap.size hb2.size (fun k e => by omega))).alloc (by rw [hsx]; exact hb2.size) _

set_option maxHeartbeats 1000000 in
theorem newExact_no (keys : Int) (h : ¬ (1 ≤ keys ∧ keys ≤ 4096)) (w : World) :
    Calls Tryz.prog 26 #[.int .i64 keys] w fun e w' => e = .returned (.tuple #[.agg #[.pointer none, .map none], .int .i64 2]) ∧ Below w.heap.size w w' := by
  have HN := hid (new_no keys (w.alloc (.cells #[.pointer none, .map none] 62)) h)
  have z0 : (w.alloc (.cells #[.pointer none, .map none] 62)).cell? ⟨w.heap.size, 0, none⟩ = some (.pointer none) := cell_of (heap_alloc_new _ _) 0 _ rfl
  have z1 : (w.alloc (.cells #[.pointer none, .map none] 62)).cell? ⟨w.heap.size, 1, none⟩ = some (.map none) := cell_of (heap_alloc_new _ _) 1 _ rfl
  go_enter Tryz.func26, Tryz.ntmps26
  go_wp2_with fail
  refine HN.out.mono ?_
  rintro e w2 ⟨rfl, rfl⟩
  go_wp2_with fail
  refine bodyPost_ret (v := .tuple #[.agg #[.pointer none, .map none], .int .i64 2]) (by simp [results, Tryz.results26, go_sem]) rfl ⟨rfl, (by repeat (first | (with_reducible exact Below.refl _ _) | (with_reducible refine Below.setCell ?_ (by first | (simp; done) | (simp; omega) | omega) _) | (with_reducible refine Below.alloc ?_ (by first | (simp; done) | (simp; omega) | omega) _) | (with_reducible refine Below.drew ?_)))⟩

end Go.Proofs.YtbihelpnojjacaaGreat.HotK

/- A hot parameter's rule at work: New. -/
namespace Go.Proofs.YtbihelpnojjacaaGreat.HotL
open Go.ChangeShapes Go.WideShapes Go.ChangeAt Go.RowKit Go.Deep Base Wri Map LruA LruB LruC LruD LruE LruF HotA HotB HotC HotD HotE HotF HotG HotH HotI HotJ HotK
open Go.Maps (Keyed string_keyed)
set_option linter.unusedVariables false

theorem kcB {w w' : World} {k o : Nat} {v : Value} (hb : Below w.heap.size w w') (h : w.cell? ⟨k, o, none⟩ = some v) : w'.cell? ⟨k, o, none⟩ = some v := (hb.cell (p := ⟨k, o, none⟩) (World.block_lt_of_cell? _ _ h)).trans h

set_option maxHeartbeats 1000000 in
theorem New_no1 (res : ByteArray) (idx cnt sec : Int) (a : Option Addr) (n cap : Nat) (keys : Int) (seed : Nat) (r : Int) (hr : r ≠ 0) (w : World)
    (H0 : Hid (∀ wx, Below w.heap.size w wx → Calls Tryz.prog 25 #[hotV res idx cnt sec a n cap] wx fun e w' => e = .returned (.int .i64 r) ∧ Below wx.heap.size wx w')) :
    Calls Tryz.prog 9 #[hotV res idx cnt sec a n cap, .int .i64 keys, .int .u64 seed] w fun e w' => e = .returned (.tuple #[.pointer none, .int .i64 r]) ∧ Below w.heap.size w w' := by
  have hb0 : Below w.heap.size w (w.alloc (.cells #[.string res, .int .i64 idx, .int .i64 cnt, .int .i64 sec, .slice a n cap] 24)) := (Below.refl _ w).alloc (Nat.le_refl _) _
  have H1 := hid (H0.out _ hb0)
  have HB0 := hid hb0
  have n0 : (r == 0) = false := by simpa using hr
  clear hb0 H0
  go_enter Tryz.func9, Tryz.ntmps9
  go_wp2_with fail
  refine H1.out.mono ?_
  rintro e w1 ⟨rfl, hb1⟩
  have HB1 := hid (bl HB0.out hb1)
  clear hb1
  go_wp2_with fail
  go_ret2
  exact ⟨rfl, HB1.out⟩

set_option maxHeartbeats 1000000 in
theorem New_no2 (res : ByteArray) (idx cnt sec : Int) (a : Option Addr) (n cap : Nat) (keys : Int) (seed : Nat) (w : World)
    (H0 : Hid (∀ wx, Below w.heap.size w wx → Calls Tryz.prog 25 #[hotV res idx cnt sec a n cap] wx fun e w' => e = .returned (.int .i64 0) ∧ Below wx.heap.size wx w'))
    (H1 : Hid (∀ wx, Calls Tryz.prog 26 #[.int .i64 keys] wx fun e w' => e = .returned (.tuple #[.agg #[.pointer none, .map none], .int .i64 2]) ∧ Below wx.heap.size wx w')) :
    Calls Tryz.prog 9 #[hotV res idx cnt sec a n cap, .int .i64 keys, .int .u64 seed] w fun e w' => e = .returned (.tuple #[.pointer none, .int .i64 2]) ∧ Below w.heap.size w w' := by
  have hb0 : Below w.heap.size w (w.alloc (.cells #[.string res, .int .i64 idx, .int .i64 cnt, .int .i64 sec, .slice a n cap] 24)) := (Below.refl _ w).alloc (Nat.le_refl _) _
  have H2 := hid (H0.out _ hb0)
  have HB0 := hid hb0
  clear hb0 H0
  go_enter Tryz.func9, Tryz.ntmps9
  go_wp2_with fail
  refine H2.out.mono ?_
  rintro e w1 ⟨rfl, hb1⟩
  have HB1 := hid (bl HB0.out hb1)
  clear hb1
  go_wp2_with fail
  refine (H1.out _).mono ?_
  rintro e w2 ⟨rfl, hb2⟩
  have HB2 := hid (bl HB1.out hb2)
  clear hb2
  go_wp2_with fail
  go_ret2
  exact ⟨rfl, HB2.out.alloc HB2.out.size _⟩

/-- a new one's blocks -/
noncomputable def ownN (h itb wb sp : Nat) (S : Spot) (k : Nat) : Tg := open Classical in if k = h then .hd else if k = itb then .it else if k = wb then .wn else if k = sp then .sk else if Has S [] k then .lr else .non
def Z0 : SK := ⟨none, [], fun _ => 0, [], 0⟩

/-- what New leaves -/
def NewPost (w : World) (cnt : Int) (q keys seed : Nat) (f : Nat → Itm) (n : Nat) (e : Ending) (w' : World) : Prop :=
  ∃ (C : HC) (own : Nat → Tg), e = .returned (.tuple #[.pointer (some ⟨C.h, 0, none⟩), .int .i64 0]) ∧ HMem w' own C 0 [] [] Z0 ∧ (∀ k, k < w.heap.size → own k = .non) ∧ C.S.most = keys ∧ C.cnt = cnt ∧ C.q = q ∧ C.seed = seed ∧ C.it = itF f n ∧ Below w.heap.size w w'

set_option maxRecDepth 20000 in
set_option maxHeartbeats 2000000 in
theorem New_yes (res : ByteArray) (idx cnt : Int) (sec : Nat) (hsec1 : 1 ≤ sec) (hsec : sec ≤ 60) (a : Option Addr) (n cap : Nat) (hn : n ≤ 1000000) (keys : Nat) (hk1 : 1 ≤ keys) (hk2 : keys ≤ 4096) (seed : Nat) (f : Nat → Itm) (w : World) (hI : ItAt w a n f) (hfit : ∀ i, i < n → (f i).1.size ≤ maxLen)
    (H0 : Hid (∀ wx, Below w.heap.size w wx → Calls Tryz.prog 25 #[hotV res idx cnt sec a n cap] wx fun e w' => e = .returned (.int .i64 0) ∧ Below wx.heap.size wx w')) :
    Calls Tryz.prog 9 #[hotV res idx cnt sec a n cap, .int .i64 keys, .int .u64 seed] w (NewPost w cnt (sec * 100000) keys seed f n) := by
  have hb0 : Below w.heap.size w (w.alloc (.cells #[.string res, .int .i64 idx, .int .i64 cnt, .int .i64 sec, .slice a n cap] 24)) := (Below.refl _ w).alloc (Nat.le_refl _) _
  have h0 : (w.alloc (.cells #[.string res, .int .i64 idx, .int .i64 cnt, .int .i64 sec, .slice a n cap] 24)).heap[w.heap.size]? = some (.cells #[.string res, .int .i64 idx, .int .i64 cnt, .int .i64 sec, .slice a n cap] 24) := heap_alloc_new _ _
  have H2 := hid (H0.out _ hb0)
  have HI := hid (And.intro hI hfit)
  have HB0 := hid (And.intro hb0 h0)
  clear hb0 H0 h0 hI hfit
  go_enter Tryz.func9, Tryz.ntmps9
  go_wp2_with fail
  refine H2.out.mono ?_
  rintro e w1 ⟨rfl, hb1⟩
  obtain ⟨hb0, h0⟩ := HB0.out
  have h1 := (hb1.block _ (Array.getElem?_eq_some_iff.1 h0).1).trans h0
  have HB1 := hid (And.intro (bl hb0 hb1) h1)
  have HE := hid (newExact_yes keys hk1 hk2 w1)
  clear hb1 hb0 h0 h1 H2 HB0
  go_wp2_with fail
  refine HE.out.mono ?_
  rintro e w2 ⟨S, wb, rfl, hm, hl, hmp, hwb, hwn, hS, hb2⟩
  obtain ⟨hb1, h1⟩ := HB1.out
  have hb2' := hb2.alloc hb2.size (.cells #[.pointer (some ⟨S.mb, 0, none⟩), .map (some wb)] 62)
  have h2 := (hb2'.block _ (Array.getElem?_eq_some_iff.1 h1).1).trans h1
  have hx2 : (w2.alloc (.cells #[.pointer (some ⟨S.mb, 0, none⟩), .map (some wb)] 62)).heap[w2.heap.size]? = some (.cells #[.pointer (some ⟨S.mb, 0, none⟩), .map (some wb)] 62) := heap_alloc_new _ _
  have hbw2 := bl hb1 hb2'
  have HE2 := hid (And.intro hm (And.intro (hl.below ((Below.refl _ w2).alloc (Nat.le_refl _) (.cells #[.pointer (some ⟨S.mb, 0, none⟩), .map (some wb)] 62))) (And.intro (hmp.of_block (((Below.refl _ w2).alloc (Nat.le_refl _) (.cells #[.pointer (some ⟨S.mb, 0, none⟩), .map (some wb)] 62)).block _ hmp.lt)) (And.intro hwn (And.intro (Nat.le_trans hb1.size hwb) (fun k hk => Nat.le_trans hb1.size (hS k hk)))))))
  have r0 : (w2.alloc (.cells #[.pointer (some ⟨S.mb, 0, none⟩), .map (some wb)] 62)).cell? ⟨w.heap.size, 0, none⟩ = some (.string res) := cell_of h2 0 _ rfl
  have r1 : (w2.alloc (.cells #[.pointer (some ⟨S.mb, 0, none⟩), .map (some wb)] 62)).cell? ⟨w.heap.size, 1, none⟩ = some (.int .i64 idx) := cell_of h2 1 _ rfl
  have r2 : (w2.alloc (.cells #[.pointer (some ⟨S.mb, 0, none⟩), .map (some wb)] 62)).cell? ⟨w.heap.size, 2, none⟩ = some (.int .i64 cnt) := cell_of h2 2 _ rfl
  have r3 : (w2.alloc (.cells #[.pointer (some ⟨S.mb, 0, none⟩), .map (some wb)] 62)).cell? ⟨w.heap.size, 3, none⟩ = some (.int .i64 sec) := cell_of h2 3 _ rfl
  have r4 : (w2.alloc (.cells #[.pointer (some ⟨S.mb, 0, none⟩), .map (some wb)] 62)).cell? ⟨w.heap.size, 4, none⟩ = some (.slice a n cap) := cell_of h2 4 _ rfl
  have s0 := (hb2.cell (p := ⟨w.heap.size, 0, none⟩) (Array.getElem?_eq_some_iff.1 h1).1).trans (cell_of h1 0 _ rfl)
  have s1 := (hb2.cell (p := ⟨w.heap.size, 1, none⟩) (Array.getElem?_eq_some_iff.1 h1).1).trans (cell_of h1 1 _ rfl)
  have s2 := (hb2.cell (p := ⟨w.heap.size, 2, none⟩) (Array.getElem?_eq_some_iff.1 h1).1).trans (cell_of h1 2 _ rfl)
  have s3 := (hb2.cell (p := ⟨w.heap.size, 3, none⟩) (Array.getElem?_eq_some_iff.1 h1).1).trans (cell_of h1 3 _ rfl)
  have s4 := (hb2.cell (p := ⟨w.heap.size, 4, none⟩) (Array.getElem?_eq_some_iff.1 h1).1).trans (cell_of h1 4 _ rfl)
  have hle : w.heap.size < w2.heap.size := Nat.lt_of_lt_of_le (Array.getElem?_eq_some_iff.1 h1).1 hb2.size
  have HB3 := hid (And.intro hbw2 (And.intro hx2 (show w2.heap.size < (w2.alloc (.cells #[.pointer (some ⟨S.mb, 0, none⟩), .map (some wb)] 62)).heap.size by simp)))
  have HNR := hid (newRule_any res idx cnt sec hsec a n cap hn f (w2.alloc (.cells #[.pointer (some ⟨S.mb, 0, none⟩), .map (some wb)] 62)) (HI.out.1.below hbw2) HI.out.2)
  clear hm hl hmp hwb hwn hS hb2 hb2' h1 hb1 hx2 hbw2 h2 HE HB1
  go_wp2_with fail
  refine HNR.out.mono ?_
  rintro e w4 ⟨itb, rfl, hitb, hmi, hb4⟩
  obtain ⟨hb3, hx3, hs3⟩ := HB3.out
  have hx4 := (hb4.block _ hs3).trans hx3
  have hw24 : w2.heap.size < w4.heap.size := Nat.lt_of_lt_of_le hs3 hb4.size
  have x0 : w4.cell? ⟨w2.heap.size, 0, none⟩ = some (.pointer (some ⟨S.mb, 0, none⟩)) := cell_of hx4 0 _ rfl
  have x1 : w4.cell? ⟨w2.heap.size, 1, none⟩ = some (.map (some wb)) := cell_of hx4 1 _ rfl
  have hbr : Below w4.heap.size w4 (w4.alloc (.cells #[.int .i64 cnt, .int .i64 ((10 * (sec * 100000) : Nat) : Int), .map (some itb)] 66)) := (Below.refl _ _).alloc (Nat.le_refl _) _
  have hru : (w4.alloc (.cells #[.int .i64 cnt, .int .i64 ((10 * (sec * 100000) : Nat) : Int), .map (some itb)] 66)).heap[w4.heap.size]? = some (.cells #[.int .i64 cnt, .int .i64 ((10 * (sec * 100000) : Nat) : Int), .map (some itb)] 66) := heap_alloc_new _ _
  have y0 : (w4.alloc (.cells #[.int .i64 cnt, .int .i64 ((10 * (sec * 100000) : Nat) : Int), .map (some itb)] 66)).cell? ⟨w2.heap.size, 0, none⟩ = some (.pointer (some ⟨S.mb, 0, none⟩)) := kcB hbr x0
  have y1 : (w4.alloc (.cells #[.int .i64 cnt, .int .i64 ((10 * (sec * 100000) : Nat) : Int), .map (some itb)] 66)).cell? ⟨w2.heap.size, 1, none⟩ = some (.map (some wb)) := kcB hbr x1
  have ho : SkL.Ok ⟨10 * (sec * 100000), 10, 4, 256, seed⟩ (sec * 100000) := ⟨by show 10 * (sec * 100000) ≤ _; omega, by show 0 < 10; decide, by show 10 ≤ 60; decide, by show 1 ≤ 4; decide, by show 4 ≤ 8; decide, by show 1 ≤ 256; decide, by show 256 ≤ 4096; decide, by show 10 * (sec * 100000) / 10 = _; omega, by show 10 * (sec * 100000) = sec * 100000 * 10; omega, by omega⟩
  have HSk := hid (SkM.New_yes ⟨10 * (sec * 100000), 10, 4, 256, seed⟩ (sec * 100000) ho (w4.alloc (.cells #[.int .i64 cnt, .int .i64 ((10 * (sec * 100000) : Nat) : Int), .map (some itb)] 66)))
  have HE4 := hid (And.intro (bl hb3 hb4) (And.intro hitb (And.intro hmi (And.intro hb4 (And.intro hx4 (And.intro hbr hru))))))
  clear hb3 hx3 hitb hmi hb4 hx4 hbr hru HB3 HNR y0 y1 r0 r1 r2 r3 r4 s0 s1 s2 s3 s4
  go_wp2_with fail
  refine HSk.out.mono ?_
  rintro e w6 ⟨sp, rfl, hsp, hfull, hb6⟩
  obtain ⟨hb4, hitb, hmi, hb34, hx4, hbr, hru⟩ := HE4.out
  have hx6 := (hb6.block _ (by simp; omega)).trans ((hbr.block _ hw24).trans hx4)
  have hr6 := (hb6.block _ (by simp)).trans hru
  have t0 : w6.cell? ⟨w2.heap.size, 0, none⟩ = some (.pointer (some ⟨S.mb, 0, none⟩)) := cell_of hx6 0 _ rfl
  have t1 : w6.cell? ⟨w2.heap.size, 1, none⟩ = some (.map (some wb)) := cell_of hx6 1 _ rfl
  have u0 : w6.cell? ⟨w4.heap.size, 0, none⟩ = some (.int .i64 cnt) := cell_of hr6 0 _ rfl
  have u1 : w6.cell? ⟨w4.heap.size, 1, none⟩ = some (.int .i64 ((10 * (sec * 100000) : Nat) : Int)) := cell_of hr6 1 _ rfl
  have u2 : w6.cell? ⟨w4.heap.size, 2, none⟩ = some (.map (some itb)) := cell_of hr6 2 _ rfl
  have HE6 := hid (And.intro hsp (And.intro hfull hb6))
  clear hsp hfull hb6 hx6 hr6 hb4 hitb hmi hb34 hx4 hbr hru HSk x0 x1
  go_wp2_with fail
  go_ret2
  clear t0 t1 u0 u1 u2
  obtain ⟨hb4, hitb, ⟨F, m, hmi, hF⟩, hb34, hx4, hbr, hru⟩ := HE4.out
  obtain ⟨hsp, hfull, hb6⟩ := HE6.out
  obtain ⟨hm, hl, hmp, hwn, hwb, hS⟩ := HE2.out
  have hbz : Below w6.heap.size w6 (w6.alloc (.cells #[.int .i64 cnt, .int .i64 (10 * ((sec : Int) * 100000)), .map (some itb), .pointer (some ⟨S.mb, 0, none⟩), .map (some wb), .pointer (some ⟨sp, 0, none⟩), .int .i64 0] 72)) := (Below.refl _ _).alloc (Nat.le_refl _) _
  have b46 : Below w4.heap.size w4 w6 := hbr.trans (hb6.mono hbr.size)
  have b4z := b46.trans (hbz.mono b46.size)
  have b3z := hb34.trans (b4z.mono hb34.size)
  have hs3 : (w2.alloc (.cells #[.pointer (some ⟨S.mb, 0, none⟩), .map (some wb)] 62)).heap.size = w2.heap.size + 1 := by simp
  have hs5 : (w4.alloc (.cells #[.int .i64 cnt, .int .i64 ((10 * (sec * 100000) : Nat) : Int), .map (some itb)] 66)).heap.size = w4.heap.size + 1 := by simp
  have hb4s := b46.size
  have hwbl : wb < w2.heap.size + 1 := by have := hmp.lt; rw [hs3] at this; exact this
  have hitl : itb < w4.heap.size := hmi.lt
  have h34 := hb34.size
  rw [hs3] at h34 hitb
  rw [hs5] at hsp
  have hspl : sp < w6.heap.size := hfull.sk.lt
  have hSl : ∀ k, Has S [] k → k < w2.heap.size + 1 := fun k hk => by have := hl.rest.lt k hk; rw [hs3] at this; exact this
  refine ⟨⟨w6.heap.size, itb, wb, sp, S, cnt, sec * 100000, seed, itF f n⟩, ownN w6.heap.size itb wb sp S, rfl, ?_, fun k hk => ?_, hm, rfl, rfl, rfl, rfl, ?_⟩
  · refine { head := ?_, items := ⟨F, m, hmi.of_block (b4z.block _ hitl), hF⟩, lru := hl.below b3z, wins := ⟨_, 0, hmp.of_block (b3z.block _ hmp.lt), fun s v => ⟨fun h => (by cases h), fun ⟨x, hx, _⟩ => (by cases hx)⟩⟩, kn := List.nodup_nil, wok := fun x hx => (by cases hx), sk := hfull.keep fun k hk => hbz.block k (hfull.lt hk), skt := Nat.le_refl _, late := Nat.zero_le _, q0 := (by show 0 < sec * 100000; omega), q1 := (by show sec * 100000 ≤ 6000000; omega), oh := ?_, oi := ?_, ol := fun k hk => ?_, ow := ?_, os := fun k hk => ?_, ox := fun x hx => (by cases hx) }
    · exact heap_alloc_new _ _
    · unfold ownN; rw [if_pos rfl]
    · show ownN _ _ _ _ _ itb = _
      unfold ownN; rw [if_neg (by omega), if_pos rfl]
    · have h1 := hSl k hk
      show ownN _ _ _ _ _ k = _
      unfold ownN
      rw [if_neg (by omega), if_neg (by omega), if_neg (show ¬ k = wb from fun e => hwn (by rw [← e]; exact hk)), if_neg (by omega), if_pos hk]
    · show ownN _ _ _ _ _ wb = _
      unfold ownN; rw [if_neg (by omega), if_neg (by omega), if_pos rfl]
    · have e : k = sp := by
        rcases hk with e | e | ⟨b, hb, _⟩
        · exact e
        · cases e
        · cases hb
      subst e
      show ownN _ _ _ _ _ k = _
      unfold ownN; rw [if_neg (by omega), if_neg (by omega), if_neg (by omega), if_pos rfl]
  · unfold ownN
    rw [if_neg (by omega), if_neg (by omega), if_neg (by omega), if_neg (by omega), if_neg (fun hh => by have := hS k hh; omega)]
  · exact (hb4.trans (b46.mono hb4.size)).alloc (hb4.trans (b46.mono hb4.size)).size _

end Go.Proofs.YtbihelpnojjacaaGreat.HotL

/- A hot parameter's rule at work: New whatever comes, Limit, Kept, and what must be whatever is asked. -/
namespace Go.Proofs.YtbihelpnojjacaaGreat.HotM
open Go.ChangeShapes Go.WideShapes Go.ChangeAt Go.RowKit Go.Deep Base Wri Map LruA LruB LruC LruD LruE LruF HotA HotB HotC HotD HotE HotF HotG HotH HotI HotJ HotK HotL RulA
open Go.Maps (Keyed string_keyed)
set_option linter.unusedVariables false
variable {w w' : World} {own : Nat → Tg} {C : HC} {last : Nat} {L L' : List Ent} {K K' : List KW} {Z Z' : SK}

theorem New_any (res : ByteArray) (hres : res.size ≤ maxLen) (idx cnt sec : Int) (a : Option Addr) (n cap : Nat) (keys : Int) (seed : Nat) (f : Nat → Itm) (w : World) (hI : ItAt w a n f) (hfit : ∀ i, i < n → (f i).1.size ≤ maxLen) :
    Calls Tryz.prog 9 #[hotV res idx cnt sec a n cap, .int .i64 keys, .int .u64 seed] w fun e w' =>
      (∃ r, r ≠ 0 ∧ e = .returned (.tuple #[.pointer none, .int .i64 r]) ∧ Below w.heap.size w w') ∨
      (∃ k q : Nat, hotR res idx cnt sec n f = 0 ∧ keys = k ∧ 1 ≤ k ∧ k ≤ 4096 ∧ sec * 100000 = q ∧ NewPost w cnt q k seed f n e w') := by
  by_cases hr : hotR res idx cnt sec n f = 0
  · have hs : 1 ≤ sec ∧ sec ≤ 60 ∧ n ≤ 32 := by
      unfold hotR itemsB inR at hr
      split at hr
      · split at hr
        · rename_i h2
          simp only [Bool.and_eq_true, decide_eq_true_eq] at h2
          omega
        · cases hr
      · cases hr
    have H0 : Hid (∀ wx, Below w.heap.size w wx → Calls Tryz.prog 25 #[hotV res idx cnt sec a n cap] wx fun e w' => e = .returned (.int .i64 0) ∧ Below wx.heap.size wx w') := hid fun wx hb => by
      have := Hot_any res hres idx cnt sec a n cap f wx (hI.below hb) hfit
      rw [hr] at this
      exact this
    obtain ⟨h1, h2, h3⟩ := hs
    obtain ⟨s, rfl⟩ : ∃ s : Nat, sec = s := ⟨sec.toNat, by omega⟩
    by_cases hk : 1 ≤ keys ∧ keys ≤ 4096
    · obtain ⟨k, rfl⟩ : ∃ k : Nat, keys = k := ⟨keys.toNat, by omega⟩
      exact (New_yes res idx cnt s (by omega) (by omega) a n cap (by omega) k (by omega) (by omega) seed f w hI hfit H0).mono fun e w' h => .inr ⟨k, s * 100000, hr, rfl, by omega, by omega, by omega, h⟩
    · exact (New_no2 res idx cnt s a n cap keys seed w H0 (hid fun wx => newExact_no keys hk wx)).mono fun e w' h => .inl ⟨2, by decide, h.1, h.2⟩
  · exact (New_no1 res idx cnt sec a n cap keys seed _ hr w (hid fun wx hb => Hot_any res hres idx cnt sec a n cap f wx (hI.below hb) hfit)).mono fun e w' h => .inl ⟨_, hr, h.1, h.2⟩

theorem HMem.new_same : Same [] [] := fun s => ⟨fun ⟨_, h, _⟩ => (by cases h), fun ⟨_, h, _⟩ => (by cases h)⟩

set_option maxHeartbeats 1000000 in
theorem Limit_any (h : HMem w own C last L K Z) (s : ByteArray) (hs : s.size ≤ maxLen) :
    Calls Tryz.prog 18 #[.pointer (some ⟨C.h, 0, none⟩), .string s] w fun e w' => e = .returned (.int .i64 (limN C s)) ∧ Below w.heap.size w w' := by
  obtain ⟨c0, c1, c2, -⟩ := HMem.cells h
  have HL := hid (HMem.limit h s hs ((10 * C.q : Nat) : Int))
  generalize limN C s = r at *
  clear h
  go_enter Tryz.func18, Tryz.ntmps18
  go_wp2_with fail
  refine HL.out.mono ?_
  rintro e w1 ⟨rfl, hb1⟩
  have HB1 := hid hb1
  clear hb1 c0 c1 c2
  go_wp2_with fail
  go_ret
  exact ⟨rfl, HB1.out⟩

set_option maxHeartbeats 1000000 in
theorem Kept_any (h : HMem w own C last L K Z) :
    Calls Tryz.prog 16 #[.pointer (some ⟨C.h, 0, none⟩)] w fun e w' => (∃ a c, e = .returned (.slice a L.length c) ∧ w'.ownsRow w.heap.size 9 1 (.slice a L.length c) L.length (LruQ.ks L)) ∧ Below w.heap.size w w' := by
  obtain ⟨-, -, -, c3, -⟩ := HMem.cells h
  have HK := hid (LruQ.keys_any h.lru)
  clear h
  unfold ptr at HK
  go_enter Tryz.func16, Tryz.ntmps16
  go_wp2_with fail
  refine HK.out.mono ?_
  rintro e w1 ⟨⟨x, rfl, hrow⟩, hb1⟩
  have HR := hid (And.intro hrow hb1)
  clear hrow hb1 c3
  go_wp2_with fail
  go_ret
  obtain ⟨a, c, rfl⟩ := owns_shape HR.out.1
  exact ⟨⟨a, c, rfl, HR.out.1⟩, HR.out.2⟩

end Go.Proofs.YtbihelpnojjacaaGreat.HotM

/- A hot parameter's rule at work: what must be whatever is asked. -/
namespace Go.Proofs.YtbihelpnojjacaaGreat.HotN
open Go.ChangeShapes Go.WideShapes Go.ChangeAt Go.RowKit Go.Deep Base Wri Map LruA LruB LruC LruD LruE LruF HotA HotB HotC HotD HotE HotF HotG HotH HotI HotJ HotK HotL HotM RulA
open Go.Maps (Keyed string_keyed)
set_option linter.unusedVariables false

theorem est_none (q : Nat) (X : SkG.Shp) (t : Nat) (s : ByteArray) (hr : 0 < X.ro) : SkL.estN q X [] t s = 0 := by
  unfold SkL.estN
  have h := SkA.least_le (f := fun r => SkL.rowN q X [] t r (SkF.colN X.seed X.co r s)) hr
  have e : SkL.rowN q X [] t 0 (SkF.colN X.seed X.co 0 s) = 0 := by
    unfold SkL.rowN
    rw [SkA.sumN_nil]
    unfold SkA.sat
    omega
  rw [e] at h
  exact Nat.le_zero.1 h

def tx : ByteArray := ⟨#[120]⟩
def ta : ByteArray := ⟨#[97]⟩
theorem name_a : nameB ta = true := by kernel_rfl
theorem hot_a (f : Nat → Itm) : hotR ta 0 2 1 0 f = 0 := by
  unfold hotR itemsB
  rw [name_a, decide_eq_true (show (0 : Nat) ≤ 32 by decide), decide_eq_true (show ∀ i, i < 0 → okI (f i) = true from fun i h => by omega), decide_eq_true (show (vals 0 f).Nodup from List.nodup_nil)]
  rfl
theorem pass_x : (passW 100000 (WinH.addM 100000 (begunW 100000 0 0) 0 ⟨2, 0, 0, 0, 0, 0⟩) 1).pass = 2 := by kernel_rfl

theorem step_below {w w' : World} {own own' : Nat → Tg} (h : Step w own w' own') {B : Nat} (hB : B ≤ w.heap.size) (hown : ∀ k, k < B → own k = .non) : Below B w w' :=
  h.wr.below B hB fun k hk => by
    by_cases hl : k < B
    · exact absurd (hown k hl) hk
    · omega

/-- the two takings of live, in plain -/
theorem live_two {w w1 : World} {own : Nat → Tg} {C : HC} (hM : HMem w1 own C 0 [] [] Z0) (hq : C.q = 100000) (hcnt : C.cnt = 2) (hit : ∀ s, C.it s = none) :
    Calls Tryz.prog 20 #[.pointer (some ⟨C.h, 0, none⟩), .int .i64 0, .string tx, .int .i64 2] w1 fun e w2 => e = .returned (.tuple #[.bool true, .int .i64 0]) ∧
      Hid (Calls Tryz.prog 20 #[.pointer (some ⟨C.h, 0, none⟩), .int .i64 1, .string tx, .int .i64 1] w2 fun e w3 => e = .returned (.tuple #[.bool false, .int .i64 0]) ∧ ∃ own' last' L' K' Z', HMem w3 own' C last' L' K' Z' ∧ L'.length = 1 ∧ Step w1 own w3 own') := by
  have hlim : limN C tx = 2 := by unfold limN; rw [hit, hcnt]; rfl
  have hs : tx.size ≤ maxLen := by unfold maxLen; decide
  have h0 : hotE 0 0 (noC 2) tx.size = 0 := by decide
  have hl0 : letB C 0 0 tx 2 0 = true := by unfold letB; rw [hlim, h0]; rfl
  have hu0 : Us C [] Z0 0 tx 0 := .inr ⟨fun x hx => (by cases hx), (est_none _ _ _ _ (by show 0 < 4; decide)).symm⟩
  have hT := HMem.Take hM HMem.new_same 0 tx hs 2 0 (fun _ => ⟨hu0, by decide⟩)
  rw [hl0, h0] at hT
  refine hT.mono fun e w2 h2 => ⟨h2.1, hid ?_⟩
  obtain ⟨own2, last2, L2, K2, Z2, hM2, hsame, hst, hcase⟩ := h2.2
  rcases hcase with ⟨hne, _⟩ | ⟨_, hlast, ⟨hf, _⟩ | ⟨_, hTk⟩⟩
  · exact absurd h0 hne
  · rw [hl0] at hf; cases hf
  · obtain rfl : last2 = 0 := by omega
    obtain ⟨y, hy, hyk, hyt, hys⟩ := hTk.mine
    have hys2 : y.s = WinH.addM 100000 (begunW 100000 0 0) 0 ⟨2, 0, 0, 0, 0, 0⟩ := by
      rcases hys with ⟨x, hx, _⟩ | ⟨_, e⟩
      · cases hx
      · rw [hq] at e; exact e
    have hlen : L2.length = 1 := by
      have := congrArg List.length hTk.keys
      simpa using this
    have h1 : hotE 0 1 (noC 1) tx.size = 0 := by decide
    have hu1 : Us C K2 Z2 1 tx 2 := .inl ⟨y, hy, hyk, by rw [hq, hys2, pass_x]; rfl⟩
    have hl1 : letB C 0 1 tx 1 2 = false := by unfold letB; rw [hlim, h1]; rfl
    have hT2 := HMem.Take hM2 hsame 1 tx hs 1 2 (fun _ => ⟨hu1, by decide⟩)
    rw [hl1, h1] at hT2
    refine hT2.mono fun e w3 h3 => ⟨h3.1, ?_⟩
    obtain ⟨own3, last3, L3, K3, Z3, hM3, hsame3, hst3, hcase3⟩ := h3.2
    refine ⟨own3, last3, L3, K3, Z3, hM3, ?_, hst.trans hst3⟩
    rcases hcase3 with ⟨hne, _⟩ | ⟨_, _, ⟨_, hL, _⟩ | ⟨hf, _⟩⟩
    · exact absurd h1 hne
    · rw [hL]; exact hlen
    · rw [hl1] at hf; cases hf

set_option maxHeartbeats 2000000 in
theorem live_any (w : World) : Calls Tryz.prog 11 #[] w fun e w' => e = .returned (.bool true) ∧ Below w.heap.size w w' := by
  have hN := New_yes ta 0 2 1 (by decide) (by decide) none 0 0 (by decide) 1 (by decide) (by decide) 7 (fun _ => (ta, 0)) w (fun h => by omega) (fun i h => by omega) (hid fun wx hb => by
    have := Hot_any ta (by unfold maxLen; decide) 0 2 1 none 0 0 (fun _ => (ta, 0)) wx (fun h => by omega) (fun i h => by omega)
    rw [hot_a] at this
    exact this)
  have HN := hid hN
  clear hN
  go_enter Tryz.func11, Tryz.ntmps11
  go_wp2_with fail
  refine HN.out.mono ?_
  rintro e w1 ⟨C, own, rfl, hM, hown, hmost, hcnt, hq, hseed, hit, hb⟩
  have hlim : limN C tx = 2 := by unfold limN; rw [hit, hcnt]; rfl
  have HT := hid (live_two (w := w) hM hq hcnt (fun s => by rw [hit]; rfl))
  have HB := hid (And.intro hb (And.intro hown hlim))
  clear hM hown hmost hcnt hq hseed hit hb hlim HN
  generalize hCh : C.h = ch at *
  have HCh := hid hCh
  clear hCh
  go_wp2_with fail
  refine HT.out.mono ?_
  rintro e w2 ⟨rfl, HT2⟩
  clear HT
  go_wp2_with fail
  refine HT2.out.mono ?_
  rintro e w3 ⟨rfl, own', last', L', K', Z', hM, hlen, hst⟩
  have HL := hid (Limit_any hM tx (by unfold maxLen; decide))
  rw [HB.out.2.2, HCh.out] at HL
  have HM := hid (And.intro hM (And.intro hlen (HB.out.1.trans (step_below hst HB.out.1.size HB.out.2.1))))
  clear hM hlen hst HT2
  go_wp2_with fail
  refine HL.out.mono ?_
  rintro e w4 ⟨rfl, hb4⟩
  have HK := hid (Kept_any (HM.out.1.below hb4))
  rw [HM.out.2.1, HCh.out] at HK
  have HB4 := hid (HM.out.2.2.trans (hb4.mono HM.out.2.2.size))
  clear hb4 HL
  go_wp2_with fail
  refine HK.out.mono ?_
  rintro e w5 ⟨⟨a, c, rfl, hrow⟩, hb5⟩
  have HB5 := hid (HB4.out.trans (hb5.mono HB4.out.size))
  clear hrow hb5 HK
  go_wp2_with fail
  go_ret
  exact ⟨rfl, HB5.out⟩

end Go.Proofs.YtbihelpnojjacaaGreat.HotN

/- HotLooks: the law's walk. -/
namespace Go.Proofs.YtbihelpnojjacaaGreat.HotO
open Go.ChangeShapes Go.WideShapes Go.ChangeAt Go.RowKit Go.Deep Base Wri Map LruA LruB LruC LruD LruE LruF HotA HotB HotC HotD HotE HotF HotG HotH HotI HotJ HotK HotL HotM HotN RulA
set_option linter.unusedVariables false
variable {w w' : World} {own : Nat → Tg} {C : HC} {last : Nat} {L L' : List Ent} {K K' : List KW} {Z Z' : SK}

/-- a deed -/
structure Dd where
  kind : Int
  t : Int
  s : ByteArray
  n : Int
def DeAt (w : World) (a : Option Addr) (n : Nat) (g : Nat → Dd) : Prop := 0 < n → ∃ b o, a = some ⟨b, o, none⟩ ∧ b < w.heap.size ∧ ∀ i, i < n → w.cell? ⟨b, o + i * 4, none⟩ = some (.int .i64 (g i).kind) ∧ w.cell? ⟨b, o + i * 4 + 1, none⟩ = some (.int .i64 (g i).t) ∧ w.cell? ⟨b, o + i * 4 + 2, none⟩ = some (.string (g i).s) ∧ w.cell? ⟨b, o + i * 4 + 3, none⟩ = some (.int .i64 (g i).n)

/-- a rule at work beside a law's own memory -/
structure At (w0 : World) (C : HC) (wr : World) : Prop where
  ex : ∃ own last L K Z, HMem wr own C last L K Z ∧ Same L K ∧ ∀ k, k < w0.heap.size → own k = .non
  bel : Below w0.heap.size w0 wr

theorem At.below {w0 w w' : World} (h : At w0 C w) (hb : Below w.heap.size w w') : At w0 C w' := by
  obtain ⟨own, last, L, K, Z, hM, hs, ho⟩ := h.ex
  exact ⟨⟨own, last, L, K, Z, hM.below hb, hs, ho⟩, h.bel.trans (hb.mono h.bel.size)⟩

/-- what is used, if anything may be asked -/
theorem us_of (h : HMem w own C last L K Z) (t : Int) (s : ByteArray) (n : Int) : ∃ u : Nat, hotE last t (noC n) s.size = 0 → Us C K Z t.toNat s u ∧ u ≤ 4611686018427387904 := by
  obtain ⟨u, h1, h2⟩ := us_some h t.toNat s
  exact ⟨u, fun _ => ⟨h1, h2⟩⟩

/-- Look twice and Take say the same -/
theorem At.same {w0 : World} (h : At w0 C w) (t : Int) (s : ByteArray) (hs : s.size ≤ maxLen) (n : Int) : ∃ (b : Bool) (r : Int),
    (∀ wx, Below w.heap.size w wx → Calls Tryz.prog 22 #[.pointer (some ⟨C.h, 0, none⟩), .int .i64 t, .string s, .int .i64 n] wx fun e w' => e = .returned (.tuple #[.bool b, .int .i64 r]) ∧ Below wx.heap.size wx w') ∧
    (∀ wx, Below w.heap.size w wx → Calls Tryz.prog 20 #[.pointer (some ⟨C.h, 0, none⟩), .int .i64 t, .string s, .int .i64 n] wx fun e w' => e = .returned (.tuple #[.bool b, .int .i64 r]) ∧ At w0 C w') := by
  obtain ⟨own, last, L, K, Z, hM, hsm, ho⟩ := h.ex
  obtain ⟨u, hu⟩ := us_of hM t s n
  refine ⟨letB C last t s n u, hotE last t (noC n) s.size, fun wx hb => HMem.Look (hM.below hb) t s hs n u hu, fun wx hb => ?_⟩
  refine (HMem.Take (hM.below hb) hsm t s hs n u hu).mono fun e w' h2 => ⟨h2.1, ?_⟩
  obtain ⟨own', last', L', K', Z', hM', hsm', hst, -⟩ := h2.2
  have hB : w0.heap.size ≤ wx.heap.size := Nat.le_trans h.bel.size hb.size
  exact ⟨⟨own', last', L', K', Z', hM', hsm', fun k hk => (hst.tag k (by omega)).trans (ho k hk)⟩, (h.bel.trans (hb.mono h.bel.size)).trans (step_below hst hB ho)⟩

set_option maxRecDepth 20000 in
set_option maxHeartbeats 4000000 in
theorem looks_core (res : ByteArray) (hres : res.size ≤ maxLen) (idx cnt sec : Int) (a : Option Addr) (n cap : Nat) (keys : Int) (seed : Nat) (f : Nat → Itm) (al : Option Addr) (nl cl : Nat) (g : Nat → Dd) (w : World) (hI : ItAt w a n f) (hfit : ∀ i, i < n → (f i).1.size ≤ maxLen) (hD : DeAt w al nl g) (hfit2 : ∀ i, i < nl → (g i).s.size ≤ maxLen) :
    Calls Tryz.prog 5 #[.agg #[.string res, .int .i64 idx, .int .i64 cnt, .int .i64 sec, .slice a n cap, .int .i64 keys, .int .u64 seed], .slice al nl cl] w fun e w' => e = .returned (.bool true) ∧ Below w.heap.size w w' := by
  have hb0 : Below w.heap.size w (w.alloc (.cells #[.string res, .int .i64 idx, .int .i64 cnt, .int .i64 sec, .slice a n cap, .int .i64 keys, .int .u64 seed] 27)) := (Below.refl _ _).alloc (Nat.le_refl _) _
  have HN := hid (New_any res hres idx cnt sec a n cap keys seed f _ (hI.below hb0) hfit)
  have HB0 := hid hb0
  have HD := hid (And.intro hD hfit2)
  have HL := hid live_any
  clear hb0 hI hfit hD hfit2
  go_enter Tryz.func5, Tryz.ntmps5
  go_wp2_with fail
  refine HN.out.mono ?_
  rintro e w1 h
  rcases h with ⟨r, hr, rfl, hb1⟩ | ⟨k, q, -, -, -, -, -, C, own, rfl, hM, hown, -, -, -, -, -, hb1⟩
  · have n0 : (r == 0) = false := by simpa using hr
    have HB1 := hid (bl HB0.out hb1)
    clear hb1 HN
    go_wp2_with fail
    refine (HL.out _).mono ?_
    rintro e w2 ⟨rfl, hb2⟩
    have HB2 := hid (bl HB1.out hb2)
    clear hb2
    go_wp2_with fail
    go_ret
    exact ⟨rfl, HB2.out⟩
  · have HA := hid (show At w C w1 from ⟨⟨own, 0, [], [], Z0, hM, HMem.new_same, fun k hk => hown k (Nat.lt_of_lt_of_le hk HB0.out.size)⟩, bl HB0.out hb1⟩)
    clear hM hown hb1 HN
    generalize hCh : C.h = ch at *
    have HCh := hid hCh
    clear hCh
    go_wp2_with fail
    go_loopw [7] (fun i wr => ∃ k : Nat, k ≤ nl ∧ i = .int .i64 k ∧ At w C wr) (fun i _ => nl - (intOf i).toNat)
    case atStart => exact ⟨0, Nat.zero_le _, rfl, HA.out⟩
    case round =>
      obtain ⟨k, hk, rfl, hA⟩ := hrel
      have HAt := hid hA
      clear hA
      by_cases hlt : k < nl
      · have hki : (k : Int) < nl := by omega
        have hki0 : (0 : Int) ≤ k := by omega
        by_cases h80 : k < 80
        · have h80i : (k : Int) < 80 := by omega
          obtain ⟨b, o, rfl, hb, hc⟩ := HD.out.1 (by omega)
          obtain ⟨p0, p1, p2, p3⟩ := hc k hlt
          have hfk := HD.out.2 k hlt
          have hbB := HAt.out.bel
          have c0 := (hbB.cell (p := ⟨b, o + k * 4, none⟩) hb).trans p0
          have c1 := (hbB.cell (p := ⟨b, o + k * 4 + 1, none⟩) hb).trans p1
          have c2 := (hbB.cell (p := ⟨b, o + k * 4 + 2, none⟩) hb).trans p2
          have c3 := (hbB.cell (p := ⟨b, o + k * 4 + 3, none⟩) hb).trans p3
          have hbl : b < wr.heap.size := Nat.lt_of_lt_of_le hb hbB.size
          obtain ⟨⟨kd, t, s, m⟩, hgk⟩ : ∃ x, g k = x := ⟨_, rfl⟩
          rw [hgk] at c0 c1 c2 c3 hfk
          dsimp only at c0 c1 c2 c3 hfk
          have hbx : Below wr.heap.size wr (wr.alloc (.cells #[.int .i64 kd, .int .i64 t, .string s, .int .i64 m] 41)) := (Below.refl _ _).alloc (Nat.le_refl _) _
          have hxx : (wr.alloc (.cells #[.int .i64 kd, .int .i64 t, .string s, .int .i64 m] 41)).heap[wr.heap.size]? = some (.cells #[.int .i64 kd, .int .i64 t, .string s, .int .i64 m] 41) := heap_alloc_new _ _
          obtain ⟨bb, rr, hLk, hTk⟩ := HAt.out.same t s hfk m
          rw [HCh.out] at hLk hTk
          have HS := hid (And.intro hLk hTk)
          have HX := hid (And.intro hbx hxx)
          have HL1 := hid (hLk _ hbx)
          clear p0 p1 p2 p3 hc hfk hbB hb hgk hbx hxx hLk hTk
          go_wp2_with fail
          refine HL1.out.mono ?_
          rintro e w2 ⟨rfl, hb2⟩
          obtain ⟨hbx, hxx⟩ := HX.out
          have hb2' := bl hbx hb2
          have hx2 := (hb2.block _ (Array.getElem?_eq_some_iff.1 hxx).1).trans hxx
          have d1 : w2.cell? ⟨wr.heap.size, 1, none⟩ = some (.int .i64 t) := cell_of hx2 1 _ rfl
          have d2 : w2.cell? ⟨wr.heap.size, 2, none⟩ = some (.string s) := cell_of hx2 2 _ rfl
          have d3 : w2.cell? ⟨wr.heap.size, 3, none⟩ = some (.int .i64 m) := cell_of hx2 3 _ rfl
          have HL2 := hid (HS.out.1 _ hb2')
          have HX2 := hid (And.intro hb2' hx2)
          clear hbx hxx hb2' hx2 hb2 HX HL1 c0 c1 c2 c3 hbl
          go_wp2_with fail
          refine HL2.out.mono ?_
          rintro e w3 ⟨rfl, hb3⟩
          obtain ⟨hb2', hx2⟩ := HX2.out
          have hb3' := bl hb2' hb3
          have hx3 := (hb3.block _ (Array.getElem?_eq_some_iff.1 hx2).1).trans hx2
          have e1 : w3.cell? ⟨wr.heap.size, 1, none⟩ = some (.int .i64 t) := cell_of hx3 1 _ rfl
          have e2 : w3.cell? ⟨wr.heap.size, 2, none⟩ = some (.string s) := cell_of hx3 2 _ rfl
          have e3 : w3.cell? ⟨wr.heap.size, 3, none⟩ = some (.int .i64 m) := cell_of hx3 3 _ rfl
          have HT := hid (HS.out.2 _ hb3')
          clear hb2' hx2 hb3' hx3 hb3 HX2 HL2 d1 d2 d3
          go_wp2_with fail
          refine HT.out.mono ?_
          rintro e w4 ⟨rfl, hA4⟩
          have HA4 := hid hA4
          clear hA4 HT e1 e2 e3
          go_wp2_with fail
          go_roundw
          case rel => exact ⟨k + 1, hlt, by go_num, HA4.out⟩
          case measure => simp [intOf]; omega
        · have h80i : ¬ (k : Int) < 80 := by omega
          have HBw := hid HAt.out.bel
          go_wp2_with fail
          refine (HL.out _).mono ?_
          rintro e w2 ⟨rfl, hb2⟩
          have HB2 := hid (bl HBw.out hb2)
          clear hb2
          go_wp2_with fail
          go_ret
          exact ⟨rfl, HB2.out⟩
      · obtain rfl : k = nl := by omega
        have HBw := hid HAt.out.bel
        go_wp2_with fail
        refine (HL.out _).mono ?_
        rintro e w2 ⟨rfl, hb2⟩
        have HB2 := hid (bl HBw.out hb2)
        clear hb2
        go_wp2_with fail
        go_ret
        exact ⟨rfl, HB2.out⟩

end Go.Proofs.YtbihelpnojjacaaGreat.HotO

/- HotBounds, plain mathematics: no value is taken more often than its limit. -/
namespace Go.Proofs.YtbihelpnojjacaaGreat.HotQ
open WinM WinC WinD WinE WinH WinK WinN SkA HotA HotB HotD HotH HotI HotC HotE HotK
set_option linter.unusedVariables false

/-- what of a value is in the window at a time; what is near a time -/
def own (q t : Nat) (s : ByteArray) (ns : List Note) : Nat := sumN ns fun x => decide (t / q < x.t / q + 10) && decide (x.k = s)
def nr (q t : Nat) (s : ByteArray) (ns : List Note) : Nat := sumN ns fun x => decide (t < x.t + 9 * q) && decide (x.k = s)

theorem sumN_snoc (ns : List Note) (x : Note) (p : Note → Bool) : sumN (ns ++ [x]) p = sumN ns p + if p x then x.n else 0 := by
  unfold sumN
  rw [List.filter_append, List.map_append, List.sum_append]
  cases hp : p x <;> simp [hp]
theorem own_snoc (q t : Nat) (s : ByteArray) (ns : List Note) (t0 n0 : Nat) (k0 : ByteArray) : own q t s (ns ++ [⟨t0, k0, n0⟩]) = own q t s ns + if t / q < t0 / q + 10 ∧ k0 = s then n0 else 0 := by
  unfold own
  rw [sumN_snoc]
  simp only [Bool.and_eq_true, decide_eq_true_eq]
theorem nr_snoc (q t : Nat) (s : ByteArray) (ns : List Note) (t0 n0 : Nat) (k0 : ByteArray) : nr q t s (ns ++ [⟨t0, k0, n0⟩]) = nr q t s ns + if t < t0 + 9 * q ∧ k0 = s then n0 else 0 := by
  unfold nr
  rw [sumN_snoc]
  simp only [Bool.and_eq_true, decide_eq_true_eq]
theorem sum_le {ns : List Note} {p r : Note → Bool} (h : ∀ x ∈ ns, p x = true → r x = true) : sumN ns p ≤ sumN ns r := by
  induction ns with
  | nil => exact Nat.le_refl _
  | cons x t ih =>
    rw [sumN_cons, sumN_cons]
    have h1 := ih fun y hy => h y (List.mem_cons_of_mem _ hy)
    have h2 := h x List.mem_cons_self
    cases hp : p x with
    | true => rw [h2 hp]; simpa using h1
    | false => simp; omega
theorem sum_small {ns : List Note} {p : Note → Bool} {b : Nat} (h : ∀ x ∈ ns, x.n ≤ b) : sumN ns p ≤ ns.length * b := by
  induction ns with
  | nil => exact Nat.zero_le _
  | cons x t ih =>
    rw [sumN_cons]
    have h1 := ih fun y hy => h y (List.mem_cons_of_mem _ hy)
    have h2 := h x List.mem_cons_self
    rw [List.length_cons, Nat.succ_mul]
    split <;> omega
theorem sum_none {ns : List Note} {p : Note → Bool} (h : ∀ x ∈ ns, p x = false) : sumN ns p = 0 := by
  induction ns with
  | nil => rfl
  | cons x t ih =>
    rw [sumN_cons, ih fun y hy => h y (List.mem_cons_of_mem _ hy), h x List.mem_cons_self]
    rfl

theorem own_mono {q t t' : Nat} {s : ByteArray} {ns : List Note} (h : t ≤ t') : own q t' s ns ≤ own q t s ns := by
  refine sum_le fun x hx hp => ?_
  simp only [Bool.and_eq_true, decide_eq_true_eq] at hp ⊢
  have := Nat.div_le_div_right (c := q) h
  exact ⟨by omega, hp.2⟩
theorem nr_mono {q t t' : Nat} {s : ByteArray} {ns : List Note} (h : t ≤ t') : nr q t' s ns ≤ nr q t s ns := by
  refine sum_le fun x hx hp => ?_
  simp only [Bool.and_eq_true, decide_eq_true_eq] at hp ⊢
  exact ⟨by omega, hp.2⟩
theorem nr_own {q t : Nat} (hq : 0 < q) {s : ByteArray} {ns : List Note} : nr q t s ns ≤ own q t s ns := by
  refine sum_le fun x hx hp => ?_
  simp only [Bool.and_eq_true, decide_eq_true_eq] at hp ⊢
  refine ⟨?_, hp.2⟩
  have h1 : t / q ≤ (x.t + 9 * q) / q := Nat.div_le_div_right (by omega)
  rw [Nat.add_mul_div_right _ _ hq] at h1
  omega
theorem own_far {q t t0 : Nat} {s : ByteArray} {ns : List Note} (h : ∀ x ∈ ns, x.t ≤ t0) (hf : t0 / q + 10 ≤ t / q) : own q t s ns = 0 := by
  refine sum_none fun x hx => ?_
  have := Nat.div_le_div_right (c := q) (h x hx)
  rw [decide_eq_false (by omega)]
  rfl

theorem begN_div (q a : Nat) : begN q a = a / q * q := by
  unfold begN
  have := Nat.div_add_mod a q
  rw [Nat.mul_comm] at this
  omega
/-- a bucket is in the window -/
theorem in_iff {q t e : Nat} (hq : 0 < q) : ((begN q t : Int) - (10 * q : Nat) + q ≤ (begN q e : Int)) ↔ t / q < e / q + 10 := by
  rw [begN_div, begN_div]
  obtain ⟨a, ha⟩ : ∃ a, t / q = a := ⟨_, rfl⟩
  obtain ⟨b, hb⟩ : ∃ b, e / q = b := ⟨_, rfl⟩
  rw [ha, hb]
  constructor
  · intro h
    have h2 : a * q < (b + 10) * q := by
      rw [Nat.add_mul]
      omega
    exact Nat.lt_of_mul_lt_mul_right h2
  · intro h
    have h2 : (a + 1) * q ≤ (b + 10) * q := Nat.mul_le_mul_right q h
    rw [Nat.add_mul, Nat.add_mul] at h2
    omega

/-- what a window tells at a later time -/
theorem pass_told {q : Nat} {s : Win} {last t : Nat} {E : List (Nat × Int)} (h : Tells q s last E) (ht : Tidy q s last) (hl : last ≤ t) (hE : ∀ e ∈ E, 0 ≤ e.2) (hs : tot E ≤ 4611686018427387904) : (passW q s t).pass = ev q ((begN q t : Int) - s.width + q) E := by
  have hm := begN_mono (q := q) hl
  have h1 := h ((begN q t : Int) - s.width + q) (by omega)
  have h2 := ev_le q ((begN q t : Int) - s.width + q) E hE
  unfold passW sumM
  rw [sum_pas ((begN q t : Int) - s.width + q) (stays ((begN q t : Int) - s.width + q) s.bs) _ (fun x hx => (ht.fine x (List.mem_filter.1 hx).1).1.1) (fun x hx => by have := (List.mem_filter.1 hx).2; simp at this; omega) (by rw [pas_stays _ _ _ (Int.le_refl _)]; show 0 + _ ≤ _; omega), pas_stays _ _ _ (Int.le_refl _), ← h1]
  show 0 + _ = _; omega

theorem own_le_est (q t : Nat) (X : SkG.Shp) (hbk : X.bk = 10) (s : ByteArray) (ns : List Note) (hs : own q t s ns ≤ 4611686018427387904) : own q t s ns ≤ SkL.estN q X ns t s := by
  unfold SkL.estN
  refine le_least (fun r hr => ?_) hs
  unfold SkL.rowN
  have h1 : own q t s ns ≤ sumN ns (fun x => inW q X.bk t (x.t / q) && SkF.colN X.seed X.co r x.k == SkF.colN X.seed X.co r s) := by
    refine sum_le fun x hx hp => ?_
    simp only [Bool.and_eq_true, decide_eq_true_eq] at hp
    unfold inW
    rw [hbk, hp.2]
    simp [hp.1]
  unfold sat
  omega

variable {w w' : World} {own' : Nat → Tg} {C : HC} {last : Nat} {L L' : List LruC.Ent} {K K' : List KW} {Z Z' : SK}

/-- what stands, of all that was taken: each value's window tells no less of it; and it stays below the limit -/
structure Gh (C : HC) (last : Nat) (K : List KW) (ns : List Note) : Prop where
  small : ∀ x ∈ ns, x.n ≤ 1099511627776 ∧ x.t ≤ last
  few : ns.length ≤ 1000
  win : ∀ x ∈ K, ∃ E : List (Nat × Int), Tells C.q x.s x.t E ∧ (∀ e ∈ E, 0 ≤ e.2) ∧ tot E ≤ ((ns.length + 1) * 1099511627776 : Nat) ∧ ∀ t, x.t ≤ t → (own C.q t x.k ns : Int) ≤ ev C.q ((begN C.q t : Int) - (10 * C.q : Nat) + C.q) E
  near : ∀ (s : ByteArray) (t : Nat), last ≤ t → (nr C.q t s ns : Int) ≤ limN C s

theorem Gh.new (C : HC) (h : ∀ s, 0 ≤ limN C s) : Gh C 0 [] [] := ⟨fun x hx => (by cases hx), by simp, fun x hx => (by cases hx), fun s t _ => by
  have : nr C.q t s [] = 0 := rfl
  rw [this]; exact h s⟩
theorem Gh.later {t : Nat} {ns : List Note} (h : Gh C last K ns) (ht : last ≤ t) : Gh C t K ns := ⟨fun x hx => ⟨(h.small x hx).1, Nat.le_trans (h.small x hx).2 ht⟩, h.few, h.win, fun s t' h' => h.near s t' (Nat.le_trans ht h')⟩
theorem Gh.own_small {ns : List Note} (h : Gh C last K ns) (t : Nat) (s : ByteArray) : own C.q t s ns ≤ 4611686018427387904 := by
  have h1 : own C.q t s ns ≤ ns.length * 1099511627776 := sum_small fun x hx => (h.small x hx).1
  have h2 : ns.length * 1099511627776 ≤ 1000 * 1099511627776 := Nat.mul_le_mul_right _ h.few
  omega
theorem Gh.tot_small {ns : List Note} (h : Gh C last K ns) {E : List (Nat × Int)} (hE : tot E ≤ ((ns.length + 1) * 1099511627776 : Nat)) : tot E ≤ 4398046511104000 := by
  have h2 : (ns.length + 1) * 1099511627776 ≤ 1001 * 1099511627776 := Nat.mul_le_mul_right _ (by have := h.few; omega)
  omega

/-- what counts as used is never less than what was taken -/
theorem Gh.used {own0 : Nat → Tg} (hM : HMem w own0 C last L K Z) (h : Gh C last K Z.ns) {t : Nat} (ht : last ≤ t) {s : ByteArray} {u : Nat} (hu : Us C K Z t s u) : own C.q t s Z.ns ≤ u := by
  rcases hu with ⟨x, hx, rfl, e⟩ | ⟨hno, rfl⟩
  · obtain ⟨E, h1, h2, h3, h4⟩ := h.win x hx
    obtain ⟨a1, a2, a3, a4, a5, a6⟩ := hM.wok x hx
    have h5 := pass_told (t := t) h1 a4 (by omega) h2 (by have := h.tot_small h3; omega)
    have h6 := h4 t (by omega)
    rw [a2] at h5
    rw [h5] at e
    omega
  · exact own_le_est _ _ _ rfl _ _ (h.own_small t s)

/-- a taking -/
theorem Gh.took {own0 : Nat → Tg} {s : ByteArray} {n u : Nat} (hM : HMem w own0 C last L K Z) (h : Gh C last K Z.ns) (hT : Took C L K Z last s n u L' K' Z') (hu : Us C K Z last s u) (hn : n ≤ 1099511627776) (hlim : limN C s ≤ 1099511627776) (hpass : (u : Int) + n ≤ limN C s) (hfew : Z.ns.length < 1000) (hun : ∀ z ∈ K', ∀ y ∈ K', z.k = y.k → z = y) : Gh C last K' Z'.ns := by
  have hq := hM.q0
  have hown := Gh.used hM h (Nat.le_refl _) hu
  rw [hT.ns]
  refine ⟨fun x hx => ?_, by simp; omega, fun z hz => ?_, fun s' t ht => ?_⟩
  · rcases List.mem_append.1 hx with hx | hx
    · exact h.small x hx
    · obtain rfl := List.mem_singleton.1 hx
      exact ⟨hn, Nat.le_refl _⟩
  · by_cases hzs : z.k = s
    · obtain ⟨y, hy, hyk, hyt, hys⟩ := hT.mine
      obtain rfl : z = y := hun z hz y hy (hzs.trans hyk.symm)
      subst hzs
      rcases hys with ⟨x, hx, hxk, hs⟩ | ⟨hno, hs⟩
      · obtain ⟨E, h1, h2, h3, h4⟩ := h.win x hx
        obtain ⟨a1, a2, a3, a4, a5, a6⟩ := hM.wok x hx
        have hts := h.tot_small h3
        refine ⟨E ++ [(last, (n : Int))], ?_, fun e he => ?_, ?_, fun t ht => ?_⟩
        · rw [hs, hyt]
          exact Tells.add (c := ⟨n, 0, 0, 0, 0, 0⟩) h1 a4 a6 h2 (by show tot E + (n : Int) ≤ _; omega)
        · rcases List.mem_append.1 he with he | he
          · exact h2 e he
          · obtain rfl := List.mem_singleton.1 he
            exact Int.natCast_nonneg n
        · rw [tot_app]
          have : tot [(last, (n : Int))] = n := by simp [tot]
          rw [this, List.length_append, List.length_singleton]
          omega
        · have h5 := h4 t (by omega)
          rw [hxk] at h5
          rw [ev_app, own_snoc]
          have e1 : ev C.q ((begN C.q t : Int) - (10 * C.q : Nat) + C.q) [(last, (n : Int))] = if t / C.q < last / C.q + 10 then (n : Int) else 0 := by
            simp only [ev]
            by_cases hc : t / C.q < last / C.q + 10
            · rw [if_pos ((in_iff hq).2 hc), if_pos hc]; omega
            · rw [if_neg (fun h => hc ((in_iff hq).1 h)), if_neg hc]; omega
          rw [e1]
          by_cases hc : t / C.q < last / C.q + 10
          · rw [if_pos hc, if_pos ⟨hc, rfl⟩]; omega
          · rw [if_neg hc, if_neg (fun h => hc h.1)]; omega
      · have hue : own C.q last z.k Z.ns ≤ u := hown
        have hu2 : u ≤ 1099511627776 := by omega
        refine ⟨[(last, (u : Int)), (last, (n : Int))], ?_, fun e he => ?_, ?_, fun t ht => ?_⟩
        · rw [hs, hyt]
          have t0 : Tells C.q ⟨10 * C.q, 10, 0, []⟩ 0 [] := fun L _ => rfl
          have t1 := Tells.add (c := ⟨u, 0, 0, 0, 0, 0⟩) t0 (Tidy.fresh C.q (10 * C.q) 10) (Nat.zero_le last) (fun e he => (by cases he)) (by show tot [] + (u : Int) ≤ _; simp [tot]; omega)
          have d1 := Tidy.add (q := C.q) (c := ⟨u, 0, 0, 0, 0, 0⟩) (Tidy.fresh C.q (10 * C.q) 10) (Nat.zero_le last) (by show C.q ≤ 10 * C.q; omega) (right_pass (by omega)).1
          exact Tells.add (c := ⟨n, 0, 0, 0, 0, 0⟩) t1 d1 (Nat.le_refl _) (fun e he => by
            simp at he; subst he; exact Int.natCast_nonneg u) (by show tot ([] ++ [(last, (u : Int))]) + (n : Int) ≤ _; simp [tot]; omega)
        · simp at he
          rcases he with rfl | rfl
          · exact Int.natCast_nonneg u
          · exact Int.natCast_nonneg n
        · simp only [tot, List.length_append, List.length_singleton]
          have : 1 * 1099511627776 ≤ (Z.ns.length + 1) * 1099511627776 := Nat.mul_le_mul_right _ (by omega)
          omega
        · have e1 : ev C.q ((begN C.q t : Int) - (10 * C.q : Nat) + C.q) [(last, (u : Int)), (last, (n : Int))] = if t / C.q < last / C.q + 10 then (u : Int) + n else 0 := by
            simp only [ev]
            by_cases hc : t / C.q < last / C.q + 10
            · rw [if_pos ((in_iff hq).2 hc), if_pos ((in_iff hq).2 hc), if_pos hc]; omega
            · rw [if_neg (fun h => hc ((in_iff hq).1 h)), if_neg (fun h => hc ((in_iff hq).1 h)), if_neg hc]; omega
          rw [e1, own_snoc]
          by_cases hc : t / C.q < last / C.q + 10
          · rw [if_pos hc, if_pos ⟨hc, rfl⟩]
            have h6 := own_mono (q := C.q) (s := z.k) (ns := Z.ns) (show last ≤ t by omega)
            omega
          · rw [if_neg hc, if_neg (fun h => hc h.1), own_far (fun x hx => (h.small x hx).2) (by omega)]
            omega
    · have hz2 := ((hT.others z hzs).1 hz).1
      obtain ⟨E, h1, h2, h3, h4⟩ := h.win z hz2
      refine ⟨E, h1, h2, ?_, fun t ht => ?_⟩
      · rw [List.length_append, List.length_singleton]
        have h9 : (Z.ns.length + 1) * 1099511627776 ≤ (Z.ns.length + 1 + 1) * 1099511627776 := Nat.mul_le_mul_right _ (Nat.le_succ _)
        exact Int.le_trans h3 (Int.ofNat_le.2 h9)
      · rw [own_snoc, if_neg (fun h => hzs h.2.symm)]
        exact h4 t ht
  · rw [nr_snoc]
    by_cases hs : s = s'
    · subst hs
      have h6 := nr_mono (q := C.q) (s := s) (ns := Z.ns) ht
      have h7 := nr_own (t := last) hq (s := s) (ns := Z.ns)
      split <;> omega
    · rw [if_neg (fun h => hs h.2)]
      have := h.near s' t ht
      omega

end Go.Proofs.YtbihelpnojjacaaGreat.HotQ

/- HotBounds: a rule at work beside a list of what was taken. -/
namespace Go.Proofs.YtbihelpnojjacaaGreat.HotR
open Go.ChangeShapes Go.WideShapes Go.ChangeAt Go.RowKit Go.Deep Base Wri Map LruA LruB LruC LruD LruE LruF HotA HotB HotC HotD HotE HotF HotG HotH HotI HotJ HotK HotL HotM HotN HotO HotQ RulA
open SkA (Note)
set_option linter.unusedVariables false
variable {w w' : World} {own : Nat → Tg} {C : HC} {last : Nat} {L L' : List Ent} {K K' : List KW} {Z Z' : SK}

def dl (d : Dd) : List Value := [.int .i64 d.kind, .int .i64 d.t, .string d.s, .int .i64 d.n]
def DRow (w : World) (B : Nat) (v : Value) (l : List Dd) : Prop := w.ownsRow B 41 4 v l.length (l.flatMap dl)
theorem infoDeed : (Tryz.prog.info? 41).map (fun i => (i.zero, i.size, i.bytes)) = some (some (.agg #[.int .i64 0, .int .i64 0, .string ⟨#[]⟩, .int .i64 0]), 4, 40) := by kernel_rfl
theorem dl_len (d : Dd) : (dl d).length = 4 := rfl
theorem one4 (d : Dd) : ∀ u ∈ dl d, u.oneCell' = true := by
  intro u hu
  unfold dl at hu
  simp at hu
  rcases hu with rfl | rfl | rfl | rfl <;> rfl

theorem run_append_deed (w : World) {B : Nat} {v : Value} {l : List Dd} {d : Dd} {g : Nat} (t ty : TypeId) (hd : DRow w B v l) (hg : w.heap[g]? = some (.cells (dl d).toArray t)) (hB : B ≤ w.heap.size) (hn : l.length + 1 ≤ 1000000) :
    ∃ v' w', (Builtin.append_ #[28, 28] ty #[v, .slice (some ⟨g, 0, none⟩) 1 1]).run Tryz.prog w = .ok v' w' ∧ DRow w' B v' (l ++ [d]) ∧ w.grownBy w' v.ownBlock ∧ (v'.ownBlock = v.ownBlock ∨ v'.ownBlock = some w.heap.size) := by
  obtain ⟨i0, hi, hz0, hz1, hz2⟩ := info_parts infoDeed
  have hnews : ∀ j u, (dl d)[j]? = some u → w.cell? ((⟨g, 0, none⟩ : Addr).add j) = some u := fun j u hu => by
    rw [Go.WideShapes.add_plain, Nat.zero_add]
    exact cell_of hg j _ (by simpa using hu)
  obtain ⟨v', w', hr, h2, h3, h4, h5⟩ := run_append_own_at (P := Tryz.prog) w B 28 ty 41 i0 _ 4 40 Tryz.underlying28 hi hz0 hz1 hz2 rfl (by decide) v l.length (l.flatMap dl) hd ⟨g, 0, none⟩ 1 1 (dl d) (dl_len d) hnews (one4 d) (by unfold maxLen; omega) (by omega) hB
  refine ⟨v', w', hr, ?_, h3, h5⟩
  unfold DRow
  rw [List.flatMap_append, List.length_append]
  simpa using h2

theorem wpList_append_deed {ops : Array Oper} {rest : List Oper} {w : World} {op : Oper} {a : Act} {Q : Exit → Act → World → Prop} (hgd : op.guard = none) (s0 x0 : Operand)
    (ho : op.op = .call { callee := .builtin .append, args := #[s0, x0], argTypes := #[28, 28] })
    {B : Nat} {v : Value} {l : List Dd} {d : Dd} {g : Nat} {t : TypeId} (hs : a.eval s0 = v) (hx : a.eval x0 = .slice (some ⟨g, 0, none⟩) 1 1) (hd : DRow w B v l) (hg : w.heap[g]? = some (.cells (dl d).toArray t)) (hB : B ≤ w.heap.size) (hn : l.length + 1 ≤ 1000000)
    (h : ∀ v' w', DRow w' B v' (l ++ [d]) → w.grownBy w' v.ownBlock → (v'.ownBlock = v.ownBlock ∨ v'.ownBlock = some w.heap.size) → wpList Tryz.prog ops Q rest (a.put op.dst v') w') :
    wpList Tryz.prog ops Q (op :: rest) a w := by
  refine wpList_plain hgd fun K hK => ?_
  obtain ⟨v', w', hr, h3, h4, h5⟩ := run_append_deed w t op.type hd hg hB hn
  unfold Oper.wp execOp
  simp only [ho, resolve, invoke, builtin, Sem.run_bind, Sem.run_pure, Result.andThen_ok, List.map_toArray, List.map_cons, List.map_nil, hs, hx, hr]
  exact hK _ _ (h v' w' h3 h4 h5)

theorem dl_at (l : List Dd) (i : Nat) (d : Dd) (h : l[i]? = some d) (j : Nat) (u : Value) (hj : (dl d)[j]? = some u) : (l.flatMap dl)[i * 4 + j]? = some u := by
  induction l generalizing i with
  | nil => simp at h
  | cons y t ih =>
    have e : (y :: t).flatMap dl = dl y ++ t.flatMap dl := by simp
    have hj4 : j < 4 := by have := (List.getElem?_eq_some_iff.1 hj).1; simpa [dl] using this
    rw [e]
    match i, h with
    | 0, h =>
      obtain rfl := Option.some.inj h
      rw [List.getElem?_append_left (by rw [dl_len]; omega), Nat.zero_mul, Nat.zero_add]
      exact hj
    | i + 1, h =>
      rw [List.getElem?_append_right (by rw [dl_len]; omega), dl_len, show (i + 1) * 4 + j - 4 = i * 4 + j by omega]
      exact ih i h
theorem DRow.nil (w : World) (B : Nat) : DRow w B (.slice none 0 0) [] := ⟨rfl, .inl ⟨rfl, rfl⟩⟩
theorem DRow.cells {w : World} {B n c i : Nat} {a : Option Addr} {l : List Dd} {d : Dd} (h : DRow w B (.slice a n c) l) (hi : l[i]? = some d) : ∃ g, a = some ⟨g, 0, none⟩ ∧ g < w.heap.size ∧ w.cell? ⟨g, i * 4 + 1, none⟩ = some (.int .i64 d.t) ∧ w.cell? ⟨g, i * 4 + 2, none⟩ = some (.string d.s) ∧ w.cell? ⟨g, i * 4 + 3, none⟩ = some (.int .i64 d.n) := by
  rcases h.2 with ⟨_, hz⟩ | ⟨g', cap', cur, e, hg', hgb, _⟩
  · have : l = [] := List.length_eq_zero_iff.1 hz
    rw [this] at hi; cases hi
  · injection e with e1 e2 e3
    subst e1
    have hc : ∀ q u, (l.flatMap dl)[q]? = some u → w.cell? ⟨g', q, none⟩ = some u := fun q u hu => by
      have := World.ownsRow.cells h (g := g') rfl q u hu
      rwa [Go.WideShapes.add_plain, Nat.zero_add] at this
    exact ⟨g', rfl, (Array.getElem?_eq_some_iff.1 hgb).1, hc _ _ (dl_at l i d hi 1 _ rfl), hc _ _ (dl_at l i d hi 2 _ rfl), hc _ _ (dl_at l i d hi 3 _ rfl)⟩

/-- what is not its own may be written -/
theorem HMem.away (h : HMem w own C last L K Z) (hw : Wr (fun k => own k = .non) w w') : HMem w' (ext own w.heap.size .non) C last L K Z := by
  obtain ⟨c0, c1, c2, c3, c4, c5⟩ := h.carry .non hw
  obtain ⟨o1, o2, o3, o4, o5, o6⟩ := h.owns .non
  exact { head := (c0 (by simp)).trans h.head, items := c1 (by simp), lru := c2 (by simp), wins := c3 (by simp), kn := h.kn, wok := fun x hx => c4 x hx (by simp), sk := c5 (by simp), skt := h.skt, late := h.late, q0 := h.q0, q1 := h.q1, oh := o1, oi := o2, ol := o3, ow := o4, os := o5, ox := o6 }

/-- a deed as a note; one that was taken -/
def nt (d : Dd) : Note := ⟨d.t.toNat, d.s, d.n.toNat⟩
def Rt (d : Dd) : Prop := 0 ≤ d.t ∧ d.t ≤ 1152921504606846976 ∧ 1 ≤ d.n ∧ d.n ≤ 1099511627776

/-- a rule at work beside a list of what was taken: N is what the rule noted, T what the list holds -/
structure Bd (w0 : World) (C : HC) (last : Nat) (N : List Note) (T : List Dd) (v : Value) (wr : World) : Prop where
  ex : ∃ own L K Z, HMem wr own C last L K Z ∧ Same L K ∧ (∀ k, k < w0.heap.size → own k = .non) ∧ Gh C last K Z.ns ∧ Z.ns = N ∧ ∀ g, v.ownBlock = some g → own g = .non
  row : DRow wr w0.heap.size v T
  bel : Below w0.heap.size w0 wr
  lim : ∀ s, 0 ≤ limN C s ∧ limN C s ≤ 1099511627776
variable {w0 : World} {N : List Note} {T : List Dd} {v : Value}

theorem Bd.below (h : Bd w0 C last N T v w) (hb : Below w.heap.size w w') : Bd w0 C last N T v w' := by
  obtain ⟨own, L, K, Z, hM, hs, ho, hG, hN, hv⟩ := h.ex
  exact ⟨⟨own, L, K, Z, hM.below hb, hs, ho, hG, hN, hv⟩, owns_keep h.row (fun g hg => hb.block g (World.ownsRow.lt h.row g hg).2), h.bel.trans (hb.mono h.bel.size), h.lim⟩

/-- the list grows -/
theorem Bd.append {T' : List Dd} {v' : Value} (h : Bd w0 C last N T v w) (hrow : DRow w' w0.heap.size v' T') (hg : w.grownBy w' v.ownBlock) (hat : v'.ownBlock = v.ownBlock ∨ v'.ownBlock = some w.heap.size) : Bd w0 C last N T' v' w' := by
  obtain ⟨own, L, K, Z, hM, hs, ho, hG, hN, hv⟩ := h.ex
  have hw : Wr (fun k => own k = .non) w w' := Wr.ofGrown hg fun k hk => hv k hk
  refine ⟨⟨_, L, K, Z, HMem.away hM hw, hs, fun k hk => ?_, hG, hN, fun g hg' => ?_⟩, hrow, h.bel.grown hg h.bel.size (fun k hk => (World.ownsRow.lt h.row k hk).1), h.lim⟩
  · rw [ext_lt (Nat.lt_of_lt_of_le hk h.bel.size)]; exact ho k hk
  · rcases hat with e | e
    · rw [e] at hg'
      rw [ext_lt (World.ownsRow.lt h.row g hg').2]; exact hv g hg'
    · rw [e] at hg'; cases hg'; exact ext_ge (Nat.le_refl _)

/-- Take beside it -/
theorem Bd.take (h : Bd w0 C last N T v w) (t : Int) (s : ByteArray) (hs : s.size ≤ maxLen) (n : Int) (hfew : N.length < 1000) : ∃ (b : Bool) (r : Int),
    (∀ wx, Below w.heap.size w wx → Calls Tryz.prog 20 #[.pointer (some ⟨C.h, 0, none⟩), .int .i64 t, .string s, .int .i64 n] wx fun e w' => e = .returned (.tuple #[.bool b, .int .i64 r]) ∧
      ((r ≠ 0 ∧ Bd w0 C last N T v w') ∨ (r = 0 ∧ 0 ≤ t ∧ t ≤ 1152921504606846976 ∧ 1 ≤ n ∧ n ≤ 1099511627776 ∧ s.size ≤ 64 ∧ Bd w0 C t.toNat (if b then N ++ [⟨t.toNat, s, n.toNat⟩] else N) T v w'))) := by
  obtain ⟨own, L, K, Z, hM, hsm, ho, hG, hN, hv⟩ := h.ex
  obtain ⟨u, hu⟩ := us_of hM t s n
  refine ⟨letB C last t s n u, hotE last t (noC n) s.size, fun wx hb => ?_⟩
  have hB := Bd.below h hb
  refine (HMem.Take (hM.below hb) hsm t s hs n u hu).mono fun e w' h2 => ⟨h2.1, ?_⟩
  obtain ⟨own', last', L', K', Z', hM', hsm', hst, hcase⟩ := h2.2
  have hB0 : w0.heap.size ≤ wx.heap.size := hB.bel.size
  have hbel : Below w0.heap.size w0 w' := hB.bel.trans (step_below hst hB0 ho)
  have ho' : ∀ k, k < w0.heap.size → own' k = .non := fun k hk => (hst.tag k (by omega)).trans (ho k hk)
  have hlt : ∀ g, v.ownBlock = some g → g < wx.heap.size := fun g hg => (World.ownsRow.lt hB.row g hg).2
  have hrow : DRow w' w0.heap.size v T := owns_keep hB.row (fun g hg => hst.wr.block g (hlt g hg) (fun hk => hk (hv g hg)))
  have hv' : ∀ g, v.ownBlock = some g → own' g = .non := fun g hg => (hst.tag g (hlt g hg)).trans (hv g hg)
  rcases hcase with ⟨hne, rfl, rfl, rfl, rfl⟩ | ⟨h0, hl, hcase⟩
  · exact .inl ⟨hne, ⟨own', _, _, _, hM', hsm', ho', hG, hN, hv'⟩, hrow, hbel, h.lim⟩
  · obtain ⟨m, rfl, h3, h4, h5, h6⟩ := hot_ok h0
    obtain rfl : last' = m := by omega
    obtain ⟨hu1, hu2⟩ := hu h0
    have hn : 1 ≤ n ∧ n ≤ 1099511627776 := by
      unfold noC at h6
      simp at h6
      omega
    refine .inr ⟨h0, by omega, by omega, hn.1, hn.2, h5, ?_⟩
    have hG2 := hG.later h4
    rcases hcase with ⟨hf, rfl, rfl, rfl⟩ | ⟨hf, hT⟩
    · rw [hf]
      exact ⟨⟨own', _, _, _, hM', hsm', ho', hG2, hN, hv'⟩, hrow, hbel, h.lim⟩
    · have hpass : (u : Int) + n ≤ limN C s := by
        unfold letB at hf
        simp at hf
        exact hf.2
      obtain ⟨k, rfl⟩ : ∃ k : Nat, n = k := ⟨n.toNat, by omega⟩
      have hMl : HMem (w.setCell ⟨C.h, 6, none⟩ (.int .i64 last')) own C last' L K Z := hM.noted h4 h3
      have hG3 := Gh.took hMl hG2 hT hu1 (by omega) (h.lim s).2 (by simpa using hpass) (by rw [hN]; exact hfew) (fun z hz y hy e => kw_only hM' hz hy e)
      rw [hf, if_pos rfl]
      refine ⟨⟨own', _, _, _, hM', hsm', ho', hG3, ?_, hv'⟩, hrow, hbel, h.lim⟩
      rw [hT.ns, hN]

/-- what is used, and near, beside it -/
theorem Bd.used (h : Bd w0 C last N T v w) (s : ByteArray) (hs : s.size ≤ 64) : ∃ u : Nat, HotQ.own C.q last s N ≤ u ∧ (nr C.q last s N : Int) ≤ limN C s ∧
    (∀ wx, Below w.heap.size w wx → Calls Tryz.prog 21 #[.pointer (some ⟨C.h, 0, none⟩), .int .i64 last, .string s] wx fun e w' => e = .returned (.tuple #[.int .i64 u, .int .i64 0]) ∧ Below wx.heap.size wx w') ∧
    (∀ wx, Below w.heap.size w wx → Calls Tryz.prog 18 #[.pointer (some ⟨C.h, 0, none⟩), .string s] wx fun e w' => e = .returned (.int .i64 (limN C s)) ∧ Below wx.heap.size wx w') := by
  obtain ⟨own, L, K, Z, hM, hsm, ho, hG, hN, hv⟩ := h.ex
  have hml : s.size ≤ maxLen := by unfold maxLen; omega
  obtain ⟨u, hu1, hu2⟩ := us_some hM last s
  have hE : hotE last last false s.size = 0 := by
    have := hM.late
    unfold hotE
    rw [if_neg (by simp; omega), if_neg (by omega), if_neg (by omega)]
  refine ⟨u, by rw [← hN]; exact Gh.used hM hG (Nat.le_refl _) hu1, by rw [← hN]; exact hG.near s last (Nat.le_refl _), fun wx hb => ?_, fun wx hb => Limit_any (hM.below hb) s hml⟩
  have := HMem.Used (hM.below hb) last s hml u (fun _ => by simpa using hu1)
  rw [hE, if_pos rfl] at this
  exact this

end Go.Proofs.YtbihelpnojjacaaGreat.HotR

/- Settings and lists of deeds as arguments; HotLooks' main. -/
namespace Go.Proofs.YtbihelpnojjacaaGreat.HotP
open Go.ChangeShapes Go.WideShapes Go.ChangeAt Go.RowKit Go.Deep Base Wri Map Opn HotJ HotO
set_option linter.unusedVariables false
variable {H : Type} {enc : TypeId × Value → H} {W : World} {base : Nat} {spare : Nat → Bool} {held : Bool}

theorem slice_shape {t e : TypeId} {k : Nat} {v : Value} {z : DataW H × List MemPlace} (ht : Tryz.prog.underlying t = some (.slice e)) (h : DataW.trod enc Tryz.prog W base spare held k t [v] = some z) : ∃ a n c, v = .slice a n c := by
  rcases open_slice ht h with ⟨hn, _⟩ | ⟨a, l, c, m, n, D, Pl, hcs, _⟩
  · simp at hn; exact ⟨none, 0, 0, hn⟩
  · simp at hcs; exact ⟨_, _, _, hcs⟩

theorem ty_at {fs : Array Field} {n : Nat} {TL : List TypeId} (h5 : fs.size = n) (ht : fs.toList.map (·.type) = TL) (j : Nat) (hj : j < n) : ∃ f, fs[j]? = some f ∧ some f.type = TL[j]? := by
  refine ⟨fs[j]'(by omega), Array.getElem?_eq_getElem (by omega), ?_⟩
  rw [← ht]
  simp [h5, hj]

theorem spot_of {a : Addr} {v : Value} (h : W.cell? (a.add 0) = some v) : ∃ b o, a = ⟨b, o, none⟩ ∧ b < W.heap.size := by
  obtain ⟨b, off, spot⟩ := a
  have hspot : spot = none := by simpa [Addr.add] using World.cell?_spot h
  subst hspot
  exact ⟨b, off, rfl, World.block_lt_of_cell? _ _ h⟩

theorem under_item : ∃ fs, Tryz.prog.underlying 52 = some (.struct fs) ∧ oneCellFields Tryz.prog fs = true ∧ Tryz.prog.cellsOf 52 = fs.size ∧ fs.size = 2 ∧ fs.toList.map (·.type) = [9, 3] := ⟨_, Tryz.underlying52, by kernel_rfl, by kernel_rfl, by kernel_rfl, by kernel_rfl⟩

theorem items_of {k : Nat} {v : Value} {z : DataW H × List MemPlace} (h : DataW.trod enc Tryz.prog W base spare held k 22 [v] = some z) :
    ∃ (a : Option Addr) (n c : Nat) (f : Nat → Itm), v = .slice a n c ∧ ItAt W a n f ∧ ∀ i, i < n → (f i).1.size ≤ maxLen := by
  obtain ⟨a0, n, c, rfl⟩ := slice_shape Tryz.underlying22 h
  obtain ⟨fs, hu, h1, h2, h5, ht⟩ := under_item
  rcases row_at Tryz.underlying22 hu h1 h2 h with ⟨rfl, rfl⟩ | ⟨a, rfl, hl, hm, hi⟩
  · exact ⟨none, 0, c, fun _ => (⟨#[]⟩, 0), rfl, fun h0 => by omega, fun i hi => by omega⟩
  · have each : ∀ i, i < n → ∃ x : Itm, (W.cell? (a.add (i * 2)) = some (.string x.1) ∧ W.cell? (a.add (i * 2 + 1)) = some (.int .i64 x.2)) ∧ x.1.size ≤ maxLen := by
      intro i hil
      obtain ⟨f0, g0, t0⟩ := ty_at h5 ht 0 (by omega)
      obtain ⟨f1, g1, t1⟩ := ty_at h5 ht 1 (by omega)
      obtain ⟨v0, z0, k0, c0, r0⟩ := hi i hil 0 f0 g0
      obtain ⟨v1, z1, k1, c1, r1⟩ := hi i hil 1 f1 g1
      simp only [List.getElem?_cons_zero, List.getElem?_cons_succ, Option.some.injEq] at t0 t1
      rw [t0] at r0
      rw [t1] at r1
      obtain ⟨n0, e0, _, q0⟩ := DataW.trod_string Tryz.underlying9 r0
      obtain ⟨n1, e1, _, _⟩ := DataW.trod_int Tryz.underlying3 r1
      simp only [List.cons.injEq, and_true] at e0 e1
      subst e0 e1
      rw [h5] at c0 c1
      exact ⟨(n0, n1), ⟨c0, c1⟩, q0⟩
    obtain ⟨f, hf⟩ := choose2 (⟨#[]⟩, 0) each
    refine ⟨some a, n, c, f, rfl, fun h0 => ?_, fun i hi => (hf i hi).2⟩
    have h00 := (hf 0 h0).1.1
    rw [Nat.zero_mul] at h00
    obtain ⟨b, o, rfl, hb⟩ := spot_of h00
    refine ⟨b, o, rfl, hb, fun i hil => ?_⟩
    have h3 := (hf i hil).1
    rw [Go.WideShapes.add_plain, Go.WideShapes.add_plain, ← Nat.add_assoc] at h3
    exact h3

theorem under_deed : ∃ fs, Tryz.prog.underlying 41 = some (.struct fs) ∧ oneCellFields Tryz.prog fs = true ∧ Tryz.prog.cellsOf 41 = fs.size ∧ fs.size = 4 ∧ fs.toList.map (·.type) = [3, 3, 9, 3] := ⟨_, Tryz.underlying41, by kernel_rfl, by kernel_rfl, by kernel_rfl, by kernel_rfl⟩

theorem deeds_of {a0 : Option Addr} {n c : Nat} {d : DataW H} {p : List MemPlace} (h : DataW.Trod enc Tryz.prog W base spare held 28 (.slice a0 n c) d p) :
    ∃ g : Nat → Dd, DeAt W a0 n g ∧ ∀ i, i < n → (g i).s.size ≤ maxLen := by
  obtain ⟨fuel, hf⟩ := h
  have hf : DataW.trod enc Tryz.prog W base spare held fuel 28 [.slice a0 n c] = some (d, p) := by
    rw [show (Value.slice a0 n c).cells = #[.slice a0 n c] from by simp [Value.cells]] at hf
    exact hf
  obtain ⟨fs, hu, h1, h2, h5, ht⟩ := under_deed
  rcases row_at Tryz.underlying28 hu h1 h2 hf with ⟨rfl, rfl⟩ | ⟨a, rfl, hl, hm, hi⟩
  · exact ⟨fun _ => ⟨0, 0, ⟨#[]⟩, 0⟩, fun h0 => by omega, fun i hi => by omega⟩
  · have each : ∀ i, i < n → ∃ x : Dd, (W.cell? (a.add (i * 4)) = some (.int .i64 x.kind) ∧ W.cell? (a.add (i * 4 + 1)) = some (.int .i64 x.t) ∧ W.cell? (a.add (i * 4 + 2)) = some (.string x.s) ∧ W.cell? (a.add (i * 4 + 3)) = some (.int .i64 x.n)) ∧ x.s.size ≤ maxLen := by
      intro i hil
      obtain ⟨f0, g0, t0⟩ := ty_at h5 ht 0 (by omega)
      obtain ⟨f1, g1, t1⟩ := ty_at h5 ht 1 (by omega)
      obtain ⟨f2, g2, t2⟩ := ty_at h5 ht 2 (by omega)
      obtain ⟨f3, g3, t3⟩ := ty_at h5 ht 3 (by omega)
      obtain ⟨v0, z0, k0, c0, r0⟩ := hi i hil 0 f0 g0
      obtain ⟨v1, z1, k1, c1, r1⟩ := hi i hil 1 f1 g1
      obtain ⟨v2, z2, k2, c2, r2⟩ := hi i hil 2 f2 g2
      obtain ⟨v3, z3, k3, c3, r3⟩ := hi i hil 3 f3 g3
      simp only [List.getElem?_cons_zero, List.getElem?_cons_succ, Option.some.injEq] at t0 t1 t2 t3
      rw [t0] at r0
      rw [t1] at r1
      rw [t2] at r2
      rw [t3] at r3
      obtain ⟨n0, e0, _, _⟩ := DataW.trod_int Tryz.underlying3 r0
      obtain ⟨n1, e1, _, _⟩ := DataW.trod_int Tryz.underlying3 r1
      obtain ⟨n2, e2, _, q2⟩ := DataW.trod_string Tryz.underlying9 r2
      obtain ⟨n3, e3, _, _⟩ := DataW.trod_int Tryz.underlying3 r3
      simp only [List.cons.injEq, and_true] at e0 e1 e2 e3
      subst e0 e1 e2 e3
      rw [h5] at c0 c1 c2 c3
      exact ⟨⟨n0, n1, n2, n3⟩, ⟨c0, c1, c2, c3⟩, q2⟩
    obtain ⟨f, hf⟩ := choose2 ⟨0, 0, ⟨#[]⟩, 0⟩ each
    refine ⟨f, fun h0 => ?_, fun i hi => (hf i hi).2⟩
    have h00 := (hf 0 h0).1.1
    rw [Nat.zero_mul] at h00
    obtain ⟨b, o, rfl, hb⟩ := spot_of h00
    refine ⟨b, o, rfl, hb, fun i hil => ?_⟩
    have h3 := (hf i hil).1
    rw [Go.WideShapes.add_plain, Go.WideShapes.add_plain, Go.WideShapes.add_plain, Go.WideShapes.add_plain, ← Nat.add_assoc, ← Nat.add_assoc, ← Nat.add_assoc] at h3
    exact h3

theorem under_hot : ∃ fs, Tryz.prog.underlying 24 = some (.struct fs) ∧ oneCellFields Tryz.prog fs = true ∧ Tryz.prog.cellsOf 24 = fs.size ∧ fs.size = 5 ∧ fs.toList.map (·.type) = [9, 3, 3, 3, 22] := ⟨_, Tryz.underlying24, by kernel_rfl, by kernel_rfl, by kernel_rfl, by kernel_rfl⟩

theorem arg_at {P : Program} {w : World} {e : TypeId} {fs : Array Field} {n : Nat} {cs : List Value} {y : DataW H × List MemPlace} (he : P.underlying e = some (.struct fs)) (hone : oneCellFields P fs = true) (hC : P.cellsOf e = fs.size)
    (ht : DataW.trod enc P w base spare held n e cs = some y) (j : Nat) (f : Field) (hj : fs[j]? = some f) :
    ∃ v z k, cs[j]? = some v ∧ DataW.trod enc P w base spare held k f.type [v] = some z := by
  obtain ⟨xs, k, _, _, hlen, hxl, hg⟩ := DataW.trod_struct he ht
  obtain ⟨o1, o2⟩ := hone_of hone j f hj
  have hjs : j < fs.size := (Array.getElem?_eq_some_iff.1 hj).1
  have hjc : j < cs.length := by omega
  have hg := hg j f hj
  rw [o1, o2, List.drop_eq_getElem_cons hjc] at hg
  simp only [List.take_succ_cons, List.take_zero] at hg
  obtain ⟨z, hz⟩ : ∃ z, xs[j]? = some z := ⟨xs[j]'(by omega), List.getElem?_eq_getElem (by omega)⟩
  exact ⟨cs[j], z, k, List.getElem?_eq_getElem hjc, by rw [hg, hz]⟩

set_option maxRecDepth 100000 in
theorem hot_cells {n : Nat} {cs : List Value} {y : DataW H × List MemPlace} (hf : DataW.trod enc Tryz.prog W base spare held n 24 cs = some y) :
    ∃ (res : ByteArray) (idx cnt sec : Int) (a : Option Addr) (m c : Nat) (f : Nat → Itm), cs = [.string res, .int .i64 idx, .int .i64 cnt, .int .i64 sec, .slice a m c] ∧ res.size ≤ maxLen ∧ ItAt W a m f ∧ ∀ i, i < m → (f i).1.size ≤ maxLen := by
  obtain ⟨fs, hu, h1, h2, h5, ht⟩ := under_hot
  obtain ⟨_, _, _, _, hcl0, _, _⟩ := DataW.trod_struct hu hf
  have hcl : cs.length = 5 := by rw [hcl0, h2, h5]
  obtain ⟨f0, g0, t0⟩ := ty_at h5 ht 0 (by omega)
  obtain ⟨f1, g1, t1⟩ := ty_at h5 ht 1 (by omega)
  obtain ⟨f2, g2, t2⟩ := ty_at h5 ht 2 (by omega)
  obtain ⟨f3, g3, t3⟩ := ty_at h5 ht 3 (by omega)
  obtain ⟨f4, g4, t4⟩ := ty_at h5 ht 4 (by omega)
  obtain ⟨v0, z0, k0, c0, r0⟩ := arg_at hu h1 h2 hf 0 f0 g0
  obtain ⟨v1, z1, k1, c1, r1⟩ := arg_at hu h1 h2 hf 1 f1 g1
  obtain ⟨v2, z2, k2, c2, r2⟩ := arg_at hu h1 h2 hf 2 f2 g2
  obtain ⟨v3, z3, k3, c3, r3⟩ := arg_at hu h1 h2 hf 3 f3 g3
  obtain ⟨v4, z4, k4, c4, r4⟩ := arg_at hu h1 h2 hf 4 f4 g4
  simp only [List.getElem?_cons_zero, List.getElem?_cons_succ, Option.some.injEq] at t0 t1 t2 t3 t4
  rw [t0] at r0
  rw [t1] at r1
  rw [t2] at r2
  rw [t3] at r3
  rw [t4] at r4
  obtain ⟨n0, e0, _, q0⟩ := DataW.trod_string Tryz.underlying9 r0
  obtain ⟨n1, e1, _, _⟩ := DataW.trod_int Tryz.underlying3 r1
  obtain ⟨n2, e2, _, _⟩ := DataW.trod_int Tryz.underlying3 r2
  obtain ⟨n3, e3, _, _⟩ := DataW.trod_int Tryz.underlying3 r3
  obtain ⟨a, m, c, f, e4, q4, q5⟩ := items_of r4
  simp only [List.cons.injEq, and_true] at e0 e1 e2 e3
  subst e0 e1 e2 e3 e4
  refine ⟨n0, n1, n2, n3, a, m, c, f, ?_, q0, q4, q5⟩
  match cs, hcl with
  | [x0, x1, x2, x3, x4], _ =>
    simp at c0 c1 c2 c3 c4
    subst c0 c1 c2 c3 c4
    rfl

theorem under_set : ∃ fs : Array Field, Tryz.prog.underlying 27 = some (.struct fs) ∧ fs.size = 3 ∧ Tryz.prog.cellsOf 27 = 7 ∧ Tryz.prog.cellsOf 3 = 1 ∧ Tryz.prog.cellsOf 25 = 1 ∧ Tryz.prog.cellsOf 24 = 5 ∧
    (fs.toList.map fun f => (f.type, f.offset)) = [(24, 0), (3, 5), (25, 6)] := ⟨_, Tryz.underlying27, by kernel_rfl, by kernel_rfl, by kernel_rfl, by kernel_rfl, by kernel_rfl, by kernel_rfl⟩

set_option maxRecDepth 100000 in
theorem set_of {b0 : Nat} {r : Reach} {v : Value} {d : DataW H} {p : List MemPlace} (hv : Value.okWide Tryz.prog W r b0 27 v) (h : DataW.Trod enc Tryz.prog W base spare held 27 v d p) :
    ∃ (res : ByteArray) (idx cnt sec : Int) (a : Option Addr) (m c : Nat) (keys : Int) (seed : Nat) (f : Nat → Itm), v = .agg #[.string res, .int .i64 idx, .int .i64 cnt, .int .i64 sec, .slice a m c, .int .i64 keys, .int .u64 seed] ∧ res.size ≤ maxLen ∧ ItAt W a m f ∧ (∀ i, i < m → (f i).1.size ≤ maxLen) ∧ (Lit.int .i64 keys).wf = true ∧ seed < 18446744073709551616 := by
  obtain ⟨fuel, hf⟩ := h
  obtain ⟨fs, hu, hsz, hc7, hci, hcu, hch, hty0⟩ := under_set
  obtain ⟨cs, rfl, hcs⟩ := okWide_struct hu hv
  have hf : DataW.trod enc Tryz.prog W base spare held fuel 27 cs.toList = some (d, p) := by
    rw [show (Value.agg cs).cells = cs from by unfold Value.cells; rfl] at hf
    exact hf
  have hcl : cs.toList.length = 7 := by rw [Array.length_toList, hcs, hc7]
  obtain ⟨xs, k, _, _, hcl2, hxl, hg⟩ := DataW.trod_struct hu hf
  have hfield : ∀ (j : Nat) (T : TypeId) (off : Nat), ([(24, 0), (3, 5), (25, 6)] : List (TypeId × Nat))[j]? = some (T, off) → ∃ z, DataW.trod enc Tryz.prog W base spare held k T ((cs.toList.drop off).take (Tryz.prog.cellsOf T)) = some z := by
    intro j T off hj
    have hj3 : j < 3 := by have := (List.getElem?_eq_some_iff.1 hj).1; simpa using this
    have hf : fs[j]? = some (fs[j]'(by omega)) := Array.getElem?_eq_getElem (by omega)
    have ht : ((fs[j]'(by omega)).type, (fs[j]'(by omega)).offset) = (T, off) := by
      have h3 : (fs.toList.map fun f => (f.type, f.offset))[j]? = some (T, off) := by rw [hty0]; exact hj
      rw [List.getElem?_map, Array.getElem?_toList, hf] at h3
      exact Option.some.inj h3
    have hgj := hg j _ hf
    rw [(Prod.mk.inj ht).1, (Prod.mk.inj ht).2] at hgj
    have hjx : j < xs.length := by omega
    exact ⟨xs[j], by rw [hgj]; exact List.getElem?_eq_getElem hjx⟩
  obtain ⟨z0, r0⟩ := hfield 0 _ _ rfl
  obtain ⟨z1, r1⟩ := hfield 1 _ _ rfl
  obtain ⟨z2, r2⟩ := hfield 2 _ _ rfl
  rw [hch] at r0
  rw [hci] at r1
  rw [hcu] at r2
  obtain ⟨res, idx, cnt, sec, a, m, c, f, e0, q1, q2, q3⟩ := hot_cells r0
  obtain ⟨keys, e1, _, w1⟩ := DataW.trod_int Tryz.underlying3 r1
  obtain ⟨seed, e2, _, w2⟩ := DataW.trod_int Tryz.underlying25 r2
  have hw : 0 ≤ seed ∧ seed < 18446744073709551616 := by
    simp only [Lit.wf, Bool.and_eq_true, decide_eq_true_eq] at w2
    have e : IntKind.u64.min = 0 := by decide
    have e2 : IntKind.u64.max = 18446744073709551615 := by decide
    omega
  obtain ⟨sd, rfl⟩ : ∃ sd : Nat, seed = sd := ⟨seed.toNat, by omega⟩
  refine ⟨res, idx, cnt, sec, a, m, c, keys, sd, f, ?_, q1, q2, q3, w1, by omega⟩
  congr 1
  apply Array.ext'
  match hl : cs.toList, hcl with
  | [x0, x1, x2, x3, x4, x5, x6], _ =>
    rw [hl] at e0 e1 e2
    simp at e0 e1 e2
    obtain ⟨q1, q2, q3, q4, q5⟩ := e0
    subst q1 q2 q3 q4 q5 e1 e2
    rfl

/-- the law's main, of HotLooks -/
theorem main_looks (res : ByteArray) (idx cnt sec : Int) (a : Option Addr) (m c : Nat) (keys : Int) (seed : Nat) (f : Nat → Itm) (hres : res.size ≤ maxLen) (hI : ItAt W a m f) (hfit : ∀ i, i < m → (f i).1.size ≤ maxLen) (hk : (Lit.int .i64 keys).wf = true) (hsd : seed < 18446744073709551616)
    (al : Option Addr) (nl cl : Nat) {d : DataW H} {p : List MemPlace} (h : DataW.Trod enc Tryz.prog W base spare held 28 (.slice al nl cl) d p) :
    Calls Tryz.prog 5 #[.agg #[.string res, .int .i64 idx, .int .i64 cnt, .int .i64 sec, .slice a m c, .int .i64 keys, .int .u64 seed], .slice al nl cl] W fun e W' => e = .returned (.bool true) ∧ Below W.heap.size W W' := by
  obtain ⟨g, h1, h2⟩ := deeds_of h
  exact looks_core res hres idx cnt sec a m c keys seed f al nl cl g W hI hfit h1 h2

end Go.Proofs.YtbihelpnojjacaaGreat.HotP

namespace Go.Proofs.YtbihelpnojjacaaGreat.HotZ
open Go.ChangeShapes Go.WideShapes Go.ChangeAt Go.RowKit Base
set_option linter.unusedVariables false
set_option maxHeartbeats 400000 in
theorem refuses_nil (t : Int) (s : ByteArray) (v : Value) (w : World) : Calls Tryz.prog 43 #[.pointer none, .int .i64 t, .string s, v] w fun e w' => e = .returned (.int .i64 1) ∧ w = w' := by
  go_enter Tryz.func43, Tryz.ntmps43
  go_wp2
  go_ret
  exact ⟨rfl, rfl⟩
set_option maxHeartbeats 400000 in
theorem Used_nil (t : Int) (s : ByteArray) (w : World) : Calls Tryz.prog 21 #[.pointer none, .int .i64 t, .string s] w fun e w' => e = .returned (.tuple #[.int .i64 0, .int .i64 1]) ∧ w = w' := by
  go_enter Tryz.func21, Tryz.ntmps21
  go_wp2_with fail
  refine (refuses_nil _ _ _ _).mono ?_
  rintro e w1 ⟨rfl, rfl⟩
  go_wp2
  go_ret2
  exact ⟨rfl, rfl⟩
set_option maxHeartbeats 400000 in
theorem Look_nil (t : Int) (s : ByteArray) (n : Int) (w : World) : Calls Tryz.prog 22 #[.pointer none, .int .i64 t, .string s, .int .i64 n] w fun e w' => e = .returned (.tuple #[.bool false, .int .i64 1]) ∧ Below w.heap.size w w' := by
  go_enter Tryz.func22, Tryz.ntmps22
  go_wp2_with fail
  refine (refuses_nil _ _ _ _).mono ?_
  rintro e w1 ⟨rfl, rfl⟩
  go_wp2
  go_ret2
  exact ⟨rfl, (by repeat (first | (with_reducible exact Below.refl _ _) | (with_reducible refine Below.setCell ?_ (by first | (simp; done) | (simp; omega) | omega) _) | (with_reducible refine Below.alloc ?_ (by first | (simp; done) | (simp; omega) | omega) _) | (with_reducible refine Below.drew ?_)))⟩
set_option maxHeartbeats 400000 in
theorem Take_nil (t : Int) (s : ByteArray) (n : Int) (w : World) : Calls Tryz.prog 20 #[.pointer none, .int .i64 t, .string s, .int .i64 n] w fun e w' => e = .returned (.tuple #[.bool false, .int .i64 1]) ∧ Below w.heap.size w w' := by
  go_enter Tryz.func20, Tryz.ntmps20
  go_wp2_with fail
  refine (Look_nil _ _ _ _).mono ?_
  rintro e w1 ⟨rfl, hb⟩
  have HB := hid hb
  clear hb
  go_wp2
  go_ret2
  exact ⟨rfl, HB.out⟩
set_option maxHeartbeats 400000 in
theorem Limit_nil (s : ByteArray) (w : World) : Calls Tryz.prog 18 #[.pointer none, .string s] w fun e w' => e = .returned (.int .i64 0) ∧ w = w' := by
  go_enter Tryz.func18, Tryz.ntmps18
  go_wp2
  go_ret
  exact ⟨rfl, rfl⟩
set_option maxHeartbeats 400000 in
theorem Kept_nil (w : World) : Calls Tryz.prog 16 #[.pointer none] w fun e w' => e = .returned (.slice none 0 0) ∧ w = w' := by
  go_enter Tryz.func16, Tryz.ntmps16
  go_wp2
  go_ret
  exact ⟨rfl, rfl⟩
set_option maxHeartbeats 400000 in
theorem Fork_nil (w : World) : Calls Tryz.prog 12 #[.pointer none] w fun e w' => e = .returned (.pointer none) ∧ w = w' := by
  go_enter Tryz.func12, Tryz.ntmps12
  go_wp2
  go_ret
  exact ⟨rfl, rfl⟩

end Go.Proofs.YtbihelpnojjacaaGreat.HotZ
