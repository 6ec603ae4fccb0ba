/- RulesApart: the list with one rule more. -/
import Derived.Test.YtcedbgoopolmdaaRulJ
import Derived.Test.YtcedbgoopolmdaaRoom
import Derived.Deep.AppendLies
import Derived.Deep.RegionLaw
import Derived.Deep.DeepCutAuto
namespace Go.Proofs.Ytcedbgoopolmdaa.RulK
open Go.ChangeShapes Go.WideShapes Go.ChangeAt Go.RowKit Go.Deep Base RulA RulB RulC RulD RulE RulF RulG RulH RulI RulJ Txt Opn
set_option linter.unusedVariables false

theorem infoFlow : (Try.prog.info? 92).map (fun i => (i.zero, i.size, i.bytes)) = some (some (.agg #[.string ⟨#[]⟩, .string ⟨#[]⟩, .bool false, .int .i64 0, .int .u8 0, .string ⟨#[]⟩, .int .u8 0, .int .i64 0, .int .i64 0, .bool false, .int .i64 0, .bool false]), 12, 120) := by kernel_rfl

def flatF (n : Nat) (L : Nat → Flow) : List Value := (List.range n).flatMap fun i => (fv (L i)).toList
theorem fv_len (f : Flow) : (fv f).toList.length = 12 := rfl
theorem flatF_succ (n : Nat) (L : Nat → Flow) : flatF (n + 1) L = flatF n L ++ (fv (L n)).toList := by
  unfold flatF
  rw [List.range_succ, List.flatMap_append]
  simp
theorem flatF_len (n : Nat) (L : Nat → Flow) : (flatF n L).length = n * 12 := by
  induction n with
  | zero => rfl
  | succ n ih => rw [flatF_succ, List.length_append, ih, fv_len]; omega
theorem flatF_get (n : Nat) (L : Nat → Flow) (i : Nat) (hi : i < n) (j : Nat) (hj : j < 12) : (flatF n L)[i * 12 + j]? = (fv (L i)).toList[j]? := by
  induction n with
  | zero => omega
  | succ n ih =>
    rw [flatF_succ]
    rcases Nat.lt_or_ge i n with e | e
    · rw [List.getElem?_append_left (by rw [flatF_len]; omega)]
      exact ih e
    · obtain rfl : i = n := by omega
      rw [List.getElem?_append_right (by rw [flatF_len]; omega), flatF_len, show i * 12 + j - i * 12 = j by omega]
theorem fv_one (f : Flow) : ∀ u ∈ (fv f).toList, u.oneCell' = true := by
  intro u hu
  simp [fv] at hu
  rcases hu with rfl | rfl | rfl | rfl | rfl | rfl | rfl | rfl | rfl | rfl | rfl | rfl <;> rfl
theorem flatF_one (n : Nat) (L : Nat → Flow) : ∀ u ∈ flatF n L, u.oneCell' = true := by
  intro u hu
  unfold flatF at hu
  obtain ⟨i, _, h⟩ := List.mem_flatMap.1 hu
  exact fv_one _ u h
theorem flatF_cut (n : Nat) (L : Nat → Flow) (k : Nat) (u : Value) (h : (flatF n L)[k]? = some u) : ∃ i j, i < n ∧ k = i * 12 + j ∧ (fv (L i))[j]? = some u := by
  have hk : k < n * 12 := by rw [← flatF_len n L]; exact (List.getElem?_eq_some_iff.1 h).1
  refine ⟨k / 12, k % 12, by omega, by omega, ?_⟩
  have e : k = k / 12 * 12 + k % 12 := by omega
  rw [e, flatF_get n L (k / 12) (by omega) (k % 12) (by omega)] at h
  rwa [Array.getElem?_toList] at h

theorem owns_empty {w : World} {X B : Nat} {ty : TypeId} (h : w.heap[X]? = some (.cells #[] ty)) (hB : B ≤ X) : w.ownsRow B ty 12 (.slice (some ⟨X, 0, none⟩) 0 0) 0 [] :=
  ⟨rfl, .inr ⟨X, 0, #[], rfl, hB, h, by simp, by simp [maxLen], by simp, by simp⟩⟩

theorem two_blocks (w : World) (a b : Obj) : ((w.alloc a).alloc b).heap[w.heap.size]? = some a ∧ ((w.alloc a).alloc b).heap[w.heap.size + 1]? = some b := by
  constructor
  · exact (Below.block (((Below.refl _ (w.alloc a)).alloc (Nat.le_refl _) b) : Below (w.alloc a).heap.size _ _) w.heap.size (by simp)).trans (heap_alloc_new w a)
  · have h := heap_alloc_new (w.alloc a) b
    rwa [World.size_alloc] at h
theorem three_blocks (w : World) (a b c : Obj) : (((w.alloc a).alloc b).alloc c).heap[w.heap.size]? = some a ∧ (((w.alloc a).alloc b).alloc c).heap[w.heap.size + 1]? = some b ∧ (((w.alloc a).alloc b).alloc c).heap[w.heap.size + 2]? = some c := by
  have hb : Below ((w.alloc a).alloc b).heap.size ((w.alloc a).alloc b) (((w.alloc a).alloc b).alloc c) := (Below.refl _ _).alloc (Nat.le_refl _) c
  refine ⟨(hb.block _ (by simp; omega)).trans (two_blocks w a b).1, (hb.block _ (by simp)).trans (two_blocks w a b).2, ?_⟩
  have h := heap_alloc_new ((w.alloc a).alloc b) c
  rwa [World.size_alloc, World.size_alloc] at h

theorem ne_own {h k n c : Nat} (hne : h ≠ k) : some h ≠ (Value.slice (some ⟨k, 0, none⟩) n c).ownBlock := fun e => hne (Option.some.inj e)

theorem own_up {B k n c : Nat} (h : B ≤ k) : ∀ j, (Value.slice (some ⟨k, 0, none⟩) n c).ownBlock = some j → B ≤ j := fun j e => by
  have h2 : k = j := Option.some.inj e
  omega

/-- one rule more -/
def oneMore (n : Nat) (L : Nat → Flow) (F : Flow) (i : Nat) : Flow := if i < n then L i else F
theorem flat_more (n : Nat) (L : Nat → Flow) (F : Flow) : flatF (n + 1) (oneMore n L F) = flatF n L ++ (fv F).toList := by
  rw [flatF_succ]
  congr 1
  · unfold flatF
    rw [List.flatMap_def, List.flatMap_def]
    congr 1
    refine List.map_congr_left fun i hi => ?_
    unfold oneMore
    rw [if_pos (List.mem_range.1 hi)]
  · unfold oneMore; rw [if_neg (Nat.lt_irrefl n)]

/-- what the list leaves -/
def MorePost (w : World) (n : Nat) (L : Nat → Flow) (F : Flow) (s : Value) (wx : World) : Prop :=
  ∃ g c, s = .slice (some ⟨g, 0, none⟩) (n + 1) c ∧ Flows wx (some ⟨g, 0, none⟩) (n + 1) (oneMore n L F) ∧ Below w.heap.size w wx ∧ wx.cell? ⟨w.heap.size, 0, none⟩ = some (.string F.res) ∧ w.heap.size < wx.heap.size

theorem more_of {w wx : World} {n g c : Nat} {L : Nat → Flow} {F : Flow} (hown : wx.ownsRow w.heap.size 92 12 (.slice (some ⟨g, 0, none⟩) (n + 1) c) (n + 1) (flatF n L ++ (fv F).toList))
    (s1 : ∀ i, i < n → (L i).res.size ≤ maxLen) (s2 : ∀ i, i < n → (L i).org.size ≤ maxLen) (s3 : ∀ i, i < n → (L i).ref.size ≤ maxLen) (f1 : F.res.size ≤ maxLen) (f2 : F.org.size ≤ maxLen) (f3 : F.ref.size ≤ maxLen)
    (hb : Below w.heap.size w wx) (hx : wx.cell? ⟨w.heap.size, 0, none⟩ = some (.string F.res)) (hl : w.heap.size < wx.heap.size) : MorePost w n L F (.slice (some ⟨g, 0, none⟩) (n + 1) c) wx := by
  have hg := (World.ownsRow.lt hown g rfl).2
  have each : ∀ (p : Flow → Prop), (∀ i, i < n → p (L i)) → p F → ∀ i, i < n + 1 → p (oneMore n L F i) := fun p h1 h2 i hi => by
    unfold oneMore; split
    · rename_i h; exact h1 i h
    · exact h2
  refine ⟨g, c, rfl, ⟨fun _ => ⟨g, 0, rfl, hg, fun i hi j v hv => ?_⟩, each (fun x => x.res.size ≤ maxLen) s1 f1, each (fun x => x.org.size ≤ maxLen) s2 f2, each (fun x => x.ref.size ≤ maxLen) s3 f3⟩, hb, hx, hl⟩
  rw [← flat_more] at hown
  have hj : j < 12 := by
    rcases Nat.lt_or_ge j 12 with e | e
    · exact e
    · rw [Array.getElem?_eq_none (by show 12 ≤ j; exact e)] at hv; cases hv
  have h3 := World.ownsRow.cells hown (g := g) rfl (i * 12 + j) v (by rw [flatF_get _ _ i hi j hj, Array.getElem?_toList]; exact hv)
  rw [Go.WideShapes.add_plain, Nat.zero_add] at h3
  rw [Nat.zero_add]
  exact h3

theorem hasB_same {n : Nat} {L M : Nat → Flow} {r o : ByteArray} (h : ∀ i, i < n → M i = L i) : hasB n M r o = hasB n L r o := by
  rw [Bool.eq_iff_iff, hasB_iff, hasB_iff]
  exact ⟨fun ⟨k, hk, e⟩ => ⟨k, hk, h k hk ▸ e⟩, fun ⟨k, hk, e⟩ => ⟨k, hk, (h k hk).symm ▸ e⟩⟩
theorem conc_more {n k : Nat} {L : Nat → Flow} {F : Flow} {o : ByteArray} (hk : k < n) (hne : (L k).res ≠ F.res) : conc (n + 1) (oneMore n L F) k o = conc n L k o := by
  have e1 : oneMore n L F k = L k := by unfold oneMore; rw [if_pos hk]
  have e2 : oneMore n L F n = F := by unfold oneMore; rw [if_neg (Nat.lt_irrefl n)]
  have e3 : hasO (n + 1) (oneMore n L F) (L k).res o = hasO n L (L k).res o := by
    rw [hasO_succ, e2, decide_eq_false (fun h => hne h.symm)]
    simp only [Bool.false_and, Bool.or_false]
    unfold hasO
    rw [hasB_same (fun i hi => by unfold oneMore; rw [if_pos hi])]
  rw [conc_in (show k < n + 1 by omega), conc_in hk, e1, e3]

theorem at_gt {h k n c g1 H : Nat} (hk : h < k) (hH : h < H) (hat : (Value.slice (some ⟨k, 0, none⟩) n c).ownBlock = some g1 ∨ g1 = H) : h < g1 := by
  rcases hat with e | e
  · have := Option.some.inj e
    rw [← this]; exact hk
  · omega

theorem fin_of {w w1 wa wx : World} {n g1 c1 g c : Nat} {L : Nat → Flow} {F : Flow} {cs : Array Value} {ty : TypeId} (hcs : cs[0]? = some (.string F.res)) (hb1 : Below w.heap.size w w1) (hq1 : w1.heap[w.heap.size]? = some (.cells cs ty)) (hg1 : w.heap.size < g1) (hba : Below w1.heap.size w1 wa)
    (hgr2 : wa.grownBy wx (Value.slice (some ⟨g1, 0, none⟩) n c1).ownBlock) (hown : wx.ownsRow w.heap.size 92 12 (.slice (some ⟨g, 0, none⟩) (n + 1) c) (n + 1) (flatF n L ++ (fv F).toList))
    (s1 : ∀ i, i < n → (L i).res.size ≤ maxLen) (s2 : ∀ i, i < n → (L i).org.size ≤ maxLen) (s3 : ∀ i, i < n → (L i).ref.size ≤ maxLen) (f1 : F.res.size ≤ maxLen) (f2 : F.org.size ≤ maxLen) (f3 : F.ref.size ≤ maxLen) : MorePost w n L F (.slice (some ⟨g, 0, none⟩) (n + 1) c) wx := by
  have hl := (Array.getElem?_eq_some_iff.1 hq1).1
  have hla : w.heap.size < wa.heap.size := Nat.lt_of_lt_of_le hl hba.size
  have hba2 : Below w.heap.size w wa := hb1.trans (hba.mono hb1.size)
  have hbx : Below w.heap.size w wx := hba2.grown hgr2 hba2.size (own_up (by omega))
  have hqx : wx.heap[w.heap.size]? = some (.cells cs ty) := ((hgr2.block w.heap.size hla (ne_own (by omega))).trans (hba.block _ hl)).trans hq1
  exact more_of hown s1 s2 s3 f1 f2 f3 hbx (cell_of hqx 0 _ hcs) (Array.getElem?_eq_some_iff.1 hqx).1

set_option maxRecDepth 100000 in
set_option maxHeartbeats 4000000 in
theorem apart_core (a : Option Addr) (n cap : Nat) (L : Nat → Flow) (res org : ByteArray) (thr : Bool) (cnt : Int) (strat : Nat) (ref : ByteArray) (shape : Nat) (warm queue : Int) (clus : Bool) (id_ : Int) (fall : Bool) (o : ByteArray) (w : World) (hnm : n ≤ 1172812402930) (HF : Hid (Flows w a n L)) (f1 : Hid (res.size ≤ maxLen)) (f2 : Hid (org.size ≤ maxLen)) (f3 : Hid (ref.size ≤ maxLen)) :
    Calls Try.prog 9 #[.slice a n cap, .agg #[.string res, .string org, .bool thr, .int .i64 cnt, .int .u8 strat, .string ref, .int .u8 shape, .int .i64 warm, .int .i64 queue, .bool clus, .int .i64 id_, .bool fall], .string o] w fun e w' => e = .returned (.bool true) ∧ Below w.heap.size w w' := by
  obtain ⟨i0, hi, hz0, hz1, hz2⟩ := info_parts infoFlow
  have E1 := two_blocks w (.cells #[.string res, .string org, .bool thr, .int .i64 cnt, .int .u8 strat, .string ref, .int .u8 shape, .int .i64 warm, .int .i64 queue, .bool clus, .int .i64 id_, .bool fall] 92) (.cells #[] 92)
  have E2 := three_blocks w (.cells #[.string res, .string org, .bool thr, .int .i64 cnt, .int .u8 strat, .string ref, .int .u8 shape, .int .i64 warm, .int .i64 queue, .bool clus, .int .i64 id_, .bool fall] 92) (.cells #[] 92) (.cells #[.string res, .string org, .bool thr, .int .i64 cnt, .int .u8 strat, .string ref, .int .u8 shape, .int .i64 warm, .int .i64 queue, .bool clus, .int .i64 id_, .bool fall] 92)
  have E3 := three_blocks w (.cells #[.string res, .string org, .bool thr, .int .i64 cnt, .int .u8 strat, .string ref, .int .u8 shape, .int .i64 warm, .int .i64 queue, .bool clus, .int .i64 id_, .bool fall] 92) (.cells #[.string res, .string org, .bool thr, .int .i64 cnt, .int .u8 strat, .string ref, .int .u8 shape, .int .i64 warm, .int .i64 queue, .bool clus, .int .i64 id_, .bool fall] 92) (.cells #[] 92)
  have F1 := hid E1.2
  have F2 := hid E2.2.1
  have F3 := hid E3.2.2
  have P2 := hid E2.2.2
  have P3 := hid E3.2.1
  have Q1 := hid E1.1
  have Q2 := hid E2.1
  have Q3 := hid E3.1
  have B1 : Hid (Below w.heap.size w ((w.alloc (.cells #[.string res, .string org, .bool thr, .int .i64 cnt, .int .u8 strat, .string ref, .int .u8 shape, .int .i64 warm, .int .i64 queue, .bool clus, .int .i64 id_, .bool fall] 92)).alloc (.cells #[] 92))) := hid (((Below.refl _ w).alloc (Nat.le_refl _) _).alloc (by simp) _)
  have B2 : Hid (Below w.heap.size w (((w.alloc (.cells #[.string res, .string org, .bool thr, .int .i64 cnt, .int .u8 strat, .string ref, .int .u8 shape, .int .i64 warm, .int .i64 queue, .bool clus, .int .i64 id_, .bool fall] 92)).alloc (.cells #[] 92)).alloc (.cells #[.string res, .string org, .bool thr, .int .i64 cnt, .int .u8 strat, .string ref, .int .u8 shape, .int .i64 warm, .int .i64 queue, .bool clus, .int .i64 id_, .bool fall] 92))) := hid ((((Below.refl _ w).alloc (Nat.le_refl _) _).alloc (by simp) _).alloc (by simp; omega) _)
  have B3 : Hid (Below w.heap.size w (((w.alloc (.cells #[.string res, .string org, .bool thr, .int .i64 cnt, .int .u8 strat, .string ref, .int .u8 shape, .int .i64 warm, .int .i64 queue, .bool clus, .int .i64 id_, .bool fall] 92)).alloc (.cells #[.string res, .string org, .bool thr, .int .i64 cnt, .int .u8 strat, .string ref, .int .u8 shape, .int .i64 warm, .int .i64 queue, .bool clus, .int .i64 id_, .bool fall] 92)).alloc (.cells #[] 92))) := hid ((((Below.refl _ w).alloc (Nat.le_refl _) _).alloc (by simp) _).alloc (by simp; omega) _)
  have S1 : Hid (w.heap.size < ((w.alloc (.cells #[.string res, .string org, .bool thr, .int .i64 cnt, .int .u8 strat, .string ref, .int .u8 shape, .int .i64 warm, .int .i64 queue, .bool clus, .int .i64 id_, .bool fall] 92)).alloc (.cells #[] 92)).heap.size) := hid (by simp only [World.size_alloc]; omega)
  have S2 : Hid (w.heap.size < (((w.alloc (.cells #[.string res, .string org, .bool thr, .int .i64 cnt, .int .u8 strat, .string ref, .int .u8 shape, .int .i64 warm, .int .i64 queue, .bool clus, .int .i64 id_, .bool fall] 92)).alloc (.cells #[] 92)).alloc (.cells #[.string res, .string org, .bool thr, .int .i64 cnt, .int .u8 strat, .string ref, .int .u8 shape, .int .i64 warm, .int .i64 queue, .bool clus, .int .i64 id_, .bool fall] 92)).heap.size) := hid (by simp only [World.size_alloc]; omega)
  have S3 : Hid (w.heap.size < (((w.alloc (.cells #[.string res, .string org, .bool thr, .int .i64 cnt, .int .u8 strat, .string ref, .int .u8 shape, .int .i64 warm, .int .i64 queue, .bool clus, .int .i64 id_, .bool fall] 92)).alloc (.cells #[.string res, .string org, .bool thr, .int .i64 cnt, .int .u8 strat, .string ref, .int .u8 shape, .int .i64 warm, .int .i64 queue, .bool clus, .int .i64 id_, .bool fall] 92)).alloc (.cells #[] 92)).heap.size) := hid (by simp only [World.size_alloc]; omega)
  have T2 : Hid (w.heap.size + 2 < (((w.alloc (.cells #[.string res, .string org, .bool thr, .int .i64 cnt, .int .u8 strat, .string ref, .int .u8 shape, .int .i64 warm, .int .i64 queue, .bool clus, .int .i64 id_, .bool fall] 92)).alloc (.cells #[] 92)).alloc (.cells #[.string res, .string org, .bool thr, .int .i64 cnt, .int .u8 strat, .string ref, .int .u8 shape, .int .i64 warm, .int .i64 queue, .bool clus, .int .i64 id_, .bool fall] 92)).heap.size) := hid (by simp only [World.size_alloc]; omega)
  have T3 : Hid (w.heap.size + 1 < (((w.alloc (.cells #[.string res, .string org, .bool thr, .int .i64 cnt, .int .u8 strat, .string ref, .int .u8 shape, .int .i64 warm, .int .i64 queue, .bool clus, .int .i64 id_, .bool fall] 92)).alloc (.cells #[.string res, .string org, .bool thr, .int .i64 cnt, .int .u8 strat, .string ref, .int .u8 shape, .int .i64 warm, .int .i64 queue, .bool clus, .int .i64 id_, .bool fall] 92)).alloc (.cells #[] 92)).heap.size) := hid (by simp only [World.size_alloc]; omega)
  clear E1 E2 E3
  go_enter Try.func9, Try.ntmps9
  go_wp2_with fail
  go_cut [7] (fun s7 wx => MorePost w n L ⟨res, org, thr, cnt, strat, ref, shape, warm, queue, clus, id_, fall⟩ s7 wx)
  case first =>
   rcases Nat.eq_zero_or_pos n with hn00 | hn0
   · subst hn00
     cases a <;> (
      go_region_law (first | (refine step_append_lies _ rfl _ _ 69 rfl w.heap.size 92 i0 (.agg #[.string ⟨#[]⟩, .string ⟨#[]⟩, .bool false, .int .i64 0, .int .u8 0, .string ⟨#[]⟩, .int .u8 0, .int .i64 0, .int .i64 0, .bool false, .int .i64 0, .bool false]) 12 120 Try.underlying69 hi hz0 hz1 hz2 rfl (by decide) (.slice (some ⟨w.heap.size + 1, 0, none⟩) 0 0) 0 [] rfl (owns_empty F2.out (by omega)) ⟨w.heap.size + 2, 0, none⟩ 1 1 [.string res, .string org, .bool thr, .int .i64 cnt, .int .u8 strat, .string ref, .int .u8 shape, .int .i64 warm, .int .i64 queue, .bool clus, .int .i64 id_, .bool fall] rfl rfl (fun j u hu => by (rw [Go.WideShapes.add_plain, Nat.zero_add]; exact cell_of P2.out j u (by simpa using hu))) (by intro u hu; simp at hu; rcases hu with rfl | rfl | rfl | rfl | rfl | rfl | rfl | rfl | rfl | rfl | rfl | rfl <;> rfl) (by decide) (by decide) (by decide) (by first | exact B2.out.size | exact B3.out.size) _ rfl ?_; intro g2 c2 w2 hown2 hgr2 hat2 hlt2) | (refine step_append_lies _ rfl _ _ 69 rfl w.heap.size 92 i0 (.agg #[.string ⟨#[]⟩, .string ⟨#[]⟩, .bool false, .int .i64 0, .int .u8 0, .string ⟨#[]⟩, .int .u8 0, .int .i64 0, .int .i64 0, .bool false, .int .i64 0, .bool false]) 12 120 Try.underlying69 hi hz0 hz1 hz2 rfl (by decide) (.slice (some ⟨w.heap.size + 2, 0, none⟩) 0 0) 0 [] rfl (owns_empty F3.out (by omega)) ⟨w.heap.size + 1, 0, none⟩ 1 1 [.string res, .string org, .bool thr, .int .i64 cnt, .int .u8 strat, .string ref, .int .u8 shape, .int .i64 warm, .int .i64 queue, .bool clus, .int .i64 id_, .bool fall] rfl rfl (fun j u hu => by (rw [Go.WideShapes.add_plain, Nat.zero_add]; exact cell_of P3.out j u (by simpa using hu))) (by intro u hu; simp at hu; rcases hu with rfl | rfl | rfl | rfl | rfl | rfl | rfl | rfl | rfl | rfl | rfl | rfl <;> rfl) (by decide) (by decide) (by decide) (by first | exact B2.out.size | exact B3.out.size) _ rfl ?_; intro g2 c2 w2 hown2 hgr2 hat2 hlt2) | fail)
      all_goals
        have HO2 := hid hown2
        have HG2 := hid hgr2
        clear hown2 hgr2 hat2
        go_wp2_with fail
        go_meet
        first
          | exact fin_of (n := 0) (F := ⟨res, org, thr, cnt, strat, ref, shape, warm, queue, clus, id_, fall⟩) rfl B2.out.drew Q2.out (Nat.lt_succ_self _) (Below.refl _ _) HG2.out HO2.out HF.out.s1 HF.out.s2 HF.out.s3 f1.out f2.out f3.out
          | exact fin_of (n := 0) (F := ⟨res, org, thr, cnt, strat, ref, shape, warm, queue, clus, id_, fall⟩) rfl B3.out.drew Q3.out (by omega) (Below.refl _ _) HG2.out HO2.out HF.out.s1 HF.out.s2 HF.out.s3 f1.out f2.out f3.out)
   · obtain ⟨g, q, rfl, hg, hcf⟩ := HF.out.at_ hn0
     have HNW : Hid (∀ j u, (flatF n L)[j]? = some u → w.cell? ⟨g, q + j, none⟩ = some u) := hid (fun j u hj => by
       obtain ⟨i, k, h1, h2, h3⟩ := flatF_cut n L j u hj
       rw [h2, ← Nat.add_assoc]
       exact hcf i h1 k u h3)
     clear hcf
     go_region_law (first
       | (refine step_append_lies _ rfl _ _ 69 rfl w.heap.size 92 i0 (.agg #[.string ⟨#[]⟩, .string ⟨#[]⟩, .bool false, .int .i64 0, .int .u8 0, .string ⟨#[]⟩, .int .u8 0, .int .i64 0, .int .i64 0, .bool false, .int .i64 0, .bool false]) 12 120 Try.underlying69 hi hz0 hz1 hz2 rfl (by decide) (.slice (some ⟨w.heap.size + 1, 0, none⟩) 0 0) 0 [] rfl (by first | exact owns_empty F1.out (by omega) | exact owns_empty F2.out (by omega) | exact owns_empty F3.out (by omega)) ⟨g, q, none⟩ n cap (flatF n L) rfl (flatF_len n L) (fun j u hu => by (rw [Go.WideShapes.add_plain]; first | exact (B1.out.cell (p := ⟨g, q + j, none⟩) hg).trans (HNW.out j u hu) | exact (B2.out.cell (p := ⟨g, q + j, none⟩) hg).trans (HNW.out j u hu) | exact (B3.out.cell (p := ⟨g, q + j, none⟩) hg).trans (HNW.out j u hu))) (flatF_one n L) hn0 (by unfold maxLen; omega) (by omega) (by first | exact B1.out.size | exact B2.out.size | exact B3.out.size) _ rfl ?_; intro g1 c1 w1 hown1 hgr1 hat1 hlt1; rw [Nat.zero_add, List.nil_append] at hown1; rw [Nat.zero_add]; have hq1 : w1.heap[w.heap.size]? = some (.cells #[.string res, .string org, .bool thr, .int .i64 cnt, .int .u8 strat, .string ref, .int .u8 shape, .int .i64 warm, .int .i64 queue, .bool clus, .int .i64 id_, .bool fall] 92) := (by first | exact (hgr1.block w.heap.size S1.out (ne_own (by omega))).trans Q1.out | exact (hgr1.block w.heap.size S2.out (ne_own (by omega))).trans Q2.out | exact (hgr1.block w.heap.size S3.out (ne_own (by omega))).trans Q3.out); have HQ1 := hid hq1; have hg1h : w.heap.size < g1 := (by first | exact at_gt (by omega) S1.out hat1 | exact at_gt (by omega) S2.out hat1 | exact at_gt (by omega) S3.out hat1); have HB1 : Hid (Below w.heap.size w w1) := hid (by first | exact B1.out.drew.grown hgr1 B1.out.size (own_up (by omega)) | exact B2.out.drew.grown hgr1 B2.out.size (own_up (by omega)) | exact B3.out.drew.grown hgr1 B3.out.size (own_up (by omega))); have hs1 : w.heap.size < w1.heap.size := (Array.getElem?_eq_some_iff.1 hq1).1; have x0 := cell_of hq1 0 _ rfl; have x1 := cell_of hq1 1 _ rfl; have x2 := cell_of hq1 2 _ rfl; have x3 := cell_of hq1 3 _ rfl; have x4 := cell_of hq1 4 _ rfl; have x5 := cell_of hq1 5 _ rfl; have x6 := cell_of hq1 6 _ rfl; have x7 := cell_of hq1 7 _ rfl; have x8 := cell_of hq1 8 _ rfl; have x9 := cell_of hq1 9 _ rfl; have x10 := cell_of hq1 10 _ rfl; have x11 := cell_of hq1 11 _ rfl; clear hq1)
       | (refine step_append_lies _ rfl _ _ 69 rfl w.heap.size 92 i0 (.agg #[.string ⟨#[]⟩, .string ⟨#[]⟩, .bool false, .int .i64 0, .int .u8 0, .string ⟨#[]⟩, .int .u8 0, .int .i64 0, .int .i64 0, .bool false, .int .i64 0, .bool false]) 12 120 Try.underlying69 hi hz0 hz1 hz2 rfl (by decide) (.slice (some ⟨w.heap.size + 2, 0, none⟩) 0 0) 0 [] rfl (by first | exact owns_empty F1.out (by omega) | exact owns_empty F2.out (by omega) | exact owns_empty F3.out (by omega)) ⟨g, q, none⟩ n cap (flatF n L) rfl (flatF_len n L) (fun j u hu => by (rw [Go.WideShapes.add_plain]; first | exact (B1.out.cell (p := ⟨g, q + j, none⟩) hg).trans (HNW.out j u hu) | exact (B2.out.cell (p := ⟨g, q + j, none⟩) hg).trans (HNW.out j u hu) | exact (B3.out.cell (p := ⟨g, q + j, none⟩) hg).trans (HNW.out j u hu))) (flatF_one n L) hn0 (by unfold maxLen; omega) (by omega) (by first | exact B1.out.size | exact B2.out.size | exact B3.out.size) _ rfl ?_; intro g1 c1 w1 hown1 hgr1 hat1 hlt1; rw [Nat.zero_add, List.nil_append] at hown1; rw [Nat.zero_add]; have hq1 : w1.heap[w.heap.size]? = some (.cells #[.string res, .string org, .bool thr, .int .i64 cnt, .int .u8 strat, .string ref, .int .u8 shape, .int .i64 warm, .int .i64 queue, .bool clus, .int .i64 id_, .bool fall] 92) := (by first | exact (hgr1.block w.heap.size S1.out (ne_own (by omega))).trans Q1.out | exact (hgr1.block w.heap.size S2.out (ne_own (by omega))).trans Q2.out | exact (hgr1.block w.heap.size S3.out (ne_own (by omega))).trans Q3.out); have HQ1 := hid hq1; have hg1h : w.heap.size < g1 := (by first | exact at_gt (by omega) S1.out hat1 | exact at_gt (by omega) S2.out hat1 | exact at_gt (by omega) S3.out hat1); have HB1 : Hid (Below w.heap.size w w1) := hid (by first | exact B1.out.drew.grown hgr1 B1.out.size (own_up (by omega)) | exact B2.out.drew.grown hgr1 B2.out.size (own_up (by omega)) | exact B3.out.drew.grown hgr1 B3.out.size (own_up (by omega))); have hs1 : w.heap.size < w1.heap.size := (Array.getElem?_eq_some_iff.1 hq1).1; have x0 := cell_of hq1 0 _ rfl; have x1 := cell_of hq1 1 _ rfl; have x2 := cell_of hq1 2 _ rfl; have x3 := cell_of hq1 3 _ rfl; have x4 := cell_of hq1 4 _ rfl; have x5 := cell_of hq1 5 _ rfl; have x6 := cell_of hq1 6 _ rfl; have x7 := cell_of hq1 7 _ rfl; have x8 := cell_of hq1 8 _ rfl; have x9 := cell_of hq1 9 _ rfl; have x10 := cell_of hq1 10 _ rfl; have x11 := cell_of hq1 11 _ rfl; clear hq1)
       | (refine step_append_lies _ rfl _ _ 69 rfl w.heap.size 92 i0 (.agg #[.string ⟨#[]⟩, .string ⟨#[]⟩, .bool false, .int .i64 0, .int .u8 0, .string ⟨#[]⟩, .int .u8 0, .int .i64 0, .int .i64 0, .bool false, .int .i64 0, .bool false]) 12 120 Try.underlying69 hi hz0 hz1 hz2 rfl (by decide) (.slice (some ⟨g1, 0, none⟩) n c1) n (flatF n L) rfl (World.ownsRow.alloc hown1 _) ⟨w1.heap.size, 0, none⟩ 1 1 [.string res, .string org, .bool thr, .int .i64 cnt, .int .u8 strat, .string ref, .int .u8 shape, .int .i64 warm, .int .i64 queue, .bool clus, .int .i64 id_, .bool fall] rfl rfl (fun j u hu => by (rw [Go.WideShapes.add_plain, Nat.zero_add]; exact cell_of (heap_alloc_new w1 _) j u (by simpa using hu))) (by intro u hu; simp at hu; rcases hu with rfl | rfl | rfl | rfl | rfl | rfl | rfl | rfl | rfl | rfl | rfl | rfl <;> rfl) (by decide) (by unfold maxLen; omega) (by omega) (by show w.heap.size ≤ (w1.alloc _).heap.size; simp; omega) _ rfl ?_; intro g2 c2 w2 hown2 hgr2 hat2 hlt2)
       | (refine step_append_lies _ rfl _ _ 69 rfl w.heap.size 92 i0 (.agg #[.string ⟨#[]⟩, .string ⟨#[]⟩, .bool false, .int .i64 0, .int .u8 0, .string ⟨#[]⟩, .int .u8 0, .int .i64 0, .int .i64 0, .bool false, .int .i64 0, .bool false]) 12 120 Try.underlying69 hi hz0 hz1 hz2 rfl (by decide) (.slice (some ⟨g1, 0, none⟩) n c1) n (flatF n L) rfl (hown1) ⟨w.heap.size + 2, 0, none⟩ 1 1 [.string res, .string org, .bool thr, .int .i64 cnt, .int .u8 strat, .string ref, .int .u8 shape, .int .i64 warm, .int .i64 queue, .bool clus, .int .i64 id_, .bool fall] rfl rfl (fun j u hu => by (rw [Go.WideShapes.add_plain, Nat.zero_add]; exact cell_of ((hgr1.block (w.heap.size + 2) T2.out (ne_own (by omega))).trans P2.out) j u (by simpa using hu))) (by intro u hu; simp at hu; rcases hu with rfl | rfl | rfl | rfl | rfl | rfl | rfl | rfl | rfl | rfl | rfl | rfl <;> rfl) (by decide) (by unfold maxLen; omega) (by omega) (by omega) _ rfl ?_; intro g2 c2 w2 hown2 hgr2 hat2 hlt2)
       | (refine step_append_lies _ rfl _ _ 69 rfl w.heap.size 92 i0 (.agg #[.string ⟨#[]⟩, .string ⟨#[]⟩, .bool false, .int .i64 0, .int .u8 0, .string ⟨#[]⟩, .int .u8 0, .int .i64 0, .int .i64 0, .bool false, .int .i64 0, .bool false]) 12 120 Try.underlying69 hi hz0 hz1 hz2 rfl (by decide) (.slice (some ⟨g1, 0, none⟩) n c1) n (flatF n L) rfl (hown1) ⟨w.heap.size + 1, 0, none⟩ 1 1 [.string res, .string org, .bool thr, .int .i64 cnt, .int .u8 strat, .string ref, .int .u8 shape, .int .i64 warm, .int .i64 queue, .bool clus, .int .i64 id_, .bool fall] rfl rfl (fun j u hu => by (rw [Go.WideShapes.add_plain, Nat.zero_add]; exact cell_of ((hgr1.block (w.heap.size + 1) T3.out (ne_own (by omega))).trans P3.out) j u (by simpa using hu))) (by intro u hu; simp at hu; rcases hu with rfl | rfl | rfl | rfl | rfl | rfl | rfl | rfl | rfl | rfl | rfl | rfl <;> rfl) (by decide) (by unfold maxLen; omega) (by omega) (by omega) _ rfl ?_; intro g2 c2 w2 hown2 hgr2 hat2 hlt2)
       | fail)
     all_goals
       have HO2 := hid hown2
       have HG2 := hid hgr2
       clear hown1 hgr1 hat1 hown2 hgr2 hat2 x0 x1 x2 x3 x4 x5 x6 x7 x8 x9 x10 x11
       go_wp2_with fail
       go_meet
       first
         | exact fin_of (F := ⟨res, org, thr, cnt, strat, ref, shape, warm, queue, clus, id_, fall⟩) rfl HB1.out HQ1.out hg1h (Below.refl _ _) HG2.out HO2.out HF.out.s1 HF.out.s2 HF.out.s3 f1.out f2.out f3.out
         | exact fin_of (F := ⟨res, org, thr, cnt, strat, ref, shape, warm, queue, clus, id_, fall⟩) rfl HB1.out HQ1.out hg1h ((Below.refl _ _).alloc (Nat.le_refl _) _) HG2.out HO2.out HF.out.s1 HF.out.s2 HF.out.s3 f1.out f2.out f3.out
  case rest =>
    obtain ⟨g2, c2, rfl, hfl, hb, hx, hl⟩ := hcut
    have HM := hid hfl
    have HBW := hid hb
    have HX := hid hx
    clear hfl hb hx i0 hi hz0 hz1 hz2 F1 F2 F3 P2 P3 Q1 Q2 Q3 B1 B2 B3 S1 S2 S3 T2 T3
    have hnn : n ≤ 9223372036854775807 := by omega
    have hnn1 : n + 1 ≤ 9223372036854775807 := by omega
    go_wp2_with fail
    go_loopw [8] (fun i wr => ∃ k : Nat, k ≤ n ∧ i = .int .i64 k ∧ Below wc.heap.size wc wr) (fun i _ => n - (intOf i).toNat)
    case atStart => exact ⟨0, Nat.zero_le _, rfl, Below.refl _ _⟩
    case round =>
      obtain ⟨k, hk, rfl, hb⟩ := hrel
      have HB := hid hb
      have hz := Nat.lt_of_lt_of_le hl hb.size
      have HBA := hid (HBW.out.trans (hb.mono HBW.out.size))
      by_cases hlt : k < n
      · obtain ⟨g, q, rfl, hg, hcf⟩ := HF.out.at_ (by omega)
        have b0 := (hb.cell (p := ⟨w.heap.size, 0, none⟩) hl).trans HX.out
        have l0 : wr.cell? ⟨g, q + k * 12, none⟩ = some (.string (L k).res) := (HBA.out.cell (p := ⟨g, q + k * 12, none⟩) hg).trans (hcf k hlt 0 _ rfl)
        have hki : (k : Int) < n := by omega
        have hki2 : decide ((k : Int) < n) = true := by simp; omega
        have hgr : g < wr.heap.size := Nat.lt_of_lt_of_le hg HBA.out.size
        clear hb hcf
        cases d1 : decide ((L k).res = res) with
        | true =>
          have e1 : ((L k).res.toList == res.toList) = true := by rw [text_eq]; exact d1
          generalize (L k).res = rk at *
          clear d1
          go_wp2_with fail
          go_quiet (fail)
          have HB2 := hid (HB.out.trans (RulI.drewN_below wr nq _))
          clear b0 l0 HB HBA hz hgr
          generalize wr.drewN nq = wd at *
          go_wp2_with fail
          go_roundw
          case rel => exact ⟨k + 1, by omega, by go_num, HB2.out⟩
          case measure => simp [intOf]; omega
        | false =>
          have e1 : ((L k).res.toList == res.toList) = false := by rw [text_eq]; exact d1
          have hcm := conc_more (o := o) (F := ⟨res, org, thr, cnt, strat, ref, shape, warm, queue, clus, id_, fall⟩) hlt (by simpa using d1)
          have HCa := hid (Concerns_any (some ⟨g, q, none⟩) n cap L k o wr.drew hnn ((HF.out.below HBA.out).below (Below.refl _ _).drew))
          have HCb := hid (fun (W : World) (h : Below wr.heap.size wr W) => Concerns_any (some ⟨g2, 0, none⟩) (n + 1) c2 _ k o W hnn1 ((HM.out.below HB.out).below h))
          rw [hcm] at HCb
          obtain ⟨y, hy⟩ : ∃ y, conc n L k o = y := ⟨_, rfl⟩
          rw [hy] at HCa HCb
          clear hy hcm d1
          generalize (L k).res = rk at *
          cases y <;> (
            go_wp2_with fail
            go_region_held3 (fun w' => w'.cell? ⟨w.heap.size, 0, none⟩ = some (.string res) ∧ w'.cell? ⟨g, q + k * 12, none⟩ = some (.string rk)) (first | assumption | go_keep)
              (first | (go_at_call 42; (with_reducible refine HCa.out.mono ?_); rintro e w4 ⟨rfl, hb4⟩; have b4 := (hb4.cell (p := ⟨w.heap.size, 0, none⟩) hz).trans b0; have l4 := (hb4.cell (p := ⟨g, q + k * 12, none⟩) hgr).trans l0; have HB4 := hid ((Below.refl wr.heap.size wr).drew.trans hb4); clear hb4 b0 l0) | (go_at_call 42; (with_reducible refine (HCb.out _ HB4.out).mono ?_); rintro e w5 ⟨rfl, hb5⟩; have b5 := (hb5.cell (p := ⟨w.heap.size, 0, none⟩) (Nat.lt_of_lt_of_le hz HB4.out.size)).trans b4; have l5 := (hb5.cell (p := ⟨g, q + k * 12, none⟩) (Nat.lt_of_lt_of_le hgr HB4.out.size)).trans l4; have HB5 := hid (HB4.out.trans (hb5.mono HB4.out.size)); clear hb5))
            all_goals
              have HB6 := hid (HB.out.trans (HB5.out.mono HB.out.size))
              clear HCa HCb HB5 HB4 HBA
              go_wp2_with fail
              go_roundw
              case rel => exact ⟨k + 1, by omega, by go_num, HB6.out⟩
              case measure => simp [intOf]; omega)
      · obtain rfl : k = n := by omega
        have hki2 : decide ((k : Int) < k) = false := by simp
        clear hb
        go_wp2_with fail
        refine (live_look _).mono ?_
        rintro e w2 ⟨rfl, hb2⟩
        have HB2 := hid (HBA.out.trans (hb2.mono HBA.out.size))
        clear hb2
        go_wp2_with fail
        go_ret
        exact ⟨rfl, HB2.out⟩

end Go.Proofs.Ytcedbgoopolmdaa.RulK
