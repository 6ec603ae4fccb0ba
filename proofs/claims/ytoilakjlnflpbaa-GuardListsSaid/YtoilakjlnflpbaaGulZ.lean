/- GulB to GulF in one text (a claim has at most 60). -/
import Derived.Test.YtoilakjlnflpbaaGulA
import Derived.Test.YtoilakjlnflpbaaGurB
import Derived.Test.YtoilakjlnflpbaaMtx
import Derived.Test.YtoilakjlnflpbaaHfl
import Derived.Test.YtoilakjlnflpbaaHbr
import Derived.Test.YtoilakjlnflpbaaGuaE
import Derived.Test.YtoilakjlnflpbaaGuaF
import Derived.Test.YtoilakjlnflpbaaOpn
import Derived.Test.YtoilakjlnflpbaaRoom
namespace Go.Proofs.Ytoilakjlnflpbaa.GulB
open Go.ChangeShapes Go.WideShapes Go.ChangeAt Go.RowKit Go.Deep Base WldG Wri Txt ValA Vrw Mtx GurA GulA GuaB
open GurC (kc blw)
set_option linter.unusedVariables false
set_option linter.unusedSimpArgs false

def LF : Nat → Hfl.R := fun _ => ⟨⟨#[]⟩, ⟨#[]⟩, false, 0, 0, ⟨#[]⟩, 0, 0, 0, false, 0, false⟩
def LB : Nat → Hbr.R := fun _ => ⟨⟨#[]⟩, 0, 0, 0, 0, 0, 0⟩
def F0 : Nat → Nat → Int := fun _ _ => 0

theorem asz (w : World) (c : Obj) : (w.alloc c).heap.size = w.heap.size + 1 := by simp
theorem dsz (w : World) : w.drew.heap.size = w.heap.size := rfl
theorem bt {W w1 w2 : World} (h : Below W.heap.size W w1) (h2 : Below w1.heap.size w1 w2) : Below W.heap.size W w2 := h.trans (h2.mono h.size)
theorem nextV {w w1 w2 : World} {g n : Nat} {f : Nat → Value} (h : VRow w g n f ∧ g < w.heap.size) (hb : Below w1.heap.size w1 w2) (hh : w1.heap = w.heap := by rfl) : VRow w2 g n f ∧ g < w2.heap.size := by
  have hg : g < w1.heap.size := by rw [hh]; exact h.2
  exact ⟨h.1.of_block ((hb.block g hg).trans (by rw [hh])), Nat.lt_of_lt_of_le hg hb.size⟩
theorem nextR {w w1 w2 : World} {g n : Nat} {f : Nat → Int} (h : Row w g n f ∧ g < w.heap.size) (hb : Below w1.heap.size w1 w2) (hh : w1.heap = w.heap := by rfl) : Row w2 g n f ∧ g < w2.heap.size := by
  have hg : g < w1.heap.size := by rw [hh]; exact h.2
  exact ⟨h.1.of_block ((hb.block g hg).trans (by rw [hh])), Nat.lt_of_lt_of_le hg hb.size⟩

/-- the three rows of what there is none of, and the place of the new rules -/
structure Three (w : World) (p gf gb gs : Nat) : Prop where
  fl : VRow w gf ((0 + 9) * 12) (Hfl.mk 0 LF) ∧ gf < w.heap.size
  br : VRow w gb ((0 + 9) * 7) (Hbr.mk 0 LB) ∧ gb < w.heap.size
  sy : Row w gs ((0 + 9) * 5) (mark5 0 F0) ∧ gs < w.heap.size
  ne : gf ≠ p ∧ gb ≠ p ∧ gs ≠ p

abbrev Zs : Array Value := #[.slice none 0 0, .slice none 0 0, .slice none 0 0, .slice none 0 0, .slice none 0 0]
theorem kca {w : World} {g o : Nat} {v : Value} {cs : Array Value} {ty : TypeId} (h : w.cell? ⟨g, o, none⟩ = some v) : (w.alloc (.cells cs ty)).cell? ⟨g, o, none⟩ = some v := kc ((Below.refl _ w).alloc (Nat.le_refl _) _) h
/-- the new rules' place, as it was made -/
def New0 (B : Nat) (w : World) (p : Nat) : Prop := (B ≤ p ∧ p < w.heap.size) ∧ ∀ j, j < 5 → w.cell? ⟨p, j, none⟩ = some (.slice none 0 0) ∧ w.frozen? ⟨p, j, none⟩ = false
theorem new0_alloc {B : Nat} {w1 w2 : World} {t : TypeId} (hb : Below (w1.alloc (.cells Zs t)).heap.size (w1.alloc (.cells Zs t)) w2) (hB : B ≤ w1.heap.size) : New0 B w2 w1.heap.size := by
  have hp : w1.heap.size < (w1.alloc (.cells Zs t)).heap.size := by simp
  refine ⟨⟨hB, Nat.lt_of_lt_of_le hp hb.size⟩, fun j hj => ⟨(hb.cell (p := ⟨w1.heap.size, j, none⟩) hp).trans (GurC.one w1 _ _ ?_), (hb.frozen (p := ⟨w1.heap.size, j, none⟩) hp).trans ?_⟩⟩
  · rcases (by omega : j = 0 ∨ j = 1 ∨ j = 2 ∨ j = 3 ∨ j = 4) with rfl | rfl | rfl | rfl | rfl <;> rfl
  · unfold World.frozen?
    rw [heap_alloc_new]
    simp
theorem new0_drew {B : Nat} {w1 w2 : World} {t : TypeId} (hb : Below (w1.alloc (.cells Zs t)).drew.heap.size (w1.alloc (.cells Zs t)).drew w2) (hB : B ≤ w1.heap.size) : New0 B w2 w1.heap.size := by
  have hp : w1.heap.size < (w1.alloc (.cells Zs t)).heap.size := by simp
  refine ⟨⟨hB, Nat.lt_of_lt_of_le hp hb.size⟩, fun j hj => ⟨(hb.cell (p := ⟨w1.heap.size, j, none⟩) hp).trans (GurC.one w1 Zs t ?_), (hb.frozen (p := ⟨w1.heap.size, j, none⟩) hp).trans ?_⟩⟩
  · rcases (by omega : j = 0 ∨ j = 1 ∨ j = 2 ∨ j = 3 ∨ j = 4) with rfl | rfl | rfl | rfl | rfl <;> rfl
  · show (w1.alloc (.cells Zs t)).frozen? _ = false
    unfold World.frozen?
    rw [heap_alloc_new]
    simp
theorem new0_next {B : Nat} {w w1 w2 : World} {p : Nat} (h : New0 B w p) (hb : Below w1.heap.size w1 w2) (hh : w1.heap = w.heap := by rfl) : New0 B w2 p := by
  have hp : p < w1.heap.size := by rw [hh]; exact h.1.2
  exact ⟨⟨h.1.1, Nat.lt_of_lt_of_le hp hb.size⟩, fun j hj => ⟨(World.cell?_of_block (a := ⟨p, j, none⟩) ((hb.block p hp).trans (by rw [hh]))).trans (h.2 j hj).1, (World.frozen?_of_block (a := ⟨p, j, none⟩) ((hb.block p hp).trans (by rw [hh]))).trans (h.2 j hj).2⟩⟩
theorem keep5 {w : World} {g o p : Nat} {v v0 v1 v2 v3 v4 : Value} (h : w.cell? ⟨g, o, none⟩ = some v) (hne : g ≠ p) : (((((w.setCell ⟨p, 0, none⟩ v0).setCell ⟨p, 1, none⟩ v1).setCell ⟨p, 2, none⟩ v2).setCell ⟨p, 3, none⟩ v3).setCell ⟨p, 4, none⟩ v4).cell? ⟨g, o, none⟩ = some v := by
  have e : ∀ k, (⟨p, k, none⟩ : Addr) ≠ ⟨g, o, none⟩ := fun k e => hne (by cases e; rfl)
  rw [World.cell?_setCell_other _ _ _ _ (e 4), World.cell?_setCell_other _ _ _ _ (e 3), World.cell?_setCell_other _ _ _ _ (e 2), World.cell?_setCell_other _ _ _ _ (e 1), World.cell?_setCell_other _ _ _ _ (e 0)]
  exact h

abbrev sl (g : Nat) : Value := .slice (some ⟨g, 0, none⟩) 0 9
abbrev nl : Value := .slice none 0 0
abbrev put5 (w : World) (p gf gb gs : Nat) : World := ((((w.setCell ⟨p, 0, none⟩ (sl gf)).setCell ⟨p, 1, none⟩ (sl gb)).setCell ⟨p, 2, none⟩ nl).setCell ⟨p, 3, none⟩ (sl gs)).setCell ⟨p, 4, none⟩ nl

/-- the new rules stand: what there is none of has its rows -/
structure Fin5 (W wx : World) (p gf gb gs : Nat) : Prop where
  fl : VRow wx gf ((0 + 9) * 12) (Hfl.mk 0 LF) ∧ gf < wx.heap.size
  br : VRow wx gb ((0 + 9) * 7) (Hbr.mk 0 LB) ∧ gb < wx.heap.size
  sy : Row wx gs ((0 + 9) * 5) (mark5 0 F0) ∧ gs < wx.heap.size
  ne : gf ≠ p ∧ gb ≠ p ∧ gs ≠ p
  c0 : wx.cell? ⟨p, 0, none⟩ = some (sl gf)
  c1 : wx.cell? ⟨p, 1, none⟩ = some (sl gb)
  c2 : wx.cell? ⟨p, 2, none⟩ = some nl
  c3 : wx.cell? ⟨p, 3, none⟩ = some (sl gs)
  c4 : wx.cell? ⟨p, 4, none⟩ = some nl
  fz : wx.frozen? ⟨p, 4, none⟩ = false
  hp : W.heap.size ≤ p ∧ p < wx.heap.size
  new : W.heap.size ≤ gf ∧ W.heap.size ≤ gb ∧ W.heap.size ≤ gs
  bel : Below W.heap.size W wx

theorem fin_new {W w4 : World} {t : TypeId} {gf gb gs : Nat} (hb : Below W.heap.size W w4) (hf : VRow w4 gf ((0 + 9) * 12) (Hfl.mk 0 LF) ∧ gf < w4.heap.size) (hr : VRow w4 gb ((0 + 9) * 7) (Hbr.mk 0 LB) ∧ gb < w4.heap.size) (hs : Row w4 gs ((0 + 9) * 5) (mark5 0 F0) ∧ gs < w4.heap.size) (hn : W.heap.size ≤ gf ∧ W.heap.size ≤ gb ∧ W.heap.size ≤ gs) :
    Fin5 W (w4.alloc (.cells #[sl gf, sl gb, nl, sl gs, nl] t)) w4.heap.size gf gb gs :=
  have ha : Below w4.heap.size w4 (w4.alloc (.cells #[sl gf, sl gb, nl, sl gs, nl] t)) := (Below.refl _ _).alloc (Nat.le_refl _) _
  ⟨nextV hf ha, nextV hr ha, nextR hs ha, ⟨by have := hf.2; omega, by have := hr.2; omega, by have := hs.2; omega⟩, GurC.one _ _ _ rfl, GurC.one _ _ _ rfl, GurC.one _ _ _ rfl, GurC.one _ _ _ rfl, GurC.one _ _ _ rfl,
    by unfold World.frozen?; rw [heap_alloc_new]; simp, ⟨hb.size, by simp⟩, hn, hb.alloc hb.size _⟩

theorem fin_old {W w4 : World} {p gf gb gs : Nat} (hb : Below W.heap.size W w4) (hP : New0 W.heap.size w4 p) (hf : VRow w4 gf ((0 + 9) * 12) (Hfl.mk 0 LF) ∧ gf < w4.heap.size) (hr : VRow w4 gb ((0 + 9) * 7) (Hbr.mk 0 LB) ∧ gb < w4.heap.size) (hs : Row w4 gs ((0 + 9) * 5) (mark5 0 F0) ∧ gs < w4.heap.size)
    (n1 : gf ≠ p) (n2 : gb ≠ p) (n3 : gs ≠ p) (hn : W.heap.size ≤ gf ∧ W.heap.size ≤ gb ∧ W.heap.size ≤ gs) : Fin5 W (put5 w4 p gf gb gs) p gf gb gs := by
  obtain ⟨⟨hp1, hp2⟩, hc⟩ := hP
  have hw : Wr (fun z => z = p) w4 (put5 w4 p gf gb gs) := (((((Wr.refl (fun z => z = p) w4).trans (Wr.set ⟨p, 0, none⟩ _ rfl)).trans (Wr.set ⟨p, 1, none⟩ _ rfl)).trans (Wr.set ⟨p, 2, none⟩ _ rfl)).trans (Wr.set ⟨p, 3, none⟩ _ rfl)).trans (Wr.set ⟨p, 4, none⟩ _ rfl)
  have r : VRow (put5 w4 p gf gb gs) p 5 _ := ((((VRow.set (show VRow w4 p 5 (fun _ => nl) from fun j hj => hc j hj) 0 (by omega) (sl gf)).set 1 (by omega) (sl gb)).set 2 (by omega) nl).set 3 (by omega) (sl gs)).set 4 (by omega) nl
  have hB : Below W.heap.size w4 (put5 w4 p gf gb gs) := hw.below _ hb.size (fun k e => by omega)
  exact ⟨⟨hf.1.of_block (hw.block gf hf.2 n1), Nat.lt_of_lt_of_le hf.2 hw.size⟩, ⟨hr.1.of_block (hw.block gb hr.2 n2), Nat.lt_of_lt_of_le hr.2 hw.size⟩, ⟨hs.1.of_block (hw.block gs hs.2 n3), Nat.lt_of_lt_of_le hs.2 hw.size⟩, ⟨n1, n2, n3⟩,
    (r 0 (by omega)).1, (r 1 (by omega)).1, (r 2 (by omega)).1, (r 3 (by omega)).1, (r 4 (by omega)).1, (r 4 (by omega)).2, ⟨hp1, Nat.lt_of_lt_of_le hp2 hw.size⟩, hn, hb.trans hB⟩

/-- the cells of the lists handed in, one behind the other -/
def flatA (L : Nat → Au) (tg : Nat → Nat) : Nat → List Value
  | 0 => []
  | k + 1 => flatA L tg k ++ [.string (L k).res, .bool (L k).white, .slice (some ⟨tg k, 0, none⟩) (L k).ss.length ((L k).ss.length + 9)]
theorem flatA_congr {L : Nat → Au} {tg tg' : Nat → Nat} : ∀ {k : Nat}, (∀ i, i < k → tg i = tg' i) → flatA L tg k = flatA L tg' k
  | 0, _ => rfl
  | k + 1, h => by
    show flatA L tg k ++ _ = flatA L tg' k ++ _
    rw [flatA_congr (fun i hi => h i (by omega)), h k (by omega)]

structure HL (wc : World) (p : Nat) (L : Nat → Au) (k : Nat) (tg : Nat → Nat) (v : Value) (wr : World) : Prop where
  own : wr.ownsRow wc.heap.size 57 3 v k (flatA L tg k)
  cel : wr.cell? ⟨p, 4, none⟩ = some v
  frz : wr.frozen? ⟨p, 4, none⟩ = false
  txt : ∀ i, i < k → SRow wr (tg i) ((L i).ss.length + 9) (markT (L i).ss) ∧ wc.heap.size ≤ tg i ∧ tg i < wr.heap.size ∧ v.ownBlock ≠ some (tg i)
  wri : Wr (fun z => z = p) wc wr
  low : ∀ j, j < 4 → wr.cell? ⟨p, j, none⟩ = wc.cell? ⟨p, j, none⟩

/-- what HandRules gives -/
def HRpost (w : World) (n : Nat) (L : Nat → Au) (e : Ending) (w' : World) : Prop :=
  ∃ gf gb gs va vc tg B, e = .returned (.agg #[sl gf, sl gb, nl, sl gs, .slice va n vc]) ∧ (VRow w' gf ((0 + 9) * 12) (Hfl.mk 0 LF) ∧ gf < w'.heap.size) ∧ (VRow w' gb ((0 + 9) * 7) (Hbr.mk 0 LB) ∧ gb < w'.heap.size) ∧ (Row w' gs ((0 + 9) * 5) (mark5 0 F0) ∧ gs < w'.heap.size) ∧
    w'.ownsRow B 57 3 (.slice va n vc) n (flatA L tg n) ∧ (∀ i, i < n → SRow w' (tg i) ((L i).ss.length + 9) (markT (L i).ss) ∧ tg i < w'.heap.size) ∧ Below w.heap.size w w'
theorem TAt.at_ {w wx : World} {a : Option Addr} {ss : List (List UInt8)} (h : TAt w w.heap.size a ss) (hb : ∀ g, g < w.heap.size → wx.heap[g]? = w.heap[g]?) (hs : w.heap.size ≤ wx.heap.size) : TAt wx wx.heap.size a ss := fun h0 => by
  obtain ⟨g, o, ha, hg, hc⟩ := h h0
  exact ⟨g, o, ha, Nat.lt_of_lt_of_le hg hs, fun i x hx => (World.cell?_of_block (a := ⟨g, o + i, none⟩) (hb g hg)).trans (hc i x hx)⟩
theorem infoAu : (Try.prog.info? 57).map (fun i => (i.zero, i.size, i.bytes)) = some (some (.agg #[.string ⟨#[]⟩, .bool false, .slice none 0 0]), 3, 48) := by kernel_rfl

set_option maxRecDepth 20000 in
set_option maxHeartbeats 1000000 in
theorem hrules_core (a : Option Addr) (n cap : Nat) (L : Nat → Au) (w : World) (hn : n ≤ 2932031007402) (HI : Hid (AuR w a n L)) (HS : Hid (∀ i, i < n → (L i).ss.length ≤ 8796093022208)) :
    Calls Try.prog 22 #[.agg #[.slice none 0 0, .slice none 0 0, .slice none 0 0, .slice none 0 0, .slice a n cap]] w (HRpost w n L) := by
  obtain ⟨W, hW⟩ : ∃ W, (w.alloc (.cells #[.slice none 0 0, .slice none 0 0, .slice none 0 0, .slice none 0 0, .slice a n cap] 50)).alloc (.cells #[.slice none 0 0, .slice none 0 0, .slice none 0 0, .slice none 0 0, .slice none 0 0] 50) = W := ⟨_, rfl⟩
  have hbel : Below w.heap.size w W := by rw [← hW]; exact ((Below.refl _ w).alloc (Nat.le_refl _) _).alloc (by simp) _
  obtain ⟨i0, hi, hz0, hz1, hz2⟩ := info_parts infoAu
  obtain ⟨c0, c1, hsz, -⟩ := two w _ _ _ _ W hW
  have x0 : W.cell? ⟨w.heap.size, 0, none⟩ = some (.slice none 0 0) := c0 0 _ rfl
  have x1 : W.cell? ⟨w.heap.size, 1, none⟩ = some (.slice none 0 0) := c0 1 _ rfl
  have x2 : W.cell? ⟨w.heap.size, 2, none⟩ = some (.slice none 0 0) := c0 2 _ rfl
  have x3 : W.cell? ⟨w.heap.size, 3, none⟩ = some (.slice none 0 0) := c0 3 _ rfl
  have x4 : W.cell? ⟨w.heap.size, 4, none⟩ = some (.slice a n cap) := c0 4 _ rfl
  have HB := hid hbel
  have HSZ := hid hsz
  have H1 := hid (fun w => Hfl.hand none 0 0 LF w (by omega) (hid (fun h => by omega)))
  have H2 := hid (fun w => Hbr.hand none 0 0 LB w (by omega) (hid (fun h => by omega)))
  have H3 := hid (fun w => hand_sys none 0 0 F0 w (by omega) ⟨fun h => by omega, fun _ _ => by unfold F0; omega⟩)
  have HBW := hid (Below.refl W.heap.size W)
  have hwW : w.heap.size < W.heap.size := by omega
  have HZW : Hid (∀ j, j < 5 → W.cell? ⟨w.heap.size + 1, j, none⟩ = some nl ∧ W.frozen? ⟨w.heap.size + 1, j, none⟩ = false) := hid (fun j hj => ⟨c1 j nl (by rcases (by omega : j = 0 ∨ j = 1 ∨ j = 2 ∨ j = 3 ∨ j = 4) with rfl | rfl | rfl | rfl | rfl <;> rfl), by
    rw [← hW, show w.heap.size + 1 = (w.alloc (.cells #[.slice none 0 0, .slice none 0 0, .slice none 0 0, .slice none 0 0, .slice a n cap] 50)).heap.size by simp]
    unfold World.frozen?
    rw [heap_alloc_new]
    simp⟩)
  clear c0 c1 hsz hbel
  go_enter Try.func22, Try.ntmps22
  go_upto_region 1 with fail
  go_cut [3] (fun s wx => ∃ p gf gb gs, s = .pointer (some ⟨p, 0, none⟩) ∧ Fin5 W wx p gf gb gs)
  case first =>
    go_region_held3 (fun w' => w'.cell? ⟨w.heap.size, 0, none⟩ = some (.slice none 0 0) ∧ w'.cell? ⟨w.heap.size, 1, none⟩ = some (.slice none 0 0) ∧ w'.cell? ⟨w.heap.size, 2, none⟩ = some (.slice none 0 0) ∧ w'.cell? ⟨w.heap.size, 3, none⟩ = some (.slice none 0 0) ∧ w'.cell? ⟨w.heap.size, 4, none⟩ = some (.slice a n cap)) (first | go_keep | (go_split_ands; refine ⟨?_, ?_, ?_, ?_, ?_⟩ <;> exact keep5 (by assumption) (by omega)))
      (first
        | (go_at_call 42; (with_reducible refine (H1.out _).mono ?_); rintro e w4 ⟨rfl, hv, hb4, hs4⟩
           try simp only [dsz, asz] at hv hs4
           try (have HP := hid (new0_next HP.out hb4))
           try (have HP := hid (new0_drew (B := W.heap.size) hb4 (by first | exact HBW.out.size | exact Nat.le_refl _)))
           try (have HP := hid (new0_alloc (B := W.heap.size) hb4 (by first | exact HBW.out.size | exact Nat.le_refl _)))
           have x0 : w4.cell? ⟨w.heap.size, 0, none⟩ = some (.slice none 0 0) := kc hb4 (by first | exact x0 | assumption | exact kca x0 | exact kca (by assumption))
           have x1 : w4.cell? ⟨w.heap.size, 1, none⟩ = some (.slice none 0 0) := kc hb4 (by first | exact x1 | assumption | exact kca x1 | exact kca (by assumption))
           have x2 : w4.cell? ⟨w.heap.size, 2, none⟩ = some (.slice none 0 0) := kc hb4 (by first | exact x2 | assumption | exact kca x2 | exact kca (by assumption))
           have x3 : w4.cell? ⟨w.heap.size, 3, none⟩ = some (.slice none 0 0) := kc hb4 (by first | exact x3 | assumption | exact kca x3 | exact kca (by assumption))
           have x4 : w4.cell? ⟨w.heap.size, 4, none⟩ = some (.slice a n cap) := kc hb4 (by first | exact x4 | assumption | exact kca x4 | exact kca (by assumption))
           have HBW := hid (by first | exact bt HBW.out hb4 | exact bt HBW.out.drew hb4 | exact bt (HBW.out.alloc HBW.out.size _) hb4 | exact bt (HBW.out.alloc HBW.out.size _).drew hb4)
           have HFl := hid (And.intro hv hs4)
           have hl1 := hs4
           have hz1 := hb4.size
           try (have p0 := (HP.out.2 0 (by omega)).1; have p1 := (HP.out.2 1 (by omega)).1; have p2 := (HP.out.2 2 (by omega)).1; have p3 := (HP.out.2 3 (by omega)).1; have p4 := (HP.out.2 4 (by omega)).1; have q0 := (HP.out.2 0 (by omega)).2; have q1 := (HP.out.2 1 (by omega)).2; have q2 := (HP.out.2 2 (by omega)).2; have q3 := (HP.out.2 3 (by omega)).2; have q4 := (HP.out.2 4 (by omega)).2; have hpl := HP.out.1.2; have hpb := HP.out.1.1))
        | (go_at_call 43; (with_reducible refine (H2.out _).mono ?_); rintro e w4 ⟨rfl, hv, hb4, hs4⟩
           try simp only [dsz, asz] at hv hs4
           try (have HP := hid (new0_next HP.out hb4))
           try (have HP := hid (new0_drew (B := W.heap.size) hb4 (by first | exact HBW.out.size | exact Nat.le_refl _)))
           try (have HP := hid (new0_alloc (B := W.heap.size) hb4 (by first | exact HBW.out.size | exact Nat.le_refl _)))
           have x0 : w4.cell? ⟨w.heap.size, 0, none⟩ = some (.slice none 0 0) := kc hb4 (by first | exact x0 | assumption | exact kca x0 | exact kca (by assumption))
           have x1 : w4.cell? ⟨w.heap.size, 1, none⟩ = some (.slice none 0 0) := kc hb4 (by first | exact x1 | assumption | exact kca x1 | exact kca (by assumption))
           have x2 : w4.cell? ⟨w.heap.size, 2, none⟩ = some (.slice none 0 0) := kc hb4 (by first | exact x2 | assumption | exact kca x2 | exact kca (by assumption))
           have x3 : w4.cell? ⟨w.heap.size, 3, none⟩ = some (.slice none 0 0) := kc hb4 (by first | exact x3 | assumption | exact kca x3 | exact kca (by assumption))
           have x4 : w4.cell? ⟨w.heap.size, 4, none⟩ = some (.slice a n cap) := kc hb4 (by first | exact x4 | assumption | exact kca x4 | exact kca (by assumption))
           have HBW := hid (by first | exact bt HBW.out hb4 | exact bt HBW.out.drew hb4 | exact bt (HBW.out.alloc HBW.out.size _) hb4 | exact bt (HBW.out.alloc HBW.out.size _).drew hb4)
           have HFl := hid (by first | exact nextV HFl.out hb4 | exact nextV (nextV HFl.out ((Below.refl _ _).alloc (Nat.le_refl _) _)) hb4)
           have HBr := hid (And.intro hv hs4)
           have hl2 := hs4
           have hz2 := hb4.size
           try (have p0 := (HP.out.2 0 (by omega)).1; have p1 := (HP.out.2 1 (by omega)).1; have p2 := (HP.out.2 2 (by omega)).1; have p3 := (HP.out.2 3 (by omega)).1; have p4 := (HP.out.2 4 (by omega)).1; have q0 := (HP.out.2 0 (by omega)).2; have q1 := (HP.out.2 1 (by omega)).2; have q2 := (HP.out.2 2 (by omega)).2; have q3 := (HP.out.2 3 (by omega)).2; have q4 := (HP.out.2 4 (by omega)).2; have hpl := HP.out.1.2; have hpb := HP.out.1.1))
        | (go_at_call 8; (with_reducible refine (H3.out _).mono ?_); rintro e w4 ⟨rfl, hv, hb4, hs4⟩
           try simp only [dsz, asz] at hv hs4
           try (have HP := hid (new0_next HP.out hb4))
           try (have HP := hid (new0_drew (B := W.heap.size) hb4 (by first | exact HBW.out.size | exact Nat.le_refl _)))
           try (have HP := hid (new0_alloc (B := W.heap.size) hb4 (by first | exact HBW.out.size | exact Nat.le_refl _)))
           have x0 : w4.cell? ⟨w.heap.size, 0, none⟩ = some (.slice none 0 0) := kc hb4 (by first | exact x0 | assumption | exact kca x0 | exact kca (by assumption))
           have x1 : w4.cell? ⟨w.heap.size, 1, none⟩ = some (.slice none 0 0) := kc hb4 (by first | exact x1 | assumption | exact kca x1 | exact kca (by assumption))
           have x2 : w4.cell? ⟨w.heap.size, 2, none⟩ = some (.slice none 0 0) := kc hb4 (by first | exact x2 | assumption | exact kca x2 | exact kca (by assumption))
           have x3 : w4.cell? ⟨w.heap.size, 3, none⟩ = some (.slice none 0 0) := kc hb4 (by first | exact x3 | assumption | exact kca x3 | exact kca (by assumption))
           have x4 : w4.cell? ⟨w.heap.size, 4, none⟩ = some (.slice a n cap) := kc hb4 (by first | exact x4 | assumption | exact kca x4 | exact kca (by assumption))
           have HBW := hid (by first | exact bt HBW.out hb4 | exact bt HBW.out.drew hb4 | exact bt (HBW.out.alloc HBW.out.size _) hb4 | exact bt (HBW.out.alloc HBW.out.size _).drew hb4)
           have HFl := hid (by first | exact nextV HFl.out hb4 | exact nextV (nextV HFl.out ((Below.refl _ _).alloc (Nat.le_refl _) _)) hb4)
           have HBr := hid (by first | exact nextV HBr.out hb4 | exact nextV (nextV HBr.out ((Below.refl _ _).alloc (Nat.le_refl _) _)) hb4)
           have HSy := hid (And.intro hv hs4)
           have hl3 := hs4
           have hz3 := hb4.size
           try (have p0 := (HP.out.2 0 (by omega)).1; have p1 := (HP.out.2 1 (by omega)).1; have p2 := (HP.out.2 2 (by omega)).1; have p3 := (HP.out.2 3 (by omega)).1; have p4 := (HP.out.2 4 (by omega)).1; have q0 := (HP.out.2 0 (by omega)).2; have q1 := (HP.out.2 1 (by omega)).2; have q2 := (HP.out.2 2 (by omega)).2; have q3 := (HP.out.2 3 (by omega)).2; have q4 := (HP.out.2 4 (by omega)).2; have hpl := HP.out.1.2; have hpb := HP.out.1.1)))
    all_goals
      go_wp2_with fail
      go_meet
    · exact ⟨_, _, _, _, rfl, fin_new HBW.out HFl.out HBr.out HSy.out ⟨by omega, by omega, by omega⟩⟩
    · exact ⟨_, _, _, _, rfl, fin_old HBW.out HP.out HFl.out HBr.out HSy.out (by omega) (by omega) (by omega) ⟨by omega, by omega, by omega⟩⟩
    · exact ⟨_, _, _, _, rfl, fin_old HBW.out HP.out HFl.out HBr.out HSy.out (by omega) (by omega) (by omega) ⟨by omega, by omega, by omega⟩⟩
    · exact ⟨_, _, _, _, rfl, fin_old HBW.out HP.out HFl.out HBr.out HSy.out (by omega) (by omega) (by omega) ⟨by omega, by omega, by omega⟩⟩
  case rest =>
    obtain ⟨p, gf, gb, gs, rfl, hfin⟩ := hcut
    have HF5 := hid hfin
    have y2 : wc.cell? ⟨w.heap.size, 2, none⟩ = some (.slice none 0 0) := (hfin.bel.cell (p := ⟨w.heap.size, 2, none⟩) hwW).trans x2
    have y4 : wc.cell? ⟨w.heap.size, 4, none⟩ = some (.slice a n cap) := (hfin.bel.cell (p := ⟨w.heap.size, 4, none⟩) hwW).trans x4
    have HY4 := hid y4
    clear x0 x1 x2 x3 x4 hfin H1 H2 H3 y4
    go_wp2_with fail
    go_loopw [4] (fun i wr => i = .int .i64 0 ∧ wc = wr) (fun _ _ => 0)
    case atStart => exact ⟨rfl, rfl⟩
    case round =>
      obtain ⟨rfl, rfl⟩ := hrel
      go_wp2_with fail
      clear y2
      go_loopw [6] (fun i wr => ∃ (k : Nat) (tg : Nat → Nat) (v : Value), k ≤ n ∧ i = .int .i64 k ∧ HL wc p L k tg v wr) (fun i _ => n - (intOf i).toNat)
      case atStart => exact ⟨0, fun _ => 0, nl, Nat.zero_le _, rfl, ⟨⟨rfl, .inl ⟨rfl, rfl⟩⟩, HF5.out.c4, HF5.out.fz, fun i h => absurd h (by omega), Wr.refl _ _, fun _ _ => rfl⟩⟩
      case round =>
        obtain ⟨k, tg, v, hk, rfl, hl⟩ := hrel
        have HLk := hid hl
        obtain ⟨va, vc, rfl⟩ := owns_shape hl.own
        have hpp := HF5.out.hp
        have hwz := HF5.out.bel.size
        have hrz := hl.wri.size
        have hblk : ∀ g, g < w.heap.size → wr.heap[g]? = w.heap[g]? := fun g hg => (hl.wri.block g (by omega) (by omega)).trans ((HF5.out.bel.block g (by omega)).trans (HB.out.block g hg))
        have HBL := hid hblk
        have y4 : wr.cell? ⟨w.heap.size, 4, none⟩ = some (.slice a n cap) := (hl.wri.cell 4 (by omega) (by omega)).trans HY4.out
        have pc : wr.cell? ⟨p, 4, none⟩ = some (.slice va k vc) := hl.cel
        have pf : wr.frozen? ⟨p, 4, none⟩ = false := hl.frz
        clear hl hblk
        by_cases hlt : k < n
        · obtain ⟨g, o, rfl, hg, hc⟩ := HI.out.at_ (by omega)
          have c0 : wr.cell? ⟨g, o + k * 3, none⟩ = some (.string (L k).res) := (World.cell?_of_block (a := ⟨g, o + k * 3, none⟩) (HBL.out g hg)).trans (hc k hlt 0 _ rfl)
          have c1 : wr.cell? ⟨g, o + k * 3 + 1, none⟩ = some (.bool (L k).white) := (World.cell?_of_block (a := ⟨g, o + k * 3 + 1, none⟩) (HBL.out g hg)).trans (hc k hlt 1 _ rfl)
          have c2 : wr.cell? ⟨g, o + k * 3 + 2, none⟩ = some (.slice (L k).ta (L k).ss.length (L k).tc) := (World.cell?_of_block (a := ⟨g, o + k * 3 + 2, none⟩) (HBL.out g hg)).trans (hc k hlt 2 _ rfl)
          obtain ⟨wa, hwa⟩ : ∃ wa, wr.alloc (.cells #[.string (L k).res, .bool (L k).white, .slice (L k).ta (L k).ss.length (L k).tc] 57) = wa := ⟨_, rfl⟩
          have hba : Below wr.heap.size wr wa := by rw [← hwa]; exact (Below.refl _ _).alloc (Nat.le_refl _) _
          have hsa : wa.heap.size = wr.heap.size + 1 := by rw [← hwa]; simp
          have b0 : wa.cell? ⟨wr.heap.size, 0, none⟩ = some (.string (L k).res) := by rw [← hwa]; exact GurC.one _ _ _ rfl
          have b1 : wa.cell? ⟨wr.heap.size, 1, none⟩ = some (.bool (L k).white) := by rw [← hwa]; exact GurC.one _ _ _ rfl
          have b2 : wa.cell? ⟨wr.heap.size, 2, none⟩ = some (.slice (L k).ta (L k).ss.length (L k).tc) := by rw [← hwa]; exact GurC.one _ _ _ rfl
          have f2 : wa.frozen? ⟨wr.heap.size, 2, none⟩ = false := by rw [← hwa]; unfold World.frozen?; rw [heap_alloc_new]; simp
          have HX := hid (hand_texts (L k).ta (L k).tc (L k).ss wa (HS.out k hlt) (hid (TAt.at_ (HI.out.txt k hlt) (fun g hg => (hba.block g (by omega)).trans (HBL.out g hg)) (by omega))))
          have HBA := hid hba
          have HSA := hid hsa
          have HP0 := hid b0
          have HP1 := hid b1
          have HF2 := hid f2
          have HPC := hid pc
          have HPF := hid pf
          clear hba b0 b1 f2 hc hsa
          go_wp2_with fail
          refine HX.out.mono ?_
          rintro e w2 ⟨rfl, hsr, hb2, hs2⟩
          have HSR := hid hsr
          have HB2 := hid hb2
          have hs3 : wr.heap.size < wa.heap.size := by rw [HSA.out]; omega
          have b0 : w2.cell? ⟨wr.heap.size, 0, none⟩ = some (.string (L k).res) := (HB2.out.cell (p := ⟨wr.heap.size, 0, none⟩) hs3).trans HP0.out
          have b1 : w2.cell? ⟨wr.heap.size, 1, none⟩ = some (.bool (L k).white) := (HB2.out.cell (p := ⟨wr.heap.size, 1, none⟩) hs3).trans HP1.out
          have b3 : w2.cell? ⟨wr.heap.size, 2, none⟩ = some (.slice (L k).ta (L k).ss.length (L k).tc) := (HB2.out.cell (p := ⟨wr.heap.size, 2, none⟩) hs3).trans b2
          have f3 : w2.frozen? ⟨wr.heap.size, 2, none⟩ = false := (HB2.out.frozen (p := ⟨wr.heap.size, 2, none⟩) hs3).trans HF2.out
          have hpr : p < wr.heap.size := by omega
          have pc : w2.cell? ⟨p, 4, none⟩ = some (.slice va k vc) := (HB2.out.cell (p := ⟨p, 4, none⟩) (Nat.lt_trans hpr hs3)).trans ((HBA.out.cell (p := ⟨p, 4, none⟩) hpr).trans HPC.out)
          have pf : w2.frozen? ⟨p, 4, none⟩ = false := (HB2.out.frozen (p := ⟨p, 4, none⟩) (Nat.lt_trans hpr hs3)).trans ((HBA.out.frozen (p := ⟨p, 4, none⟩) hpr).trans HPF.out)
          have hpn : p ≠ wr.heap.size := by omega
          clear hsr hb2 b2
          have HFA : Hid (flatA L (fun i => if i = k then wa.heap.size else tg i) (k + 1) = flatA L tg k ++ [.string (L k).res, .bool (L k).white, .slice (some ⟨wa.heap.size, 0, none⟩) (L k).ss.length ((L k).ss.length + 9)]) := hid (by
            show flatA L _ k ++ _ = _
            rw [flatA_congr (tg := fun i => if i = k then wa.heap.size else tg i) (tg' := tg) (fun i hi => if_neg (by omega))]
            simp)
          generalize (L k).res = l0 at *
          generalize (L k).white = l1 at *
          have HO := hid HLk.out.own
          have hlo := HO.out.lt
          have hw3 : ∀ g, g < w2.heap.size → g ≠ wr.heap.size → ((w2.setCell ⟨wr.heap.size, 2, none⟩ (Value.slice (some ⟨wa.heap.size, 0, none⟩) (L k).ss.length ((L k).ss.length + 9))).alloc (.cells #[Value.string l0, Value.bool l1, (Value.slice (some ⟨wa.heap.size, 0, none⟩) (L k).ss.length ((L k).ss.length + 9))] 57)).heap[g]? = w2.heap[g]? := fun g h1 h2 =>
            ((Below.refl _ (w2.setCell ⟨wr.heap.size, 2, none⟩ (Value.slice (some ⟨wa.heap.size, 0, none⟩) (L k).ss.length ((L k).ss.length + 9)))).alloc (Nat.le_refl _) (.cells #[Value.string l0, Value.bool l1, (Value.slice (some ⟨wa.heap.size, 0, none⟩) (L k).ss.length ((L k).ss.length + 9))] 57)).block g (by simpa using h1) |>.trans ((WldF.grown_set w2 ⟨wr.heap.size, 2, none⟩ _).block g h1 (fun e => h2 (Option.some.inj e)))
          have hz3 : ((w2.setCell ⟨wr.heap.size, 2, none⟩ (Value.slice (some ⟨wa.heap.size, 0, none⟩) (L k).ss.length ((L k).ss.length + 9))).alloc (.cells #[Value.string l0, Value.bool l1, (Value.slice (some ⟨wa.heap.size, 0, none⟩) (L k).ss.length ((L k).ss.length + 9))] 57)).heap.size = w2.heap.size + 1 := by simp
          have hsw : wr.heap.size < w2.heap.size := Nat.lt_trans hs3 hs2
          have hown3 : ((w2.setCell ⟨wr.heap.size, 2, none⟩ (Value.slice (some ⟨wa.heap.size, 0, none⟩) (L k).ss.length ((L k).ss.length + 9))).alloc (.cells #[Value.string l0, Value.bool l1, (Value.slice (some ⟨wa.heap.size, 0, none⟩) (L k).ss.length ((L k).ss.length + 9))] 57)).ownsRow wc.heap.size 57 3 (.slice va k vc) k (flatA L tg k) := owns_keep HO.out (fun g hg => by
            have hgl := hlo g hg
            exact (hw3 g (by omega) (by omega)).trans ((HB2.out.block g (by omega)).trans (HBA.out.block g hgl.2)))
          have pw3 : ((w2.setCell ⟨wr.heap.size, 2, none⟩ (Value.slice (some ⟨wa.heap.size, 0, none⟩) (L k).ss.length ((L k).ss.length + 9))).alloc (.cells #[Value.string l0, Value.bool l1, (Value.slice (some ⟨wa.heap.size, 0, none⟩) (L k).ss.length ((L k).ss.length + 9))] 57)).cell? ⟨p, 4, none⟩ = some (.slice va k vc) := (World.cell?_of_block (a := ⟨p, 4, none⟩) (hw3 p (by omega) hpn)).trans pc
          have fw3 : ((w2.setCell ⟨wr.heap.size, 2, none⟩ (Value.slice (some ⟨wa.heap.size, 0, none⟩) (L k).ss.length ((L k).ss.length + 9))).alloc (.cells #[Value.string l0, Value.bool l1, (Value.slice (some ⟨wa.heap.size, 0, none⟩) (L k).ss.length ((L k).ss.length + 9))] 57)).frozen? ⟨p, 4, none⟩ = false := (World.frozen?_of_block (a := ⟨p, 4, none⟩) (hw3 p (by omega) hpn)).trans pf
          have HW3 := hid hw3
          have HZ3 := hid hz3
          have HPW := hid pw3
          have HFW := hid fw3
          clear hw3 hz3 pw3 fw3
          go_wp2_with (at_builtin; (refine wpList_append_own_at _ rfl _ _ 45 rfl wc.heap.size 57 i0 (.agg #[.string ⟨#[]⟩, .bool false, .slice none 0 0]) 3 48 Try.underlying45 hi hz0 hz1 hz2 rfl (by decide) (Value.slice va k vc) _ _ rfl hown3 ⟨w2.heap.size, 0, none⟩ 1 1 [Value.string l0, Value.bool l1, (Value.slice (some ⟨wa.heap.size, 0, none⟩) (L k).ss.length ((L k).ss.length + 9))] rfl ?d1 ?d2 ?d3 ?d4 ?d5 ?d6 ?_); rotate_left 6; intro v6 w6 hown6 hgr6 hnil6 hat6; obtain ⟨vb, vd, rfl⟩ := owns_shape hown6; have q6 : w6.cell? ⟨p, 4, none⟩ = some (.slice va k vc) := (World.cell?_of_block (a := ⟨p, 4, none⟩) (hgr6.block p (by rw [HZ3.out]; omega) (fun e => by have := (hlo p e.symm).1; omega))).trans HPW.out; have f6 : w6.frozen? ⟨p, 4, none⟩ = false := (World.frozen?_of_block (a := ⟨p, 4, none⟩) (hgr6.block p (by rw [HZ3.out]; omega) (fun e => by have := (hlo p e.symm).1; omega))).trans HFW.out)
          case d1 => rfl
          case d2 =>
            intro j u hj
            rw [Go.WideShapes.add_plain, Nat.zero_add]
            have := GurC.one (w2.setCell ⟨wr.heap.size, 2, none⟩ (Value.slice (some ⟨wa.heap.size, 0, none⟩) (L k).ss.length ((L k).ss.length + 9))) #[Value.string l0, Value.bool l1, (Value.slice (some ⟨wa.heap.size, 0, none⟩) (L k).ss.length ((L k).ss.length + 9))] 57 (k := j) (v := u) (by simpa using hj)
            simpa using this
          case d3 => simp [Value.oneCell']
          case d4 => unfold maxLen; omega
          case d5 => omega
          case d6 => simp; omega
          rw [← HFA.out] at hown6
          have hsz6 : w2.heap.size + 1 ≤ w6.heap.size := by rw [← HZ3.out]; exact hgr6.size
          have hzz : ∀ z, z < w2.heap.size → z ≠ p → z ≠ wr.heap.size → (Value.slice va k vc).ownBlock ≠ some z → (w6.setCell ⟨p, 4, none⟩ (Value.slice vb (k + 1) vd)).heap[z]? = w2.heap[z]? := fun z h1 h2 h3 h4 =>
            ((WldF.grown_set w6 ⟨p, 4, none⟩ _).block z (by omega) (fun e => h2 (Option.some.inj e))).trans ((hgr6.block z (by rw [HZ3.out]; omega) (fun e => h4 e.symm)).trans (HW3.out z h1 h3))
          have hob : ∀ z, z < w2.heap.size → (Value.slice va k vc).ownBlock ≠ some z → (Value.slice vb (k + 1) vd).ownBlock ≠ some z := fun z h1 h2 e => by
            rcases hat6 with h | h
            · exact h2 (h ▸ e)
            · rw [HZ3.out] at h
              rw [h] at e
              have := Option.some.inj e
              omega
          refine ⟨⟨k + 1, (fun i => if i = k then wa.heap.size else tg i), _, by omega, by go_num, ⟨?_, World.cell?_setCell_same _ _ _ q6, by rw [World.frozen?_setCell]; exact f6, ?_, ?_, ?_⟩⟩, by simp [intOf]; omega⟩
          · exact owns_keep hown6 (fun g hg => (WldF.grown_set w6 ⟨p, 4, none⟩ _).block g (hown6.lt g hg).2 (fun e => by
              have h1 := (hown6.lt g hg).1
              have h2 : g = p := Option.some.inj e
              omega))
          · intro i hi
            by_cases e : i = k
            · subst e
              have hne : (Value.slice va i vc).ownBlock ≠ some wa.heap.size := fun e => by have := (hlo _ e).2; omega
              rw [if_pos rfl]
              exact ⟨HSR.out.of_block (hzz _ hs2 (by omega) (by omega) hne), by omega, by simp; omega, hob _ hs2 hne⟩
            · have ht := HLk.out.txt i (by omega)
              rw [if_neg e]
              have hne := ht.2.2.2
              have hlt2 : tg i < w2.heap.size := by omega
              exact ⟨ht.1.of_block ((hzz _ hlt2 (by omega) (by omega) hne).trans ((HB2.out.block _ (by omega)).trans (HBA.out.block _ ht.2.2.1))), ht.2.1, by simp; omega, hob _ hlt2 hne⟩
          · have a1 := HLk.out.wri
            have a2 : Wr (fun z => z = p) wr wa := Wr.ofBelow HBA.out
            have a3 : Wr (fun z => z = p) wa w2 := Wr.ofBelow HB2.out
            have a4 : Wr (fun z => z = wr.heap.size) w2 (w2.setCell ⟨wr.heap.size, 2, none⟩ (Value.slice (some ⟨wa.heap.size, 0, none⟩) (L k).ss.length ((L k).ss.length + 9))) := Wr.set _ _ rfl
            have a5 : Wr (fun z => z = p) (w2.setCell ⟨wr.heap.size, 2, none⟩ (Value.slice (some ⟨wa.heap.size, 0, none⟩) (L k).ss.length ((L k).ss.length + 9))) _ := Wr.ofBelow ((Below.refl _ _).alloc (Nat.le_refl _) (.cells #[Value.string l0, Value.bool l1, (Value.slice (some ⟨wa.heap.size, 0, none⟩) (L k).ss.length ((L k).ss.length + 9))] 57))
            have a6 := Wr.ofGrown hgr6 (R := fun z => (Value.slice va k vc).ownBlock = some z) (fun z e => e)
            exact (((((a1.trans a2).trans a3).on a4 (fun z e => .inr (by omega))).trans a5).on a6 (fun z e => .inr (hlo z e).1)).trans (Wr.set ⟨p, 4, none⟩ _ rfl)
          · intro j hj
            rw [World.cell?_setCell_other _ _ _ _ (by intro e; cases e; omega), ← HLk.out.low j hj]
            exact World.cell?_of_block (a := ⟨p, j, none⟩) ((hgr6.block p (by rw [HZ3.out]; omega) (fun e => by have := (hlo p e.symm).1; omega)).trans ((HW3.out p (by omega) hpn).trans ((HB2.out.block p (by omega)).trans (HBA.out.block p hpr))))
        · obtain rfl : k = n := by omega
          have e0 : wr.cell? ⟨p, 0, none⟩ = some (sl gf) := (HLk.out.low 0 (by omega)).trans HF5.out.c0
          have e1 : wr.cell? ⟨p, 1, none⟩ = some (sl gb) := (HLk.out.low 1 (by omega)).trans HF5.out.c1
          have e2 : wr.cell? ⟨p, 2, none⟩ = some nl := (HLk.out.low 2 (by omega)).trans HF5.out.c2
          have e3 : wr.cell? ⟨p, 3, none⟩ = some (sl gs) := (HLk.out.low 3 (by omega)).trans HF5.out.c3
          have hzz := HSZ.out
          have hb2 : wr.heap[w.heap.size + 1]? = W.heap[w.heap.size + 1]? := (HLk.out.wri.block _ (by omega) (by omega)).trans (HF5.out.bel.block _ (by omega))
          have r0 : ∀ j, j < 5 → wr.cell? ⟨w.heap.size + 1, j, none⟩ = some nl ∧ wr.frozen? ⟨w.heap.size + 1, j, none⟩ = false := fun j hj => ⟨(World.cell?_of_block (a := ⟨w.heap.size + 1, j, none⟩) hb2).trans (HZW.out j hj).1, (World.frozen?_of_block (a := ⟨w.heap.size + 1, j, none⟩) hb2).trans (HZW.out j hj).2⟩
          have s0 := (r0 0 (by omega)).1
          have s1 := (r0 1 (by omega)).1
          have s2 := (r0 2 (by omega)).1
          have s3 := (r0 3 (by omega)).1
          have s4 := (r0 4 (by omega)).1
          have u0 := (r0 0 (by omega)).2
          have u1 := (r0 1 (by omega)).2
          have u2 := (r0 2 (by omega)).2
          have u3 := (r0 3 (by omega)).2
          have u4 := (r0 4 (by omega)).2
          have r : VRow (((((wr.setCell ⟨w.heap.size + 1, 0, none⟩ (sl gf)).setCell ⟨w.heap.size + 1, 1, none⟩ (sl gb)).setCell ⟨w.heap.size + 1, 2, none⟩ nl).setCell ⟨w.heap.size + 1, 3, none⟩ (sl gs)).setCell ⟨w.heap.size + 1, 4, none⟩ (.slice va k vc)) (w.heap.size + 1) 5 _ := ((((VRow.set (show VRow wr (w.heap.size + 1) 5 (fun _ => nl) from fun j hj => r0 j hj) 0 (by omega) (sl gf)).set 1 (by omega) (sl gb)).set 2 (by omega) nl).set 3 (by omega) (sl gs)).set 4 (by omega) (.slice va k vc)
          have hw : Wr (fun z => z = w.heap.size + 1) wr (((((wr.setCell ⟨w.heap.size + 1, 0, none⟩ (sl gf)).setCell ⟨w.heap.size + 1, 1, none⟩ (sl gb)).setCell ⟨w.heap.size + 1, 2, none⟩ nl).setCell ⟨w.heap.size + 1, 3, none⟩ (sl gs)).setCell ⟨w.heap.size + 1, 4, none⟩ (.slice va k vc)) := (((((Wr.refl (fun z => z = w.heap.size + 1) wr).trans (Wr.set ⟨w.heap.size + 1, 0, none⟩ _ rfl)).trans (Wr.set ⟨w.heap.size + 1, 1, none⟩ _ rfl)).trans (Wr.set ⟨w.heap.size + 1, 2, none⟩ _ rfl)).trans (Wr.set ⟨w.heap.size + 1, 3, none⟩ _ rfl)).trans (Wr.set ⟨w.heap.size + 1, 4, none⟩ _ rfl)
          have t0 : (((((wr.setCell ⟨w.heap.size + 1, 0, none⟩ (sl gf)).setCell ⟨w.heap.size + 1, 1, none⟩ (sl gb)).setCell ⟨w.heap.size + 1, 2, none⟩ nl).setCell ⟨w.heap.size + 1, 3, none⟩ (sl gs)).setCell ⟨w.heap.size + 1, 4, none⟩ (.slice va k vc)).cell? ⟨w.heap.size + 1, 0, none⟩ = some (sl gf) := (r 0 (by omega)).1
          have t1 : (((((wr.setCell ⟨w.heap.size + 1, 0, none⟩ (sl gf)).setCell ⟨w.heap.size + 1, 1, none⟩ (sl gb)).setCell ⟨w.heap.size + 1, 2, none⟩ nl).setCell ⟨w.heap.size + 1, 3, none⟩ (sl gs)).setCell ⟨w.heap.size + 1, 4, none⟩ (.slice va k vc)).cell? ⟨w.heap.size + 1, 1, none⟩ = some (sl gb) := (r 1 (by omega)).1
          have t2 : (((((wr.setCell ⟨w.heap.size + 1, 0, none⟩ (sl gf)).setCell ⟨w.heap.size + 1, 1, none⟩ (sl gb)).setCell ⟨w.heap.size + 1, 2, none⟩ nl).setCell ⟨w.heap.size + 1, 3, none⟩ (sl gs)).setCell ⟨w.heap.size + 1, 4, none⟩ (.slice va k vc)).cell? ⟨w.heap.size + 1, 2, none⟩ = some nl := (r 2 (by omega)).1
          have t3 : (((((wr.setCell ⟨w.heap.size + 1, 0, none⟩ (sl gf)).setCell ⟨w.heap.size + 1, 1, none⟩ (sl gb)).setCell ⟨w.heap.size + 1, 2, none⟩ nl).setCell ⟨w.heap.size + 1, 3, none⟩ (sl gs)).setCell ⟨w.heap.size + 1, 4, none⟩ (.slice va k vc)).cell? ⟨w.heap.size + 1, 3, none⟩ = some (sl gs) := (r 3 (by omega)).1
          have t4 : (((((wr.setCell ⟨w.heap.size + 1, 0, none⟩ (sl gf)).setCell ⟨w.heap.size + 1, 1, none⟩ (sl gb)).setCell ⟨w.heap.size + 1, 2, none⟩ nl).setCell ⟨w.heap.size + 1, 3, none⟩ (sl gs)).setCell ⟨w.heap.size + 1, 4, none⟩ (.slice va k vc)).cell? ⟨w.heap.size + 1, 4, none⟩ = some (.slice va k vc) := (r 4 (by omega)).1
          have HR0 := hid hw
          have HT := hid (And.intro t0 (And.intro t1 (And.intro t2 (And.intro t3 t4))))
          clear r0 hb2 r hw t0 t1 t2 t3 t4
          go_wp2_with fail
          obtain ⟨t0, t1, t2, t3, t4⟩ := HT.out
          have hw := HR0.out
          clear HT HR0
          generalize (((((wr.setCell ⟨w.heap.size + 1, 0, none⟩ (sl gf)).setCell ⟨w.heap.size + 1, 1, none⟩ (sl gb)).setCell ⟨w.heap.size + 1, 2, none⟩ nl).setCell ⟨w.heap.size + 1, 3, none⟩ (sl gs)).setCell ⟨w.heap.size + 1, 4, none⟩ (.slice va k vc)) = wN at *
          have hwr := HLk.out.wri.size
          have hfin := HF5.out
          have hto : ∀ z, z < wc.heap.size → z ≠ p → z ≠ w.heap.size + 1 → wN.heap[z]? = wc.heap[z]? := fun z h1 h2 h3 => (hw.block z (by omega) h3).trans (HLk.out.wri.block z h1 h2)
          refine bodyPost_ret (v := .agg #[sl gf, sl gb, nl, sl gs, .slice va k vc]) (by simp [results, Try.results22, go_sem, t0, t1, t2, t3, t4]) rfl ?_
          have hnw := hfin.new
          refine ⟨gf, gb, gs, va, vc, tg, wc.heap.size, rfl, ⟨hfin.fl.1.of_block (hto _ hfin.fl.2 hfin.ne.1 (by omega)), Nat.lt_of_lt_of_le hfin.fl.2 (Nat.le_trans hwr hw.size)⟩, ⟨hfin.br.1.of_block (hto _ hfin.br.2 hfin.ne.2.1 (by omega)), Nat.lt_of_lt_of_le hfin.br.2 (Nat.le_trans hwr hw.size)⟩, ⟨hfin.sy.1.of_block (hto _ hfin.sy.2 hfin.ne.2.2 (by omega)), Nat.lt_of_lt_of_le hfin.sy.2 (Nat.le_trans hwr hw.size)⟩, ?_, ?_, ?_⟩
          · exact owns_keep HLk.out.own (fun g hg => by
              have h1 := HLk.out.own.lt g hg
              exact hw.block g h1.2 (by omega))
          · intro i hi
            have ht := HLk.out.txt i hi
            exact ⟨ht.1.of_block (hw.block _ ht.2.2.1 (by omega)), Nat.lt_of_lt_of_le ht.2.2.1 hw.size⟩
          · exact HB.out.trans (((hfin.bel.mono (by omega)).trans (HLk.out.wri.below w.heap.size (by omega) (fun z e => by omega))).trans (hw.below w.heap.size (by omega) (fun z e => by omega)))

end Go.Proofs.Ytoilakjlnflpbaa.GulB

namespace Go.Proofs.Ytoilakjlnflpbaa.GulC
open Go.ChangeShapes Go.WideShapes Go.ChangeAt Go.RowKit Go.Deep Base WldG Wri Txt ValA Vrw Mtx GurA GulA GuaB GulB
open GurC (kc blw)
set_option linter.unusedVariables false

set_option maxRecDepth 20000 in
set_option maxHeartbeats 1000000 in
theorem sauth_any (r : ByteArray) (wh : Bool) (a a' : Option Addr) (c c' : Nat) (ss : List (List UInt8)) (w : World) (hn : ss.length ≤ 9223372036854775807) (H : TAt w w.heap.size a ss) (H' : TAt w w.heap.size a' ss) :
    Calls Try.prog 72 #[.agg #[.string r, .bool wh, .slice a ss.length c], .agg #[.string r, .bool wh, .slice a' ss.length c']] w fun e w' => e = .returned (.bool true) ∧ Below w.heap.size w w' := by
  obtain ⟨W, hW⟩ : ∃ W, (w.alloc (.cells #[.string r, .bool wh, .slice a ss.length c] 57)).alloc (.cells #[.string r, .bool wh, .slice a' ss.length c'] 57) = W := ⟨_, rfl⟩
  have hbel : Below w.heap.size w W := by rw [← hW]; exact ((Below.refl _ w).alloc (Nat.le_refl _) _).alloc (by simp) _
  obtain ⟨c0, c1, hsz, -⟩ := two w _ _ _ _ W hW
  have x0 : W.cell? ⟨w.heap.size, 0, none⟩ = some (.string r) := c0 0 _ rfl
  have x1 : W.cell? ⟨w.heap.size, 1, none⟩ = some (.bool wh) := c0 1 _ rfl
  have x2 : W.cell? ⟨w.heap.size, 2, none⟩ = some (.slice a ss.length c) := c0 2 _ rfl
  have y0 : W.cell? ⟨w.heap.size + 1, 0, none⟩ = some (.string r) := c1 0 _ rfl
  have y1 : W.cell? ⟨w.heap.size + 1, 1, none⟩ = some (.bool wh) := c1 1 _ rfl
  have y2 : W.cell? ⟨w.heap.size + 1, 2, none⟩ = some (.slice a' ss.length c') := c1 2 _ rfl
  have HS := hid (stexts_any a a' c c' ss W hn (LisC.TAt.low H hbel) (LisC.TAt.low H' hbel))
  have HB := hid hbel
  clear hbel c0 c1 hsz H H'
  cases wh <;> (
    go_enter Try.func72, Try.ntmps72
    go_wp2_with fail
    refine HS.out.mono ?_
    rintro e w1 ⟨rfl, m, hm⟩
    have HB1 : Hid (Below w.heap.size w w1) := hid (by rw [← hm]; exact belN HB.out m)
    clear hm HS
    go_wp2_with fail
    go_ret
    exact ⟨rfl, HB1.out⟩)

theorem dheap (w : World) : w.drew.heap = w.heap := rfl
/-- the copies: the same, but for where their origins lie -/
def cp (L : Nat → Au) (tg : Nat → Nat) : Nat → Au := fun i => ⟨(L i).res, (L i).white, some ⟨tg i, 0, none⟩, (L i).ss.length + 9, (L i).ss⟩

set_option maxRecDepth 20000 in
set_option maxHeartbeats 2000000 in
theorem srules_any (gf gb gs : Nat) (va a : Option Addr) (n vc cap : Nat) (L : Nat → Au) (tg : Nat → Nat) (w : World) (hn : n ≤ 9223372036854775807) (HC : Hid (AuR w va n (cp L tg))) (HI : Hid (AuR w a n L)) :
    Calls Try.prog 51 #[.agg #[sl gf, sl gb, nl, sl gs, .slice va n vc], .agg #[nl, nl, nl, nl, .slice a n cap]] w fun e w' => e = .returned (.bool true) ∧ Below w.heap.size w w' := by
  obtain ⟨W, hW⟩ : ∃ W, (w.alloc (.cells #[sl gf, sl gb, nl, sl gs, .slice va n vc] 50)).alloc (.cells #[nl, nl, nl, nl, .slice a n cap] 50) = W := ⟨_, rfl⟩
  have hbel : Below w.heap.size w W := by rw [← hW]; exact ((Below.refl _ w).alloc (Nat.le_refl _) _).alloc (by simp) _
  obtain ⟨c0, c1, hsz, -⟩ := two w _ _ _ _ W hW
  have x0 : W.cell? ⟨w.heap.size, 0, none⟩ = some (sl gf) := c0 0 _ rfl
  have x1 : W.cell? ⟨w.heap.size, 1, none⟩ = some (sl gb) := c0 1 _ rfl
  have x2 : W.cell? ⟨w.heap.size, 2, none⟩ = some nl := c0 2 _ rfl
  have x3 : W.cell? ⟨w.heap.size, 3, none⟩ = some (sl gs) := c0 3 _ rfl
  have x4 : W.cell? ⟨w.heap.size, 4, none⟩ = some (.slice va n vc) := c0 4 _ rfl
  have y0 : W.cell? ⟨w.heap.size + 1, 0, none⟩ = some nl := c1 0 _ rfl
  have y1 : W.cell? ⟨w.heap.size + 1, 1, none⟩ = some nl := c1 1 _ rfl
  have y2 : W.cell? ⟨w.heap.size + 1, 2, none⟩ = some nl := c1 2 _ rfl
  have y3 : W.cell? ⟨w.heap.size + 1, 3, none⟩ = some nl := c1 3 _ rfl
  have y4 : W.cell? ⟨w.heap.size + 1, 4, none⟩ = some (.slice a n cap) := c1 4 _ rfl
  have H1 := hid (fun w => Hfl.same_none (some ⟨gf, 0, none⟩) none 9 0 w)
  have H2 := hid (fun w => Hbr.same_none (some ⟨gb, 0, none⟩) none 9 0 w)
  have H3 := hid (fun w => GurB.ssys_none (some ⟨gs, 0, none⟩) none 9 0 w)
  have HC1 := hid (HC.out.below hbel)
  have HI1 := hid (HI.out.below hbel)
  have HB := hid hbel
  have HX4 := hid x4
  have HY4 := hid y4
  clear hbel c0 c1 HC HI
  go_enter Try.func51, Try.ntmps51
  go_wp2_with fail
  refine (H1.out _).mono ?_
  rintro e w1 ⟨rfl, m1, rfl⟩
  go_wp2_with fail
  refine (H2.out _).mono ?_
  rintro e w2 ⟨rfl, m2, rfl⟩
  go_wp2_with fail
  refine (H3.out _).mono ?_
  rintro e w3 ⟨rfl, m3, rfl⟩
  go_wp2_with fail
  have HBS := hid (belN (Below.refl W.heap.size W) (m1 + m2 + m3))
  go_loopw [5] (fun i wr => i = .int .i64 0 ∧ Below W.heap.size W wr) (fun _ _ => 0)
  case atStart => exact ⟨rfl, HBS.out⟩
  case round =>
    obtain ⟨rfl, hwc⟩ := hrel
    have z2 : wr.cell? ⟨w.heap.size, 2, none⟩ = some nl := (hwc.cell (p := ⟨w.heap.size, 2, none⟩) (World.block_lt_of_cell? _ _ x2)).trans x2
    have HWC := hid hwc
    clear hwc x0 x1 x2 x3 x4 y0 y1 y2 y3 y4 HBS
    go_wp2_with fail
    clear z2
    go_loopw [6] (fun i wr => ∃ k : Nat, k ≤ n ∧ i = .int .i64 k ∧ Below W.heap.size W wr) (fun i _ => n - (intOf i).toNat)
    case atStart => exact ⟨0, Nat.zero_le _, rfl, HWC.out⟩
    case round =>
      obtain ⟨k, hk, rfl, hb⟩ := hrel
      have HBk := hid hb
      have z4 : wr.cell? ⟨w.heap.size, 4, none⟩ = some (.slice va n vc) := (hb.cell (p := ⟨w.heap.size, 4, none⟩) (World.block_lt_of_cell? _ _ HX4.out)).trans HX4.out
      have t4 : wr.cell? ⟨w.heap.size + 1, 4, none⟩ = some (.slice a n cap) := (hb.cell (p := ⟨w.heap.size + 1, 4, none⟩) (World.block_lt_of_cell? _ _ HY4.out)).trans HY4.out
      have HCk := hid (HC1.out.below hb)
      have HIk := hid (HI1.out.below hb)
      clear hb
      by_cases hlt : k < n
      · obtain ⟨g, o, rfl, hg, hc⟩ := HCk.out.at_ (by omega)
        obtain ⟨g', o', rfl, hg', hc'⟩ := HIk.out.at_ (by omega)
        have a0 : wr.cell? ⟨g, o + k * 3, none⟩ = some (.string (L k).res) := hc k hlt 0 _ rfl
        have a1 : wr.cell? ⟨g, o + k * 3 + 1, none⟩ = some (.bool (L k).white) := hc k hlt 1 _ rfl
        have a2 : wr.cell? ⟨g, o + k * 3 + 2, none⟩ = some (.slice (some ⟨tg k, 0, none⟩) (L k).ss.length ((L k).ss.length + 9)) := hc k hlt 2 _ rfl
        have b0 : wr.cell? ⟨g', o' + k * 3, none⟩ = some (.string (L k).res) := hc' k hlt 0 _ rfl
        have b1 : wr.cell? ⟨g', o' + k * 3 + 1, none⟩ = some (.bool (L k).white) := hc' k hlt 1 _ rfl
        have b2 : wr.cell? ⟨g', o' + k * 3 + 2, none⟩ = some (.slice (L k).ta (L k).ss.length (L k).tc) := hc' k hlt 2 _ rfl
        have HA := hid (fun wx (hx : wx.heap = wr.heap) => sauth_any (L k).res (L k).white (some ⟨tg k, 0, none⟩) (L k).ta ((L k).ss.length + 9) (L k).tc (L k).ss wx (HI1.out.fit k hlt).2.1 (GuaD.TAt.heap (by rw [hx]; exact HCk.out.txt k hlt) hx) (GuaD.TAt.heap (by rw [hx]; exact HIk.out.txt k hlt) hx))
        clear hc hc'
        generalize (L k).res = l0 at *
        generalize (L k).white = l1 at *
        generalize (L k).ta = l2 at *
        generalize (L k).ss.length = l3 at *
        generalize (L k).tc = l4 at *
        go_upto_region 11 with fail
        go_cut [84] (fun s wx => s = .bool false ∧ Below W.heap.size W wx)
        case first =>
          go_region_held3 (fun w' => w'.cell? ⟨w.heap.size, 4, none⟩ = some (.slice (some ⟨g, o, none⟩) n vc) ∧ w'.cell? ⟨w.heap.size + 1, 4, none⟩ = some (.slice (some ⟨g', o', none⟩) n cap) ∧ w'.cell? ⟨g, o + k * 3, none⟩ = some (.string l0) ∧ w'.cell? ⟨g, o + k * 3 + 1, none⟩ = some (.bool l1) ∧ w'.cell? ⟨g, o + k * 3 + 2, none⟩ = some (.slice (some ⟨tg k, 0, none⟩) l3 (l3 + 9)) ∧ w'.cell? ⟨g', o' + k * 3, none⟩ = some (.string l0) ∧ w'.cell? ⟨g', o' + k * 3 + 1, none⟩ = some (.bool l1) ∧ w'.cell? ⟨g', o' + k * 3 + 2, none⟩ = some (.slice l2 l3 l4)) (go_keep)
            (first
              | (go_at_call 72; (with_reducible refine (HA.out _ (by first | exact rfl | exact dheap _)).mono ?_); rintro e w4 ⟨rfl, hb4⟩
                 have z4 : w4.cell? ⟨w.heap.size, 4, none⟩ = some (.slice (some ⟨g, o, none⟩) n vc) := kc hb4 (by first | exact z4 | assumption)
                 have t4 : w4.cell? ⟨w.heap.size + 1, 4, none⟩ = some (.slice (some ⟨g', o', none⟩) n cap) := kc hb4 (by first | exact t4 | assumption)
                 have a0 : w4.cell? ⟨g, o + k * 3, none⟩ = some (.string l0) := kc hb4 (by first | exact a0 | assumption)
                 have a1 : w4.cell? ⟨g, o + k * 3 + 1, none⟩ = some (.bool l1) := kc hb4 (by first | exact a1 | assumption)
                 have a2 : w4.cell? ⟨g, o + k * 3 + 2, none⟩ = some (.slice (some ⟨tg k, 0, none⟩) l3 (l3 + 9)) := kc hb4 (by first | exact a2 | assumption)
                 have b0 : w4.cell? ⟨g', o' + k * 3, none⟩ = some (.string l0) := kc hb4 (by first | exact b0 | assumption)
                 have b1 : w4.cell? ⟨g', o' + k * 3 + 1, none⟩ = some (.bool l1) := kc hb4 (by first | exact b1 | assumption)
                 have b2 : w4.cell? ⟨g', o' + k * 3 + 2, none⟩ = some (.slice l2 l3 l4) := kc hb4 (by first | exact b2 | assumption)
                 have HBk := hid (by first | exact bt HBk.out hb4 | exact bt HBk.out.drew hb4)))
          all_goals
            go_wp2_with fail
            go_meet
            exact ⟨by simp, HBk.out⟩
        case rest =>
          obtain ⟨rfl, hbx⟩ := hcut
          have HBX := hid hbx
          clear hbx z4 t4 a0 a1 a2 b0 b1 b2
          go_wp2_with fail
          go_roundw
          case rel => exact ⟨k + 1, by omega, by go_num, HBX.out⟩
          case measure => simp [intOf]; omega
      · obtain rfl : k = n := by omega
        go_wp2_with fail
        go_ret
        exact ⟨rfl, HB.out.trans (HBk.out.mono HB.out.size)⟩

end Go.Proofs.Ytoilakjlnflpbaa.GulC

namespace Go.Proofs.Ytoilakjlnflpbaa.GulD
open Go.ChangeShapes Go.WideShapes Go.ChangeAt Go.RowKit Go.Deep Base WldG Wri Txt ValA Vrw Mtx GurA GulA GuaB GulB GulC
open GurC (kc blw)
set_option linter.unusedVariables false

set_option maxRecDepth 20000 in
set_option maxHeartbeats 2000000 in
theorem krules_any (gf gb gs : Nat) (va a : Option Addr) (n vc cap : Nat) (L : Nat → Au) (tg : Nat → Nat) (w : World) (hn : n ≤ 9223372036854775807) (hss : ∀ i, i < n → (L i).ss.length ≤ 8796093022208) (HC : Hid (AuR w va n (cp L tg))) (HI : Hid (AuR w a n L)) (hf : VRow w gf ((0 + 9) * 12) (Hfl.mk 0 LF) ∧ gf < w.heap.size) (hg : VRow w gb ((0 + 9) * 7) (Hbr.mk 0 LB) ∧ gb < w.heap.size) (hs : Row w gs ((0 + 9) * 5) (mark5 0 F0) ∧ gs < w.heap.size) (ht : ∀ i, i < n → SRow w (tg i) ((L i).ss.length + 9) (markT (L i).ss) ∧ tg i < w.heap.size) :
    Calls Try.prog 27 #[.agg #[sl gf, sl gb, nl, sl gs, .slice va n vc], .agg #[nl, nl, nl, nl, .slice a n cap]] w fun e w' => e = .returned (.bool true) ∧ Below w.heap.size w w' := by
  obtain ⟨W, hW⟩ : ∃ W, (w.alloc (.cells #[sl gf, sl gb, nl, sl gs, .slice va n vc] 50)).alloc (.cells #[nl, nl, nl, nl, .slice a n cap] 50) = W := ⟨_, rfl⟩
  have hbel : Below w.heap.size w W := by rw [← hW]; exact ((Below.refl _ w).alloc (Nat.le_refl _) _).alloc (by simp) _
  obtain ⟨c0, c1, hsz, -⟩ := two w _ _ _ _ W hW
  have x0 : W.cell? ⟨w.heap.size, 0, none⟩ = some (sl gf) := c0 0 _ rfl
  have x1 : W.cell? ⟨w.heap.size, 1, none⟩ = some (sl gb) := c0 1 _ rfl
  have x2 : W.cell? ⟨w.heap.size, 2, none⟩ = some nl := c0 2 _ rfl
  have x3 : W.cell? ⟨w.heap.size, 3, none⟩ = some (sl gs) := c0 3 _ rfl
  have x4 : W.cell? ⟨w.heap.size, 4, none⟩ = some (.slice va n vc) := c0 4 _ rfl
  have y0 : W.cell? ⟨w.heap.size + 1, 0, none⟩ = some nl := c1 0 _ rfl
  have y1 : W.cell? ⟨w.heap.size + 1, 1, none⟩ = some nl := c1 1 _ rfl
  have y2 : W.cell? ⟨w.heap.size + 1, 2, none⟩ = some nl := c1 2 _ rfl
  have y3 : W.cell? ⟨w.heap.size + 1, 3, none⟩ = some nl := c1 3 _ rfl
  have y4 : W.cell? ⟨w.heap.size + 1, 4, none⟩ = some (.slice a n cap) := c1 4 _ rfl
  have H0 := hid (fun wx (hx : Below W.heap.size W wx) => srules_any gf gb gs va a n vc cap L tg wx hn (hid ((HC.out.below hbel).below hx)) (hid ((HI.out.below hbel).below hx)))
  have H1 := hid (fun wx (hx : Below W.heap.size W wx) => Hfl.kept none gf 0 0 LF wx (by omega) (fun h => by omega) (nextV (nextV hf hbel) hx).1)
  have H2 := hid (fun wx (hx : Below W.heap.size W wx) => Hbr.kept none gb 0 0 LB wx (by omega) (fun h => by omega) (nextV (nextV hg hbel) hx).1)
  have H3 := hid (fun wx (hx : Below W.heap.size W wx) => GurB.kept_sys none gs 0 0 F0 wx (by omega) ⟨fun h => by omega, fun _ _ => by unfold F0; omega⟩ (nextR (nextR hs hbel) hx).1)
  have HSS := hid hss
  have HT1 : Hid (∀ i, i < n → SRow W (tg i) ((L i).ss.length + 9) (markT (L i).ss) ∧ tg i < W.heap.size) := hid (fun i hi => ⟨(ht i hi).1.of_block (hbel.block _ (ht i hi).2), Nat.lt_of_lt_of_le (ht i hi).2 hbel.size⟩)
  have HC1 := hid (HC.out.below hbel)
  have HI1 := hid (HI.out.below hbel)
  have HB := hid hbel
  have HX4 := hid x4
  have HY4 := hid y4
  have HY2 := hid y2
  clear hbel c0 c1 HC HI
  go_enter Try.func27, Try.ntmps27
  go_wp2_with fail
  refine (H0.out _ (Below.refl _ _)).mono ?_
  rintro e w1 ⟨rfl, hb1⟩
  have HB1 := hid hb1
  have x0 : w1.cell? ⟨w.heap.size, 0, none⟩ = some (sl gf) := (HB1.out.cell (p := ⟨w.heap.size, 0, none⟩) (World.block_lt_of_cell? _ _ x0)).trans x0
  have x1 : w1.cell? ⟨w.heap.size, 1, none⟩ = some (sl gb) := (HB1.out.cell (p := ⟨w.heap.size, 1, none⟩) (World.block_lt_of_cell? _ _ x1)).trans x1
  have x2 : w1.cell? ⟨w.heap.size, 2, none⟩ = some nl := (HB1.out.cell (p := ⟨w.heap.size, 2, none⟩) (World.block_lt_of_cell? _ _ x2)).trans x2
  have x3 : w1.cell? ⟨w.heap.size, 3, none⟩ = some (sl gs) := (HB1.out.cell (p := ⟨w.heap.size, 3, none⟩) (World.block_lt_of_cell? _ _ x3)).trans x3
  have x4 : w1.cell? ⟨w.heap.size, 4, none⟩ = some (.slice va n vc) := (HB1.out.cell (p := ⟨w.heap.size, 4, none⟩) (World.block_lt_of_cell? _ _ x4)).trans x4
  have y0 : w1.cell? ⟨w.heap.size + 1, 0, none⟩ = some nl := (HB1.out.cell (p := ⟨w.heap.size + 1, 0, none⟩) (World.block_lt_of_cell? _ _ y0)).trans y0
  have y1 : w1.cell? ⟨w.heap.size + 1, 1, none⟩ = some nl := (HB1.out.cell (p := ⟨w.heap.size + 1, 1, none⟩) (World.block_lt_of_cell? _ _ y1)).trans y1
  have y2 : w1.cell? ⟨w.heap.size + 1, 2, none⟩ = some nl := (HB1.out.cell (p := ⟨w.heap.size + 1, 2, none⟩) (World.block_lt_of_cell? _ _ y2)).trans y2
  have y3 : w1.cell? ⟨w.heap.size + 1, 3, none⟩ = some nl := (HB1.out.cell (p := ⟨w.heap.size + 1, 3, none⟩) (World.block_lt_of_cell? _ _ y3)).trans y3
  have y4 : w1.cell? ⟨w.heap.size + 1, 4, none⟩ = some (.slice a n cap) := (HB1.out.cell (p := ⟨w.heap.size + 1, 4, none⟩) (World.block_lt_of_cell? _ _ y4)).trans y4
  clear hb1
  go_wp2_with fail
  refine (H1.out _ HB1.out).mono ?_
  rintro e w2 ⟨rfl, m1, rfl⟩
  go_wp2_with fail
  refine (H2.out _ (belN HB1.out _)).mono ?_
  rintro e w3 ⟨rfl, m2, rfl⟩
  go_wp2_with fail
  refine (H3.out _ (belN HB1.out _)).mono ?_
  rintro e w4 ⟨rfl, m3, rfl⟩
  go_wp2_with fail
  have HBS := hid (belN HB1.out (m1 + m2 + m3))
  go_loopw [5] (fun i wr => i = .int .i64 0 ∧ Below W.heap.size W wr) (fun _ _ => 0)
  case atStart => exact ⟨rfl, HBS.out⟩
  case round =>
    obtain ⟨rfl, hwc⟩ := hrel
    have z2 : wr.cell? ⟨w.heap.size + 1, 2, none⟩ = some nl := (hwc.cell (p := ⟨w.heap.size + 1, 2, none⟩) (World.block_lt_of_cell? _ _ HY2.out)).trans HY2.out
    have HWC := hid hwc
    clear hwc x0 x1 x2 x3 x4 y0 y1 y2 y3 y4 HBS
    go_wp2_with fail
    clear z2
    go_loopw [6] (fun i wr => ∃ k : Nat, k ≤ n ∧ i = .int .i64 k ∧ Below W.heap.size W wr) (fun i _ => n - (intOf i).toNat)
    case atStart => exact ⟨0, Nat.zero_le _, rfl, HWC.out⟩
    case round =>
      obtain ⟨k, hk, rfl, hb⟩ := hrel
      have HBk := hid hb
      have z4 : wr.cell? ⟨w.heap.size, 4, none⟩ = some (.slice va n vc) := (hb.cell (p := ⟨w.heap.size, 4, none⟩) (World.block_lt_of_cell? _ _ HX4.out)).trans HX4.out
      have t4 : wr.cell? ⟨w.heap.size + 1, 4, none⟩ = some (.slice a n cap) := (hb.cell (p := ⟨w.heap.size + 1, 4, none⟩) (World.block_lt_of_cell? _ _ HY4.out)).trans HY4.out
      have HCk := hid (HC1.out.below hb)
      have HIk := hid (HI1.out.below hb)
      clear hb
      by_cases hlt : k < n
      · obtain ⟨g, o, rfl, hg, hc⟩ := HCk.out.at_ (by omega)
        obtain ⟨g', o', rfl, hg', hc'⟩ := HIk.out.at_ (by omega)
        have a0 : wr.cell? ⟨g, o + k * 3, none⟩ = some (.string (L k).res) := hc k hlt 0 _ rfl
        have a1 : wr.cell? ⟨g, o + k * 3 + 1, none⟩ = some (.bool (L k).white) := hc k hlt 1 _ rfl
        have a2 : wr.cell? ⟨g, o + k * 3 + 2, none⟩ = some (.slice (some ⟨tg k, 0, none⟩) (L k).ss.length ((L k).ss.length + 9)) := hc k hlt 2 _ rfl
        have b0 : wr.cell? ⟨g', o' + k * 3, none⟩ = some (.string (L k).res) := hc' k hlt 0 _ rfl
        have b1 : wr.cell? ⟨g', o' + k * 3 + 1, none⟩ = some (.bool (L k).white) := hc' k hlt 1 _ rfl
        have b2 : wr.cell? ⟨g', o' + k * 3 + 2, none⟩ = some (.slice (L k).ta (L k).ss.length (L k).tc) := hc' k hlt 2 _ rfl
        have hse := HT1.out k hlt
        have HA := hid (fun wx (hx : wx.heap = wr.heap) => kept_texts (L k).ta (tg k) (L k).tc (L k).ss wx (HSS.out k hlt) (by rw [hx]; exact Nat.lt_of_lt_of_le hse.2 HBk.out.size) (GuaD.TAt.heap (by rw [hx]; exact HIk.out.txt k hlt) hx) (hse.1.of_block (by rw [hx]; exact HBk.out.block _ hse.2)))
        clear hse
        clear hc hc'
        generalize (L k).res = l0 at *
        generalize (L k).white = l1 at *
        generalize (L k).ta = l2 at *
        generalize (L k).ss.length = l3 at *
        generalize (L k).tc = l4 at *
        go_upto_region 11 with fail
        go_cut [76] (fun s wx => s = .bool false ∧ Below W.heap.size W wx)
        case first =>
          go_region_held3 (fun w' => w'.cell? ⟨w.heap.size, 4, none⟩ = some (.slice (some ⟨g, o, none⟩) n vc) ∧ w'.cell? ⟨w.heap.size + 1, 4, none⟩ = some (.slice (some ⟨g', o', none⟩) n cap) ∧ w'.cell? ⟨g, o + k * 3, none⟩ = some (.string l0) ∧ w'.cell? ⟨g, o + k * 3 + 1, none⟩ = some (.bool l1) ∧ w'.cell? ⟨g, o + k * 3 + 2, none⟩ = some (.slice (some ⟨tg k, 0, none⟩) l3 (l3 + 9)) ∧ w'.cell? ⟨g', o' + k * 3, none⟩ = some (.string l0) ∧ w'.cell? ⟨g', o' + k * 3 + 1, none⟩ = some (.bool l1) ∧ w'.cell? ⟨g', o' + k * 3 + 2, none⟩ = some (.slice l2 l3 l4)) (go_keep)
            (first
              | (go_at_call 55; (with_reducible refine (HA.out _ (by first | exact rfl | exact dheap _)).mono ?_); rintro e w4 ⟨rfl, hb4⟩
                 have z4 : w4.cell? ⟨w.heap.size, 4, none⟩ = some (.slice (some ⟨g, o, none⟩) n vc) := kc hb4 (by first | exact z4 | assumption)
                 have t4 : w4.cell? ⟨w.heap.size + 1, 4, none⟩ = some (.slice (some ⟨g', o', none⟩) n cap) := kc hb4 (by first | exact t4 | assumption)
                 have a0 : w4.cell? ⟨g, o + k * 3, none⟩ = some (.string l0) := kc hb4 (by first | exact a0 | assumption)
                 have a1 : w4.cell? ⟨g, o + k * 3 + 1, none⟩ = some (.bool l1) := kc hb4 (by first | exact a1 | assumption)
                 have a2 : w4.cell? ⟨g, o + k * 3 + 2, none⟩ = some (.slice (some ⟨tg k, 0, none⟩) l3 (l3 + 9)) := kc hb4 (by first | exact a2 | assumption)
                 have b0 : w4.cell? ⟨g', o' + k * 3, none⟩ = some (.string l0) := kc hb4 (by first | exact b0 | assumption)
                 have b1 : w4.cell? ⟨g', o' + k * 3 + 1, none⟩ = some (.bool l1) := kc hb4 (by first | exact b1 | assumption)
                 have b2 : w4.cell? ⟨g', o' + k * 3 + 2, none⟩ = some (.slice l2 l3 l4) := kc hb4 (by first | exact b2 | assumption)
                 have HBk := hid (by first | exact bt HBk.out hb4 | exact bt HBk.out.drew hb4)))
          all_goals
            go_wp2_with fail
            go_meet
            exact ⟨by simp, HBk.out⟩
        case rest =>
          obtain ⟨rfl, hbx⟩ := hcut
          have HBX := hid hbx
          clear hbx z4 t4 a0 a1 a2 b0 b1 b2
          go_wp2_with fail
          go_roundw
          case rel => exact ⟨k + 1, by omega, by go_num, HBX.out⟩
          case measure => simp [intOf]; omega
      · obtain rfl : k = n := by omega
        go_wp2_with fail
        go_ret
        exact ⟨rfl, HB.out.trans (HBk.out.mono HB.out.size)⟩

end Go.Proofs.Ytoilakjlnflpbaa.GulD

namespace Go.Proofs.Ytoilakjlnflpbaa.GulE
open Go.ChangeShapes Go.WideShapes Go.ChangeAt Go.RowKit Go.Deep Base WldG Wri Txt ValA Vrw Mtx GurA GulA GuaA GuaB GuaD GuaE GulB GulC GulD
open GurC (kc blw firstN)
set_option linter.unusedVariables false

theorem flatA_len (L : Nat → Au) (tg : Nat → Nat) : ∀ n, (flatA L tg n).length = n * 3
  | 0 => rfl
  | n + 1 => by
    show (flatA L tg n ++ _).length = _
    rw [List.length_append, flatA_len L tg n]
    simp
    omega
theorem flatA_get (L : Nat → Au) (tg : Nat → Nat) : ∀ {n i : Nat} (j : Nat) {v : Value}, i < n → j < 3 → (av (cp L tg i))[j]? = some v → (flatA L tg n)[i * 3 + j]? = some v
  | n + 1, i, j, v, hi, hj, hv => by
    show (flatA L tg n ++ _)[i * 3 + j]? = _
    by_cases h : i < n
    · rw [List.getElem?_append_left (by rw [flatA_len]; omega)]
      exact flatA_get L tg j h hj hv
    · obtain rfl : i = n := by omega
      rw [List.getElem?_append_right (by rw [flatA_len]; omega), flatA_len, show i * 3 + j - i * 3 = j by omega]
      exact hv

theorem copies {w : World} {B : Nat} {e : TypeId} {va : Option Addr} {vc n : Nat} {L : Nat → Au} {tg : Nat → Nat} (h : w.ownsRow B e 3 (.slice va n vc) n (flatA L tg n)) (ht : ∀ i, i < n → SRow w (tg i) ((L i).ss.length + 9) (markT (L i).ss) ∧ tg i < w.heap.size)
    (hf : ∀ i, i < n → (L i).res.size ≤ maxLen ∧ (L i).ss.length ≤ 9223372036854775807 ∧ ∀ x ∈ (L i).ss, x.length ≤ maxLen) : AuR w va n (cp L tg) := by
  refine ⟨fun h0 => ?_, fun i hi => (ht i hi).1.tat (by omega) (ht i hi).2, hf⟩
  have hlt := h.lt
  obtain ⟨hl, h2⟩ := h
  rcases h2 with ⟨_, rfl⟩ | ⟨g, c, cur, he, hg, hh, hc, hm, hs, hcur⟩
  · omega
  · cases he
    refine ⟨g, 0, rfl, (hlt g rfl).2, fun i hi j v hv => ?_⟩
    have hj : j < 3 := (List.getElem?_eq_some_iff.1 hv).1
    have h1 : (cur.toList.take (n * 3))[i * 3 + j]? = (flatA L tg n)[i * 3 + j]? := by rw [hcur]
    rw [List.getElem?_take, if_pos (by omega), flatA_get L tg j hi hj hv] at h1
    have e : cur[i * 3 + j]? = some v := by rw [← Array.getElem?_toList, h1]
    rw [show 0 + i * 3 + j = i * 3 + j by omega]
    simp [World.cell?, hh, e]

set_option maxRecDepth 20000 in
set_option maxHeartbeats 4000000 in
theorem lists_core (a : Option Addr) (n cap : Nat) (L : Nat → Au) (res o : ByteArray) (w : World) (hn : n ≤ 2932031007402) (hss : ∀ i, i < n → (L i).ss.length ≤ 8796093022208) (HI : Hid (AuR w a n L)) :
    Calls Try.prog 5 #[.slice a n cap, .string res, .string o] w fun e w' => e = .returned (.bool true) ∧ Below w.heap.size w w' := by
  have HSS := hid hss
  have HL := hid live_any
  have H0 := hid (hrules_core a n cap L w hn HI (hid hss))
  unfold Ret at HL
  clear hss
  go_enter Try.func5, Try.ntmps5
  go_wp2_with fail
  refine H0.out.mono ?_
  rintro e w1 ⟨gf, gb, gs, va, vc, tg, B, rfl, hfl, hbr, hsy, hown, htx, hb1⟩
  obtain ⟨W, hW⟩ : ∃ W, w1.alloc (.cells #[sl gf, sl gb, nl, sl gs, .slice va n vc] 50) = W := ⟨_, rfl⟩
  have hba : Below w1.heap.size w1 W := by rw [← hW]; exact (Below.refl _ _).alloc (Nat.le_refl _) _
  have x0 : W.cell? ⟨w1.heap.size, 0, none⟩ = some (sl gf) := by rw [← hW]; exact GurC.one _ _ _ rfl
  have x1 : W.cell? ⟨w1.heap.size, 1, none⟩ = some (sl gb) := by rw [← hW]; exact GurC.one _ _ _ rfl
  have x2 : W.cell? ⟨w1.heap.size, 2, none⟩ = some nl := by rw [← hW]; exact GurC.one _ _ _ rfl
  have x3 : W.cell? ⟨w1.heap.size, 3, none⟩ = some (sl gs) := by rw [← hW]; exact GurC.one _ _ _ rfl
  have x4 : W.cell? ⟨w1.heap.size, 4, none⟩ = some (.slice va n vc) := by rw [← hW]; exact GurC.one _ _ _ rfl
  have HC := hid ((copies hown htx HI.out.fit).below hba)
  have HI1 := hid ((HI.out.below hb1).below hba)
  have HBW := hid (blw hb1 hba)
  have HFl := hid (nextV hfl hba)
  have HBr := hid (nextV hbr hba)
  have HSy := hid (nextR hsy hba)
  have HTx : Hid (∀ i, i < n → SRow W (tg i) ((L i).ss.length + 9) (markT (L i).ss) ∧ tg i < W.heap.size) := hid (fun i hi => ⟨(htx i hi).1.of_block (hba.block _ (htx i hi).2), Nat.lt_of_lt_of_le (htx i hi).2 hba.size⟩)
  have HX := hid (And.intro x0 (And.intro x1 (And.intro x2 (And.intro x3 x4))))
  have H1 := hid (fun wx (hx : Below W.heap.size W wx) => Lists_any va n vc (cp L tg) res o wx (by omega) (HC.out.below hx))
  have H2 := hid (fun wx (hx : Below W.heap.size W wx) => RLists_any a n cap L res o wx (by omega) (hid (HI1.out.below hx)))
  rw [show blkL (cp L tg) res o = blkL L res o from rfl] at H1
  have HK := hid (fun wx (hx : Below W.heap.size W wx) => krules_any gf gb gs va a n vc cap L tg wx (by omega) HSS.out (hid (HC.out.below hx)) (hid (HI1.out.below hx)) (nextV HFl.out hx) (nextV HBr.out hx) (nextR HSy.out hx) (fun i hi => ⟨(HTx.out i hi).1.of_block (hx.block _ (HTx.out i hi).2), Nat.lt_of_lt_of_le (HTx.out i hi).2 hx.size⟩))
  clear hfl hbr hsy hown htx hb1 hba H0 x0 x1 x2 x3
  generalize firstN (blkL L res o) n = q at *
  go_wp2_with fail
  refine (H1.out _ (Below.refl _ _)).mono ?_
  rintro e w2 ⟨rfl, hb2⟩
  have HB2 := hid hb2
  clear hb2 H1 x4
  go_wp2_with fail
  refine (H2.out _ HB2.out).mono ?_
  rintro e w3 ⟨rfl, hb3⟩
  have HB3 := hid (bt HB2.out hb3)
  clear hb3 H2 HB2
  go_wp2_with fail
  refine (HL.out _).mono ?_
  rintro e w4 ⟨rfl, hb4⟩
  have HB4 := hid (bt HB3.out hb4)
  clear hb4 HL HB3
  obtain ⟨bb, hbb⟩ : ∃ bb, decide (q = n) = bb := ⟨_, rfl⟩
  have hne : (decide (q = n) != decide (q = n)) = false := by simp
  go_wp2_with fail
  clear hW
  go_loopw [12] (fun i wr => ∃ k : Nat, k ≤ n ∧ i = .int .i64 k ∧ Below W.heap.size W wr) (fun i _ => n - (intOf i).toNat)
  case atStart => exact ⟨0, Nat.zero_le _, rfl, HB4.out⟩
  case round =>
    obtain ⟨k, hk, rfl, hb⟩ := hrel
    have HBk := hid hb
    obtain ⟨X0, X1, X2, X3, X4⟩ := HX.out
    have hwW := World.block_lt_of_cell? _ _ X4
    have z4 : wr.cell? ⟨w1.heap.size, 4, none⟩ = some (.slice va n vc) := (hb.cell (p := ⟨w1.heap.size, 4, none⟩) hwW).trans X4
    have z0 : wr.cell? ⟨w1.heap.size, 0, none⟩ = some (sl gf) := (hb.cell (p := ⟨w1.heap.size, 0, none⟩) hwW).trans X0
    have z1 : wr.cell? ⟨w1.heap.size, 1, none⟩ = some (sl gb) := (hb.cell (p := ⟨w1.heap.size, 1, none⟩) hwW).trans X1
    have z2 : wr.cell? ⟨w1.heap.size, 2, none⟩ = some nl := (hb.cell (p := ⟨w1.heap.size, 2, none⟩) hwW).trans X2
    have z3 : wr.cell? ⟨w1.heap.size, 3, none⟩ = some (sl gs) := (hb.cell (p := ⟨w1.heap.size, 3, none⟩) hwW).trans X3
    have HCk := hid (HC.out.below hb)
    have HIk := hid (HI1.out.below hb)
    clear hb X0 X1 X2 X3 X4
    by_cases hlt : k < n
    · obtain ⟨g, p, rfl, hg, hc⟩ := HCk.out.at_ (by omega)
      obtain ⟨g', p', rfl, hg', hc'⟩ := HIk.out.at_ (by omega)
      have a0 : wr.cell? ⟨g, p + k * 3, none⟩ = some (.string (L k).res) := hc k hlt 0 _ rfl
      have a1 : wr.cell? ⟨g, p + k * 3 + 1, none⟩ = some (.bool (L k).white) := hc k hlt 1 _ rfl
      have a2 : wr.cell? ⟨g, p + k * 3 + 2, none⟩ = some (.slice (some ⟨tg k, 0, none⟩) (L k).ss.length ((L k).ss.length + 9)) := hc k hlt 2 _ rfl
      have b0 : wr.cell? ⟨g', p' + k * 3, none⟩ = some (.string (L k).res) := hc' k hlt 0 _ rfl
      have b1 : wr.cell? ⟨g', p' + k * 3 + 1, none⟩ = some (.bool (L k).white) := hc' k hlt 1 _ rfl
      have b2 : wr.cell? ⟨g', p' + k * 3 + 2, none⟩ = some (.slice (L k).ta (L k).ss.length (L k).tc) := hc' k hlt 2 _ rfl
      have hf := HI1.out.fit k hlt
      have HA := hid (fun wx (hx : Below W.heap.size W wx) => GList_any (L k).res (L k).white (some ⟨tg k, 0, none⟩) ((L k).ss.length + 9) (L k).ss o wx hf.1 hf.2.1 hf.2.2 ((HC.out.below hx).txt k hlt))
      have HD := hid (fun wx (hx : Below W.heap.size W wx) => RList_any (L k).res (L k).white (L k).ta (L k).tc (L k).ss o wx (hid hf.1) hf.2.1 (hid hf.2.2) (hid ((HI1.out.below hx).txt k hlt)))
      clear hc hc' hf
      generalize listB (L k).res (L k).white (L k).ss o = lb at *
      generalize (L k).res = l0 at *
      generalize (L k).white = l1 at *
      generalize (L k).ta = l2 at *
      generalize (L k).ss.length = l3 at *
      generalize (L k).tc = l4 at *
      go_upto_region 9 with fail
      go_cut [62] (fun s wx => s = .bool false ∧ Below W.heap.size W wx)
      case first =>
        cases lb <;>
        go_region_held3 (fun w' => w'.cell? ⟨w1.heap.size, 4, none⟩ = some (.slice (some ⟨g, p, none⟩) n vc) ∧ w'.cell? ⟨g, p + k * 3, none⟩ = some (.string l0) ∧ w'.cell? ⟨g, p + k * 3 + 1, none⟩ = some (.bool l1) ∧ w'.cell? ⟨g, p + k * 3 + 2, none⟩ = some (.slice (some ⟨tg k, 0, none⟩) l3 (l3 + 9)) ∧ w'.cell? ⟨g', p' + k * 3, none⟩ = some (.string l0) ∧ w'.cell? ⟨g', p' + k * 3 + 1, none⟩ = some (.bool l1) ∧ w'.cell? ⟨g', p' + k * 3 + 2, none⟩ = some (.slice l2 l3 l4)) (go_keep)
          (first
            | (go_at_call 25; (with_reducible refine (HA.out _ (by first | exact HBk.out | exact HBk.out.drew)).mono ?_); rintro e w4 ⟨rfl, hb4⟩
               have z4 : w4.cell? ⟨w1.heap.size, 4, none⟩ = some (.slice (some ⟨g, p, none⟩) n vc) := kc hb4 (by first | exact z4 | assumption)
               have a0 : w4.cell? ⟨g, p + k * 3, none⟩ = some (.string l0) := kc hb4 (by first | exact a0 | assumption)
               have a1 : w4.cell? ⟨g, p + k * 3 + 1, none⟩ = some (.bool l1) := kc hb4 (by first | exact a1 | assumption)
               have a2 : w4.cell? ⟨g, p + k * 3 + 2, none⟩ = some (.slice (some ⟨tg k, 0, none⟩) l3 (l3 + 9)) := kc hb4 (by first | exact a2 | assumption)
               have b0 : w4.cell? ⟨g', p' + k * 3, none⟩ = some (.string l0) := kc hb4 (by first | exact b0 | assumption)
               have b1 : w4.cell? ⟨g', p' + k * 3 + 1, none⟩ = some (.bool l1) := kc hb4 (by first | exact b1 | assumption)
               have b2 : w4.cell? ⟨g', p' + k * 3 + 2, none⟩ = some (.slice l2 l3 l4) := kc hb4 (by first | exact b2 | assumption)
               have HBk := hid (by first | exact bt HBk.out hb4 | exact bt HBk.out.drew hb4))
            | (go_at_call 26; (with_reducible refine (HD.out _ (by first | exact HBk.out | exact HBk.out.drew)).mono ?_); rintro e w4 ⟨rfl, hb4⟩
               have z4 : w4.cell? ⟨w1.heap.size, 4, none⟩ = some (.slice (some ⟨g, p, none⟩) n vc) := kc hb4 (by first | exact z4 | assumption)
               have a0 : w4.cell? ⟨g, p + k * 3, none⟩ = some (.string l0) := kc hb4 (by first | exact a0 | assumption)
               have a1 : w4.cell? ⟨g, p + k * 3 + 1, none⟩ = some (.bool l1) := kc hb4 (by first | exact a1 | assumption)
               have a2 : w4.cell? ⟨g, p + k * 3 + 2, none⟩ = some (.slice (some ⟨tg k, 0, none⟩) l3 (l3 + 9)) := kc hb4 (by first | exact a2 | assumption)
               have b0 : w4.cell? ⟨g', p' + k * 3, none⟩ = some (.string l0) := kc hb4 (by first | exact b0 | assumption)
               have b1 : w4.cell? ⟨g', p' + k * 3 + 1, none⟩ = some (.bool l1) := kc hb4 (by first | exact b1 | assumption)
               have b2 : w4.cell? ⟨g', p' + k * 3 + 2, none⟩ = some (.slice l2 l3 l4) := kc hb4 (by first | exact b2 | assumption)
               have HBk := hid (by first | exact bt HBk.out hb4 | exact bt HBk.out.drew hb4)))
        all_goals
          go_wp2_with fail
          go_meet
          exact ⟨by simp, HBk.out⟩
      case rest =>
        obtain ⟨rfl, hbx⟩ := hcut
        have HBX := hid hbx
        clear hbx z0 z1 z2 z3 z4 a0 a1 a2 b0 b1 b2
        go_wp2_with fail
        go_roundw
        case rel => exact ⟨k + 1, by omega, by go_num, HBX.out⟩
        case measure => simp [intOf]; omega
    · obtain rfl : k = n := by omega
      go_wp2_with fail
      refine (HK.out _ HBk.out).mono ?_
      rintro e w5 ⟨rfl, hb5⟩
      have HB5 := hid (bt HBk.out hb5)
      clear hb5
      go_wp2_with fail
      go_ret
      exact ⟨rfl, HBW.out.trans (HB5.out.mono HBW.out.size)⟩

end Go.Proofs.Ytoilakjlnflpbaa.GulE

namespace Go.Proofs.Ytoilakjlnflpbaa.GulF
open Go.ChangeShapes Go.WideShapes Go.ChangeAt Go.RowKit Go.Deep Base ValA Opn GulA GulE GuaF
set_option linter.unusedVariables false

set_option maxRecDepth 100000 in
theorem lists_arg {H : Type} {enc : TypeId × Value → H} {W : World} {base : Nat} {spare : Nat → Bool} {held : Bool} {fuel : Nat} {a : Option Addr} {n c : Nat} {x : DataW H × List MemPlace}
    (h : DataW.trod enc Try.prog W base spare held fuel 45 [.slice a n c] = some x) (hw : ∀ m ∈ x.1.weights Try.prog 45, m ≤ reachBytes) :
    n ≤ 2932031007402 ∧ ∃ L, AuR W a n L ∧ ∀ i, i < n → (L i).ss.length ≤ 8796093022208 := by
  obtain ⟨fs, hu, h1, h2, h5, ht⟩ := under_auth
  have hr := Room.rows_room Try.underlying45 h hw
  rw [show Try.prog.bytesOf 57 = 48 by kernel_rfl] at hr
  unfold reachBytes at hr
  refine ⟨by omega, ?_⟩
  have hty : ∀ j (hj : j < 3), ∃ f, fs[j]? = some f ∧ some f.type = ([9, 4, 55] : List TypeId)[j]? := fun j hj => by
    refine ⟨fs[j]'(by omega), Array.getElem?_eq_getElem (by omega), ?_⟩
    rw [← ht]
    simp [h5, hj]
  obtain ⟨f0, g0, t0⟩ := hty 0 (by omega)
  obtain ⟨f1, g1, t1⟩ := hty 1 (by omega)
  obtain ⟨f2, g2, t2⟩ := hty 2 (by omega)
  simp only [List.getElem?_cons_zero, List.getElem?_cons_succ, Option.some.injEq] at t0 t1 t2
  rcases row_sized Try.underlying45 hu h1 h2 h with ⟨rfl, rfl⟩ | ⟨p, rfl, hl, hm, hi⟩
  · exact ⟨fun _ => ⟨⟨#[]⟩, false, none, 0, []⟩, ⟨fun h0 => by omega, fun i hi => by omega, fun i hi => by omega⟩, fun i hi => by omega⟩
  · rw [h5] at hi
    have hA : ∀ i : Nat, ∃ A : Au, i < n → (∀ (j : Nat) v, (av A)[j]? = some v → W.cell? (p.add (i * 3 + j)) = some v) ∧ TAt W W.heap.size A.ta A.ss ∧ (A.res.size ≤ maxLen ∧ A.ss.length ≤ 9223372036854775807 ∧ ∀ x ∈ A.ss, x.length ≤ maxLen) ∧ A.ss.length ≤ 8796093022208 := fun i => by
      by_cases hin : i < n
      · obtain ⟨v0, z0, k0, c0, r0, _⟩ := hi i hin 0 f0 g0
        obtain ⟨v1, z1, k1, c1, r1, _⟩ := hi i hin 1 f1 g1
        obtain ⟨v2, z2, k2, c2, r2, w2⟩ := hi i hin 2 f2 g2
        rw [t0] at r0
        rw [t1] at r1
        rw [t2] at r2 w2
        obtain ⟨n0, e0, _, q0⟩ := DataW.trod_string Try.underlying9 r0
        obtain ⟨n1, e1, _⟩ := DataW.trod_bool Try.underlying4 r1
        obtain ⟨a2, cp2, ss2, e2, q2a, q2b, q2c⟩ := texts_of r2
        simp only [List.cons.injEq, and_true] at e0 e1
        subst e0 e1 e2
        have hrr := Room.rows_room Try.underlying55 r2 (fun m hm => hw m (w2 m hm))
        rw [show Try.prog.bytesOf 9 = 16 by kernel_rfl] at hrr
        unfold reachBytes at hrr
        refine ⟨⟨n0, n1, a2, cp2, ss2⟩, fun _ => ⟨fun j v hv => ?_, q2c, ⟨q0, q2a, q2b⟩, by show ss2.length ≤ _; omega⟩⟩
        have hj : j < 3 := (List.getElem?_eq_some_iff.1 hv).1
        rcases (by omega : j = 0 ∨ j = 1 ∨ j = 2) with rfl | rfl | rfl
        · cases hv; exact c0
        · cases hv; exact c1
        · cases hv; exact c2
      · exact ⟨⟨⟨#[]⟩, false, none, 0, []⟩, fun h => absurd h hin⟩
    obtain ⟨L, hL⟩ := Classical.axiomOfChoice hA
    refine ⟨L, ⟨fun h0 => ?_, fun i hi => (hL i hi).2.1, fun i hi => (hL i hi).2.2.1⟩, fun i hi => (hL i hi).2.2.2⟩
    obtain ⟨b, off, spot⟩ := p
    have hc0 := (hL 0 h0).1 0 _ rfl
    have hspot : spot = none := by simpa [Addr.add] using World.cell?_spot hc0
    subst hspot
    refine ⟨b, off, rfl, by have := World.block_lt_of_cell? _ _ hc0; simpa [Addr.add] using this, fun i hin j v hv => ?_⟩
    have := (hL i hin).1 j v hv
    rw [Go.WideShapes.add_plain] at this
    rw [Nat.add_assoc]
    exact this

theorem main {H : Type} {enc : TypeId × Value → H} {W : World} {base0 : Nat} {sp0 : Nat → Bool} {hd0 : Bool} {d0 : DataW H} {p0 : List MemPlace}
    (a0 : Option Addr) (len0 cap0 : Nat) (h0 : ∃ fuel, DataW.trod enc Try.prog W base0 sp0 hd0 fuel 45 [.slice a0 len0 cap0] = some (d0, p0)) (z0 : ∀ m ∈ d0.weights Try.prog 45, m ≤ reachBytes)
    (res : ByteArray) (h1 : res.size ≤ maxLen) (o : ByteArray) (h2 : o.size ≤ maxLen) :
    Calls Try.prog 5 #[.slice a0 len0 cap0, .string res, .string o] W fun e w' => e = .returned (.bool true) ∧ Below W.heap.size W w' := by
  obtain ⟨k0, h0⟩ := h0
  obtain ⟨hn, L, hL, hs⟩ := lists_arg h0 z0
  exact lists_core a0 len0 cap0 L res o W hn hs (hid hL)

end Go.Proofs.Ytoilakjlnflpbaa.GulF
