/- A sketch in memory; what it forgets. -/
import Derived.Test.YtnpldfacnmhemaaSkF
namespace Go.Proofs.Ytnpldfacnmhemaa.SkG
open Go.ChangeShapes Go.WideShapes Go.ChangeAt Go.RowKit Base Wri WldF WldG SkA SkB SkC SkD SkE SkF

/-- what a sketch is made of -/
structure Shp where
  wd : Nat
  bk : Nat
  ro : Nat
  co : Nat
  seed : Nat

def Holds (w : World) (go : Option Nat) (v : Value) (bs : List Bk) : Prop :=
  (go = none ∧ v = .slice none 0 0 ∧ bs = []) ∨
  ∃ g cap f, go = some g ∧ v = .slice (some ⟨g, 0, none⟩) bs.length cap ∧ IsBk w g cap bs.length f ∧ toL f bs.length = bs

def sv (X : Shp) (last : Int) (v : Value) : Array Value := #[.int .i64 X.wd, .int .i64 X.bk, .int .i64 X.ro, .int .i64 X.co, .int .u64 X.seed, .int .i64 last, v]

def IsSk (w : World) (p : Nat) (go : Option Nat) (X : Shp) (last : Int) (bs : List Bk) : Prop :=
  go ≠ some p ∧ ∃ v, w.heap[p]? = some (.cells (sv X last v) 83) ∧ Holds w go v bs

theorem Holds.of_block {w w' : World} {go : Option Nat} {v : Value} {bs : List Bk} (h : Holds w go v bs) (e : ∀ g, go = some g → w'.heap[g]? = w.heap[g]?) : Holds w' go v bs := by
  rcases h with h | ⟨g, cap, f, h1, h2, h3, h4⟩
  · exact .inl h
  · exact .inr ⟨g, cap, f, h1, h2, h3.of_block (e g h1), h4⟩
theorem Holds.lt {w : World} {go : Option Nat} {v : Value} {bs : List Bk} (h : Holds w go v bs) (g : Nat) (e : go = some g) : g < w.heap.size := by
  rcases h with ⟨h, _⟩ | ⟨g', cap, f, h1, h2, h3, h4⟩
  · rw [h] at e; cases e
  · rw [h1] at e; cases e; exact h3.lt
theorem IsSk.lt {w : World} {p : Nat} {go : Option Nat} {X : Shp} {last : Int} {bs : List Bk} (h : IsSk w p go X last bs) : p < w.heap.size := by
  obtain ⟨_, v, h1, _⟩ := h
  exact (Array.getElem?_eq_some_iff.1 h1).1
theorem IsSk.lt2 {w : World} {p : Nat} {go : Option Nat} {X : Shp} {last : Int} {bs : List Bk} (h : IsSk w p go X last bs) (g : Nat) (e : go = some g) : g < w.heap.size := by
  obtain ⟨_, v, _, h2⟩ := h
  exact h2.lt g e
theorem IsSk.keep {w w' : World} {p : Nat} {go : Option Nat} {X : Shp} {last : Int} {bs : List Bk} (h : IsSk w p go X last bs) (hk : ∀ k, (k = p ∨ go = some k) → w'.heap[k]? = w.heap[k]?) : IsSk w' p go X last bs := by
  obtain ⟨h0, v, h1, h2⟩ := h
  exact ⟨h0, v, (hk p (.inl rfl)).trans h1, h2.of_block fun g e => hk g (.inr e)⟩
theorem IsSk.below {w w' : World} {p : Nat} {go : Option Nat} {X : Shp} {last : Int} {bs : List Bk} (h : IsSk w p go X last bs) (hb : Below w.heap.size w w') : IsSk w' p go X last bs :=
  h.keep fun k hk => hb.block k (hk.elim (fun e => e ▸ h.lt) (fun e => h.lt2 k e))

theorem sv_cells {w : World} {p : Nat} {X : Shp} {last : Int} {v : Value} (h : w.heap[p]? = some (.cells (sv X last v) 83)) :
    w.cell? ⟨p, 0, none⟩ = some (.int .i64 X.wd) ∧ w.cell? ⟨p, 1, none⟩ = some (.int .i64 X.bk) ∧ w.cell? ⟨p, 2, none⟩ = some (.int .i64 X.ro) ∧ w.cell? ⟨p, 3, none⟩ = some (.int .i64 X.co) ∧
    w.cell? ⟨p, 4, none⟩ = some (.int .u64 X.seed) ∧ w.cell? ⟨p, 5, none⟩ = some (.int .i64 last) ∧ w.cell? ⟨p, 6, none⟩ = some v ∧ ∀ o, w.frozen? ⟨p, o, none⟩ = false := by
  unfold sv at h
  exact ⟨by simp [World.cell?, h], by simp [World.cell?, h], by simp [World.cell?, h], by simp [World.cell?, h], by simp [World.cell?, h], by simp [World.cell?, h], by simp [World.cell?, h], fun o => by simp [World.frozen?, h]⟩

theorem Wr.ofKeeps {b : Nat} {w w1 : World} (h : Keeps b w w1) : Wr (fun k => k = b) w w1 := Wr.ofGrown h (fun _ e => (Option.some.inj e).symm)

set_option maxHeartbeats 400000 in
theorem indexNil (F : Nat) (w : World) :
    Calls Try.prog 80 #[.slice none 0 0, .func (Fn.func 70) #[] #[.pointer (some ⟨F, 0, none⟩)]] w fun e w' => e = .returned (.int .i64 (-1)) ∧ w = w' := by
  go_enter Try.func80, Try.ntmps80
  go_wp2
  go_loop [8] (fun i => i = .int .i64 0) (fun _ => 0)
  case atStart => rfl
  case round =>
    obtain rfl := hrel
    go_wp2
    go_ret
    exact ⟨rfl, rfl⟩

set_option maxHeartbeats 400000 in
theorem deleteNil (F : Nat) (w : World) :
    Calls Try.prog 69 #[.slice none 0 0, .func (Fn.func 70) #[] #[.pointer (some ⟨F, 0, none⟩)]] w fun e w' => e = .returned (.slice none 0 0) ∧ w = w' := by
  go_enter Try.func69, Try.ntmps69
  go_wp2_with fail
  refine (indexNil F _).mono ?_
  rintro e w1 ⟨rfl, rfl⟩
  go_wp2
  go_ret
  exact ⟨rfl, rfl⟩

theorem delete_any (F : Nat) (go : Option Nat) (v : Value) (bs : List Bk) (lim : Int) (w : World) (h : Holds w go v bs) (hn : bs.length ≤ 9223372036854775807) (hF : F < w.heap.size) (hFg : go ≠ some F) (hl : w.cell? ⟨F, 0, none⟩ = some (.int .i64 lim)) :
    Calls Try.prog 69 #[v, .func (Fn.func 70) #[] #[.pointer (some ⟨F, 0, none⟩)]] w
      fun e w' => ∃ a n c, e = .returned (.slice a n c) ∧ Holds w' go (.slice a n c) (stays lim bs) ∧ Wr (fun k => go = some k) w w' := by
  rcases h with ⟨rfl, rfl, rfl⟩ | ⟨g, cap, f, rfl, rfl, hb, hf⟩
  · refine (deleteNil F w).mono ?_
    rintro e w' ⟨rfl, rfl⟩
    exact ⟨_, _, _, rfl, .inl ⟨rfl, rfl, rfl⟩, Wr.refl _ _⟩
  · have hc := hb.le
    unfold maxLen at hc
    refine (deleteBk g cap bs.length F f lim w hn (by omega) hF (fun e => hFg (by rw [e])) hl (hid hb)).mono ?_
    rintro e w' ⟨m, f', rfl, hst, hb', hk⟩
    have hlen : m = (stays lim bs).length := by rw [← hf, ← hst, toL_len]
    refine ⟨_, _, _, rfl, .inr ⟨g, cap, f', rfl, by rw [← hlen], by rw [← hlen]; exact hb', by rw [← hlen, hst, hf]⟩, (Wr.ofKeeps hk).mono fun k e => by rw [e]⟩

set_option maxRecDepth 20000 in
set_option maxHeartbeats 1000000 in
theorem forget_any (p : Nat) (go : Option Nat) (X : Shp) (last : Int) (bs : List Bk) (lim : Int) (w : World) (h : IsSk w p go X last bs) (hn : bs.length ≤ 9223372036854775807) :
    Calls Try.prog 34 #[.pointer (some ⟨p, 0, none⟩), .int .i64 lim] w
      fun e w' => e = .returned (.tuple #[]) ∧ IsSk w' p go X last (stays lim bs) ∧ Wr (fun k => k = p ∨ go = some k) w w' := by
  have hp := h.lt
  have HG2 := hid h.lt2
  have HW := hid h
  obtain ⟨_, v, h1, hv⟩ := h
  obtain ⟨-, -, -, -, -, -, c6, hfz⟩ := sv_cells h1
  have f6 := hfz 6
  have HV := hid hv
  have HBl := hid h1
  clear h1 hv hfz
  go_enter Try.func34, Try.ntmps34
  go_wp2_with fail
  refine (delete_any w.heap.size go v bs lim _ (HV.out.of_block fun g e => Below.heap_alloc _ _ _ (HG2.out g e)) hn (by simp) (fun e => by have := HG2.out _ e; omega) (by simp)).mono ?_
  rintro e w1 ⟨va, vn, vc, rfl, hv', hl⟩
  have hl2 : Wr (fun k => go = some k) w w1 := (Wr.ofBelow ((Below.refl _ w).alloc (Nat.le_refl _) _)).trans hl
  have hpg : ¬ go = some p := HW.out.1
  have hb : w1.heap[p]? = w.heap[p]? := hl2.block p hp hpg
  have k6 : w1.cell? ⟨p, 6, none⟩ = some v := (World.cell?_of_block (a := ⟨p, 6, none⟩) hb).trans c6
  have g6 : w1.frozen? ⟨p, 6, none⟩ = false := (World.frozen?_of_block (a := ⟨p, 6, none⟩) hb).trans f6
  have HL2 := hid hl2
  have HV' := hid hv'
  have HBk := hid (hb.trans HBl.out)
  clear hl hl2 hv' hb c6 f6
  go_wp2
  go_end0
  refine ⟨rfl, ⟨HW.out.1, .slice va vn vc, ?_, HV'.out.of_block fun g e => heap_setCell_other _ _ _ _ (fun e2 => HW.out.1 (by rw [e, e2]))⟩, (HL2.out.mono fun k e => .inr e).trans (Wr.set ⟨p, 6, none⟩ _ (.inl rfl))⟩
  exact heap_setCell_same _ _ _ _ _ _ HBk.out

end Go.Proofs.Ytnpldfacnmhemaa.SkG
