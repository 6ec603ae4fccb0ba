/- Flow rules in memory; what must be of rules whatever is asked. -/
import Derived.Test.YtcedbgoopolmdaaRulF
namespace Go.Proofs.Ytcedbgoopolmdaa.RulG
open Go.ChangeShapes Go.WideShapes Go.ChangeAt Go.RowKit Base RulA RulB RulC RulD RulE RulF

/-- flow rules in memory -/
structure Flows (w : World) (a : Option Addr) (n : Nat) (L : Nat → Flow) : Prop where
  at_ : 0 < n → ∃ g o, a = some ⟨g, o, none⟩ ∧ g < w.heap.size ∧ ∀ i, i < n → ∀ (j : Nat) v, (fv (L i))[j]? = some v → w.cell? ⟨g, o + i * 12 + j, none⟩ = some v
  s1 : ∀ i, i < n → (L i).res.size ≤ maxLen
  s2 : ∀ i, i < n → (L i).org.size ≤ maxLen
  s3 : ∀ i, i < n → (L i).ref.size ≤ maxLen

theorem Flows.below {w w' : World} {a : Option Addr} {n : Nat} {L : Nat → Flow} (h : Flows w a n L) (hb : Below w.heap.size w w') : Flows w' a n L := by
  refine ⟨fun h0 => ?_, h.s1, h.s2, h.s3⟩
  obtain ⟨g, o, rfl, hg, hc⟩ := h.at_ h0
  exact ⟨g, o, rfl, Nat.lt_of_lt_of_le hg hb.size, fun i hi j v hv => (hb.cell (p := ⟨g, o + i * 12 + j, none⟩) hg).trans (hc i hi j v hv)⟩

set_option maxRecDepth 20000 in
set_option maxHeartbeats 1000000 in
theorem wr_core (W : World) (f : Flow) (h1 : Hid (f.res.size ≤ maxLen)) (h2 : Hid (f.org.size ≤ maxLen)) (h3 : Hid (f.ref.size ≤ maxLen)) (g o i n cap b : Nat) (hi : i < n) (_ : g < W.heap.size) (_ : b + 2 < W.heap.size)
    (k0 : W.cell? ⟨b, 0, none⟩ = some (.slice (some ⟨g, o, none⟩) n cap)) (k1 : W.cell? ⟨b + 1, 0, none⟩ = some (.func (Fn.func 65) #[] #[]))
    (HC : Hid (∀ (j : Nat) v, (fv f)[j]? = some v → W.cell? ⟨g, o + i * 12 + j, none⟩ = some v)) :
    Calls Try.prog 109 #[.int .i64 i, .pointer (some ⟨b + 1, 0, none⟩), .pointer (some ⟨b, 0, none⟩)] W fun e W' => e = .returned (.int .i64 (flowE f)) ∧ Below W.heap.size W W' := by
  have c0 : W.cell? ⟨g, o + i * 12, none⟩ = some (.string f.res) := HC.out 0 _ rfl
  have c1 : W.cell? ⟨g, o + i * 12 + 1, none⟩ = some (.string f.org) := HC.out 1 _ rfl
  have c2 : W.cell? ⟨g, o + i * 12 + 2, none⟩ = some (.bool f.thr) := HC.out 2 _ rfl
  have c3 : W.cell? ⟨g, o + i * 12 + 3, none⟩ = some (.int .i64 f.cnt) := HC.out 3 _ rfl
  have c4 : W.cell? ⟨g, o + i * 12 + 4, none⟩ = some (.int .u8 f.strat) := HC.out 4 _ rfl
  have c5 : W.cell? ⟨g, o + i * 12 + 5, none⟩ = some (.string f.ref) := HC.out 5 _ rfl
  have c6 : W.cell? ⟨g, o + i * 12 + 6, none⟩ = some (.int .u8 f.shape) := HC.out 6 _ rfl
  have c7 : W.cell? ⟨g, o + i * 12 + 7, none⟩ = some (.int .i64 f.warm) := HC.out 7 _ rfl
  have c8 : W.cell? ⟨g, o + i * 12 + 8, none⟩ = some (.int .i64 f.queue) := HC.out 8 _ rfl
  have c9 : W.cell? ⟨g, o + i * 12 + 9, none⟩ = some (.bool f.clus) := HC.out 9 _ rfl
  have c10 : W.cell? ⟨g, o + i * 12 + 10, none⟩ = some (.int .i64 f.id_) := HC.out 10 _ rfl
  have c11 : W.cell? ⟨g, o + i * 12 + 11, none⟩ = some (.bool f.fall) := HC.out 11 _ rfl
  have HF := hid (fun w => Flow_any f w h1.out h2.out h3.out)
  unfold fv at HF
  generalize flowE f = er at *
  clear HC
  go_enter Try.func109, Try.ntmps109
  go_wp2_with fail
  go_region_with (go_at_call 65; refine (HF.out _).mono ?_; rintro e w1 ⟨rfl, hb1⟩)
  all_goals
    have HB1 := hid ((Below.refl W.heap.size W).drew.trans hb1)
    clear hb1 HF
    go_wp2_with fail
    go_ret
    exact ⟨rfl, HB1.out⟩

theorem wr_flow {w W : World} {a : Option Addr} {n cap b i : Nat} {L : Nat → Flow} (h : Flows w a n L) (hi : i < n) (hb : Below w.heap.size w W) (hh : Held W b a n cap (lkF 0) (isF 0)) :
    Calls Try.prog (wrF 0) #[.int .i64 i, .pointer (some ⟨b + 1, 0, none⟩), .pointer (some ⟨b, 0, none⟩)] W fun e W' => e = .returned (.int .i64 (flowE (L i))) ∧ Below W.heap.size W W' := by
  obtain ⟨g, o, rfl, hg, hc⟩ := (h.below hb).at_ (by omega)
  exact wr_core W (L i) (hid (h.s1 i hi)) (hid (h.s2 i hi)) (hid (h.s3 i hi)) g o i n cap b hi hg hh.lt hh.c0 hh.c1 (hid (hc i hi))

def good : Flow := ⟨⟨#[97]⟩, ⟨#[100, 101, 102, 97, 117, 108, 116]⟩, false, 5, 0, ⟨#[]⟩, 0, 0, 0, false, 0, false⟩
def bad : Flow := ⟨⟨#[97]⟩, ⟨#[100, 101, 102, 97, 117, 108, 116]⟩, false, 5, 0, ⟨#[]⟩, 1, 0, 0, false, 0, false⟩
theorem good_ok : flowE good = 0 := by decide +kernel
theorem bad_not : flowE bad = 30 := by decide +kernel
theorem ab_not : nameB ⟨#[97, 32, 98]⟩ = false := by decide +kernel

def an (g : Nat) : Nat → Option Addr | 0 => some ⟨g, 0, none⟩ | _ => none
def nn : Nat → Nat | 0 => 2 | _ => 0
def er (j i : Nat) : Int := if j = 0 then (if i = 0 then 0 else 30) else 0
theorem res_is {k i : Nat} {e : Int} (h : WRes nn er k i e) : k = 1 ∧ i = 1 ∧ e = 30 := by
  have hn : ∀ j, nn j ≤ 2 := fun j => by cases j <;> simp [nn]
  rcases h with ⟨j, _, hj, _⟩ | ⟨_, j, hj, hi, he, _, hy, rfl, rfl⟩ | ⟨_, h, _⟩
  · have := hn j; omega
  · cases j with
    | succ j => simp [nn] at hi
    | zero =>
      have hi2 : i < 2 := hi
      rcases (show i = 0 ∨ i = 1 by omega) with rfl | rfl
      · exact absurd rfl he
      · exact ⟨rfl, rfl, rfl⟩
  · exact absurd (h 0 (by omega) 1 (by decide)) (by decide)

theorem says {w : World} {g : Nat} (H : Flows w (some ⟨g, 0, none⟩) 2 (fun i => if i = 0 then good else bad)) : Says (an g) nn nn er w := by
  intro j i b W hj hi h256 hb hh
  cases j with
  | succ j => simp [nn] at hi
  | zero =>
    have hi2 : i < 2 := hi
    have h := wr_flow H hi2 hb hh
    refine h.mono fun e W' ⟨h1, h2⟩ => ⟨?_, h2⟩
    rw [h1]
    rcases (show i = 0 ∨ i = 1 by omega) with rfl | rfl
    · exact congrArg (fun x => Ending.returned (Value.int .i64 x)) good_ok
    · exact congrArg (fun x => Ending.returned (Value.int .i64 x)) bad_not

theorem flows2 (w : World) (ty : TypeId) : Flows (w.alloc (.cells (fv good ++ fv bad) ty)) (some ⟨w.heap.size, 0, none⟩) 2 (fun i => if i = 0 then good else bad) := by
  refine ⟨fun _ => ⟨w.heap.size, 0, rfl, by simp, fun i hi j v hv => ?_⟩, fun i hi => ?_, fun i hi => ?_, fun i hi => ?_⟩
  · unfold World.cell?
    rw [heap_alloc_new]
    rcases (show i = 0 ∨ i = 1 by omega) with rfl | rfl
    · have hj : j < 12 := by
        rcases Nat.lt_or_ge j 12 with e | e
        · exact e
        · rw [Array.getElem?_eq_none (by show 12 ≤ j; exact e)] at hv; cases hv
      show (fv good ++ fv bad)[0 + 0 * 12 + j]? = some v
      rw [show 0 + 0 * 12 + j = j by omega, Array.getElem?_append_left (by show j < 12; exact hj)]
      exact hv
    · show (fv good ++ fv bad)[0 + 1 * 12 + j]? = some v
      rw [Array.getElem?_append_right (by show 12 ≤ _; omega)]
      have e : 0 + 1 * 12 + j - (fv good).size = j := by show 0 + 1 * 12 + j - 12 = j; omega
      rw [e]
      exact hv
  · rcases (show i = 0 ∨ i = 1 by omega) with rfl | rfl <;> (show (1 : Nat) ≤ _; decide)
  · rcases (show i = 0 ∨ i = 1 by omega) with rfl | rfl <;> (show (7 : Nat) ≤ _; decide)
  · rcases (show i = 0 ∨ i = 1 by omega) with rfl | rfl <;> (show (0 : Nat) ≤ _; decide)

theorem cell_of {w : World} {b : Nat} {cs : Array Value} {ty : TypeId} (h : w.heap[b]? = some (.cells cs ty)) (j : Nat) (v : Value) (hv : cs[j]? = some v) : w.cell? ⟨b, j, none⟩ = some v := by
  unfold World.cell?; rw [h]; exact hv

set_option maxRecDepth 100000 in
set_option maxHeartbeats 2000000 in
theorem live_look (w : World) :
    Calls Try.prog 30 #[] w fun e w' => e = .returned (.bool true) ∧ Below w.heap.size w w' := by
  have g1 : (((w.alloc (.cells #[.string ⟨#[97]⟩, .string ⟨#[100, 101, 102, 97, 117, 108, 116]⟩, .bool false, .int .i64 5, .int .u8 0, .string ⟨#[]⟩, .int .u8 0, .int .i64 0, .int .i64 0, .bool false, .int .i64 0, .bool false] 92)).alloc (.cells #[.string ⟨#[97]⟩, .string ⟨#[100, 101, 102, 97, 117, 108, 116]⟩, .bool false, .int .i64 5, .int .u8 0, .string ⟨#[]⟩, .int .u8 1, .int .i64 0, .int .i64 0, .bool false, .int .i64 0, .bool false] 92)).alloc (.cells #[.string ⟨#[97]⟩, .string ⟨#[100, 101, 102, 97, 117, 108, 116]⟩, .bool false, .int .i64 5, .int .u8 0, .string ⟨#[]⟩, .int .u8 0, .int .i64 0, .int .i64 0, .bool false, .int .i64 0, .bool false, .string ⟨#[97]⟩, .string ⟨#[100, 101, 102, 97, 117, 108, 116]⟩, .bool false, .int .i64 5, .int .u8 0, .string ⟨#[]⟩, .int .u8 1, .int .i64 0, .int .i64 0, .bool false, .int .i64 0, .bool false] 92)).heap[w.heap.size]? = some (.cells #[.string ⟨#[97]⟩, .string ⟨#[100, 101, 102, 97, 117, 108, 116]⟩, .bool false, .int .i64 5, .int .u8 0, .string ⟨#[]⟩, .int .u8 0, .int .i64 0, .int .i64 0, .bool false, .int .i64 0, .bool false] 92) :=
    (Below.block ((((Below.refl _ (w.alloc (.cells #[.string ⟨#[97]⟩, .string ⟨#[100, 101, 102, 97, 117, 108, 116]⟩, .bool false, .int .i64 5, .int .u8 0, .string ⟨#[]⟩, .int .u8 0, .int .i64 0, .int .i64 0, .bool false, .int .i64 0, .bool false] 92))).alloc (Nat.le_refl _) (.cells #[.string ⟨#[97]⟩, .string ⟨#[100, 101, 102, 97, 117, 108, 116]⟩, .bool false, .int .i64 5, .int .u8 0, .string ⟨#[]⟩, .int .u8 1, .int .i64 0, .int .i64 0, .bool false, .int .i64 0, .bool false] 92)).alloc (by simp) (.cells #[.string ⟨#[97]⟩, .string ⟨#[100, 101, 102, 97, 117, 108, 116]⟩, .bool false, .int .i64 5, .int .u8 0, .string ⟨#[]⟩, .int .u8 0, .int .i64 0, .int .i64 0, .bool false, .int .i64 0, .bool false, .string ⟨#[97]⟩, .string ⟨#[100, 101, 102, 97, 117, 108, 116]⟩, .bool false, .int .i64 5, .int .u8 0, .string ⟨#[]⟩, .int .u8 1, .int .i64 0, .int .i64 0, .bool false, .int .i64 0, .bool false] 92)) : Below (w.alloc (.cells #[.string ⟨#[97]⟩, .string ⟨#[100, 101, 102, 97, 117, 108, 116]⟩, .bool false, .int .i64 5, .int .u8 0, .string ⟨#[]⟩, .int .u8 0, .int .i64 0, .int .i64 0, .bool false, .int .i64 0, .bool false] 92)).heap.size _ _) w.heap.size (by simp)).trans (heap_alloc_new w _)
  have g2 : (((w.alloc (.cells #[.string ⟨#[97]⟩, .string ⟨#[100, 101, 102, 97, 117, 108, 116]⟩, .bool false, .int .i64 5, .int .u8 0, .string ⟨#[]⟩, .int .u8 0, .int .i64 0, .int .i64 0, .bool false, .int .i64 0, .bool false] 92)).alloc (.cells #[.string ⟨#[97]⟩, .string ⟨#[100, 101, 102, 97, 117, 108, 116]⟩, .bool false, .int .i64 5, .int .u8 0, .string ⟨#[]⟩, .int .u8 1, .int .i64 0, .int .i64 0, .bool false, .int .i64 0, .bool false] 92)).alloc (.cells #[.string ⟨#[97]⟩, .string ⟨#[100, 101, 102, 97, 117, 108, 116]⟩, .bool false, .int .i64 5, .int .u8 0, .string ⟨#[]⟩, .int .u8 0, .int .i64 0, .int .i64 0, .bool false, .int .i64 0, .bool false, .string ⟨#[97]⟩, .string ⟨#[100, 101, 102, 97, 117, 108, 116]⟩, .bool false, .int .i64 5, .int .u8 0, .string ⟨#[]⟩, .int .u8 1, .int .i64 0, .int .i64 0, .bool false, .int .i64 0, .bool false] 92)).heap[w.heap.size + 1]? = some (.cells #[.string ⟨#[97]⟩, .string ⟨#[100, 101, 102, 97, 117, 108, 116]⟩, .bool false, .int .i64 5, .int .u8 0, .string ⟨#[]⟩, .int .u8 1, .int .i64 0, .int .i64 0, .bool false, .int .i64 0, .bool false] 92) := by
    have h1 := heap_alloc_new (w.alloc (.cells #[.string ⟨#[97]⟩, .string ⟨#[100, 101, 102, 97, 117, 108, 116]⟩, .bool false, .int .i64 5, .int .u8 0, .string ⟨#[]⟩, .int .u8 0, .int .i64 0, .int .i64 0, .bool false, .int .i64 0, .bool false] 92)) (.cells #[.string ⟨#[97]⟩, .string ⟨#[100, 101, 102, 97, 117, 108, 116]⟩, .bool false, .int .i64 5, .int .u8 0, .string ⟨#[]⟩, .int .u8 1, .int .i64 0, .int .i64 0, .bool false, .int .i64 0, .bool false] 92)
    rw [World.size_alloc] at h1
    exact (Below.block (((Below.refl _ ((w.alloc (.cells #[.string ⟨#[97]⟩, .string ⟨#[100, 101, 102, 97, 117, 108, 116]⟩, .bool false, .int .i64 5, .int .u8 0, .string ⟨#[]⟩, .int .u8 0, .int .i64 0, .int .i64 0, .bool false, .int .i64 0, .bool false] 92)).alloc (.cells #[.string ⟨#[97]⟩, .string ⟨#[100, 101, 102, 97, 117, 108, 116]⟩, .bool false, .int .i64 5, .int .u8 0, .string ⟨#[]⟩, .int .u8 1, .int .i64 0, .int .i64 0, .bool false, .int .i64 0, .bool false] 92))).alloc (Nat.le_refl _) (.cells #[.string ⟨#[97]⟩, .string ⟨#[100, 101, 102, 97, 117, 108, 116]⟩, .bool false, .int .i64 5, .int .u8 0, .string ⟨#[]⟩, .int .u8 0, .int .i64 0, .int .i64 0, .bool false, .int .i64 0, .bool false, .string ⟨#[97]⟩, .string ⟨#[100, 101, 102, 97, 117, 108, 116]⟩, .bool false, .int .i64 5, .int .u8 0, .string ⟨#[]⟩, .int .u8 1, .int .i64 0, .int .i64 0, .bool false, .int .i64 0, .bool false] 92)) : Below ((w.alloc (.cells #[.string ⟨#[97]⟩, .string ⟨#[100, 101, 102, 97, 117, 108, 116]⟩, .bool false, .int .i64 5, .int .u8 0, .string ⟨#[]⟩, .int .u8 0, .int .i64 0, .int .i64 0, .bool false, .int .i64 0, .bool false] 92)).alloc (.cells #[.string ⟨#[97]⟩, .string ⟨#[100, 101, 102, 97, 117, 108, 116]⟩, .bool false, .int .i64 5, .int .u8 0, .string ⟨#[]⟩, .int .u8 1, .int .i64 0, .int .i64 0, .bool false, .int .i64 0, .bool false] 92)).heap.size _ _) (w.heap.size + 1) (by simp)).trans h1
  have hB0 : Below w.heap.size w (((w.alloc (.cells #[.string ⟨#[97]⟩, .string ⟨#[100, 101, 102, 97, 117, 108, 116]⟩, .bool false, .int .i64 5, .int .u8 0, .string ⟨#[]⟩, .int .u8 0, .int .i64 0, .int .i64 0, .bool false, .int .i64 0, .bool false] 92)).alloc (.cells #[.string ⟨#[97]⟩, .string ⟨#[100, 101, 102, 97, 117, 108, 116]⟩, .bool false, .int .i64 5, .int .u8 0, .string ⟨#[]⟩, .int .u8 1, .int .i64 0, .int .i64 0, .bool false, .int .i64 0, .bool false] 92)).alloc (.cells #[.string ⟨#[97]⟩, .string ⟨#[100, 101, 102, 97, 117, 108, 116]⟩, .bool false, .int .i64 5, .int .u8 0, .string ⟨#[]⟩, .int .u8 0, .int .i64 0, .int .i64 0, .bool false, .int .i64 0, .bool false, .string ⟨#[97]⟩, .string ⟨#[100, 101, 102, 97, 117, 108, 116]⟩, .bool false, .int .i64 5, .int .u8 0, .string ⟨#[]⟩, .int .u8 1, .int .i64 0, .int .i64 0, .bool false, .int .i64 0, .bool false] 92)) := (((Below.refl _ w).alloc (Nat.le_refl _) _).alloc (by simp) _).alloc (by simp; omega) _
  have hs0 : w.heap.size + 1 < (((w.alloc (.cells #[.string ⟨#[97]⟩, .string ⟨#[100, 101, 102, 97, 117, 108, 116]⟩, .bool false, .int .i64 5, .int .u8 0, .string ⟨#[]⟩, .int .u8 0, .int .i64 0, .int .i64 0, .bool false, .int .i64 0, .bool false] 92)).alloc (.cells #[.string ⟨#[97]⟩, .string ⟨#[100, 101, 102, 97, 117, 108, 116]⟩, .bool false, .int .i64 5, .int .u8 0, .string ⟨#[]⟩, .int .u8 1, .int .i64 0, .int .i64 0, .bool false, .int .i64 0, .bool false] 92)).alloc (.cells #[.string ⟨#[97]⟩, .string ⟨#[100, 101, 102, 97, 117, 108, 116]⟩, .bool false, .int .i64 5, .int .u8 0, .string ⟨#[]⟩, .int .u8 0, .int .i64 0, .int .i64 0, .bool false, .int .i64 0, .bool false, .string ⟨#[97]⟩, .string ⟨#[100, 101, 102, 97, 117, 108, 116]⟩, .bool false, .int .i64 5, .int .u8 0, .string ⟨#[]⟩, .int .u8 1, .int .i64 0, .int .i64 0, .bool false, .int .i64 0, .bool false] 92)).heap.size := by simp
  have hfl := flows2 ((w.alloc (.cells #[.string ⟨#[97]⟩, .string ⟨#[100, 101, 102, 97, 117, 108, 116]⟩, .bool false, .int .i64 5, .int .u8 0, .string ⟨#[]⟩, .int .u8 0, .int .i64 0, .int .i64 0, .bool false, .int .i64 0, .bool false] 92)).alloc (.cells #[.string ⟨#[97]⟩, .string ⟨#[100, 101, 102, 97, 117, 108, 116]⟩, .bool false, .int .i64 5, .int .u8 0, .string ⟨#[]⟩, .int .u8 1, .int .i64 0, .int .i64 0, .bool false, .int .i64 0, .bool false] 92)) 92
  have hW : Calls Try.prog 28 #[.agg #[.slice (some ⟨((w.alloc (.cells #[.string ⟨#[97]⟩, .string ⟨#[100, 101, 102, 97, 117, 108, 116]⟩, .bool false, .int .i64 5, .int .u8 0, .string ⟨#[]⟩, .int .u8 0, .int .i64 0, .int .i64 0, .bool false, .int .i64 0, .bool false] 92)).alloc (.cells #[.string ⟨#[97]⟩, .string ⟨#[100, 101, 102, 97, 117, 108, 116]⟩, .bool false, .int .i64 5, .int .u8 0, .string ⟨#[]⟩, .int .u8 1, .int .i64 0, .int .i64 0, .bool false, .int .i64 0, .bool false] 92)).heap.size, 0, none⟩) 2 2, .slice none 0 0, .slice none 0 0, .slice none 0 0, .slice none 0 0]] (((w.alloc (.cells #[.string ⟨#[97]⟩, .string ⟨#[100, 101, 102, 97, 117, 108, 116]⟩, .bool false, .int .i64 5, .int .u8 0, .string ⟨#[]⟩, .int .u8 0, .int .i64 0, .int .i64 0, .bool false, .int .i64 0, .bool false] 92)).alloc (.cells #[.string ⟨#[97]⟩, .string ⟨#[100, 101, 102, 97, 117, 108, 116]⟩, .bool false, .int .i64 5, .int .u8 0, .string ⟨#[]⟩, .int .u8 1, .int .i64 0, .int .i64 0, .bool false, .int .i64 0, .bool false] 92)).alloc (.cells #[.string ⟨#[97]⟩, .string ⟨#[100, 101, 102, 97, 117, 108, 116]⟩, .bool false, .int .i64 5, .int .u8 0, .string ⟨#[]⟩, .int .u8 0, .int .i64 0, .int .i64 0, .bool false, .int .i64 0, .bool false, .string ⟨#[97]⟩, .string ⟨#[100, 101, 102, 97, 117, 108, 116]⟩, .bool false, .int .i64 5, .int .u8 0, .string ⟨#[]⟩, .int .u8 1, .int .i64 0, .int .i64 0, .bool false, .int .i64 0, .bool false] 92)) (WherePost nn er (((w.alloc (.cells #[.string ⟨#[97]⟩, .string ⟨#[100, 101, 102, 97, 117, 108, 116]⟩, .bool false, .int .i64 5, .int .u8 0, .string ⟨#[]⟩, .int .u8 0, .int .i64 0, .int .i64 0, .bool false, .int .i64 0, .bool false] 92)).alloc (.cells #[.string ⟨#[97]⟩, .string ⟨#[100, 101, 102, 97, 117, 108, 116]⟩, .bool false, .int .i64 5, .int .u8 0, .string ⟨#[]⟩, .int .u8 1, .int .i64 0, .int .i64 0, .bool false, .int .i64 0, .bool false] 92)).alloc (.cells #[.string ⟨#[97]⟩, .string ⟨#[100, 101, 102, 97, 117, 108, 116]⟩, .bool false, .int .i64 5, .int .u8 0, .string ⟨#[]⟩, .int .u8 0, .int .i64 0, .int .i64 0, .bool false, .int .i64 0, .bool false, .string ⟨#[97]⟩, .string ⟨#[100, 101, 102, 97, 117, 108, 116]⟩, .bool false, .int .i64 5, .int .u8 0, .string ⟨#[]⟩, .int .u8 1, .int .i64 0, .int .i64 0, .bool false, .int .i64 0, .bool false] 92))) :=
    Where_any (an ((w.alloc (.cells #[.string ⟨#[97]⟩, .string ⟨#[100, 101, 102, 97, 117, 108, 116]⟩, .bool false, .int .i64 5, .int .u8 0, .string ⟨#[]⟩, .int .u8 0, .int .i64 0, .int .i64 0, .bool false, .int .i64 0, .bool false] 92)).alloc (.cells #[.string ⟨#[97]⟩, .string ⟨#[100, 101, 102, 97, 117, 108, 116]⟩, .bool false, .int .i64 5, .int .u8 0, .string ⟨#[]⟩, .int .u8 1, .int .i64 0, .int .i64 0, .bool false, .int .i64 0, .bool false] 92)).heap.size) nn nn er (((w.alloc (.cells #[.string ⟨#[97]⟩, .string ⟨#[100, 101, 102, 97, 117, 108, 116]⟩, .bool false, .int .i64 5, .int .u8 0, .string ⟨#[]⟩, .int .u8 0, .int .i64 0, .int .i64 0, .bool false, .int .i64 0, .bool false] 92)).alloc (.cells #[.string ⟨#[97]⟩, .string ⟨#[100, 101, 102, 97, 117, 108, 116]⟩, .bool false, .int .i64 5, .int .u8 0, .string ⟨#[]⟩, .int .u8 1, .int .i64 0, .int .i64 0, .bool false, .int .i64 0, .bool false] 92)).alloc (.cells #[.string ⟨#[97]⟩, .string ⟨#[100, 101, 102, 97, 117, 108, 116]⟩, .bool false, .int .i64 5, .int .u8 0, .string ⟨#[]⟩, .int .u8 0, .int .i64 0, .int .i64 0, .bool false, .int .i64 0, .bool false, .string ⟨#[97]⟩, .string ⟨#[100, 101, 102, 97, 117, 108, 116]⟩, .bool false, .int .i64 5, .int .u8 0, .string ⟨#[]⟩, .int .u8 1, .int .i64 0, .int .i64 0, .bool false, .int .i64 0, .bool false] 92)) (hid (says hfl))
  rw [World.size_alloc, World.size_alloc] at hW
  have HW := hid hW
  have G1 := hid g1; have G2 := hid g2; have HB0 := hid hB0
  clear hfl hW g1 g2 hB0
  have HFG := hid (fun w => (Flow_any good w (by decide) (by decide) (by decide)))
  have HFB := hid (fun w => (Flow_any bad w (by decide) (by decide) (by decide)))
  rw [good_ok] at HFG
  rw [bad_not] at HFB
  unfold fv good at HFG
  unfold fv bad at HFB
  have HN := hid (fun w => IsName_any ⟨#[97, 32, 98]⟩ w (by decide))
  rw [ab_not] at HN
  go_enter Try.func30, Try.ntmps30
  go_wp2_with fail
  generalize (((w.alloc (.cells #[.string ⟨#[97]⟩, .string ⟨#[100, 101, 102, 97, 117, 108, 116]⟩, .bool false, .int .i64 5, .int .u8 0, .string ⟨#[]⟩, .int .u8 0, .int .i64 0, .int .i64 0, .bool false, .int .i64 0, .bool false] 92)).alloc (.cells #[.string ⟨#[97]⟩, .string ⟨#[100, 101, 102, 97, 117, 108, 116]⟩, .bool false, .int .i64 5, .int .u8 0, .string ⟨#[]⟩, .int .u8 1, .int .i64 0, .int .i64 0, .bool false, .int .i64 0, .bool false] 92)).alloc (.cells #[.string ⟨#[97]⟩, .string ⟨#[100, 101, 102, 97, 117, 108, 116]⟩, .bool false, .int .i64 5, .int .u8 0, .string ⟨#[]⟩, .int .u8 0, .int .i64 0, .int .i64 0, .bool false, .int .i64 0, .bool false, .string ⟨#[97]⟩, .string ⟨#[100, 101, 102, 97, 117, 108, 116]⟩, .bool false, .int .i64 5, .int .u8 0, .string ⟨#[]⟩, .int .u8 1, .int .i64 0, .int .i64 0, .bool false, .int .i64 0, .bool false] 92)) = w3 at *
  refine HW.out.mono ?_
  rintro e w4 ⟨k, i, er1, rfl, hres, hb⟩
  obtain ⟨rfl, rfl, rfl⟩ := res_is hres
  have HB4 := hid (HB0.out.trans (hb.mono HB0.out.size))
  have b1 := (hb.block _ (by omega)).trans G1.out
  have b2 := hid ((hb.block _ hs0).trans G2.out)
  have hs4 := hid (Nat.lt_of_lt_of_le hs0 hb.size)
  have c0 := cell_of b1 0 _ rfl
  have c1 := cell_of b1 1 _ rfl
  have c2 := cell_of b1 2 _ rfl
  have c3 := cell_of b1 3 _ rfl
  have c4 := cell_of b1 4 _ rfl
  have c5 := cell_of b1 5 _ rfl
  have c6 := cell_of b1 6 _ rfl
  have c7 := cell_of b1 7 _ rfl
  have c8 := cell_of b1 8 _ rfl
  have c9 := cell_of b1 9 _ rfl
  have c10 := cell_of b1 10 _ rfl
  have c11 := cell_of b1 11 _ rfl
  clear b1 hres hb HW
  go_wp2_with fail
  refine (HFG.out _).mono ?_
  rintro e w5 ⟨rfl, hb5⟩
  have HB5 := hid (HB4.out.trans (hb5.mono HB4.out.size))
  have b25 := (hb5.block _ hs4.out).trans b2.out
  clear hb5 c0 c1 c2 c3 c4 c5 c6 c7 c8 c9 c10 c11
  have c0 := cell_of b25 0 _ rfl
  have c1 := cell_of b25 1 _ rfl
  have c2 := cell_of b25 2 _ rfl
  have c3 := cell_of b25 3 _ rfl
  have c4 := cell_of b25 4 _ rfl
  have c5 := cell_of b25 5 _ rfl
  have c6 := cell_of b25 6 _ rfl
  have c7 := cell_of b25 7 _ rfl
  have c8 := cell_of b25 8 _ rfl
  have c9 := cell_of b25 9 _ rfl
  have c10 := cell_of b25 10 _ rfl
  have c11 := cell_of b25 11 _ rfl
  clear b25
  go_wp2_with fail
  refine (HFB.out _).mono ?_
  rintro e w6 ⟨rfl, hb6⟩
  have HB6 := hid (HB5.out.trans (hb6.mono HB5.out.size))
  clear hb6 c0 c1 c2 c3 c4 c5 c6 c7 c8 c9 c10 c11
  go_wp2_with fail
  refine (HN.out _).mono ?_
  rintro e w7 ⟨rfl, rfl⟩
  go_wp2_with fail
  go_ret
  exact ⟨rfl, HB6.out⟩

end Go.Proofs.Ytcedbgoopolmdaa.RulG
