/- What must be of a sketch whatever is asked; where there is none. -/
import Derived.Test.YtnpldfacnmhemaaSkQ
namespace Go.Proofs.Ytnpldfacnmhemaa.SkR
open Go.ChangeShapes Go.WideShapes Go.ChangeAt Go.RowKit Base Wri Map WldF WldG SkK SkA SkB SkC SkD SkE SkF SkG SkH SkI SkJ SkL SkM SkN SkP SkQ

variable {w w' : World} {p q last t : Nat} {go : Option Nat} {X : Shp} {ns : List Note} {qs : List Nat} {mpf : Nat → Nat}

/-- a sketch that a call owns -/
structure Own (w0 w : World) (p : Nat) (go : Option Nat) (X : Shp) (q last : Nat) (ns : List Note) (qs : List Nat) (mpf : Nat → Nat) : Prop where
  full : Full w p go X q last ns qs mpf
  up : ∀ k, Ft p go qs mpf k → w0.heap.size ≤ k
  bel : Below w0.heap.size w0 w

theorem Own.below {w0 : World} (h : Own w0 w p go X q last ns qs mpf) (hb : Below w.heap.size w w') : Own w0 w' p go X q last ns qs mpf := ⟨h.full.below hb, h.up, h.bel.trans (hb.mono h.bel.size)⟩
theorem Own.added {w0 : World} {ns' : List Note} (h : Own w0 w p go X q last ns qs mpf) (ha : AddPost w p go X q t ns' qs mpf w') : ∃ go' qs' mpf', Own w0 w' p go' X q t ns' qs' mpf' := by
  obtain ⟨go', qs', mpf', h1, h2, h3⟩ := ha
  refine ⟨go', qs', mpf', h1, fun k hk => (h3 k hk).elim (h.up k) (fun e => Nat.le_trans h.bel.size e), h.bel.trans (h2.below _ h.bel.size h.up)⟩

def lX : Shp := ⟨1000000, 10, 2, 64, 1⟩
theorem lok : Ok lX 100000 := by constructor <;> decide
def lN : List Note := [⟨0, ⟨#[97]⟩, 3⟩]

theorem row_in (t r : Nat) (h : t / 100000 < 10) : rowN 100000 lX lN t r (colN lX.seed lX.co r ⟨#[97]⟩) = 3 := by
  have : inW 100000 lX.bk t 0 = true := decide_eq_true (by show t / 100000 < 0 + 10; omega)
  unfold rowN lN
  rw [sumN_cons, sumN_nil]
  simp [this, sat]
theorem row_out (t r : Nat) (h : 10 ≤ t / 100000) : rowN 100000 lX lN t r (colN lX.seed lX.co r ⟨#[97]⟩) = 0 := by
  have : inW 100000 lX.bk t 0 = false := decide_eq_false (by show ¬ t / 100000 < 0 + 10; omega)
  unfold rowN lN
  rw [sumN_cons, sumN_nil]
  simp [this, sat]
theorem est_in : estN 100000 lX lN 999999 ⟨#[97]⟩ = 3 := by
  unfold estN
  show least 2 _ = 3
  rw [least_succ, least_succ, row_in 999999 0 (by decide), row_in 999999 1 (by decide)]
  rfl
theorem est_out : estN 100000 lX lN 1000000 ⟨#[97]⟩ = 0 := by
  unfold estN
  show least 2 _ = 0
  rw [least_succ, least_succ, row_out 1000000 0 (by decide), row_out 1000000 1 (by decide)]
  rfl
theorem tot_in : totalN 100000 lX.bk lN 5 = 3 := by
  have : inW 100000 lX.bk 5 0 = true := by decide
  unfold totalN lN
  rw [sumN_cons, sumN_nil]
  simp [this, sat]

theorem hash_a : hashN ⟨#[97]⟩ = 12638187200555641996 := by decide +kernel

theorem good_two : goodC (fun i => (((fun i => if i = 0 then 1 else 2) i : Nat) : Int)) 2 = true := by
  unfold goodC
  rw [decide_eq_true_iff]
  intro i hi
  rcases (show i = 0 ∨ i = 1 by omega) with rfl | rfl <;> decide

set_option maxRecDepth 100000 in
set_option maxHeartbeats 4000000 in
theorem live_look (w : World) :
    Calls Try.prog 7 #[] w fun e w' => e = .returned (.bool true) ∧ Below w.heap.size w w' := by
  have HN := hid (New_yes lX 100000 lok w)
  go_enter Try.func7, Try.ntmps7
  go_wp2_with fail
  refine HN.out.mono ?_
  rintro e w1 ⟨p, rfl, hp, hf, hb⟩
  have hO : Own w w1 p none lX 100000 0 [] [] (fun _ => 0) := ⟨hf, (fun k hk => by
    rcases hk with e | e | e
    · omega
    · cases e
    · rcases e with ⟨b, hb', _⟩; cases hb'), hb⟩
  have HO := hid hO
  have hnp := heap_alloc_new w1 (.cells #[.int .i64 1, .int .i64 2] 3)
  have hO2 := hO.below ((Below.refl _ w1).alloc (Nat.le_refl _) (.cells #[.int .i64 1, .int .i64 2] 3))
  have HA := hid (Add_yes hO2.full (Nat.le_refl 0) (by omega) ⟨#[97]⟩ (by decide) (some ⟨w1.heap.size, 0, none⟩) 2 2 (fun i => if i = 0 then 1 else 2) (by omega) (fun _ => ⟨w1.heap.size, 0, rfl, by simp, fun i hi => by
    rcases (show i = 0 ∨ i = 1 by omega) with rfl | rfl
    · unfold World.cell?; rw [hnp]; rfl
    · unfold World.cell?; rw [hnp]; rfl⟩) good_two (fun _ g o e hh => by cases e; have := hO.full.lt hh; omega))
  have HO2 := hid hO2
  have es : SkD.sumTo (fun i => if i = 0 then 1 else 2) 2 = 3 := rfl
  rw [es] at HA
  clear HN hf hb hO hnp hO2 es
  go_wp2_with fail
  refine HA.out.mono ?_
  rintro e w2 ⟨rfl, ha⟩
  obtain ⟨go', qs', mpf', hO3⟩ := HO2.out.added ha
  have HO3 := hid hO3
  have HE1 := hid (Estimate_yes hO3.full (t := 999999) (by decide) (by decide) ⟨#[97]⟩ (by decide))
  rw [show ([] ++ [⟨0, ⟨#[97]⟩, 3⟩] : List Note) = lN from rfl] at HO3 HE1
  rw [est_in] at HE1
  clear HA HO HO2 ha hO3
  go_wp2_with fail
  refine HE1.out.mono ?_
  rintro e w3 ⟨rfl, b3⟩
  have HO4 := hid (HO3.out.below b3)
  have HE2 := hid (Estimate_yes HO4.out.full (t := 1000000) (by decide) (by decide) ⟨#[97]⟩ (by decide))
  rw [est_out] at HE2
  clear HE1 HO3 b3
  go_wp2_with fail
  refine HE2.out.mono ?_
  rintro e w4 ⟨rfl, b4⟩
  have HO5 := hid (HO4.out.below b4)
  have HT := hid (Total_yes HO5.out.full (t := 5) (by decide) (by decide))
  rw [show totalN 100000 lX.bk lN 5 = 3 from tot_in] at HT
  clear HE2 HO4 b4
  go_wp2_with fail
  refine HT.out.mono ?_
  rintro e w5 ⟨rfl, b5⟩
  have hb := (HO5.out.below b5).bel
  have HH := hid (hash_any ⟨#[97]⟩ w5 (by decide))
  rw [hash_a] at HH
  clear HT HO5 b5
  go_wp2_with fail
  refine HH.out.mono ?_
  rintro e w6 ⟨rfl, rfl⟩
  clear HH
  go_wp2_with fail
  go_ret
  exact ⟨rfl, hb⟩

end Go.Proofs.Ytnpldfacnmhemaa.SkR
