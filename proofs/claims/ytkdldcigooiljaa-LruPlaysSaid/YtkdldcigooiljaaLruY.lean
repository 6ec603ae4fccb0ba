/- LruPlays: a map and its fork, the program's and the document's; deeds where there is no map. -/
import Derived.Test.YtkdldcigooiljaaLruX
namespace Go.Proofs.Ytkdldcigooiljaa.LruY
open Go.ChangeShapes Go.WideShapes Go.ChangeAt Go.RowKit Go.Deep Base Wri LruA LruB LruC LruD LruE LruF LruL LruR LruU LruV LruW LruX RefL RefM RefN RefO RefP

variable {S S2 : Spot} {L L2 : List Ent} {w0 w w1 w2 : World} {rb rb2 : Nat} {v v2 : Value}

/-- apart from one another -/
def Apart (S : Spot) (L : List Ent) (rb : Nat) (v : Value) (S2 : Spot) (L2 : List Ent) (rb2 : Nat) (v2 : Value) : Prop := ∀ k, Ft S L rb v k → ¬ Ft S2 L2 rb2 v2 k

/-- both pairs, the second one a fork -/
structure Four (w0 w : World) (S : Spot) (L : List Ent) (rb : Nat) (v : Value) (S2 : Spot) (L2 : List Ent) (rb2 : Nat) (v2 : Value) : Prop where
  one : Two w0 w S L rb v
  two : Two w0 w S2 L2 rb2 v2
  far : Apart S L rb v S2 L2 rb2 v2

theorem Four.below (h : Four w0 w S L rb v S2 L2 rb2 v2) (hb : Below w.heap.size w w1) : Four w0 w1 S L rb v S2 L2 rb2 v2 := ⟨h.one.below hb, h.two.below hb, h.far⟩

/-- behind a deed on the first pair -/
theorem Four.thn (h : Four w0 w S L rb v S2 L2 rb2 v2) (ht : Then w0 w S L rb v w1) : ∃ L' v', Four w0 w1 S L' rb v' S2 L2 rb2 v2 ∧ Wr (Ft S L rb v) w w1 := by
  obtain ⟨L', v', h1, hw, hf⟩ := ht
  refine ⟨L', v', ⟨h1, h.two.wr hw (fun k hk e => h.far k e hk), fun k hk e => ?_⟩, hw⟩
  rcases hf k hk with e2 | e2
  · exact h.far k e2 e
  · have := h.two.lt e; omega

/-- both forks -/
theorem Two.forked (h : Two w0 w S L rb v) (hw0 : w0.heap.size ≤ w.heap.size) (hm : S2.most = S.most) (h1 : IsLru w1 S2 L2) (hk : kvs L2 = kvs L) (hup : ∀ k, Has S2 L2 k → w.heap.size ≤ k) (hb1 : Below w.heap.size w w1)
    (h2 : RM w0 w2 w1.heap.size S.most v2 (kvs L)) (hv2 : ∀ g, v2.ownBlock = some g → w1.heap.size ≤ g) (hb2 : Below w1.heap.size w1 w2) : Four w0 w2 S L rb v S2 L2 w1.heap.size v2 := by
  have hs1 := hb1.size
  refine ⟨h.below (hb1.trans (hb2.mono hs1)), ⟨h1.below hb2, by rw [hm, hk]; exact h2, fun k e => Nat.le_trans hw0 (hup k e), fun k e => ⟨fun e2 => ?_, fun e2 => ?_⟩⟩, fun k hk hk2 => ?_⟩
  · have := h1.rest.lt k e; omega
  · have := h1.rest.lt k e; have := hv2 k e2; omega
  · have hl := h.lt hk
    rcases hk2 with e | e | e
    · have := hup k e; omega
    · omega
    · have := hv2 k e; omega

/-- a deed where there is no map -/
theorem do_nil (k : Int) (s : ByteArray) (x : Int) (a : Option Addr) (n cap : Nat) (f : Nat → ByteArray) (w : World) (hn : n ≤ 9223372036854775807) (hf : Strs w a n f) :
    Calls Try.prog 17 #[.pointer none, .pointer none, .agg (dv k s x (.slice a n cap))] w fun e w' => e = .returned (.bool true) ∧ Below w.heap.size w w' := by
  have hB := wb_below w k s x (.slice a n cap)
  by_cases h0 : k = 0
  · subst h0
    refine (do_put _ _ s x a n cap w ⟨#[]⟩ false 1 (fun w1 => wb w 0 s x (.slice a n cap) = w1) (fun w2 => wb w 0 s x (.slice a n cap) = w2) (hid (put_nil s x _)) (hid ?_)).mono (fun e w' hh => ⟨hh.1, hh.2 ▸ hB⟩)
    rintro w1 rfl
    exact ⟨wb_new w 0 s x _, rput_nil s x _⟩
  by_cases h1 : k = 1
  · subst h1
    refine (do_get _ _ s x a n cap w false 0 (fun w1 => wb w 1 s x (.slice a n cap) = w1) (fun w2 => wb w 1 s x (.slice a n cap) = w2) (hid (get_nil s _)) (hid ?_)).mono (fun e w' hh => ⟨hh.1, hh.2 ▸ hB⟩)
    rintro w1 rfl
    exact ⟨wb_new w 1 s x _, rget_nil s _⟩
  by_cases h2 : k = 2
  · subst h2
    refine (do_peek _ _ s x a n cap w false 0 (fun w1 => wb w 2 s x (.slice a n cap) = w1) (fun w2 => wb w 2 s x (.slice a n cap) = w2) (hid (peek_nil s _)) (hid ?_)).mono (fun e w' hh => ⟨hh.1, hh.2 ▸ hB⟩)
    rintro w1 rfl
    exact ⟨wb_new w 2 s x _, rpeek_nil s _⟩
  have strs : ∀ {w1 : World}, Below w.heap.size w w1 → Strs w1 a n f := fun {w1} hb h0 => by
    obtain ⟨g, o, rfl, hg, hc⟩ := hf h0
    exact ⟨g, o, rfl, Nat.lt_of_lt_of_le hg hb.size, fun i hi => (hb.cell (p := ⟨g, o + i, none⟩) hg).trans (hc i hi)⟩
  refine (do_drop _ _ k s x a n cap w (by simpa using h0) (by simpa using h1) (by simpa using h2) 0 (fun w1 => w1.heap = (wb w k s x (.slice a n cap)).heap ∧ Below w.heap.size w w1) (fun w2 => w2.heap = (wb w k s x (.slice a n cap)).heap ∧ Below w.heap.size w w2)
    (hid ((drop_nil a n cap f _ hn (strs hB.drew)).mono ?_)) (hid ?_) (hid fun w2 h2 => (dv_cells ((by rw [h2.1]; exact wb_new w k s x _ : w2.heap[w.heap.size]? = _))).2.2.2)).mono (fun e w' hh => ⟨hh.1, hh.2.2⟩)
  · rintro e w' ⟨he, m, rfl⟩
    exact ⟨he, rfl, below_drewN hB.drew m⟩
  · rintro w1 ⟨hw1, hb1⟩
    refine ⟨by rw [hw1]; exact wb_new w k s x _, (rdrop_nil a n cap f w1 hn (strs hb1)).mono ?_⟩
    rintro e w' ⟨he, m, rfl⟩
    exact ⟨he, hw1, below_drewN hb1 m⟩

end Go.Proofs.Ytkdldcigooiljaa.LruY
