/- Breakers: what the laws lean on, whatever the breaker is made of. -/
import Derived.Test.YtcmklahbophclaaBreP
import Derived.Test.YtcmklahbophclaaWldA
namespace Go.Proofs.Ytcmklahbophclaa.BreA
set_option linter.unusedVariables false
open Go.ChangeShapes Go.WideShapes Go.ChangeAt Go.RowKit Base WinM WinE BreP

abbrev ptr (p : Nat) : Value := .pointer (some ⟨p, 0, none⟩)
def rv (r : Rule) : Value := .agg #[.string r.nm, .int .u8 r.g, .int .i64 r.count, .int .i64 r.slow, .int .i64 r.least, .int .i64 r.width, .int .i64 r.rcv]

/-- what a right rule keeps -/
structure RuleGood (r : Rule) : Prop where
  rcv0 : 0 ≤ r.rcv
  rcv1 : r.rcv ≤ 3600000000
  slow : r.g = 0 → 0 ≤ r.slow
  cnt0 : 0 ≤ r.count
  cnt1 : r.count ≤ 1099511627776
  wid0 : 1000000 ≤ r.width
  wid1 : r.width ≤ 120000000

structure Dd where
  kd : Int
  t : Int
  rt : Int
  f : Bool
  pr : Bool
deriving Inhabited

/-- deeds that came in -/
def Deeds (w : World) (a : Option Addr) (n : Nat) (D : Nat → Dd) : Prop :=
  0 < n → ∃ g o, a = some ⟨g, o, none⟩ ∧ g < w.heap.size ∧ ∀ i, i < n → w.cell? ⟨g, o + i * 5, none⟩ = some (.int .i64 (D i).kd) ∧ w.cell? ⟨g, o + i * 5 + 1, none⟩ = some (.int .i64 (D i).t) ∧ w.cell? ⟨g, o + i * 5 + 2, none⟩ = some (.int .i64 (D i).rt) ∧ w.cell? ⟨g, o + i * 5 + 3, none⟩ = some (.bool (D i).f) ∧ w.cell? ⟨g, o + i * 5 + 4, none⟩ = some (.bool (D i).pr)

abbrev Inv := World → Nat → (Nat → Prop) → Bk → Prop
def Moved (I : Inv) (w w' : World) (p : Nat) (H : Nat → Prop) (B' : Bk) : Prop := ∃ H', I w' p H' B' ∧ (∀ k, H' k → H k ∨ w.heap.size ≤ k) ∧ Lets H w w'

/-- a breaker in memory (I: at p, in blocks H, as B is), with the contracts of its calls -/
structure Api0 (I : Inv) (refR : Rule → Int) : Prop where
  keep : ∀ {w w' : World} {p : Nat} {H R : Nat → Prop} {B : Bk}, I w p H B → Lets R w w' → (∀ k, H k → ¬ R k) → I w' p H B
  ok : ∀ {w : World} {p : Nat} {H : Nat → Prop} {B : Bk}, I w p H B → B.Ok
  lt : ∀ {w : World} {p : Nat} {H : Nat → Prop} {B : Bk}, I w p H B → ∀ k, H k → k < w.heap.size
  new_ : ∀ (r : Rule) (w : World), r.nm.size ≤ maxLen → Calls Try.prog 10 #[rv r] w fun e w' =>
    (∃ p H, e = .returned (.tuple #[ptr p, .int .i64 0]) ∧ refR r = 0 ∧ RuleGood r ∧ I w' p H (fresh r) ∧ (∀ k, H k → w.heap.size ≤ k) ∧ Below w.heap.size w w') ∨ (refR r ≠ 0 ∧ e = .returned (.tuple #[.pointer none, .int .i64 (refR r)]) ∧ Below w.heap.size w w')
  state_ : ∀ {w : World} {p : Nat} {H : Nat → Prop} {B : Bk}, I w p H B → Calls Try.prog 15 #[ptr p] w fun e w' => e = .returned (.int .u8 B.st) ∧ Below w.heap.size w w'
  until_ : ∀ {w : World} {p : Nat} {H : Nat → Prop} {B : Bk}, I w p H B → Calls Try.prog 16 #[ptr p] w fun e w' => e = .returned (.tuple #[.int .i64 (if B.st = 1 then 0 else B.til : Nat), .bool (decide (B.st ≠ 1))]) ∧ Below w.heap.size w w'
  trips_ : ∀ {w : World} {p : Nat} {H : Nat → Prop} {B : Bk}, I w p H B → Calls Try.prog 21 #[ptr p] w fun e w' => e = .returned (.int .i64 B.trips) ∧ Below w.heap.size w w'
  enter_ : ∀ {w : World} {p : Nat} {H : Nat → Prop} {B : Bk} (t : Int), I w p H B → Calls Try.prog 17 #[ptr p, .int .i64 t] w fun e w' => e = .returned (.tuple #[.bool (goesB B t), .bool (goesB B t && decide (B.st = 2)), .int .i64 (refT B t 0)]) ∧ Moved I w w' p H (enterB B t)
  done_ : ∀ {w : World} {p : Nat} {H : Nat → Prop} {B : Bk} (t rt : Int) (f pr : Bool), I w p H B → (doneB B t rt f pr).n ≤ 10000000000000 → Calls Try.prog 18 #[ptr p, .int .i64 t, .int .i64 rt, .bool f, .bool pr] w fun e w' => e = .returned (.int .i64 (refD B t rt pr)) ∧ Moved I w w' p H (doneB B t rt f pr)
  give_ : ∀ {w : World} {p : Nat} {H : Nat → Prop} {B : Bk} (t : Int), I w p H B → Calls Try.prog 19 #[ptr p, .int .i64 t] w fun e w' => e = .returned (.int .i64 (refG B t)) ∧ Moved I w w' p H (giveB B t)
  look_ : ∀ {w : World} {p : Nat} {H : Nat → Prop} {B : Bk} (t : Int), I w p H B → Calls Try.prog 22 #[ptr p, .int .i64 t] w fun e w' => e = .returned (.tuple #[.bool (goesB B t), .int .i64 (refT B t 0)]) ∧ Below w.heap.size w w'

/-- and with what must be whatever is asked -/
structure Api (I : Inv) (refR : Rule → Int) : Prop extends Api0 I refR where
  live_ : ∀ (w : World), Calls Try.prog 9 #[] w fun e w' => e = .returned (.bool true) ∧ Below w.heap.size w w'

/-- a breaker of one's own: made behind w0 -/
def My (I : Inv) (w0 w : World) (p : Nat) (B : Bk) : Prop := ∃ H, I w p H B ∧ (∀ k, H k → w0.heap.size ≤ k) ∧ Below w0.heap.size w0 w

theorem moved_my {I : Inv} {w0 w w' : World} {p : Nat} {H : Nat → Prop} {B' : Bk} (h2 : ∀ k, H k → w0.heap.size ≤ k) (h3 : Below w0.heap.size w0 w) (hm : Moved I w w' p H B') : My I w0 w' p B' := by
  obtain ⟨H', a, b, c⟩ := hm
  exact ⟨H', a, fun k hk => (b k hk).elim (h2 k) (fun h => Nat.le_trans h3.size h), h3.trans (c.below _ h3.size h2)⟩

section
variable {I : Inv} {refR : Rule → Int} (A : Api I refR)
include A
theorem Api.below {w0 w w' : World} {p : Nat} {B : Bk} (h : My I w0 w p B) (hb : Below w.heap.size w w') : My I w0 w' p B := by
  obtain ⟨H, h1, h2, h3⟩ := h
  exact ⟨H, A.keep (R := fun _ => False) h1 (Lets.ofBelow hb) (fun _ _ h => h), h2, h3.trans (hb.mono h3.size)⟩
theorem Api.myOk {w0 w : World} {p : Nat} {B : Bk} (h : My I w0 w p B) : B.Ok := by obtain ⟨H, h1, -⟩ := h; exact A.ok h1
theorem Api.state {w0 w : World} {p : Nat} {B : Bk} (h : My I w0 w p B) : Calls Try.prog 15 #[ptr p] w fun e w' => e = .returned (.int .u8 B.st) ∧ My I w0 w' p B ∧ Below w.heap.size w w' := by
  obtain ⟨H, h1, -⟩ := id h
  exact (A.state_ h1).mono fun e w' x => ⟨x.1, A.below h x.2, x.2⟩
theorem Api.until {w0 w : World} {p : Nat} {B : Bk} (h : My I w0 w p B) : Calls Try.prog 16 #[ptr p] w fun e w' => e = .returned (.tuple #[.int .i64 (if B.st = 1 then 0 else B.til : Nat), .bool (decide (B.st ≠ 1))]) ∧ My I w0 w' p B ∧ Below w.heap.size w w' := by
  obtain ⟨H, h1, -⟩ := id h
  exact (A.until_ h1).mono fun e w' x => ⟨x.1, A.below h x.2, x.2⟩
theorem Api.trips {w0 w : World} {p : Nat} {B : Bk} (h : My I w0 w p B) : Calls Try.prog 21 #[ptr p] w fun e w' => e = .returned (.int .i64 B.trips) ∧ My I w0 w' p B ∧ Below w.heap.size w w' := by
  obtain ⟨H, h1, -⟩ := id h
  exact (A.trips_ h1).mono fun e w' x => ⟨x.1, A.below h x.2, x.2⟩
theorem Api.enter {w0 w : World} {p : Nat} {B : Bk} (t : Int) (h : My I w0 w p B) : Calls Try.prog 17 #[ptr p, .int .i64 t] w fun e w' => e = .returned (.tuple #[.bool (goesB B t), .bool (goesB B t && decide (B.st = 2)), .int .i64 (refT B t 0)]) ∧ My I w0 w' p (enterB B t) := by
  obtain ⟨H, h1, h2, h3⟩ := h
  exact (A.enter_ t h1).mono fun e w' x => ⟨x.1, moved_my h2 h3 x.2⟩
theorem Api.done {w0 w : World} {p : Nat} {B : Bk} (t rt : Int) (f pr : Bool) (h : My I w0 w p B) (ht : (doneB B t rt f pr).n ≤ 10000000000000) : Calls Try.prog 18 #[ptr p, .int .i64 t, .int .i64 rt, .bool f, .bool pr] w fun e w' => e = .returned (.int .i64 (refD B t rt pr)) ∧ My I w0 w' p (doneB B t rt f pr) := by
  obtain ⟨H, h1, h2, h3⟩ := h
  exact (A.done_ t rt f pr h1 ht).mono fun e w' x => ⟨x.1, moved_my h2 h3 x.2⟩
theorem Api.give {w0 w : World} {p : Nat} {B : Bk} (t : Int) (h : My I w0 w p B) : Calls Try.prog 19 #[ptr p, .int .i64 t] w fun e w' => e = .returned (.int .i64 (refG B t)) ∧ My I w0 w' p (giveB B t) := by
  obtain ⟨H, h1, h2, h3⟩ := h
  exact (A.give_ t h1).mono fun e w' x => ⟨x.1, moved_my h2 h3 x.2⟩
/-- a new one -/
theorem Api.new {w0 w : World} (r : Rule) (hs : r.nm.size ≤ maxLen) (hb : Below w0.heap.size w0 w) : Calls Try.prog 10 #[rv r] w fun e w' =>
    (∃ p, e = .returned (.tuple #[ptr p, .int .i64 0]) ∧ refR r = 0 ∧ RuleGood r ∧ My I w0 w' p (fresh r)) ∨ (refR r ≠ 0 ∧ e = .returned (.tuple #[.pointer none, .int .i64 (refR r)]) ∧ Below w0.heap.size w0 w') := by
  refine (A.new_ r w hs).mono ?_
  rintro e w' (⟨p, H, h1, h2, h3, h5, h6, h7⟩ | ⟨h1, h2, h3⟩)
  · exact .inl ⟨p, h1, h2, h3, H, h5, fun k hk => Nat.le_trans hb.size (h6 k hk), hb.trans (h7.mono hb.size)⟩
  · exact .inr ⟨h1, h2, hb.trans (h3.mono hb.size)⟩
end

end Go.Proofs.Ytcmklahbophclaa.BreA
