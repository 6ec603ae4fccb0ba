/- A sketch and all that was added to it. -/
import Derived.Test.YtnpldfacnmhemaaSkJ
namespace Go.Proofs.Ytnpldfacnmhemaa.SkL
open Go.ChangeShapes Go.WideShapes Go.ChangeAt Go.RowKit Base Wri Map WldF WldG SkK SkA SkB SkC SkD SkE SkF SkG SkH SkI SkJ

/-- a size that may be -/
structure Ok (X : Shp) (q : Nat) : Prop where
  w1 : X.wd ≤ 1099511627776
  b1 : 0 < X.bk
  b2 : X.bk ≤ 60
  r1 : 1 ≤ X.ro
  r2 : X.ro ≤ 8
  c1 : 1 ≤ X.co
  c2 : X.co ≤ 4096
  qe : X.wd / X.bk = q
  we : X.wd = q * X.bk
  q0 : 0 < q

/-- what was added in a bucket; of a column of a row -/
def totB (q : Nat) (ns : List Note) (b : Nat) : Nat := sumN ns fun x => x.t / q == b
def cntB (q : Nat) (X : Shp) (ns : List Note) (b r c : Nat) : Nat := sumN ns fun x => x.t / q == b && colN X.seed X.co r x.k == c

/-- the number that stands at a place: of the sketch's rows alone -/
def numF (q : Nat) (X : Shp) (ns : List Note) (b r c : Nat) : Nat := if r < X.ro then sat (cntB q X ns b r c) else 0

def bsOf (q : Nat) (ns : List Note) (mpf : Nat → Nat) (qs : List Nat) : List Bk := qs.map fun b => ⟨((b * q : Nat) : Int), (sat (totB q ns b) : Nat), mpf b⟩

structure Full (w : World) (p : Nat) (go : Option Nat) (X : Shp) (q last : Nat) (ns : List Note) (qs : List Nat) (mpf : Nat → Nat) : Prop where
  ok : Ok X q
  sk : IsSk w p go X last (bsOf q ns mpf qs)
  nums : ∀ b ∈ qs, Num w (mpf b) (numF q X ns b)
  far : ∀ b ∈ qs, mpf b ≠ p ∧ go ≠ some (mpf b)
  inj : ∀ b ∈ qs, ∀ b' ∈ qs, mpf b = mpf b' → b = b'
  inv : Inv q X.bk last ns qs
  late : last ≤ 1152921504606846976

variable {w w' : World} {p q last t : Nat} {go : Option Nat} {X : Shp} {ns : List Note} {qs : List Nat} {mpf : Nat → Nat}

/-- where it lies -/
def Ft (p : Nat) (go : Option Nat) (qs : List Nat) (mpf : Nat → Nat) (k : Nat) : Prop := k = p ∨ go = some k ∨ ∃ b ∈ qs, mpf b = k

theorem Full.lt (h : Full w p go X q last ns qs mpf) {k : Nat} (hk : Ft p go qs mpf k) : k < w.heap.size := by
  rcases hk with rfl | hk | ⟨b, hb, rfl⟩
  · exact h.sk.lt
  · exact h.sk.lt2 k hk
  · exact (h.nums b hb).lt
theorem Full.keep (h : Full w p go X q last ns qs mpf) (hk : ∀ k, Ft p go qs mpf k → w'.heap[k]? = w.heap[k]?) : Full w' p go X q last ns qs mpf :=
  ⟨h.ok, h.sk.keep fun k e => hk k (e.elim .inl (fun e => .inr (.inl e))), fun b hb => (h.nums b hb).of_block (hk _ (.inr (.inr ⟨b, hb, rfl⟩))), h.far, h.inj, h.inv, h.late⟩
theorem Full.below (h : Full w p go X q last ns qs mpf) (hb : Below w.heap.size w w') : Full w' p go X q last ns qs mpf := h.keep fun k e => hb.block k (h.lt e)

theorem rise_len : ∀ (l : List Nat) (lo hi : Nat), l.Pairwise (· < ·) → (∀ x ∈ l, lo ≤ x ∧ x ≤ hi) → l.length ≤ hi + 1 - lo
  | [], _, _, _, _ => Nat.zero_le _
  | x :: r, lo, hi, h, hb => by
    obtain ⟨h1, h2⟩ := List.pairwise_cons.1 h
    have hx := hb x List.mem_cons_self
    have := rise_len r (x + 1) hi h2 (fun y hy => ⟨h1 y hy, (hb y (List.mem_cons_of_mem _ hy)).2⟩)
    rw [List.length_cons]
    omega
theorem Full.len (h : Full w p go X q last ns qs mpf) : qs.length ≤ 60 := by
  have h1 := rise_len qs (last / q + 1 - X.bk) (last / q) h.inv.rise (fun x hx => by have := h.inv.win x hx; omega)
  have := h.ok.b2
  omega
theorem bs_len (q : Nat) (ns : List Note) (mpf : Nat → Nat) (qs : List Nat) : (bsOf q ns mpf qs).length = qs.length := List.length_map _

theorem toL_get {f : Nat → Bk} {n : Nat} {l : List Bk} (h : toL f n = l) {i : Nat} (hi : i < n) : l[i]? = some (f i) := by
  rw [← h]
  simp [toL, hi]

/-- what is told of its buckets, together -/
theorem sumK_of (ho : Ok X q) {f : Nat → Bk} {n : Nat} (hf : toL f n = bsOf q ns mpf qs) (hn : n = qs.length) (y : Nat → Nat) (x : Nat → Nat) (hx : ∀ i, i < n → x i = sat (y (qs[i]?.getD 0))) :
    sumK (((t - t % q : Nat) : Int) - X.wd + q) f x n = sat (((qs.filter (inW q X.bk t)).map y).sum) := by
  have key : ∀ k, k ≤ n → sumK (((t - t % q : Nat) : Int) - X.wd + q) f x k = sat ((((qs.take k).filter (inW q X.bk t)).map y).sum) := by
    intro k
    induction k with
    | zero => intro _; rfl
    | succ k ih =>
      intro hk
      have hkq : k < qs.length := by omega
      have hq : qs[k]? = some qs[k] := List.getElem?_eq_getElem hkq
      have hfk : f k = ⟨((qs[k] * q : Nat) : Int), (sat (totB q ns qs[k]) : Nat), mpf qs[k]⟩ := by
        have h1 := toL_get hf (i := k) (by omega)
        unfold bsOf at h1
        rw [List.getElem?_map, hq] at h1
        exact (Option.some.inj h1).symm
      have hw : ((t - t % q : Nat) : Int) - X.wd + q ≤ (f k).at_ ↔ t / q < qs[k] + X.bk := by
        rw [hfk]
        exact first_iff qs[k] X.wd ho.q0 ho.we
      have ht : qs.take (k + 1) = qs.take k ++ [qs[k]] := by rw [List.take_add_one, hq]; rfl
      have hxk : x k = sat (y qs[k]) := by rw [hx k (by omega), hq]; rfl
      rw [ht, List.filter_append, List.map_append, List.sum_append]
      by_cases hin : t / q < qs[k] + X.bk
      · rw [sumK_yes (hw.2 hin), ih (by omega), hxk, sat_add]
        simp [inW, hin]
      · rw [sumK_no (fun h => hin (hw.1 h)), ih (by omega)]
        simp [inW, hin]
  rw [key n (Nat.le_refl _), hn, List.take_length]

/-- how much was added in the window at a time; of a key's columns -/
def totalN (q bk : Nat) (ns : List Note) (t : Nat) : Nat := sat (sumN ns fun x => inW q bk t (x.t / q))
def rowN (q : Nat) (X : Shp) (ns : List Note) (t r c : Nat) : Nat := sat (sumN ns fun x => inW q X.bk t (x.t / q) && colN X.seed X.co r x.k == c)
def estN (q : Nat) (X : Shp) (ns : List Note) (t : Nat) (s : ByteArray) : Nat := least X.ro fun r => rowN q X ns t r (colN X.seed X.co r s)

theorem Full.total (h : Full w p go X q last ns qs mpf) (ht : last ≤ t) : sat (((qs.filter (inW q X.bk t)).map (totB q ns)).sum) = totalN q X.bk ns t := by
  have := h.inv.sum ht (fun _ => true)
  simp only [Bool.and_true] at this
  unfold totalN totB
  rw [this]
theorem Full.row (h : Full w p go X q last ns qs mpf) (ht : last ≤ t) (r c : Nat) : sat (((qs.filter (inW q X.bk t)).map (fun b => cntB q X ns b r c)).sum) = rowN q X ns t r c := by
  have := h.inv.sum ht (fun x => colN X.seed X.co r x.k == c)
  unfold rowN cntB
  rw [this]

theorem total_sum (h : Full w p go X q last ns qs mpf) (ht : last ≤ t) (ht2 : t ≤ 1152921504606846976) :
    Calls Try.prog 64 #[.pointer (some ⟨p, 0, none⟩), .int .i64 t, .func (Fn.func 65) #[] #[]] w fun e w' => e = .returned (.int .i64 (totalN q X.bk ns t)) ∧ Below w.heap.size w w' := by
  obtain ⟨_, v, hp, hv⟩ := h.sk
  have ho := h.ok
  rw [← h.total ht]
  rcases hv with ⟨_, rfl, h0⟩ | ⟨g, cap, f, _, rfl, hb, hf⟩
  · have : qs = [] := by
      cases qs with
      | nil => rfl
      | cons a r => cases h0
    subst this
    exact nil_tot p q t X last w (hid hp) ho.b1 ho.qe ho.q0 ho.w1 ht2
  · have hl := h.len
    rw [bs_len] at hp hb hf
    have hs := sumK_of (t := t) ho hf rfl (totB q ns) (fun i => sat (totB q ns (qs[i]?.getD 0))) (fun _ _ => rfl)
    rw [← hs]
    refine sum_tot p g cap qs.length q t X last f _ w (hid hp) (hid hb) (by omega) ho.b1 ho.qe ho.q0 ho.w1 ht2 (hid fun W i _ hi => ?_)
    have h1 := toL_get hf hi
    unfold bsOf at h1
    rw [List.getElem?_map, List.getElem?_eq_getElem hi] at h1
    have h2 := (Option.some.inj h1).symm
    rw [h2, List.getElem?_eq_getElem hi]
    exact total1_any _ _ _ W

theorem row_sum (h : Full w p go X q last ns qs mpf) (ht : last ≤ t) (ht2 : t ≤ 1152921504606846976) (r c F : Nat) (hr : r < X.ro) (hc : c < 4096) (hF : F < w.heap.size) (hF0 : w.cell? ⟨F, 0, none⟩ = some (.int .i64 r)) (hF1 : w.cell? ⟨F, 1, none⟩ = some (.int .i64 c)) :
    Calls Try.prog 64 #[.pointer (some ⟨p, 0, none⟩), .int .i64 t, .func (Fn.func 75) #[] #[.pointer (some ⟨F, 0, none⟩)]] w fun e w' => e = .returned (.int .i64 (rowN q X ns t r c)) ∧ Below w.heap.size w w' := by
  obtain ⟨_, v, hp, hv⟩ := h.sk
  have ho := h.ok
  rw [← h.row ht r c]
  rcases hv with ⟨_, rfl, h0⟩ | ⟨g, cap, f, _, rfl, hb, hf⟩
  · have : qs = [] := by
      cases qs with
      | nil => rfl
      | cons a r => cases h0
    subst this
    exact nil_est p q t X last F w (hid hp) ho.b1 ho.qe ho.q0 ho.w1 ht2
  · have hl := h.len
    rw [bs_len] at hp hb hf
    have hs := sumK_of (t := t) ho hf rfl (fun b => cntB q X ns b r c) (fun i => sat (cntB q X ns (qs[i]?.getD 0) r c)) (fun _ _ => rfl)
    rw [← hs]
    refine sum_est p g cap qs.length q t X last f _ F w (hid hp) (hid hb) (by omega) ho.b1 ho.qe ho.q0 ho.w1 ht2 (hid fun W i hW hi => ?_)
    have h1 := toL_get hf hi
    unfold bsOf at h1
    rw [List.getElem?_map, List.getElem?_eq_getElem hi] at h1
    have h2 := (Option.some.inj h1).symm
    rw [h2, List.getElem?_eq_getElem hi]
    have hm : qs[i] ∈ qs := List.getElem_mem hi
    have hN := h.nums _ hm
    have hml := hN.lt
    refine estimate1_any _ _ _ (mpf qs[i]) F r c W (Nat.lt_of_lt_of_le hF hW.size) ((hW.cell (p := ⟨F, 0, none⟩) hF).trans hF0) ((hW.cell (p := ⟨F, 1, none⟩) hF).trans hF1) (fun w1 e1 => ?_) (Nat.lt_of_lt_of_le hml hW.size)
    have hl8 := ((hN.of_block (hW.block _ hml)).of_block e1).look r c (by have := ho.r2; omega) hc
    unfold numF at hl8
    rw [if_pos hr] at hl8
    exact hl8

end Go.Proofs.Ytnpldfacnmhemaa.SkL
