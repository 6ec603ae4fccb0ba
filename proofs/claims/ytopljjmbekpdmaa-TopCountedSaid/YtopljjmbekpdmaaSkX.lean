/- SketchNever, apart from its walk: what is kept of the deeds that were done, and how much of a key. -/
import Derived.Test.YtopljjmbekpdmaaSkV
namespace Go.Proofs.Ytopljjmbekpdmaa.SkX
open Go.ChangeShapes Go.WideShapes Go.ChangeAt Go.RowKit Go.Deep Base Wri Map WldG SkK SkA SkB SkC SkD SkE SkF SkG SkH SkI SkJ SkL SkM SkN SkP SkQ SkR SkS SkT SkU SkV
set_option linter.unusedVariables false

variable {w w' w0 w1 : World} {p q last t : Nat} {go : Option Nat} {X Y : Shp} {ns : List Note} {qs : List Nat} {mpf : Nat → Nat}

/-- is a note of a key, and in the window? -/
def isOwn (q bk t : Nat) (K : ByteArray) (x : Note) : Bool := inW q bk t (x.t / q) && decide (x.k = K)
/-- how much of a key -/
def ownN (q bk t : Nat) (K : ByteArray) (ns : List Note) : Nat := sat (sumN ns (isOwn q bk t K))

theorem own_le_est (q t : Nat) (X : Shp) (K : ByteArray) (ns : List Note) : ownN q X.bk t K ns ≤ estN q X ns t K := by
  unfold ownN estN
  refine le_least (fun r hr => ?_) (sat_le _)
  unfold rowN
  refine sat_mono (sumN_le fun x hx h => ?_)
  unfold isOwn at h
  simp only [Bool.and_eq_true, decide_eq_true_eq] at h
  rw [h.1, h.2]
  simp

theorem est_le_total (hO : Ok X q) (t : Nat) (K : ByteArray) (ns : List Note) : estN q X ns t K ≤ totalN q X.bk ns t := by
  unfold estN
  refine Nat.le_trans (least_le (r := 0) hO.r1) ?_
  unfold rowN totalN
  refine sat_mono (sumN_le fun x hx h => ?_)
  simp only [Bool.and_eq_true] at h
  exact h.1

/-- the note of a deed -/
def noteOf (d : Deed) : Note := ⟨d.t.toNat, d.key, sumTo (fun i => (d.f i).toNat) d.n⟩

/-- a deed that was done -/
structure Good (w : World) (d : Deed) : Prop where
  t0 : 0 ≤ d.t
  t1 : d.t ≤ 1152921504606846976
  n1 : d.n ≤ 9223372036854775807
  f1 : ∀ i, i < d.n → 0 ≤ d.f i ∧ d.f i ≤ 1099511627776
  at_ : Ints w d.a d.n d.f

theorem own_snoc (q bk t : Nat) (K : ByteArray) (ds : List Deed) (k : Nat) (d : Deed) (h : ds[k]? = some d) :
    ownN q bk t K ((ds.take (k + 1)).map noteOf) = sat (ownN q bk t K ((ds.take k).map noteOf) + if isOwn q bk t K (noteOf d) then sumTo (fun i => (d.f i).toNat) d.n else 0) := by
  have e : ds.take (k + 1) = ds.take k ++ [d] := by rw [List.take_add_one, h]; rfl
  unfold ownN
  rw [e, List.map_append, sumN_app, List.map_cons, List.map_nil, sumN_cons, sumN_nil, Nat.add_zero, sat_add1]
  rfl

/-- the cells of deeds -/
def flatD (ds : List Deed) : List Value := ds.flatMap fun d => (dw d).toList
theorem flatD_app (ds : List Deed) (d : Deed) : flatD (ds ++ [d]) = flatD ds ++ [.int .i64 d.kind, .int .i64 d.t, .string d.key, .slice d.a d.n d.cap] := by simp [flatD, dw]
theorem flatD_get (ds : List Deed) (i : Nat) (d : Deed) (h : ds[i]? = some d) (j : Nat) (v : Value) (hv : (dw d)[j]? = some v) : (flatD ds)[i * 4 + j]? = some v := by
  induction ds generalizing i with
  | nil => simp at h
  | cons x r ih =>
    have e1 : flatD (x :: r) = .int .i64 x.kind :: .int .i64 x.t :: .string x.key :: .slice x.a x.n x.cap :: flatD r := by simp [flatD, dw]
    rw [e1]
    cases i with
    | zero =>
      simp at h; subst h
      unfold dw at hv
      match j, hv with
      | 0, hv => simpa using hv
      | 1, hv => simpa using hv
      | 2, hv => simpa using hv
      | 3, hv => simpa using hv
      | j + 4, hv => simp at hv
    | succ i =>
      have h2 := ih i (by simpa using h)
      rw [show (i + 1) * 4 + j = i * 4 + j + 1 + 1 + 1 + 1 by omega]
      simpa using h2

theorem infoDeed : (Try.prog.info? 39).map (fun i => (i.zero, i.size, i.bytes)) = some (some (.agg #[.int .i64 0, .int .i64 0, .string ⟨#[]⟩, .slice none 0 0]), 4, 56) := by kernel_rfl

def OwnD (B : Nat) (w : World) (v : Value) (ds : List Deed) : Prop := w.ownsRow B 39 4 v ds.length (flatD ds)

theorem OwnD.form {B : Nat} {v : Value} {ds : List Deed} (h : OwnD B w v ds) (hn : 0 < ds.length) : ∃ g cap, v = .slice (some ⟨g, 0, none⟩) ds.length cap ∧ g < w.heap.size ∧ ∀ i d, ds[i]? = some d → ∀ (j : Nat) x, (dw d)[j]? = some x → w.cell? ⟨g, i * 4 + j, none⟩ = some x := by
  have hl := World.ownsRow.lt h
  rcases h.2 with ⟨_, h0⟩ | ⟨g, cap, cur, rfl, hb, hgg, rest⟩
  · omega
  · refine ⟨g, cap, rfl, (hl g rfl).2, fun i d hd j x hx => ?_⟩
    have h3 := World.ownsRow.cells h (g := g) rfl _ _ (flatD_get ds i d hd j x hx)
    rw [Go.WideShapes.add_plain, Nat.zero_add] at h3
    exact h3

/-- a sketch, and the deeds that were done -/
structure St (w0 w : World) (p : Nat) (go : Option Nat) (X : Shp) (q last : Nat) (ds : List Deed) (qs : List Nat) (mpf : Nat → Nat) (v : Value) : Prop where
  own : Own w0 w p go X q last (ds.map noteOf) qs mpf
  done : OwnD w0.heap.size w v ds
  far : ∀ g, v.ownBlock = some g → ¬ Ft p go qs mpf g
  good : ∀ d ∈ ds, Good w0 d

theorem St.below {ds : List Deed} {v : Value} (h : St w0 w p go X q last ds qs mpf v) (hb : Below w.heap.size w w') : St w0 w' p go X q last ds qs mpf v :=
  ⟨SkR.Own.below h.own hb, owns_keep h.done (fun g hg => hb.block g (World.ownsRow.lt h.done g hg).2), h.far, h.good⟩
theorem St.drew {ds : List Deed} {v : Value} (h : St w0 w p go X q last ds qs mpf v) : St w0 w.drew p go X q last ds qs mpf v := h.below (Below.drew (Below.refl _ _))
theorem St.alloc {ds : List Deed} {v : Value} (h : St w0 w p go X q last ds qs mpf v) (o : Obj) : St w0 (w.alloc o) p go X q last ds qs mpf v := h.below ((Below.refl _ _).alloc (Nat.le_refl _) _)

/-- behind an Add, ahead of the append -/
structure Mid (w0 w : World) (p : Nat) (go : Option Nat) (X : Shp) (q last : Nat) (ds : List Deed) (d : Deed) (qs : List Nat) (mpf : Nat → Nat) (v : Value) : Prop where
  own : Own w0 w p go X q last ((ds ++ [d]).map noteOf) qs mpf
  done : OwnD w0.heap.size w v ds
  far : ∀ g, v.ownBlock = some g → ¬ Ft p go qs mpf g
  good : ∀ x ∈ ds ++ [d], Good w0 x

theorem Mid.below {ds : List Deed} {d : Deed} {v : Value} (h : Mid w0 w p go X q last ds d qs mpf v) (hb : Below w.heap.size w w') : Mid w0 w' p go X q last ds d qs mpf v :=
  ⟨SkR.Own.below h.own hb, owns_keep h.done (fun g hg => hb.block g (World.ownsRow.lt h.done g hg).2), h.far, h.good⟩

/-- behind the append -/
theorem Mid.push {ds : List Deed} {d : Deed} {v v' : Value} (h : Mid w0 w p go X q last ds d qs mpf v) (hd : OwnD w0.heap.size w' v' (ds ++ [d])) {row : Option Nat} (hg : w.grownBy w' row) (hr : ∀ k, row = some k → v.ownBlock = some k)
    (hn : ∀ g, v'.ownBlock = some g → v.ownBlock = some g ∨ w.heap.size ≤ g) (hup : ∀ g, v.ownBlock = some g → w0.heap.size ≤ g) : St w0 w' p go X q last (ds ++ [d]) qs mpf v' := by
  have hw : Wr (fun k => v.ownBlock = some k) w w' := Wr.ofGrown hg (fun k e => hr k e)
  refine ⟨⟨h.own.full.keep fun k hk => hw.block k (h.own.full.lt hk) (fun e => h.far k e hk), h.own.up, h.own.bel.trans (hw.below _ h.own.bel.size (fun k e => hup k e))⟩, hd, fun g hg2 hk => ?_, h.good⟩
  rcases hn g hg2 with e | e
  · exact h.far g e hk
  · have := h.own.full.lt hk; omega

/-- what Add does, whatever comes -/
theorem Add_st {ds : List Deed} {v : Value} (h : St w0 w p go X q last ds qs mpf v) (d : Deed) (hs : d.key.size ≤ maxLen) (hn : d.n ≤ 9223372036854775807) (hI : Ints w0 d.a d.n d.f) :
    Calls Try.prog 14 #[.pointer (some ⟨p, 0, none⟩), .int .i64 d.t, .string d.key, .slice d.a d.n d.cap] w fun e w' =>
      (∃ r : Int, r ≠ 0 ∧ e = .returned (.int .i64 r) ∧ w = w') ∨
      (e = .returned (.int .i64 0) ∧ Good w0 d ∧ Wr (Ft p go qs mpf) w w' ∧ ∃ go' qs' mpf', Mid w0 w' p go' X q d.t.toNat ds d qs' mpf' v) := by
  have hI2 : Ints w d.a d.n d.f := ints_below hI h.own.bel
  by_cases hz : refT last d.t (goodC d.f d.n) = 0
  · obtain ⟨hg, h1, h2, h3⟩ := refT_zero hz
    have hge := good_iff.1 hg
    have hg2 : goodC (fun i => (((fun i => (d.f i).toNat) i : Nat) : Int)) d.n = true := good_iff.2 fun i hi => by have := hge i hi; show 0 ≤ (((d.f i).toNat : Nat) : Int) ∧ (((d.f i).toNat : Nat) : Int) ≤ 1099511627776; omega
    have hI3 : Ints w d.a d.n (fun i => (((fun i => (d.f i).toNat) i : Nat) : Int)) := fun h0 => by
      obtain ⟨g, o, hh, hgl, hc⟩ := hI2 h0
      refine ⟨g, o, hh, hgl, fun i hi => ?_⟩
      have := hge i hi
      rw [hc i hi]
      show some (Value.int .i64 (d.f i)) = some (Value.int .i64 (((d.f i).toNat : Nat) : Int))
      rw [show (((d.f i).toNat : Nat) : Int) = d.f i by omega]
    have H := Add_yes h.own.full (t := d.t.toNat) (by omega) (by omega) d.key hs d.a d.n d.cap (fun i => (d.f i).toNat) hn hI3 hg2 (fun h0 g o e hk => by
      obtain ⟨g2, o2, e2, hgl, _⟩ := hI h0
      rw [e] at e2; cases e2
      have := h.own.up g hk; omega)
    rw [show ((d.t.toNat : Nat) : Int) = d.t by omega] at H
    refine H.mono ?_
    rintro e w1 ⟨rfl, ha⟩
    have hgood : Good w0 d := ⟨h1, h2, hn, hge, hI⟩
    obtain ⟨go', qs', mpf', h1, h2, h3⟩ := ha
    refine .inr ⟨rfl, hgood, h2, ?_⟩
    refine ⟨go', qs', mpf', ⟨⟨?_, fun k hk => (h3 k hk).elim (h.own.up k) (fun e => Nat.le_trans h.own.bel.size e), h.own.bel.trans (h2.below _ h.own.bel.size h.own.up)⟩, owns_wr h.done h2 h.far, fun g hg hk => ?_, fun x hx => ?_⟩⟩
    · rw [List.map_append]; exact h1
    · rcases h3 g hk with e | e
      · exact h.far g hg e
      · have := (World.ownsRow.lt h.done g hg).2; omega
    · rcases List.mem_append.1 hx with e | e
      · exact h.good x e
      · obtain rfl := List.mem_singleton.1 e; exact hgood
  · obtain ⟨_, v5, hp, _⟩ := h.own.full.sk
    obtain ⟨-, -, -, -, -, c5, -, -⟩ := sv_cells hp
    refine (Add_no c5 d.t d.key d.a d.n d.cap d.f hn hI2 _ rfl hz).mono ?_
    rintro e w1 ⟨rfl, rfl⟩
    exact .inl ⟨_, hz, rfl, rfl⟩

set_option maxHeartbeats 1000000 in
theorem Plus_any (a b : Nat) (ha : a ≤ 4611686018427387904) (hb : b ≤ 1099511627776) (w : World) :
    Calls Try.prog 30 #[.int .i64 a, .int .i64 b] w fun e w' => e = .returned (.int .i64 (sat (a + b) : Nat)) ∧ w = w' := by
  by_cases h : a + b ≤ 4611686018427387904
  · have e : sat (a + b) = a + b := by unfold sat; omega
    rw [e]
    go_enter Try.func30, Try.ntmps30
    go_wp2
    all_goals first | (exfalso; omega) | (go_ret; exact ⟨by first | rfl | go_num, rfl⟩)
  · have e : sat (a + b) = 4611686018427387904 := by unfold sat; omega
    rw [e]
    go_enter Try.func30, Try.ntmps30
    go_wp2
    all_goals first | (exfalso; omega) | (go_ret; exact ⟨by first | rfl | go_num, rfl⟩)

/-- what the inner loops read -/
structure Inner (w : World) (g dB xB : Nat) (ds : List Deed) (d : Deed) (bk : Int) : Prop where
  row : ∀ i e, ds[i]? = some e → ∀ (j : Nat) x, (dw e)[j]? = some x → w.cell? ⟨g, i * 4 + j, none⟩ = some x
  dd : ∀ (j : Nat) x, (dw d)[j]? = some x → w.cell? ⟨dB, j, none⟩ = some x
  bb : w.cell? ⟨xB, 1, none⟩ = some (.int .i64 bk)
  lg : g < w.heap.size
  ld : dB < w.heap.size
  lx : xB < w.heap.size

theorem Inner.below {g dB xB : Nat} {ds : List Deed} {d : Deed} {bk : Int} (h : Inner w g dB xB ds d bk) (hb : Below w.heap.size w w') : Inner w' g dB xB ds d bk :=
  ⟨fun i e he j x hx => (hb.cell (p := ⟨g, i * 4 + j, none⟩) h.lg).trans (h.row i e he j x hx), fun j x hx => (hb.cell (p := ⟨dB, j, none⟩) h.ld).trans (h.dd j x hx), (hb.cell (p := ⟨xB, 1, none⟩) h.lx).trans h.bb, Nat.lt_of_lt_of_le h.lg hb.size, Nat.lt_of_lt_of_le h.ld hb.size, Nat.lt_of_lt_of_le h.lx hb.size⟩

theorem drewN_below (w : World) (n B : Nat) : Below B w (w.drewN n) := ⟨rfl, rfl, rfl, Nat.le_refl _, fun _ _ => rfl⟩

theorem div_bounds {a q M : Nat} (h : a ≤ M) : 0 ≤ (a : Int) / q ∧ (a : Int) / q ≤ M := by
  have h1 : (((a / q : Nat)) : Int) = (a : Int) / (q : Int) := Int.natCast_ediv a q
  have h2 := Nat.div_le_self a q
  rw [← h1]
  exact ⟨Int.natCast_nonneg _, Int.ofNat_le.2 (Nat.le_trans h2 h)⟩

theorem own_none (q bk t : Nat) (K : ByteArray) (ds : List Deed) : ownN q bk t K ((ds.take 0).map noteOf) = 0 := rfl
theorem own_le (q bk t : Nat) (K : ByteArray) (ns : List Note) : ownN q bk t K ns ≤ 4611686018427387904 := sat_le _
theorem sat_own (q bk t : Nat) (K : ByteArray) (ns : List Note) : sat (ownN q bk t K ns + 0) = ownN q bk t K ns := by have := own_le q bk t K ns; unfold sat; omega

theorem cells4_new (w : World) (d : Deed) (j : Nat) (x : Value) (hx : (dw d)[j]? = some x) : (w.alloc (.cells #[.int .i64 d.kind, .int .i64 d.t, .string d.key, .slice d.a d.n d.cap] 39)).cell? ⟨w.heap.size, j, none⟩ = some x := by
  unfold World.cell?
  rw [heap_alloc_new]
  exact hx

theorem cells4_at (w : World) (a b c e : Value) (ty : TypeId) (j : Nat) (u : Value) (hu : [a, b, c, e][j]? = some u) : (w.alloc (.cells #[a, b, c, e] ty)).cell? (Addr.add ⟨w.heap.size, 0, none⟩ j) = some u := by
  rw [Go.WideShapes.add_plain, Nat.zero_add]
  unfold World.cell?
  rw [heap_alloc_new]
  simpa using hu

theorem after_push {ds : List Deed} {d : Deed} {v v' : Value} {w3 w5 : World} {o : Obj} (hM : Mid w0 w3 p go X q t ds d qs mpf v) (hown : OwnD w0.heap.size w5 v' (ds ++ [d])) (hgr : (w3.alloc o).grownBy w5 v.ownBlock)
    (hat : v'.ownBlock = v.ownBlock ∨ v'.ownBlock = some (w3.alloc o).heap.size) (dB : Nat) (hdB : dB < w3.heap.size) (hne : v.ownBlock ≠ some dB) :
    St w0 w5 p go X q t (ds ++ [d]) qs mpf v' ∧ w5.heap[dB]? = w3.heap[dB]? ∧ w3.heap.size ≤ w5.heap.size := by
  have hal : Below w3.heap.size w3 (w3.alloc o) := (Below.refl _ w3).alloc (Nat.le_refl _) o
  have hM2 := hM.below hal
  have hw : Wr (fun k => v.ownBlock = some k) (w3.alloc o) w5 := Wr.ofGrown hgr (fun k e => e)
  refine ⟨hM2.push hown hgr (fun k e => e) (fun g hg => ?_) (fun g hg => (World.ownsRow.lt hM.done g hg).1), ?_, Nat.le_trans hal.size hw.size⟩
  · rcases hat with e | e
    · exact .inl (e ▸ hg)
    · rw [e] at hg; exact .inr (Nat.le_of_eq (Option.some.inj hg))
  · exact (hw.block dB (Nat.lt_of_lt_of_le hdB hal.size) hne).trans (hal.block dB hdB)

end Go.Proofs.Ytopljjmbekpdmaa.SkX
