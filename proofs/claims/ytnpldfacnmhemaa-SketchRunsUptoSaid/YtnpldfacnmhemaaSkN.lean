/- A sketch's Add, by its steps. -/
import Derived.Test.YtnpldfacnmhemaaSkM
namespace Go.Proofs.Ytnpldfacnmhemaa.SkN
open Go.ChangeShapes Go.WideShapes Go.ChangeAt Go.RowKit Base Wri Map WldF WldG SkK SkA SkB SkC SkD SkE SkF SkG SkH SkI SkJ SkL SkM

variable {w w' : World} {p q last t : Nat} {go : Option Nat} {X : Shp} {ns : List Note} {qs : List Nat} {mpf : Nat → Nat}

theorem tot_snoc (q : Nat) (ns : List Note) (t : Nat) (s : ByteArray) (n b : Nat) : totB q (ns ++ [⟨t, s, n⟩]) b = totB q ns b + (if t / q = b then n else 0) := by
  unfold totB
  rw [sumN_snoc]
  simp
theorem cnt_snoc (q : Nat) (X : Shp) (ns : List Note) (t : Nat) (s : ByteArray) (n b r c : Nat) : cntB q X (ns ++ [⟨t, s, n⟩]) b r c = cntB q X ns b r c + (if t / q = b ∧ colN X.seed X.co r s = c then n else 0) := by
  unfold cntB
  rw [sumN_snoc]
  simp
theorem bs_app (q : Nat) (ns : List Note) (mpf : Nat → Nat) (A C : List Nat) : bsOf q ns mpf (A ++ C) = bsOf q ns mpf A ++ bsOf q ns mpf C := List.map_append
theorem bs_other (q : Nat) (ns : List Note) (mpf mpf' : Nat → Nat) (t : Nat) (s : ByteArray) (n : Nat) (A : List Nat) (h : t / q ∉ A) (hm : ∀ b ∈ A, mpf b = mpf' b) : bsOf q (ns ++ [⟨t, s, n⟩]) mpf' A = bsOf q ns mpf A := by
  unfold bsOf
  refine List.map_congr_left fun b hb => ?_
  have hne : ¬ t / q = b := fun e => h (by rw [e]; exact hb)
  rw [tot_snoc, if_neg hne, Nat.add_zero, hm b hb]
theorem bs_same (q : Nat) (ns : List Note) (mpf mpf' : Nat → Nat) (A : List Nat) (hm : ∀ b ∈ A, mpf b = mpf' b) : bsOf q ns mpf A = bsOf q ns mpf' A := by
  unfold bsOf
  refine List.map_congr_left fun b hb => ?_
  rw [hm b hb]

theorem stays_bs (ho : Ok X q) (ns : List Note) (mpf : Nat → Nat) (qs : List Nat) (t : Nat) : stays (((t - t % q : Nat) : Int) - X.wd + q) (bsOf q ns mpf qs) = bsOf q ns mpf (qs.filter (inW q X.bk t)) := by
  unfold bsOf stays
  rw [List.filter_map]
  congr 1
  refine List.filter_congr fun b _ => ?_
  have := first_iff (t := t) b X.wd ho.q0 ho.we
  simp only [Function.comp_apply, inW]
  by_cases h : t / q < b + X.bk
  · have := this.2 h
    simp only [h, decide_true]
    simp
    omega
  · have := mt this.1 h
    simp only [h, decide_false]
    simp
    omega

/-- the time is noted -/
theorem IsSk.late {bs : List Bk} {l : Int} (h : IsSk w p go X l bs) (t : Int) : IsSk (w.setCell ⟨p, 5, none⟩ (.int .i64 t)) p go X t bs := by
  obtain ⟨h0, v, h1, h2⟩ := h
  exact ⟨h0, v, heap_setCell_same _ _ _ _ _ _ h1, h2.of_block fun g e => heap_setCell_other _ _ _ _ (fun e2 => h0 (by rw [e, e2]))⟩

/-- behind forget -/
theorem Full.forgot (h : Full w p go X q last ns qs mpf) (ht : last ≤ t) (ht2 : t ≤ 1152921504606846976) (hsk : IsSk w' p go X t (stays (((t - t % q : Nat) : Int) - X.wd + q) (bsOf q ns mpf qs))) (hw : Wr (fun k => k = p ∨ go = some k) w w') : Full w' p go X q t ns (qs.filter (inW q X.bk t)) mpf := by
  have hsub : ∀ b ∈ qs.filter (inW q X.bk t), b ∈ qs := fun b hb => (List.mem_filter.1 hb).1
  rw [stays_bs h.ok] at hsk
  refine ⟨h.ok, hsk, fun b hb => (h.nums b (hsub b hb)).of_block (hw.block _ (h.nums b (hsub b hb)).lt (fun e => ?_)), fun b hb => h.far b (hsub b hb), fun b hb b' hb' => h.inj b (hsub b hb) b' (hsub b' hb'), h.inv.forget ht, ht2⟩
  exact e.elim (h.far b (hsub b hb)).1 (h.far b (hsub b hb)).2

/-- nothing was added -/
theorem Full.nought (h : Full w p go X q t ns qs mpf) (s : ByteArray) : Full w p go X q t (ns ++ [⟨t, s, 0⟩]) qs mpf := by
  have e1 : bsOf q (ns ++ [⟨t, s, 0⟩]) mpf qs = bsOf q ns mpf qs := by
    unfold bsOf
    refine List.map_congr_left fun b _ => ?_
    rw [tot_snoc]
    simp
  refine ⟨h.ok, by rw [e1]; exact h.sk, fun b hb => (h.nums b hb).congr fun r c _ _ => ?_, h.far, h.inj, h.inv.nought s, h.late⟩
  unfold numF
  rw [cnt_snoc]
  simp

theorem beg_mul (t q : Nat) : t - t % q = t / q * q := by
  have := Nat.div_add_mod t q
  rw [Nat.mul_comm] at this
  omega

/-- behind bucket -/
def BkPost (w : World) (p : Nat) (go : Option Nat) (X : Shp) (q t : Nat) (ns : List Note) (qs : List Nat) (mpf : Nat → Nat) (e : Ending) (w' : World) : Prop :=
  ∃ g A mpf', e = .returned (.pointer (some ⟨g, A.length * 3, none⟩)) ∧ t / q ∉ A ∧ Full w' p (some g) X q t ns (A ++ [t / q]) mpf' ∧ Wr (Ft p go qs mpf) w w' ∧ ∀ k, Ft p (some g) (A ++ [t / q]) mpf' k → Ft p go qs mpf k ∨ w.heap.size ≤ k

/-- a new bucket -/
theorem new_full (h : Full w p go X q t ns qs mpf) (hq : t / q ∉ qs) {f : Nat → Bk} (hf : toL f qs.length = bsOf q ns mpf qs) {e : Ending} (hp : NewPost p go X t ((t - t % q : Nat) : Int) qs.length f w e w') : BkPost w p go X q t ns qs mpf e w' := by
  obtain ⟨g, cap, he, hb, hpp, hmm, hgp, hgm, hgo, hw⟩ := hp
  have hne : ∀ b ∈ qs, b ≠ t / q := fun b hb e => hq (e ▸ hb)
  have hmpf : ∀ b ∈ qs, mpf b = (fun b => if b = t / q then w.heap.size else mpf b) b := fun b hb => (if_neg (hne b hb)).symm
  have hmp2 : ∀ b ∈ qs, (if b = t / q then w.heap.size else mpf b) = mpf b := fun b hb => if_neg (hne b hb)
  have hml : ∀ b ∈ qs, mpf b < w.heap.size := fun b hb => (h.nums b hb).lt
  have e0 : totB q ns (t / q) = 0 := by
    have := h.inv.new hq h.ok.b1 (fun _ => true)
    simpa [totB] using this
  have hbs : bsOf q ns (fun b => if b = t / q then w.heap.size else mpf b) (qs ++ [t / q]) = toL (fun k => if k = qs.length then ⟨((t - t % q : Nat) : Int), 0, w.heap.size⟩ else f k) (qs.length + 1) := by
    rw [bs_app, toL_succ, if_pos rfl, ← bs_same q ns mpf _ qs hmpf, ← hf]
    congr 1
    · exact toL_congr fun i hi => (if_neg (by omega)).symm
    · unfold bsOf
      rw [List.map_singleton, e0, beg_mul]
      simp [sat]
  refine ⟨g, qs, (fun b => if b = t / q then w.heap.size else mpf b), he, hq, ⟨h.ok, ⟨fun e => hgp (Option.some.inj e), _, hpp, .inr ⟨g, cap, (fun k => if k = qs.length then ⟨((t - t % q : Nat) : Int), 0, w.heap.size⟩ else f k), rfl, ?_, ?_, ?_⟩⟩, fun b hb' => ?_, fun b hb' => ?_, fun b hb1 b' hb2 => ?_, h.inv.more hq h.ok.b1, h.late⟩, hw.mono (fun k e => e.elim .inl (fun e => .inr (.inl e))), fun k hk => ?_⟩
  · rw [bs_len, List.length_append]; rfl
  · rw [bs_len, List.length_append]; exact hb
  · rw [bs_len, List.length_append, hbs]; rfl
  · rcases List.mem_append.1 hb' with hb' | hb'
    · show Num w' (if b = t / q then w.heap.size else mpf b) _
      rw [hmp2 b hb']
      exact (h.nums b hb').of_block (hw.block _ (hml b hb') (fun e => e.elim (h.far b hb').1 (h.far b hb').2))
    · rw [List.mem_singleton.1 hb']
      show Num w' (if t / q = t / q then w.heap.size else mpf (t / q)) _
      rw [if_pos rfl]
      refine (Num.none hmm).congr fun r c _ _ => ?_
      unfold numF
      have := h.inv.new hq h.ok.b1 (fun x => colN X.seed X.co r x.k == c)
      unfold cntB
      rw [this]
      split <;> rfl
  · rcases List.mem_append.1 hb' with hb' | hb'
    · show (if b = t / q then w.heap.size else mpf b) ≠ p ∧ some g ≠ some (if b = t / q then w.heap.size else mpf b)
      rw [hmp2 b hb']
      refine ⟨(h.far b hb').1, fun e => ?_⟩
      have e2 := Option.some.inj e
      rcases hgo with e3 | e3
      · exact (h.far b hb').2 (by rw [e3, e2])
      · have := hml b hb'; omega
    · rw [List.mem_singleton.1 hb']
      show (if t / q = t / q then w.heap.size else mpf (t / q)) ≠ p ∧ some g ≠ some (if t / q = t / q then w.heap.size else mpf (t / q))
      rw [if_pos rfl]
      have := h.sk.lt
      exact ⟨by omega, fun e => hgm (Option.some.inj e)⟩
  · show (if b = t / q then w.heap.size else mpf b) = (if b' = t / q then w.heap.size else mpf b') → b = b'
    rcases List.mem_append.1 hb1 with hb1 | hb1 <;> rcases List.mem_append.1 hb2 with hb2 | hb2
    · rw [hmp2 b hb1, hmp2 b' hb2]
      exact h.inj b hb1 b' hb2
    · rw [List.mem_singleton.1 hb2, hmp2 b hb1, if_pos rfl]
      intro e; have := hml b hb1; omega
    · rw [List.mem_singleton.1 hb1, hmp2 b' hb2, if_pos rfl]
      intro e; have := hml b' hb2; omega
    · rw [List.mem_singleton.1 hb1, List.mem_singleton.1 hb2]; exact fun _ => rfl
  · rcases hk with e | e | ⟨b, hb', e⟩
    · exact .inl (.inl e)
    · rcases hgo with e2 | e2
      · exact .inl (.inr (.inl (by rw [e2]; exact e)))
      · exact .inr (by rw [← Option.some.inj e]; exact e2)
    · have e : (if b = t / q then w.heap.size else mpf b) = k := e
      rcases List.mem_append.1 hb' with hb' | hb'
      · rw [hmp2 b hb'] at e
        exact .inl (.inr (.inr ⟨b, hb', e⟩))
      · rw [List.mem_singleton.1 hb', if_pos rfl] at e
        exact .inr (Nat.le_of_eq e)

end Go.Proofs.Ytnpldfacnmhemaa.SkN
