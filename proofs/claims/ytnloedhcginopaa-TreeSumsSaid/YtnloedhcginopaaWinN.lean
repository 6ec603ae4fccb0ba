/- What a window keeps over any calls, and what it tells of what was noted: plain mathematics. -/
import Derived.Test.YtnloedhcginopaaWinL
namespace Go.Proofs.Ytnloedhcginopaa.WinN
open WinM WinC WinD WinE WinH WinK WinL

/-- the passes of the buckets from L on -/
def pas (L : Int) : List Bkt → Int
  | [] => 0
  | b :: t => (if L ≤ b.at_ then b.c.pass else 0) + pas L t
/-- the numbers of what was noted in buckets of width q from L on -/
def ev (q : Nat) (L : Int) : List (Nat × Int) → Int
  | [] => 0
  | e :: t => (if L ≤ (begN q e.1 : Int) then e.2 else 0) + ev q L t
def tot : List (Nat × Int) → Int
  | [] => 0
  | e :: t => e.2 + tot t

theorem pas_app (L : Int) (a b : List Bkt) : pas L (a ++ b) = pas L a + pas L b := by
  induction a with
  | nil => simp [pas]
  | cons x t ih => simp only [List.cons_append, pas, ih]; omega
theorem ev_app (q : Nat) (L : Int) (a b : List (Nat × Int)) : ev q L (a ++ b) = ev q L a + ev q L b := by
  induction a with
  | nil => simp [ev]
  | cons x t ih => simp only [List.cons_append, ev, ih]; omega
theorem tot_app (a b : List (Nat × Int)) : tot (a ++ b) = tot a + tot b := by
  induction a with
  | nil => simp [tot]
  | cons x t ih => simp only [List.cons_append, tot, ih]; omega
theorem ev_le (q : Nat) (L : Int) (E : List (Nat × Int)) (h : ∀ e ∈ E, 0 ≤ e.2) : 0 ≤ ev q L E ∧ ev q L E ≤ tot E := by
  induction E with
  | nil => simp [ev, tot]
  | cons x t ih =>
    have h1 := ih fun e he => h e (List.mem_cons_of_mem _ he)
    have h2 := h x List.mem_cons_self
    simp only [ev, tot]
    split <;> omega
theorem pas_pos (L : Int) (l : List Bkt) (h : ∀ x ∈ l, 0 ≤ x.c.pass) : 0 ≤ pas L l := by
  induction l with
  | nil => simp [pas]
  | cons x t ih =>
    have h1 := ih fun e he => h e (List.mem_cons_of_mem _ he)
    have h2 := h x List.mem_cons_self
    simp only [pas]
    split <;> omega
theorem pas_mem (l : List Bkt) (h : ∀ x ∈ l, 0 ≤ x.c.pass) (x : Bkt) (hx : x ∈ l) : x.c.pass ≤ pas x.at_ l := by
  induction l with
  | nil => cases hx
  | cons y t ih =>
    have hp := pas_pos x.at_ t fun e he => h e (List.mem_cons_of_mem _ he)
    have h2 := h y List.mem_cons_self
    simp only [pas]
    rcases List.mem_cons.1 hx with rfl | h3
    · rw [if_pos (Int.le_refl _)]; omega
    · have := ih (fun e he => h e (List.mem_cons_of_mem _ he)) h3
      split <;> omega
theorem pas_stays (lim L : Int) (l : List Bkt) (h : lim ≤ L) : pas L (stays lim l) = pas L l := by
  induction l with
  | nil => rfl
  | cons x t ih =>
    by_cases hx : x.at_ < lim
    · have e : stays lim (x :: t) = stays lim t := by simp [stays, hx]
      rw [e, ih]
      simp only [pas]
      rw [if_neg (by omega)]; omega
    · have e : stays lim (x :: t) = x :: stays lim t := by simp [stays, hx]
      rw [e]
      simp only [pas, ih]

theorem noteM_snoc (b : Int) (c : Cnt) (l : List Bkt) (x : Bkt) : noteM b c (l ++ [x]) = if x.at_ = b then l ++ [⟨b, joinM x.c c⟩] else (l ++ [x]) ++ [⟨b, joinM ⟨0, 0, 0, 0, 0, 0⟩ c⟩] := by
  unfold noteM
  simp

theorem nil_or_snoc (l : List Bkt) : l = [] ∨ ∃ t x, l = t ++ [x] := by
  rcases List.eq_nil_or_concat l with h | ⟨t, x, h⟩
  · exact .inl h
  · exact .inr ⟨t, x, by simpa using h⟩

theorem plusM_small {a b : Int} (h : a + b ≤ 4611686018427387904) : plusM a b = a + b := by unfold plusM; rw [if_neg (by omega)]

theorem pas_note (L b : Int) (c : Cnt) (l : List Bkt) (h0 : c.pass ≤ 4611686018427387904) (h : ∀ x ∈ l, x.c.pass + c.pass ≤ 4611686018427387904) : pas L (noteM b c l) = pas L l + (if L ≤ b then c.pass else 0) := by
  have e0 : (joinM ⟨0, 0, 0, 0, 0, 0⟩ c).pass = c.pass := by show plusM 0 c.pass = _; rw [plusM_small (by omega)]; omega
  rcases nil_or_snoc l with rfl | ⟨t, x, rfl⟩
  · rw [noteM_nil]; simp [pas, e0]
  · rw [noteM_snoc]
    have hx := h x (by simp)
    have e1 : (joinM x.c c).pass = x.c.pass + c.pass := by show plusM x.c.pass c.pass = _; rw [plusM_small hx]
    split
    · rename_i hb
      simp only [pas_app, pas, e1, hb]
      split <;> omega
    · simp only [pas_app, pas, e0]
      split <;> omega

/-- rising, on the grid, within the window at its last time, with right numbers -/
structure Tidy (q : Nat) (s : Win) (last : Nat) : Prop where
  rise : s.bs.Pairwise fun a b => a.at_ < b.at_
  grid : ∀ x ∈ s.bs, ∃ k : Nat, x.at_ = (k * q : Nat)
  low : ∀ x ∈ s.bs, (begN q last : Int) - s.width + q ≤ x.at_
  high : ∀ x ∈ s.bs, x.at_ ≤ begN q last
  fine : ∀ x ∈ s.bs, x.c.Fine

theorem grid_step {q : Nat} {a b : Int} (ha : ∃ k : Nat, a = (k * q : Nat)) (hb : ∃ k : Nat, b = (k * q : Nat)) (h : a < b) : a + q ≤ b := by
  obtain ⟨k, rfl⟩ := ha
  obtain ⟨m, rfl⟩ := hb
  have h1 : k * q < m * q := by omega
  have h2 : k < m := Nat.lt_of_mul_lt_mul_right h1
  have h3 : (k + 1) * q ≤ m * q := Nat.mul_le_mul_right q h2
  rw [Nat.succ_mul] at h3
  omega

theorem len_grid (q : Nat) (hi : Int) : ∀ (l : List Bkt) (lo : Int), l.Pairwise (fun a b => a.at_ < b.at_) → (∀ x ∈ l, ∃ k : Nat, x.at_ = (k * q : Nat)) → (∀ x ∈ l, lo ≤ x.at_) → (∀ x ∈ l, x.at_ ≤ hi) → lo ≤ hi + q → ((l.length * q : Nat) : Int) ≤ hi - lo + q := by
  intro l
  induction l with
  | nil => intro lo _ _ _ _ h; simp; omega
  | cons x t ih =>
    intro lo h1 h2 h3 h4 _
    have h5 := List.pairwise_cons.1 h1
    have hx3 := h3 x List.mem_cons_self
    have hx4 := h4 x List.mem_cons_self
    have := ih (x.at_ + q) h5.2 (fun y hy => h2 y (List.mem_cons_of_mem _ hy)) (fun y hy => grid_step (h2 x List.mem_cons_self) (h2 y (List.mem_cons_of_mem _ hy)) (h5.1 y hy)) (fun y hy => h4 y (List.mem_cons_of_mem _ hy)) (by omega)
    rw [List.length_cons, Nat.succ_mul]
    omega

theorem begN_grid (q a : Nat) : ∃ k : Nat, (begN q a : Int) = (k * q : Nat) := by
  refine ⟨a / q, ?_⟩
  have := Nat.div_add_mod a q
  rw [Nat.mul_comm] at this
  unfold begN
  omega

theorem begN_mono {q a b : Nat} (h : a ≤ b) : begN q a ≤ begN q b := by
  have h1 := Nat.div_add_mod a q
  have h2 := Nat.div_add_mod b q
  have h3 : q * (a / q) ≤ q * (b / q) := Nat.mul_le_mul_left q (Nat.div_le_div_right h)
  unfold begN
  omega

theorem Tidy.len {q : Nat} {s : Win} {last : Nat} (h : Tidy q s last) (hw : s.width = s.size * q) (hq : 0 < q) : s.bs.length ≤ s.size := by
  have := len_grid q (begN q last) s.bs _ h.rise h.grid h.low h.high (by omega)
  have h2 : s.bs.length * q ≤ s.size * q := by omega
  exact Nat.le_of_mul_le_mul_right h2 hq

theorem Tidy.fresh (q wd sz : Nat) : Tidy q ⟨wd, sz, 0, []⟩ 0 := ⟨List.Pairwise.nil, (fun _ h => by cases h), (fun _ h => by cases h), (fun _ h => by cases h), (fun _ h => by cases h)⟩

theorem Tidy.add {q : Nat} {s : Win} {last at_ : Nat} {c : Cnt} (h : Tidy q s last) (hb : last ≤ at_) (hw : q ≤ s.width) (hc : c.Fine) : Tidy q (addM q s at_ c) at_ := by
  have hm := begN_mono (q := q) hb
  have hg := begN_grid q at_
  have hin : ∀ x ∈ stays ((begN q at_ : Int) - s.width + q) s.bs, x ∈ s.bs ∧ (begN q at_ : Int) - s.width + q ≤ x.at_ := fun x hx => by
    have h1 := List.mem_filter.1 hx
    simp at h1
    exact ⟨h1.1, by omega⟩
  have hr : (stays ((begN q at_ : Int) - s.width + q) s.bs).Pairwise fun a b => a.at_ < b.at_ := List.Pairwise.filter _ h.rise
  unfold addM
  have e : ∀ l : List Bkt, (∀ x ∈ l, x ∈ s.bs ∧ (begN q at_ : Int) - s.width + q ≤ x.at_) → l.Pairwise (fun a b => a.at_ < b.at_) → Tidy q { s with last := at_, bs := noteM (begN q at_) c l } at_ := by
    intro l hl hp
    rcases nil_or_snoc l with rfl | ⟨t, x, rfl⟩
    · rw [noteM_nil]
      refine ⟨List.pairwise_singleton _ _, ?_, ?_, ?_, ?_⟩
      all_goals
        intro y hy
        obtain rfl := List.mem_singleton.1 hy
      · exact hg
      · show (begN q at_ : Int) - s.width + q ≤ (begN q at_ : Int); omega
      · exact Int.le_refl _
      · exact joinM_fine zero_fine hc
    · have hp2 := List.pairwise_append.1 hp
      have hx := hl x (by simp)
      have hxh := h.high x hx.1
      rw [noteM_snoc]
      split
      · rename_i hb2
        refine ⟨List.pairwise_append.2 ⟨hp2.1, List.pairwise_singleton _ _, fun a ha b hb3 => ?_⟩, ?_, ?_, ?_, ?_⟩
        · obtain rfl := List.mem_singleton.1 hb3
          have := hp2.2.2 a ha x (List.mem_singleton.2 rfl)
          show a.at_ < (begN q at_ : Int); omega
        all_goals
          intro y hy
          rcases List.mem_append.1 hy with hy | hy
        · exact h.grid y (hl y (by simp [hy])).1
        · obtain rfl := List.mem_singleton.1 hy; exact hg
        · exact (hl y (by simp [hy])).2
        · obtain rfl := List.mem_singleton.1 hy; show (begN q at_ : Int) - s.width + q ≤ (begN q at_ : Int); omega
        · have := h.high y (hl y (by simp [hy])).1; show y.at_ ≤ (begN q at_ : Int); omega
        · obtain rfl := List.mem_singleton.1 hy; exact Int.le_refl _
        · exact h.fine y (hl y (by simp [hy])).1
        · obtain rfl := List.mem_singleton.1 hy; exact joinM_fine (h.fine x hx.1) hc
      · rename_i hb2
        refine ⟨List.pairwise_append.2 ⟨hp, List.pairwise_singleton _ _, fun a ha b hb3 => ?_⟩, ?_, ?_, ?_, ?_⟩
        · obtain rfl := List.mem_singleton.1 hb3
          show a.at_ < (begN q at_ : Int)
          rcases List.mem_append.1 ha with ha | ha
          · have := hp2.2.2 a ha x (List.mem_singleton.2 rfl); omega
          · obtain rfl := List.mem_singleton.1 ha; omega
        all_goals
          intro y hy
          rcases List.mem_append.1 hy with hy | hy
        · exact h.grid y (hl y hy).1
        · obtain rfl := List.mem_singleton.1 hy; exact hg
        · exact (hl y hy).2
        · obtain rfl := List.mem_singleton.1 hy; show (begN q at_ : Int) - s.width + q ≤ (begN q at_ : Int); omega
        · have := h.high y (hl y hy).1; show y.at_ ≤ (begN q at_ : Int); omega
        · obtain rfl := List.mem_singleton.1 hy; exact Int.le_refl _
        · exact h.fine y (hl y hy).1
        · obtain rfl := List.mem_singleton.1 hy; exact joinM_fine zero_fine hc
  exact e _ hin hr

/-- what the window tells is what was noted -/
def Tells (q : Nat) (s : Win) (last : Nat) (E : List (Nat × Int)) : Prop := ∀ L : Int, (begN q last : Int) - s.width + q ≤ L → pas L s.bs = ev q L E

theorem Tells.add {q : Nat} {s : Win} {last at_ : Nat} {E : List (Nat × Int)} {c : Cnt} (h : Tells q s last E) (ht : Tidy q s last) (hb : last ≤ at_) (hE : ∀ e ∈ E, 0 ≤ e.2) (hs : tot E + c.pass ≤ 4611686018427387904) : Tells q (addM q s at_ c) at_ (E ++ [(at_, c.pass)]) := by
  intro L hL
  have hm := begN_mono (q := q) hb
  have hL' : (begN q at_ : Int) - s.width + q ≤ L := hL
  have h0 : (0 : Int) ≤ tot E := by have := ev_le q 0 E hE; omega
  show pas L (noteM (begN q at_) c (stays ((begN q at_ : Int) - s.width + q) s.bs)) = _
  rw [pas_note _ _ _ _ (by omega) (fun x hx => ?_), pas_stays _ _ _ hL', h L (by omega), ev_app]
  · simp [ev]
  · have hx1 := (List.mem_filter.1 hx).1
    have h1 := pas_mem s.bs (fun y hy => (ht.fine y hy).1.1) x hx1
    have h2 := ht.low x hx1
    rw [h x.at_ h2] at h1
    have h3 := ev_le q x.at_ E hE
    omega

theorem stays_tidy {q : Nat} {s : Win} {last : Nat} (h : Tidy q s last) : stays ((begN q last : Int) - s.width + q) s.bs = s.bs := by
  unfold stays
  rw [List.filter_eq_self]
  intro x hx
  have := h.low x hx
  simp; omega

theorem sum_pas (L : Int) : ∀ (l : List Bkt) (a : Cnt), (∀ x ∈ l, 0 ≤ x.c.pass) → (∀ x ∈ l, L ≤ x.at_) → a.pass + pas L l ≤ 4611686018427387904 → (l.foldl (fun s b => joinM s b.c) a).pass = a.pass + pas L l := by
  intro l
  induction l with
  | nil => intro a _ _ _; simp [pas]
  | cons x t ih =>
    intro a h1 h2 h3
    have hx1 := h1 x List.mem_cons_self
    have hx2 := h2 x List.mem_cons_self
    have hp := pas_pos L t fun e he => h1 e (List.mem_cons_of_mem _ he)
    simp only [pas] at h3 ⊢
    rw [if_pos hx2] at h3 ⊢
    have e : (joinM a x.c).pass = a.pass + x.c.pass := by show plusM a.pass x.c.pass = _; rw [plusM_small (by omega)]
    rw [List.foldl_cons, ih (joinM a x.c) (fun e he => h1 e (List.mem_cons_of_mem _ he)) (fun e he => h2 e (List.mem_cons_of_mem _ he)) (by omega)]
    omega

theorem sum_told {q : Nat} {s : Win} {last : Nat} {E : List (Nat × Int)} (h : Tells q s last E) (ht : Tidy q s last) (hE : ∀ e ∈ E, 0 ≤ e.2) (hs : tot E ≤ 4611686018427387904) : (sumM (stays ((begN q last : Int) - s.width + q) s.bs)).pass = ev q ((begN q last : Int) - s.width + q) E := by
  have h1 := h _ (Int.le_refl _)
  have h2 := ev_le q ((begN q last : Int) - s.width + q) E hE
  rw [stays_tidy ht]
  unfold sumM
  rw [sum_pas ((begN q last : Int) - s.width + q) s.bs _ (fun x hx => (ht.fine x hx).1.1) ht.low (by show 0 + _ ≤ _; omega), ← h1]
  show 0 + _ = _; omega

theorem pas_one (b : Int) (q : Nat) (t : List Bkt) (ht : ∀ y ∈ t, y.at_ = b) : pas (b - q) t = pas b t := by
  induction t with
  | nil => rfl
  | cons y u ih =>
    have := ht y List.mem_cons_self
    simp only [pas]
    rw [ih fun z hz => ht z (List.mem_cons_of_mem _ hz), if_pos (by omega), if_pos (by omega)]

theorem most_told {q : Nat} {s : Win} {last : Nat} {E : List (Nat × Int)} (h : Tells q s last E) (ht : Tidy q s last) (hq : 0 < q) (hw : s.width = 2 * q) : mostM (begN q last) (stays ((begN q last : Int) - s.width + q) s.bs) = ev q ((begN q last : Int) - q) E - ev q (begN q last) E := by
  rw [stays_tidy ht]
  have hl : (begN q last : Int) - s.width + q = (begN q last : Int) - q := by rw [hw]; omega
  rw [← h ((begN q last : Int) - q) (by omega), ← h (begN q last) (by omega)]
  have hlow := ht.low
  rw [hl] at hlow
  obtain ⟨_, _, _, bs⟩ := s
  obtain ⟨h1, h2, _, h4, h5⟩ := ht
  dsimp only at *
  have hg := begN_grid q last
  have hat : ∀ x ∈ bs, x.at_ ≠ (begN q last : Int) → x.at_ = (begN q last : Int) - q := fun x hx hn => by
    have := grid_step (h2 x hx) hg (by have := h4 x hx; omega)
    have := hlow x hx
    omega
  rcases bs with _ | ⟨x, t⟩
  · simp [mostM, pas]
  · have hp := List.pairwise_cons.1 h1
    have ht : ∀ y ∈ t, y.at_ = (begN q last : Int) := fun y hy => by
      have := hp.1 y hy
      have := hlow x List.mem_cons_self
      by_cases hn : y.at_ = (begN q last : Int)
      · exact hn
      · have := hat y (List.mem_cons_of_mem _ hy) hn; omega
    have hpt := pas_one (begN q last : Int) q t ht
    by_cases hx : x.at_ = (begN q last : Int)
    · have ht0 : t = [] := by
        rcases t with _ | ⟨y, u⟩
        · rfl
        · have := ht y List.mem_cons_self; have := hp.1 y List.mem_cons_self; omega
      subst ht0
      simp [mostM, pas, hx]
      omega
    · have hxq := hat x List.mem_cons_self hx
      have hpos := (h5 x List.mem_cons_self).1.1
      simp only [pas]
      rw [hpt, if_pos (by omega), if_neg (by omega)]
      have e : mostM (begN q last) (x :: t) = max 0 x.c.pass := by
        unfold mostM
        rw [List.takeWhile_cons_of_pos (by simpa using hx)]
        have e2 : t.takeWhile (fun x => !decide (x.at_ = (begN q last : Int))) = [] := by
          rcases t with _ | ⟨y, u⟩
          · rfl
          · rw [List.takeWhile_cons_of_neg (by simpa using ht y List.mem_cons_self)]
        rw [e2]; rfl
      rw [e]; omega

end Go.Proofs.Ytnloedhcginopaa.WinN
