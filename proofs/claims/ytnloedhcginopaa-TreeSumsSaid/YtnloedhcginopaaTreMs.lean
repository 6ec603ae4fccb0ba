/- Rows of keys read, boxes of counts. -/
import Derived.Test.YtnloedhcginopaaTreMp
import Derived.Test.YtnloedhcginopaaTreMb

/- TreeSums, plain mathematics: joins of fine counts are a sum, and what is noted into one of many is noted into all together. -/
namespace Go.Proofs.Ytnloedhcginopaa.TreSa
set_option linter.unusedVariables false
open Go.ChangeShapes Go.WideShapes Go.ChangeAt Go.RowKit Go.Deep Base Wri Map Opn TreA TreB TreC TreD TreE TreF TreG TreH TreJ TreK TreL TreP TreQ TreR TreS TreT TreV TreW TreX TreY TreWa TreWb TreZ TreAa TreAb TreAc TreAd TreAe TreAf TreAg TreAh WinM WinA WinB WinC WinD WinE WinF WinG WinH WinI WinJ WinK WinN StaA StaB StaC StaD StaH StaI

theorem plus_comm (a b : Int) : plusM a b = plusM b a := by unfold plusM; rw [Int.add_comm]
theorem plus_assoc {a b c : Int} (ha : InN a) (hb : InN b) (hc : InN c) : plusM (plusM a b) c = plusM a (plusM b c) := by
  unfold plusM InN at *
  by_cases h1 : 4611686018427387904 < a + b <;> by_cases h2 : 4611686018427387904 < b + c <;> simp only [h1, h2, if_true, if_false] <;> (repeat' split) <;> omega
theorem plus_zero {a : Int} (ha : InN a) : plusM 0 a = a := by unfold plusM InN at *; split <;> omega
theorem plus_done {a b : Int} (ha : InN a) (hb : InN b) : plusM a b = 0 ↔ a = 0 ∧ b = 0 := by unfold plusM InN at *; split <;> omega

/-- low is 0 where nothing was done -/
def Low (c : Cnt) : Prop := c.done = 0 → c.low = 0
theorem low_zero : Low zeroC := fun _ => rfl
theorem low_join {a b : Cnt} (ha : a.Fine) (hb : b.Fine) (la : Low a) (lb : Low b) : Low (joinM a b) := by
  intro h
  have h1 : plusM a.done b.done = 0 := h
  obtain ⟨h2, h3⟩ := (plus_done ha.2.2.1 hb.2.2.1).1 h1
  show leastM a b = 0
  unfold leastM; rw [if_pos h2]; exact lb h3

theorem join_comm {a b : Cnt} (la : Low a) (lb : Low b) : joinM a b = joinM b a := by
  unfold joinM
  rw [plus_comm a.pass, plus_comm a.block, plus_comm a.done, plus_comm a.errs, plus_comm a.rt]
  congr 1
  unfold leastM
  unfold Low at la lb
  by_cases h1 : a.done = 0 <;> by_cases h2 : b.done = 0 <;> simp only [h1, h2, if_true, if_false]
  · rw [la h1, lb h2]
  · exact Int.min_comm _ _

theorem join_assoc {a b c : Cnt} (ha : a.Fine) (hb : b.Fine) (hc : c.Fine) : joinM (joinM a b) c = joinM a (joinM b c) := by
  obtain ⟨a1, a2, a3, a4, a5, a6⟩ := ha
  obtain ⟨b1, b2, b3, b4, b5, b6⟩ := hb
  obtain ⟨c1, c2, c3, c4, c5, c6⟩ := hc
  have d1 := plus_done a3 b3
  have d2 := plus_done b3 c3
  unfold joinM
  rw [plus_assoc a1 b1 c1, plus_assoc a2 b2 c2, plus_assoc a3 b3 c3, plus_assoc a4 b4 c4, plus_assoc a5 b5 c5]
  congr 1
  unfold leastM
  dsimp only
  simp only [d1, d2]
  by_cases h1 : a.done = 0 <;> by_cases h2 : b.done = 0 <;> by_cases h3 : c.done = 0 <;> simp [h1, h2, h3, Int.min_assoc]

theorem zero_join {a : Cnt} (ha : a.Fine) : joinM zeroC a = a := by
  obtain ⟨a1, a2, a3, a4, a5, a6⟩ := ha
  unfold joinM zeroC leastM
  dsimp only
  rw [plus_zero a1, plus_zero a2, plus_zero a3, plus_zero a4, plus_zero a5, if_pos rfl]

theorem join_zero {a : Cnt} (ha : a.Fine) (la : Low a) : joinM a zeroC = a := (join_comm la low_zero).trans (zero_join ha)

end Go.Proofs.Ytnloedhcginopaa.TreSa

/- TreeSums, plain mathematics: what noting does to the sums of a window. -/
namespace Go.Proofs.Ytnloedhcginopaa.TreSb
set_option linter.unusedVariables false
open Go.ChangeShapes Go.WideShapes Go.ChangeAt Go.RowKit Go.Deep Base Wri Map Opn TreA TreB TreC TreD TreE TreF TreG TreH TreJ TreK TreL TreP TreQ TreR TreS TreT TreV TreW TreX TreY TreWa TreWb TreZ TreAa TreAb TreAc TreAd TreAe TreAf TreAg TreAh WinM WinA WinB WinC WinD WinE WinF WinG WinH WinI WinJ WinK WinN StaA StaB StaC StaD StaH StaI TreSa

/-- counts that join as a sum does -/
def FL (c : Cnt) : Prop := c.Fine ∧ Low c
theorem right_fl {c : Cnt} (h : c.Right) : FL c := by
  obtain ⟨h1, h2, h3, h4⟩ := h
  refine ⟨h1, fun hd => ?_⟩
  obtain ⟨_, _, _, _, a5, a6⟩ := h1
  unfold InN at a5 a6
  have : c.rt = 0 := by
    by_cases hr : c.rt = 0
    · exact hr
    · exact absurd ⟨hd, hr⟩ h4
  omega
theorem fl_zero : FL zeroC := ⟨zero_right.1, low_zero⟩
theorem fl_join {a b : Cnt} (ha : FL a) (hb : FL b) : FL (joinM a b) := ⟨joinM_fine ha.1 hb.1, low_join ha.1 hb.1 ha.2 hb.2⟩

theorem sum_snoc (l : List Bkt) (x : Bkt) : sumM (l ++ [x]) = joinM (sumM l) x.c := by simp [sumM]
theorem sum_fl (l : List Bkt) (h : ∀ x ∈ l, FL x.c) : FL (sumM l) := by
  suffices ∀ (s : Cnt), FL s → FL (l.foldl (fun s b => joinM s b.c) s) from this _ fl_zero
  induction l with
  | nil => intro s hs; exact hs
  | cons x l ih => intro s hs; exact ih (fun y hy => h y (List.mem_cons_of_mem _ hy)) _ (fl_join hs (h x List.mem_cons_self))
theorem stays_mem {lim : Int} {l : List Bkt} {x : Bkt} : x ∈ stays lim l ↔ x ∈ l ∧ lim ≤ x.at_ := by
  unfold stays; rw [List.mem_filter]; simp
theorem stays_stays {a b : Int} (h : a ≤ b) (l : List Bkt) : stays b (stays a l) = stays b l := by
  unfold stays
  rw [List.filter_filter]
  apply List.filter_congr
  intro x _
  by_cases h1 : x.at_ < b
  · simp [h1]
  · have : ¬ x.at_ < a := by omega
    simp [h1, this]
theorem stays_snoc (lim : Int) (l : List Bkt) (x : Bkt) : stays lim (l ++ [x]) = if lim ≤ x.at_ then stays lim l ++ [x] else stays lim l := by
  unfold stays
  rw [List.filter_append, List.filter_cons]
  by_cases h : lim ≤ x.at_
  · have : ¬ x.at_ < lim := by omega
    simp [h, this]
  · have : x.at_ < lim := by omega
    simp [h, this]
theorem stays_none {lim : Int} {l : List Bkt} (h : ∀ x ∈ l, x.at_ < lim) : stays lim l = [] := by
  unfold stays
  rw [List.filter_eq_nil_iff]
  intro x hx
  simp [h x hx]

/-- what a window has from a time on, once counts were noted at b -/
theorem tot_note {lim b : Int} (hb : lim ≤ b) (c : Cnt) (hc : FL c) (l : List Bkt) (h : ∀ x ∈ l, FL x.c) : sumM (stays lim (noteM b c l)) = joinM (sumM (stays lim l)) c := by
  have hz : joinM ⟨0, 0, 0, 0, 0, 0⟩ c = c := zero_join hc.1
  have hs : ∀ m : List Bkt, (∀ x ∈ m, FL x.c) → FL (sumM (stays lim m)) := fun m hm => sum_fl _ fun x hx => hm x (stays_mem.1 hx).1
  unfold noteM
  rw [hz]
  cases hl : l.getLast? with
  | none =>
    rw [List.getLast?_eq_none_iff] at hl
    subst hl
    have e : stays lim [⟨b, c⟩] = [⟨b, c⟩] := by rw [show ([⟨b, c⟩] : List Bkt) = [] ++ [⟨b, c⟩] from rfl, stays_snoc, if_pos hb]; rfl
    dsimp only
    rw [e]
    rfl
  | some x =>
    have hlx : l = l.dropLast ++ [x] := by
      rw [List.getLast?_eq_some_iff] at hl
      obtain ⟨ys, rfl⟩ := hl
      simp
    dsimp only
    by_cases hx : x.at_ = b
    · rw [if_pos hx, stays_snoc, if_pos hb, sum_snoc]
      have hd : ∀ y ∈ l.dropLast, FL y.c := fun y hy => h y (by rw [hlx]; exact List.mem_append_left _ hy)
      have hxl : FL x.c := h x (by rw [hlx]; simp)
      have e : stays lim l = stays lim l.dropLast ++ [x] := by
        have := stays_snoc lim l.dropLast x
        rw [← hlx, if_pos (by omega)] at this
        exact this
      rw [e, sum_snoc]
      exact (join_assoc (hs _ hd).1 hxl.1 hc.1).symm
    · rw [if_neg hx, stays_snoc, if_pos hb, sum_snoc]

theorem tot_add {lim : Int} {q at_ : Nat} (s : Win) (c : Cnt) (hc : FL c) (h : ∀ x ∈ s.bs, FL x.c) (h0 : (begN q at_ : Int) - s.width + q ≤ lim) (h1 : lim ≤ begN q at_) : sumM (stays lim (addM q s at_ c).bs) = joinM (sumM (stays lim s.bs)) c := by
  show sumM (stays lim (noteM (begN q at_) c (stays ((begN q at_ : Int) - s.width + q) s.bs))) = _
  rw [tot_note h1 c hc _ fun x hx => h x (stays_mem.1 hx).1, stays_stays h0]

end Go.Proofs.Ytnloedhcginopaa.TreSb

/- TreeSums, plain mathematics: many that are joined, of which one is told something. -/
namespace Go.Proofs.Ytnloedhcginopaa.TreSc
set_option linter.unusedVariables false
open Go.ChangeShapes Go.WideShapes Go.ChangeAt Go.RowKit Go.Deep Base Wri Map Opn TreA TreB TreC TreD TreE TreF TreG TreH TreJ TreK TreL TreP TreQ TreR TreS TreT TreV TreW TreX TreY TreWa TreWb TreZ TreAa TreAb TreAc TreAd TreAe TreAf TreAg TreAh WinM WinA WinB WinC WinD WinE WinF WinG WinH WinI WinJ WinK WinN StaA StaB StaC StaD StaH StaI TreSa TreSb

theorem fold_fl (l : List Cnt) (h : ∀ x ∈ l, FL x) (s : Cnt) (hs : FL s) : FL (l.foldl joinM s) := by
  induction l generalizing s with
  | nil => exact hs
  | cons x l ih => exact ih (fun y hy => h y (List.mem_cons_of_mem _ hy)) _ (fl_join hs (h x List.mem_cons_self))

/-- what is told ahead of a join may be told behind it -/
theorem fold_slide (l : List Cnt) (h : ∀ x ∈ l, FL x) (s c : Cnt) (hs : FL s) (hc : FL c) : l.foldl joinM (joinM s c) = joinM (l.foldl joinM s) c := by
  induction l generalizing s with
  | nil => rfl
  | cons x l ih =>
    have hx := h x List.mem_cons_self
    have hl : ∀ y ∈ l, FL y := fun y hy => h y (List.mem_cons_of_mem _ hy)
    show l.foldl joinM (joinM (joinM s c) x) = joinM (l.foldl joinM (joinM s x)) c
    rw [← ih hl _ (fl_join hs hx)]
    congr 1
    rw [join_assoc hs.1 hc.1 hx.1, join_comm hc.2 hx.2, ← join_assoc hs.1 hx.1 hc.1]

theorem fold_zeros {α : Type} (l : List α) (v : α → Cnt) (h : ∀ x ∈ l, v x = zeroC) : (l.map v).foldl joinM zeroC = zeroC := by
  induction l with
  | nil => rfl
  | cons x l ih =>
    show (l.map v).foldl joinM (joinM zeroC (v x)) = zeroC
    rw [h x List.mem_cons_self, zero_join fl_zero.1]
    exact ih fun y hy => h y (List.mem_cons_of_mem _ hy)

/-- one of many is told c -/
theorem fold_one {α : Type} (l : List α) (v v' : α → Cnt) (c : Cnt) (y0 : α) (s : Cnt) (hs : FL s) (hc : FL c) (hv : ∀ x ∈ l, FL (v x)) (h0 : v' y0 = joinM (v y0) c) (hn : ∀ x ∈ l, x ≠ y0 → v' x = v x) (hm : y0 ∈ l) (hd : l.Nodup) :
    (l.map v').foldl joinM s = joinM ((l.map v).foldl joinM s) c := by
  induction l generalizing s with
  | nil => cases hm
  | cons x l ih =>
    have hx := hv x List.mem_cons_self
    have hl : ∀ y ∈ l, FL (v y) := fun y hy => hv y (List.mem_cons_of_mem _ hy)
    obtain ⟨hnx, hd'⟩ := List.nodup_cons.1 hd
    show (l.map v').foldl joinM (joinM s (v' x)) = joinM ((l.map v).foldl joinM (joinM s (v x))) c
    by_cases e : x = y0
    · subst e
      have hm' : l.map v' = l.map v := List.map_congr_left fun y hy => hn y (List.mem_cons_of_mem _ hy) (fun e => hnx (e ▸ hy))
      rw [hm', h0, ← join_assoc hs.1 hx.1 hc.1]
      exact fold_slide _ (fun z hz => by obtain ⟨y, hy, rfl⟩ := List.mem_map.1 hz; exact hl y hy) _ _ (fl_join hs hx) hc
    · rw [hn x List.mem_cons_self e]
      refine ih _ (fl_join hs hx) hl (fun y hy => hn y (List.mem_cons_of_mem _ hy)) ?_ hd'
      rcases List.mem_cons.1 hm with h | h
      · exact absurd h.symm e
      · exact h

/-- the same of numbers -/
theorem sum_one {α : Type} (l : List α) (v v' : α → Int) (c : Int) (y0 : α) (h0 : v' y0 = v y0 + c) (hn : ∀ x ∈ l, x ≠ y0 → v' x = v x) (hm : y0 ∈ l) (hd : l.Nodup) :
    (l.map v').sum = (l.map v).sum + c := by
  induction l with
  | nil => cases hm
  | cons x l ih =>
    obtain ⟨hnx, hd'⟩ := List.nodup_cons.1 hd
    simp only [List.map_cons, List.sum_cons]
    by_cases e : x = y0
    · subst e
      have hm' : l.map v' = l.map v := List.map_congr_left fun y hy => hn y (List.mem_cons_of_mem _ hy) (fun e => hnx (e ▸ hy))
      rw [hm', h0]; omega
    · rw [hn x List.mem_cons_self e]
      have := ih (fun y hy => hn y (List.mem_cons_of_mem _ hy)) (by
        rcases List.mem_cons.1 hm with h | h
        · exact absurd h.symm e
        · exact h) hd'
      omega

end Go.Proofs.Ytnloedhcginopaa.TreSc

/- TreeSums, plain mathematics: a whole and its parts. -/
namespace Go.Proofs.Ytnloedhcginopaa.TreSd
set_option linter.unusedVariables false
open Go.ChangeShapes Go.WideShapes Go.ChangeAt Go.RowKit Go.Deep Base Wri Map Opn TreA TreB TreC TreD TreE TreF TreG TreH TreJ TreK TreL TreP TreQ TreR TreS TreT TreV TreW TreX TreY TreWa TreWb TreZ TreAa TreAb TreAc TreAd TreAe TreAf TreAg TreAh WinM WinA WinB WinC WinD WinE WinF WinG WinH WinI WinJ WinK WinN StaA StaB StaC StaD StaH StaI TreSa TreSb TreSc

def valN (lim : Int) (N : Nd) : Cnt := sumM (stays lim N.sec.bs)
def PS (s : St) (P : Key → Bool) : List (Key × Nd) := s.ks.filter fun e => P e.1
def totP (lim : Int) (l : List (Key × Nd)) : Cnt := (l.map fun e => valN lim e.2).foldl joinM zeroC
def ent (l : List (Key × Nd)) : Int := (l.map fun e => e.2.entries).sum

structure SGood (s : St) : Prop where
  nd : s.keys.Nodup
  ok : ∀ e ∈ s.ks, ∃ l, l ≤ s.last ∧ NK e.2 l

structure SInv (s : St) (x : Key) (P : Key → Bool) : Prop where
  none : x ∉ s.keys → ∀ y ∈ s.keys, P y = false
  val : ∀ e ∈ s.ks, e.1 = x → (∀ lim, (begN 100000 s.last : Int) - 900000 ≤ lim → valN lim e.2 = totP lim (PS s P)) ∧ e.2.entries = ent (PS s P)

theorem nk_fl {N : Nd} {l : Nat} (h : NK N l) : ∀ x ∈ N.sec.bs, FL x.c := fun x hx => right_fl (h.r1 x hx)
theorem val_fl {N : Nd} {l : Nat} (h : NK N l) (lim : Int) : FL (valN lim N) := sum_fl _ fun x hx => nk_fl h x (stays_mem.1 hx).1
theorem val_new (lim : Int) : valN lim Nd.new = zeroC := rfl
theorem new_good : SGood TreZ.St.new := ⟨List.nodup_nil, fun e he => by cases he⟩
theorem inv_new (x : Key) (P : Key → Bool) : SInv TreZ.St.new x P := ⟨(fun _ y hy => by cases hy), (fun e he => by cases he)⟩

theorem tot_fl {l : List (Key × Nd)} (h : ∀ e ∈ l, ∃ k, NK e.2 k) (lim : Int) : FL (totP lim l) :=
  fold_fl _ (fun z hz => by obtain ⟨e, he, rfl⟩ := List.mem_map.1 hz; obtain ⟨k, hk⟩ := h e he; exact val_fl hk lim) _ fl_zero

/-- nodes that are new have nothing -/
theorem tot_news (lim : Int) (l : List (Key × Nd)) (m : List Key) (h : ∀ e ∈ l, ∃ k, NK e.2 k) : totP lim (l ++ m.map fun x => (x, Nd.new)) = totP lim l := by
  have hl := tot_fl h lim
  unfold totP at *
  rw [List.map_append, List.foldl_append]
  generalize (l.map fun e => valN lim e.2).foldl joinM zeroC = a at *
  induction m with
  | nil => rfl
  | cons y m ih =>
    show ((m.map fun x => (x, Nd.new)).map fun e => valN lim e.2).foldl joinM (joinM a zeroC) = a
    rw [join_zero hl.1 hl.2]
    exact ih
theorem ent_news (l : List (Key × Nd)) (m : List Key) : ent (l ++ m.map fun x => (x, Nd.new)) = ent l := by
  unfold ent
  rw [List.map_append, List.sum_append]
  have : ((m.map fun x => (x, Nd.new)).map fun e : Key × Nd => e.2.entries).sum = 0 := by
    induction m with
    | nil => rfl
    | cons y m ih => simp only [List.map_cons, List.sum_cons] at *; rw [ih]; rfl
  omega

theorem grow_PS (s : St) (l : List Key) (P : Key → Bool) : PS (s.grow l) P = PS s P ++ ((news s.keys l).filter P).map fun x => (x, Nd.new) := by
  unfold PS St.grow
  rw [List.filter_append, List.filter_map]
  rfl

theorem SGood.grow {s : St} (h : SGood s) (l : List Key) : SGood (s.grow l) := by
  refine ⟨?_, fun e he => ?_⟩
  · rw [grow_keys, List.nodup_append]
    refine ⟨h.nd, news_nodup _ _, fun a ha b hb e => ?_⟩
    subst e
    exact ((news_mem _ _ _).1 hb).2 ha
  · rcases List.mem_append.1 (show e ∈ s.ks ++ (news s.keys l).map fun x => (x, Nd.new) from he) with h1 | h1
    · exact h.ok e h1
    · obtain ⟨x, _, rfl⟩ := List.mem_map.1 h1
      exact ⟨0, Nat.zero_le _, NK.new⟩

theorem SInv.grow {s : St} {x : Key} {P : Key → Bool} (hG : SGood s) (h : SInv s x P) (l : List Key) (hl : x ∉ l → ∀ y ∈ l, P y = false) : SInv (s.grow l) x P := by
  have hk : ∀ e ∈ PS s P, ∃ k, NK e.2 k := fun e he => by
    obtain ⟨k, _, hk⟩ := hG.ok e (List.mem_filter.1 he).1
    exact ⟨k, hk⟩
  refine ⟨fun hx y hy => ?_, fun e he hex => ?_⟩
  · rw [grow_keys] at hx hy
    have hx1 : x ∉ s.keys := fun h => hx (List.mem_append_left _ h)
    have hx2 : x ∉ l := fun h2 => hx (by
      by_cases h3 : x ∈ s.keys
      · exact List.mem_append_left _ h3
      · exact List.mem_append_right _ ((news_mem _ _ _).2 ⟨h2, h3⟩))
    rcases List.mem_append.1 hy with h1 | h1
    · exact h.none hx1 y h1
    · exact hl hx2 y ((news_mem _ _ _).1 h1).1
  · rw [grow_PS, ent_news]
    have hlast : (s.grow l).last = s.last := rfl
    rw [hlast]
    rcases List.mem_append.1 (show e ∈ s.ks ++ (news s.keys l).map fun x => (x, Nd.new) from he) with h1 | h1
    · obtain ⟨v1, v2⟩ := h.val e h1 hex
      exact ⟨fun lim hlim => by rw [tot_news lim _ _ hk]; exact v1 lim hlim, v2⟩
    · obtain ⟨y, hy, rfl⟩ := List.mem_map.1 h1
      have hex' : y = x := hex
      subst hex'
      have hn : y ∉ s.keys := ((news_mem _ _ _).1 hy).2
      have hz : PS s P = [] := by
        unfold PS
        rw [List.filter_eq_nil_iff]
        intro e2 he2
        have := h.none hn e2.1 (List.mem_map.2 ⟨e2, he2, rfl⟩)
        simp [this]
      rw [hz]
      exact ⟨fun lim hlim => by rw [tot_news lim [] _ (fun _ h => by cases h)]; exact val_new lim, rfl⟩

end Go.Proofs.Ytnloedhcginopaa.TreSd

/- TreeSums, plain mathematics: a whole and its parts, behind a call. -/
namespace Go.Proofs.Ytnloedhcginopaa.TreSe
set_option linter.unusedVariables false
open Go.ChangeShapes Go.WideShapes Go.ChangeAt Go.RowKit Go.Deep Base Wri Map Opn TreA TreB TreC TreD TreE TreF TreG TreH TreJ TreK TreL TreP TreQ TreR TreS TreT TreV TreW TreX TreY TreWa TreWb TreZ TreAa TreAb TreAc TreAd TreAe TreAf TreAg TreAh WinM WinA WinB WinC WinD WinE WinF WinG WinH WinI WinJ WinK WinN StaA StaB StaC StaD StaH StaI TreSa TreSb TreSc TreSd

theorem begN_mono (q : Nat) {a b : Nat} (h : a ≤ b) : begN q a ≤ begN q b := by
  unfold begN
  rcases Nat.eq_zero_or_pos q with rfl | hq
  · simp
  · have h1 := Nat.div_add_mod a q
    have h2 := Nat.div_add_mod b q
    have h3 : a / q ≤ b / q := Nat.div_le_div_right h
    have h4 : q * (a / q) ≤ q * (b / q) := Nat.mul_le_mul_left _ h3
    omega

/-- a key stands once -/
theorem nodup_one {l : List (Key × Nd)} (h : (l.map (·.1)).Nodup) {a b : Key × Nd} (ha : a ∈ l) (hb : b ∈ l) (e : a.1 = b.1) : a = b := by
  induction l with
  | nil => cases ha
  | cons x l ih =>
    obtain ⟨h1, h2⟩ := List.nodup_cons.1 (show (x.1 :: l.map (·.1)).Nodup from h)
    rcases List.mem_cons.1 ha with e1 | h3 <;> rcases List.mem_cons.1 hb with e2 | h4
    · rw [e1, e2]
    · exact (h1 (List.mem_map.2 ⟨b, h4, by rw [← e, e1]⟩)).elim
    · exact (h1 (List.mem_map.2 ⟨a, h3, by rw [e, e2]⟩)).elim
    · exact ih h2 h3 h4

theorem each_PS (s : St) (l : List Key) (g : Nd → Nd) (at_ : Nat) (P : Key → Bool) : PS ⟨eachK l g s.ks, at_⟩ P = (PS s P).map fun e => if e.1 ∈ l then (e.1, g e.2) else e := by
  unfold PS eachK
  show (s.ks.map _).filter _ = _
  rw [List.filter_map]
  congr 1
  apply List.filter_congr
  intro e _
  show P (if e.1 ∈ l then (e.1, g e.2) else e).1 = P e.1
  by_cases h : e.1 ∈ l
  · rw [if_pos h]
  · rw [if_neg h]

/-- what noting does to a node's window, from the window's reach on -/
theorem val_noted {N : Nd} {k t : Nat} (h : NK N k) (hkt : k ≤ t) (d : Int) (c : Cnt) (hc : FL c) (lim : Int) (hlim : (begN 100000 t : Int) - 900000 ≤ lim) (h1 : lim ≤ begN 100000 t) : valN lim (({ N with entries := N.entries + d } : Nd).noted t c) = joinM (valN lim N) c := by
  have hw := h.ok.w1
  exact tot_add (q := 100000) N.sec c hc (nk_fl h) (by rw [hw]; omega) h1
theorem val_past {N : Nd} {k : Nat} (h : NK N k) (lim : Int) (h1 : (begN 100000 k : Int) < lim) : valN lim N = zeroC := by
  unfold valN
  rw [stays_none fun x hx => by have := h.t1.high x hx; omega]
  rfl

theorem _root_.Go.Proofs.Ytnloedhcginopaa.TreSd.SInv.each {s : St} {x : Key} {P : Key → Bool} (hG : SGood s) (h : SInv s x P) {t : Nat} (ht : s.last ≤ t) (l : List Key) (hin : ∀ y ∈ l, y ∈ s.keys) (d : Int) (c : Cnt) (hc : FL c) (g : Nd → Nd) (hg : ∀ N, g N = ({ N with entries := N.entries + d } : Nd).noted t c)
    (hok : ∀ e ∈ s.ks, e.1 ∈ l → NK (g e.2) t)
    (hx : P x = false) (hl : x ∈ l → ∃ y0 ∈ l, P y0 = true ∧ ∀ y ∈ l, P y = true → y = y0) (hl' : x ∉ l → ∀ y ∈ l, P y = false) : SInv ⟨eachK l g s.ks, t⟩ x P := by
  have hbt : begN 100000 s.last ≤ begN 100000 t := begN_mono _ ht
  have hkeys : (⟨eachK l g s.ks, t⟩ : St).keys = s.keys := eachK_keys l g s.ks
  have hsub : ∀ e ∈ PS s P, e ∈ s.ks ∧ P e.1 = true := fun e he => by
    obtain ⟨h1, h2⟩ := List.mem_filter.1 he
    exact ⟨h1, h2⟩
  have hnd : (PS s P).Nodup := by
    have h1 : s.ks.Nodup := by
      have := hG.nd
      unfold St.keys at this
      exact List.Pairwise.of_map (R := fun a b => a ≠ b) (S := fun a b => a ≠ b) _ (fun a b hab e => hab (by rw [e])) this
    exact h1.filter _
  have huniq : ∀ e ∈ s.ks, ∀ e' ∈ s.ks, e.1 = e'.1 → e = e' := fun e he e' he' e1 => nodup_one hG.nd he he' e1
  refine ⟨fun hxn y hy => ?_, fun e he hex => ?_⟩
  · rw [hkeys] at hxn hy
    exact h.none hxn y hy
  · obtain ⟨e0, he0, hee⟩ := List.mem_map.1 (show e ∈ s.ks.map _ from he)
    have he01 : e0.1 = x := by
      rw [← hex, ← hee]
      split <;> rfl
    obtain ⟨v1, v2⟩ := h.val e0 he0 he01
    obtain ⟨k0, hk0, nk0⟩ := hG.ok e0 he0
    rw [each_PS]
    by_cases hxl : x ∈ l
    · rw [if_pos (by rw [he01]; exact hxl)] at hee
      obtain ⟨y0, hy0, hP0, hu⟩ := hl hxl
      obtain ⟨e2, he2, he2k⟩ := List.mem_map.1 (hin y0 hy0)
      have he2P : e2 ∈ PS s P := List.mem_filter.2 ⟨he2, by rw [he2k]; exact hP0⟩
      obtain ⟨k2, hk2, nk2⟩ := hG.ok e2 he2
      have hother : ∀ z ∈ PS s P, z ≠ e2 → z.1 ∉ l := fun z hz hne hzl => hne (huniq z (hsub z hz).1 e2 he2 (by rw [he2k]; exact hu _ hzl (hsub z hz).2))
      subst hee
      dsimp only
      constructor
      · intro lim hlim
        by_cases h1 : lim ≤ begN 100000 t
        · rw [hg, val_noted nk0 (Nat.le_trans hk0 ht) d c hc lim hlim h1, v1 lim (by omega)]
          unfold totP
          rw [List.map_map]
          refine (fold_one (PS s P) (fun e => valN lim e.2) _ c e2 zeroC fl_zero hc (fun z hz => ?_) ?_ (fun z hz hne => ?_) he2P hnd).symm
          · obtain ⟨k, _, hk⟩ := hG.ok z (hsub z hz).1
            exact val_fl hk lim
          · show valN lim (if e2.1 ∈ l then (e2.1, g e2.2) else e2).2 = _
            rw [if_pos (by rw [he2k]; exact hy0), hg]
            exact val_noted nk2 (Nat.le_trans hk2 ht) d c hc lim hlim h1
          · show valN lim (if z.1 ∈ l then (z.1, g z.2) else z).2 = _
            rw [if_neg (hother z hz hne)]
        · have hp : (begN 100000 t : Int) < lim := by omega
          rw [val_past (hok e0 he0 (by rw [he01]; exact hxl)) lim hp]
          unfold totP
          rw [List.map_map]
          refine (fold_zeros _ _ fun z hz => ?_).symm
          show valN lim (if z.1 ∈ l then (z.1, g z.2) else z).2 = zeroC
          by_cases hzl : z.1 ∈ l
          · rw [if_pos hzl]
            exact val_past (hok z (hsub z hz).1 hzl) lim hp
          · rw [if_neg hzl]
            obtain ⟨k, hk, nk⟩ := hG.ok z (hsub z hz).1
            have := begN_mono 100000 (Nat.le_trans hk ht)
            exact val_past nk lim (by omega)
      · rw [hg]
        show e0.2.entries + d = _
        rw [v2]
        unfold ent
        rw [List.map_map]
        refine (sum_one (PS s P) (fun e => e.2.entries) _ d e2 ?_ (fun z hz hne => ?_) he2P hnd).symm
        · show (if e2.1 ∈ l then (e2.1, g e2.2) else e2).2.entries = _
          rw [if_pos (by rw [he2k]; exact hy0), hg]
          rfl
        · show (if z.1 ∈ l then (z.1, g z.2) else z).2.entries = _
          rw [if_neg (hother z hz hne)]
    · rw [if_neg (by rw [he01]; exact hxl)] at hee
      subst hee
      have hsame : (PS s P).map (fun e => if e.1 ∈ l then (e.1, g e.2) else e) = PS s P := by
        conv => rhs; rw [← List.map_id (PS s P)]
        apply List.map_congr_left
        intro z hz
        have : z.1 ∉ l := fun hzl => by have := hl' hxl _ hzl; rw [(hsub z hz).2] at this; cases this
        rw [if_neg this]; rfl
      rw [hsame]
      exact ⟨fun lim hlim => v1 lim (by show _ ≤ lim; have : ((⟨eachK l g s.ks, t⟩ : St).last) = t := rfl; rw [this] at hlim; omega), v2⟩

end Go.Proofs.Ytnloedhcginopaa.TreSe

/- TreeSums, plain mathematics: a whole and its parts, behind a list of deeds. -/
namespace Go.Proofs.Ytnloedhcginopaa.TreSf
set_option linter.unusedVariables false
open Go.ChangeShapes Go.WideShapes Go.ChangeAt Go.RowKit Go.Deep Base Wri Map Opn TreA TreB TreC TreD TreE TreF TreG TreH TreJ TreK TreL TreP TreQ TreR TreS TreT TreV TreW TreX TreY TreWa TreWb TreZ TreAa TreAb TreAc TreAd TreAe TreAf TreAg TreAh WinM WinA WinB WinC WinD WinE WinF WinG WinH WinI WinJ WinK WinN StaA StaB StaC StaD StaH StaI TreSa TreSb TreSc TreSd TreSe

/-- the keys of a call hold the whole and one part of it, or none of either -/
structure KP (x : Key) (P : Key → Bool) (l : List Key) : Prop where
  no : P x = false
  yes : x ∈ l → ∃ y0 ∈ l, P y0 = true ∧ ∀ y ∈ l, P y = true → y = y0
  out : x ∉ l → ∀ y ∈ l, P y = false

theorem good_come {s : St} (hG : SGood s) {t : Nat} (ht : s.last ≤ t) (l : List Key) (g : Nd → Nd) (hok : ∀ e ∈ (s.grow l).ks, e.1 ∈ l → NK (g e.2) t) : SGood (s.come t l g) := by
  have hG2 := hG.grow l
  refine ⟨?_, fun e he => ?_⟩
  · rw [come_keys, ← grow_keys]
    exact hG2.nd
  · obtain ⟨e0, he0, hee⟩ := List.mem_map.1 (show e ∈ (s.grow l).ks.map _ from he)
    by_cases h : e0.1 ∈ l
    · rw [if_pos h] at hee
      subst hee
      exact ⟨t, Nat.le_refl _, hok e0 he0 h⟩
    · rw [if_neg h] at hee
      subst hee
      obtain ⟨k, hk, nk⟩ := hG2.ok e0 he0
      exact ⟨k, Nat.le_trans hk ht, nk⟩

theorem comeS_both {s : St} {x : Key} {P : Key → Bool} (hG : SGood s) (hI : SInv s x P) {t : Nat} (ht : s.last ≤ t) (l : List Key) (hP : KP x P l) (d : Int) (c : Cnt) (hc : FL c) (g : Nd → Nd) (hg : ∀ N, g N = ({ N with entries := N.entries + d } : Nd).noted t c) (hok : ∀ e ∈ (s.grow l).ks, e.1 ∈ l → NK (g e.2) t) :
    SGood (comeS s t l g).2 ∧ SInv (comeS s t l g).2 x P := by
  unfold comeS
  split
  · exact ⟨hG, hI⟩
  · refine ⟨good_come hG ht l g hok, ?_⟩
    exact (hI.grow hG l hP.out).each (hG.grow l) (t := t) ht l (fun y hy => grow_has s l y hy) d c hc g hg hok hP.no hP.yes hP.out

/-- a node of a key of a call: it was there, or it is new -/
theorem grow_ks {s : St} {l : List Key} {e : Key × Nd} (he : e ∈ (s.grow l).ks) : e ∈ s.ks ∨ e.2 = Nd.new := by
  rcases List.mem_append.1 (show e ∈ s.ks ++ (news s.keys l).map fun x => (x, Nd.new) from he) with h1 | h1
  · exact .inl h1
  · obtain ⟨x, _, rfl⟩ := List.mem_map.1 h1
    exact .inr rfl

theorem callE_zero {s : St} {x : Cl} {m : Bool} (h : callE s x m = 0) : m = true ∧ s.last ≤ x.t.toNat := by
  obtain ⟨_, h2, h3⟩ := takesR_zero h
  obtain ⟨k, hk, _, hl⟩ := refR_zero h3
  exact ⟨h2, by rw [hk]; simpa using hl⟩

theorem nk_mono {N : Nd} {k t : Nat} (h : ∃ l, l ≤ k ∧ NK N l) (ht : k ≤ t) : ∃ l, l ≤ t ∧ NK N l := by
  obtain ⟨l, h1, h2⟩ := h
  exact ⟨l, Nat.le_trans h1 ht, h2⟩

theorem step_both {s : St} {x : Key} {P : Key → Bool} (hG : SGood s) (hI : SInv s x P) (D : Dd) (hP : KP x P D.x.keys) : SGood (TreAg.step s D).2 ∧ SInv (TreAg.step s D).2 x P := by
  have hG2 := hG.grow D.x.keys
  unfold TreAg.step
  split
  · unfold passS
    split
    · exact ⟨hG, hI⟩
    · rename_i hz
      have hz' : callE s D.x (cB D.x.cnt) = 0 := by simpa using hz
      obtain ⟨hm, ht⟩ := callE_zero hz'
      have hm' : 1 ≤ D.x.cnt ∧ D.x.cnt ≤ 1099511627776 := by unfold cB at hm; simpa using hm
      split
      · exact ⟨hG, hI⟩
      · rename_i hf
        refine comeS_both hG hI ht _ hP 1 ⟨D.x.cnt, 0, 0, 0, 0, 0⟩ (right_fl (StaC.right_pass _ (by unfold InN; omega))) _ (fun N => rfl) fun e he hel => ?_
        obtain ⟨k, hk, nk⟩ := hG2.ok e he
        refine passN_ok nk (Nat.le_trans hk ht) hm' ?_
        rcases grow_ks he with h1 | h1
        · have hf' : someS s D.x.keys fullN = false := by simpa using hf
          unfold someS at hf'
          rw [List.any_eq_false] at hf'
          have := hf' e h1
          simp only [hel, decide_true, Bool.true_and] at this
          unfold fullN at this
          simp at this
          omega
        · rw [h1]; decide
  · split
    · unfold blockS
      split
      · exact ⟨hG, hI⟩
      · rename_i hz
        have hz' : callE s D.x (cB D.x.cnt) = 0 := by simpa using hz
        obtain ⟨hm, ht⟩ := callE_zero hz'
        have hm' : 1 ≤ D.x.cnt ∧ D.x.cnt ≤ 1099511627776 := by unfold cB at hm; simpa using hm
        refine comeS_both hG hI ht _ hP 0 ⟨0, D.x.cnt, 0, 0, 0, 0⟩ (right_fl (StaC.right_block _ (by unfold InN; omega))) _ (fun N => by cases N; show Nd.noted _ _ _ = Nd.noted _ _ _; rw [Int.add_zero]) fun e he hel => ?_
        obtain ⟨k, hk, nk⟩ := hG2.ok e he
        exact blockN_ok nk (Nat.le_trans hk ht) hm'
    · split
      · unfold doneS
        split
        · exact ⟨hG, hI⟩
        · rename_i hz
          have hz' : callE s D.x (tB D.rt) = 0 := by simpa using hz
          obtain ⟨hm, ht⟩ := callE_zero hz'
          have hm' : 0 ≤ D.rt ∧ D.rt ≤ 1152921504606846976 := by unfold tB at hm; simpa using hm
          split
          · exact ⟨hG, hI⟩
          · rename_i hf
            have hf' : (!allS s D.x.keys || someS s D.x.keys emptyN) = false := by simpa using hf
            obtain ⟨ha, hs⟩ := Bool.or_eq_false_iff.1 hf'
            have ha' : ∀ y ∈ D.x.keys, y ∈ s.keys := by
              have h1 : allS s D.x.keys = true := by simpa using ha
              unfold allS at h1
              rw [List.all_eq_true] at h1
              exact fun y hy => by simpa using h1 y hy
            refine comeS_both hG hI ht _ hP (-1) ⟨0, 0, 1, if D.fl then 1 else 0, D.rt, D.rt⟩ (right_fl (StaC.right_done _ _ hm' (by cases D.fl; exact .inl rfl; exact .inr rfl))) _ (fun N => rfl) fun e he hel => ?_
            obtain ⟨k, hk, nk⟩ := hG2.ok e he
            refine doneN_ok nk (Nat.le_trans hk ht) hm' ?_
            have he2 : e ∈ s.ks := by
              rcases List.mem_append.1 (show e ∈ s.ks ++ (news s.keys D.x.keys).map fun x => (x, Nd.new) from he) with h1 | h1
              · exact h1
              · rw [news_all _ _ ha'] at h1
                cases h1
            unfold someS at hs
            rw [List.any_eq_false] at hs
            have := hs e he2
            simp only [hel, decide_true, Bool.true_and] at this
            unfold emptyN at this
            simpa using this
      · split
        · unfold touchS
          split
          · exact ⟨hG, hI⟩
          · split
            · exact ⟨hG, hI⟩
            · exact ⟨hG2, hI.grow hG _ hP.out⟩
        · exact ⟨hG, hI⟩

theorem run_both {x : Key} {P : Key → Bool} (f : Nat → Dd) (n : Nat) (hP : ∀ i, i < n → KP x P (f i).x.keys) : SGood (runS f n) ∧ SInv (runS f n) x P := by
  induction n with
  | zero => exact ⟨new_good, inv_new x P⟩
  | succ n ih =>
    obtain ⟨h1, h2⟩ := ih fun i hi => hP i (by omega)
    exact step_both h1 h2 (f n) (hP n (by omega))

/-- what a whole has at the tree's own time -/
theorem sum_whole {s : St} {x : Key} {P : Key → Bool} (h : SInv s x P) {e : Key × Nd} (he : e ∈ s.ks) (hex : e.1 = x) : sumN e.2 s.last = totP ((begN 100000 s.last : Int) - 900000) (PS s P) ∧ e.2.entries = ent (PS s P) := by
  obtain ⟨h1, h2⟩ := h.val e he hex
  refine ⟨?_, h2⟩
  rw [← h1 _ (Int.le_refl _)]
  unfold sumN valN
  congr 2
  omega

end Go.Proofs.Ytnloedhcginopaa.TreSf

/- TreeSums, plain mathematics: what Sum answers for a whole and for its parts is the same. -/
namespace Go.Proofs.Ytnloedhcginopaa.TreSg
set_option linter.unusedVariables false
open Go.ChangeShapes Go.WideShapes Go.ChangeAt Go.RowKit Go.Deep Base Wri Map Opn TreA TreB TreC TreD TreE TreF TreG TreH TreJ TreK TreL TreP TreQ TreR TreS TreT TreV TreW TreX TreY TreWa TreWb TreZ TreAa TreAb TreAc TreAd TreAe TreAf TreAg TreAh WinM WinA WinB WinC WinD WinE WinF WinG WinH WinI WinJ WinK WinN StaA StaB StaC StaD StaH StaI TreSa TreSb TreSc TreSd TreSe TreSf

/-- a resource and what it has in each context -/
def inner (r : ByteArray) (y : Key) : Bool := decide (y.k = 3 ∧ y.r = r)
def clust (y : Key) : Bool := decide (y.k = 4)
theorem kp_cluster (c r' o r : ByteArray) (inb : Bool) : KP ⟨4, emp, r, emp⟩ (inner r) (keysOf c r' o inb) := by
  refine ⟨rfl, fun h => ?_, fun h y hy => ?_⟩
  · have hr : r = r' := by
      unfold keysOf at h
      by_cases ho : o = emp <;> cases inb <;> simp [ho] at h <;> exact h
    subst hr
    refine ⟨⟨3, c, r, emp⟩, by unfold keysOf; simp, by unfold inner; simp, fun y hy hp => ?_⟩
    unfold inner at hp
    have hk : y.k = 3 := (of_decide_eq_true hp).1
    unfold keysOf at hy
    by_cases ho : o = emp <;> cases inb <;> simp [ho] at hy <;> rcases hy with e | e <;> first | exact e | skip
    all_goals (first | (rcases e with e | e <;> first | (rw [e] at hk; cases hk) | skip) | (rw [e] at hk; cases hk))
    all_goals (first | (rcases e with e | e <;> first | (rw [e] at hk; cases hk) | skip) | (rw [e] at hk; cases hk))
    all_goals (first | (rcases e with e | e <;> first | (rw [e] at hk; cases hk) | skip) | (rw [e] at hk; cases hk))
  · have hr : r' ≠ r := fun e => h (by subst e; unfold keysOf; simp)
    unfold inner
    rw [decide_eq_false_iff_not]
    rintro ⟨hk, hy2⟩
    unfold keysOf at hy
    have : y = ⟨3, c, r', emp⟩ := by
      by_cases ho : o = emp <;> cases inb <;> simp [ho] at hy <;> rcases hy with e | e <;> first | exact e | skip
      all_goals (first | (rcases e with e | e <;> first | (rw [e] at hk; cases hk) | skip) | (rw [e] at hk; cases hk))
      all_goals (first | (rcases e with e | e <;> first | (rw [e] at hk; cases hk) | skip) | (rw [e] at hk; cases hk))
      all_goals (first | (rcases e with e | e <;> first | (rw [e] at hk; cases hk) | skip) | (rw [e] at hk; cases hk))
    rw [this] at hy2
    exact hr hy2

theorem kp_whole (c r o : ByteArray) : KP ⟨1, emp, emp, emp⟩ clust (keysOf c r o true) := by
  refine ⟨rfl, fun h => ?_, fun h => absurd (by unfold keysOf; simp) h⟩
  refine ⟨⟨4, emp, r, emp⟩, by unfold keysOf; simp, rfl, fun y hy hp => ?_⟩
  have hk : y.k = 4 := of_decide_eq_true hp
  unfold keysOf at hy
  by_cases ho : o = emp <;> simp [ho] at hy <;> rcases hy with e | e <;> first | exact e | (rw [e] at hk; cases hk) | skip
  all_goals (rcases e with e | e <;> first | exact e | (rw [e] at hk; cases hk) | skip)
  all_goals (rcases e with e | e <;> first | exact e | (rw [e] at hk; cases hk) | skip)
  all_goals (rcases e with e | e <;> first | exact e | (rw [e] at hk; cases hk) | skip)

theorem find_key {l : List (Key × Nd)} (h : (l.map (·.1)).Nodup) {e : Key × Nd} (he : e ∈ l) : l.find? (fun z => decide (z.1 = e.1)) = some e := by
  cases hf : l.find? (fun z => decide (z.1 = e.1)) with
  | none =>
    rw [List.find?_eq_none] at hf
    exact absurd (by simp) (hf e he)
  | some z =>
    have h1 := List.mem_of_find?_eq_some hf
    have h2 := List.find?_some hf
    rw [nodup_one h h1 he (by simpa using h2)]

theorem ex_some {s : St} (hG : SGood s) (l : List (Key × Nd)) (hl : ∀ e ∈ l, e ∈ s.ks) : exS s (l.map (·.1)) = l.map (·.2) := by
  unfold exS
  induction l with
  | nil => rfl
  | cons e l ih =>
    have h1 := find_key (show (s.ks.map (·.1)).Nodup from hG.nd) (hl e List.mem_cons_self)
    rw [List.map_cons, List.filterMap_cons, h1]
    dsimp only [Option.map_some]
    rw [ih fun z hz => hl z (List.mem_cons_of_mem _ hz)]
    rfl
theorem all_some {s : St} (l : List (Key × Nd)) (hl : ∀ e ∈ l, e ∈ s.ks) : allS s (l.map (·.1)) = true := by
  unfold allS
  rw [List.all_eq_true]
  intro x hx
  obtain ⟨e, he, rfl⟩ := List.mem_map.1 hx
  exact decide_eq_true (List.mem_map.2 ⟨e, hl e he, rfl⟩)

/-- the tree's own time is a time -/
theorem last_in (f : Nat → Dd) (n : Nat) : (runS f n).last ≤ 1152921504606846976 := by
  induction n with
  | zero => exact Nat.zero_le _
  | succ n ih =>
    show (TreAg.step (runS f n) (f n)).2.last ≤ _
    have hc : ∀ (m : Bool) (l : List Key) (g : Nd → Nd), callE (runS f n) (f n).x m = 0 → (comeS (runS f n) (f n).x.t.toNat l g).2.last ≤ 1152921504606846976 := by
      intro m l g h
      obtain ⟨_, h2, h3⟩ := takesR_zero h
      obtain ⟨k, hk, hk2, hl⟩ := refR_zero h3
      unfold comeS
      split
      · exact ih
      · show (f n).x.t.toNat ≤ _
        rw [hk]; simpa using hk2
    unfold TreAg.step
    split
    · unfold passS
      split
      · exact ih
      · rename_i hz
        split
        · exact ih
        · exact hc _ _ _ (by simpa using hz)
    · split
      · unfold blockS
        split
        · exact ih
        · rename_i hz
          exact hc _ _ _ (by simpa using hz)
      · split
        · unfold doneS
          split
          · exact ih
          · rename_i hz
            split
            · exact ih
            · exact hc _ _ _ (by simpa using hz)
        · split
          · unfold touchS
            split
            · exact ih
            · split
              · exact ih
              · exact ih
          · exact ih

/-- Sum of a whole, Sum of its parts -/
theorem sum_same {s : St} {x : Key} {P : Key → Bool} (hG : SGood s) (h : SInv s x P) (hl : s.last ≤ 1152921504606846976) (hx : x ∈ s.keys) : sumS s s.last [x] = sumS s s.last (s.keys.filter P) ∧ (sumS s s.last [x]).2.2 = 0 := by
  obtain ⟨e, he, hex⟩ := List.mem_map.1 hx
  obtain ⟨v1, v2⟩ := sum_whole h he hex
  have hr : refR s.last s.last = 0 := by unfold refR tB; simp; omega
  have hk : s.keys.filter P = (PS s P).map (·.1) := by
    unfold St.keys PS
    rw [List.filter_map]
    rfl
  have hsub : ∀ z ∈ PS s P, z ∈ s.ks := fun z hz => (List.mem_filter.1 hz).1
  have hone : ∀ z ∈ [e], z ∈ s.ks := fun z hz => by rw [List.mem_singleton.1 hz]; exact he
  have h1 : [x] = [e].map (·.1) := by rw [← hex]; rfl
  have hn : ¬ (refR s.last s.last ≠ 0) := by simp [hr]
  have e1 : sumS s s.last [x] = (sumN e.2 s.last, e.2.entries, 0) := by
    unfold sumS
    rw [if_neg hn, h1, all_some _ hone, ex_some hG _ hone]
    obtain ⟨k, hk, nk⟩ := hG.ok e he
    show (joinM zeroC (sumN e.2 s.last), e.2.entries + 0, (0 : Int)) = _
    rw [zero_join (nk.sum s.last).1, Int.add_zero]
  have e2 : sumS s s.last (s.keys.filter P) = (sumN e.2 s.last, e.2.entries, 0) := by
    unfold sumS
    rw [if_neg hn, hk, all_some _ hsub, ex_some hG _ hsub, v1, v2]
    show (joinS ((PS s P).map (·.2)) s.last, flightS ((PS s P).map (·.2)), (0 : Int)) = _
    unfold joinS flightS totP ent
    rw [List.map_map, List.map_map]
    congr 3
    funext z
    show sumN z.2 s.last = valN _ z.2
    unfold sumN valN
    congr 2
    omega
  rw [e1, e2]
  exact ⟨rfl, rfl⟩

end Go.Proofs.Ytnloedhcginopaa.TreSg

/- TreeSums, plain mathematics: the keys of a tree are those of the calls. -/
namespace Go.Proofs.Ytnloedhcginopaa.TreSh
set_option linter.unusedVariables false
open Go.ChangeShapes Go.WideShapes Go.ChangeAt Go.RowKit Go.Deep Base Wri Map Opn TreA TreB TreC TreD TreE TreF TreG TreH TreJ TreK TreL TreP TreQ TreR TreS TreT TreV TreW TreX TreY TreWa TreWb TreZ TreAa TreAb TreAc TreAd TreAe TreAf TreAg TreAh WinM WinA WinB WinC WinD WinE WinF WinG WinH WinI WinJ WinK WinN StaA StaB StaC StaD StaH StaI TreSa TreSb TreSc TreSd TreSe TreSf TreSg

theorem comeS_keys (s : St) (t : Nat) (l : List Key) (g : Nd → Nd) : ∀ y ∈ (comeS s t l g).2.keys, y ∈ s.keys ∨ y ∈ l := by
  intro y hy
  unfold comeS at hy
  split at hy
  · exact .inl hy
  · have h1 : y ∈ (s.come t l g).keys := hy
    rw [come_keys] at h1
    rcases List.mem_append.1 h1 with h2 | h2
    · exact .inl h2
    · exact .inr ((news_mem _ _ _).1 h2).1

theorem step_keys (s : St) (D : Dd) : ∀ y ∈ (TreAg.step s D).2.keys, y ∈ s.keys ∨ y ∈ D.x.keys := by
  unfold TreAg.step
  split
  · unfold passS
    split
    · exact fun y hy => .inl hy
    · split
      · exact fun y hy => .inl hy
      · exact comeS_keys _ _ _ _
  · split
    · unfold blockS
      split
      · exact fun y hy => .inl hy
      · exact comeS_keys _ _ _ _
    · split
      · unfold doneS
        split
        · exact fun y hy => .inl hy
        · split
          · exact fun y hy => .inl hy
          · exact comeS_keys _ _ _ _
      · split
        · unfold touchS
          split
          · exact fun y hy => .inl hy
          · split
            · exact fun y hy => .inl hy
            · intro y hy
              have h1 : y ∈ (s.grow D.x.keys).keys := hy
              rw [grow_keys] at h1
              rcases List.mem_append.1 h1 with h2 | h2
              · exact .inl h2
              · exact .inr ((news_mem _ _ _).1 h2).1
        · exact fun y hy => .inl hy

theorem clust_shape (c r o : ByteArray) (inb : Bool) : ∀ y ∈ keysOf c r o inb, y.k = 4 → y = ⟨4, emp, y.r, emp⟩ := by
  intro y hy hk
  have : y = ⟨4, emp, r, emp⟩ := by
    unfold keysOf at hy
    by_cases ho : o = emp <;> cases inb <;> simp [ho] at hy <;> rcases hy with e | e <;> first | exact e | (rw [e] at hk; cases hk) | skip
    all_goals (rcases e with e | e <;> first | exact e | (rw [e] at hk; cases hk) | skip)
    all_goals (rcases e with e | e <;> first | exact e | (rw [e] at hk; cases hk) | skip)
    all_goals (rcases e with e | e <;> first | exact e | (rw [e] at hk; cases hk) | skip)
  rw [this]

theorem run_shape (f : Nat → Dd) (n : Nat) : ∀ y ∈ (runS f n).keys, y.k = 4 → y = ⟨4, emp, y.r, emp⟩ := by
  induction n with
  | zero => intro y hy; cases hy
  | succ n ih =>
    intro y hy hk
    rcases step_keys _ _ y hy with h | h
    · exact ih y h hk
    · exact clust_shape _ _ _ _ y h hk

/-- what the law asks of a Cluster key -/
theorem cluster_same (f : Nat → Dd) (n : Nat) {x : Key} (hx : x ∈ (runS f n).keys) (hk : x.k = 4) : sumS (runS f n) (runS f n).last [x] = sumS (runS f n) (runS f n).last ((runS f n).keys.filter (inner x.r)) ∧ (sumS (runS f n) (runS f n).last [x]).2.2 = 0 := by
  have he := run_shape f n x hx hk
  obtain ⟨h1, h2⟩ := run_both (x := x) (P := inner x.r) f n fun i hi => by rw [he]; exact kp_cluster _ _ _ _ _
  exact sum_same h1 h2 (last_in f n) hx

/-- what the law asks of the whole, where all calls come from outside -/
theorem whole_same (f : Nat → Dd) (n : Nat) (hin : ∀ i, i < n → (f i).x.inb = true) (hx : (⟨1, emp, emp, emp⟩ : Key) ∈ (runS f n).keys) : sumS (runS f n) (runS f n).last [⟨1, emp, emp, emp⟩] = sumS (runS f n) (runS f n).last ((runS f n).keys.filter clust) ∧ (sumS (runS f n) (runS f n).last [⟨1, emp, emp, emp⟩]).2.2 = 0 := by
  obtain ⟨h1, h2⟩ := run_both (x := ⟨1, emp, emp, emp⟩) (P := clust) f n fun i hi => by
    show KP _ _ (keysOf _ _ _ (f i).x.inb)
    rw [hin i hi]
    exact kp_whole _ _ _
  exact sum_same h1 h2 (last_in f n) hx
theorem whole_none (f : Nat → Dd) (n : Nat) (hin : ∀ i, i < n → (f i).x.inb = true) (hx : (⟨1, emp, emp, emp⟩ : Key) ∉ (runS f n).keys) : (runS f n).keys.filter clust = [] := by
  obtain ⟨h1, h2⟩ := run_both (x := ⟨1, emp, emp, emp⟩) (P := clust) f n fun i hi => by
    show KP _ _ (keysOf _ _ _ (f i).x.inb)
    rw [hin i hi]
    exact kp_whole _ _ _
  rw [List.filter_eq_nil_iff]
  intro y hy
  have := h2.none hx y hy
  simp [this]

end Go.Proofs.Ytnloedhcginopaa.TreSh

/- Of's closure. -/
namespace Go.Proofs.Ytnloedhcginopaa.TreSi
set_option linter.unusedVariables false
open Go.ChangeShapes Go.WideShapes Go.ChangeAt Go.RowKit Go.Deep Base Wri Map Opn TreA TreB TreC TreD TreE TreF TreG TreH TreJ TreK TreL TreP TreQ TreR TreS TreT TreV TreW TreX TreY TreWa TreWb TreZ TreAa TreAb TreAc TreAd TreAe TreAf TreAg TreAh WinM WinA WinB WinC WinD WinE WinF WinG WinH WinI WinJ WinK WinN StaA StaB StaC StaD StaH StaI TreSa TreSb TreSc TreSd TreSe TreSf TreSg TreSh

set_option maxHeartbeats 1000000 in
theorem other1_any (k kd : Nat) (c r o rr : ByteArray) (F G : Nat) (w : World) (hk : k < 256) (hkd : kd < 256) (hF : F < w.heap.size) (hG : G < w.heap.size) (h1 : w.cell? ⟨F, 0, none⟩ = some (.int .u8 kd)) (h2 : w.cell? ⟨G, 0, none⟩ = some (.string rr)) :
    Calls Try.prog 27 #[.agg #[.int .u8 k, .string c, .string r, .string o], .pointer (some ⟨F, 0, none⟩), .pointer (some ⟨G, 0, none⟩)] w fun e w' => e = .returned (.bool (!decide (k = kd ∧ r = rr))) ∧ Below w.heap.size w w' := by
  go_enter Try.func27, Try.ntmps27
  by_cases a : k = kd
  · subst a
    by_cases b : r = rr
    · subst b
      go_wp2_with fail
      go_ret
      exact ⟨by simp, (Below.refl _ _).alloc (Nat.le_refl _) _⟩
    · have hb : (r.toList == rr.toList) = false := by rw [Txt.text_eq, decide_eq_false b]
      have hd : (!decide (k = k ∧ r = rr)) = true := by simp [b]
      rw [hd]
      clear hd b
      go_wp2_with fail
      go_ret
      exact ⟨rfl, (Below.refl _ _).alloc (Nat.le_refl _) _⟩
  · have hd : (!decide (k = kd ∧ r = rr)) = true := by simp [a]
    have ha : ((k : Int) == kd) = false := by simp; omega
    have ha2 : ¬ ((k : Int) = kd) := by omega
    rw [hd]
    clear hd a
    go_wp2_with fail
    go_ret
    exact ⟨rfl, (Below.refl _ _).alloc (Nat.le_refl _) _⟩

/-- what Of's closure says of a key -/
def other (kd : Nat) (rr : ByteArray) (x : Key) : Bool := !decide (x.k = kd ∧ x.r = rr)

set_option maxRecDepth 20000 in
set_option maxHeartbeats 1000000 in
theorem index_keys (g n c F G kd : Nat) (f : Nat → Key) (rr : ByteArray) (w : World) (hn : n ≤ 1000000) (hkd : kd < 256) (hF : F < w.heap.size) (hG : G < w.heap.size) (h1 : w.cell? ⟨F, 0, none⟩ = some (.int .u8 kd)) (h2 : w.cell? ⟨G, 0, none⟩ = some (.string rr)) (hg : g < w.heap.size) (hfit : ∀ i, i < n → (f i).Fit)
    (HB : Hid (∀ k, k < n → w.cell? ⟨g, k * 4, none⟩ = some (.int .u8 (f k).k) ∧ w.cell? ⟨g, k * 4 + 1, none⟩ = some (.string (f k).c) ∧ w.cell? ⟨g, k * 4 + 2, none⟩ = some (.string (f k).r) ∧ w.cell? ⟨g, k * 4 + 3, none⟩ = some (.string (f k).o))) :
    Calls Try.prog 56 #[.slice (some ⟨g, 0, none⟩) n c, .func (Fn.func 27) #[] #[.pointer (some ⟨F, 0, none⟩), .pointer (some ⟨G, 0, none⟩)]] w
      fun e w' => Below w.heap.size w w' ∧ ((∃ k : Nat, k < n ∧ e = .returned (.int .i64 k) ∧ other kd rr (f k) = true ∧ ∀ i, i < k → other kd rr (f i) = false) ∨ (e = .returned (.int .i64 (-1)) ∧ ∀ i, i < n → other kd rr (f i) = false)) := by
  have H1 := hid h1
  have H2 := hid h2
  have HFit := hid hfit
  clear h1 h2 hfit
  go_enter Try.func56, Try.ntmps56
  go_wp2
  go_loopw [8] (fun i wr => ∃ k : Nat, k ≤ n ∧ i = .int .i64 k ∧ Below w.heap.size w wr ∧ ∀ i, i < k → other kd rr (f i) = false) (fun i _ => n - (intOf i).toNat)
  case atStart => exact ⟨0, Nat.zero_le _, rfl, Below.refl _ _, fun i hi => by omega⟩
  case round =>
    obtain ⟨k, hk, rfl, hbel, hno⟩ := hrel
    have HBel := hid hbel
    have HNo := hid hno
    clear hno
    by_cases hlt : k < n
    · obtain ⟨p0, p1, p2, p3⟩ := HB.out k hlt
      have c0 := kcS hbel p0
      have c1 := kcS hbel p1
      have c2 := kcS hbel p2
      have c3 := kcS hbel p3
      have hs := hbel.size
      have l1 : wr.cell? ⟨F, 0, none⟩ = some (.int .u8 kd) := (hbel.cell (p := ⟨F, 0, none⟩) hF).trans H1.out
      have l2 : wr.cell? ⟨G, 0, none⟩ = some (.string rr) := (hbel.cell (p := ⟨G, 0, none⟩) hG).trans H2.out
      have hx := (HFit.out k hlt).k
      clear hbel p0 p1 p2 p3
      have HO := hid (other1_any (f k).k kd (f k).c (f k).r (f k).o rr F G wr hx hkd (by omega) (by omega) l1 l2)
      obtain ⟨q, hq⟩ : ∃ q, other kd rr (f k) = q := ⟨_, rfl⟩
      have HO2 : Hid (Calls Try.prog 27 #[.agg #[.int .u8 (f k).k, .string (f k).c, .string (f k).r, .string (f k).o], .pointer (some ⟨F, 0, none⟩), .pointer (some ⟨G, 0, none⟩)] wr fun e w' => e = .returned (.bool q) ∧ Below wr.heap.size wr w') := by rw [← hq]; exact HO
      have HQ := hid hq
      clear hq HO l1 l2
      cases q
      · go_wp2_with fail
        refine HO2.out.mono ?_
        rintro e w2 ⟨rfl, hb2⟩
        have HB2 : Hid (Below w.heap.size w w2) := hid (HBel.out.trans (hb2.mono hs))
        clear hb2 c0 c1 c2 c3
        go_wp2
        go_roundw
        case rel => exact ⟨k + 1, by omega, by go_num, HB2.out, fun i hi => by by_cases h : i = k; (subst h; exact HQ.out); exact HNo.out i (by omega)⟩
        case measure => simp [intOf]; omega
      · go_wp2_with fail
        refine HO2.out.mono ?_
        rintro e w2 ⟨rfl, hb2⟩
        have HB2 : Hid (Below w.heap.size w w2) := hid (HBel.out.trans (hb2.mono hs))
        clear hb2 c0 c1 c2 c3
        go_wp2
        go_ret
        exact ⟨HB2.out, .inl ⟨k, hlt, rfl, HQ.out, HNo.out⟩⟩
    · go_wp2
      go_ret
      exact ⟨HBel.out, .inr ⟨rfl, fun i hi => HNo.out i (by omega)⟩⟩

end Go.Proofs.Ytnloedhcginopaa.TreSi

/- Rows of keys that are changed in place; DeleteFunc over keys, with Of's closure. (Of the pattern of WinC, WinD.) -/
namespace Go.Proofs.Ytnloedhcginopaa.TreSj
set_option linter.unusedVariables false
open Go.ChangeShapes Go.WideShapes Go.ChangeAt Go.RowKit Go.Deep Base Wri Map Opn TreA TreB TreC TreD TreE TreF TreG TreH TreJ TreK TreL TreP TreQ TreR TreS TreT TreV TreW TreX TreY TreWa TreWb TreZ TreAa TreAb TreAc TreAd TreAe TreAf TreAg TreAh WinM WinA WinB WinC WinD WinE WinF WinG WinH WinI WinJ WinK WinN StaA StaB StaC StaD StaH StaI TreSa TreSb TreSc TreSd TreSe TreSf TreSg TreSh TreSi

def kbv (b : Key) : List Value := [.int .u8 b.k, .string b.c, .string b.r, .string b.o]
/-- block g is a row of buckets, with room for cap of them; the first n are told by f -/
def IsKb (w : World) (g cap n : Nat) (f : Nat → Key) : Prop :=
  ∃ cur, w.heap[g]? = some (.cells cur 30) ∧ cur.size = cap * 4 ∧ n ≤ cap ∧ cap ≤ maxLen ∧ ∀ i, i < n → ∀ j, j < 4 → cur[i * 4 + j]? = (kbv (f i))[j]?

theorem IsKb.of_block {w w' : World} {g cap n : Nat} {f : Nat → Key} (h : IsKb w g cap n f) (e : w'.heap[g]? = w.heap[g]?) : IsKb w' g cap n f := by
  obtain ⟨cur, h1, h2⟩ := h
  exact ⟨cur, e.trans h1, h2⟩
theorem IsKb.lt {w : World} {g cap n : Nat} {f : Nat → Key} (h : IsKb w g cap n f) : g < w.heap.size := by
  obtain ⟨cur, h1, _⟩ := h
  exact (Array.getElem?_eq_some_iff.1 h1).1
theorem IsKb.below {w w' : World} {B g cap n : Nat} {f : Nat → Key} (h : IsKb w g cap n f) (hb : Below B w w') (hg : g < B) : IsKb w' g cap n f := h.of_block (hb.block g hg)
theorem IsKb.le {w : World} {g cap n : Nat} {f : Nat → Key} (h : IsKb w g cap n f) : n ≤ cap ∧ cap ≤ maxLen := by
  obtain ⟨_, _, _, h1, h2, _⟩ := h
  exact ⟨h1, h2⟩

theorem IsKb.cell {w : World} {g cap n : Nat} {f : Nat → Key} (h : IsKb w g cap n f) (i : Nat) (hi : i < n) (j : Nat) (hj : j < 4) (v : Value) (hv : (kbv (f i))[j]? = some v) : w.cell? ⟨g, i * 4 + j, none⟩ = some v := by
  obtain ⟨cur, h1, _, _, _, h5⟩ := h
  have := h5 i hi j hj
  rw [hv] at this
  simp [World.cell?, h1, this]
theorem IsKb.frozen {w : World} {g cap n : Nat} {f : Nat → Key} (h : IsKb w g cap n f) (o : Nat) : w.frozen? ⟨g, o, none⟩ = false := by
  obtain ⟨cur, h1, _⟩ := h
  simp [World.frozen?, h1]
theorem IsKb.there {w : World} {g cap n : Nat} {f : Nat → Key} (h : IsKb w g cap n f) (o : Nat) (ho : o < cap * 4) : (w.cell? ⟨g, o, none⟩).isSome = true := by
  obtain ⟨cur, h1, h2, _⟩ := h
  simp [World.cell?, h1, h2, ho]
theorem IsKb.at4 {w : World} {g cap n : Nat} {f : Nat → Key} (h : IsKb w g cap n f) (i : Nat) (hi : i < n) : w.cell? ⟨g, i * 4, none⟩ = some (.int .u8 (f i).k) ∧ w.cell? ⟨g, i * 4 + 1, none⟩ = some (.string (f i).c) ∧ w.cell? ⟨g, i * 4 + 2, none⟩ = some (.string (f i).r) ∧ w.cell? ⟨g, i * 4 + 3, none⟩ = some (.string (f i).o) :=
  ⟨h.cell i hi 0 (by omega) _ rfl, h.cell i hi 1 (by omega) _ rfl, h.cell i hi 2 (by omega) _ rfl, h.cell i hi 3 (by omega) _ rfl⟩
theorem IsKb.less {w : World} {g cap n m : Nat} {f : Nat → Key} (h : IsKb w g cap n f) (hm : m ≤ n) : IsKb w g cap m f := by
  obtain ⟨cur, h1, h2, h3, h4, h5⟩ := h
  exact ⟨cur, h1, h2, by omega, h4, fun i hi => h5 i (by omega)⟩
theorem IsKb.congr {w : World} {g cap n : Nat} {f f' : Nat → Key} (h : IsKb w g cap n f) (e : ∀ i, i < n → f i = f' i) : IsKb w g cap n f' := by
  obtain ⟨cur, h1, h2, h3, h4, h5⟩ := h
  exact ⟨cur, h1, h2, h3, h4, fun i hi j hj => by rw [← e i hi]; exact h5 i hi j hj⟩

/-- one cell written in the row, past its first n -/
theorem IsKb.set_past {w : World} {g cap n : Nat} {f : Nat → Key} (h : IsKb w g cap n f) (o : Nat) (ho : n * 4 ≤ o) (v : Value) : IsKb (w.setCell ⟨g, o, none⟩ v) g cap n f := by
  obtain ⟨cur, h1, h2, h3, h4, h5⟩ := h
  refine ⟨cur.setIfInBounds o v, heap_setCell_same w g o cur _ v h1, by simpa using h2, h3, h4, fun i hi j hj => ?_⟩
  rw [Array.getElem?_setIfInBounds_ne (by omega)]
  exact h5 i hi j hj

theorem IsKb.sets_past {g cap n : Nat} {f : Nat → Key} : ∀ (vs : List Value) (w : World) (o : Nat), IsKb w g cap n f → n * 4 ≤ o → IsKb (w.setCells g o vs) g cap n f
  | [], _, _, h, _ => h
  | v :: vs, w, o, h, ho => by
    show IsKb ((w.setCell ⟨g, o, none⟩ v).setCells g (o + 1) vs) g cap n f
    exact IsKb.sets_past vs _ _ (h.set_past o ho v) (by omega)


def put4 (w : World) (g o : Nat) (b : Key) : World :=
  (((w.setCell ⟨g, o, none⟩ (.int .u8 b.k)).setCell ⟨g, o + 1, none⟩ (.string b.c)).setCell ⟨g, o + 2, none⟩ (.string b.r)).setCell ⟨g, o + 3, none⟩ (.string b.o)

theorem IsKb.put4 {w : World} {g cap n : Nat} {f : Nat → Key} (h : IsKb w g cap n f) (i : Nat) (hi : i < n) (b : Key) : IsKb (put4 w g (i * 4) b) g cap n (fun k => if k = i then b else f k) := by
  obtain ⟨cur, h1, h2, h3, h4, h5⟩ := h
  have hz : i * 4 + 4 ≤ cur.size := by omega
  refine ⟨(((cur.setIfInBounds (i * 4) (.int .u8 b.k)).setIfInBounds (i * 4 + 1) (.string b.c)).setIfInBounds (i * 4 + 2) (.string b.r)).setIfInBounds (i * 4 + 3) (.string b.o), ?_, by simpa using h2, h3, h4, ?_⟩
  · unfold TreSj.put4
    exact heap_setCell_same _ _ _ _ _ _ (heap_setCell_same _ _ _ _ _ _ (heap_setCell_same _ _ _ _ _ _ (heap_setCell_same _ _ _ _ _ _ h1)))
  · intro k hk j hj
    by_cases e : k = i
    · subst e
      dsimp only
      rw [if_pos rfl]
      match j, hj with
      | 0, _ => simp [Array.getElem?_setIfInBounds, kbv]; omega
      | 1, _ => simp [Array.getElem?_setIfInBounds, kbv]; omega
      | 2, _ => simp [Array.getElem?_setIfInBounds, kbv]; omega
      | 3, _ => simp [Array.getElem?_setIfInBounds, kbv]; omega
    · dsimp only
      rw [if_neg e, ← h5 k hk j hj]
      rw [Array.getElem?_setIfInBounds_ne (by omega), Array.getElem?_setIfInBounds_ne (by omega), Array.getElem?_setIfInBounds_ne (by omega), Array.getElem?_setIfInBounds_ne (by omega)]

theorem keeps_put4 {b : Nat} {w w' : World} (h : WldG.Keeps b w w') (o : Nat) (x : Key) : WldG.Keeps b w (put4 w' b o x) :=
  (((h.set _ _).set _ _).set _ _).set _ _

/-- the first n as a list -/
def toK (f : Nat → Key) (n : Nat) : List Key := (List.range n).map f
theorem toK_succ (f : Nat → Key) (n : Nat) : toK f (n + 1) = toK f n ++ [f n] := by simp [toK, List.range_succ]
theorem toK_congr {f f' : Nat → Key} {n : Nat} (h : ∀ i, i < n → f i = f' i) : toK f n = toK f' n := by
  unfold toK
  exact List.map_congr_left fun i hi => h i (List.mem_range.1 hi)
def keepK (q : Key → Bool) (l : List Key) : List Key := l.filter fun b => !q b
theorem keepK_all {q : Key → Bool} {f : Nat → Key} {n : Nat} (h : ∀ i, i < n → q (f i) = false) : keepK q (toK f n) = toK f n := by
  unfold keepK toK
  rw [List.filter_eq_self]
  intro b hb
  obtain ⟨i, hi, rfl⟩ := List.mem_map.1 hb
  simpa using h i (List.mem_range.1 hi)
theorem keepK_yes {q : Key → Bool} {f : Nat → Key} {n : Nat} (h : q (f n) = false) : keepK q (toK f (n + 1)) = keepK q (toK f n) ++ [f n] := by
  rw [toK_succ]; unfold keepK; rw [List.filter_append]; congr 1; rw [List.filter_cons, if_pos (by simpa using h)]; rfl
theorem keepK_no {q : Key → Bool} {f : Nat → Key} {n : Nat} (h : q (f n) = true) : keepK q (toK f (n + 1)) = keepK q (toK f n) := by
  rw [toK_succ]; unfold keepK; rw [List.filter_append, List.filter_cons, if_neg (by simpa using h)]; simp

end Go.Proofs.Ytnloedhcginopaa.TreSj

/- DeleteFunc over keys, with Of's closure. (Of the pattern of WinD.) -/
namespace Go.Proofs.Ytnloedhcginopaa.TreSk
set_option linter.unusedVariables false
open Go.ChangeShapes Go.WideShapes Go.ChangeAt Go.RowKit Go.Deep Base Wri Map Opn TreA TreB TreC TreD TreE TreF TreG TreH TreJ TreK TreL TreP TreQ TreR TreS TreT TreV TreW TreX TreY TreWa TreWb TreZ TreAa TreAb TreAc TreAd TreAe TreAf TreAg TreAh WinM WinA WinB WinC WinD WinE WinF WinG WinH WinI WinJ WinK WinN StaA StaB StaC StaD StaH StaI TreSa TreSb TreSc TreSd TreSe TreSf TreSg TreSh TreSi TreSj

def zeros4 (n : Nat) : List Value := (Builtin.zeroCells #[Value.int .u8 0, .string ⟨#[]⟩, .string ⟨#[]⟩, .string ⟨#[]⟩] n).toList
theorem zeros4_len (n : Nat) : (zeros4 n).length = n * 4 := by unfold zeros4; simp [Builtin.zeroCells]
theorem run_clear4 (w : World) (ty : TypeId) (g o n c : Nat) (hn : 0 < n) (hc : ∀ j, j < n * 4 → (w.cell? ⟨g, o + j, none⟩).isSome = true) (hf : ∀ j, j < n * 4 → w.frozen? ⟨g, o + j, none⟩ = false) :
    (Builtin.clear_ #[26] ty #[.slice (some ⟨g, o, none⟩) n c]).run Try.prog w = .ok (.tuple #[]) (w.setCells g o (zeros4 n)) := by
  have hzv : ∀ w, (zeroValue 30).run Try.prog w = .ok (.agg #[.int .u8 0, .string ⟨#[]⟩, .string ⟨#[]⟩, .string ⟨#[]⟩]) w := fun _ => by kernel_rfl
  have hz : (Value.agg #[.int .u8 0, .string ⟨#[]⟩, .string ⟨#[]⟩, .string ⟨#[]⟩]).cells = #[.int .u8 0, .string ⟨#[]⟩, .string ⟨#[]⟩, .string ⟨#[]⟩] := rfl
  have hst := run_storeCells_cells (P := Try.prog) g o (zeros4 n) 0 w (by rw [zeros4_len]; simpa using hc) (by rw [zeros4_len]; simpa using hf) (by
    intro v hv'
    unfold zeros4 Builtin.zeroCells at hv'
    simp at hv'
    obtain ⟨i, hi, rfl⟩ := hv'
    have : i % 4 < 4 := Nat.mod_lt _ (by omega)
    generalize i % 4 = r at *
    match r, this with
    | 0, _ => rfl
    | 1, _ => rfl
    | 2, _ => rfl
    | 3, _ => rfl)
  simp only [Nat.add_zero] at hst
  unfold zeros4 at *
  obtain ⟨m, rfl⟩ : ∃ m, n = m + 1 := ⟨n - 1, by omega⟩
  simp [Builtin.clear_, run_underlying Try.underlying26, hzv, hz, hst]

end Go.Proofs.Ytnloedhcginopaa.TreSk

/- DeleteFunc over keys, with Of's closure: the walk. (Of the pattern of WinD.) -/
namespace Go.Proofs.Ytnloedhcginopaa.TreSl
set_option linter.unusedVariables false
open Go.ChangeShapes Go.WideShapes Go.ChangeAt Go.RowKit Go.Deep Base Wri Map Opn TreA TreB TreC TreD TreE TreF TreG TreH TreJ TreK TreL TreP TreQ TreR TreS TreT TreV TreW TreX TreY TreWa TreWb TreZ TreAa TreAb TreAc TreAd TreAe TreAf TreAg TreAh WinM WinA WinB WinC WinD WinE WinF WinG WinH WinI WinJ WinK WinN StaA StaB StaC StaD StaH StaI TreSa TreSb TreSc TreSd TreSe TreSf TreSg TreSh TreSi TreSj TreSk

def DelPost4 (g cap n : Nat) (f : Nat → Key) (q : Key → Bool) (w : World) (e : Ending) (w' : World) : Prop :=
  ∃ (m : Nat) (f' : Nat → Key), e = .returned (.slice (some ⟨g, 0, none⟩) m cap) ∧ toK f' m = keepK q (toK f n) ∧ IsKb w' g cap m f' ∧ WldG.Keeps g w w'

set_option maxRecDepth 100000 in
set_option maxHeartbeats 4000000 in
theorem delete_keys (g cap n F G kd : Nat) (f : Nat → Key) (rr : ByteArray) (w : World) (hn : n ≤ 1000000) (hcap : cap ≤ 9223372036854775807) (hkd : kd < 256) (hF : F < w.heap.size) (hG : G < w.heap.size) (hFg : F ≠ g) (hGg : G ≠ g) (h1 : w.cell? ⟨F, 0, none⟩ = some (.int .u8 kd)) (h2 : w.cell? ⟨G, 0, none⟩ = some (.string rr)) (hfit : ∀ i, i < n → (f i).Fit) (HB : Hid (IsKb w g cap n f)) :
    Calls Try.prog 28 #[.slice (some ⟨g, 0, none⟩) n cap, .func (Fn.func 27) #[] #[.pointer (some ⟨F, 0, none⟩), .pointer (some ⟨G, 0, none⟩)]] w (DelPost4 g cap n f (other kd rr) w) := by
  have H1 := hid h1
  have H2 := hid h2
  have HFit := hid hfit
  have HGl := HB.out.lt
  have hncap := HB.out.le.1
  have HI := hid (index_keys g n cap F G kd f rr w hn hkd hF hG h1 h2 HGl hfit (hid fun k hk => HB.out.at4 k hk))
  clear h1 h2 hfit
  go_enter Try.func28, Try.ntmps28
  go_wp2_with fail
  refine HI.out.mono ?_
  clear HI
  rintro e w1 ⟨hb1, ⟨k0, hk0, rfl, hyes, hno⟩ | ⟨rfl, hno⟩⟩
  · have HB1 := hid hb1
    have HYes := hid hyes
    have HNo := hid hno
    clear hb1 hyes hno
    have hkm : ((k0 : Int) == -1) = false := by simp
    go_wp2
    go_loopw [5, 6] (fun i j wr => ∃ (ii jj : Nat) (f' : Nat → Key), i = .int .i64 ii ∧ j = .int .i64 jj ∧ ii < jj ∧ jj ≤ n ∧ IsKb wr g cap n f' ∧ toK f' ii = keepK (other kd rr) (toK f jj) ∧ (∀ k, jj ≤ k → k < n → f' k = f k) ∧ WldG.Keeps g w wr) (fun _ j _ => n - (intOf j).toNat)
    case atStart =>
      refine ⟨k0, k0 + 1, f, rfl, by go_num, by omega, by omega, HB.out.below HB1.out HGl, ?_, fun _ _ _ => rfl, WldG.Keeps.belowOf HB1.out⟩
      rw [keepK_no HYes.out, keepK_all HNo.out]
    case round =>
      obtain ⟨ii, jj, f', rfl, rfl, hij, hjn, hbk, hst, hrest, hkeep⟩ := hrel
      have HBk := hid hbk
      have HSt := hid hst
      have HRest := hid hrest
      have HK := hid hkeep
      have hsz := hkeep.size
      have hFr : F < wr.heap.size := by omega
      have hGr : G < wr.heap.size := by omega
      have l1 : wr.cell? ⟨F, 0, none⟩ = some (.int .u8 kd) := (hkeep.cell 0 hF hFg).trans H1.out
      have l2 : wr.cell? ⟨G, 0, none⟩ = some (.string rr) := (hkeep.cell 0 hG hGg).trans H2.out
      clear hst hrest hkeep HYes HNo HB1
      by_cases hlt : jj < n
      · have hff := HRest.out jj (Nat.le_refl _) hlt
        obtain ⟨c0, c1, c2, c3⟩ := hbk.at4 jj hlt
        rw [hff] at c0 c1 c2 c3
        have hx := (HFit.out jj hlt).k
        clear hff hbk
        have HO := hid fun (wx : World) (hs : wr.heap.size ≤ wx.heap.size) (a1 : wx.cell? ⟨F, 0, none⟩ = some (.int .u8 kd)) (a2 : wx.cell? ⟨G, 0, none⟩ = some (.string rr)) => other1_any (f jj).k kd (f jj).c (f jj).r (f jj).o rr F G wx hx hkd (by omega) (by omega) a1 a2
        obtain ⟨q, hq⟩ : ∃ q, other kd rr (f jj) = q := ⟨_, rfl⟩
        have HO2 : Hid (∀ (wx : World), wr.heap.size ≤ wx.heap.size → wx.cell? ⟨F, 0, none⟩ = some (.int .u8 kd) → wx.cell? ⟨G, 0, none⟩ = some (.string rr) → Calls Try.prog 27 #[.agg #[.int .u8 (f jj).k, .string (f jj).c, .string (f jj).r, .string (f jj).o], .pointer (some ⟨F, 0, none⟩), .pointer (some ⟨G, 0, none⟩)] wx fun e w' => e = .returned (.bool q) ∧ Below wx.heap.size wx w') := by rw [← hq]; exact HO
        have HQ := hid hq
        clear hq HO hx
        cases q
        · go_wp2_with fail
          refine (HO2.out _ (by simp) (by go_cell) (by go_cell)).mono ?_
          rintro e w2 ⟨rfl, hb2⟩
          obtain ⟨hc2, hf2⟩ := bcell hb2
          have d0 : w2.cell? ⟨wr.heap.size, 0, none⟩ = some (.int .u8 (f jj).k) := by rw [hc2 _ _ (by simp)]; go_cell
          have d1 : w2.cell? ⟨wr.heap.size, 1, none⟩ = some (.string (f jj).c) := by rw [hc2 _ _ (by simp)]; go_cell
          have d2 : w2.cell? ⟨wr.heap.size, 2, none⟩ = some (.string (f jj).r) := by rw [hc2 _ _ (by simp)]; go_cell
          have d3 : w2.cell? ⟨wr.heap.size, 3, none⟩ = some (.string (f jj).o) := by rw [hc2 _ _ (by simp)]; go_cell
          have hbw : Below wr.heap.size wr w2 := ((Below.refl _ _).alloc (Nat.le_refl _) _).trans (hb2.mono (by simp))
          have hbk2 := HBk.out.below hbw (HBk.out.lt)
          have HK2 := hid (HK.out.trans (WldG.Keeps.belowOf hbw))
          obtain ⟨e0, e1, e2, e3⟩ := hbk2.at4 ii (by omega)
          have z0 := hbk2.frozen (ii * 4)
          have z1 := hbk2.frozen (ii * 4 + 1)
          have z2 := hbk2.frozen (ii * 4 + 2)
          have z3 := hbk2.frozen (ii * 4 + 3)
          have HBk2 := hid hbk2
          clear hb2 hbw hc2 hf2 c0 c1 c2 c3 hbk2 l1 l2 HO2
          go_wp2_with fail
          refine ⟨⟨ii + 1, jj + 1, fun k => if k = ii then f jj else f' k, by go_num, by go_num, by omega, by omega, HBk2.out.put4 ii (by omega) (f jj), ?_, ?_, keeps_put4 HK2.out _ _⟩, by simp [intOf]; omega⟩
          · rw [keepK_yes HQ.out, ← HSt.out, toK_succ, if_pos rfl]
            congr 1
            exact toK_congr fun i hi => if_neg (by omega)
          · intro k h1 h2
            dsimp only
            rw [if_neg (by omega)]
            exact HRest.out k (by omega) h2
        · go_wp2_with fail
          refine (HO2.out _ (by simp) (by go_cell) (by go_cell)).mono ?_
          rintro e w2 ⟨rfl, hb2⟩
          have hs2 := hb2.size
          have hbw : Below wr.heap.size wr w2 := ((Below.refl _ _).alloc (Nat.le_refl _) _).trans (hb2.mono (by simp))
          have HBk2 := hid (HBk.out.below hbw (HBk.out.lt))
          have HK2 := hid (HK.out.trans (WldG.Keeps.belowOf hbw))
          clear hb2 hbw c0 c1 c2 c3 l1 l2 HO2
          go_wp2
          go_roundw
          case rel => exact ⟨ii, jj + 1, f', rfl, by go_num, by omega, by omega, HBk2.out, by rw [keepK_no HQ.out]; exact HSt.out, fun k h1 h2 => HRest.out k (by omega) h2, HK2.out⟩
          case measure => simp [intOf]; omega
      · obtain rfl : jj = n := by omega
        clear HRest l1 l2
        have hcl : ∀ ty, (Builtin.clear_ #[26] ty #[.slice (some ⟨g, ii * 4, none⟩) (jj - ii) (cap - ii)]).run Try.prog wr = .ok (.tuple #[]) (wr.setCells g (ii * 4) (zeros4 (jj - ii))) :=
          fun ty => run_clear4 wr ty g (ii * 4) (jj - ii) (cap - ii) (by omega) (fun j hj => hbk.there _ (by omega)) (fun j hj => hbk.frozen _)
        clear hbk
        go_wp2
        go_ret
        exact ⟨ii, f', rfl, HSt.out, (HBk.out.less (by omega)).sets_past _ _ _ (Nat.le_refl _), WinD.Keeps.sets _ _ _ HK.out⟩
  · have HB1 := hid hb1
    have HNo := hid hno
    clear hb1 hno
    go_wp2
    go_ret
    exact ⟨n, f, rfl, (keepK_all HNo.out).symm, HB.out.below HB1.out HGl, WldG.Keeps.belowOf HB1.out⟩

end Go.Proofs.Ytnloedhcginopaa.TreSl

/- Of: the keys of a kind and a resource. -/
namespace Go.Proofs.Ytnloedhcginopaa.TreSm
set_option linter.unusedVariables false
open Go.ChangeShapes Go.WideShapes Go.ChangeAt Go.RowKit Go.Deep Base Wri Map Opn TreA TreB TreC TreD TreE TreF TreG TreH TreJ TreK TreL TreP TreQ TreR TreS TreT TreV TreW TreX TreY TreWa TreWb TreZ TreAa TreAb TreAc TreAd TreAe TreAf TreAg TreAh WinM WinA WinB WinC WinD WinE WinF WinG WinH WinI WinJ WinK WinN StaA StaB StaC StaD StaH StaI TreSa TreSb TreSc TreSd TreSe TreSf TreSg TreSh TreSi TreSj TreSk TreSl

theorem kb_of {w : World} {B n cap : Nat} {a : Option Addr} {l : List Key} (h : KRow w B (.slice a n cap) l) (hn : n = l.length) (hl : 0 < n) : ∃ g, a = some ⟨g, 0, none⟩ ∧ B ≤ g ∧ IsKb w g cap n (fun i => l.getD i default) := by
  subst hn
  obtain ⟨a2, cap2, e2, hK, _⟩ := KRow.at h
  injection e2 with e2 _ e4
  obtain ⟨g2, o2, e3, _, hc⟩ := hK hl
  rcases h.2 with ⟨_, hz⟩ | ⟨g', cap', cur, e, hg', hgb, hle, hmax, hsz, _⟩
  · omega
  · injection e with e1 _ e5
    rw [← e2, e1] at e3
    injection e3 with e3
    injection e3 with e6 e7
    subst e6
    subst e5
    refine ⟨g', e1, hg', cur, hgb, hsz, hle, hmax, fun i hi j hj => ?_⟩
    obtain ⟨c0, c1, c2, c3⟩ := hc i hi
    have ho : o2 = 0 := e7.symm
    subst ho
    simp only [World.cell?, hgb, Nat.zero_add] at c0 c1 c2 c3
    match j, hj with
    | 0, _ => simpa [kbv] using c0
    | 1, _ => simpa [kbv] using c1
    | 2, _ => simpa [kbv] using c2
    | 3, _ => simpa [kbv] using c3

theorem heap2b (w : World) (A B : Obj) : ((w.alloc A).alloc B).heap[w.heap.size]? = some A ∧ ((w.alloc A).alloc B).heap[w.heap.size + 1]? = some B :=
  ⟨(heap_alloc_old _ _ (by simp)).trans (heap_alloc_new _ _), by have := heap_alloc_new (w.alloc A) B; simpa using this⟩

theorem kb_of2 {w : World} {B n cap : Nat} {a : Option Addr} {l : List Key} (h : KRow w B (.slice a n cap) l) (hn : n = l.length) : (a = none ∧ n = 0 ∧ cap = 0) ∨ ∃ g, a = some ⟨g, 0, none⟩ ∧ B ≤ g ∧ IsKb w g cap n (fun i => l.getD i default) := by
  rcases Nat.eq_zero_or_pos n with h0 | h0
  · rcases h.2 with ⟨e, hz⟩ | ⟨g', cap', cur, e, hg', hgb, hle, hmax, hsz, _⟩
    · injection e with e1 _ e3
      exact .inl ⟨e1, h0, e3⟩
    · injection e with e1 _ e3
      subst e3
      exact .inr ⟨g', e1, hg', cur, hgb, hsz, by omega, hmax, fun i hi => by omega⟩
  · exact .inr (kb_of h hn h0)

set_option maxHeartbeats 2000000 in
theorem Of_any (p : Nat) (s : St) (own : Nat → Nat) (kd : Nat) (rr : ByteArray) (w : World) (hkd : kd < 256) (hfit : ∀ x ∈ s.keys, x.Fit) (hlen : s.keys.length ≤ 1000000) (hT : IsT w own p s) :
    Calls Try.prog 12 #[ptr p, .int .u8 kd, .string rr] w fun e w' => (∃ a m c f', e = .returned (.slice a m c) ∧ KAt w' a m f' ∧ firstK f' m = s.keys.filter (fun x => !other kd rr x)) ∧ Below w.heap.size w w' := by
  have hb : Below w.heap.size w ((w.alloc (.cells #[.int .u8 kd] 28)).alloc (.cells #[.string rr] 9)) := (by repeat (first | (with_reducible exact Below.refl _ _) | (with_reducible refine Below.setCell ?_ (by first | (simp; done) | (simp; omega) | omega) _) | (with_reducible refine Below.alloc ?_ (by first | (simp; done) | (simp; omega) | omega) _) | (with_reducible refine Below.drew ?_)))
  have HB := hid hb
  obtain ⟨b1, b2⟩ := heap2b w (.cells #[.int .u8 kd] 28) (.cells #[.string rr] 9)
  have HFr := hid (And.intro (show ((w.alloc (.cells #[.int .u8 kd] 28)).alloc (.cells #[.string rr] 9)).cell? ⟨w.heap.size, 0, none⟩ = some (.int .u8 kd) from cell_of b1 0 _ rfl) (show ((w.alloc (.cells #[.int .u8 kd] 28)).alloc (.cells #[.string rr] 9)).cell? ⟨w.heap.size + 1, 0, none⟩ = some (.string rr) from cell_of b2 0 _ rfl))
  have hsz : ((w.alloc (.cells #[.int .u8 kd] 28)).alloc (.cells #[.string rr] 9)).heap.size = w.heap.size + 2 := by simp
  have HT2 : Hid (IsT ((w.alloc (.cells #[.int .u8 kd] 28)).alloc (.cells #[.string rr] 9)) own p s) := hid (by obtain ⟨b, v, L, hL, hT⟩ := hT; exact ⟨b, v, L, hL, hT.below hb⟩)
  have HSz := hid hsz
  clear hb b1 b2 hT hsz
  go_enter Try.func12, Try.ntmps12
  go_wp2_with fail
  refine (All_any p s own _ HT2.out).mono ?_
  rintro e w1 ⟨⟨va, vc, rfl, hrow⟩, hb1⟩
  have c1 := kcS hb1 HFr.out.1
  have c2 := kcS hb1 HFr.out.2
  have hs1 : w.heap.size + 2 ≤ w1.heap.size := Nat.le_trans (Nat.le_of_eq HSz.out.symm) hb1.size
  have HB1 := hid (HB.out.trans (hb1.mono HB.out.size))
  rw [HSz.out] at hrow
  clear hb1 HFr HT2
  rcases kb_of2 hrow rfl with ⟨rfl, h0, rfl⟩ | ⟨g, rfl, hg, hkb⟩
  · have hz : ((s.keys.length : Nat) : Int) = 0 := by omega
    have hnil : s.keys = [] := List.length_eq_zero_iff.1 h0
    have HN := hid hnil
    rw [h0]
    clear hrow c1 c2
    go_wp2_with fail
    refine (TreN.delete_nil _ _).mono ?_
    rintro e w2 ⟨rfl, rfl⟩
    go_wp2_with fail
    go_ret
    refine ⟨⟨_, 0, _, fun _ => default, rfl, fun h => absurd h (by omega), ?_⟩, HB1.out⟩
    rw [HN.out]
    rfl
  · have hg0 := hg
    have hgl := hkb.lt
    have hmax := hkb.le.2
    have hml : maxLen ≤ 9223372036854775807 := by decide
    have HD := hid (delete_keys g vc s.keys.length w.heap.size (w.heap.size + 1) kd (fun i => s.keys.getD i default) rr w1 hlen (Nat.le_trans hmax hml) hkd (by omega) (by omega) (by omega) (by omega) c1 c2 (fun i hi => hfit _ (by rw [List.getD_eq_getElem?_getD, List.getElem?_eq_getElem hi]; exact List.getElem_mem _)) (hid hkb))
    clear hkb hrow c1 c2
    go_wp2_with fail
    refine HD.out.mono ?_
    rintro e w2 ⟨m, f', rfl, hf, hk2, hK⟩
    have HE := hid (And.intro hf (And.intro hk2 hK))
    clear hf hk2 hK HD
    go_wp2_with fail
    go_ret
    obtain ⟨hf, hk2, hK⟩ := HE.out
    refine ⟨⟨_, m, _, f', rfl, fun _ => ⟨g, 0, rfl, hk2.lt, fun i hi => by simpa using hk2.at4 i hi⟩, ?_⟩, ?_⟩
    · show toK f' m = _
      rw [hf]
      unfold keepK
      congr 1
      exact firstK_getD s.keys
    · exact HB1.out.trans (hK.toBelow w.heap.size (by omega) (by omega))

end Go.Proofs.Ytnloedhcginopaa.TreSm

/- Rows of deeds behind rows of deeds; how many deeds come in; rows of one key. -/
namespace Go.Proofs.Ytnloedhcginopaa.TreSn
set_option linter.unusedVariables false
open Go.ChangeShapes Go.WideShapes Go.ChangeAt Go.RowKit Go.Deep Base Wri Map Opn TreA TreB TreC TreD TreE TreF TreG TreH TreJ TreK TreL TreP TreQ TreR TreS TreT TreV TreW TreX TreY TreWa TreWb TreZ TreAa TreAb TreAc TreAd TreAe TreAf TreAg TreAh TreSi TreSg WinM WinA WinB WinC WinD WinE WinF WinG WinH WinI WinJ WinK WinN StaA StaB StaC StaD

def DRow (w : World) (B : Nat) (v : Value) (l : List Dd) : Prop := w.ownsRow B 42 10 v l.length (l.flatMap dw)
theorem infoDeed : (Try.prog.info? 42).map (fun i => (i.zero.map (fun z => z.cells.size), i.size, i.bytes)) = some (some 10, 10, 120) := by kernel_rfl
theorem info_deed : ∃ i z, Try.prog.info? 42 = some i ∧ i.zero = some z ∧ z.cells.size = 10 ∧ i.size = 10 ∧ i.bytes = 120 := by
  have h := infoDeed
  cases hi : Try.prog.info? 42 with
  | none => rw [hi] at h; cases h
  | some i =>
    rw [hi] at h
    simp only [Option.map_some, Option.some.injEq, Prod.mk.injEq] at h
    obtain ⟨h1, h2, h3⟩ := h
    cases hz : i.zero with
    | none => rw [hz] at h1; cases h1
    | some z => rw [hz] at h1; exact ⟨i, z, rfl, hz, by simpa using h1, h2, h3⟩
theorem dw_len (D : Dd) : (dw D).length = 10 := rfl
theorem one10 (D : Dd) : ∀ u ∈ dw D, u.oneCell' = true := by
  intro u hu
  unfold dw at hu
  simp at hu
  rcases hu with rfl | rfl | rfl | rfl | rfl | rfl | rfl | rfl | rfl | rfl <;> rfl

theorem run_append_deed (w : World) {B : Nat} {v : Value} {l : List Dd} {D : Dd} {g : Nat} (t ty : TypeId) (hd : DRow w B v l) (hg : w.heap[g]? = some (.cells (dw D).toArray t)) (hB : B ≤ w.heap.size) (hn : (l.length + 1) * 120 ≤ 140737488355328) :
    ∃ v' w', (Builtin.append_ #[22, 22] ty #[v, .slice (some ⟨g, 0, none⟩) 1 1]).run Try.prog w = .ok v' w' ∧ DRow w' B v' (l ++ [D]) ∧ w.grownBy w' v.ownBlock ∧ (v'.ownBlock = v.ownBlock ∨ v'.ownBlock = some w.heap.size) := by
  obtain ⟨i0, z, hi, hz0, hz, hz1, hz2⟩ := info_deed
  have hnews : ∀ j u, (dw D)[j]? = some u → w.cell? ((⟨g, 0, none⟩ : Addr).add j) = some u := fun j u hu => by
    rw [Go.WideShapes.add_plain, Nat.zero_add]
    exact cell_of hg j _ (by simpa using hu)
  obtain ⟨v', w', hr, h2, h3, h4, h5⟩ := run_append_own_at (P := Try.prog) w B 22 ty 42 i0 z 10 120 Try.underlying22 hi hz0 hz1 hz2 hz (by decide) v l.length (l.flatMap dw) hd ⟨g, 0, none⟩ 1 1 (dw D) (dw_len D) hnews (one10 D) (by unfold maxLen; omega) (by omega) hB
  refine ⟨v', w', hr, ?_, h3, h5⟩
  unfold DRow
  rw [List.flatMap_append, List.length_append]
  simpa using h2

theorem wpList_append_deed {ops : Array Oper} {rest : List Oper} {w : World} {op : Oper} {a : Act} {Q : Exit → Act → World → Prop} (hgd : op.guard = none) (s0 x0 : Operand)
    (ho : op.op = .call { callee := .builtin .append, args := #[s0, x0], argTypes := #[22, 22] })
    {B : Nat} {v : Value} {l : List Dd} {D : Dd} {g : Nat} {t : TypeId} (hs : a.eval s0 = v) (hx : a.eval x0 = .slice (some ⟨g, 0, none⟩) 1 1) (hd : DRow w B v l) (hg : w.heap[g]? = some (.cells (dw D).toArray t)) (hB : B ≤ w.heap.size) (hn : (l.length + 1) * 120 ≤ 140737488355328)
    (h : ∀ v' w', DRow w' B v' (l ++ [D]) → w.grownBy w' v.ownBlock → (v'.ownBlock = v.ownBlock ∨ v'.ownBlock = some w.heap.size) → wpList Try.prog ops Q rest (a.put op.dst v') w') :
    wpList Try.prog ops Q (op :: rest) a w := by
  refine wpList_plain hgd fun K hK => ?_
  obtain ⟨v', w', hr, h3, h4, h5⟩ := run_append_deed w t op.type hd hg hB hn
  unfold Oper.wp execOp
  simp only [ho, resolve, invoke, builtin, Sem.run_bind, Sem.run_pure, Result.andThen_ok, List.map_toArray, List.map_cons, List.map_nil, hs, hx, hr]
  exact hK _ _ (h v' w' h3 h4 h5)

theorem drow_at (l : List Dd) (i : Nat) (D : Dd) (h : l[i]? = some D) (j : Nat) (u : Value) (hj : (dw D)[j]? = some u) : (l.flatMap dw)[i * 10 + j]? = some u := by
  induction l generalizing i with
  | nil => simp at h
  | cons y t ih =>
    have e : (y :: t).flatMap dw = dw y ++ t.flatMap dw := by simp
    have hj10 : j < 10 := by have := (List.getElem?_eq_some_iff.1 hj).1; simpa [dw] using this
    rw [e]
    match i, h with
    | 0, h =>
      obtain rfl := Option.some.inj h
      rw [List.getElem?_append_left (by rw [dw_len]; omega), Nat.zero_mul, Nat.zero_add]
      exact hj
    | i + 1, h =>
      rw [List.getElem?_append_right (by rw [dw_len]; omega), dw_len, show (i + 1) * 10 + j - 10 = i * 10 + j by omega]
      exact ih i h

theorem DRow.at {w : World} {B : Nat} {v : Value} {l : List Dd} (h : DRow w B v l) : ∃ a cap, v = .slice a l.length cap ∧ DAt w a l.length (fun i => l.getD i dd0) := by
  rcases h.2 with ⟨rfl, hz⟩ | ⟨g, cap, cur, rfl, hg, hgb, hc, hcm, hcs, htake⟩
  · exact ⟨none, 0, by rw [hz], fun h0 => by omega⟩
  · refine ⟨_, _, rfl, fun h0 => ⟨g, 0, rfl, (Array.getElem?_eq_some_iff.1 hgb).1, fun i hi j u hu => ?_⟩⟩
    have hx : l[i]? = some (l.getD i dd0) := by rw [List.getD_eq_getElem?_getD, List.getElem?_eq_getElem hi]; rfl
    have := World.ownsRow.cells h (g := g) rfl (i * 10 + j) u (drow_at l i _ hx j u hu)
    rw [Go.WideShapes.add_plain] at this
    rw [show 0 + i * 10 + j = 0 + (i * 10 + j) by omega]
    exact this
theorem DRow.below {w w' : World} {B : Nat} {v : Value} {l : List Dd} (h : DRow w B v l) (hb : Below w.heap.size w w') : DRow w' B v l := owns_keep h (fun g hg => hb.block g (World.ownsRow.lt h g hg).2)
theorem DRow.has {w : World} {B : Nat} {v : Value} {l : List Dd} (h : DRow w B v l) (g : Nat) (hg : v.ownBlock = some g) : B ≤ g ∧ g < w.heap.size := World.ownsRow.lt h g hg
theorem DRow.nil (w : World) (B : Nat) : DRow w B (.slice none 0 0) [] := ⟨rfl, .inl ⟨rfl, rfl⟩⟩
theorem KRow.nil (w : World) (B : Nat) : KRow w B (.slice none 0 0) [] := ⟨rfl, .inl ⟨rfl, rfl⟩⟩
theorem KRow.one (w : World) (g B : Nat) (x : Key) (hB : B ≤ g) (h : w.heap[g]? = some (.cells #[.int .u8 x.k, .string x.c, .string x.r, .string x.o] 30)) : KRow w B (.slice (some ⟨g, 0, none⟩) 1 1) [x] :=
  ⟨rfl, .inr ⟨g, 1, _, rfl, hB, h, Nat.le_refl _, by unfold maxLen; decide, rfl, rfl⟩⟩

theorem deeds_few {H : Type} {enc : TypeId × Value → H} {W : World} {base : Nat} {spare : Nat → Bool} {held : Bool} {a0 : Option Addr} {len0 cap0 : Nat} {d : DataW H} {p : List MemPlace}
    (h : DataW.Trod enc Try.prog W base spare held 22 (.slice a0 len0 cap0) d p) (hw : ∀ m ∈ d.weights Try.prog 22, m ≤ reachBytes) : len0 * 120 ≤ 140737488355328 := by
  obtain ⟨fuel, hf⟩ := h
  rcases open_slice Try.underlying22 hf with ⟨hn, _⟩ | ⟨a, l, c, m, n, D, Pl, hcs, _, hl, hm, hmm, hx, hi⟩
  · simp [Value.cells] at hn
    omega
  · simp [Value.cells] at hcs
    obtain ⟨rfl, rfl, rfl⟩ := hcs
    have h1 := hw ((((List.range len0).map D).length + ((List.range (m - len0)).map fun j => D (len0 + j)).length) * Try.prog.bytesOf 42) (by
      have hx1 := congrArg Prod.fst hx
      dsimp only at hx1
      rw [hx1]; unfold DataW.weights; rw [Try.underlying22]; exact List.mem_cons_self)
    rw [show Try.prog.bytesOf 42 = 120 by kernel_rfl] at h1
    simp only [List.length_map, List.length_range, reachBytes] at h1
    omega

theorem inner_other (r : ByteArray) : (fun x => !other 3 r x) = inner r := by
  funext x
  unfold other inner
  simp

end Go.Proofs.Ytnloedhcginopaa.TreSn

namespace Go.Proofs.Ytnloedhcginopaa.TreBx
set_option linter.unusedVariables false
open Go.ChangeShapes Go.WideShapes Go.ChangeAt Go.RowKit Go.Deep Base Wri Map Opn TreA TreB TreC TreD TreE TreF TreG TreH TreJ TreK TreL TreP TreQ TreR TreS TreT TreV TreW TreX TreY TreWa TreWb TreZ TreAa TreAb TreAc TreAd TreAe TreAf TreAg TreAh WinM WinA WinB WinC WinD WinE WinF WinG WinH WinI WinJ WinK WinN StaA StaB StaC StaD StaH StaI

theorem _root_.Go.Proofs.Ytnloedhcginopaa.TreAa.Tr.wr {w0 : World} {p : Nat} {s : St} {wr w' : World} {own : Nat → Nat} {R : Nat → Prop} (h : Tr w0 p s wr own) (hw : Wr R wr w') (hR : ∀ k, R k → own k = 0 ∧ w0.heap.size ≤ k) : Tr w0 p s w' own :=
  ⟨by obtain ⟨b, v, L, hL, hT⟩ := h.t; exact ⟨b, v, L, hL, hT.wr hw fun k hk hr => hk (hR k hr).1⟩, h.bel.trans (hw.below _ h.bel.size fun k hk => (hR k hk).2), h.low⟩
theorem row_key {w : World} {B n g cap j : Nat} {l : List Key} {x : Key} (h : KRow w B (.slice (some ⟨g, 0, none⟩) n cap) l) (hx : l[j]? = some x) : w.cell? ⟨g, j * 4, none⟩ = some (.int .u8 x.k) ∧ w.cell? ⟨g, j * 4 + 1, none⟩ = some (.string x.c) ∧ w.cell? ⟨g, j * 4 + 2, none⟩ = some (.string x.r) ∧ w.cell? ⟨g, j * 4 + 3, none⟩ = some (.string x.o) := by
  obtain ⟨h0, h1, h2, h3⟩ := cellsL_at l j x hx
  have hc : ∀ q u, (cellsL l)[q]? = some u → w.cell? ⟨g, q, none⟩ = some u := fun q u hu => by
    have := World.ownsRow.cells h (g := g) rfl q u hu
    rwa [Go.WideShapes.add_plain, Nat.zero_add] at this
  exact ⟨hc _ _ h0, hc _ _ h1, hc _ _ h2, hc _ _ h3⟩
theorem row_shape {w : World} {B n vc : Nat} {va : Option Addr} {l : List Key} (h : KRow w B (.slice va n vc) l) (hl : 0 < l.length) : ∃ g, va = some ⟨g, 0, none⟩ ∧ B ≤ g ∧ g < w.heap.size := by
  rcases h.2 with ⟨e, hz⟩ | ⟨g', cap', cur, e, hg', hgb, _⟩
  · omega
  · injection e with e1 e2 e3
    exact ⟨g', e1, hg', (Array.getElem?_eq_some_iff.1 hgb).1⟩
theorem heap2 (w : World) (A B : Obj) : ((w.alloc A).alloc B).heap[w.heap.size]? = some A ∧ ((w.alloc A).alloc B).heap[w.heap.size + 1]? = some B :=
  ⟨(heap_alloc_old _ _ (by simp)).trans (heap_alloc_new _ _), by have := heap_alloc_new (w.alloc A) B; simpa using this⟩
theorem kat_of {w : World} {b : Nat} {x : Key} (h : w.heap[b]? = some (.cells #[.int .u8 x.k, .string x.c, .string x.r, .string x.o] 30)) : KAt w (some ⟨b, 0, none⟩) 1 (fun _ => x) := fun _ => by
  refine ⟨b, 0, rfl, (Array.getElem?_eq_some_iff.1 h).1, fun i hi => ?_⟩
  obtain rfl : i = 0 := by omega
  exact ⟨cell_of h 0 _ rfl, cell_of h 1 _ rfl, cell_of h 2 _ rfl, cell_of h 3 _ rfl⟩
theorem _root_.Go.Proofs.Ytnloedhcginopaa.TreAa.Tr.last {w0 : World} {p : Nat} {s : St} {wr : World} {own : Nat → Nat} (h : Tr w0 p s wr own) : wr.cell? ⟨p, 2, none⟩ = some (.int .i64 s.last) := by
  obtain ⟨b, v, L, hL, hT⟩ := h.t
  exact hT.cells.2.2.1
set_option maxHeartbeats 400000 in
theorem last_at (p : Nat) (t : Int) (w : World) (h2 : w.cell? ⟨p, 2, none⟩ = some (.int .i64 t)) : Calls Try.prog 11 #[ptr p] w fun e w' => e = .returned (.int .i64 t) ∧ w = w' := by
  go_enter Try.func11, Try.ntmps11
  go_wp2_with fail
  go_ret
  exact ⟨rfl, rfl⟩
theorem keep6 {w : World} {g o p : Nat} {v v0 v1 v2 v3 v4 v5 : Value} (h : w.cell? ⟨g, o, none⟩ = some v) (hne : g ≠ p) : ((((((w.setCell ⟨p, 0, none⟩ v0).setCell ⟨p, 1, none⟩ v1).setCell ⟨p, 2, none⟩ v2).setCell ⟨p, 3, none⟩ v3).setCell ⟨p, 4, none⟩ v4).setCell ⟨p, 5, none⟩ v5).cell? ⟨g, o, none⟩ = some v := by
  have hn : ∀ q, (⟨p, q, none⟩ : Addr) ≠ ⟨g, o, none⟩ := fun q e => hne (congrArg Addr.block e).symm
  rw [World.cell?_setCell_other _ _ _ _ (hn _), World.cell?_setCell_other _ _ _ _ (hn _), World.cell?_setCell_other _ _ _ _ (hn _), World.cell?_setCell_other _ _ _ _ (hn _), World.cell?_setCell_other _ _ _ _ (hn _), World.cell?_setCell_other _ _ _ _ (hn _)]
  exact h
theorem box_end {wA wr : World} {b : Nat} {J1 J2 J3 J4 J5 J6 n1 e1 : Int} (hz : wA.heap[b]? = some (.cells (cl zeroC) 32)) (hb : Below wr.heap.size wr wA) (hle : wr.heap.size ≤ b) :
    ∃ bx, (Value.pointer (some ⟨b, 0, none⟩)) = .pointer (some ⟨bx, 0, none⟩) ∧ Value.int .i64 n1 = .int .i64 n1 ∧ Value.int .i64 e1 = .int .i64 e1 ∧ ((((((wA.setCell ⟨b, 0, none⟩ (.int .i64 J1)).setCell ⟨b, 1, none⟩ (.int .i64 J2)).setCell ⟨b, 2, none⟩ (.int .i64 J3)).setCell ⟨b, 3, none⟩ (.int .i64 J4)).setCell ⟨b, 4, none⟩ (.int .i64 J5)).setCell ⟨b, 5, none⟩ (.int .i64 J6)).heap[bx]? = some (.cells (cl ⟨J1, J2, J3, J4, J5, J6⟩) 32) ∧ Below wr.heap.size wr ((((((wA.setCell ⟨b, 0, none⟩ (.int .i64 J1)).setCell ⟨b, 1, none⟩ (.int .i64 J2)).setCell ⟨b, 2, none⟩ (.int .i64 J3)).setCell ⟨b, 3, none⟩ (.int .i64 J4)).setCell ⟨b, 4, none⟩ (.int .i64 J5)).setCell ⟨b, 5, none⟩ (.int .i64 J6)) :=
  ⟨b, rfl, rfl, rfl, set6_heap (c := ⟨J1, J2, J3, J4, J5, J6⟩) hz, set6_below hb b ⟨J1, J2, J3, J4, J5, J6⟩ hle⟩
theorem box_new {wA wr : World} {J1 J2 J3 J4 J5 J6 n1 e1 : Int} (hb : Below wr.heap.size wr wA) :
    ∃ bx, (Value.pointer (some ⟨wA.heap.size, 0, none⟩)) = .pointer (some ⟨bx, 0, none⟩) ∧ Value.int .i64 n1 = .int .i64 n1 ∧ Value.int .i64 e1 = .int .i64 e1 ∧ (wA.alloc (.cells #[.int .i64 J1, .int .i64 J2, .int .i64 J3, .int .i64 J4, .int .i64 J5, .int .i64 J6] 32)).heap[bx]? = some (.cells (cl ⟨J1, J2, J3, J4, J5, J6⟩) 32) ∧ Below wr.heap.size wr (wA.alloc (.cells #[.int .i64 J1, .int .i64 J2, .int .i64 J3, .int .i64 J4, .int .i64 J5, .int .i64 J6] 32)) :=
  ⟨_, rfl, rfl, rfl, heap_alloc_new _ _, hb.alloc hb.size _⟩

theorem box_end0 {wA wr : World} {J1 J2 J3 J4 J5 J6 n1 e1 : Int} (hz : wA.heap[wr.heap.size]? = some (.cells (cl zeroC) 32)) (hb : Below wr.heap.size wr wA) :
    ∃ bx, (Value.pointer (some ⟨wr.heap.size, 0, none⟩)) = .pointer (some ⟨bx, 0, none⟩) ∧ Value.int .i64 n1 = .int .i64 n1 ∧ Value.int .i64 e1 = .int .i64 e1 ∧ ((((((wA.setCell ⟨wr.heap.size, 0, none⟩ (.int .i64 J1)).setCell ⟨wr.heap.size, 1, none⟩ (.int .i64 J2)).setCell ⟨wr.heap.size, 2, none⟩ (.int .i64 J3)).setCell ⟨wr.heap.size, 3, none⟩ (.int .i64 J4)).setCell ⟨wr.heap.size, 4, none⟩ (.int .i64 J5)).setCell ⟨wr.heap.size, 5, none⟩ (.int .i64 J6)).heap[bx]? = some (.cells (cl ⟨J1, J2, J3, J4, J5, J6⟩) 32) ∧ Below wr.heap.size wr ((((((wA.setCell ⟨wr.heap.size, 0, none⟩ (.int .i64 J1)).setCell ⟨wr.heap.size, 1, none⟩ (.int .i64 J2)).setCell ⟨wr.heap.size, 2, none⟩ (.int .i64 J3)).setCell ⟨wr.heap.size, 3, none⟩ (.int .i64 J4)).setCell ⟨wr.heap.size, 4, none⟩ (.int .i64 J5)).setCell ⟨wr.heap.size, 5, none⟩ (.int .i64 J6)) :=
  box_end hz hb (by omega)

theorem box_end1 {wA wr : World} {J1 J2 J3 J4 J5 J6 n1 e1 : Int} (hz : wA.heap[wr.heap.size + 1]? = some (.cells (cl zeroC) 32)) (hb : Below wr.heap.size wr wA) :
    ∃ bx, (Value.pointer (some ⟨wr.heap.size + 1, 0, none⟩)) = .pointer (some ⟨bx, 0, none⟩) ∧ Value.int .i64 n1 = .int .i64 n1 ∧ Value.int .i64 e1 = .int .i64 e1 ∧ ((((((wA.setCell ⟨wr.heap.size + 1, 0, none⟩ (.int .i64 J1)).setCell ⟨wr.heap.size + 1, 1, none⟩ (.int .i64 J2)).setCell ⟨wr.heap.size + 1, 2, none⟩ (.int .i64 J3)).setCell ⟨wr.heap.size + 1, 3, none⟩ (.int .i64 J4)).setCell ⟨wr.heap.size + 1, 4, none⟩ (.int .i64 J5)).setCell ⟨wr.heap.size + 1, 5, none⟩ (.int .i64 J6)).heap[bx]? = some (.cells (cl ⟨J1, J2, J3, J4, J5, J6⟩) 32) ∧ Below wr.heap.size wr ((((((wA.setCell ⟨wr.heap.size + 1, 0, none⟩ (.int .i64 J1)).setCell ⟨wr.heap.size + 1, 1, none⟩ (.int .i64 J2)).setCell ⟨wr.heap.size + 1, 2, none⟩ (.int .i64 J3)).setCell ⟨wr.heap.size + 1, 3, none⟩ (.int .i64 J4)).setCell ⟨wr.heap.size + 1, 4, none⟩ (.int .i64 J5)).setCell ⟨wr.heap.size + 1, 5, none⟩ (.int .i64 J6)) :=
  box_end hz hb (by omega)

theorem below_drewN {B : Nat} {a w : World} (h : Below B a w) (n : Nat) : Below B a (w.drewN n) := ⟨h.os, h.tape, h.output, h.size, h.block⟩

theorem above_below {B : Nat} {S : Spots} {w w' : World} (hA : Above B S) (h : Lets S.Has w w') (hs : B ≤ w.heap.size) : Below B w w' := h.below B hs fun k hk => hA.has k hk

end Go.Proofs.Ytnloedhcginopaa.TreBx
