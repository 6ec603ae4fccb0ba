/- Frames, told of lists of bytes: what is whole, what is left, what a reader gathers. -/
import Derived.Calls
namespace Go.Proofs.Ytgkfiolgipgbkaa.FrmP
set_option linter.unusedVariables false

abbrev Bs := List UInt8
def hd (b : Bs) (i : Nat) : Nat := (b.getD i 0).toNat
theorem hd_lt (b : Bs) (i : Nat) : hd b i < 256 := by unfold hd; exact UInt8.toNat_lt _
theorem hd_get {b : Bs} {i : Nat} {x : UInt8} (h : b[i]? = some x) : hd b i = x.toNat := by unfold hd; simp [List.getD, h]
theorem hd_none {b : Bs} {i : Nat} (h : b.length ≤ i) : hd b i = 0 := by unfold hd; simp [List.getD, h]

/-- the number that four bytes say -/
def num4 (b : Bs) : Nat := ((hd b 0 * 256 + hd b 1) * 256 + hd b 2) * 256 + hd b 3
def ok4 (b : Bs) : Bool := decide (1 ≤ num4 b) && decide (num4 b ≤ 4096)
theorem ok4_iff {b : Bs} : ok4 b = true ↔ 1 ≤ num4 b ∧ num4 b ≤ 4096 := by simp [ok4]
theorem num4_small {b : Bs} (h : num4 b ≤ 4096) : hd b 0 = 0 ∧ hd b 1 = 0 ∧ num4 b = hd b 2 * 256 + hd b 3 := by
  have h2 := hd_lt b 2
  have h3 := hd_lt b 3
  unfold num4 at *
  omega

/-- a whole frame stands at the front -/
def whole (b : Bs) : Bool := decide (4 ≤ b.length) && ok4 b && decide (4 + num4 b ≤ b.length)
theorem whole_iff {b : Bs} : whole b = true ↔ 4 ≤ b.length ∧ (1 ≤ num4 b ∧ num4 b ≤ 4096) ∧ 4 + num4 b ≤ b.length := by
  simp [whole, ok4, and_assoc]

def pay (b : Bs) : Bs := (b.drop 4).take (num4 b)
def nxt (b : Bs) : Bs := b.drop (4 + num4 b)
theorem nxt_len (b : Bs) : (nxt b).length = b.length - (4 + num4 b) := by simp [nxt]
theorem pay_len {b : Bs} (h : whole b = true) : (pay b).length = num4 b := by
  have := whole_iff.1 h
  simp [pay]; omega

/-- the payloads of the whole frames, and what is left -/
def sp (b : Bs) : List Bs × Bs := if h : whole b = true then (pay b :: (sp (nxt b)).1, (sp (nxt b)).2) else ([], b)
termination_by b.length
decreasing_by all_goals (have := whole_iff.1 h; rw [nxt_len]; omega)

theorem sp_whole {b : Bs} (h : whole b = true) : sp b = (pay b :: (sp (nxt b)).1, (sp (nxt b)).2) := by rw [sp]; simp [h]
theorem sp_none {b : Bs} (h : whole b = false) : sp b = ([], b) := by rw [sp]; simp [h]

theorem whole_left (b : Bs) : whole (sp b).2 = false := by
  induction h : b.length using Nat.strongRecOn generalizing b with
  | _ n ih =>
    by_cases hw : whole b = true
    · rw [sp_whole hw]
      have := whole_iff.1 hw
      exact ih _ (by rw [← h, nxt_len]; omega) (nxt b) rfl
    · have hw : whole b = false := by simpa using hw
      rw [sp_none hw]; exact hw

/-- the four bytes ahead hang on the first four alone -/
theorem num4_app {b : Bs} (h : 4 ≤ b.length) (c : Bs) : num4 (b ++ c) = num4 b := by
  unfold num4 hd
  simp only [List.getD, List.getElem?_append_left (show 0 < b.length by omega), List.getElem?_append_left (show 1 < b.length by omega), List.getElem?_append_left (show 2 < b.length by omega), List.getElem?_append_left (show 3 < b.length by omega)]
theorem whole_app {b : Bs} (h : whole b = true) (c : Bs) : whole (b ++ c) = true ∧ pay (b ++ c) = pay b ∧ nxt (b ++ c) = nxt b ++ c := by
  obtain ⟨h1, h2, h3⟩ := whole_iff.1 h
  have e := num4_app h1 c
  refine ⟨whole_iff.2 ⟨by simp; omega, by rw [e]; exact h2, by rw [e]; simp; omega⟩, ?_, ?_⟩
  · unfold pay; rw [e, List.drop_append_of_le_length h1, List.take_append_of_le_length (by simp; omega)]
  · unfold nxt; rw [e, List.drop_append_of_le_length h3]

theorem sp_app (b c : Bs) : sp (b ++ c) = ((sp b).1 ++ (sp ((sp b).2 ++ c)).1, (sp ((sp b).2 ++ c)).2) := by
  induction h : b.length using Nat.strongRecOn generalizing b with
  | _ n ih =>
    by_cases hw : whole b = true
    · obtain ⟨w1, w2, w3⟩ := whole_app hw c
      have := whole_iff.1 hw
      have hI := ih _ (by rw [← h, nxt_len]; omega) (nxt b) rfl
      rw [sp_whole w1, w2, w3, hI, sp_whole hw]
      rfl
    · have hw : whole b = false := by simpa using hw
      rw [sp_none hw]; simp

/-- what is left is the end of all -/
theorem sp_left (b : Bs) : ∃ a, b = a ++ (sp b).2 := by
  induction h : b.length using Nat.strongRecOn generalizing b with
  | _ n ih =>
    by_cases hw : whole b = true
    · have := whole_iff.1 hw
      obtain ⟨a, ha⟩ := ih _ (by rw [← h, nxt_len]; omega) (nxt b) rfl
      rw [sp_whole hw]
      refine ⟨b.take (4 + num4 b) ++ a, ?_⟩
      rw [List.append_assoc]
      show b = b.take (4 + num4 b) ++ (a ++ (sp (nxt b)).2)
      rw [← ha]; unfold nxt; simp
    · have hw : whole b = false := by simpa using hw
      rw [sp_none hw]; exact ⟨[], rfl⟩

/-- how many bytes the whole frames take -/
def place (ps : List Bs) : Nat := (ps.map fun p => 4 + p.length).sum
theorem sp_place (b : Bs) : place (sp b).1 + (sp b).2.length = b.length := by
  induction h : b.length using Nat.strongRecOn generalizing b with
  | _ n ih =>
    by_cases hw : whole b = true
    · have h0 := whole_iff.1 hw
      have hI := ih _ (by rw [← h, nxt_len]; omega) (nxt b) rfl
      have hp := pay_len hw
      rw [nxt_len] at hI
      rw [sp_whole hw]
      simp only [place, List.map_cons, List.sum_cons] at *
      omega
    · have hw : whole b = false := by simpa using hw
      rw [sp_none hw]; simp [place, h]
theorem sp_drop (b : Bs) : (sp b).2 = b.drop (place (sp b).1) := by
  obtain ⟨a, ha⟩ := sp_left b
  have := sp_place b
  have hl := congrArg List.length ha
  rw [List.length_append] at hl
  have h2 : place (sp b).1 = a.length := by omega
  rw [h2]
  conv => rhs; rw [ha]
  simp

theorem sp_sizes (b : Bs) : ∀ p ∈ (sp b).1, 1 ≤ p.length ∧ p.length ≤ 4096 := by
  induction h : b.length using Nat.strongRecOn generalizing b with
  | _ n ih =>
    by_cases hw : whole b = true
    · have h0 := whole_iff.1 hw
      rw [sp_whole hw]
      intro p hp
      rcases List.mem_cons.1 hp with rfl | hp
      · rw [pay_len hw]; exact h0.2.1
      · exact ih _ (by rw [← h, nxt_len]; omega) (nxt b) rfl p hp
    · have hw : whole b = false := by simpa using hw
      rw [sp_none hw]; intro p hp; cases hp

theorem sp_count (b : Bs) : 5 * (sp b).1.length ≤ b.length := by
  have h1 := sp_place b
  have h2 : ∀ l : List Bs, (∀ p ∈ l, 1 ≤ p.length ∧ p.length ≤ 4096) → 5 * l.length ≤ place l := by
    intro l
    induction l with
    | nil => intro _; simp [place]
    | cons p l ih =>
      intro h
      have := ih fun q hq => h q (List.mem_cons_of_mem _ hq)
      have := h p List.mem_cons_self
      simp only [place, List.map_cons, List.sum_cons, List.length_cons] at *
      omega
  have := h2 _ (sp_sizes b)
  omega

/-- may these bytes begin a frame? -/
def may (b : Bs) : Bool := if b.length < 4 then decide (num4 b ≤ 4096) else ok4 b
theorem may_short {b : Bs} (h : b.length < 4) : may b = decide (num4 b ≤ 4096) := by unfold may; rw [if_pos h]
theorem may_long {b : Bs} (h : 4 ≤ b.length) : may b = ok4 b := by unfold may; rw [if_neg (by omega)]
theorem may_take (b : Bs) : may (b.take 4) = may b := by
  have h : ∀ i, i < 4 → hd (b.take 4) i = hd b i := fun i hi => by unfold hd; simp [List.getD, hi]
  have e : num4 (b.take 4) = num4 b := by unfold num4; rw [h 0 (by omega), h 1 (by omega), h 2 (by omega), h 3 (by omega)]
  unfold may ok4
  rw [e]
  by_cases h4 : b.length < 4
  · rw [if_pos h4, if_pos (by simp; omega)]
  · rw [if_neg h4, if_neg (by simp; omega)]

/-- the error of what is left: OK, ErrEnd, ErrFrame -/
def errOf (b : Bs) : Int := if b.length = 0 then 0 else if may b = true then 24 else 50

/-- a reader's state: what it has gathered; none: broken -/
def bad (r : Bs) : Bool := decide (4 ≤ r.length) && !ok4 r
theorem bad_iff {r : Bs} : bad r = true ↔ 4 ≤ r.length ∧ ok4 r = false := by simp [bad]
structure Rd where
  g : Bs
  broken : Bool

/-- it stands well -/
structure Rd.Ok (r : Rd) : Prop where
  nb : r.broken = true → r.g = []
  open_ : whole r.g = false
  fine : bad r.g = false

def Rd.zero : Rd := ⟨[], false⟩
theorem whole_nil : whole [] = false := by decide
theorem Rd.zero_ok : Rd.zero.Ok := ⟨fun _ => rfl, whole_nil, by decide⟩
def Rd.put (r : Rd) (b : Bs) : List Bs × Rd :=
  if r.broken = true then ([], r) else if bad (sp (r.g ++ b)).2 = true then ((sp (r.g ++ b)).1, ⟨[], true⟩) else ((sp (r.g ++ b)).1, ⟨(sp (r.g ++ b)).2, false⟩)
theorem Rd.put_broken {r : Rd} (h : r.broken = true) (b : Bs) : r.put b = ([], r) := by unfold Rd.put; rw [if_pos h]
theorem Rd.put_bad {r : Rd} (h : r.broken = false) {b : Bs} (h2 : bad (sp (r.g ++ b)).2 = true) : r.put b = ((sp (r.g ++ b)).1, ⟨[], true⟩) := by unfold Rd.put; rw [if_neg (by simp [h]), if_pos h2]
theorem Rd.put_good {r : Rd} (h : r.broken = false) {b : Bs} (h2 : bad (sp (r.g ++ b)).2 = false) : r.put b = ((sp (r.g ++ b)).1, ⟨(sp (r.g ++ b)).2, false⟩) := by unfold Rd.put; rw [if_neg (by simp [h]), if_neg (by simp [h2])]
theorem Rd.put_ok {r : Rd} (h : r.Ok) (b : Bs) : (r.put b).2.Ok := by
  by_cases hb : r.broken = true
  · rw [Rd.put_broken hb]; exact h
  · have hb : r.broken = false := by simpa using hb
    by_cases h2 : bad (sp (r.g ++ b)).2 = true
    · rw [Rd.put_bad hb h2]; exact ⟨fun _ => rfl, whole_nil, (by decide : bad [] = false)⟩
    · have h2 : bad (sp (r.g ++ b)).2 = false := by simpa using h2
      rw [Rd.put_good hb h2]
      exact ⟨(fun h => by cases h), whole_left _, h2⟩
def Rd.err (r : Rd) : Int := if r.broken = true then 50 else 0
/-- how many bytes are missing -/
def Rd.missing (r : Rd) : Nat := if r.broken = true then 0 else if r.g.length < 4 then 4 - r.g.length else 4 + num4 r.g - r.g.length
theorem bad_nil : bad [] = false := by decide
theorem Rd.missing_short {g : Bs} (h : g.length < 4) : (Rd.mk g false).missing = 4 - g.length := by unfold Rd.missing; simp [h]
theorem Rd.missing_long {g : Bs} (h : 4 ≤ g.length) : (Rd.mk g false).missing = 4 + num4 g - g.length := by unfold Rd.missing; simp; intro h2; omega
/-- not broken: the frame that is begun is not whole -/
theorem open_room {g : Bs} (h1 : whole g = false) (h2 : bad g = false) : g.length < 4 ∨ (4 ≤ g.length ∧ ok4 g = true ∧ g.length < 4 + num4 g) := by
  by_cases h4 : g.length < 4
  · exact .inl h4
  · right
    have h3 : ok4 g = true := by
      cases h : ok4 g with
      | true => rfl
      | false => have := bad_iff.2 ⟨by omega, h⟩; rw [this] at h2; cases h2
    refine ⟨by omega, h3, ?_⟩
    apply Decidable.byContradiction
    intro hc
    have := whole_iff.2 ⟨by omega, ok4_iff.1 h3, by omega⟩
    rw [this] at h1; cases h1
theorem Rd.Ok.left {r : Rd} (h : r.Ok) : r.g.length ≤ 4099 := by
  rcases open_room h.open_ h.fine with h1 | ⟨_, h2, h3⟩
  · omega
  · have := ok4_iff.1 h2; omega

/-- the reader takes n bytes, no more than are missing -/
theorem Rd.step {g b : Bs} (h1 : whole g = false) (h2 : bad g = false) (n : Nat) (hn : n ≤ b.length) (hm : n ≤ (Rd.mk g false).missing) :
    (whole (g ++ b.take n) = true → n = (Rd.mk g false).missing ∧ (g ++ b.take n).length = 4 + num4 (g ++ b.take n) ∧ sp (g ++ b) = ((g ++ b.take n).drop 4 :: (sp (b.drop n)).1, (sp (b.drop n)).2)) ∧
    (whole (g ++ b.take n) = false → sp (g ++ b) = sp (g ++ b.take n ++ b.drop n)) := by
  have hb : g ++ b = g ++ b.take n ++ b.drop n := by rw [List.append_assoc, List.take_append_drop]
  have hl : (g ++ b.take n).length = g.length + n := by simp; omega
  constructor
  · intro hw
    obtain ⟨w1, w2, w3⟩ := whole_iff.1 hw
    have key : (g ++ b.take n).length = 4 + num4 (g ++ b.take n) ∧ n = (Rd.mk g false).missing := by
      rcases open_room h1 h2 with h | ⟨h, h3, h4⟩
      · rw [Rd.missing_short h] at *
        omega
      · rw [Rd.missing_long h] at *
        rw [num4_app h] at *
        omega
    refine ⟨key.2, key.1, ?_⟩
    obtain ⟨x1, x2, x3⟩ := whole_app hw (b.drop n)
    rw [hb, sp_whole x1, x2, x3]
    have e1 : pay (g ++ b.take n) = (g ++ b.take n).drop 4 := by
      unfold pay
      exact List.take_of_length_le (by rw [List.length_drop]; omega)
    have e2 : nxt (g ++ b.take n) = [] := List.drop_eq_nil_of_le (by omega)
    rw [e1, e2, List.nil_append]
  · intro _; rw [hb]

/-- a frame of a payload -/
def frame (p : Bs) : Bs := [0, 0, UInt8.ofNat (p.length / 256), UInt8.ofNat p.length] ++ p
def Right (p : Bs) : Prop := 1 ≤ p.length ∧ p.length ≤ 4096
instance (p : Bs) : Decidable (Right p) := by unfold Right; infer_instance
theorem num4_frame {p : Bs} (h : Right p) (c : Bs) : num4 (frame p ++ c) = p.length := by
  obtain ⟨h1, h2⟩ := h
  unfold num4 hd frame
  simp
  omega
theorem frame_len (p : Bs) : (frame p).length = 4 + p.length := by simp [frame]; omega
theorem sp_frame {p : Bs} (h : Right p) (c : Bs) : sp (frame p ++ c) = (p :: (sp c).1, (sp c).2) := by
  have e := num4_frame h c
  have hl : (frame p ++ c).length = 4 + p.length + c.length := by rw [List.length_append, frame_len]
  have hw : whole (frame p ++ c) = true := whole_iff.2 ⟨by omega, by rw [e]; exact h, by rw [e]; omega⟩
  rw [sp_whole hw]
  have e1 : pay (frame p ++ c) = p := by
    unfold pay; rw [e]; simp [frame]
  have e2 : nxt (frame p ++ c) = c := by
    unfold nxt; rw [e, ← frame_len]; exact List.drop_left
  rw [e1, e2]

def frames (l : List Bs) : Bs := l.flatMap frame
theorem frames_cons (p : Bs) (l : List Bs) : frames (p :: l) = frame p ++ frames l := rfl
theorem frames_snoc (l : List Bs) (p : Bs) : frames (l ++ [p]) = frames l ++ frame p := by simp [frames]
theorem sp_nil : sp [] = ([], []) := sp_none whole_nil
theorem sp_frames : ∀ {l : List Bs}, (∀ p ∈ l, Right p) → sp (frames l) = (l, [])
  | [], _ => sp_nil
  | p :: l, h => by rw [frames_cons, sp_frame (h p List.mem_cons_self), sp_frames fun q hq => h q (List.mem_cons_of_mem _ hq)]
theorem frames_len (l : List Bs) : (frames l).length = place l := by
  induction l with
  | nil => rfl
  | cons p l ih => rw [frames_cons, List.length_append, frame_len, ih]; simp [place]

/-- a beginning of right frames never breaks -/
theorem fine_ahead : ∀ (l : List Bs), (∀ p ∈ l, Right p) → ∀ x y : Bs, x ++ y = frames l → bad (sp x).2 = false ∧ ∃ k, (sp x).1 = l.take k ∧ (sp x).2 ++ y = frames (l.drop k)
  | [], _, x, y, h => by
    have : x = [] := by
      have := congrArg List.length h
      simp [frames] at this
      exact this.1
    subst this
    rw [sp_nil]
    exact ⟨bad_nil, 0, rfl, by simpa using h⟩
  | p :: l, hp, x, y, h => by
    by_cases hx : 4 + p.length ≤ x.length
    · have h2 : frame p <+: x := by
        refine List.prefix_of_prefix_length_le (l₃ := frames (p :: l)) ⟨frames l, rfl⟩ ⟨y, h⟩ (by rw [frame_len]; exact hx)
      obtain ⟨x2, rfl⟩ := h2
      rw [frames_cons, List.append_assoc] at h
      have h3 := List.append_cancel_left h
      obtain ⟨i1, k, i2, i3⟩ := fine_ahead l (fun q hq => hp q (List.mem_cons_of_mem _ hq)) x2 y h3
      rw [sp_frame (hp p List.mem_cons_self)]
      exact ⟨i1, k + 1, by simp [i2], by simpa using i3⟩
    · have h0 := hp p List.mem_cons_self
      have hfl := frame_len p
      have h2 : x <+: frame p := List.prefix_of_prefix_length_le (l₃ := frames (p :: l)) ⟨y, h⟩ ⟨frames l, rfl⟩ (by omega)
      obtain ⟨z, hz⟩ := h2
      have hnum : 4 ≤ x.length → num4 x = p.length := fun h4 => by
        have e := num4_frame h0 []
        rw [List.append_nil, ← hz, num4_app h4] at e
        exact e
      have hw : whole x = false := by
        cases hc : whole x with
        | false => rfl
        | true =>
          obtain ⟨c1, _, c3⟩ := whole_iff.1 hc
          have := hnum c1
          omega
      rw [sp_none hw]
      refine ⟨?_, 0, rfl, by simpa using h⟩
      cases hc : bad x with
      | false => rfl
      | true =>
        obtain ⟨c1, c2⟩ := bad_iff.1 hc
        have := ok4_iff.2 (by rw [hnum c1]; exact h0)
        rw [this] at c2; cases c2

end Go.Proofs.Ytgkfiolgipgbkaa.FrmP
