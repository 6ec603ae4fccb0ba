/- One step of a reader, and all of them, told of lists of bytes. -/
import Derived.Test.YthmcfnbnafdkeaaFrmP
namespace Go.Proofs.Ythmcfnbnafdkeaa.FrmQ
open FrmP
set_option linter.unusedVariables false

theorem isz_eq (g : Bs) : (decide (4 ≤ g.length) && ok4 g) = true ↔ 4 ≤ g.length ∧ ok4 g = true := by simp

/-- nothing comes: nothing turns -/
theorem put_nil {r : Rd} (h : r.Ok) : r.put [] = ([], r) := by
  cases hb : r.broken with
  | true => rw [Rd.put_broken hb]
  | false =>
    have e : sp (r.g ++ []) = ([], r.g) := by rw [List.append_nil]; exact sp_none h.open_
    rw [Rd.put_good hb (by rw [e]; exact h.fine), e]
    cases r; simp_all

/-- the frame is whole -/
theorem step_whole {g s : Bs} (ho : (Rd.mk g false).Ok) (n : Nat) (hn : n ≤ s.length) (hm : n ≤ (Rd.mk g false).missing) (hw : whole (g ++ s.take n) = true) :
    (g ++ s.take n).length = 4 + num4 (g ++ s.take n) ∧ (Rd.mk g false).put s = ((g ++ s.take n).drop 4 :: (Rd.zero.put (s.drop n)).1, (Rd.zero.put (s.drop n)).2) := by
  obtain ⟨h1, h2, h3⟩ := (Rd.step ho.open_ ho.fine n hn hm).1 hw
  refine ⟨h2, ?_⟩
  have hz : (Rd.zero.put (s.drop n)) = if bad (sp (s.drop n)).2 = true then ((sp (s.drop n)).1, ⟨[], true⟩) else ((sp (s.drop n)).1, ⟨(sp (s.drop n)).2, false⟩) := by
    unfold Rd.put Rd.zero; simp
  have hl : ((Rd.mk g false).put s) = if bad (sp (g ++ s)).2 = true then ((sp (g ++ s)).1, ⟨[], true⟩) else ((sp (g ++ s)).1, ⟨(sp (g ++ s)).2, false⟩) := by
    unfold Rd.put; simp
  rw [hz, hl, h3]
  dsimp only
  split <;> rfl

/-- four bytes that say no length -/
theorem step_bad {g s : Bs} (ho : (Rd.mk g false).Ok) (n : Nat) (hn : n ≤ s.length) (hm : n ≤ (Rd.mk g false).missing) (hw : bad (g ++ s.take n) = true) :
    (Rd.mk g false).put s = ([], ⟨[], true⟩) := by
  obtain ⟨h4, h5⟩ := bad_iff.1 hw
  have hw2 : whole (g ++ s.take n) = false := by unfold whole; rw [h5]; simp
  have h3 := (Rd.step ho.open_ ho.fine n hn hm).2 hw2
  have hw3 : whole (g ++ s.take n ++ s.drop n) = false := by
    cases hc : whole (g ++ s.take n ++ s.drop n) with
    | false => rfl
    | true =>
      have := (whole_iff.1 hc).2.1
      rw [num4_app h4] at this
      rw [ok4_iff.2 this] at h5; cases h5
  rw [sp_none hw3] at h3
  have hb : bad (sp (g ++ s)).2 = true := by
    rw [h3]
    refine bad_iff.2 ⟨by rw [List.length_append]; omega, ?_⟩
    cases hc : ok4 (g ++ s.take n ++ s.drop n) with
    | false => rfl
    | true =>
      have := ok4_iff.1 hc
      rw [num4_app h4] at this
      rw [ok4_iff.2 this] at h5; cases h5
  rw [Rd.put_bad rfl hb, h3]

/-- neither: it goes on -/
theorem step_on {g s : Bs} (ho : (Rd.mk g false).Ok) (n : Nat) (hn : n ≤ s.length) (hm : n ≤ (Rd.mk g false).missing) (hw : whole (g ++ s.take n) = false) (hb : bad (g ++ s.take n) = false) :
    (Rd.mk (g ++ s.take n) false).Ok ∧ (Rd.mk g false).put s = (Rd.mk (g ++ s.take n) false).put (s.drop n) := by
  refine ⟨⟨(fun h => by cases h), hw, hb⟩, ?_⟩
  have h3 := (Rd.step ho.open_ ho.fine n hn hm).2 hw
  unfold Rd.put
  simp only [Bool.false_eq_true, if_false]
  rw [h3]

theorem missing_pos {g : Bs} (ho : (Rd.mk g false).Ok) : 1 ≤ (Rd.mk g false).missing ∧ (Rd.mk g false).missing ≤ 4100 := by
  rcases open_room ho.open_ ho.fine with h | ⟨h, h2, h3⟩
  · rw [Rd.missing_short h]; omega
  · rw [Rd.missing_long h]
    have := ok4_iff.1 h2
    omega

/-- what has been told of all that comes, what is still to come -/
structure Fed (r0 : Rd) (b : Bs) (r : Rd) (s : Bs) (ps : List Bs) : Prop where
  ok : r.Ok
  all : r0.put b = (ps ++ (r.put s).1, (r.put s).2)
  size : 5 * ps.length + r.g.length + s.length ≤ r0.g.length + b.length

theorem Fed.start {r : Rd} (h : r.Ok) (b : Bs) : Fed r b r b [] := ⟨h, by simp, by simp⟩
theorem Fed.ends {r0 r : Rd} {b : Bs} {ps : List Bs} (h : Fed r0 b r [] ps) : r0.put b = (ps, r) := by
  have := h.all
  rw [put_nil h.ok] at this
  simpa using this
theorem Fed.broken {r0 r : Rd} {b s : Bs} {ps : List Bs} (h : Fed r0 b r s ps) (hb : r.broken = true) : r0.put b = (ps, r) := by
  have := h.all
  rw [Rd.put_broken hb] at this
  simpa using this

end Go.Proofs.Ythmcfnbnafdkeaa.FrmQ
