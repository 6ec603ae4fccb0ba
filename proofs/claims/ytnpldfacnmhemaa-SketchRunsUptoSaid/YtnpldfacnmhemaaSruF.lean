/- Both sketches tell the same. -/
import Derived.Test.YtnpldfacnmhemaaSruC
import Derived.Test.YtnpldfacnmhemaaSruE
import Derived.Test.YtnpldfacnmhemaaSkU
import Derived.Deep.RegionHeld3
namespace Go.Proofs.Ytnpldfacnmhemaa.SruF
open Go.ChangeShapes Go.WideShapes Go.ChangeAt Go.RowKit Go.Deep Base Wri Map WldA WldF WldG SkK SkA SkB SkC SkD SkE SkF SkG SkH SkI SkJ SkL SkM SkN SkP SkQ SkR SkS SkT SkU SruA SruB SruC SruD SruE
set_option linter.unusedVariables false

/-- as much of each key at each time -/
def Alk (ns rs : List Note) : Prop := ∀ P : Nat → ByteArray → Bool, sumN ns (fun x => P x.t x.k) = sumN rs (fun x => P x.t x.k)

variable {w w' : World} {p b B q last t : Nat} {go : Option Nat} {X : Shp} {ns rs : List Note} {qs : List Nat} {mpf : Nat → Nat} {rv : Value}

theorem Alk.nil : Alk [] [] := fun _ => rfl
theorem Alk.tot (h : Alk ns rs) : totalN q X.bk ns t = totalN q X.bk rs t := by
  unfold totalN
  rw [h (fun a _ => inW q X.bk t (a / q))]
theorem Alk.est (h : Alk ns rs) (s : ByteArray) : estN q X ns t s = estN q X rs t s := by
  unfold estN
  congr 1
  funext r
  unfold rowN
  rw [h (fun a k => inW q X.bk t (a / q) && colN X.seed X.co r k == colN X.seed X.co r s)]
theorem sumN_new (rs : List Note) (t : Nat) (s : ByteArray) (f : Nat → Int) (P : Nat → ByteArray → Bool) : ∀ n, sumN (rs ++ newR t s f n) (fun x => P x.t x.k) = sumN rs (fun x => P x.t x.k) + if P t s then SkD.sumTo (fun i => (f i).toNat) n else 0
  | 0 => by rw [show newR t s f 0 = [] from rfl, List.append_nil]; simp [SkD.sumTo]
  | n + 1 => by
    rw [newR_succ, ← List.append_assoc, sumN_snoc, sumN_new rs t s f P n]
    cases P t s <;> simp [SkD.sumTo, Nat.add_assoc]
theorem Alk.add (h : Alk ns rs) (t : Nat) (s : ByteArray) (f : Nat → Int) (n : Nat) : Alk (ns ++ [⟨t, s, SkD.sumTo (fun i => (f i).toNat) n⟩]) (rs ++ newR t s f n) := by
  intro P
  rw [sumN_snoc, sumN_new, h P]

theorem Total_no (hO : Full w p go X q last ns qs mpf) (t : Int) (r : Int) (hr : refT last t true = r) (h0 : r ≠ 0) :
    Calls Try.prog 29 #[.pointer (some ⟨p, 0, none⟩), .int .i64 t] w fun e w' => e = .returned (.tuple #[.int .i64 0, .int .i64 r]) ∧ w = w' := by
  obtain ⟨_, v, hp, _⟩ := hO.sk
  obtain ⟨-, -, -, -, -, c5, -, -⟩ := sv_cells hp
  have HR := hid (refuses_any p last t true w c5)
  rw [hr] at HR
  have hrb : (r != 0) = true := by simpa using h0
  clear hO hp c5 hr h0
  go_enter Try.func29, Try.ntmps29
  go_wp2_with fail
  refine HR.out.mono ?_
  rintro e w1 ⟨rfl, rfl⟩
  go_wp2_with fail
  go_ret2
  exact ⟨rfl, rfl⟩

noncomputable def estA (q : Nat) (X : Shp) (last : Nat) (ns : List Note) (t : Int) (s : ByteArray) : Nat := if refT last t true = 0 then estN q X ns t.toNat s else 0
noncomputable def totA (q : Nat) (X : Shp) (last : Nat) (ns : List Note) (t : Int) : Nat := if refT last t true = 0 then totalN q X.bk ns t.toNat else 0

theorem est_p (h : Full w p go X q last ns qs mpf) (t : Int) (s : ByteArray) (hs : s.size ≤ maxLen) :
    Calls Try.prog 28 #[.pointer (some ⟨p, 0, none⟩), .int .i64 t, .string s] w fun e w' => e = .returned (.tuple #[.int .i64 (estA q X last ns t s), .int .i64 (refT last t true)]) ∧ Below w.heap.size w w' := by
  unfold estA
  by_cases e : refT last t true = 0
  · obtain ⟨_, h1, h2, h3⟩ := refT_zero e
    rw [if_pos e, e]
    have := Estimate_yes h (t := t.toNat) (by omega) (by omega) s hs
    rw [show ((t.toNat : Nat) : Int) = t by omega] at this
    exact this
  · rw [if_neg e]
    refine (Estimate_no h t s _ rfl e).mono ?_
    rintro e w' ⟨rfl, rfl⟩
    exact ⟨rfl, Below.refl _ _⟩
theorem tot_p (h : Full w p go X q last ns qs mpf) (t : Int) :
    Calls Try.prog 29 #[.pointer (some ⟨p, 0, none⟩), .int .i64 t] w fun e w' => e = .returned (.tuple #[.int .i64 (totA q X last ns t), .int .i64 (refT last t true)]) ∧ Below w.heap.size w w' := by
  unfold totA
  by_cases e : refT last t true = 0
  · obtain ⟨_, h1, h2, h3⟩ := refT_zero e
    rw [if_pos e, e]
    have := Total_yes h (t := t.toNat) (by omega) (by omega)
    rw [show ((t.toNat : Nat) : Int) = t by omega] at this
    exact this
  · rw [if_neg e]
    refine (Total_no h t _ rfl e).mono ?_
    rintro e w' ⟨rfl, rfl⟩
    exact ⟨rfl, Below.refl _ _⟩
theorem est_r (h : IsRS w b B X q last rv rs) (t : Int) (s : ByteArray) (hs : s.size ≤ maxLen) :
    Calls Try.prog 43 #[.pointer (some ⟨b, 0, none⟩), .int .i64 t, .string s] w fun e w' => e = .returned (.tuple #[.int .i64 (estA q X last rs t s), .int .i64 (refT last t true)]) ∧ Below w.heap.size w w' := by
  unfold estA
  by_cases e : refT last t true = 0
  · obtain ⟨_, h1, h2, h3⟩ := refT_zero e
    rw [if_pos e, e]
    have := restimate_yes h (t := t.toNat) (by omega) (by omega) s hs
    rw [show ((t.toNat : Nat) : Int) = t by omega] at this
    exact this
  · rw [if_neg e]
    refine (restimate_no t _ s last h.c6 rfl e).mono ?_
    rintro e w' ⟨rfl, rfl⟩
    exact ⟨rfl, Below.refl _ _⟩
theorem tot_r (h : IsRS w b B X q last rv rs) (t : Int) :
    Calls Try.prog 44 #[.pointer (some ⟨b, 0, none⟩), .int .i64 t] w fun e w' => e = .returned (.tuple #[.int .i64 (totA q X last rs t), .int .i64 (refT last t true)]) ∧ Below w.heap.size w w' := by
  unfold totA
  by_cases e : refT last t true = 0
  · obtain ⟨_, h1, h2, h3⟩ := refT_zero e
    rw [if_pos e, e]
    have := rtotal_yes h (t := t.toNat) (by omega) (by omega)
    rw [show ((t.toNat : Nat) : Int) = t by omega] at this
    exact this
  · rw [if_neg e]
    refine (rtotal_no t _ last h.c6 rfl e).mono ?_
    rintro e w' ⟨rfl, rfl⟩
    exact ⟨rfl, Below.refl _ _⟩

set_option maxRecDepth 20000 in
set_option maxHeartbeats 2000000 in
theorem alike_any (hF : Full w p go X q last ns qs mpf) (hR : IsRS w b B X q last rv rs) (hA : Alk ns rs) (t : Int) (s : ByteArray) (hs : s.size ≤ maxLen) :
    Calls Try.prog 14 #[.agg #[.pointer (some ⟨p, 0, none⟩), .pointer (some ⟨b, 0, none⟩)], .int .i64 t, .string s] w fun e w' => e = .returned (.bool true) ∧ Below w.heap.size w w' := by
  have HF := hid hF
  have HR := hid hR
  have hE1 : estA q X last ns t s = estA q X last rs t s := by unfold estA; rw [hA.est]
  have hT1 : totA q X last ns t = totA q X last rs t := by unfold totA; rw [hA.tot]
  obtain ⟨E, hE⟩ : ∃ E, estA q X last rs t s = E := ⟨_, rfl⟩
  obtain ⟨T, hT⟩ : ∃ T, totA q X last rs t = T := ⟨_, rfl⟩
  obtain ⟨r, hr⟩ : ∃ r, refT last t true = r := ⟨_, rfl⟩
  have HEP := hid (fun w (h : Full w p go X q last ns qs mpf) => est_p h t s hs)
  have HTP := hid (fun w (h : Full w p go X q last ns qs mpf) => tot_p h t)
  have HER := hid (fun w (h : IsRS w b B X q last rv rs) => est_r h t s hs)
  have HTR := hid (fun w (h : IsRS w b B X q last rv rs) => tot_r h t)
  rw [hE1, hE, hr] at HEP
  rw [hT1, hT, hr] at HTP
  rw [hE, hr] at HER
  rw [hT, hr] at HTR
  clear hF hR hA hE1 hT1 hE hT hr
  go_enter Try.func14, Try.ntmps14
  go_wp2_with fail
  refine (HEP.out _ (HF.out.below ((Below.refl _ w).alloc (Nat.le_refl _) _))).mono ?_
  rintro e w1 ⟨rfl, hb1⟩
  have k0 : w1.cell? ⟨w.heap.size, 0, none⟩ = some (.pointer (some ⟨p, 0, none⟩)) := (hb1.cell (p := ⟨w.heap.size, 0, none⟩) (by simp)).trans (by go_cell)
  have k1 : w1.cell? ⟨w.heap.size, 1, none⟩ = some (.pointer (some ⟨b, 0, none⟩)) := (hb1.cell (p := ⟨w.heap.size, 1, none⟩) (by simp)).trans (by go_cell)
  have hl1 : w.heap.size < w1.heap.size := by have := hb1.size; simp at this; omega
  have B1 : Hid (Below w.heap.size w w1) := hid (((Below.refl _ w).alloc (Nat.le_refl _) _).trans (hb1.mono (by simp)))
  clear hb1
  go_wp2_with fail
  refine (HER.out _ (HR.out.below B1.out)).mono ?_
  rintro e w2 ⟨rfl, hb2⟩
  have k02 := (hb2.cell (p := ⟨w.heap.size, 0, none⟩) hl1).trans k0
  have k12 := (hb2.cell (p := ⟨w.heap.size, 1, none⟩) hl1).trans k1
  have hl2 : w.heap.size < w2.heap.size := by have := hb2.size; omega
  have B2 : Hid (Below w.heap.size w w2) := hid (B1.out.trans (hb2.mono B1.out.size))
  clear hb2 k0 k1 hl1 B1
  go_wp2_with fail
  refine (HTP.out _ (HF.out.below B2.out)).mono ?_
  rintro e w3 ⟨rfl, hb3⟩
  have k03 := (hb3.cell (p := ⟨w.heap.size, 0, none⟩) hl2).trans k02
  have k13 := (hb3.cell (p := ⟨w.heap.size, 1, none⟩) hl2).trans k12
  have hl3 : w.heap.size < w3.heap.size := by have := hb3.size; omega
  have B3 : Hid (Below w.heap.size w w3) := hid (B2.out.trans (hb3.mono B2.out.size))
  clear hb3 k02 k12 hl2 B2
  go_wp2_with fail
  refine (HTR.out _ (HR.out.below B3.out)).mono ?_
  rintro e w4 ⟨rfl, hb4⟩
  have k04 := (hb4.cell (p := ⟨w.heap.size, 0, none⟩) hl3).trans k03
  have k14 := (hb4.cell (p := ⟨w.heap.size, 1, none⟩) hl3).trans k13
  have hl4 : w.heap.size < w4.heap.size := by have := hb4.size; omega
  have B4 : Hid (Below w.heap.size w w4) := hid (B3.out.trans (hb4.mono B3.out.size))
  clear hb4 k03 k13 hl3 B3
  have r6 := (HR.out.below B4.out).c6
  have hbl := (HR.out.below B4.out).lt
  have HL : Hid (∀ wz, Below w.heap.size w wz → Calls Try.prog 45 #[.pointer (some ⟨p, 0, none⟩)] wz fun e w' => e = .returned (.int .i64 last) ∧ wz = w') := hid (fun wz hb => by
    obtain ⟨_, v, hp, _⟩ := (HF.out.below hb).sk
    obtain ⟨-, -, -, -, -, c5, -, -⟩ := sv_cells hp
    exact last_any p last wz c5)
  have HL4 := hid (HL.out w4.drew B4.out.drew)
  clear HEP HTP HER HTR HL
  go_wp2_with fail
  go_region_held3 (fun w' => w'.cell? ⟨b, 6, none⟩ = some (.int .i64 last) ∧ w'.cell? ⟨w.heap.size, 0, none⟩ = some (.pointer (some ⟨p, 0, none⟩)) ∧ w'.cell? ⟨w.heap.size, 1, none⟩ = some (.pointer (some ⟨b, 0, none⟩)))
    (first | assumption | go_keep) (first
      | (go_at_call 45; go_loud (refine HL4.out.mono ?_; rintro e w7 ⟨rfl, rfl⟩)))
  go_wp2_with fail
  go_ret
  exact ⟨rfl, B4.out.drew⟩

end Go.Proofs.Ytnpldfacnmhemaa.SruF
