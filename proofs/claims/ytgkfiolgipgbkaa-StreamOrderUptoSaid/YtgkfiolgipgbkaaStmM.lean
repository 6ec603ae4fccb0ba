/- Connections broken. -/
import Derived.Test.YtgkfiolgipgbkaaStmL
import Derived.Test.YtgkfiolgipgbkaaLiiB
namespace Go.Proofs.Ytgkfiolgipgbkaa.StmM
open Go.ChangeShapes Go.WideShapes Go.ChangeAt Go.RowKit Base Wri Map FrmP FrmA StmA StmB StmC StmD StmE StmF VaiA StmG StmH StmI StmJ StmK StmL
set_option linter.unusedVariables false
set_option linter.unusedSimpArgs false

def brkE (S : Nst) (l : List Int) : Int := if l.any (fun c => never c S.di.length) then 4 else if l.any (broke S.co) || !decide l.Nodup then 51 else 0
def without (co : Nat → Option Con) (l : List Int) : Nat → Option Con := fun i => if l.contains (i : Int) then none else co i
def Nst.brk (S : Nst) (l : List Int) : Nst := ⟨S.op, S.di, without S.co l⟩

theorem cmap_drop {W : World} {mc n j : Nat} {K : Nat → Nat} {co : Nat → Option Con} {C : Con} (hj : j ≤ 1099511627777) (hn : co j = some C) (h : CMap W mc K co n) :
    ∃ w', (Builtin.delete_ #[60, 3] 0 #[.map (some mc), .int .i64 (j : Nat)]).run Try.prog W = .ok (.tuple #[]) w' ∧ CMap w' mc K (fun i => if i = j then none else co i) (n - 1) ∧ Wr (fun g => g = mc) W w' := by
  obtain ⟨F, hF, hF2⟩ := h
  obtain ⟨w', hr, hm, hw⟩ := hF.drop keyedI Try.underlying60 0 (keyI (i := (j : Int)) (by omega) (by omega))
  have h0 := hF2 (j : Int)
  rw [if_pos (by omega), Int.toNat_natCast, hn] at h0
  rw [h0] at hm
  refine ⟨w', hr, ⟨_, hm, fun i => ?_⟩, hw⟩
  by_cases e : i = (j : Int)
  · subst e
    rw [del_same, if_pos (by omega), Int.toNat_natCast]
    simp
  · rw [del_other (by intro e2; cases e2; exact e rfl), hF2 i]
    by_cases hi : 0 ≤ i
    · rw [if_pos hi, if_pos hi]
      have : ¬ i.toNat = j := by omega
      simp [this]
    · rw [if_neg hi, if_neg hi]

theorem take_fresh {l : List Int} {k : Nat} {x : Int} (hn : l.Nodup) (hx : l[k]? = some x) : (l.take k).contains x = false := by
  rw [Bool.eq_false_iff]
  intro h
  obtain ⟨i, hi, e⟩ := List.getElem_of_mem (List.contains_iff_mem.1 h)
  rw [List.getElem_take] at e
  obtain ⟨hk, e2⟩ := List.getElem?_eq_some_iff.1 hx
  simp at hi
  have := List.pairwise_iff_getElem.1 hn i k (by omega) hk (by omega)
  exact this (e.trans e2.symm)
theorem without_next {co : Nat → Option Con} {l : List Int} {k j : Nat} (hx : l[k]? = some (j : Int)) : ∀ i, (fun i => if i = j then none else without co (l.take k) i) i = without co (l.take (k + 1)) i := by
  intro i
  have hT : l.take (k + 1) = l.take k ++ [(j : Int)] := by rw [List.take_add_one, hx]; rfl
  show (if i = j then none else without co (l.take k) i) = _
  unfold without
  rw [hT]
  have hij : (i : Int) = (j : Int) ↔ i = j := by omega
  have : (l.take k ++ [(j : Int)]).contains (i : Int) = ((l.take k).contains (i : Int) || decide (i = j)) := by
    rw [Bool.eq_iff_iff]; simp [hij]
  rw [this]
  by_cases e : i = j
  · simp [e]
  · simp [e]

theorem cmap_ext {W : World} {b n : Nat} {K : Nat → Nat} {co co' : Nat → Option Con} (h : CMap W b K co n) (e : ∀ i, co i = co' i) : CMap W b K co' n := (funext e : co = co') ▸ h

theorem net_brk {W W' : World} {B p nc n2 mo mc : Nat} {own : Nat → Nat} {S : Nst} {vd : Value} {K : Nat → Nat} {l : List Int} (h : NetAt W B own p S nc mo mc vd K) (hp : CMap W' mc K (without S.co l) n2) (hw : Wr (fun g => g = mc) W W') :
    NetAt W' B (later own W.heap.size 4) p (Nst.brk S l) n2 mo mc vd K ∧ Stp W W' own (later own W.heap.size 4) NetR := by
  have hk : ∀ g, g < W.heap.size → g ≠ mc → W'.heap[g]? = W.heap[g]? := fun g hg hn => hw.block g hg hn
  have hd : ∀ g, vd.ownBlock = some g → g < W.heap.size ∧ g ≠ mc := fun g e => ⟨(h.row.lt g e).2, fun e2 => by have h1 := h.td g e; rw [e2, h.tm] at h1; cases h1⟩
  have hpn : p ≠ mc := fun e => by have h1 := h.tp; rw [e, h.tm] at h1; cases h1
  have hmn : mo ≠ mc := fun e => by have h1 := h.to_; rw [e, h.tm] at h1; cases h1
  refine ⟨⟨(hk p h.pos hpn).trans h.blk, h.pm.of_block (hk mo h.pm.lt hmn), owns_keep h.row (fun g e => hk g (hd g e).1 (hd g e).2), hp, fun j C hj => ?_, by rw [later_old h.pos, h.tp], by rw [later_old h.pm.lt, h.to_], fun g e => by rw [later_old (hd g e).1, h.td g e], by rw [later_old h.cm.lt, h.tm], h.len, h.low⟩, ⟨hw.mono (fun g e => by subst e; rw [h.tm]; unfold NetR; omega), fun g hg => later_old hg⟩⟩
  have hj : (if l.contains (j : Int) then none else S.co j) = some C := hj
  split at hj
  · cases hj
  · obtain ⟨j1, j2, j3⟩ := h.con j C hj
    exact ⟨j1, j2, j3.keep (fun g hg h1 h2 => ⟨hk g hg (fun e => by subst e; rw [h.tm] at h1; omega), later_old hg⟩)⟩

theorem brk_alive {S : Nst} {l : List Int} (h : brkE S l = 0) : l.Nodup ∧ ∀ x ∈ l, ∃ (j : Nat) (C : Con), x = j ∧ j ≤ S.di.length ∧ S.co j = some C := by
  unfold brkE at h
  split at h
  · cases h
  · rename_i h1
    split at h
    · cases h
    · rename_i h2
      simp only [Bool.or_eq_true, Bool.not_eq_true', decide_eq_false_iff_not, not_or, Bool.not_eq_true, Decidable.not_not] at h2
      refine ⟨h2.2, fun x hx => ?_⟩
      have h3 := List.any_eq_false.1 h2.1 x hx
      have h4 : ¬ never x S.di.length = true := fun e => h1 (List.any_eq_true.2 ⟨x, hx, e⟩)
      unfold never at h4
      simp at h4
      unfold broke at h3
      rw [if_pos (by omega)] at h3
      cases hc : S.co x.toNat with
      | none => rw [hc] at h3; simp at h3
      | some C => exact ⟨x.toNat, C, by omega, by omega, hc⟩

set_option maxRecDepth 20000 in
set_option maxHeartbeats 2000000 in
theorem break_any (p B nc : Nat) (own : Nat → Nat) (S : Nst) (a : Option Addr) (cap : Nat) (l : List Int) (w : World) (h : Hid (IsNet w B own p S nc)) (hl : l.length ≤ 4096) (HA : Hid (NAt w w.heap.size a l)) (hB : B ≤ w.heap.size) (hwf : ∀ x ∈ l, -9223372036854775808 ≤ x ∧ x ≤ 9223372036854775807) (hno : ∀ g o, a = some ⟨g, o, none⟩ → own g = 4 ∨ 10000000000000 ≤ own g) :
    Calls Try.prog 22 #[.pointer (some ⟨p, 0, none⟩), .slice a l.length cap] w fun x w' => x = .returned (.int .i64 (brkE S l)) ∧ ∃ own', IsNet w' B own' p (if brkE S l = 0 then Nst.brk S l else S) (if brkE S l = 0 then nc - l.length else nc) ∧ Stp w w' own own' NetR := by
  obtain ⟨mo, mc, vd, K, hN⟩ := h.out
  obtain ⟨a1, c1, rfl, x0, x1, x2⟩ := net_cells hN
  have HV := hid (has_never p (fun c => never c S.di.length) a cap l w (by omega) HA (hid fun x _ => never_any p S.di.length c1 a1 x w x1))
  have HK := hid (has_broke p (broke S.co) a cap l w (by omega) HA (hid fun x hx => broke_any p mc nc K S.co x w (hwf x hx).1 (hwf x hx).2 x2 hN.cm))
  have HT := hid (LiiB.twice_any a cap l hl w HA)
  have HN := hid hN
  have HO := hid (And.intro hno (And.intro hB hwf))
  have HH : Hid (IsNet w B own p S nc) := h
  clear x0 x1 hN hno hB hwf h
  cases hv : l.any (fun c => never c S.di.length) with
  | true =>
    have hE : brkE S l = 4 := by unfold brkE; rw [hv]; rfl
    rw [hv] at HV
    rw [hE, if_neg (by decide), if_neg (by decide)]
    clear x2 hv hE HK HT
    generalize l.length = n at *
    go_enter Try.func22, Try.ntmps22
    go_wp2_with (go_at_call 63; refine HV.out.mono ?_; rintro x w1 ⟨rfl, rfl⟩)
    go_ret
    exact ⟨rfl, own, HH.out, Stp.same _ _ _⟩
  | false =>
    rw [hv] at HV
    cases hb : l.any (broke S.co) with
    | true =>
      have hE : brkE S l = 51 := by unfold brkE; rw [hv, hb]; rfl
      rw [hb] at HK
      rw [hE, if_neg (by decide), if_neg (by decide)]
      clear x2 hv hE hb HT
      generalize l.length = n at *
      go_enter Try.func22, Try.ntmps22
      go_wp2_with (go_at_call 63; (first | (refine HV.out.mono ?_; rintro x w1 ⟨rfl, rfl⟩) | (refine HK.out.mono ?_; rintro x w1 ⟨rfl, rfl⟩)))
      go_ret
      exact ⟨rfl, own, HH.out, Stp.same _ _ _⟩
    | false =>
      rw [hb] at HK
      cases hd : decide l.Nodup with
      | false =>
        have hE : brkE S l = 51 := by unfold brkE; rw [hv, hb, hd]; rfl
        rw [hd] at HT
        rw [hE, if_neg (by decide), if_neg (by decide)]
        clear x2 hv hE hb hd
        generalize l.length = n at *
        go_enter Try.func22, Try.ntmps22
        go_wp2_with (first
          | (go_at_call 63; (first | (refine HV.out.mono ?_; rintro x w1 ⟨rfl, rfl⟩) | (refine HK.out.mono ?_; rintro x w1 ⟨rfl, rfl⟩)))
          | (go_at_call 66; refine HT.out.mono ?_; rintro x w2 ⟨rfl, hb2⟩; have HB2 := hid hb2; clear hb2))
        go_ret
        exact ⟨rfl, _, ⟨mo, mc, _, K, (net_alloc HN.out HB2.out).1⟩, (net_alloc HN.out HB2.out).2⟩
      | true =>
        have hE : brkE S l = 0 := by unfold brkE; rw [hv, hb, hd]; rfl
        rw [hd] at HT
        have HAL := hid (brk_alive hE)
        rw [hE, if_pos rfl, if_pos rfl]
        obtain ⟨n, hn⟩ : ∃ n, l.length = n := ⟨_, rfl⟩
        have HNL := hid hn
        rw [hn] at HV HK HT hl ⊢
        clear x2 hv hE hb hd hn
        go_enter Try.func22, Try.ntmps22
        go_wp2_with (first
          | (go_at_call 63; (first | (refine HV.out.mono ?_; rintro x w1 ⟨rfl, rfl⟩) | (refine HK.out.mono ?_; rintro x w1 ⟨rfl, rfl⟩)))
          | (go_at_call 66; refine HT.out.mono ?_; rintro x w2 ⟨rfl, hb2⟩; have HB2 := hid hb2; clear hb2))
        have hcm2 := HN.out.cm.of_block (HB2.out.block mc HN.out.cm.lt)
        have HC2 := hid hcm2
        clear hcm2
        go_loopw [26] (fun i wr => ∃ k : Nat, k ≤ n ∧ i = .int .i64 k ∧ CMap wr mc K (without S.co (l.take k)) (nc - k) ∧ Wr (fun g => g = mc) w2 wr) (fun i _ => n - (intOf i).toNat)
        case atStart =>
          exact ⟨0, Nat.zero_le _, rfl, cmap_ext HC2.out (fun i => by unfold without; simp), Wr.refl _ _⟩
        case round =>
          obtain ⟨k, hk, rfl, hcm, hw⟩ := hrel
          have HC := hid hcm
          have HW := hid hw
          clear hcm hw
          by_cases hlt : k < n
          · obtain ⟨g, o, rfl, hg, hcc⟩ := HA.out (by rw [HNL.out]; omega)
            obtain ⟨x, hx⟩ : ∃ x, l[k]? = some x := ⟨l[k]'(by rw [HNL.out]; exact hlt), List.getElem?_eq_getElem _⟩
            obtain ⟨j, C, rfl, hj1, hj2⟩ := HAL.out.2 x (List.mem_of_getElem? hx)
            have hgm : g ≠ mc := fun e => by
              have h1 := HO.out.1 g o rfl
              rw [e, HN.out.tm] at h1
              omega
            have hpm : p ≠ mc := fun e => by have h1 := HN.out.tp; rw [e, HN.out.tm] at h1; cases h1
            have x0 : wr.cell? ⟨g, o + k, none⟩ = some (.int .i64 (j : Nat)) := (HW.out.cell (o + k) (Nat.lt_of_lt_of_le hg HB2.out.size) hgm).trans ((HB2.out.cell (p := ⟨g, o + k, none⟩) hg).trans (hcc k _ hx))
            have y2 : wr.cell? ⟨p, 2, none⟩ = some (.map (some mc)) := (HW.out.cell 2 (Nat.lt_of_lt_of_le HN.out.pos HB2.out.size) hpm).trans ((HB2.out.cell (p := ⟨p, 2, none⟩) HN.out.pos).trans (blk_cell HN.out.blk rfl))
            have hf := take_fresh HAL.out.1 hx
            have hlen := HN.out.len
            obtain ⟨w', hr, hm, hw'⟩ := cmap_drop (j := j) (C := C) (by omega) (by unfold without; rw [hf]; simpa using hj2) HC.out
            have HX : Hid (CMap w' mc K (without S.co (l.take (k + 1))) (nc - (k + 1)) ∧ Wr (fun g => g = mc) w2 w') := hid ⟨by rw [show nc - (k + 1) = nc - k - 1 by omega]; exact cmap_ext hm (without_next hx), HW.out.trans hw'⟩
            clear hcc hx hj1 hj2 hgm hpm hf hlen hm hw'
            go_wp2_with fail
            go_roundw
            case rel => exact ⟨k + 1, by omega, by go_num, HX.out.1, HX.out.2⟩
            case measure => simp [intOf]; omega
          · obtain rfl : k = n := by omega
            have HF : Hid (CMap wr mc K (without S.co l) (nc - k)) := hid (by have := HC.out; rwa [List.take_of_length_le (by rw [HNL.out]; exact Nat.le_refl _)] at this)
            go_wp2
            go_ret
            obtain ⟨n1, n2⟩ := net_alloc HN.out HB2.out
            obtain ⟨n3, n4⟩ := net_brk n1 HF.out HW.out
            exact ⟨rfl, _, ⟨mo, mc, _, K, n3⟩, n2.trans n4⟩

end Go.Proofs.Ytgkfiolgipgbkaa.StmM
