/- The document's sketch in memory; New, Estimate, Total. -/
import Derived.Test.YtnpldfacnmhemaaSruA
import Derived.Deep.AppendLies
namespace Go.Proofs.Ytnpldfacnmhemaa.SruB
open Go.ChangeShapes Go.WideShapes Go.ChangeAt Go.RowKit Go.Deep Base Wri Map WldA WldF WldG SkK SkA SkB SkC SkD SkE SkF SkG SkH SkI SkJ SkL SkM SkN SkP SkQ SkR SkS SkT SruA
set_option linter.unusedVariables false

/-- the cells of notes, one behind the other -/
def cellsR (rs : List Note) : List Value := rs.flatMap fun x => [.int .i64 x.t, .int .i64 x.n, .string x.k]

theorem cellsR_len (rs : List Note) : (cellsR rs).length = rs.length * 3 := by
  induction rs with
  | nil => rfl
  | cons x r ih => unfold cellsR at *; rw [List.flatMap_cons, List.length_append, ih]; simp; omega
theorem cellsR_app (a b : List Note) : cellsR (a ++ b) = cellsR a ++ cellsR b := List.flatMap_append
theorem cellsR_one (rs : List Note) : ∀ u ∈ cellsR rs, u.oneCell' = true := by
  intro u hu
  unfold cellsR at hu
  obtain ⟨x, _, hx⟩ := List.mem_flatMap.1 hu
  simp only [List.mem_cons, List.not_mem_nil, or_false] at hx
  rcases hx with rfl | rfl | rfl <;> rfl
theorem cellsR_get (rs : List Note) (i : Nat) (hi : i < rs.length) : (cellsR rs)[i * 3]? = some (.int .i64 (rs[i].t)) ∧ (cellsR rs)[i * 3 + 1]? = some (.int .i64 (rs[i].n)) ∧ (cellsR rs)[i * 3 + 2]? = some (.string rs[i].k) := by
  have e : rs = rs.take i ++ rs[i] :: rs.drop (i + 1) := by rw [List.getElem_cons_drop, List.take_append_drop]
  have hl : (cellsR (rs.take i)).length = i * 3 := by rw [cellsR_len, List.length_take]; congr 1; omega
  have e2 : cellsR rs = cellsR (rs.take i) ++ ([.int .i64 (rs[i].t), .int .i64 (rs[i].n), .string rs[i].k] ++ cellsR (rs.drop (i + 1))) := by
    conv => lhs; rw [e]
    rw [cellsR_app]
    rfl
  rw [e2]
  refine ⟨?_, ?_, ?_⟩
  · rw [List.getElem?_append_right (by omega), hl, show i * 3 - i * 3 = 0 by omega]; rfl
  · rw [List.getElem?_append_right (by omega), hl, show i * 3 + 1 - i * 3 = 1 by omega]; rfl
  · rw [List.getElem?_append_right (by omega), hl, show i * 3 + 2 - i * 3 = 2 by omega]; rfl

/-- the document's sketch in block b: what was added, note by note -/
structure IsRS (w : World) (b B : Nat) (X : Shp) (q last : Nat) (rv : Value) (rs : List Note) : Prop where
  ok : Ok X q
  seed : X.seed < 18446744073709551616
  c0 : w.cell? ⟨b, 0, none⟩ = some (.int .i64 X.wd)
  c1 : w.cell? ⟨b, 1, none⟩ = some (.int .i64 X.bk)
  c2 : w.cell? ⟨b, 2, none⟩ = some (.int .i64 X.ro)
  c3 : w.cell? ⟨b, 3, none⟩ = some (.int .i64 X.co)
  c4 : w.cell? ⟨b, 4, none⟩ = some (.int .u64 X.seed)
  c5 : w.cell? ⟨b, 5, none⟩ = some rv
  c6 : w.cell? ⟨b, 6, none⟩ = some (.int .i64 last)
  f5 : w.frozen? ⟨b, 5, none⟩ = false
  f6 : w.frozen? ⟨b, 6, none⟩ = false
  own : w.ownsRow B 104 3 rv rs.length (cellsR rs)
  off : ∀ g, rv.ownBlock = some g → g ≠ b
  late : last ≤ 1152921504606846976
  all : ∀ x ∈ rs, x.t ≤ last ∧ x.n ≤ 1099511627776 ∧ x.k.size ≤ maxLen
  few : rs.length ≤ 2000000

variable {w w' : World} {b B : Nat} {X : Shp} {q last t : Nat} {rv : Value} {rs : List Note}

theorem IsRS.lt (h : IsRS w b B X q last rv rs) : b < w.heap.size := World.block_lt_of_cell? _ _ h.c5

theorem IsRS.keep (h : IsRS w b B X q last rv rs) (h1 : w'.heap[b]? = w.heap[b]?) (h2 : ∀ g, rv.ownBlock = some g → w'.heap[g]? = w.heap[g]?) : IsRS w' b B X q last rv rs :=
  ⟨h.ok, h.seed, (World.cell?_of_block (a := ⟨b, 0, none⟩) h1).trans h.c0, (World.cell?_of_block (a := ⟨b, 1, none⟩) h1).trans h.c1, (World.cell?_of_block (a := ⟨b, 2, none⟩) h1).trans h.c2, (World.cell?_of_block (a := ⟨b, 3, none⟩) h1).trans h.c3, (World.cell?_of_block (a := ⟨b, 4, none⟩) h1).trans h.c4, (World.cell?_of_block (a := ⟨b, 5, none⟩) h1).trans h.c5, (World.cell?_of_block (a := ⟨b, 6, none⟩) h1).trans h.c6,
    (World.frozen?_of_block (a := ⟨b, 5, none⟩) h1).trans h.f5, (World.frozen?_of_block (a := ⟨b, 6, none⟩) h1).trans h.f6, owns_keep h.own h2, h.off, h.late, h.all, h.few⟩

theorem IsRS.below (h : IsRS w b B X q last rv rs) (hb : Below w.heap.size w w') : IsRS w' b B X q last rv rs := h.keep (hb.block b h.lt) (fun g hg => hb.block g (h.own.lt g hg).2)
theorem IsRS.wr {R : Nat → Prop} (h : IsRS w b B X q last rv rs) (hw : Wr R w w') (hr : ¬ R b) (hg : ∀ g, rv.ownBlock = some g → ¬ R g) : IsRS w' b B X q last rv rs := h.keep (hw.block b h.lt hr) (fun g e => hw.block g (h.own.lt g e).2 (hg g e))

/-- note i lies there -/
theorem IsRS.note (h : IsRS w b B X q last rv rs) {i : Nat} (hi : i < rs.length) : ∃ g c, rv = .slice (some ⟨g, 0, none⟩) rs.length c ∧ g < w.heap.size ∧ w.cell? ⟨g, i * 3, none⟩ = some (.int .i64 rs[i].t) ∧ w.cell? ⟨g, i * 3 + 1, none⟩ = some (.int .i64 rs[i].n) ∧ w.cell? ⟨g, i * 3 + 2, none⟩ = some (.string rs[i].k) := by
  obtain ⟨g, c, rfl, _, hg⟩ := World.ownsRow.form h.own (by omega)
  obtain ⟨e0, e1, e2⟩ := cellsR_get rs i hi
  exact ⟨g, c, rfl, hg, (World.ownsRow.cellAt h.own _ (by omega)).trans e0, (World.ownsRow.cellAt h.own _ (by omega)).trans e1, (World.ownsRow.cellAt h.own _ (by omega)).trans e2⟩

/-- the sum over the first k notes of those that p picks -/
def sumK (rs : List Note) (p : Note → Bool) (k : Nat) : Nat := sumN (rs.take k) p

theorem sumK_succ {rs : List Note} {p : Note → Bool} {k : Nat} (h : k < rs.length) : sumK rs p (k + 1) = sumK rs p k + (if p rs[k] then rs[k].n else 0) := by
  unfold sumK
  rw [List.take_succ_eq_append_getElem h, sumN_snoc]
theorem sumK_all (rs : List Note) (p : Note → Bool) : sumK rs p rs.length = sumN rs p := by
  unfold sumK
  rw [List.take_of_length_le (Nat.le_refl _)]

theorem sat_step (a n : Nat) (c : Bool) : sat (a + if c then n else 0) = if c then sat (sat a + n) else sat a := by
  cases c
  · simp
  · simp only [if_true]; rw [sat_add1]

/-- the notes of the window at a time -/
def winP (q bk t : Nat) (x : Note) : Bool := decide (x.t / q ≤ t / q) && inW q bk t (x.t / q)

theorem win_sum (h : IsRS w b B X q last rv rs) (ht : last ≤ t) (p : Note → Bool) : sumN rs (fun x => winP q X.bk t x && p x) = sumN rs fun x => inW q X.bk t (x.t / q) && p x := by
  refine sumN_same fun x hx => .inl ?_
  have := (h.all x hx).1
  unfold winP
  rw [decide_eq_true (Nat.div_le_div_right (by omega)), Bool.true_and]

set_option maxRecDepth 20000 in
set_option maxHeartbeats 2000000 in
theorem rtotal_yes (h : IsRS w b B X q last rv rs) (ht : last ≤ t) (ht2 : t ≤ 1152921504606846976) :
    Calls Try.prog 44 #[.pointer (some ⟨b, 0, none⟩), .int .i64 t] w fun e w' => e = .returned (.tuple #[.int .i64 (totalN q X.bk rs t), .int .i64 0]) ∧ Below w.heap.size w w' := by
  have HH := hid h
  have HW := hid (wrong_any b last t w h.c6)
  have e0 : refT last t true = 0 := by unfold refT; rw [if_neg (by simp; omega), if_neg (by omega)]
  rw [e0] at HW
  have hb := h.lt
  have HF : Hid (sat (sumK rs (winP q X.bk t) rs.length) = totalN q X.bk rs t) := hid (by
    rw [sumK_all]; unfold totalN
    have := win_sum h ht (fun _ => true)
    simp only [Bool.and_true] at this
    rw [this])
  obtain ⟨va, vc, rfl⟩ := owns_shape h.own
  have hfew := h.few
  clear h e0
  go_enter Try.func44, Try.ntmps44
  go_wp2_with fail
  refine HW.out.mono ?_
  rintro e w1 ⟨rfl, rfl⟩
  go_wp2_with fail
  go_loopw [7, 8] (fun s i wr => ∃ k : Nat, k ≤ rs.length ∧ i = .int .i64 k ∧ s = .int .i64 (sat (sumK rs (winP q X.bk t) k) : Nat) ∧ Below w.heap.size w wr) (fun _ i _ => rs.length - (intOf i).toNat)
  case atStart => exact ⟨0, Nat.zero_le _, rfl, rfl, Below.refl _ _⟩
  case round =>
    obtain ⟨k, hk, rfl, rfl, hbel⟩ := hrel
    have HB := hid hbel
    have HR := hid (HH.out.below hbel)
    clear hbel
    have c5 := HR.out.c5
    by_cases hlt : k < rs.length
    · obtain ⟨g, c, e, hg, n0, n1, n2⟩ := HR.out.note hlt
      cases e
      have HIN := hid (in_any b q X.wd X.bk rs[k].t t wr ⟨HH.out.ok.b1, HH.out.ok.b2⟩ HH.out.ok.q0 HH.out.ok.we HH.out.ok.w1 (by have := (HH.out.all rs[k] (List.getElem_mem hlt)).1; have := HH.out.late; omega) ht2 HR.out.c0 HR.out.c1)
      have HS : Hid (sat (sumK rs (winP q X.bk t) (k + 1)) = if winP q X.bk t rs[k] then sat (sat (sumK rs (winP q X.bk t) k) + rs[k].n) else sat (sumK rs (winP q X.bk t) k)) := hid (by rw [sumK_succ hlt, sat_step])
      have hsm := (HH.out.all rs[k] (List.getElem_mem hlt)).2.1
      have hsl := sat_le (sumK rs (winP q X.bk t) k)
      obtain ⟨sv, hsv⟩ : ∃ sv, sat (sumK rs (winP q X.bk t) k) = sv := ⟨_, rfl⟩
      obtain ⟨pb, hpb⟩ : ∃ pb, winP q X.bk t rs[k] = pb := ⟨_, rfl⟩
      rw [hsv] at hsl HS ⊢
      rw [hpb] at HS
      unfold winP at hpb
      rw [hpb] at HIN
      obtain ⟨nt, hnt⟩ : ∃ nt, rs[k].t = nt := ⟨_, rfl⟩
      obtain ⟨nn, hnn⟩ : ∃ nn, rs[k].n = nn := ⟨_, rfl⟩
      rw [hnt] at n0 HIN
      rw [hnn] at n1 hsm HS
      have HPL := hid (fun w => plus2_any sv nn w hsl (by omega))
      have hk1 : (k : Int) < (rs.length : Int) := by omega
      clear hsv hpb hnt hnn n2
      cases pb
      · go_wp2_with fail
        refine HIN.out.mono ?_
        rintro e w2 ⟨rfl, m, rfl⟩
        go_wp2_with fail
        go_roundw
        case rel => exact ⟨k + 1, by omega, by go_num, by rw [HS.out]; rfl, below_drewN HB.out _⟩
        case measure => simp [intOf]; omega
      · go_wp2_with fail
        refine HIN.out.mono ?_
        rintro e w2 ⟨rfl, m, rfl⟩
        go_wp2_with fail
        refine (HPL.out _).mono ?_
        rintro e w3 ⟨rfl, rfl⟩
        go_wp2_with fail
        go_roundw
        case rel => exact ⟨k + 1, by omega, by go_num, by rw [HS.out]; rfl, below_drewN HB.out _⟩
        case measure => simp [intOf]; omega
    · obtain rfl : k = rs.length := by omega
      go_wp2_with fail
      go_ret2
      exact ⟨by rw [← HF.out]; rfl, HB.out⟩

/-- what a row tells of a key -/
def inRow (q : Nat) (X : Shp) (t r c : Nat) (x : Note) : Bool := winP q X.bk t x && colN X.seed X.co r x.k == c

theorem least_min (n : Nat) (f : Nat → Nat) : (if f n < least n f then f n else least n f) = least (n + 1) f := by
  rw [least_succ]
  split <;> omega

set_option maxRecDepth 20000 in
set_option maxHeartbeats 4000000 in
theorem restimate_yes (h : IsRS w b B X q last rv rs) (ht : last ≤ t) (ht2 : t ≤ 1152921504606846976) (s : ByteArray) (hs : s.size ≤ maxLen) :
    Calls Try.prog 43 #[.pointer (some ⟨b, 0, none⟩), .int .i64 t, .string s] w fun e w' => e = .returned (.tuple #[.int .i64 (estN q X rs t s), .int .i64 0]) ∧ Below w.heap.size w w' := by
  have HH := hid h
  have HW := hid (wrong_any b last t w h.c6)
  have e0 : refT last t true = 0 := by unfold refT; rw [if_neg (by simp; omega), if_neg (by omega)]
  rw [e0] at HW
  have hb := h.lt
  have HF : Hid (∀ r c, sat (sumK rs (inRow q X t r c) rs.length) = rowN q X rs t r c) := hid (fun r c => by
    rw [sumK_all]; unfold rowN inRow
    rw [win_sum h ht (fun x => colN X.seed X.co r x.k == c)])
  have HE : Hid (least X.ro (fun r => rowN q X rs t r (colN X.seed X.co r s)) = estN q X rs t s) := hid rfl
  obtain ⟨fr, hfr⟩ : ∃ fr : Nat → Nat, (fun r => rowN q X rs t r (colN X.seed X.co r s)) = fr := ⟨_, rfl⟩
  have HFR : Hid (∀ r, rowN q X rs t r (colN X.seed X.co r s) = fr r) := hid (fun r => by rw [← hfr])
  rw [hfr] at HE
  obtain ⟨va, vc, rfl⟩ := owns_shape h.own
  have hfew := h.few
  have hro := h.ok.r2
  clear h e0 hfr
  go_enter Try.func43, Try.ntmps43
  go_wp2_with fail
  refine HW.out.mono ?_
  rintro e w1 ⟨rfl, rfl⟩
  go_wp2_with fail
  go_loopw [9, 10, 11, 12, 13] (fun l r c s i wr => ∃ k : Nat, k ≤ X.ro ∧ r = .int .i64 k ∧ l = .int .i64 (least k fr : Nat) ∧ Below w.heap.size w wr) (fun _ r _ _ _ _ => X.ro - (intOf r).toNat)
  case atStart => exact ⟨0, Nat.zero_le _, rfl, rfl, Below.refl _ _⟩
  case round =>
    obtain ⟨r, hr, rfl, rfl, hbel⟩ := hrel
    have HBO := hid hbel
    have HRO := hid (HH.out.below hbel)
    clear hbel
    have c2 := HRO.out.c2
    by_cases hlr : r < X.ro
    · have HCOL := hid (column_core b X.seed r X.co s wr hs (by omega) ⟨HH.out.ok.c1, HH.out.ok.c2⟩ HH.out.seed HRO.out.c3 HRO.out.c4)
      have HFr := hid (HFR.out r)
      have HFc := hid (HF.out r (colN X.seed X.co r s))
      obtain ⟨cc, hcc⟩ : ∃ cc, colN X.seed X.co r s = cc := ⟨_, rfl⟩
      rw [hcc] at HCOL HFr HFc
      have hlm := hid (least_min r fr)
      have hll := least_top r fr
      have hr1 : (r : Int) < (X.ro : Int) := by omega
      obtain ⟨lv, hlv⟩ : ∃ lv, least r fr = lv := ⟨_, rfl⟩
      rw [hlv] at hlm hll ⊢
      clear hcc hlv
      go_wp2_with fail
      refine HCOL.out.mono ?_
      rintro e w2 ⟨rfl, m0, hw2⟩
      have HB2 : Hid (Below w.heap.size w w2) := hid (by rw [← hw2]; exact below_drewN HBO.out _)
      clear hw2 HRO HBO HCOL c2
      go_wp2_with fail
      generalize wr = wz at *
      go_loopw [12, 13] (fun s i wr => ∃ k : Nat, k ≤ rs.length ∧ i = .int .i64 k ∧ s = .int .i64 (sat (sumK rs (inRow q X t r cc) k) : Nat) ∧ Below w.heap.size w wr) (fun _ i _ => rs.length - (intOf i).toNat)
      case atStart => exact ⟨0, Nat.zero_le _, rfl, rfl, HB2.out⟩
      case round =>
        obtain ⟨k, hk, rfl, rfl, hbel⟩ := hrel
        have HB := hid hbel
        have HR := hid (HH.out.below hbel)
        clear hbel HB2
        have c5 := HR.out.c5
        by_cases hlt : k < rs.length
        · obtain ⟨g, c, e, hg, n0, n1, n2⟩ := HR.out.note hlt
          cases e
          have HIN := hid (in_any b q X.wd X.bk rs[k].t t wr ⟨HH.out.ok.b1, HH.out.ok.b2⟩ HH.out.ok.q0 HH.out.ok.we HH.out.ok.w1 (by have := (HH.out.all rs[k] (List.getElem_mem hlt)).1; have := HH.out.late; omega) ht2 HR.out.c0 HR.out.c1)
          have HCK : Hid (∀ m, Calls Try.prog 54 #[.pointer (some ⟨b, 0, none⟩), .int .i64 r, .string rs[k].k] (wr.drewN m) fun e w' => e = .returned (.int .i64 (colN X.seed X.co r rs[k].k)) ∧ ∃ m2, (wr.drewN m).drewN m2 = w') := hid (fun m => column_core b X.seed r X.co rs[k].k (wr.drewN m) (HH.out.all rs[k] (List.getElem_mem hlt)).2.2 (by omega) ⟨HH.out.ok.c1, HH.out.ok.c2⟩ HH.out.seed HR.out.c3 HR.out.c4)
          have HS : Hid (sat (sumK rs (inRow q X t r cc) (k + 1)) = if inRow q X t r cc rs[k] then sat (sat (sumK rs (inRow q X t r cc) k) + rs[k].n) else sat (sumK rs (inRow q X t r cc) k)) := hid (by rw [sumK_succ hlt, sat_step])
          have hsm := (HH.out.all rs[k] (List.getElem_mem hlt)).2.1
          have hsl := sat_le (sumK rs (inRow q X t r cc) k)
          obtain ⟨sv, hsv⟩ : ∃ sv, sat (sumK rs (inRow q X t r cc) k) = sv := ⟨_, rfl⟩
          obtain ⟨pb, hpb⟩ : ∃ pb, winP q X.bk t rs[k] = pb := ⟨_, rfl⟩
          obtain ⟨ck, hck⟩ : ∃ ck, colN X.seed X.co r rs[k].k = ck := ⟨_, rfl⟩
          have hin : inRow q X t r cc rs[k] = (pb && (ck == cc)) := by unfold inRow; rw [hpb, hck]
          rw [hsv] at hsl HS ⊢
          rw [hin] at HS
          rw [hck] at HCK
          unfold winP at hpb
          rw [hpb] at HIN
          obtain ⟨nt, hnt⟩ : ∃ nt, rs[k].t = nt := ⟨_, rfl⟩
          obtain ⟨nn, hnn⟩ : ∃ nn, rs[k].n = nn := ⟨_, rfl⟩
          obtain ⟨nk, hnk⟩ : ∃ nk, rs[k].k = nk := ⟨_, rfl⟩
          rw [hnt] at n0 HIN
          rw [hnn] at n1 hsm HS
          rw [hnk] at n2 HCK
          have HPL := hid (fun w => plus2_any sv nn w hsl (by omega))
          have hk1 : (k : Int) < (rs.length : Int) := by omega
          clear hsv hpb hnt hnn hnk hck hin
          cases pb
          · go_wp2_with fail
            refine HIN.out.mono ?_
            rintro e w2 ⟨rfl, m, rfl⟩
            go_wp2_with fail
            go_roundw
            case rel => exact ⟨k + 1, by omega, by go_num, by rw [HS.out]; rfl, below_drewN HB.out _⟩
            case measure => simp [intOf]; omega
          · by_cases hceq : ck = cc
            · have hce : ((ck : Int) == (cc : Int)) = true := by rw [hceq]; simp
              have hce2 : (ck == cc) = true := by simpa using hceq
              rw [hce2] at HS
              clear hce2
              go_wp2_with fail
              refine HIN.out.mono ?_
              rintro e w2 ⟨rfl, m, rfl⟩
              go_wp2_with fail
              refine (HCK.out m).mono ?_
              rintro e w2 ⟨rfl, m2, rfl⟩
              subst hceq
              go_wp2_with fail
              refine (HPL.out _).mono ?_
              rintro e w3 ⟨rfl, rfl⟩
              go_wp2_with fail
              go_roundw
              case rel => exact ⟨k + 1, by omega, by go_num, by rw [HS.out]; rfl, below_drewN HB.out _⟩
              case measure => simp [intOf]; omega
            · have hce : decide ((ck : Int) = (cc : Int)) = false := by simp; omega
              have hce3 : ((ck : Int) == (cc : Int)) = false := by simp; omega
              have hce2 : (ck == cc) = false := by simpa using hceq
              rw [hce2] at HS
              clear hce2
              go_wp2_with fail
              refine HIN.out.mono ?_
              rintro e w2 ⟨rfl, m, rfl⟩
              go_wp2_with fail
              refine (HCK.out m).mono ?_
              rintro e w2 ⟨rfl, m2, rfl⟩
              go_wp2_with fail
              go_roundw
              case rel => exact ⟨k + 1, by omega, by go_num, by rw [HS.out]; rfl, below_drewN HB.out _⟩
              case measure => simp [intOf]; omega
        · obtain rfl : k = rs.length := by omega
          rw [HFc.out, HFr.out]
          have HLM := hid hlm.out
          obtain ⟨fv, hfv⟩ : ∃ fv, fr r = fv := ⟨_, rfl⟩
          rw [hfv] at HLM ⊢
          clear hfv
          by_cases hlf : fv < lv
          · have hd : decide ((fv : Int) < (lv : Int)) = true := by simp; omega
            rw [if_pos hlf] at HLM
            go_wp2_with fail
            go_roundw
            case rel => exact ⟨r + 1, by omega, by go_num, by rw [← HLM.out], HB.out⟩
            case measure => simp [intOf]; omega
          · have hd : decide ((fv : Int) < (lv : Int)) = false := by simp; omega
            rw [if_neg hlf] at HLM
            go_wp2_with fail
            go_roundw
            case rel => exact ⟨r + 1, by omega, by go_num, by rw [← HLM.out], HB.out⟩
            case measure => simp [intOf]; omega
    · obtain rfl : r = X.ro := by omega
      go_wp2_with fail
      go_ret2
      exact ⟨by rw [← HE.out]; rfl, HBO.out⟩

set_option maxHeartbeats 400000 in
theorem restimate_no (tt : Int) (r : Int) (s : ByteArray) (l0 : Int) (h6 : w.cell? ⟨b, 6, none⟩ = some (.int .i64 l0)) (hr : refT l0 tt true = r) (hr0 : r ≠ 0) :
    Calls Try.prog 43 #[.pointer (some ⟨b, 0, none⟩), .int .i64 tt, .string s] w fun e w' => e = .returned (.tuple #[.int .i64 0, .int .i64 r]) ∧ w = w' := by
  have HW := hid (wrong_any b l0 tt w h6)
  rw [hr] at HW
  have hd : (r != 0) = true := by simpa using hr0
  have hd2 : (r == 0) = false := by simpa using hr0
  clear hr hr0 h6
  go_enter Try.func43, Try.ntmps43
  go_wp2_with fail
  refine HW.out.mono ?_
  rintro e w1 ⟨rfl, rfl⟩
  go_wp2_with fail
  go_ret2
  exact ⟨rfl, rfl⟩

set_option maxHeartbeats 400000 in
theorem rtotal_no (tt : Int) (r : Int) (l0 : Int) (h6 : w.cell? ⟨b, 6, none⟩ = some (.int .i64 l0)) (hr : refT l0 tt true = r) (hr0 : r ≠ 0) :
    Calls Try.prog 44 #[.pointer (some ⟨b, 0, none⟩), .int .i64 tt] w fun e w' => e = .returned (.tuple #[.int .i64 0, .int .i64 r]) ∧ w = w' := by
  have HW := hid (wrong_any b l0 tt w h6)
  rw [hr] at HW
  have hd : (r != 0) = true := by simpa using hr0
  have hd2 : (r == 0) = false := by simpa using hr0
  clear hr hr0 h6
  go_enter Try.func44, Try.ntmps44
  go_wp2_with fail
  refine HW.out.mono ?_
  rintro e w1 ⟨rfl, rfl⟩
  go_wp2_with fail
  go_ret2
  exact ⟨rfl, rfl⟩


theorem refZ_two {wd bk ro co : Int} (h : ¬ (inB wd 1099511627776 = true ∧ inB bk 60 = true ∧ inB ro 8 = true ∧ inB co 4096 = true)) : refZ wd bk ro co = 2 := by
  unfold refZ
  rw [if_neg]
  intro e
  simp only [Bool.and_eq_true] at e
  exact h ⟨e.1.1.1, e.1.1.2, e.1.2, e.2⟩

theorem inB_of {n m : Int} (h1 : 1 ≤ n) (h2 : n ≤ m) : inB n m = true := by unfold inB; simp; omega
theorem inB_not {n m : Int} (h : n < 1 ∨ m < n) : ¬ inB n m = true := by unfold inB; simp; omega

set_option maxRecDepth 20000 in
set_option maxHeartbeats 400000 in
theorem rnew_wd0 (wd bk ro co : Int) (sd : Nat) (w : World)  (hx : wd < 1) :
    Calls Try.prog 6 #[.int .i64 wd, .int .i64 bk, .int .i64 ro, .int .i64 co, .int .u64 sd] w fun e w' => e = .returned (.tuple #[.pointer none, .int .i64 2]) ∧ w = w' := by
  have awd : decide (wd < 1) = true := by simp; omega
  go_enter Try.func6, Try.ntmps6
  go_wp2_with fail
  go_ret2
  exact ⟨rfl, rfl⟩

set_option maxRecDepth 20000 in
set_option maxHeartbeats 400000 in
theorem rnew_wd1 (wd bk ro co : Int) (sd : Nat) (w : World)  (hx : 1099511627776 < wd) :
    Calls Try.prog 6 #[.int .i64 wd, .int .i64 bk, .int .i64 ro, .int .i64 co, .int .u64 sd] w fun e w' => e = .returned (.tuple #[.pointer none, .int .i64 2]) ∧ w = w' := by
  have awd : decide (wd < 1) = false := by simp; omega
  have bwd : decide (1099511627776 < wd) = true := by simp; omega
  go_enter Try.func6, Try.ntmps6
  go_wp2_with fail
  go_ret2
  exact ⟨rfl, rfl⟩

set_option maxRecDepth 20000 in
set_option maxHeartbeats 400000 in
theorem rnew_bk0 (wd bk ro co : Int) (sd : Nat) (w : World) (lwd : 1 ≤ wd) (uwd : wd ≤ 1099511627776) (hx : bk < 1) :
    Calls Try.prog 6 #[.int .i64 wd, .int .i64 bk, .int .i64 ro, .int .i64 co, .int .u64 sd] w fun e w' => e = .returned (.tuple #[.pointer none, .int .i64 2]) ∧ w = w' := by
  have awd : decide (wd < 1) = false := by simp; omega
  have bwd : decide (1099511627776 < wd) = false := by simp; omega
  have abk : decide (bk < 1) = true := by simp; omega
  go_enter Try.func6, Try.ntmps6
  go_wp2_with fail
  go_ret2
  exact ⟨rfl, rfl⟩

set_option maxRecDepth 20000 in
set_option maxHeartbeats 400000 in
theorem rnew_bk1 (wd bk ro co : Int) (sd : Nat) (w : World) (lwd : 1 ≤ wd) (uwd : wd ≤ 1099511627776) (hx : 60 < bk) :
    Calls Try.prog 6 #[.int .i64 wd, .int .i64 bk, .int .i64 ro, .int .i64 co, .int .u64 sd] w fun e w' => e = .returned (.tuple #[.pointer none, .int .i64 2]) ∧ w = w' := by
  have awd : decide (wd < 1) = false := by simp; omega
  have bwd : decide (1099511627776 < wd) = false := by simp; omega
  have abk : decide (bk < 1) = false := by simp; omega
  have bbk : decide (60 < bk) = true := by simp; omega
  go_enter Try.func6, Try.ntmps6
  go_wp2_with fail
  go_ret2
  exact ⟨rfl, rfl⟩

set_option maxRecDepth 20000 in
set_option maxHeartbeats 400000 in
theorem rnew_ro0 (wd bk ro co : Int) (sd : Nat) (w : World) (lwd : 1 ≤ wd) (uwd : wd ≤ 1099511627776) (lbk : 1 ≤ bk) (ubk : bk ≤ 60) (hx : ro < 1) :
    Calls Try.prog 6 #[.int .i64 wd, .int .i64 bk, .int .i64 ro, .int .i64 co, .int .u64 sd] w fun e w' => e = .returned (.tuple #[.pointer none, .int .i64 2]) ∧ w = w' := by
  have awd : decide (wd < 1) = false := by simp; omega
  have bwd : decide (1099511627776 < wd) = false := by simp; omega
  have abk : decide (bk < 1) = false := by simp; omega
  have bbk : decide (60 < bk) = false := by simp; omega
  have aro : decide (ro < 1) = true := by simp; omega
  go_enter Try.func6, Try.ntmps6
  go_wp2_with fail
  go_ret2
  exact ⟨rfl, rfl⟩

set_option maxRecDepth 20000 in
set_option maxHeartbeats 400000 in
theorem rnew_ro1 (wd bk ro co : Int) (sd : Nat) (w : World) (lwd : 1 ≤ wd) (uwd : wd ≤ 1099511627776) (lbk : 1 ≤ bk) (ubk : bk ≤ 60) (hx : 8 < ro) :
    Calls Try.prog 6 #[.int .i64 wd, .int .i64 bk, .int .i64 ro, .int .i64 co, .int .u64 sd] w fun e w' => e = .returned (.tuple #[.pointer none, .int .i64 2]) ∧ w = w' := by
  have awd : decide (wd < 1) = false := by simp; omega
  have bwd : decide (1099511627776 < wd) = false := by simp; omega
  have abk : decide (bk < 1) = false := by simp; omega
  have bbk : decide (60 < bk) = false := by simp; omega
  have aro : decide (ro < 1) = false := by simp; omega
  have bro : decide (8 < ro) = true := by simp; omega
  go_enter Try.func6, Try.ntmps6
  go_wp2_with fail
  go_ret2
  exact ⟨rfl, rfl⟩

set_option maxRecDepth 20000 in
set_option maxHeartbeats 400000 in
theorem rnew_co0 (wd bk ro co : Int) (sd : Nat) (w : World) (lwd : 1 ≤ wd) (uwd : wd ≤ 1099511627776) (lbk : 1 ≤ bk) (ubk : bk ≤ 60) (lro : 1 ≤ ro) (uro : ro ≤ 8) (hx : co < 1) :
    Calls Try.prog 6 #[.int .i64 wd, .int .i64 bk, .int .i64 ro, .int .i64 co, .int .u64 sd] w fun e w' => e = .returned (.tuple #[.pointer none, .int .i64 2]) ∧ w = w' := by
  have awd : decide (wd < 1) = false := by simp; omega
  have bwd : decide (1099511627776 < wd) = false := by simp; omega
  have abk : decide (bk < 1) = false := by simp; omega
  have bbk : decide (60 < bk) = false := by simp; omega
  have aro : decide (ro < 1) = false := by simp; omega
  have bro : decide (8 < ro) = false := by simp; omega
  have aco : decide (co < 1) = true := by simp; omega
  go_enter Try.func6, Try.ntmps6
  go_wp2_with fail
  go_ret2
  exact ⟨rfl, rfl⟩

set_option maxRecDepth 20000 in
set_option maxHeartbeats 400000 in
theorem rnew_co1 (wd bk ro co : Int) (sd : Nat) (w : World) (lwd : 1 ≤ wd) (uwd : wd ≤ 1099511627776) (lbk : 1 ≤ bk) (ubk : bk ≤ 60) (lro : 1 ≤ ro) (uro : ro ≤ 8) (hx : 4096 < co) :
    Calls Try.prog 6 #[.int .i64 wd, .int .i64 bk, .int .i64 ro, .int .i64 co, .int .u64 sd] w fun e w' => e = .returned (.tuple #[.pointer none, .int .i64 2]) ∧ w = w' := by
  have awd : decide (wd < 1) = false := by simp; omega
  have bwd : decide (1099511627776 < wd) = false := by simp; omega
  have abk : decide (bk < 1) = false := by simp; omega
  have bbk : decide (60 < bk) = false := by simp; omega
  have aro : decide (ro < 1) = false := by simp; omega
  have bro : decide (8 < ro) = false := by simp; omega
  have aco : decide (co < 1) = false := by simp; omega
  have bco : decide (4096 < co) = true := by simp; omega
  go_enter Try.func6, Try.ntmps6
  go_wp2_with fail
  go_ret2
  exact ⟨rfl, rfl⟩

set_option maxRecDepth 20000 in
set_option maxHeartbeats 400000 in
theorem rnew_form (wd bk ro co : Int) (sd : Nat) (w : World) (lwd : 1 ≤ wd) (uwd : wd ≤ 1099511627776) (lbk : 1 ≤ bk) (ubk : bk ≤ 60) (lro : 1 ≤ ro) (uro : ro ≤ 8) (lco : 1 ≤ co) (uco : co ≤ 4096) (hm : wd % bk ≠ 0) :
    Calls Try.prog 6 #[.int .i64 wd, .int .i64 bk, .int .i64 ro, .int .i64 co, .int .u64 sd] w fun e w' => e = .returned (.tuple #[.pointer none, .int .i64 6]) ∧ w = w' := by
  have awd : decide (wd < 1) = false := by simp; omega
  have bwd : decide (1099511627776 < wd) = false := by simp; omega
  have abk : decide (bk < 1) = false := by simp; omega
  have bbk : decide (60 < bk) = false := by simp; omega
  have aro : decide (ro < 1) = false := by simp; omega
  have bro : decide (8 < ro) = false := by simp; omega
  have aco : decide (co < 1) = false := by simp; omega
  have bco : decide (4096 < co) = false := by simp; omega
  obtain ⟨r, hr⟩ : ∃ r, wd % bk = r := ⟨_, rfl⟩
  have hr0 : (r == 0) = false := by rw [← hr]; simpa using hm
  have hr1 : (r != 0) = true := by rw [← hr]; simpa using hm
  have hr2 : 0 ≤ r ∧ r < bk := by rw [← hr]; exact ⟨Int.emod_nonneg _ (by omega), Int.emod_lt_of_pos _ (by omega)⟩
  obtain ⟨hr3, hr4⟩ := hr2
  clear hm
  go_enter Try.func6, Try.ntmps6
  go_wp2_with fail
  go_ret2
  exact ⟨rfl, rfl⟩

set_option maxRecDepth 20000 in
set_option maxHeartbeats 400000 in
theorem rnew_ok (wd bk ro co : Int) (sd : Nat) (w : World) (lwd : 1 ≤ wd) (uwd : wd ≤ 1099511627776) (lbk : 1 ≤ bk) (ubk : bk ≤ 60) (lro : 1 ≤ ro) (uro : ro ≤ 8) (lco : 1 ≤ co) (uco : co ≤ 4096) (hm : wd % bk = 0) :
    Calls Try.prog 6 #[.int .i64 wd, .int .i64 bk, .int .i64 ro, .int .i64 co, .int .u64 sd] w fun e w' => e = .returned (.tuple #[.pointer (some ⟨w.heap.size, 0, none⟩), .int .i64 0]) ∧ w.alloc (.cells #[.int .i64 wd, .int .i64 bk, .int .i64 ro, .int .i64 co, .int .u64 sd, .slice none 0 0, .int .i64 0] 49) = w' := by
  have awd : decide (wd < 1) = false := by simp; omega
  have bwd : decide (1099511627776 < wd) = false := by simp; omega
  have abk : decide (bk < 1) = false := by simp; omega
  have bbk : decide (60 < bk) = false := by simp; omega
  have aro : decide (ro < 1) = false := by simp; omega
  have bro : decide (8 < ro) = false := by simp; omega
  have aco : decide (co < 1) = false := by simp; omega
  have bco : decide (4096 < co) = false := by simp; omega
  go_enter Try.func6, Try.ntmps6
  go_wp2_with fail
  go_ret2
  exact ⟨rfl, rfl⟩

/-- New, whatever comes -/
theorem rnew_any (wd bk ro co : Int) (sd : Nat) (w : World) (hsd : sd < 18446744073709551616) :
    Calls Try.prog 6 #[.int .i64 wd, .int .i64 bk, .int .i64 ro, .int .i64 co, .int .u64 sd] w fun e w' =>
      (refZ wd bk ro co ≠ 0 → e = .returned (.tuple #[.pointer none, .int .i64 (refZ wd bk ro co)]) ∧ Below w.heap.size w w') ∧
      (refZ wd bk ro co = 0 → e = .returned (.tuple #[.pointer (some ⟨w.heap.size, 0, none⟩), .int .i64 0]) ∧ Below w.heap.size w w' ∧ ∀ (X : Shp) (q : Nat), Ok X q → wd = X.wd → bk = X.bk → ro = X.ro → co = X.co → X.seed = sd → IsRS w' w.heap.size w.heap.size X q 0 (.slice none 0 0) []) := by
  have bad : ∀ {e : Ending} {w' : World} {r : Int}, refZ wd bk ro co = r → r ≠ 0 → (e = .returned (.tuple #[.pointer none, .int .i64 r]) ∧ w = w') → (refZ wd bk ro co ≠ 0 → e = .returned (.tuple #[.pointer none, .int .i64 (refZ wd bk ro co)]) ∧ Below w.heap.size w w') ∧
      (refZ wd bk ro co = 0 → e = .returned (.tuple #[.pointer (some ⟨w.heap.size, 0, none⟩), .int .i64 0]) ∧ Below w.heap.size w w' ∧ ∀ (X : Shp) (q : Nat), Ok X q → wd = X.wd → bk = X.bk → ro = X.ro → co = X.co → X.seed = sd → IsRS w' w.heap.size w.heap.size X q 0 (.slice none 0 0) []) := by
    rintro e w' r hr h0 ⟨h1, rfl⟩
    exact ⟨fun _ => ⟨by rw [hr]; exact h1, Below.refl _ _⟩, fun h => absurd (hr.symm.trans h) h0⟩
  by_cases lwd : 1 ≤ wd
  case neg => exact (rnew_wd0 wd bk ro co sd w  (by omega)).mono fun e w' h => bad (refZ_two (fun e => inB_not (.inl (by omega)) e.1)) (by decide) h
  by_cases uwd : wd ≤ 1099511627776
  case neg => exact (rnew_wd1 wd bk ro co sd w  (by omega)).mono fun e w' h => bad (refZ_two (fun e => inB_not (.inr (by omega)) e.1)) (by decide) h
  by_cases lbk : 1 ≤ bk
  case neg => exact (rnew_bk0 wd bk ro co sd w lwd uwd (by omega)).mono fun e w' h => bad (refZ_two (fun e => inB_not (.inl (by omega)) e.2.1)) (by decide) h
  by_cases ubk : bk ≤ 60
  case neg => exact (rnew_bk1 wd bk ro co sd w lwd uwd (by omega)).mono fun e w' h => bad (refZ_two (fun e => inB_not (.inr (by omega)) e.2.1)) (by decide) h
  by_cases lro : 1 ≤ ro
  case neg => exact (rnew_ro0 wd bk ro co sd w lwd uwd lbk ubk (by omega)).mono fun e w' h => bad (refZ_two (fun e => inB_not (.inl (by omega)) e.2.2.1)) (by decide) h
  by_cases uro : ro ≤ 8
  case neg => exact (rnew_ro1 wd bk ro co sd w lwd uwd lbk ubk (by omega)).mono fun e w' h => bad (refZ_two (fun e => inB_not (.inr (by omega)) e.2.2.1)) (by decide) h
  by_cases lco : 1 ≤ co
  case neg => exact (rnew_co0 wd bk ro co sd w lwd uwd lbk ubk lro uro (by omega)).mono fun e w' h => bad (refZ_two (fun e => inB_not (.inl (by omega)) e.2.2.2)) (by decide) h
  by_cases uco : co ≤ 4096
  case neg => exact (rnew_co1 wd bk ro co sd w lwd uwd lbk ubk lro uro (by omega)).mono fun e w' h => bad (refZ_two (fun e => inB_not (.inr (by omega)) e.2.2.2)) (by decide) h
  have hz : refZ wd bk ro co = if wd % bk = 0 then 0 else 6 := by
    unfold refZ
    rw [inB_of lwd uwd, inB_of lbk ubk, inB_of lro uro, inB_of lco uco]
    simp
  by_cases hm : wd % bk = 0
  · rw [if_pos hm] at hz
    refine (rnew_ok wd bk ro co sd w lwd uwd lbk ubk lro uro lco uco hm).mono ?_
    rintro e w' ⟨rfl, rfl⟩
    refine ⟨fun h => absurd hz h, fun _ => ⟨rfl, (Below.refl _ w).alloc (Nat.le_refl _) _, fun X q ho e1 e2 e3 e4 e5 => ?_⟩⟩
    subst e1 e2 e3 e4 e5
    exact ⟨ho, hsd, by go_cell, by go_cell, by go_cell, by go_cell, by go_cell, by go_cell, by go_cell, by go_cell, by go_cell, ⟨rfl, .inl ⟨rfl, rfl⟩⟩, (fun g hg => by cases hg), by omega, (fun x hx => by cases hx), by simp⟩
  · rw [if_neg hm] at hz
    exact (rnew_form wd bk ro co sd w lwd uwd lbk ubk lro uro lco uco hm).mono fun e w' h => bad hz (by decide) h

end Go.Proofs.Ytnpldfacnmhemaa.SruB
