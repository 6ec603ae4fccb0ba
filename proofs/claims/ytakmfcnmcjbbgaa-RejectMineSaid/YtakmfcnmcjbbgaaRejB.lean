/- Whom a flow rule concerns. -/
import Derived.Test.YtakmfcnmcjbbgaaRejA
namespace Go.Proofs.Ytakmfcnmcjbbgaa.RejB
open Go.ChangeShapes Go.WideShapes Go.ChangeAt Go.RowKit Base RejA Txt
set_option linter.unusedVariables false

def dft : ByteArray := ⟨#[100, 101, 102, 97, 117, 108, 116]⟩
def oth : ByteArray := ⟨#[111, 116, 104, 101, 114]⟩

theorem eq_dft (o : ByteArray) : (o.toList == [100, 101, 102, 97, 117, 108, 116]) = decide (o = dft) := by
  rw [← text_eq o dft, show dft.toList = [100, 101, 102, 97, 117, 108, 116] by rw [ByteArray.toList_eq]; rfl]
theorem eq_oth (o : ByteArray) : (o.toList == [111, 116, 104, 101, 114]) = decide (o = oth) := by
  rw [← text_eq o oth, show oth.toList = [111, 116, 104, 101, 114] by rw [ByteArray.toList_eq]; rfl]

/-- is a rule an origin's own, of a resource? -/
def isOwn (r o : ByteArray) (f : Flow) : Bool := decide (f.res = r) && decide (f.org = o)
noncomputable def hasB (n : Nat) (L : Nat → Flow) (r o : ByteArray) : Bool := open Classical in decide (∃ k, k < n ∧ isOwn r o (L k) = true)
noncomputable def hasO (n : Nat) (L : Nat → Flow) (r o : ByteArray) : Bool := !(decide (o = dft)) && !(decide (o = oth)) && hasB n L r o
noncomputable def conc (n : Nat) (L : Nat → Flow) (i : Int) (o : ByteArray) : Bool :=
  decide (0 ≤ i ∧ i < n) && (decide ((L i.toNat).org = dft) || decide ((L i.toNat).org = o) || (decide ((L i.toNat).org = oth) && !(hasO n L (L i.toNat).res o)))

theorem hasB_iff {n : Nat} {L : Nat → Flow} {r o : ByteArray} : hasB n L r o = true ↔ ∃ k, k < n ∧ isOwn r o (L k) = true := by unfold hasB; exact decide_eq_true_iff
theorem hasB_not {n : Nat} {L : Nat → Flow} {r o : ByteArray} : hasB n L r o = false ↔ ∀ k, k < n → isOwn r o (L k) = false := by
  unfold hasB
  rw [decide_eq_false_iff_not]
  exact ⟨fun h k hk => by cases e : isOwn r o (L k) with | true => exact absurd ⟨k, hk, e⟩ h | false => rfl, fun h ⟨k, hk, e⟩ => by rw [h k hk] at e; cases e⟩

set_option maxRecDepth 20000 in
set_option maxHeartbeats 1000000 in
theorem own_core (res org : ByteArray) (thr : Bool) (cnt : Int) (strat : Nat) (ref : ByteArray) (shape : Nat) (warm queue : Int) (clus : Bool) (id_ : Int) (fall : Bool) (p p' : Nat) (r o : ByteArray) (b : Bool) (B : Hid ((decide (res = r) && decide (org = o)) = b)) (w : World) (hp : p < w.heap.size) (hp' : p' < w.heap.size) (h1 : w.cell? ⟨p, 0, none⟩ = some (.string r)) (h2 : w.cell? ⟨p', 0, none⟩ = some (.string o)) :
    Calls Try.prog 39 #[.agg #[.string res, .string org, .bool thr, .int .i64 cnt, .int .u8 strat, .string ref, .int .u8 shape, .int .i64 warm, .int .i64 queue, .bool clus, .int .i64 id_, .bool fall], .pointer (some ⟨p, 0, none⟩), .pointer (some ⟨p', 0, none⟩)] w fun e w' => e = .returned (.bool b) ∧ Below w.heap.size w w' := by
  cases d1 : decide (res = r) with
  | false =>
    have e1 : (res.toList == r.toList) = false := by rw [text_eq]; exact d1
    rw [d1] at B
    clear d1
    go_enter Try.func39, Try.ntmps39
    go_wp2_with fail
    go_ret
    exact ⟨ret_bool (by rw [← B.out]; rfl), (by repeat (first | (with_reducible exact Below.refl _ _) | (with_reducible refine Below.setCell ?_ (by first | (simp; done) | (simp; omega) | omega) _) | (with_reducible refine Below.alloc ?_ (by first | (simp; done) | (simp; omega) | omega) _) | (with_reducible refine Below.drew ?_) | (with_reducible refine below_drewN ?_ _)))⟩
  | true =>
    have e1 : (res.toList == r.toList) = true := by rw [text_eq]; exact d1
    rw [d1] at B
    clear d1
    cases d2 : decide (org = o) with
    | false =>
      have e2 : (org.toList == o.toList) = false := by rw [text_eq]; exact d2
      rw [d2] at B
      clear d2
      go_enter Try.func39, Try.ntmps39
      go_wp2_with fail
      go_ret
      exact ⟨ret_bool (by rw [← B.out]; rfl), (by repeat (first | (with_reducible exact Below.refl _ _) | (with_reducible refine Below.setCell ?_ (by first | (simp; done) | (simp; omega) | omega) _) | (with_reducible refine Below.alloc ?_ (by first | (simp; done) | (simp; omega) | omega) _) | (with_reducible refine Below.drew ?_) | (with_reducible refine below_drewN ?_ _)))⟩
    | true =>
      have e2 : (org.toList == o.toList) = true := by rw [text_eq]; exact d2
      rw [d2] at B
      clear d2
      go_enter Try.func39, Try.ntmps39
      go_wp2_with fail
      go_ret
      exact ⟨ret_bool (by rw [← B.out]; rfl), (by repeat (first | (with_reducible exact Below.refl _ _) | (with_reducible refine Below.setCell ?_ (by first | (simp; done) | (simp; omega) | omega) _) | (with_reducible refine Below.alloc ?_ (by first | (simp; done) | (simp; omega) | omega) _) | (with_reducible refine Below.drew ?_) | (with_reducible refine below_drewN ?_ _)))⟩

theorem own_any (f : Flow) (p p' : Nat) (r o : ByteArray) (w : World) (hp : p < w.heap.size) (hp' : p' < w.heap.size) (h1 : w.cell? ⟨p, 0, none⟩ = some (.string r)) (h2 : w.cell? ⟨p', 0, none⟩ = some (.string o)) :
    Calls Try.prog 39 #[.agg (fv f), .pointer (some ⟨p, 0, none⟩), .pointer (some ⟨p', 0, none⟩)] w fun e w' => e = .returned (.bool (isOwn r o f)) ∧ Below w.heap.size w w' :=
  own_core f.res f.org f.thr f.cnt f.strat f.ref f.shape f.warm f.queue f.clus f.id_ f.fall p p' r o _ (hid rfl) w hp hp' h1 h2

def IdxPost (n : Nat) (L : Nat → Flow) (r o : ByteArray) (w : World) (e : Ending) (w' : World) : Prop :=
  Below w.heap.size w w' ∧ ((∃ k : Nat, k < n ∧ e = .returned (.int .i64 k) ∧ isOwn r o (L k) = true) ∨ (e = .returned (.int .i64 (-1)) ∧ ∀ i, i < n → isOwn r o (L i) = false))

set_option maxRecDepth 20000 in
set_option maxHeartbeats 2000000 in
theorem index_core (g q n cap p p' : Nat) (L : Nat → Flow) (r o : ByteArray) (w : World) (hn : n ≤ 9223372036854775807) (hg : g < w.heap.size) (hp : p < w.heap.size) (hp' : p' < w.heap.size) (H1 : Hid (w.cell? ⟨p, 0, none⟩ = some (.string r))) (H2 : Hid (w.cell? ⟨p', 0, none⟩ = some (.string o)))
    (HC : Hid (∀ i, i < n → ∀ (j : Nat) v, (fv (L i))[j]? = some v → w.cell? ⟨g, q + i * 12 + j, none⟩ = some v)) :
    Calls Try.prog 40 #[.slice (some ⟨g, q, none⟩) n cap, .func (Fn.func 39) #[] #[.pointer (some ⟨p, 0, none⟩), .pointer (some ⟨p', 0, none⟩)]] w (IdxPost n L r o w) := by
  go_enter Try.func40, Try.ntmps40
  go_wp2_with fail
  go_loopw [8] (fun i wr => ∃ k : Nat, k ≤ n ∧ i = .int .i64 k ∧ (∀ i, i < k → isOwn r o (L i) = false) ∧ Below w.heap.size w wr) (fun i _ => n - (intOf i).toNat)
  case atStart => exact ⟨0, Nat.zero_le _, rfl, (fun i hi => by omega), Below.refl _ _⟩
  case round =>
    obtain ⟨k, hk, rfl, hno, hb⟩ := hrel
    have HNo := hid hno
    have HB := hid hb
    by_cases hlt : k < n
    · have hc := HC.out k hlt
      have HA := hid (own_any (L k) p p' r o wr (Nat.lt_of_lt_of_le hp hb.size) (Nat.lt_of_lt_of_le hp' hb.size) ((hb.cell (p := ⟨p, 0, none⟩) hp).trans H1.out) ((hb.cell (p := ⟨p', 0, none⟩) hp').trans H2.out))
      have HX := hid (hno : ∀ i, i < k → isOwn r o (L i) = false)
      have c0 : wr.cell? ⟨g, q + k * 12, none⟩ = some (.string (L k).res) := (hb.cell (p := ⟨g, q + k * 12, none⟩) hg).trans (hc 0 _ rfl)
      have c1 : wr.cell? ⟨g, q + k * 12 + 1, none⟩ = some (.string (L k).org) := (hb.cell (p := ⟨g, q + k * 12 + 1, none⟩) hg).trans (hc 1 _ rfl)
      have c2 : wr.cell? ⟨g, q + k * 12 + 2, none⟩ = some (.bool (L k).thr) := (hb.cell (p := ⟨g, q + k * 12 + 2, none⟩) hg).trans (hc 2 _ rfl)
      have c3 : wr.cell? ⟨g, q + k * 12 + 3, none⟩ = some (.int .i64 (L k).cnt) := (hb.cell (p := ⟨g, q + k * 12 + 3, none⟩) hg).trans (hc 3 _ rfl)
      have c4 : wr.cell? ⟨g, q + k * 12 + 4, none⟩ = some (.int .u8 (L k).strat) := (hb.cell (p := ⟨g, q + k * 12 + 4, none⟩) hg).trans (hc 4 _ rfl)
      have c5 : wr.cell? ⟨g, q + k * 12 + 5, none⟩ = some (.string (L k).ref) := (hb.cell (p := ⟨g, q + k * 12 + 5, none⟩) hg).trans (hc 5 _ rfl)
      have c6 : wr.cell? ⟨g, q + k * 12 + 6, none⟩ = some (.int .u8 (L k).shape) := (hb.cell (p := ⟨g, q + k * 12 + 6, none⟩) hg).trans (hc 6 _ rfl)
      have c7 : wr.cell? ⟨g, q + k * 12 + 7, none⟩ = some (.int .i64 (L k).warm) := (hb.cell (p := ⟨g, q + k * 12 + 7, none⟩) hg).trans (hc 7 _ rfl)
      have c8 : wr.cell? ⟨g, q + k * 12 + 8, none⟩ = some (.int .i64 (L k).queue) := (hb.cell (p := ⟨g, q + k * 12 + 8, none⟩) hg).trans (hc 8 _ rfl)
      have c9 : wr.cell? ⟨g, q + k * 12 + 9, none⟩ = some (.bool (L k).clus) := (hb.cell (p := ⟨g, q + k * 12 + 9, none⟩) hg).trans (hc 9 _ rfl)
      have c10 : wr.cell? ⟨g, q + k * 12 + 10, none⟩ = some (.int .i64 (L k).id_) := (hb.cell (p := ⟨g, q + k * 12 + 10, none⟩) hg).trans (hc 10 _ rfl)
      have c11 : wr.cell? ⟨g, q + k * 12 + 11, none⟩ = some (.bool (L k).fall) := (hb.cell (p := ⟨g, q + k * 12 + 11, none⟩) hg).trans (hc 11 _ rfl)
      unfold fv at HA
      obtain ⟨b, hb2⟩ : ∃ b, isOwn r o (L k) = b := ⟨_, rfl⟩
      rw [hb2] at HA
      have HBb := hid hb2
      clear hb2 hc hb hno
      go_wp2_with fail
      refine HA.out.mono ?_
      rintro e w2 ⟨rfl, hb2⟩
      have HB2 := hid (HB.out.trans (hb2.mono HB.out.size))
      clear hb2 HA c0 c1 c2 c3 c4 c5 c6 c7 c8 c9 c10 c11
      cases b with
      | true =>
        go_wp2_with fail
        go_ret
        exact ⟨HB2.out, .inl ⟨k, hlt, rfl, HBb.out⟩⟩
      | false =>
        go_wp2_with fail
        go_roundw
        case rel => exact ⟨k + 1, by omega, by go_num, (fun i hi => (by
          rcases Nat.lt_or_ge i k with e | e
          · exact HNo.out i e
          · obtain rfl : i = k := by omega
            exact HBb.out)), HB2.out⟩
        case measure => simp [intOf]; omega
    · obtain rfl : k = n := by omega
      clear hno hb
      go_wp2_with fail
      go_ret
      exact ⟨HB.out, .inr ⟨rfl, HNo.out⟩⟩

set_option maxHeartbeats 400000 in
theorem index_none (a : Option Addr) (cap : Nat) (f : Value) (L : Nat → Flow) (r o : ByteArray) (w : World) :
    Calls Try.prog 40 #[.slice a 0 cap, f] w (IdxPost 0 L r o w) := by
  go_enter Try.func40, Try.ntmps40
  go_wp2_with fail
  go_loop [8] (fun i => i = .int .i64 0) (fun i => 0)
  case atStart => rfl
  case round =>
    obtain rfl := hrel
    go_wp2_with fail
    go_ret
    exact ⟨Below.refl _ _, .inr ⟨rfl, fun i hi => by omega⟩⟩

set_option maxHeartbeats 1000000 in
theorem contains_core (v f : Value) (n : Nat) (L : Nat → Flow) (r o : ByteArray) (w : World) (HI : Hid (Calls Try.prog 40 #[v, f] w (IdxPost n L r o w))) :
    Calls Try.prog 38 #[v, f] w fun e w' => e = .returned (.bool (hasB n L r o)) ∧ Below w.heap.size w w' := by
  obtain ⟨b, hb0⟩ : ∃ b, hasB n L r o = b := ⟨_, rfl⟩
  rw [hb0]
  have HB0 := hid hb0
  clear hb0
  go_enter Try.func38, Try.ntmps38
  go_wp2_with fail
  refine HI.out.mono ?_
  rintro e w2 ⟨hb, ⟨k, hk, rfl, hy⟩ | ⟨rfl, hno⟩⟩
  · have E := hid (HB0.out.symm.trans (hasB_iff.2 ⟨k, hk, hy⟩))
    have HB := hid hb
    clear hb hy
    go_wp2_with fail
    go_ret
    exact ⟨ret_bool E.out.symm, HB.out⟩
  · have E := hid (HB0.out.symm.trans (hasB_not.2 hno))
    have HB := hid hb
    clear hb hno
    go_wp2_with fail
    go_ret
    exact ⟨ret_bool E.out.symm, HB.out⟩

theorem contains_any (a : Option Addr) (n cap p p' : Nat) (L : Nat → Flow) (r o : ByteArray) (w : World) (hn : n ≤ 9223372036854775807) (hf : Flows w a n L) (hp : p < w.heap.size) (hp' : p' < w.heap.size) (h1 : w.cell? ⟨p, 0, none⟩ = some (.string r)) (h2 : w.cell? ⟨p', 0, none⟩ = some (.string o)) :
    Calls Try.prog 38 #[.slice a n cap, .func (Fn.func 39) #[] #[.pointer (some ⟨p, 0, none⟩), .pointer (some ⟨p', 0, none⟩)]] w fun e w' => e = .returned (.bool (hasB n L r o)) ∧ Below w.heap.size w w' := by
  refine contains_core _ _ n L r o w (hid ?_)
  rcases Nat.eq_zero_or_pos n with rfl | h0
  · exact index_none a cap _ L r o w
  · obtain ⟨g, q, rfl, hg, hc⟩ := hf.at_ h0
    exact index_core g q n cap p p' L r o w hn hg hp hp' (hid h1) (hid h2) (hid hc)

set_option maxRecDepth 20000 in
set_option maxHeartbeats 2000000 in
theorem hasOwn_any (a : Option Addr) (n cap : Nat) (L : Nat → Flow) (r o : ByteArray) (w : World) (hn : n ≤ 9223372036854775807) (HF : Hid (Flows w a n L)) :
    Calls Try.prog 37 #[.slice a n cap, .string r, .string o] w fun e w' => e = .returned (.bool (hasO n L r o)) ∧ Below w.heap.size w w' := by
  obtain ⟨b, hb0⟩ : ∃ b, hasO n L r o = b := ⟨_, rfl⟩
  rw [hb0]
  have HB0 := hid hb0
  unfold hasO at hb0
  cases d1 : decide (o = dft) with
  | true =>
    have e1 : (o.toList == [100, 101, 102, 97, 117, 108, 116]) = true := by rw [eq_dft]; exact d1
    rw [d1] at hb0
    have E := hid hb0
    clear hb0 HB0 d1
    go_enter Try.func37, Try.ntmps37
    go_wp2_with fail
    go_ret
    exact ⟨ret_bool E.out, (by repeat (first | (with_reducible exact Below.refl _ _) | (with_reducible refine Below.setCell ?_ (by first | (simp; done) | (simp; omega) | omega) _) | (with_reducible refine Below.alloc ?_ (by first | (simp; done) | (simp; omega) | omega) _) | (with_reducible refine Below.drew ?_) | (with_reducible refine below_drewN ?_ _)))⟩
  | false =>
    have e1 : (o.toList == [100, 101, 102, 97, 117, 108, 116]) = false := by rw [eq_dft]; exact d1
    rw [d1] at hb0
    cases d2 : decide (o = oth) with
    | true =>
      have e2 : (o.toList == [111, 116, 104, 101, 114]) = true := by rw [eq_oth]; exact d2
      rw [d2] at hb0
      have E := hid hb0
      clear hb0 HB0 d1 d2
      go_enter Try.func37, Try.ntmps37
      go_wp2_with fail
      go_ret
      exact ⟨ret_bool E.out, (by repeat (first | (with_reducible exact Below.refl _ _) | (with_reducible refine Below.setCell ?_ (by first | (simp; done) | (simp; omega) | omega) _) | (with_reducible refine Below.alloc ?_ (by first | (simp; done) | (simp; omega) | omega) _) | (with_reducible refine Below.drew ?_) | (with_reducible refine below_drewN ?_ _)))⟩
    | false =>
      have e2 : (o.toList == [111, 116, 104, 101, 114]) = false := by rw [eq_oth]; exact d2
      rw [d2] at hb0
      have E := hid hb0
      clear hb0 HB0 d1 d2
      have HCo := hid (contains_any a n cap w.heap.size (w.heap.size + 1) L r o ((w.alloc (.cells #[.string r] 9)).alloc (.cells #[.string o] 9)) hn (HF.out.below (((Below.refl _ w).alloc (Nat.le_refl _) _).alloc (by simp) _)) (by simp; omega) (by simp)
        ((((Below.refl _ (w.alloc (.cells #[.string r] 9))).alloc (Nat.le_refl _) (.cells #[.string o] 9)).cell (p := ⟨w.heap.size, 0, none⟩) (by simp)).trans (cell_of (heap_alloc_new w _) 0 _ rfl))
        (by have h := heap_alloc_new (w.alloc (.cells #[.string r] 9)) (.cells #[.string o] 9); rw [World.size_alloc] at h; exact cell_of h 0 _ rfl))
      go_enter Try.func37, Try.ntmps37
      go_wp2_with fail
      refine HCo.out.mono ?_
      rintro e w2 ⟨rfl, hb2⟩
      have HB2 : Hid (Below w.heap.size w w2) := hid ((((Below.refl _ w).alloc (Nat.le_refl _) _).alloc (by simp) _).trans (hb2.mono (by simp; omega)))
      clear hb2 HCo
      go_wp2_with fail
      go_ret
      exact ⟨ret_bool E.out, HB2.out⟩

theorem conc_out {n : Nat} {L : Nat → Flow} {i : Int} {o : ByteArray} (h : ¬ (0 ≤ i ∧ i < n)) : conc n L i o = false := by
  unfold conc; rw [decide_eq_false h]; rfl
theorem conc_in {n : Nat} {L : Nat → Flow} {k : Nat} {o : ByteArray} (h : k < n) : conc n L k o = (decide ((L k).org = dft) || decide ((L k).org = o) || (decide ((L k).org = oth) && !(hasO n L (L k).res o))) := by
  unfold conc
  rw [decide_eq_true (show 0 ≤ (k : Int) ∧ (k : Int) < n by omega), Bool.true_and]
  rfl

set_option maxRecDepth 20000 in
set_option maxHeartbeats 2000000 in
theorem Concerns_out (a : Option Addr) (n cap : Nat) (i : Int) (o : ByteArray) (w : World) (h : ¬ (0 ≤ i ∧ i < n)) :
    Calls Try.prog 33 #[.slice a n cap, .int .i64 i, .string o] w fun e w' => e = .returned (.bool false) ∧ w = w' := by
  by_cases h0 : i < 0
  · clear h
    go_enter Try.func33, Try.ntmps33
    go_wp2_with fail
    go_ret
    exact ⟨rfl, rfl⟩
  · have h1 : decide (i < 0) = false := by simpa using h0
    have h2 : (n : Int) ≤ i := by omega
    clear h h0
    go_enter Try.func33, Try.ntmps33
    go_wp2_with fail
    go_ret
    exact ⟨rfl, rfl⟩

set_option maxRecDepth 20000 in
set_option maxHeartbeats 2000000 in
theorem Concerns_in (g q n cap k : Nat) (r t o : ByteArray) (b c : Bool) (B : Hid ((decide (t = dft) || decide (t = o) || (decide (t = oth) && !c)) = b)) (w : World) (hk : k < n) (hn : n ≤ 9223372036854775807)
    (HH : Hid (Calls Try.prog 37 #[.slice (some ⟨g, q, none⟩) n cap, .string r, .string o] w fun e w' => e = .returned (.bool c) ∧ Below w.heap.size w w')) (k0 : w.cell? ⟨g, q + k * 12, none⟩ = some (.string r)) (k1 : w.cell? ⟨g, q + k * 12 + 1, none⟩ = some (.string t)) :
    Calls Try.prog 33 #[.slice (some ⟨g, q, none⟩) n cap, .int .i64 k, .string o] w fun e w' => e = .returned (.bool b) ∧ Below w.heap.size w w' := by
  have hki : (k : Int) < n := by omega
  have hk0 : decide ((k : Int) < 0) = false := by simp
  cases d1 : decide (t = dft) with
  | true =>
    have e1 : (t.toList == [100, 101, 102, 97, 117, 108, 116]) = true := by rw [eq_dft]; exact d1
    rw [d1] at B
    clear d1
    go_enter Try.func33, Try.ntmps33
    go_wp2_with fail
    go_ret
    exact ⟨ret_bool (by rw [← B.out]; rfl), Below.refl _ _⟩
  | false =>
    have e1 : (t.toList == [100, 101, 102, 97, 117, 108, 116]) = false := by rw [eq_dft]; exact d1
    rw [d1] at B
    clear d1
    cases d2 : decide (t = o) with
    | true =>
      have e2 : (t.toList == o.toList) = true := by rw [text_eq]; exact d2
      rw [d2] at B
      clear d2
      go_enter Try.func33, Try.ntmps33
      go_wp2_with fail
      go_ret
      exact ⟨ret_bool (by rw [← B.out]; rfl), Below.refl _ _⟩
    | false =>
      have e2 : (t.toList == o.toList) = false := by rw [text_eq]; exact d2
      rw [d2] at B
      clear d2
      cases d3 : decide (t = oth) with
      | true =>
        have e3 : (t.toList == [111, 116, 104, 101, 114]) = true := by rw [eq_oth]; exact d3
        rw [d3] at B
        clear d3
        go_enter Try.func33, Try.ntmps33
        go_wp2_with fail
        refine HH.out.mono ?_
        rintro e w2 ⟨rfl, hb2⟩
        have HB2 := hid hb2
        clear hb2
        go_wp2_with fail
        go_ret
        exact ⟨ret_bool (by rw [← B.out]; cases c <;> rfl), HB2.out⟩
      | false =>
        have e3 : (t.toList == [111, 116, 104, 101, 114]) = false := by rw [eq_oth]; exact d3
        rw [d3] at B
        clear d3
        go_enter Try.func33, Try.ntmps33
        go_wp2_with fail
        go_ret
        exact ⟨ret_bool (by rw [← B.out]; rfl), Below.refl _ _⟩

theorem Concerns_any (a : Option Addr) (n cap : Nat) (L : Nat → Flow) (i : Int) (o : ByteArray) (w : World) (hn : n ≤ 9223372036854775807) (hf : Flows w a n L) :
    Calls Try.prog 33 #[.slice a n cap, .int .i64 i, .string o] w fun e w' => e = .returned (.bool (conc n L i o)) ∧ Below w.heap.size w w' := by
  by_cases h : 0 ≤ i ∧ i < n
  · obtain ⟨k, rfl⟩ : ∃ k : Nat, i = k := ⟨i.toNat, by omega⟩
    have hk : k < n := by omega
    obtain ⟨g, q, rfl, hg, hc⟩ := hf.at_ (by omega)
    exact Concerns_in g q n cap k (L k).res (L k).org o _ _ (hid (conc_in hk).symm) w hk hn (hid (hasOwn_any _ n cap L _ o w hn (hid hf))) (hc k hk 0 _ rfl) (hc k hk 1 _ rfl)
  · refine (Concerns_out a n cap i o w h).mono ?_
    rintro e w1 ⟨rfl, rfl⟩
    exact ⟨ret_bool (conc_out h).symm, Below.refl _ _⟩

end Go.Proofs.Ytakmfcnmcjbbgaa.RejB
