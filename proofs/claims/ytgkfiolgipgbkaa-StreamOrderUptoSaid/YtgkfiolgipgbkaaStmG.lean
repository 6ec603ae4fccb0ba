/- A network in memory; which ports and connections there are. -/
import Derived.Test.YtgkfiolgipgbkaaStmF
import Derived.Test.YtgkfiolgipgbkaaMap
import Derived.Test.YtgkfiolgipgbkaaVaiA
namespace Go.Proofs.Ytgkfiolgipgbkaa.StmG
open Go.ChangeShapes Go.WideShapes Go.ChangeAt Go.RowKit Base Wri Map FrmP FrmA StmA StmB StmC StmD StmE StmF VaiA
open Go.Maps (Keyed int_keyed keyOf_int_mk)
set_option linter.unusedVariables false
set_option linter.unusedSimpArgs false

theorem keyedI : Keyed Try.prog 3 := int_keyed Try.underlying3
theorem wf_i {i : Int} (h0 : -9223372036854775808 ≤ i) (h1 : i ≤ 9223372036854775807) : (Lit.int .i64 i).wf = true := by
  simp [Lit.wf, IntKind.min, IntKind.max, IntKind.bits, IntKind.signed]
  omega
theorem keyI {i : Int} (h0 : -9223372036854775808 ≤ i) (h1 : i ≤ 9223372036854775807) : keyOf Try.prog 3 (.int .i64 i) = some (.int .i64 i) := keyOf_int_mk Try.underlying3 (wf_i h0 h1)
theorem zeroU (w : World) : (zeroValue 94).run Try.prog w = .ok (.agg #[]) w := by kernel_rfl
theorem zeroC (w : World) : (zeroValue 67).run Try.prog w = .ok (.pointer none) w := by kernel_rfl

/-- a network's state: the open ports, to which port each connection was, and those that are not broken -/
structure Nst where
  op : Int → Bool
  di : List Int
  co : Nat → Option Con

/-- the ports' map, and the connections' -/
def PMap (W : World) (b : Nat) (op : Int → Bool) : Prop := ∃ F n, MapOf Try.prog 3 W b F n ∧ ∀ i : Int, F (.int .i64 i) = if op i then some (.agg #[]) else none
def CMap (W : World) (b : Nat) (K : Nat → Nat) (co : Nat → Option Con) (n : Nat) : Prop := ∃ F, MapOf Try.prog 3 W b F n ∧ ∀ i : Int, F (.int .i64 i) = if 0 ≤ i then (co i.toNat).map fun _ => .pointer (some ⟨K i.toNat, 0, none⟩) else none

theorem PMap.of_block {W W' : World} {b : Nat} {op : Int → Bool} (h : PMap W b op) (e : W'.heap[b]? = W.heap[b]?) : PMap W' b op := by
  obtain ⟨F, n, h1, h2⟩ := h
  exact ⟨F, n, h1.of_block e, h2⟩
theorem CMap.of_block {W W' : World} {b n : Nat} {K : Nat → Nat} {co : Nat → Option Con} (h : CMap W b K co n) (e : W'.heap[b]? = W.heap[b]?) : CMap W' b K co n := by
  obtain ⟨F, h1, h2⟩ := h
  exact ⟨F, h1.of_block e, h2⟩
theorem PMap.lt {W : World} {b : Nat} {op : Int → Bool} (h : PMap W b op) : b < W.heap.size := by
  obtain ⟨F, n, h1, h2⟩ := h
  exact h1.lt
theorem CMap.lt {W : World} {b n : Nat} {K : Nat → Nat} {co : Nat → Option Con} (h : CMap W b K co n) : b < W.heap.size := by
  obtain ⟨F, h1, h2⟩ := h
  exact h1.lt

/-- a network in its blocks: each bears a tag -/
structure NetAt (W : World) (B : Nat) (own : Nat → Nat) (p : Nat) (S : Nst) (nc : Nat) (mo mc : Nat) (vd : Value) (K : Nat → Nat) : Prop where
  blk : W.heap[p]? = some (.cells #[.map (some mo), vd, .map (some mc)] 62 (0, 0))
  pm : PMap W mo S.op
  row : W.ownsRow B 3 1 vd S.di.length (S.di.map encI)
  cm : CMap W mc K S.co nc
  con : ∀ j C, S.co j = some C → 1 ≤ j ∧ j ≤ S.di.length ∧ IsCon W B own (5 + 5 * j) (K j) C
  tp : own p = 0
  to_ : own mo = 1
  td : ∀ g, vd.ownBlock = some g → own g = 2
  tm : own mc = 3
  len : S.di.length ≤ 1099511627776
  low : B ≤ p ∧ B ≤ mo ∧ B ≤ mc
def IsNet (W : World) (B : Nat) (own : Nat → Nat) (p : Nat) (S : Nst) (nc : Nat) : Prop := ∃ mo mc vd K, NetAt W B own p S nc mo mc vd K

/-- the tags that a network's blocks do not bear: what else is new, and the law's own -/
theorem NetAt.keep {W W' : World} {B p nc mo mc : Nat} {own own' : Nat → Nat} {S : Nst} {vd : Value} {K : Nat → Nat} (h : NetAt W B own p S nc mo mc vd K) (hk : ∀ g, g < W.heap.size → own g ≠ 4 → own g < 10000000000000 → W'.heap[g]? = W.heap[g]? ∧ own' g = own g) : NetAt W' B own' p S nc mo mc vd K := by
  have hp := (Array.getElem?_eq_some_iff.1 h.blk).1
  obtain ⟨p1, p2⟩ := hk p hp (by rw [h.tp]; decide) (by rw [h.tp]; decide)
  obtain ⟨o1, o2⟩ := hk mo h.pm.lt (by rw [h.to_]; decide) (by rw [h.to_]; decide)
  obtain ⟨m1, m2⟩ := hk mc h.cm.lt (by rw [h.tm]; decide) (by rw [h.tm]; decide)
  have hd : ∀ g, vd.ownBlock = some g → W'.heap[g]? = W.heap[g]? ∧ own' g = own g := fun g e => hk g (h.row.lt g e).2 (by rw [h.td g e]; decide) (by rw [h.td g e]; decide)
  refine ⟨p1.trans h.blk, h.pm.of_block o1, owns_keep h.row (fun g e => (hd g e).1), h.cm.of_block m1, fun j C hj => ?_, by rw [p2, h.tp], by rw [o2, h.to_], fun g e => by rw [(hd g e).2, h.td g e], by rw [m2, h.tm], h.len, h.low⟩
  obtain ⟨j1, j2, j3⟩ := h.con j C hj
  have := h.len
  exact ⟨j1, j2, j3.keep (fun g hg h1 h2 => hk g hg (by omega) (by omega))⟩
theorem NetAt.stp {W W' : World} {B p nc mo mc : Nat} {own own' : Nat → Nat} {S : Nst} {vd : Value} {K : Nat → Nat} {R : Nat → Prop} (h : NetAt W B own p S nc mo mc vd K) (hs : Stp W W' own own' R) (hR : ∀ s, R s → s = 4 ∨ 10000000000000 ≤ s) : NetAt W' B own' p S nc mo mc vd K :=
  h.keep (fun g hg h1 h2 => hs.keep hg (fun e => by have := hR _ e; omega))
theorem NetAt.pos {W : World} {B p nc mo mc : Nat} {own : Nat → Nat} {S : Nst} {vd : Value} {K : Nat → Nat} (h : NetAt W B own p S nc mo mc vd K) : p < W.heap.size := (Array.getElem?_eq_some_iff.1 h.blk).1

/-- is it no port? -/
def noPort (i : Int) : Bool := decide (i < 1) || decide (65535 < i)
set_option maxHeartbeats 400000 in
theorem noPort_any (i : Int) (w : World) : Calls Try.prog 75 #[.int .i64 i] w fun e w' => e = .returned (.bool (noPort i)) ∧ w' = w := by
  unfold noPort
  by_cases h1 : i < 1 <;> by_cases h2 : 65535 < i
  all_goals
    go_enter Try.func75, Try.ntmps75
    go_wp2_with fail
    go_ret
    simp [h1, h2]

/-- was there never such a connection? -/
def never (c : Int) (n : Nat) : Bool := decide (c < 1) || decide ((n : Int) < c)
set_option maxHeartbeats 400000 in
theorem never_any (p n cap : Nat) (a : Option Addr) (c : Int) (w : World) (h : w.cell? ⟨p, 1, none⟩ = some (.slice a n cap)) : Calls Try.prog 64 #[.pointer (some ⟨p, 0, none⟩), .int .i64 c] w fun e w' => e = .returned (.bool (never c n)) ∧ w' = w := by
  unfold never
  by_cases h1 : c < 1 <;> by_cases h2 : (n : Int) < c
  all_goals
    go_enter Try.func64, Try.ntmps64
    go_wp2_with fail
    go_ret
    simp [h1, h2]

/-- is it broken, or was it never there? -/
def broke (co : Nat → Option Con) (c : Int) : Bool := if 0 ≤ c then (co c.toNat).isNone else true
set_option maxHeartbeats 400000 in
theorem broke_any (p mc nc : Nat) (K : Nat → Nat) (co : Nat → Option Con) (c : Int) (w : World) (hc : -9223372036854775808 ≤ c) (hc2 : c ≤ 9223372036854775807) (h : w.cell? ⟨p, 2, none⟩ = some (.map (some mc))) (hm : CMap w mc K co nc) : Calls Try.prog 65 #[.pointer (some ⟨p, 0, none⟩), .int .i64 c] w fun e w' => e = .returned (.bool (broke co c)) ∧ w' = w := by
  obtain ⟨F, hF, hF2⟩ := hm
  have hl := hF.look false keyedI Try.underlying60 (zeroC w) (keyI hc hc2)
  rw [hF2 c] at hl
  unfold broke
  by_cases h0 : 0 ≤ c
  · rw [if_pos h0] at hl ⊢
    cases hco : co c.toNat with
    | none =>
      rw [hco] at hl
      simp only [Option.map_none] at hl
      clear hF hF2 hco
      go_enter Try.func65, Try.ntmps65
      go_wp2_with fail
      go_ret
      exact ⟨rfl, rfl⟩
    | some C =>
      rw [hco] at hl
      simp only [Option.map_some, Bool.false_eq_true, if_false] at hl
      clear hF hF2 hco
      go_enter Try.func65, Try.ntmps65
      go_wp2_with fail
      go_ret
      exact ⟨rfl, rfl⟩
  · rw [if_neg h0] at hl ⊢
    simp only at hl
    clear hF hF2
    go_enter Try.func65, Try.ntmps65
    go_wp2_with fail
    go_ret
    exact ⟨rfl, rfl⟩

set_option maxRecDepth 20000 in
set_option maxHeartbeats 400000 in
theorem isOpen_any (mo : Nat) (op : Int → Bool) (i : Int) (w : World) (hc : -9223372036854775808 ≤ i) (hc2 : i ≤ 9223372036854775807) (hm : PMap w mo op) : Calls Try.prog 49 #[.agg #[.map (some mo)], .int .i64 i] w fun e w' => e = .returned (.bool (op i)) ∧ Below w.heap.size w w' := by
  have hb0 : Below w.heap.size w (w.alloc (.cells #[.map (some mo)] 58)) := (Below.refl _ _).alloc (Nat.le_refl _) _
  obtain ⟨F, n, hF, hF2⟩ := hm.of_block (hb0.block mo hm.lt)
  have hl := hF.look true keyedI Try.underlying56 (zeroU _) (keyI hc hc2)
  rw [hF2 i] at hl
  clear hF hF2 hb0
  cases ho : op i with
  | true =>
    rw [ho] at hl
    simp only [if_true] at hl
    go_enter Try.func49, Try.ntmps49
    go_wp2_with fail
    go_ret
    exact ⟨rfl, (by repeat (first | (with_reducible exact Below.refl _ _) | (with_reducible refine Below.setCell ?_ (by first | (simp; done) | (simp; omega) | omega) _) | (with_reducible refine Below.alloc ?_ (by first | (simp; done) | (simp; omega) | omega) _) | (with_reducible refine Below.drew ?_)))⟩
  | false =>
    rw [ho] at hl
    simp only [if_true, Bool.false_eq_true, if_false] at hl
    go_enter Try.func49, Try.ntmps49
    go_wp2_with fail
    go_ret
    exact ⟨rfl, (by repeat (first | (with_reducible exact Below.refl _ _) | (with_reducible refine Below.setCell ?_ (by first | (simp; done) | (simp; omega) | omega) _) | (with_reducible refine Below.alloc ?_ (by first | (simp; done) | (simp; omega) | omega) _) | (with_reducible refine Below.drew ?_)))⟩

def idxOf (P : Int → Bool) : List Int → Int
  | [] => -1
  | x :: r => if P x then 0 else if idxOf P r < 0 then -1 else idxOf P r + 1
theorem any_take {P : Int → Bool} {ss : List Int} {k : Nat} {x : Int} (hx : ss[k]? = some x) (hP : P x = true) : ss.any P = true := List.any_eq_true.2 ⟨x, List.mem_of_getElem? hx, hP⟩
theorem any_none {P : Int → Bool} {ss : List Int} (h : ∀ (j : Nat) (x : Int), ss[j]? = some x → P x = false) : ss.any P = false := by
  rw [List.any_eq_false]
  intro x hx
  obtain ⟨j, hj⟩ := List.mem_iff_getElem?.1 hx
  rw [h j x hj]
  decide

set_option maxRecDepth 20000 in
set_option maxHeartbeats 400000 in
theorem idx_port  (P : Int → Bool) (a : Option Addr) (cap : Nat) (ss : List Int) (w : World) (hss : ss.length ≤ 9223372036854775807) (HA : Hid (NAt w w.heap.size a ss)) (HC : Hid (∀ x ∈ ss, Calls Try.prog 75 #[.int .i64 x] w fun e w' => e = .returned (.bool (P x)) ∧ w' = w)) :
    Calls Try.prog 76 #[.slice a ss.length cap, .func (Fn.func 75) #[] #[]] w fun e w' => (∃ k : Int, e = .returned (.int .i64 k) ∧ (ss.any P = true → 0 ≤ k) ∧ (ss.any P = false → k = -1)) ∧ w' = w := by
  obtain ⟨n, hn⟩ : ∃ n, ss.length = n := ⟨_, rfl⟩
  have HN := hid hn
  rw [hn] at hss ⊢
  clear hn
  go_enter Try.func76, Try.ntmps76
  go_wp2
  go_loopw [8] (fun i wr => ∃ k : Nat, k ≤ n ∧ i = .int .i64 k ∧ (∀ j x, j < k → ss[j]? = some x → P x = false) ∧ wr = w) (fun i _ => n - (intOf i).toNat)
  case atStart => exact ⟨0, Nat.zero_le _, rfl, fun j x h => by omega, rfl⟩
  case round =>
    obtain ⟨k, hk, rfl, hr, rfl⟩ := hrel
    have HR := hid hr
    clear hr
    by_cases hlt : k < n
    · obtain ⟨g, o, rfl, hg, hc⟩ := HA.out (by rw [HN.out]; omega)
      obtain ⟨x, hx⟩ : ∃ x, ss[k]? = some x := ⟨ss[k]'(by rw [HN.out]; exact hlt), List.getElem?_eq_getElem _⟩
      have x0 : wr.cell? ⟨g, o + k, none⟩ = some (.int .i64 x) := hc k x hx
      have HX := hid hx
      have HCX := hid (HC.out x (List.mem_of_getElem? hx))
      clear hc hx
      cases hP : P x with
      | true =>
        have HT := hid (any_take HX.out hP)
        rw [hP] at HCX
        clear hP
        go_wp2_with fail
        refine HCX.out.mono ?_
        rintro e w1 ⟨rfl, rfl⟩
        go_wp2_with fail
        go_ret
        exact ⟨⟨k, rfl, fun _ => (by omega), fun h => (by rw [HT.out] at h; cases h)⟩, rfl⟩
      | false =>
        have HP := hid hP
        rw [hP] at HCX
        clear hP
        go_wp2_with fail
        refine HCX.out.mono ?_
        rintro e w1 ⟨rfl, rfl⟩
        go_wp2_with fail
        go_roundw
        case rel => exact ⟨k + 1, by omega, by go_num, fun j y h1 h2 => (by
          by_cases e : j = k
          · subst e
            rw [HX.out] at h2
            cases h2
            exact HP.out
          · exact HR.out j y (by omega) h2), by first | trivial | rfl⟩
        case measure => simp [intOf]; omega
    · obtain rfl : k = n := by omega
      have HT : Hid (ss.any P = false) := hid (any_none fun j x h => HR.out j x (by have := (List.getElem?_eq_some_iff.1 h).1; rw [HN.out] at this; exact this) h)
      go_wp2
      go_ret
      exact ⟨⟨-1, rfl, fun h => (by rw [HT.out] at h; cases h), fun _ => rfl⟩, rfl⟩

set_option maxHeartbeats 400000 in
theorem has_port  (P : Int → Bool) (a : Option Addr) (cap : Nat) (ss : List Int) (w : World) (hss : ss.length ≤ 9223372036854775807) (HA : Hid (NAt w w.heap.size a ss)) (HC : Hid (∀ x ∈ ss, Calls Try.prog 75 #[.int .i64 x] w fun e w' => e = .returned (.bool (P x)) ∧ w' = w)) :
    Calls Try.prog 63 #[.slice a ss.length cap, .func (Fn.func 75) #[] #[]] w fun e w' => e = .returned (.bool (ss.any P)) ∧ w' = w := by
  have HI := hid (idx_port  P a cap ss w hss HA HC)
  generalize ss.length = n at *
  cases hA : ss.any P with
  | true =>
    rw [hA] at HI
    go_enter Try.func63, Try.ntmps63
    go_wp2_with fail
    refine HI.out.mono ?_
    rintro e w1 ⟨⟨k, rfl, h1, -⟩, rfl⟩
    have hk : 0 ≤ k := h1 (by first | trivial | rfl)
    clear h1 HI
    go_wp2_with fail
    go_ret
    exact ⟨rfl, rfl⟩
  | false =>
    rw [hA] at HI
    go_enter Try.func63, Try.ntmps63
    go_wp2_with fail
    refine HI.out.mono ?_
    rintro e w1 ⟨⟨k, rfl, -, h1⟩, rfl⟩
    obtain rfl : k = -1 := h1 (by first | trivial | rfl)
    clear h1 HI
    go_wp2_with fail
    go_ret
    exact ⟨rfl, rfl⟩

set_option maxRecDepth 20000 in
set_option maxHeartbeats 400000 in
theorem idx_never (p : Nat) (P : Int → Bool) (a : Option Addr) (cap : Nat) (ss : List Int) (w : World) (hss : ss.length ≤ 9223372036854775807) (HA : Hid (NAt w w.heap.size a ss)) (HC : Hid (∀ x ∈ ss, Calls Try.prog 64 #[.pointer (some ⟨p, 0, none⟩), .int .i64 x] w fun e w' => e = .returned (.bool (P x)) ∧ w' = w)) :
    Calls Try.prog 76 #[.slice a ss.length cap, .func (Fn.func 64) #[.pointer (some ⟨p, 0, none⟩)] #[]] w fun e w' => (∃ k : Int, e = .returned (.int .i64 k) ∧ (ss.any P = true → 0 ≤ k) ∧ (ss.any P = false → k = -1)) ∧ w' = w := by
  obtain ⟨n, hn⟩ : ∃ n, ss.length = n := ⟨_, rfl⟩
  have HN := hid hn
  rw [hn] at hss ⊢
  clear hn
  go_enter Try.func76, Try.ntmps76
  go_wp2
  go_loopw [8] (fun i wr => ∃ k : Nat, k ≤ n ∧ i = .int .i64 k ∧ (∀ j x, j < k → ss[j]? = some x → P x = false) ∧ wr = w) (fun i _ => n - (intOf i).toNat)
  case atStart => exact ⟨0, Nat.zero_le _, rfl, fun j x h => by omega, rfl⟩
  case round =>
    obtain ⟨k, hk, rfl, hr, rfl⟩ := hrel
    have HR := hid hr
    clear hr
    by_cases hlt : k < n
    · obtain ⟨g, o, rfl, hg, hc⟩ := HA.out (by rw [HN.out]; omega)
      obtain ⟨x, hx⟩ : ∃ x, ss[k]? = some x := ⟨ss[k]'(by rw [HN.out]; exact hlt), List.getElem?_eq_getElem _⟩
      have x0 : wr.cell? ⟨g, o + k, none⟩ = some (.int .i64 x) := hc k x hx
      have HX := hid hx
      have HCX := hid (HC.out x (List.mem_of_getElem? hx))
      clear hc hx
      cases hP : P x with
      | true =>
        have HT := hid (any_take HX.out hP)
        rw [hP] at HCX
        clear hP
        go_wp2_with fail
        refine HCX.out.mono ?_
        rintro e w1 ⟨rfl, rfl⟩
        go_wp2_with fail
        go_ret
        exact ⟨⟨k, rfl, fun _ => (by omega), fun h => (by rw [HT.out] at h; cases h)⟩, rfl⟩
      | false =>
        have HP := hid hP
        rw [hP] at HCX
        clear hP
        go_wp2_with fail
        refine HCX.out.mono ?_
        rintro e w1 ⟨rfl, rfl⟩
        go_wp2_with fail
        go_roundw
        case rel => exact ⟨k + 1, by omega, by go_num, fun j y h1 h2 => (by
          by_cases e : j = k
          · subst e
            rw [HX.out] at h2
            cases h2
            exact HP.out
          · exact HR.out j y (by omega) h2), by first | trivial | rfl⟩
        case measure => simp [intOf]; omega
    · obtain rfl : k = n := by omega
      have HT : Hid (ss.any P = false) := hid (any_none fun j x h => HR.out j x (by have := (List.getElem?_eq_some_iff.1 h).1; rw [HN.out] at this; exact this) h)
      go_wp2
      go_ret
      exact ⟨⟨-1, rfl, fun h => (by rw [HT.out] at h; cases h), fun _ => rfl⟩, rfl⟩

set_option maxHeartbeats 400000 in
theorem has_never (p : Nat) (P : Int → Bool) (a : Option Addr) (cap : Nat) (ss : List Int) (w : World) (hss : ss.length ≤ 9223372036854775807) (HA : Hid (NAt w w.heap.size a ss)) (HC : Hid (∀ x ∈ ss, Calls Try.prog 64 #[.pointer (some ⟨p, 0, none⟩), .int .i64 x] w fun e w' => e = .returned (.bool (P x)) ∧ w' = w)) :
    Calls Try.prog 63 #[.slice a ss.length cap, .func (Fn.func 64) #[.pointer (some ⟨p, 0, none⟩)] #[]] w fun e w' => e = .returned (.bool (ss.any P)) ∧ w' = w := by
  have HI := hid (idx_never p P a cap ss w hss HA HC)
  generalize ss.length = n at *
  cases hA : ss.any P with
  | true =>
    rw [hA] at HI
    go_enter Try.func63, Try.ntmps63
    go_wp2_with fail
    refine HI.out.mono ?_
    rintro e w1 ⟨⟨k, rfl, h1, -⟩, rfl⟩
    have hk : 0 ≤ k := h1 (by first | trivial | rfl)
    clear h1 HI
    go_wp2_with fail
    go_ret
    exact ⟨rfl, rfl⟩
  | false =>
    rw [hA] at HI
    go_enter Try.func63, Try.ntmps63
    go_wp2_with fail
    refine HI.out.mono ?_
    rintro e w1 ⟨⟨k, rfl, -, h1⟩, rfl⟩
    obtain rfl : k = -1 := h1 (by first | trivial | rfl)
    clear h1 HI
    go_wp2_with fail
    go_ret
    exact ⟨rfl, rfl⟩

set_option maxRecDepth 20000 in
set_option maxHeartbeats 400000 in
theorem idx_broke (p : Nat) (P : Int → Bool) (a : Option Addr) (cap : Nat) (ss : List Int) (w : World) (hss : ss.length ≤ 9223372036854775807) (HA : Hid (NAt w w.heap.size a ss)) (HC : Hid (∀ x ∈ ss, Calls Try.prog 65 #[.pointer (some ⟨p, 0, none⟩), .int .i64 x] w fun e w' => e = .returned (.bool (P x)) ∧ w' = w)) :
    Calls Try.prog 76 #[.slice a ss.length cap, .func (Fn.func 65) #[.pointer (some ⟨p, 0, none⟩)] #[]] w fun e w' => (∃ k : Int, e = .returned (.int .i64 k) ∧ (ss.any P = true → 0 ≤ k) ∧ (ss.any P = false → k = -1)) ∧ w' = w := by
  obtain ⟨n, hn⟩ : ∃ n, ss.length = n := ⟨_, rfl⟩
  have HN := hid hn
  rw [hn] at hss ⊢
  clear hn
  go_enter Try.func76, Try.ntmps76
  go_wp2
  go_loopw [8] (fun i wr => ∃ k : Nat, k ≤ n ∧ i = .int .i64 k ∧ (∀ j x, j < k → ss[j]? = some x → P x = false) ∧ wr = w) (fun i _ => n - (intOf i).toNat)
  case atStart => exact ⟨0, Nat.zero_le _, rfl, fun j x h => by omega, rfl⟩
  case round =>
    obtain ⟨k, hk, rfl, hr, rfl⟩ := hrel
    have HR := hid hr
    clear hr
    by_cases hlt : k < n
    · obtain ⟨g, o, rfl, hg, hc⟩ := HA.out (by rw [HN.out]; omega)
      obtain ⟨x, hx⟩ : ∃ x, ss[k]? = some x := ⟨ss[k]'(by rw [HN.out]; exact hlt), List.getElem?_eq_getElem _⟩
      have x0 : wr.cell? ⟨g, o + k, none⟩ = some (.int .i64 x) := hc k x hx
      have HX := hid hx
      have HCX := hid (HC.out x (List.mem_of_getElem? hx))
      clear hc hx
      cases hP : P x with
      | true =>
        have HT := hid (any_take HX.out hP)
        rw [hP] at HCX
        clear hP
        go_wp2_with fail
        refine HCX.out.mono ?_
        rintro e w1 ⟨rfl, rfl⟩
        go_wp2_with fail
        go_ret
        exact ⟨⟨k, rfl, fun _ => (by omega), fun h => (by rw [HT.out] at h; cases h)⟩, rfl⟩
      | false =>
        have HP := hid hP
        rw [hP] at HCX
        clear hP
        go_wp2_with fail
        refine HCX.out.mono ?_
        rintro e w1 ⟨rfl, rfl⟩
        go_wp2_with fail
        go_roundw
        case rel => exact ⟨k + 1, by omega, by go_num, fun j y h1 h2 => (by
          by_cases e : j = k
          · subst e
            rw [HX.out] at h2
            cases h2
            exact HP.out
          · exact HR.out j y (by omega) h2), by first | trivial | rfl⟩
        case measure => simp [intOf]; omega
    · obtain rfl : k = n := by omega
      have HT : Hid (ss.any P = false) := hid (any_none fun j x h => HR.out j x (by have := (List.getElem?_eq_some_iff.1 h).1; rw [HN.out] at this; exact this) h)
      go_wp2
      go_ret
      exact ⟨⟨-1, rfl, fun h => (by rw [HT.out] at h; cases h), fun _ => rfl⟩, rfl⟩

set_option maxHeartbeats 400000 in
theorem has_broke (p : Nat) (P : Int → Bool) (a : Option Addr) (cap : Nat) (ss : List Int) (w : World) (hss : ss.length ≤ 9223372036854775807) (HA : Hid (NAt w w.heap.size a ss)) (HC : Hid (∀ x ∈ ss, Calls Try.prog 65 #[.pointer (some ⟨p, 0, none⟩), .int .i64 x] w fun e w' => e = .returned (.bool (P x)) ∧ w' = w)) :
    Calls Try.prog 63 #[.slice a ss.length cap, .func (Fn.func 65) #[.pointer (some ⟨p, 0, none⟩)] #[]] w fun e w' => e = .returned (.bool (ss.any P)) ∧ w' = w := by
  have HI := hid (idx_broke p P a cap ss w hss HA HC)
  generalize ss.length = n at *
  cases hA : ss.any P with
  | true =>
    rw [hA] at HI
    go_enter Try.func63, Try.ntmps63
    go_wp2_with fail
    refine HI.out.mono ?_
    rintro e w1 ⟨⟨k, rfl, h1, -⟩, rfl⟩
    have hk : 0 ≤ k := h1 (by first | trivial | rfl)
    clear h1 HI
    go_wp2_with fail
    go_ret
    exact ⟨rfl, rfl⟩
  | false =>
    rw [hA] at HI
    go_enter Try.func63, Try.ntmps63
    go_wp2_with fail
    refine HI.out.mono ?_
    rintro e w1 ⟨⟨k, rfl, -, h1⟩, rfl⟩
    obtain rfl : k = -1 := h1 (by first | trivial | rfl)
    clear h1 HI
    go_wp2_with fail
    go_ret
    exact ⟨rfl, rfl⟩

end Go.Proofs.Ytgkfiolgipgbkaa.StmG
