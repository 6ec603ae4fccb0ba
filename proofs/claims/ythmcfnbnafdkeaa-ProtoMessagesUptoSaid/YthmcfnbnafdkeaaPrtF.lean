/- Bytes gone through: the reader. -/
import Derived.Test.YthmcfnbnafdkeaaPrtE
import Derived.BigQuiet
namespace Go.Proofs.Ythmcfnbnafdkeaa.PrtF
open Go.ChangeShapes Go.WideShapes Go.ChangeAt Go.RowKit Base Wri FrmP FrmA FrmD FrmE FrmF FrmR FrmX FrmL FrmC2 FrmK FrmK2 RulA PrtA PrtB PrtC PrtR PrtN PrtD PrtE
set_option linter.unusedVariables false
set_option linter.unusedSimpArgs false

/-- where a reader stands: how far it is, and whether bytes lacked -/
structure Rs where
  place : Nat
  short : Bool

def lacks (b : Bs) (st : Rs) (n : Nat) : Bool := st.short || decide (b.length < st.place + n)
/-- the next bytes, and where it stands then -/
def nx (b : Bs) (st : Rs) (n : Nat) : Bs := if lacks b st n then [] else (b.drop st.place).take n
def st' (b : Bs) (st : Rs) (n : Nat) : Rs := if lacks b st n then ⟨st.place, true⟩ else ⟨st.place + n, false⟩

theorem nx_len (b : Bs) (st : Rs) (n : Nat) : (nx b st n).length = if lacks b st n then 0 else n := by
  unfold nx
  split
  · rfl
  · rename_i h
    unfold lacks at h
    simp only [Bool.or_eq_true, decide_eq_true_eq, not_or] at h
    simp
    omega

/-- a reader in block p of the bytes b, which lie elsewhere -/
structure IsRr (W : World) (p : Nat) (a : Option Addr) (c : Nat) (b : Bs) (st : Rs) : Prop where
  cells : W.cell? ⟨p, 0, none⟩ = some (.slice a b.length c) ∧ W.cell? ⟨p, 1, none⟩ = some (.int .i64 (st.place : Nat)) ∧ W.cell? ⟨p, 2, none⟩ = some (.bool st.short)
  free : ∀ j, W.frozen? ⟨p, j, none⟩ = false
  lt : p < W.heap.size
  bytes : ∀ n0, (∀ ad, a = some ad → ad.block < n0) → BAt W n0 a b
  room : b.length ≤ c ∧ c ≤ 9223372036854775807 ∧ st.place ≤ b.length
  off : ∀ ad, a = some ad → ad.block ≠ p ∧ ad.block < W.heap.size

variable {W W' w : World} {p c : Nat} {a : Option Addr} {b : Bs} {st : Rs}

theorem IsRr.bat (h : IsRr W p a c b st) : BAt W W.heap.size a b := h.bytes _ (fun ad e => (h.off ad e).2)

theorem IsRr.keep (h : IsRr W p a c b st) (hs : W.heap.size ≤ W'.heap.size) (hp : W'.heap[p]? = W.heap[p]?) (hk : ∀ ad, a = some ad → W'.heap[ad.block]? = W.heap[ad.block]?) : IsRr W' p a c b st :=
  ⟨⟨(World.cell?_of_block (a := ⟨p, 0, none⟩) hp).trans h.cells.1, (World.cell?_of_block (a := ⟨p, 1, none⟩) hp).trans h.cells.2.1, (World.cell?_of_block (a := ⟨p, 2, none⟩) hp).trans h.cells.2.2⟩, fun j => (World.frozen?_of_block (a := ⟨p, j, none⟩) hp).trans (h.free j), Nat.lt_of_lt_of_le h.lt hs, fun n0 hn h0 => by
    obtain ⟨g, q, e, hg, hc⟩ := h.bytes n0 hn h0
    exact ⟨g, q, e, hg, fun i x hx => (World.cell?_of_block (a := ⟨g, q + i, none⟩) (show W'.heap[g]? = W.heap[g]? from hk ⟨g, q, none⟩ e)).trans (hc i x hx)⟩, h.room, fun ad e => ⟨(h.off ad e).1, Nat.lt_of_lt_of_le (h.off ad e).2 hs⟩⟩
theorem IsRr.below (h : IsRr W p a c b st) (hb : Below W.heap.size W W') : IsRr W' p a c b st := h.keep hb.size (hb.block p h.lt) (fun ad e => hb.block _ (h.off ad e).2)
theorem IsRr.wr {R : Nat → Prop} (h : IsRr W p a c b st) (hw : Wr R W W') (hp : ¬ R p) (ha : ∀ ad, a = some ad → ¬ R ad.block) : IsRr W' p a c b st := h.keep hw.size (hw.block p h.lt hp) (fun ad e => hw.block _ (h.off ad e).2 (ha ad e))
theorem IsRr.drewN (h : IsRr W p a c b st) (m : Nat) : IsRr (W.drewN m) p a c b st := ⟨h.cells, h.free, h.lt, h.bytes, h.room, h.off⟩

theorem IsRr.set2 (h : IsRr W p a c b st) : IsRr (W.setCell ⟨p, 2, none⟩ (.bool true)) p a c b ⟨st.place, true⟩ :=
  ⟨⟨(World.cell?_setCell_other W _ _ _ (by intro e; cases e)).trans h.cells.1, (World.cell?_setCell_other W _ _ _ (by intro e; cases e)).trans h.cells.2.1, World.cell?_setCell_same _ _ _ h.cells.2.2⟩, fun j => by rw [World.frozen?_setCell]; exact h.free j, by simpa using h.lt, fun n0 hn h0 => by
    obtain ⟨g, q, e, hg, hc⟩ := h.bytes n0 hn h0
    have := (h.off _ e).1
    exact ⟨g, q, e, hg, fun i x hx => (World.cell?_setCell_other W _ _ _ (fun e => this (by have e2 := congrArg Addr.block e; simpa using e2.symm))).trans (hc i x hx)⟩, h.room, fun ad e => ⟨(h.off ad e).1, by simpa using (h.off ad e).2⟩⟩
theorem IsRr.set1 (h : IsRr W p a c b st) (m : Nat) (hm : m ≤ b.length) : IsRr (W.setCell ⟨p, 1, none⟩ (.int .i64 (m : Nat))) p a c b ⟨m, st.short⟩ :=
  ⟨⟨(World.cell?_setCell_other W _ _ _ (by intro e; cases e)).trans h.cells.1, World.cell?_setCell_same _ _ _ h.cells.2.1, (World.cell?_setCell_other W _ _ _ (by intro e; cases e)).trans h.cells.2.2⟩, fun j => by rw [World.frozen?_setCell]; exact h.free j, by simpa using h.lt, fun n0 hn h0 => by
    obtain ⟨g, q, e, hg, hc⟩ := h.bytes n0 hn h0
    have := (h.off _ e).1
    exact ⟨g, q, e, hg, fun i x hx => (World.cell?_setCell_other W _ _ _ (fun e => this (by have e2 := congrArg Addr.block e; simpa using e2.symm))).trans (hc i x hx)⟩, ⟨h.room.1, h.room.2.1, hm⟩, fun ad e => ⟨(h.off ad e).1, by simpa using (h.off ad e).2⟩⟩

theorem bat_cut {n0 : Nat} {s : Bs} (h : BAt W n0 a s) (lo n : Nat) : BAt W n0 (a.map (·.add lo)) ((s.drop lo).take n) := fun h0 => by
  obtain ⟨g, q, rfl, hg, hc⟩ := h (by simp at h0; omega)
  refine ⟨g, q + lo, by rw [Option.map_some, Go.WideShapes.add_plain], hg, fun i x hx => ?_⟩
  rw [List.getElem?_take] at hx
  split at hx
  · rw [List.getElem?_drop] at hx
    rw [Nat.add_assoc]
    exact hc _ x hx
  · cases hx
theorem bat_cut0 {n0 lo : Nat} {s : Bs} (h : BAt W n0 a s) (hl : s.length ≤ lo) (n : Nat) : BAt W n0 a ((s.drop lo).take n) := fun h0 => by
  simp at h0
  omega

/-- some bytes cut out -/
theorem cut_run (ad : Option Addr) (L cp lo hi : Nat) (h1 : lo ≤ hi) (h2 : hi ≤ L) (h3 : L ≤ cp) (wx : World) :
    Sem.run Try.prog (Instr.sliceAt 28 (.slice ad L cp) (some (.int .i64 (lo : Nat))) (some (.int .i64 (hi : Nat))) none) wx = .ok (.slice (if cp = lo then ad else ad.map (·.add (lo * 1))) (hi - lo) (cp - lo)) wx := by
  obtain ⟨j0, hu8, hy0, hu8s, hy2⟩ := info_parts infoU8
  have he : Try.prog.elem 28 = 5 := by kernel_rfl
  rw [run_sliceAt_slice _ _ _ _ _ _ (by rw [he]; exact Try.underlying28), run_slice_lh _ _ _ _ _ (by rw [he]; exact Try.underlying28) _ _ _ _ (by omega) (by omega) (by omega), he]
  simp [sizeOf, typeInfo, hu8, Result.andThen, sliced, hu8s]

set_option maxRecDepth 20000 in
set_option maxHeartbeats 2000000 in
theorem next_any (n : Nat) (h : IsRr w p a c b st) (hn : n ≤ 255) :
    Calls Try.prog 90 #[.pointer (some ⟨p, 0, none⟩), .int .i64 (n : Nat)] w fun e w' => ∃ a' c', e = .returned (.slice a' (nx b st n).length c') ∧ BAt w' w'.heap.size a' (nx b st n) ∧ IsRr w' p a c b (st' b st n) ∧ Wr (fun k => k = p) w w' := by
  obtain ⟨x0, x1, x2⟩ := h.cells
  have f1 := h.free 1
  have f2 := h.free 2
  obtain ⟨hr1, hr2, hr3⟩ := h.room
  have HH := hid h
  have HS2 := hid (fun m => (h.drewN m).set2)
  have HL := hid (nx_len b st n)
  rw [HL.out]
  clear h
  cases hs : st.short with
  | true =>
    rw [hs] at x2
    have HK : Hid (lacks b st n = true) := hid (by unfold lacks; rw [hs]; rfl)
    rw [if_pos HK.out]
    have HN : Hid (nx b st n = [] ∧ st' b st n = ⟨st.place, true⟩) := hid ⟨by unfold nx; rw [if_pos HK.out], by unfold st'; rw [if_pos HK.out]⟩
    clear hs HL
    generalize b.length = L at *
    generalize st.place = pl at *
    go_enter Try.func90, Try.ntmps90
    go_wp2_with fail
    go_quiet (fail)
    go_wp2_with fail
    go_ret
    rw [HN.out.1, HN.out.2]
    exact ⟨none, 0, rfl, (fun h0 => absurd h0 (by decide)), HS2.out nq, ((Wr.refl _ _).drewN nq).trans (Wr.set _ _ rfl)⟩
  | false =>
    rw [hs] at x2
    by_cases hlk : b.length < st.place + n
    · have HK : Hid (lacks b st n = true) := hid (by unfold lacks; rw [hs]; simpa using hlk)
      rw [if_pos HK.out]
      have HN : Hid (nx b st n = [] ∧ st' b st n = ⟨st.place, true⟩) := hid ⟨by unfold nx; rw [if_pos HK.out], by unfold st'; rw [if_pos HK.out]⟩
      clear hs HL
      generalize b.length = L at *
      generalize st.place = pl at *
      have hd : decide ((L : Int) - pl < n) = true := decide_eq_true (by omega)
      go_enter Try.func90, Try.ntmps90
      go_wp2_with fail
      go_quiet (fail)
      go_wp2_with fail
      go_ret
      rw [HN.out.1, HN.out.2]
      exact ⟨none, 0, rfl, (fun h0 => absurd h0 (by decide)), HS2.out nq, ((Wr.refl _ _).drewN nq).trans (Wr.set _ _ rfl)⟩
    · have HK : Hid (lacks b st n = false) := hid (by unfold lacks; rw [hs]; simpa using hlk)
      have hks : ¬ lacks b st n = true := by rw [HK.out]; decide
      rw [if_neg hks]
      have HN : Hid (nx b st n = (b.drop st.place).take n ∧ st' b st n = ⟨st.place + n, false⟩) := hid ⟨by unfold nx; rw [if_neg hks], by unfold st'; rw [if_neg hks]⟩
      have HSH := hid hs
      have HST := hid (fun m m2 => ((HH.out.drewN m).set1 (st.place + n) (by omega)).drewN m2)
      have HBA := hid (HH.out.bat)
      clear hs HL hks
      simp only [IsRr.drewN, HSH.out] at HST
      obtain ⟨L, hL⟩ : ∃ L, b.length = L := ⟨_, rfl⟩
      have HLL := hid hL
      rw [hL] at x0 hr1 hr3 hlk
      clear hL
      generalize st.place = pl at *
      have hd : decide ((L : Int) - pl < n) = false := decide_eq_false (by omega)
      have hcut := cut_run a L c pl (pl + n) (by omega) (by omega) hr1
      rw [Int.natCast_add] at hcut
      simp only [Int.natCast_add] at HST
      go_enter Try.func90, Try.ntmps90
      go_wp2_with fail
      go_quiet (fail)
      go_wp2_with fail
      go_quiet (fail)
      go_wp2_with fail
      all_goals go_ret
      all_goals rw [HN.out.1, HN.out.2]
      · exact ⟨_, ⟨_, rfl⟩, bat_cut0 (HST.out _ _).bat (by rw [HLL.out]; omega) n, by
          have h9 : c = pl := by assumption
          have h10 := HST.out
          rw [h9] at h10
          exact h10 _ _, (((Wr.refl (fun k => k = p) _).drewN _).trans (Wr.set ⟨p, 1, none⟩ _ rfl)).drewN _⟩
      · exact ⟨_, ⟨_, rfl⟩, bat_cut (HST.out _ _).bat pl n, HST.out _ _, (((Wr.refl (fun k => k = p) _).drewN _).trans (Wr.set ⟨p, 1, none⟩ _ rfl)).drewN _⟩

/-- what eight bytes say, as the language reckons -/
def num (s : Bs) : Int := wrap64 (sofar 0 s s.length : Nat)

theorem join64 (u x : Nat) (hu : u < 72057594037927936) (hx : x < 256) : bits BinOp.or IntKind.i64 (wrap64 ((u : Int) * 256)) (wrap64 (x : Int)) = wrap64 ((u * 256 + x : Nat) : Int) := by
  have e1 : BitVec.ofInt 64 (wrap64 ((u : Int) * 256)) = BitVec.ofNat 64 (u * 256) := by
    apply BitVec.eq_of_toNat_eq
    rw [BitVec.toNat_ofInt, BitVec.toNat_ofNat]
    unfold wrap64
    omega
  have e2 : BitVec.ofInt 64 (wrap64 (x : Int)) = BitVec.ofNat 64 x := by
    apply BitVec.eq_of_toNat_eq
    rw [BitVec.toNat_ofInt, BitVec.toNat_ofNat]
    unfold wrap64
    omega
  have e3 : u * 256 % 2 ^ 64 ||| x % 2 ^ 64 = u * 256 + x := by
    rw [Nat.mod_eq_of_lt (by omega), Nat.mod_eq_of_lt (by omega)]
    have := Nat.two_pow_add_eq_or_of_lt (show x < 2 ^ 8 by omega) u
    rw [show u * 256 = 2 ^ 8 * u by omega]
    exact this.symm
  have e4 : (BitVec.ofNat 64 (u * 256) ||| BitVec.ofNat 64 x).toNat = u * 256 + x := by
    rw [BitVec.toNat_or, BitVec.toNat_ofNat, BitVec.toNat_ofNat]
    exact e3
  show IntKind.i64.wrap (((BitVec.ofInt 64 (wrap64 ((u : Int) * 256)) ||| BitVec.ofInt 64 (wrap64 (x : Int))).toNat : Nat) : Int) = _
  rw [e1, e2, e4, IntKind.wrap_i64]
  unfold wrap64
  omega

set_option maxRecDepth 20000 in
set_option maxHeartbeats 2000000 in
theorem one_rd (h : IsRr w p a c b st) :
    Calls Try.prog 84 #[.pointer (some ⟨p, 0, none⟩)] w fun e w' => e = .returned (.int .u8 (((nx b st 1).getD 0 0).toNat : Int)) ∧ IsRr w' p a c b (st' b st 1) ∧ Wr (fun k => k = p) w w' := by
  have HX := hid (next_any 1 h (by omega))
  have HL := hid (nx_len b st 1)
  obtain ⟨s, hs⟩ : ∃ s, nx b st 1 = s := ⟨_, rfl⟩
  rw [hs] at HX HL ⊢
  clear hs h
  have hl : s.length = 0 ∨ s.length = 1 := by
    have := HL.out
    split at this
    · exact .inl this
    · exact .inr this
  rcases hl with hl | hl
  · obtain rfl : s = [] := List.eq_nil_of_length_eq_zero hl
    go_enter Try.func84, Try.ntmps84
    go_wp2_with fail
    refine HX.out.mono ?_
    rintro e w1 ⟨a', c', rfl, h1, h2, h3⟩
    have H1 := hid (And.intro h2 h3)
    clear h1 h2 h3 hl HL HX
    go_wp2_with fail
    go_loopw [8] (fun i wr => i = .int .i64 0 ∧ wr = w1) (fun _ _ => 0)
    case atStart => exact ⟨rfl, rfl⟩
    case round =>
      obtain ⟨rfl, rfl⟩ := hrel
      go_wp2_with fail
      go_ret
      exact ⟨rfl, H1.out⟩
  · obtain ⟨x, rfl⟩ : ∃ x, s = [x] := List.length_eq_one_iff.1 hl
    go_enter Try.func84, Try.ntmps84
    go_wp2_with fail
    refine HX.out.mono ?_
    rintro e w1 ⟨a', c', rfl, h1, h2, h3⟩
    obtain ⟨g, o, rfl, hg, hc⟩ := h1 (by simp)
    have z0 : w1.cell? ⟨g, o, none⟩ = some (.int .u8 (x.toNat : Int)) := hc 0 x rfl
    have H1 := hid (And.intro h2 h3)
    clear h1 h2 h3 hl HL HX hc
    rw [show ([x] : Bs).length = 1 from rfl]
    go_wp2_with fail
    go_loopw [8] (fun i wr => i = .int .i64 0 ∧ wr = w1) (fun _ _ => 0)
    case atStart => exact ⟨rfl, rfl⟩
    case round =>
      obtain ⟨rfl, rfl⟩ := hrel
      go_wp2_with fail
      go_ret
      exact ⟨rfl, H1.out⟩

/-- the readers' numbers -/
def numO (b : Bs) (st : Rs) : Int := num (nx b st 8)

theorem sofar_app (z : UInt8) (s : Bs) : ∀ k, k ≤ s.length → ∀ r, sofar z (s ++ r) k = sofar z s k := by
  intro k
  induction k with
  | zero => intros; rfl
  | succ k ih =>
    intro hk r
    unfold sofar
    rw [ih (by omega) r]
    congr 2
    simp [List.getD, List.getElem?_append_left (show k < s.length by omega)]

theorem sofar_small7 (s : Bs) {k : Nat} (h : k < 8) : sofar 0 s k < 72057594037927936 := Nat.lt_of_lt_of_le (sofar_lt 0 s k) (by
  have := Nat.pow_le_pow_right (n := 256) (by decide) (show k ≤ 7 by omega)
  simpa using this)

/-- pointers to numbers in a list -/
def PtrAt (w : World) (g : Nat) (ps : List Addr) : Prop := ∀ (i : Nat) x, ps[i]? = some x → w.cell? ⟨g, i, none⟩ = some (.pointer (some x))

/-- what a reader leaves, one number behind the other -/
def stN (b : Bs) (st : Rs) : Nat → Rs
  | 0 => st
  | k + 1 => st' b (stN b st k) 8

end Go.Proofs.Ythmcfnbnafdkeaa.PrtF
