/- The law ProtoBack: requests and answers come back from their bytes. -/
import Derived.Test.YtbpajgkhajheaaaFrmL
import Derived.Test.YtbpajgkhajheaaaVrw
import Derived.Test.YtbpajgkhajheaaaOpn
import Derived.Test.YtbpajgkhajheaaaPrtJ
import Derived.Test.YtbpajgkhajheaaaFrmZ
import Derived.Test.YtbpajgkhajheaaaRows
import Derived.WalkKit
import Derived.ProofKit
import Derived.OpenShut
import Derived.ShutString
import Derived.ChangeOld
import Derived.Below
import Derived.SizedLaws
import Derived.ChangeShapes

/- Bytes handed in with marked room behind them, and kept; a reader's Fork. -/
namespace Go.Proofs.Ytbpajgkhajheaaa.FrmH
open Go.ChangeShapes Go.WideShapes Go.ChangeAt Go.RowKit Base Wri Vrw FrmP FrmA FrmD FrmE FrmQ FrmR FrmX FrmY FrmL
set_option linter.unusedVariables false
set_option linter.unusedSimpArgs false

/-- bytes, and the marks behind them -/
def markB (s : Bs) : Nat → Value := fun j => if j < s.length then bv (s.getD j 0) else .int .u8 (160 + (j : Int) - s.length)
theorem markB_in {s : Bs} {k : Nat} {x : UInt8} (h : s[k]? = some x) : markB s k = bv x := by
  unfold markB
  rw [if_pos (List.getElem?_eq_some_iff.1 h).1]
  simp [List.getD, h]
theorem markB_out {s : Bs} {k : Nat} (h : s.length ≤ k) : markB s k = .int .u8 (160 + (k : Int) - s.length) := by unfold markB; rw [if_neg (by omega)]

theorem vrow_bat {w : World} {g n n0 : Nat} {s : Bs} (h : VRow w g n (markB s)) (hn : s.length ≤ n) (hg : g < n0) : BAt w n0 (some ⟨g, 0, none⟩) s := fun _ => ⟨g, 0, rfl, hg, fun i x hx => by
  have hi := (List.getElem?_eq_some_iff.1 hx).1
  rw [Nat.zero_add, (h i (by omega)).1, markB_in hx]⟩

set_option maxRecDepth 20000 in
set_option maxHeartbeats 1000000 in
theorem hand_bytes (a : Option Addr) (cap : Nat) (s : Bs) (w : World) (hn : s.length ≤ 8796093022208) (HB : Hid (BAt w w.heap.size a s)) :
    Calls Try.prog 9 #[.slice a s.length cap] w fun e w' => e = .returned (.slice (some ⟨w.heap.size, 0, none⟩) s.length (s.length + 9)) ∧ VRow w' w.heap.size (s.length + 9) (markB s) ∧ Below w.heap.size w w' ∧ w.heap.size < w'.heap.size := by
  obtain ⟨i0, hi, hz0, hz1, hz2⟩ := info_parts infoU8
  obtain ⟨L, hL⟩ : ∃ L, s.length = L := ⟨_, rfl⟩
  have HL := hid hL
  rw [hL] at hn ⊢
  clear hL
  go_enter Try.func9, Try.ntmps9
  go_wp2_with (at_make; refine wpList_make_full _ rfl _ _ 23 rfl w.heap.size 5 i0 (.int .u8 0) 1 Try.underlying23 hi hz0 hz1 .i64 .i64 ((L : Int) + 9) ((L : Int) + 9) (L + 9) rfl rfl (by omega) (by omega) ?b2 ?b3 (Nat.le_refl _) ?_; rotate_left 2; intro w1 hown hgrow)
  case b2 => rw [hz2]; omega
  case b3 => unfold maxLen; omega
  have HB1 : Hid (Below w.heap.size w w1) := hid ((Below.refl _ _).grown hgrow (Nat.le_refl _) (fun _ e => by cases e))
  have HR1 : Hid (VRow w1 w.heap.size (L + 9) (fillV (fun _ => .int .u8 0) 0 (markB s))) := hid (by
    have hz : ∀ j, j < (L + 9) * 1 → (madeCells (Value.int IntKind.u8 0).cells ((L + 9) * 1)).toList[j]? = some (fillV (fun _ => .int .u8 0) 0 (markB s) j) := by
      intro j hj
      have hj2 : j < L + 9 := by omega
      simp [madeCells, Value.cells, hj2, fillV, Nat.mod_one]
    have := VRow.owned hown hz
    rwa [Nat.mul_one] at this)
  have hs1 : w.heap.size < w1.heap.size := (hown.lt w.heap.size rfl).2
  clear hown hgrow
  obtain ⟨B, hB⟩ : ∃ B, w.heap.size = B := ⟨_, rfl⟩
  rw [hB] at HB1 HR1 hs1 HB ⊢
  go_loopw [4] (fun i wr => ∃ k : Nat, k ≤ L ∧ i = .int .i64 k ∧ VRow wr B (L + 9) (fillV (fun _ => .int .u8 0) k (markB s)) ∧ Below B w wr ∧ B < wr.heap.size) (fun i _ => L - (intOf i).toNat)
  case atStart => exact ⟨0, Nat.zero_le _, rfl, HR1.out, HB1.out, hs1⟩
  case round =>
    obtain ⟨k, hk, rfl, hrow, hbel, hsz⟩ := hrel
    have HR := hid hrow
    have HBl := hid hbel
    clear hrow hbel
    by_cases hlt : k < L
    · obtain ⟨g, o, rfl, hg, hc⟩ := HB.out (by rw [HL.out]; omega)
      obtain ⟨x, hx⟩ : ∃ x, s[k]? = some x := ⟨s[k]'(by rw [HL.out]; exact hlt), List.getElem?_eq_getElem _⟩
      have h1 : wr.cell? ⟨g, o + k, none⟩ = some (.int .u8 (x.toNat : Int)) := (HBl.out.cell (p := ⟨g, o + k, none⟩) hg).trans (hc k x hx)
      have h2 := (HR.out k (by omega)).1
      have h3 := (HR.out k (by omega)).2
      have hgs : g < wr.heap.size := by omega
      have HN := hid (HR.out.set k (by omega) (markB s k))
      rw [fillV_set, markB_in hx] at HN
      have HB2 := hid (HBl.out.setCell (p := ⟨B, k, none⟩) (Nat.le_refl _) (bv x))
      unfold bv at HN HB2
      clear hc hx
      generalize (x.toNat : Int) = y at *
      unfold fillV at h2
      rw [if_neg (Nat.lt_irrefl k)] at h2
      go_wp2_with fail
      go_roundw
      case rel => exact ⟨k + 1, by omega, by go_num, HN.out, HB2.out, by simpa using hsz⟩
      case measure => simp [intOf]; omega
    · obtain rfl : k = L := by omega
      go_wp2_with fail
      go_loopw [5] (fun i wr => ∃ m : Nat, m ≤ k + 9 ∧ i = .int .i64 m ∧ k ≤ m ∧ VRow wr B (k + 9) (fillV (fun _ => .int .u8 0) m (markB s)) ∧ Below B w wr ∧ B < wr.heap.size) (fun i _ => (k + 9) - (intOf i).toNat)
      case atStart => exact ⟨k, by omega, rfl, Nat.le_refl _, HR.out, HBl.out, hsz⟩
      case round =>
        obtain ⟨m, hm, rfl, hkm, hrow, hbel, hsz2⟩ := hrel
        have HR3 := hid hrow
        have HB3 := hid hbel
        clear hrow hbel
        by_cases hml : m < k + 9
        · have h2 := (HR3.out m (by omega)).1
          have h3 := (HR3.out m (by omega)).2
          have HN := hid (HR3.out.set m (by omega) (markB s m))
          rw [fillV_set, markB_out (by rw [HL.out]; exact hkm), HL.out] at HN
          have HB4 := hid (HB3.out.setCell (p := ⟨B, m, none⟩) (Nat.le_refl _) (.int .u8 (160 + (m : Int) - k)))
          unfold fillV at h2
          rw [if_neg (Nat.lt_irrefl m)] at h2
          go_wp2_with fail
          go_roundw
          case rel => exact ⟨m + 1, by omega, by go_num, by omega, HN.out, HB4.out, by simpa using hsz2⟩
          case measure => simp [intOf]; omega
        · obtain rfl : m = k + 9 := by omega
          go_wp2_with fail
          go_ret
          subst hB
          exact ⟨rfl, HR3.out.congr (fun j hj => by simp [fillV, hj]), HB3.out, hsz2⟩

set_option maxRecDepth 20000 in
set_option maxHeartbeats 1000000 in
theorem kept_bytes (a : Option Addr) (g cap : Nat) (s : Bs) (w : World) (hn : s.length ≤ 8796093022208) (hg : g < w.heap.size) (HB : Hid (BAt w w.heap.size a s)) (hr : VRow w g (s.length + 9) (markB s)) :
    Calls Try.prog 17 #[.slice (some ⟨g, 0, none⟩) s.length (s.length + 9), .slice a s.length cap] w fun e w' => e = .returned (.bool true) ∧ ∃ m, w.drewN m = w' := by
  have HS := hid (same_bytes (some ⟨g, 0, none⟩) a (s.length + 9) cap s w (by omega) (hid (vrow_bat hr (by omega) hg)) HB)
  have HR := hid hr
  obtain ⟨L, hL⟩ : ∃ L, s.length = L := ⟨_, rfl⟩
  have HL := hid hL
  rw [hL] at hn HS HR ⊢
  clear hr hL
  go_enter Try.func17, Try.ntmps17
  go_wp2_with fail
  refine HS.out.mono ?_
  rintro e w1 ⟨rfl, m1, hw1⟩
  clear HS
  go_wp2_with fail
  go_loopw [6] (fun i wr => ∃ k m : Nat, k ≤ L + 9 ∧ L ≤ k ∧ i = .int .i64 k ∧ w.drewN m = wr) (fun i _ => L + 9 - (intOf i).toNat)
  case atStart => exact ⟨L, m1, by omega, Nat.le_refl _, rfl, hw1⟩
  case round =>
    obtain ⟨k, m, hk, hnk, rfl, hwr⟩ := hrel
    by_cases hlt : k < L + 9
    · have h1 : wr.cell? ⟨g, k, none⟩ = some (.int .u8 (160 + (k : Int) - L)) := by
        rw [← hwr]
        have := (HR.out k hlt).1
        rw [markB_out (by rw [HL.out]; exact hnk), HL.out] at this
        exact this
      have HW := hid hwr
      clear hwr hw1
      go_wp2_with fail
      go_roundw
      case rel => exact ⟨k + 1, m, by omega, by omega, by go_num, HW.out⟩
      case measure => simp [intOf]; omega
    · go_wp2
      go_ret
      exact ⟨rfl, m, hwr⟩

end Go.Proofs.Ytbpajgkhajheaaa.FrmH

/- How many rows a slice that came in may have, by what it weighs. -/
namespace Go.Proofs.Ytbpajgkhajheaaa.Room
open Go.ChangeShapes Go.WideShapes Go.Deep Go.RowKit Opn

theorem rows_room {H : Type} {enc : TypeId × Value → H} {P : Program} {w : World} {base : Nat} {spare : Nat → Bool} {held : Bool} {t e : TypeId} {fuel : Nat} {a0 : Option Addr} {len cap : Nat} {x : DataW H × List MemPlace} (ht : P.underlying t = some (.slice e))
    (h : DataW.trod enc P w base spare held fuel t [.slice a0 len cap] = some x) (hw : ∀ m ∈ x.1.weights P t, m ≤ reachBytes) : len * P.bytesOf e ≤ reachBytes := by
  rcases open_slice ht h with ⟨hn, _⟩ | ⟨a, l, c, m, n, D, Pl, hcs, _, hl, hm, hmm, hx, hi⟩
  · simp at hn
    rw [hn.2.1, Nat.zero_mul]; exact Nat.zero_le _
  · simp at hcs
    obtain ⟨rfl, rfl, rfl⟩ := hcs
    have hx1 := congrArg Prod.fst hx
    dsimp only at hx1
    rw [hx1] at hw
    unfold DataW.weights at hw
    rw [ht] at hw
    have := hw _ List.mem_cons_self
    simp at this
    exact Nat.le_trans (Nat.mul_le_mul_right _ (Nat.le_add_right _ _)) this

end Go.Proofs.Ytbpajgkhajheaaa.Room

/- Requests and answers there and back: pure. -/
namespace Go.Proofs.Ytbpajgkhajheaaa.PrtP
open Go.ChangeShapes Go.WideShapes Go.ChangeAt Go.RowKit Base FrmP FrmA RulA PrtA PrtB PrtC PrtD PrtF PrtG PrtH PrtI PrtJ
set_option linter.unusedVariables false
set_option linter.unusedSimpArgs false

theorem wrap_small {n : Nat} (h : n < 9223372036854775808) : wrap64 ((n : Nat) : Int) = (n : Int) := by unfold wrap64; omega

theorem sofar_enc (n : Nat) (h : n < 9223372036854775808) : sofar 0 (enc n) 8 = n := by
  simp [sofar, enc, List.getD]
  omega
theorem num_enc (n : Nat) (h : n < 9223372036854775808) : num (enc n) = (n : Int) := by
  unfold num
  rw [enc_len, sofar_enc n h, wrap_small h]

/-- eight bytes that say a number that is not below nought -/
theorem enc_num {s : Bs} (hl : s.length = 8) (h0 : 0 ≤ num s) : enc (num s).toNat = s := by
  match s, hl with
  | [a, b, c, d, e, f, g, h], _ =>
    have ha := UInt8.toNat_lt a
    have hb := UInt8.toNat_lt b
    have hc := UInt8.toNat_lt c
    have hd := UInt8.toNat_lt d
    have he := UInt8.toNat_lt e
    have hf := UInt8.toNat_lt f
    have hg := UInt8.toNat_lt g
    have hh := UInt8.toNat_lt h
    have hS : sofar 0 [a, b, c, d, e, f, g, h] 8 = ((((((a.toNat * 256 + b.toNat) * 256 + c.toNat) * 256 + d.toNat) * 256 + e.toNat) * 256 + f.toNat) * 256 + g.toNat) * 256 + h.toNat := by simp [sofar, List.getD]
    unfold num at h0 ⊢
    rw [show ([a, b, c, d, e, f, g, h] : Bs).length = 8 from rfl, hS] at h0 ⊢
    obtain ⟨S, hSS⟩ : ∃ S, ((((((a.toNat * 256 + b.toNat) * 256 + c.toNat) * 256 + d.toNat) * 256 + e.toNat) * 256 + f.toNat) * 256 + g.toNat) * 256 + h.toNat = S := ⟨_, rfl⟩
    rw [hSS] at h0 ⊢
    have hlt : S < 9223372036854775808 := by
      unfold wrap64 at h0
      omega
    rw [wrap_small hlt, Int.toNat_natCast]
    unfold enc
    have key : ∀ (m : Nat) (x : UInt8), m % 256 = x.toNat → UInt8.ofNat m = x := fun m x hx => by
      apply UInt8.toNat.inj
      rw [UInt8.toNat_ofNat']
      exact hx
    rw [key (S / 72057594037927936) a (by omega), key (S / 281474976710656) b (by omega), key (S / 1099511627776) c (by omega), key (S / 4294967296) d (by omega), key (S / 16777216) e (by omega), key (S / 65536) f (by omega), key (S / 256) g (by omega), key S h (by omega)]

theorem bytesR_len (id flow count token want : Nat) (t : ByteArray) : (bytesR id flow count token want t).length = 34 + t.size := by
  unfold bytesR
  simp only [List.length_append, List.length_singleton, encs_len, List.length_cons, List.length_nil]
  have : t.data.toList.length = t.size := rfl
  omega
theorem bytesA_len (id left wait token status : Nat) : (bytesA id left wait token status).length = 33 := by
  unfold bytesA
  simp only [List.length_append, List.length_singleton, encs_len, List.length_cons, List.length_nil]

/-- a request that is right comes back -/
theorem read_back {r : Rq} (h : rightQ r = true) : toldRequest (encR r) = .tuple #[rv r, .int .i64 0, .int .i64 0] := by
  obtain ⟨id, flow, count, token, want, he, h1, h2, h3, h4, h5, h6, h7⟩ := right_nums h
  obtain ⟨t, ht⟩ : ∃ t, r.text = t := ⟨_, rfl⟩
  rw [ht] at he h7
  subst he
  have hE : encR ⟨id, want, flow, count, t, token⟩ = bytesR id flow count token want t := by simp [encR]
  rw [hE]
  obtain ⟨b, hb⟩ : ∃ b, bytesR id flow count token want t = b := ⟨_, rfl⟩
  have hl : b.length = 34 + t.size := by rw [← hb]; exact bytesR_len _ _ _ _ _ _
  have hlt : lenT b = t.size := by
    rw [← hb]
    unfold lenT bytesR
    simp [encs, enc, List.getD]
    omega
  rw [hb]
  obtain ⟨e1, e4⟩ := endR_there (b := b) (by omega)
  obtain ⟨_, e2, e3⟩ := there (b := b) (by omega)
  have hw : wantO b = want := by
    rw [e2, ← hb]
    unfold bytesR
    simp [List.getD]
    omega
  have n0 : nO b 0 = id := by
    rw [e3 0 (by omega), ← hb, ← num_enc id (by omega)]
    congr 1
  have n1 : nO b 1 = flow := by
    rw [e3 1 (by omega), ← hb, ← num_enc flow (by omega)]
    congr 1
  have n2 : nO b 2 = count := by
    rw [e3 2 (by omega), ← hb, ← num_enc count (by omega)]
    congr 1
  have n3 : nO b 3 = token := by
    rw [e3 3 (by omega), ← hb, ← num_enc token (by omega)]
    congr 1
  have ht2 : txR b = t := by
    rw [e4, hlt]
    have : (b.drop 34).take t.size = t.data.toList := by
      rw [← hb]
      exact List.take_of_length_le (Nat.le_refl _)
    rw [this]
  have hq : rqO b = ⟨id, want, flow, count, t, token⟩ := by
    unfold rqO
    rw [n0, n1, n2, n3, hw, ht2]
  unfold toldRequest wholeB
  rw [hq, h, e1]
  simp [hl, hlt]

theorem answer_back {a : Aw} (h : rightA a = true) : toldAnswer (encA a) = .tuple #[av a, .int .i64 0, .int .i64 0] := by
  obtain ⟨id, left, wait, token, status, he, h1, h2, h3, h4, h5, h6⟩ := rightA_nums h
  subst he
  have hE : encA ⟨id, status, left, wait, token⟩ = bytesA id left wait token status := by simp [encA]
  rw [hE]
  obtain ⟨b, hb⟩ : ∃ b, bytesA id left wait token status = b := ⟨_, rfl⟩
  have hl : b.length = 33 := by rw [← hb]; exact bytesA_len _ _ _ _ _
  rw [hb]
  obtain ⟨e1, e2, e3⟩ := there (b := b) (by omega)
  have hw : wantO b = status := by
    rw [e2, ← hb]
    unfold bytesA
    simp [List.getD]
    omega
  have n0 : nO b 0 = id := by
    rw [e3 0 (by omega), ← hb, ← num_enc id (by omega)]
    congr 1
  have n1 : nO b 1 = left := by
    rw [e3 1 (by omega), ← hb, ← num_enc left (by omega)]
    congr 1
  have n2 : nO b 2 = wait := by
    rw [e3 2 (by omega), ← hb, ← num_enc wait (by omega)]
    congr 1
  have n3 : nO b 3 = token := by
    rw [e3 3 (by omega), ← hb, ← num_enc token (by omega)]
    congr 1
  have hq : awO b = ⟨id, status, left, wait, token⟩ := by
    unfold awO
    rw [n0, n1, n2, n3, hw]
  unfold toldAnswer wholeB
  rw [hq, h, e1]
  simp [hl]

end Go.Proofs.Ytbpajgkhajheaaa.PrtP

/- What must be, whatever is asked of requests; the law ProtoReads. -/
namespace Go.Proofs.Ytbpajgkhajheaaa.PrtQ
open FrmC2 FrmK FrmK2
open Go.ChangeShapes Go.WideShapes Go.ChangeAt Go.RowKit Base Wri Vrw FrmP FrmA FrmD FrmE FrmF FrmR FrmX FrmL FrmH RulA PrtA PrtB PrtC PrtD PrtE PrtF PrtG PrtH PrtI PrtJ PrtP
set_option linter.unusedVariables false
set_option linter.unusedSimpArgs false

/-- an own row, as its bytes lie -/
theorem own_bytes {W : World} {B n k : Nat} {x : Option Addr} {s : Bs} (h : W.ownsRow B 5 1 (.slice x n k) n (s.map bv)) (hn : n = s.length) : n ≤ k ∧ k ≤ 9223372036854775807 ∧ (∀ ad, x = some ad → ad.block < W.heap.size) ∧ (∀ n0, (∀ ad, x = some ad → ad.block < n0) → BAt W n0 x s) := by
  obtain ⟨h1, h2, h3, h4, h5⟩ := own_room h hn
  refine ⟨h1, h2, fun ad e => ?_, fun n0 h6 h0 => ?_⟩
  · rcases h.2 with ⟨e1, _⟩ | ⟨g, cap, cur, e1, _⟩
    · injection e1 with e2 _ _; rw [e2] at e; cases e
    · injection e1 with e2 _ _
      rw [e2] at e
      cases e
      subst e2
      exact (h.lt g rfl).2
  · obtain ⟨g, o, e, hg, hc⟩ := h4 h0
    exact ⟨g, o, e, h6 _ e, hc⟩

def rq7 : Rq := ⟨1, 4, 0, 0, ⟨#[]⟩, 7⟩
theorem rq7_right : rightQ rq7 = true := by decide +kernel
theorem rq7_bytes : encR rq7 = [4, 0, 0, 0, 0, 0, 0, 0, 1, 0, 0, 0, 0, 0, 0, 0, 0, 0, 0, 0, 0, 0, 0, 0, 0, 0, 0, 0, 0, 0, 0, 0, 7, 0] := by decide +kernel

set_option maxRecDepth 20000 in
set_option maxHeartbeats 4000000 in
theorem live_any (w : World) : Calls Try.prog 40 #[] w fun e w' => e = .returned (.bool true) ∧ Below w.heap.size w w' := by
  have HQ := hid (request_any rq7 w (by decide))
  rw [show rv rq7 = .agg #[.int .i64 1, .int .u8 4, .int .i64 0, .int .i64 0, .string ⟨#[]⟩, .int .i64 7] from rfl, rq7_right] at HQ
  go_enter Try.func40, Try.ntmps40
  go_wp2_with fail
  refine HQ.out.mono ?_
  rintro e w1 ⟨va, vc, he, hown, hb1⟩
  have ho : outB true (encR rq7) = encR rq7 := rfl
  rw [ho] at he hown
  have hlen : (encR rq7).length = 34 := by rw [rq7_bytes]; rfl
  obtain ⟨k1, k2, k3, k4⟩ := own_bytes hown rfl
  have HR := hid (readRequest_any va vc (encR rq7) w1 (hid k4) k1 k2 k3)
  rw [read_back rq7_right, show rv rq7 = .agg #[.int .i64 1, .int .u8 4, .int .i64 0, .int .i64 0, .string ⟨#[]⟩, .int .i64 7] from rfl, hlen] at HR
  rw [hlen] at he
  have he : e = .returned (.tuple #[.slice va 34 vc, .int .i64 0]) := he
  subst he
  obtain ⟨g, o, rfl, hg, hc⟩ := k4 w1.heap.size k3 (by rw [hlen]; omega)
  rw [rq7_bytes] at hc
  have z0 : w1.cell? ⟨g, o, none⟩ = some (.int .u8 4) := hc 0 4 rfl
  have z8 : w1.cell? ⟨g, o + 8, none⟩ = some (.int .u8 1) := hc 8 1 rfl
  have z32 : w1.cell? ⟨g, o + 32, none⟩ = some (.int .u8 7) := hc 32 7 rfl
  have HB1 := hid hb1
  have hgl : g < w1.heap.size := hg
  have hvc : 34 ≤ vc := by rw [hlen] at k1; exact k1
  clear hown hb1 k1 k2 k3 k4 hc hlen ho HQ hg
  go_wp2_with fail
  refine HR.out.mono ?_
  rintro e w2 ⟨rfl, hb2⟩
  have y0 := (hb2.cell (p := ⟨g, o, none⟩) hgl).trans z0
  have y8 := (hb2.cell (p := ⟨g, o + 8, none⟩) hgl).trans z8
  have y32 := (hb2.cell (p := ⟨g, o + 32, none⟩) hgl).trans z32
  have hgl2 : g < w2.heap.size := Nat.lt_of_lt_of_le hgl hb2.size
  have HB2 := hid (HB1.out.trans (hb2.mono HB1.out.size))
  clear hb2 z0 z8 z32 HR
  go_wp2_with fail
  go_ret
  exact ⟨rfl, HB2.out.alloc HB2.out.size _⟩

end Go.Proofs.Ytbpajgkhajheaaa.PrtQ

/- Bytes of any length handed in with marked room behind them, and kept; bytes as an argument; the law ProtoReads. -/
namespace Go.Proofs.Ytbpajgkhajheaaa.PrtU
open Go.ChangeShapes Go.WideShapes Go.ChangeAt Go.RowKit Go.Deep Base Opn Wri Vrw FrmP FrmA FrmD FrmE FrmQ FrmR FrmX FrmY FrmL FrmH
set_option linter.unusedVariables false
set_option linter.unusedSimpArgs false

set_option maxRecDepth 20000 in
set_option maxHeartbeats 1000000 in
theorem hand_any (a : Option Addr) (cap : Nat) (s : Bs) (w : World) (hn : s.length ≤ 140737488351232) (HB : Hid (BAt w w.heap.size a s)) :
    Calls Try.prog 9 #[.slice a s.length cap] w fun e w' => e = .returned (.slice (some ⟨w.heap.size, 0, none⟩) s.length (s.length + 9)) ∧ VRow w' w.heap.size (s.length + 9) (markB s) ∧ Below w.heap.size w w' ∧ w.heap.size < w'.heap.size := by
  obtain ⟨i0, hi, hz0, hz1, hz2⟩ := info_parts infoU8
  obtain ⟨L, hL⟩ : ∃ L, s.length = L := ⟨_, rfl⟩
  have HL := hid hL
  rw [hL] at hn ⊢
  clear hL
  go_enter Try.func9, Try.ntmps9
  go_wp2_with (at_make; refine wpList_make_full _ rfl _ _ 23 rfl w.heap.size 5 i0 (.int .u8 0) 1 Try.underlying23 hi hz0 hz1 .i64 .i64 ((L : Int) + 9) ((L : Int) + 9) (L + 9) rfl rfl (by omega) (by omega) ?b2 ?b3 (Nat.le_refl _) ?_; rotate_left 2; intro w1 hown hgrow)
  case b2 => rw [hz2]; omega
  case b3 => unfold maxLen; omega
  have HB1 : Hid (Below w.heap.size w w1) := hid ((Below.refl _ _).grown hgrow (Nat.le_refl _) (fun _ e => by cases e))
  have HR1 : Hid (VRow w1 w.heap.size (L + 9) (fillV (fun _ => .int .u8 0) 0 (markB s))) := hid (by
    have hz : ∀ j, j < (L + 9) * 1 → (madeCells (Value.int IntKind.u8 0).cells ((L + 9) * 1)).toList[j]? = some (fillV (fun _ => .int .u8 0) 0 (markB s) j) := by
      intro j hj
      have hj2 : j < L + 9 := by omega
      simp [madeCells, Value.cells, hj2, fillV, Nat.mod_one]
    have := VRow.owned hown hz
    rwa [Nat.mul_one] at this)
  have hs1 : w.heap.size < w1.heap.size := (hown.lt w.heap.size rfl).2
  clear hown hgrow
  obtain ⟨B, hB⟩ : ∃ B, w.heap.size = B := ⟨_, rfl⟩
  rw [hB] at HB1 HR1 hs1 HB ⊢
  go_loopw [4] (fun i wr => ∃ k : Nat, k ≤ L ∧ i = .int .i64 k ∧ VRow wr B (L + 9) (fillV (fun _ => .int .u8 0) k (markB s)) ∧ Below B w wr ∧ B < wr.heap.size) (fun i _ => L - (intOf i).toNat)
  case atStart => exact ⟨0, Nat.zero_le _, rfl, HR1.out, HB1.out, hs1⟩
  case round =>
    obtain ⟨k, hk, rfl, hrow, hbel, hsz⟩ := hrel
    have HR := hid hrow
    have HBl := hid hbel
    clear hrow hbel
    by_cases hlt : k < L
    · obtain ⟨g, o, rfl, hg, hc⟩ := HB.out (by rw [HL.out]; omega)
      obtain ⟨x, hx⟩ : ∃ x, s[k]? = some x := ⟨s[k]'(by rw [HL.out]; exact hlt), List.getElem?_eq_getElem _⟩
      have h1 : wr.cell? ⟨g, o + k, none⟩ = some (.int .u8 (x.toNat : Int)) := (HBl.out.cell (p := ⟨g, o + k, none⟩) hg).trans (hc k x hx)
      have h2 := (HR.out k (by omega)).1
      have h3 := (HR.out k (by omega)).2
      have hgs : g < wr.heap.size := by omega
      have HN := hid (HR.out.set k (by omega) (markB s k))
      rw [fillV_set, markB_in hx] at HN
      have HB2 := hid (HBl.out.setCell (p := ⟨B, k, none⟩) (Nat.le_refl _) (bv x))
      unfold bv at HN HB2
      clear hc hx
      generalize (x.toNat : Int) = y at *
      unfold fillV at h2
      rw [if_neg (Nat.lt_irrefl k)] at h2
      go_wp2_with fail
      go_roundw
      case rel => exact ⟨k + 1, by omega, by go_num, HN.out, HB2.out, by simpa using hsz⟩
      case measure => simp [intOf]; omega
    · obtain rfl : k = L := by omega
      go_wp2_with fail
      go_loopw [5] (fun i wr => ∃ m : Nat, m ≤ k + 9 ∧ i = .int .i64 m ∧ k ≤ m ∧ VRow wr B (k + 9) (fillV (fun _ => .int .u8 0) m (markB s)) ∧ Below B w wr ∧ B < wr.heap.size) (fun i _ => (k + 9) - (intOf i).toNat)
      case atStart => exact ⟨k, by omega, rfl, Nat.le_refl _, HR.out, HBl.out, hsz⟩
      case round =>
        obtain ⟨m, hm, rfl, hkm, hrow, hbel, hsz2⟩ := hrel
        have HR3 := hid hrow
        have HB3 := hid hbel
        clear hrow hbel
        by_cases hml : m < k + 9
        · have h2 := (HR3.out m (by omega)).1
          have h3 := (HR3.out m (by omega)).2
          have HN := hid (HR3.out.set m (by omega) (markB s m))
          rw [fillV_set, markB_out (by rw [HL.out]; exact hkm), HL.out] at HN
          have HB4 := hid (HB3.out.setCell (p := ⟨B, m, none⟩) (Nat.le_refl _) (.int .u8 (160 + (m : Int) - k)))
          unfold fillV at h2
          rw [if_neg (Nat.lt_irrefl m)] at h2
          go_wp2_with fail
          go_roundw
          case rel => exact ⟨m + 1, by omega, by go_num, by omega, HN.out, HB4.out, by simpa using hsz2⟩
          case measure => simp [intOf]; omega
        · obtain rfl : m = k + 9 := by omega
          go_wp2_with fail
          go_ret
          subst hB
          exact ⟨rfl, HR3.out.congr (fun j hj => by simp [fillV, hj]), HB3.out, hsz2⟩

set_option maxRecDepth 20000 in
set_option maxHeartbeats 1000000 in
theorem kept_any (a : Option Addr) (g cap : Nat) (s : Bs) (w : World) (hn : s.length ≤ 140737488351232) (hg : g < w.heap.size) (HB : Hid (BAt w w.heap.size a s)) (hr : VRow w g (s.length + 9) (markB s)) :
    Calls Try.prog 17 #[.slice (some ⟨g, 0, none⟩) s.length (s.length + 9), .slice a s.length cap] w fun e w' => e = .returned (.bool true) ∧ ∃ m, w.drewN m = w' := by
  have HS := hid (same_bytes (some ⟨g, 0, none⟩) a (s.length + 9) cap s w (by omega) (hid (vrow_bat hr (by omega) hg)) HB)
  have HR := hid hr
  obtain ⟨L, hL⟩ : ∃ L, s.length = L := ⟨_, rfl⟩
  have HL := hid hL
  rw [hL] at hn HS HR ⊢
  clear hr hL
  go_enter Try.func17, Try.ntmps17
  go_wp2_with fail
  refine HS.out.mono ?_
  rintro e w1 ⟨rfl, m1, hw1⟩
  clear HS
  go_wp2_with fail
  go_loopw [6] (fun i wr => ∃ k m : Nat, k ≤ L + 9 ∧ L ≤ k ∧ i = .int .i64 k ∧ w.drewN m = wr) (fun i _ => L + 9 - (intOf i).toNat)
  case atStart => exact ⟨L, m1, by omega, Nat.le_refl _, rfl, hw1⟩
  case round =>
    obtain ⟨k, m, hk, hnk, rfl, hwr⟩ := hrel
    by_cases hlt : k < L + 9
    · have h1 : wr.cell? ⟨g, k, none⟩ = some (.int .u8 (160 + (k : Int) - L)) := by
        rw [← hwr]
        have := (HR.out k hlt).1
        rw [markB_out (by rw [HL.out]; exact hnk), HL.out] at this
        exact this
      have HW := hid hwr
      clear hwr hw1
      go_wp2_with fail
      go_roundw
      case rel => exact ⟨k + 1, m, by omega, by omega, by go_num, HW.out⟩
      case measure => simp [intOf]; omega
    · go_wp2
      go_ret
      exact ⟨rfl, m, hwr⟩

theorem bytes_of {H : Type} {enc : TypeId × Value → H} {w : World} {base : Nat} {held : Bool} {k : Nat} {v : Value} {z : DataW H × List MemPlace} (h : DataW.trod enc Try.prog w base (fun _ => true) held k 23 [v] = some z) :
    ∃ (a : Option Addr) (cap : Nat) (s : Bs), v = .slice a s.length cap ∧ BAt w w.heap.size a s ∧ s.length ≤ cap ∧ cap ≤ maxLen := by
  rcases open_slice1 Try.underlying23 (by kernel_rfl) h with ⟨hn, _⟩ | ⟨a, l, c, m, n, V, D, Pl, hcs, _, hl, hm, hmm, hx, hi⟩
  · simp at hn
    exact ⟨none, 0, [], hn, fun h => absurd h (by decide), Nat.le_refl _, Nat.zero_le _⟩
  · simp at hcs hmm
    have each : ∀ i, i < m → ∃ x : UInt8, w.cell? (a.add i) = some (bv x) := fun i him => by
      obtain ⟨h1, h2⟩ := hi i him
      obtain ⟨n0, e0, _, hw⟩ := DataW.trod_int Try.underlying5 h2
      simp at e0
      have hb : 0 ≤ n0 ∧ n0 ≤ 255 := by
        simp [Lit.wf, IntKind.min, IntKind.max, IntKind.bits, IntKind.signed] at hw
        omega
      refine ⟨UInt8.ofNat n0.toNat, ?_⟩
      rw [h1, e0]
      unfold bv
      congr 2
      simp
      omega
    obtain ⟨f, hf⟩ := choose2 (n := m) (0 : UInt8) each
    have hsl : ((List.range l).map f).length = l := by simp
    refine ⟨some a, c, (List.range l).map f, by rw [hsl]; exact hcs, fun h0 => ?_, by rw [hsl]; exact hl, ?_⟩
    · rw [hsl] at h0
      obtain ⟨b, off, spot⟩ := a
      have h00 := hf 0 (by omega)
      have hspot : spot = none := by simpa [Addr.add] using World.cell?_spot h00
      subst hspot
      refine ⟨b, off, rfl, World.block_lt_of_cell? _ _ h00, fun i x hx => ?_⟩
      rw [List.getElem?_map] at hx
      have hil : i < l := by
        apply Decidable.byContradiction
        intro hc
        rw [List.getElem?_eq_none (by simp; omega)] at hx
        cases hx
      rw [List.getElem?_range hil] at hx
      simp at hx
      have := hf i (by omega)
      rw [Go.WideShapes.add_plain, hx] at this
      exact this
    · exact Nat.le_trans (by omega) hm

theorem bytes_sized {H : Type} {enc : TypeId × Value → H} {W : World} {base : Nat} {held : Bool} {a0 : Option Addr} {len0 cap0 : Nat} {d : DataW H} {p : List MemPlace}
    (h : DataW.Trod enc Try.prog W base (fun _ => true) held 23 (.slice a0 len0 cap0) d p) (hz : ∀ m ∈ d.weights Try.prog 23, m ≤ reachBytes) : ∃ s : Bs, s.length = len0 ∧ BAt W W.heap.size a0 s ∧ len0 ≤ cap0 ∧ cap0 ≤ maxLen ∧ len0 ≤ 140737488351232 := by
  obtain ⟨fuel, hf⟩ := h
  have hf' : DataW.trod enc Try.prog W base (fun _ => true) held fuel 23 [.slice a0 len0 cap0] = some (d, p) := by simpa [Value.cells] using hf
  have hr := Room.rows_room Try.underlying23 hf' hz
  rw [show Try.prog.bytesOf 5 = 1 by kernel_rfl] at hr
  unfold reachBytes at hr
  obtain ⟨a, cap, s, e, h1, h2, h3⟩ := bytes_of hf'
  injection e with e1 e2 e3
  subst e1 e2 e3
  exact ⟨s, rfl, h1, h2, h3, by omega⟩

end Go.Proofs.Ytbpajgkhajheaaa.PrtU

/- The law ProtoReads. -/
namespace Go.Proofs.Ytbpajgkhajheaaa.PrtV
open Go.ChangeShapes Go.WideShapes Go.ChangeAt Go.RowKit Go.Deep Base Wri Vrw FrmP FrmA FrmD FrmE FrmF FrmR FrmX FrmL FrmH RulA PrtA PrtB PrtC PrtD PrtE PrtF PrtG PrtH PrtI PrtJ PrtP PrtQ PrtU
set_option linter.unusedVariables false
set_option linter.unusedSimpArgs false

theorem toldR_shape (b : Bs) : ∃ (x0 x1 x2 x3 : Int) (t : ByteArray) (x5 e p : Int), toldRequest b = .tuple #[.agg #[.int .i64 x0, .int .u8 x1, .int .i64 x2, .int .i64 x3, .string t, .int .i64 x5], .int .i64 e, .int .i64 p] := by
  unfold toldRequest
  split <;> exact ⟨_, _, _, _, _, _, _, _, rfl⟩
theorem toldA_shape (b : Bs) : ∃ (x0 x1 x2 x3 x4 e p : Int), toldAnswer b = .tuple #[.agg #[.int .i64 x0, .int .u8 x1, .int .i64 x2, .int .i64 x3, .int .i64 x4], .int .i64 e, .int .i64 p] := by
  unfold toldAnswer
  split <;> exact ⟨_, _, _, _, _, _, _, rfl⟩

theorem size_alloc (W : World) (o : Obj) : (W.alloc o).heap.size = W.heap.size + 1 := by simp

def Six (W : World) (p : Nat) (a b c d e f : Value) : Prop := W.cell? ⟨p, 0, none⟩ = some a ∧ W.cell? ⟨p, 1, none⟩ = some b ∧ W.cell? ⟨p, 2, none⟩ = some c ∧ W.cell? ⟨p, 3, none⟩ = some d ∧ W.cell? ⟨p, 4, none⟩ = some e ∧ W.cell? ⟨p, 5, none⟩ = some f
def Five (W : World) (p : Nat) (a b c d e : Value) : Prop := W.cell? ⟨p, 0, none⟩ = some a ∧ W.cell? ⟨p, 1, none⟩ = some b ∧ W.cell? ⟨p, 2, none⟩ = some c ∧ W.cell? ⟨p, 3, none⟩ = some d ∧ W.cell? ⟨p, 4, none⟩ = some e
theorem cells6 {W W' : World} {p n : Nat} {a b c d e f : Value} (h : Six W p a b c d e f) (hb : Below n W W') (hp : p < n) : Six W' p a b c d e f :=
  ⟨(hb.cell (p := ⟨p, 0, none⟩) hp).trans h.1, (hb.cell (p := ⟨p, 1, none⟩) hp).trans h.2.1, (hb.cell (p := ⟨p, 2, none⟩) hp).trans h.2.2.1, (hb.cell (p := ⟨p, 3, none⟩) hp).trans h.2.2.2.1, (hb.cell (p := ⟨p, 4, none⟩) hp).trans h.2.2.2.2.1, (hb.cell (p := ⟨p, 5, none⟩) hp).trans h.2.2.2.2.2⟩
theorem cells5 {W W' : World} {p n : Nat} {a b c d e : Value} (h : Five W p a b c d e) (hb : Below n W W') (hp : p < n) : Five W' p a b c d e :=
  ⟨(hb.cell (p := ⟨p, 0, none⟩) hp).trans h.1, (hb.cell (p := ⟨p, 1, none⟩) hp).trans h.2.1, (hb.cell (p := ⟨p, 2, none⟩) hp).trans h.2.2.1, (hb.cell (p := ⟨p, 3, none⟩) hp).trans h.2.2.2.1, (hb.cell (p := ⟨p, 4, none⟩) hp).trans h.2.2.2.2⟩
theorem six_new {W : World} {a b c d e f : Value} {t : TypeId} : Six (W.alloc (.cells #[a, b, c, d, e, f] t)) W.heap.size a b c d e f := by
  refine ⟨?_, ?_, ?_, ?_, ?_, ?_⟩ <;> (unfold World.cell?; rw [heap_alloc_new]; rfl)
theorem five_new {W : World} {a b c d e : Value} {t : TypeId} : Five (W.alloc (.cells #[a, b, c, d, e] t)) W.heap.size a b c d e := by
  refine ⟨?_, ?_, ?_, ?_, ?_⟩ <;> (unfold World.cell?; rw [heap_alloc_new]; rfl)

end Go.Proofs.Ytbpajgkhajheaaa.PrtV

/- Requests there and back again: pure. -/
namespace Go.Proofs.Ytbpajgkhajheaaa.PrtS
open Go.ChangeShapes Go.WideShapes Go.ChangeAt Go.RowKit Base FrmP FrmA RulA PrtA PrtB PrtC PrtD PrtE PrtF PrtG PrtH PrtI PrtJ PrtP
set_option linter.unusedVariables false
set_option linter.unusedSimpArgs false

theorem cut34 {b : Bs} (h : 34 ≤ b.length) : b.take 1 ++ ((b.drop 1).take 8 ++ ((b.drop 9).take 8 ++ ((b.drop 17).take 8 ++ ((b.drop 25).take 8 ++ ((b.drop 33).take 1 ++ b.drop 34))))) = b := by
  have s0 := List.take_append_drop 1 b
  have s1 : (b.drop 1).take 8 ++ b.drop 9 = b.drop 1 := by
    have := List.take_append_drop 8 (b.drop 1)
    rwa [List.drop_drop] at this
  have s2 : (b.drop 9).take 8 ++ b.drop 17 = b.drop 9 := by
    have := List.take_append_drop 8 (b.drop 9)
    rwa [List.drop_drop] at this
  have s3 : (b.drop 17).take 8 ++ b.drop 25 = b.drop 17 := by
    have := List.take_append_drop 8 (b.drop 17)
    rwa [List.drop_drop] at this
  have s4 : (b.drop 25).take 8 ++ b.drop 33 = b.drop 25 := by
    have := List.take_append_drop 8 (b.drop 25)
    rwa [List.drop_drop] at this
  have s5 : (b.drop 33).take 1 ++ b.drop 34 = b.drop 33 := by
    have := List.take_append_drop 1 (b.drop 33)
    rwa [List.drop_drop] at this
  rw [s5, s4, s3, s2, s1, s0]

theorem one0 {b : Bs} (h : 34 ≤ b.length) : [b.getD 0 0] = b.take 1 := by
  match b, h with
  | x :: r, _ => rfl
theorem one33 {b : Bs} (h : 34 ≤ b.length) : [b.getD 33 0] = (b.drop 33).take 1 := by
  have h33 : b[33]? = some (b.getD 33 0) := by
    rw [List.getD_eq_getElem?_getD, List.getElem?_eq_getElem (show 33 < b.length by omega)]
    rfl
  rw [List.take_one, List.head?_drop, h33]
  rfl

theorem wb_core {b : Bs} {n0 n1 n2 n3 : Int} {wt lt : Nat} {tx : Bs} (hl : 34 ≤ b.length) (hw : wt = (b.getD 0 0).toNat) (hlt : lt = (b.getD 33 0).toNat)
    (f0 : n0 = num ((b.drop 1).take 8)) (f1 : n1 = num ((b.drop 9).take 8)) (f2 : n2 = num ((b.drop 17).take 8)) (f3 : n3 = num ((b.drop 25).take 8)) (k0 : 0 ≤ n0) (k1 : 0 ≤ n1) (k2 : 0 ≤ n2) (k3 : 0 ≤ n3) (htx : tx = b.drop 34) :
    [UInt8.ofNat wt] ++ encs [n0.toNat, n1.toNat, n2.toNat, n3.toNat] ++ [UInt8.ofNat lt] ++ tx = b := by
  have l8 : ∀ k, k + 8 ≤ b.length → ((b.drop k).take 8).length = 8 := fun k hk => by
    rw [List.length_take, List.length_drop]
    omega
  have c0 : enc n0.toNat = (b.drop 1).take 8 := by rw [f0]; exact enc_num (l8 1 (by omega)) (f0 ▸ k0)
  have c1 : enc n1.toNat = (b.drop 9).take 8 := by rw [f1]; exact enc_num (l8 9 (by omega)) (f1 ▸ k1)
  have c2 : enc n2.toNat = (b.drop 17).take 8 := by rw [f2]; exact enc_num (l8 17 (by omega)) (f2 ▸ k2)
  have c3 : enc n3.toNat = (b.drop 25).take 8 := by rw [f3]; exact enc_num (l8 25 (by omega)) (f3 ▸ k3)
  have he : encs [n0.toNat, n1.toNat, n2.toNat, n3.toNat] = enc n0.toNat ++ (enc n1.toNat ++ (enc n2.toNat ++ enc n3.toNat)) := by
    unfold encs
    rw [List.flatMap_cons, List.flatMap_cons, List.flatMap_cons, List.flatMap_cons, List.flatMap_nil, List.append_nil]
  have u0 : UInt8.ofNat wt = b.getD 0 0 := by rw [hw]; exact UInt8.ofNat_toNat
  have u1 : UInt8.ofNat lt = b.getD 33 0 := by rw [hlt]; exact UInt8.ofNat_toNat
  rw [he, c0, c1, c2, c3, u0, u1, one0 hl, one33 hl, htx]
  rw [List.append_assoc, List.append_assoc, List.append_assoc, List.append_assoc, List.append_assoc]
  exact cut34 hl

theorem wb_nums {b : Bs} (h3 : rightQ (rqO b) = true) : 0 ≤ nO b 0 ∧ 0 ≤ nO b 1 ∧ 0 ≤ nO b 2 ∧ 0 ≤ nO b 3 := by
  obtain ⟨id, flow, count, token, want, he, -, -, -, -, -, -, -⟩ := right_nums h3
  have q0 : (rqO b).id = id := by rw [he]
  have q1 : (rqO b).flow = flow := by rw [he]
  have q2 : (rqO b).count = count := by rw [he]
  have q3 : (rqO b).token = token := by rw [he]
  have p0 : (rqO b).id = nO b 0 := rfl
  have p1 : (rqO b).flow = nO b 1 := rfl
  have p2 : (rqO b).count = nO b 2 := rfl
  have p3 : (rqO b).token = nO b 3 := rfl
  rw [← p0, ← p1, ← p2, ← p3, q0, q1, q2, q3]
  exact ⟨Int.natCast_nonneg _, Int.natCast_nonneg _, Int.natCast_nonneg _, Int.natCast_nonneg _⟩

theorem wb_len {b : Bs} {r : Bool} (h : wholeB b (endR b) r = true) : r = true ∧ b.length = 34 + lenT b := by
  unfold wholeB at h
  simp only [Bool.and_eq_true, Bool.not_eq_true', decide_eq_false_iff_not] at h
  obtain ⟨⟨h1, h2⟩, h3⟩ := h
  refine ⟨h3, ?_⟩
  have hL : 34 + lenT b ≤ b.length := by
    rcases Nat.lt_or_ge b.length (34 + lenT b) with h5 | h5
    · rw [endR_short (.inr h5)] at h1; cases h1
    · exact h5
  rw [(endR_there hL).1] at h2
  have h2 : ¬ (34 + lenT b < b.length) := h2
  omega

theorem encR_eq (b : Bs) : encR (rqO b) = [UInt8.ofNat (wantO b)] ++ encs [(nO b 0).toNat, (nO b 1).toNat, (nO b 2).toNat, (nO b 3).toNat] ++ [UInt8.ofNat (txR b).size] ++ (txR b).data.toList := rfl

/-- what was read is written as it was -/
theorem write_back {b : Bs} (h : wholeB b (endR b) (rightQ (rqO b)) = true) : rightQ (rqO b) = true ∧ encR (rqO b) = b := by
  obtain ⟨h3, hlen⟩ := wb_len h
  refine ⟨h3, ?_⟩
  have h34 : 34 ≤ b.length := by omega
  obtain ⟨e1, e4⟩ := endR_there (b := b) (Nat.le_of_eq hlen.symm)
  obtain ⟨_, e2, e3⟩ := there (b := b) (Nat.le_of_succ_le h34)
  obtain ⟨k0, k1, k2, k3⟩ := wb_nums h3
  have htk : (b.drop 34).take (lenT b) = b.drop 34 := List.take_of_length_le (by rw [List.length_drop]; omega)
  rw [htk] at e4
  have hsz : (txR b).size = lenT b := by
    rw [e4]
    have : (⟨(b.drop 34).toArray⟩ : ByteArray).size = (b.drop 34).length := rfl
    rw [this, List.length_drop]
    omega
  have htx : (txR b).data.toList = b.drop 34 := by rw [e4]
  rw [encR_eq, hsz, htx]
  exact wb_core h34 e2 rfl (e3 0 (by decide)) (e3 1 (by decide)) (e3 2 (by decide)) (e3 3 (by decide)) k0 k1 k2 k3 rfl

end Go.Proofs.Ytbpajgkhajheaaa.PrtS

/- Requests and answers as arguments; what becomes of them there and back. -/
namespace Go.Proofs.Ytbpajgkhajheaaa.PrtX
open Go.ChangeShapes Go.WideShapes Go.ChangeAt Go.RowKit Go.Deep Base Opn Wri Vrw FrmP FrmA FrmX FrmY RulA PrtA PrtB PrtC PrtD PrtE PrtF PrtG PrtH PrtI PrtJ PrtP PrtQ PrtS PrtU PrtV
set_option linter.unusedVariables false
set_option linter.unusedSimpArgs false

section
variable {H : Type} {enc : TypeId × Value → H} {P : Program} {w : World} {base : Nat} {spare : Nat → Bool} {held : Bool}

/-- a field of a struct that is an argument, and what it weighs -/
theorem arg_sized {e : TypeId} {fs : Array Field} {n : Nat} {cs : List Value} {y : DataW H × List MemPlace} (he : P.underlying e = some (.struct fs)) (hone : oneCellFields P fs = true) (hC : P.cellsOf e = fs.size)
    (ht : DataW.trod enc P w base spare held n e cs = some y) (j : Nat) (f : Field) (hj : fs[j]? = some f) :
    ∃ v z k, cs[j]? = some v ∧ DataW.trod enc P w base spare held k f.type [v] = some z ∧ ∀ m ∈ z.1.weights P f.type, m ∈ y.1.weights P e := by
  obtain ⟨xs, k, _, hy, hlen, hxl, hg⟩ := DataW.trod_struct he ht
  obtain ⟨o1, o2⟩ := hone_of hone j f hj
  have hjs : j < fs.size := (Array.getElem?_eq_some_iff.1 hj).1
  have hjc : j < cs.length := by omega
  have hg := hg j f hj
  rw [o1, o2, List.drop_eq_getElem_cons hjc] at hg
  simp only [List.take_succ_cons, List.take_zero] at hg
  obtain ⟨z, hz⟩ : ∃ z, xs[j]? = some z := ⟨xs[j]'(by omega), List.getElem?_eq_getElem (by omega)⟩
  refine ⟨cs[j], z, k, List.getElem?_eq_getElem hjc, by rw [hg, hz], fun m hm => ?_⟩
  have hy1 : y.1 = .agg (xs.map (·.1)) := by rw [hy]
  rw [hy1]
  unfold DataW.weights
  rw [he]
  exact DataW.weights_mem_each (j := j) (by rw [List.getElem?_map]; simp [hj]) (by rw [List.getElem?_map, hz]; rfl) m hm
end

set_option maxRecDepth 100000 in
theorem rq_of {H : Type} {enc : TypeId × Value → H} {W : World} {base b0 : Nat} {r : Reach} {spare : Nat → Bool} {held : Bool} {v : Value} {d : DataW H} {p : List MemPlace}
    (hv : Value.okWide Try.prog W r b0 59 v) (h : DataW.Trod enc Try.prog W base spare held 59 v d p) :
    ∃ r : Rq, v = rv r ∧ r.text.size ≤ maxLen := by
  obtain ⟨fuel, hf⟩ := h
  obtain ⟨fs, hu, h1, h2, h5, ht⟩ : ∃ fs, Try.prog.underlying 59 = some (.struct fs) ∧ oneCellFields Try.prog fs = true ∧ Try.prog.cellsOf 59 = fs.size ∧ fs.size = 6 ∧
    (fs.toList.map (·.type)) = [3, 57, 3, 3, 9, 3] := ⟨_, Try.underlying59, by kernel_rfl, by kernel_rfl, by kernel_rfl, by kernel_rfl⟩
  obtain ⟨cs, rfl, hcs⟩ := okWide_struct hu hv
  have hf : DataW.trod enc Try.prog W base spare held fuel 59 cs.toList = some (d, p) := by
    rw [show (Value.agg cs).cells = cs from by unfold Value.cells; rfl] at hf
    exact hf
  have hcl : cs.toList.length = 6 := by rw [Array.length_toList, hcs, h2, h5]
  have hty : ∀ j (hj : j < 6), ∃ f, fs[j]? = some f ∧ some f.type = ([3, 57, 3, 3, 9, 3] : List TypeId)[j]? := fun j hj => by
    refine ⟨fs[j]'(by omega), Array.getElem?_eq_getElem (by omega), ?_⟩
    rw [← ht]
    simp [h5, hj]
  obtain ⟨f0, g0, t0⟩ := hty 0 (by omega)
  obtain ⟨f1, g1, t1⟩ := hty 1 (by omega)
  obtain ⟨f2, g2, t2⟩ := hty 2 (by omega)
  obtain ⟨f3, g3, t3⟩ := hty 3 (by omega)
  obtain ⟨f4, g4, t4⟩ := hty 4 (by omega)
  obtain ⟨f5, g5, t5⟩ := hty 5 (by omega)
  obtain ⟨v0, z0, k0, c0, r0, _⟩ := arg_sized hu h1 h2 hf 0 f0 g0
  obtain ⟨v1, z1, k1, c1, r1, _⟩ := arg_sized hu h1 h2 hf 1 f1 g1
  obtain ⟨v2, z2, k2, c2, r2, _⟩ := arg_sized hu h1 h2 hf 2 f2 g2
  obtain ⟨v3, z3, k3, c3, r3, _⟩ := arg_sized hu h1 h2 hf 3 f3 g3
  obtain ⟨v4, z4, k4, c4, r4, _⟩ := arg_sized hu h1 h2 hf 4 f4 g4
  obtain ⟨v5, z5, k5, c5, r5, _⟩ := arg_sized hu h1 h2 hf 5 f5 g5
  simp only [List.getElem?_cons_zero, List.getElem?_cons_succ, Option.some.injEq] at t0 t1 t2 t3 t4 t5
  rw [t0] at r0
  rw [t1] at r1
  rw [t2] at r2
  rw [t3] at r3
  rw [t4] at r4
  rw [t5] at r5
  obtain ⟨n0, e0, _, w0⟩ := DataW.trod_int Try.underlying3 r0
  obtain ⟨n1, e1, _, w1⟩ := DataW.trod_int Try.underlying57 r1
  obtain ⟨n2, e2, _, w2⟩ := DataW.trod_int Try.underlying3 r2
  obtain ⟨n3, e3, _, w3⟩ := DataW.trod_int Try.underlying3 r3
  obtain ⟨n4, e4, _, w4⟩ := DataW.trod_string Try.underlying9 r4
  obtain ⟨n5, e5, _, w5⟩ := DataW.trod_int Try.underlying3 r5
  simp only [List.cons.injEq, and_true] at e0 e1 e2 e3 e4 e5
  subst e0 e1 e2 e3 e4 e5
  refine ⟨⟨n0, n1, n2, n3, n4, n5⟩, ?_, w4⟩
  unfold rv
  congr 1
  apply Array.ext'
  match hl : cs.toList, hcl with
  | [x0, x1, x2, x3, x4, x5], _ =>
    rw [hl] at c0 c1 c2 c3 c4 c5
    simp at c0 c1 c2 c3 c4 c5
    simp [c0, c1, c2, c3, c4, c5]

set_option maxRecDepth 100000 in
theorem aw_of {H : Type} {enc : TypeId × Value → H} {W : World} {base b0 : Nat} {r : Reach} {spare : Nat → Bool} {held : Bool} {v : Value} {d : DataW H} {p : List MemPlace}
    (hv : Value.okWide Try.prog W r b0 62 v) (h : DataW.Trod enc Try.prog W base spare held 62 v d p) :
    ∃ r : Aw, v = av r ∧ 0 ≤ r.status ∧ r.status ≤ 255 := by
  obtain ⟨fuel, hf⟩ := h
  obtain ⟨fs, hu, h1, h2, h5, ht⟩ : ∃ fs, Try.prog.underlying 62 = some (.struct fs) ∧ oneCellFields Try.prog fs = true ∧ Try.prog.cellsOf 62 = fs.size ∧ fs.size = 5 ∧
    (fs.toList.map (·.type)) = [3, 60, 3, 3, 3] := ⟨_, Try.underlying62, by kernel_rfl, by kernel_rfl, by kernel_rfl, by kernel_rfl⟩
  obtain ⟨cs, rfl, hcs⟩ := okWide_struct hu hv
  have hf : DataW.trod enc Try.prog W base spare held fuel 62 cs.toList = some (d, p) := by
    rw [show (Value.agg cs).cells = cs from by unfold Value.cells; rfl] at hf
    exact hf
  have hcl : cs.toList.length = 5 := by rw [Array.length_toList, hcs, h2, h5]
  have hty : ∀ j (hj : j < 5), ∃ f, fs[j]? = some f ∧ some f.type = ([3, 60, 3, 3, 3] : List TypeId)[j]? := fun j hj => by
    refine ⟨fs[j]'(by omega), Array.getElem?_eq_getElem (by omega), ?_⟩
    rw [← ht]
    simp [h5, hj]
  obtain ⟨f0, g0, t0⟩ := hty 0 (by omega)
  obtain ⟨f1, g1, t1⟩ := hty 1 (by omega)
  obtain ⟨f2, g2, t2⟩ := hty 2 (by omega)
  obtain ⟨f3, g3, t3⟩ := hty 3 (by omega)
  obtain ⟨f4, g4, t4⟩ := hty 4 (by omega)
  obtain ⟨v0, z0, k0, c0, r0, _⟩ := arg_sized hu h1 h2 hf 0 f0 g0
  obtain ⟨v1, z1, k1, c1, r1, _⟩ := arg_sized hu h1 h2 hf 1 f1 g1
  obtain ⟨v2, z2, k2, c2, r2, _⟩ := arg_sized hu h1 h2 hf 2 f2 g2
  obtain ⟨v3, z3, k3, c3, r3, _⟩ := arg_sized hu h1 h2 hf 3 f3 g3
  obtain ⟨v4, z4, k4, c4, r4, _⟩ := arg_sized hu h1 h2 hf 4 f4 g4
  simp only [List.getElem?_cons_zero, List.getElem?_cons_succ, Option.some.injEq] at t0 t1 t2 t3 t4
  rw [t0] at r0
  rw [t1] at r1
  rw [t2] at r2
  rw [t3] at r3
  rw [t4] at r4
  obtain ⟨n0, e0, _, w0⟩ := DataW.trod_int Try.underlying3 r0
  obtain ⟨n1, e1, _, w1⟩ := DataW.trod_int Try.underlying60 r1
  obtain ⟨n2, e2, _, w2⟩ := DataW.trod_int Try.underlying3 r2
  obtain ⟨n3, e3, _, w3⟩ := DataW.trod_int Try.underlying3 r3
  obtain ⟨n4, e4, _, w4⟩ := DataW.trod_int Try.underlying3 r4
  simp only [List.cons.injEq, and_true] at e0 e1 e2 e3 e4
  subst e0 e1 e2 e3 e4
  have hk : 0 ≤ n1 ∧ n1 ≤ 255 := by
    simp [Lit.wf, IntKind.min, IntKind.max, IntKind.bits, IntKind.signed] at w1
    omega
  refine ⟨⟨n0, n1, n2, n3, n4⟩, ?_, hk⟩
  unfold av
  congr 1
  apply Array.ext'
  match hl : cs.toList, hcl with
  | [x0, x1, x2, x3, x4], _ =>
    rw [hl] at c0 c1 c2 c3 c4
    simp at c0 c1 c2 c3 c4
    simp [c0, c1, c2, c3, c4]


theorem request_right (r : Rq) (W : World) (hs : r.text.size ≤ maxLen) (hr : rightQ r = true) : Calls Try.prog 36 #[.agg #[.int .i64 r.id, .int .u8 r.want, .int .i64 r.flow, .int .i64 r.count, .string r.text, .int .i64 r.token]] W fun e w' =>
    ∃ va vc n, n ≤ 98 ∧ e = .returned (.tuple #[.slice va n vc, .int .i64 0]) ∧ Below W.heap.size W w' ∧ Hid (Calls Try.prog 46 #[.slice va n vc] w' fun e w'' => e = .returned (.tuple #[.agg #[.int .i64 r.id, .int .u8 r.want, .int .i64 r.flow, .int .i64 r.count, .string r.text, .int .i64 r.token], .int .i64 0, .int .i64 0]) ∧ Below w'.heap.size w' w'') := by
  refine (request_any r W hs).mono fun e w' h => ?_
  obtain ⟨va, vc, he, hown, hb⟩ := h
  rw [hr] at he hown
  have ho : outB true (encR r) = encR r := rfl
  rw [ho] at he hown
  obtain ⟨k1, k2, k3, k4⟩ := own_bytes hown rfl
  have HR := readRequest_any va vc (encR r) w' (hid k4) k1 k2 k3
  rw [read_back hr] at HR
  have hl : (encR r).length ≤ 98 := by
    obtain ⟨_, _, _, _, _, _, _, _, _, _, _, _, h7⟩ := right_nums hr
    unfold encR
    rw [bytesR_len]
    omega
  exact ⟨va, vc, _, hl, he, hb, hid HR⟩

theorem request_wrong (r : Rq) (W : World) (hs : r.text.size ≤ maxLen) (hr : rightQ r = false) : Calls Try.prog 36 #[.agg #[.int .i64 r.id, .int .u8 r.want, .int .i64 r.flow, .int .i64 r.count, .string r.text, .int .i64 r.token]] W fun e w' =>
    ∃ va vc, e = .returned (.tuple #[.slice va 0 vc, .int .i64 6]) ∧ Below W.heap.size W w' := by
  refine (request_any r W hs).mono fun e w' h => ?_
  obtain ⟨va, vc, he, hown, hb⟩ := h
  rw [hr] at he
  exact ⟨va, vc, he, hb⟩

theorem answer_right (r : Aw) (W : World) (h0 : 0 ≤ r.status) (h1 : r.status ≤ 255) (hr : rightA r = true) : Calls Try.prog 38 #[.agg #[.int .i64 r.id, .int .u8 r.status, .int .i64 r.left, .int .i64 r.wait, .int .i64 r.token]] W fun e w' =>
    ∃ va vc n, e = .returned (.tuple #[.slice va n vc, .int .i64 0]) ∧ Below W.heap.size W w' ∧ Hid (Calls Try.prog 48 #[.slice va n vc] w' fun e w'' => e = .returned (.tuple #[.agg #[.int .i64 r.id, .int .u8 r.status, .int .i64 r.left, .int .i64 r.wait, .int .i64 r.token], .int .i64 0, .int .i64 0]) ∧ Below w'.heap.size w' w'') := by
  refine (answer_any r W h0 h1).mono fun e w' h => ?_
  obtain ⟨va, vc, he, hown, hb⟩ := h
  rw [hr] at he hown
  have ho : outB true (encA r) = encA r := rfl
  rw [ho] at he hown
  obtain ⟨k1, k2, k3, k4⟩ := own_bytes hown rfl
  have HR := readAnswer_any va vc (encA r) w' (hid k4) k1 k2 k3
  rw [answer_back hr] at HR
  exact ⟨va, vc, _, he, hb, hid HR⟩

theorem answer_wrong (r : Aw) (W : World) (h0 : 0 ≤ r.status) (h1 : r.status ≤ 255) (hr : rightA r = false) : Calls Try.prog 38 #[.agg #[.int .i64 r.id, .int .u8 r.status, .int .i64 r.left, .int .i64 r.wait, .int .i64 r.token]] W fun e w' =>
    ∃ va vc, e = .returned (.tuple #[.slice va 0 vc, .int .i64 6]) ∧ Below W.heap.size W w' := by
  refine (answer_any r W h0 h1).mono fun e w' h => ?_
  obtain ⟨va, vc, he, hown, hb⟩ := h
  rw [hr] at he
  exact ⟨va, vc, he, hb⟩

theorem request_read {s : Bs} (h : wholeB s (endR s) (rightQ (rqO s)) = true) (W : World) : Calls Try.prog 36 #[.agg #[.int .i64 (rqO s).id, .int .u8 (rqO s).want, .int .i64 (rqO s).flow, .int .i64 (rqO s).count, .string (rqO s).text, .int .i64 (rqO s).token]] W fun e w' =>
    ∃ va vc, e = .returned (.tuple #[.slice va s.length vc, .int .i64 0]) ∧ Below W.heap.size W w' ∧ BAt w' w'.heap.size va s := by
  obtain ⟨h1, h2⟩ := write_back h
  have hs : (rqO s).text.size ≤ maxLen := by
    obtain ⟨_, _, _, _, _, _, _, _, _, _, _, _, h7⟩ := right_nums h1
    unfold maxLen
    omega
  refine (request_any (rqO s) W hs).mono fun e w' h => ?_
  obtain ⟨va, vc, he, hown, hb⟩ := h
  rw [h1] at he hown
  have ho : outB true (encR (rqO s)) = s := h2
  rw [ho] at he hown
  obtain ⟨k1, k2, k3, k4⟩ := own_bytes hown rfl
  exact ⟨va, vc, he, hb, k4 _ k3⟩

theorem read_cases (s : Bs) : (wholeB s (endR s) (rightQ (rqO s)) = true ∧ toldRequest s = .tuple #[.agg #[.int .i64 (rqO s).id, .int .u8 (rqO s).want, .int .i64 (rqO s).flow, .int .i64 (rqO s).count, .string (rqO s).text, .int .i64 (rqO s).token], .int .i64 0, .int .i64 0]) ∨
    ∃ (p : Int), toldRequest s = .tuple #[.agg #[.int .i64 0, .int .u8 0, .int .i64 0, .int .i64 0, .string ⟨#[]⟩, .int .i64 0], .int .i64 6, .int .i64 p] := by
  unfold toldRequest
  split
  · exact .inl ⟨by assumption, rfl⟩
  · exact .inr ⟨_, rfl⟩

end Go.Proofs.Ytbpajgkhajheaaa.PrtX

/- The law ProtoBack. -/
namespace Go.Proofs.Ytbpajgkhajheaaa.PrtY
open Go.ChangeShapes Go.WideShapes Go.ChangeAt Go.RowKit Go.Deep Base Opn Wri Vrw FrmP FrmA FrmX FrmY RulA PrtA PrtB PrtC PrtD PrtE PrtF PrtG PrtH PrtI PrtJ PrtP PrtQ PrtS PrtU PrtV PrtX
set_option linter.unusedVariables false
set_option linter.unusedSimpArgs false

set_option maxRecDepth 100000 in
theorem slice_lt {W : World} {b0 : Nat} {r : Reach} {a0 : Option Addr} {l c : Nat} (hv : Value.okWide Try.prog W r b0 23 (.slice a0 l c)) : ∀ ad, a0 = some ad → ad.block < W.heap.size := fun ad e => by
  subst e
  simp only [Value.okWide, Try.underlying23, Cell.okWide, Cell.ok] at hv
  obtain ⟨_, _, _, _, row, cells, h, _⟩ := hv
  apply Decidable.byContradiction
  intro hn
  unfold World.shape? at h
  rw [Array.getElem?_eq_none (by omega)] at h
  cases h

/-- what stays: the request and the answer that came in, in their boxes -/
def Inv (w : World) (B : Nat) (r : Rq) (q : Aw) (W : World) : Prop := Below B w W ∧ B + 1 < W.heap.size ∧ Six W B (.int .i64 r.id) (.int .u8 r.want) (.int .i64 r.flow) (.int .i64 r.count) (.string r.text) (.int .i64 r.token) ∧ Five W (B + 1) (.int .i64 q.id) (.int .u8 q.status) (.int .i64 q.left) (.int .i64 q.wait) (.int .i64 q.token)
theorem Inv.step {w W W' : World} {B : Nat} {r : Rq} {q : Aw} (h : Inv w B r q W) (hb : Below W.heap.size W W') : Inv w B r q W' := by
  obtain ⟨h1, h2, h3, h4⟩ := h
  have hB : B ≤ W.heap.size := by omega
  exact ⟨h1.trans (hb.mono hB), Nat.lt_of_lt_of_le h2 hb.size, cells6 h3 hb (by omega), cells5 h4 hb h2⟩
theorem Inv.alloc {w W : World} {B : Nat} {r : Rq} {q : Aw} (h : Inv w B r q W) (o : Obj) : Inv w B r q (W.alloc o) := h.step ((Below.refl _ _).alloc (Nat.le_refl _) o)
theorem Inv.new (w : World) (r : Rq) (q : Aw) : Inv w w.heap.size r q ((w.alloc (.cells #[.int .i64 r.id, .int .u8 r.want, .int .i64 r.flow, .int .i64 r.count, .string r.text, .int .i64 r.token] 59)).alloc (.cells #[.int .i64 q.id, .int .u8 q.status, .int .i64 q.left, .int .i64 q.wait, .int .i64 q.token] 62)) := by
  refine ⟨((Below.refl _ _).alloc (Nat.le_refl _) _).alloc (by rw [size_alloc]; omega) _, by rw [size_alloc, size_alloc]; omega, ?_, ?_⟩
  · exact cells6 six_new ((Below.refl _ _).alloc (Nat.le_refl _) _) (by rw [size_alloc]; omega)
  · have := five_new (W := w.alloc (.cells #[.int .i64 r.id, .int .u8 r.want, .int .i64 r.flow, .int .i64 r.count, .string r.text, .int .i64 r.token] 59)) (a := .int .i64 q.id) (b := .int .u8 q.status) (c := .int .i64 q.left) (d := .int .i64 q.wait) (e := .int .i64 q.token) (t := 62)
    rwa [size_alloc] at this

set_option maxRecDepth 20000 in
set_option maxHeartbeats 8000000 in
theorem back_core (r : Rq) (q : Aw) (a : Option Addr) (c : Nat) (s : Bs) (w : World) (hs : r.text.size ≤ maxLen) (hq0 : 0 ≤ q.status) (hq1 : q.status ≤ 255) (hn : s.length ≤ 140737488351232) (hc : s.length ≤ c) (hc2 : c ≤ 9223372036854775807) (HB : Hid (BAt w w.heap.size a s)) (ha : ∀ ad, a = some ad → ad.block < w.heap.size) :
    Calls Try.prog 7 #[.agg #[.int .i64 r.id, .int .u8 r.want, .int .i64 r.flow, .int .i64 r.count, .string r.text, .int .i64 r.token], .agg #[.int .i64 q.id, .int .u8 q.status, .int .i64 q.left, .int .i64 q.wait, .int .i64 q.token], .slice a s.length c] w fun e w' => e = .returned (.bool true) ∧ Below w.heap.size w w' := by
  have K3 : Hid (∀ W', Below w.heap.size w W' → Calls Try.prog 46 #[.slice a s.length c] W' fun e w' => e = .returned (toldRequest s) ∧ Below W'.heap.size W' w') := hid fun W' hb => readRequest_any a c s W' (hid fun n0 h h0 => by obtain ⟨g, o, e, hg, hc⟩ := (HB.out.below hb) h0; exact ⟨g, o, e, h _ e, hc⟩) hc hc2 (fun ad e => Nat.lt_of_lt_of_le (ha ad e) hb.size)
  have K5 : Hid (∀ W' va vc, Below w.heap.size w W' → BAt W' W'.heap.size va s → Calls Try.prog 15 #[.slice va s.length vc, .slice a s.length c] W' fun e w' => e = .returned (.bool true) ∧ ∃ m, W'.drewN m = w') := hid fun W' va vc hb h => same_bytes va a vc c s W' (by omega) (hid h) (hid ((HB.out.below hb).mono hb.size))
  have HI := hid (Inv.new w r q)
  have HQ1 := hid (request_right r)
  have HQ2 := hid (request_wrong r)
  have HA1 := hid (answer_right q)
  have HA2 := hid (answer_wrong q)
  have HS := hid hs
  have HQ0 := hid hq0
  have HQ9 := hid hq1
  have HC := hid (read_cases s)
  have HRR : Hid (∀ W : World, wholeB s (endR s) (rightQ (rqO s)) = true → Calls Try.prog 36 #[.agg #[.int .i64 (rqO s).id, .int .u8 (rqO s).want, .int .i64 (rqO s).flow, .int .i64 (rqO s).count, .string (rqO s).text, .int .i64 (rqO s).token]] W fun e w' => ∃ va vc, e = .returned (.tuple #[.slice va s.length vc, .int .i64 0]) ∧ Below W.heap.size W w' ∧ BAt w' w'.heap.size va s) := hid fun W h => request_read h W
  obtain ⟨B, hB⟩ : ∃ B, w.heap.size = B := ⟨_, rfl⟩
  obtain ⟨L, hL⟩ : ∃ L, s.length = L := ⟨_, rfl⟩
  have HBe := hid hB
  rw [hB] at K3 K5 HI ⊢
  rw [hL] at K3 K5 HRR hn hc ⊢
  clear hB hL HB ha hs hq0 hq1
  cases hr : rightQ r with
  | false =>
    go_enter Try.func7, Try.ntmps7
    go_wp2_with fail
    rw [HBe.out]
    refine (HQ2.out _ HS.out hr).mono ?_
    rintro e w1 ⟨va1, vc1, rfl, hb⟩
    have HI := hid (HI.out.step hb)
    clear hb hr
    obtain ⟨u0, u1, u2, u3, u4⟩ := HI.out.2.2.2
    go_wp2_with fail
    clear u0 u1 u2 u3 u4
    cases hr2 : rightA q with
    | false =>
      refine (HA2.out _ HQ0.out HQ9.out hr2).mono ?_
      rintro e w9 ⟨va2, vc2, rfl, hb⟩
      have HI := hid (HI.out.step hb)
      clear hb hr2
      go_wp2_with fail
      refine (K3.out _ HI.out.1).mono ?_
      rintro e w3 ⟨rfl, hb⟩
      have HI3 := hid (HI.out.step hb)
      clear hb
      rcases HC.out with ⟨hwb, hto⟩ | ⟨pp, hto⟩
      · rw [hto]
        have HWB := hid hwb
        clear hto hwb
        go_wp2_with fail
        have HI4 := hid (HI3.out.alloc (.cells #[.int .i64 (rqO s).id, .int .u8 (rqO s).want, .int .i64 (rqO s).flow, .int .i64 (rqO s).count, .string (rqO s).text, .int .i64 (rqO s).token] 59))
        refine (HRR.out _ HWB.out).mono ?_
        rintro e w5 ⟨va, vc, rfl, hb, hbt⟩
        have HI5 := hid (HI4.out.step hb)
        have HT := hid hbt
        clear hb hbt
        go_wp2_with fail
        refine (K5.out _ va vc HI5.out.1 HT.out).mono ?_
        rintro e w6 ⟨rfl, m, rfl⟩
        have HI6 := hid (show Inv w B r q (w5.drewN m) from HI5.out.step (below_drewN (Below.refl _ _) m))
        go_wp2_with fail
        refine (PrtQ.live_any _).mono ?_
        rintro e w7 ⟨rfl, hb⟩
        have HI7 := hid (HI6.out.step hb)
        clear hb
        go_wp2_with fail
        go_ret
        exact ⟨rfl, HI7.out.1⟩
      · rw [hto]
        clear hto
        go_wp2_with fail
        have HI4 := hid (HI3.out.alloc (.cells #[.int .i64 0, .int .u8 0, .int .i64 0, .int .i64 0, .string ⟨#[]⟩, .int .i64 0] 59))
        refine (PrtQ.live_any _).mono ?_
        rintro e w7 ⟨rfl, hb⟩
        have HI7 := hid (HI4.out.step hb)
        clear hb
        go_wp2_with fail
        go_ret
        exact ⟨rfl, HI7.out.1⟩
    | true =>
      refine (HA1.out _ HQ0.out HQ9.out hr2).mono ?_
      rintro e w9 ⟨va2, vc2, n2, rfl, hb, hrd⟩
      have HI := hid (HI.out.step hb)
      clear hb hr2
      go_wp2_with fail
      refine hrd.out.mono ?_
      rintro e w10 ⟨rfl, hb⟩
      have HI := hid (HI.out.step hb)
      clear hb hrd
      obtain ⟨wq, hwq⟩ : ∃ wq, w10.alloc (.cells #[.int .i64 q.id, .int .u8 q.status, .int .i64 q.left, .int .i64 q.wait, .int .i64 q.token] 62) = wq := ⟨_, rfl⟩
      have HI := hid (HI.out.alloc (.cells #[.int .i64 q.id, .int .u8 q.status, .int .i64 q.left, .int .i64 q.wait, .int .i64 q.token] 62))
      have hN := five_new (W := w10) (a := .int .i64 q.id) (b := .int .u8 q.status) (c := .int .i64 q.left) (d := .int .i64 q.wait) (e := .int .i64 q.token) (t := 62)
      rw [hwq] at HI hN
      obtain ⟨u0, u1, u2, u3, u4⟩ := HI.out.2.2.2
      obtain ⟨y0, y1, y2, y3, y4⟩ := hN
      go_wp2_with fail
      clear u0 u1 u2 u3 u4 y0 y1 y2 y3 y4 hwq
      refine (K3.out _ HI.out.1).mono ?_
      rintro e w3 ⟨rfl, hb⟩
      have HI3 := hid (HI.out.step hb)
      clear hb
      rcases HC.out with ⟨hwb, hto⟩ | ⟨pp, hto⟩
      · rw [hto]
        have HWB := hid hwb
        clear hto hwb
        go_wp2_with fail
        have HI4 := hid (HI3.out.alloc (.cells #[.int .i64 (rqO s).id, .int .u8 (rqO s).want, .int .i64 (rqO s).flow, .int .i64 (rqO s).count, .string (rqO s).text, .int .i64 (rqO s).token] 59))
        refine (HRR.out _ HWB.out).mono ?_
        rintro e w5 ⟨va, vc, rfl, hb, hbt⟩
        have HI5 := hid (HI4.out.step hb)
        have HT := hid hbt
        clear hb hbt
        go_wp2_with fail
        refine (K5.out _ va vc HI5.out.1 HT.out).mono ?_
        rintro e w6 ⟨rfl, m, rfl⟩
        have HI6 := hid (show Inv w B r q (w5.drewN m) from HI5.out.step (below_drewN (Below.refl _ _) m))
        go_wp2_with fail
        refine (PrtQ.live_any _).mono ?_
        rintro e w7 ⟨rfl, hb⟩
        have HI7 := hid (HI6.out.step hb)
        clear hb
        go_wp2_with fail
        go_ret
        exact ⟨rfl, HI7.out.1⟩
      · rw [hto]
        clear hto
        go_wp2_with fail
        have HI4 := hid (HI3.out.alloc (.cells #[.int .i64 0, .int .u8 0, .int .i64 0, .int .i64 0, .string ⟨#[]⟩, .int .i64 0] 59))
        refine (PrtQ.live_any _).mono ?_
        rintro e w7 ⟨rfl, hb⟩
        have HI7 := hid (HI4.out.step hb)
        clear hb
        go_wp2_with fail
        go_ret
        exact ⟨rfl, HI7.out.1⟩
  | true =>
    go_enter Try.func7, Try.ntmps7
    go_wp2_with fail
    rw [HBe.out]
    refine (HQ1.out _ HS.out hr).mono ?_
    rintro e w1 ⟨va1, vc1, n1, hn98, rfl, hb, hrd⟩
    have HI := hid (HI.out.step hb)
    clear hb hr
    go_wp2_with fail
    refine hrd.out.mono ?_
    rintro e w2 ⟨rfl, hb⟩
    have HI := hid (HI.out.step hb)
    clear hb hrd
    obtain ⟨wa, hwa⟩ : ∃ wa, w2.alloc (.cells #[.int .i64 r.id, .int .u8 r.want, .int .i64 r.flow, .int .i64 r.count, .string r.text, .int .i64 r.token] 59) = wa := ⟨_, rfl⟩
    have HI := hid (HI.out.alloc (.cells #[.int .i64 r.id, .int .u8 r.want, .int .i64 r.flow, .int .i64 r.count, .string r.text, .int .i64 r.token] 59))
    have hN := six_new (W := w2) (a := .int .i64 r.id) (b := .int .u8 r.want) (c := .int .i64 r.flow) (d := .int .i64 r.count) (e := .string r.text) (f := .int .i64 r.token) (t := 59)
    rw [hwa] at HI hN
    obtain ⟨x0, x1, x2, x3, x4, x5⟩ := HI.out.2.2.1
    obtain ⟨z0, z1, z2, z3, z4, z5⟩ := hN
    obtain ⟨u0, u1, u2, u3, u4⟩ := HI.out.2.2.2
    go_wp2_with fail
    clear u0 u1 u2 u3 u4 x0 x1 x2 x3 x4 x5 z0 z1 z2 z3 z4 z5 hwa
    cases hr2 : rightA q with
    | false =>
      refine (HA2.out _ HQ0.out HQ9.out hr2).mono ?_
      rintro e w9 ⟨va2, vc2, rfl, hb⟩
      have HI := hid (HI.out.step hb)
      clear hb hr2
      go_wp2_with fail
      refine (K3.out _ HI.out.1).mono ?_
      rintro e w3 ⟨rfl, hb⟩
      have HI3 := hid (HI.out.step hb)
      clear hb
      rcases HC.out with ⟨hwb, hto⟩ | ⟨pp, hto⟩
      · rw [hto]
        have HWB := hid hwb
        clear hto hwb
        go_wp2_with fail
        have HI4 := hid (HI3.out.alloc (.cells #[.int .i64 (rqO s).id, .int .u8 (rqO s).want, .int .i64 (rqO s).flow, .int .i64 (rqO s).count, .string (rqO s).text, .int .i64 (rqO s).token] 59))
        refine (HRR.out _ HWB.out).mono ?_
        rintro e w5 ⟨va, vc, rfl, hb, hbt⟩
        have HI5 := hid (HI4.out.step hb)
        have HT := hid hbt
        clear hb hbt
        go_wp2_with fail
        refine (K5.out _ va vc HI5.out.1 HT.out).mono ?_
        rintro e w6 ⟨rfl, m, rfl⟩
        have HI6 := hid (show Inv w B r q (w5.drewN m) from HI5.out.step (below_drewN (Below.refl _ _) m))
        go_wp2_with fail
        refine (PrtQ.live_any _).mono ?_
        rintro e w7 ⟨rfl, hb⟩
        have HI7 := hid (HI6.out.step hb)
        clear hb
        go_wp2_with fail
        go_ret
        exact ⟨rfl, HI7.out.1⟩
      · rw [hto]
        clear hto
        go_wp2_with fail
        have HI4 := hid (HI3.out.alloc (.cells #[.int .i64 0, .int .u8 0, .int .i64 0, .int .i64 0, .string ⟨#[]⟩, .int .i64 0] 59))
        refine (PrtQ.live_any _).mono ?_
        rintro e w7 ⟨rfl, hb⟩
        have HI7 := hid (HI4.out.step hb)
        clear hb
        go_wp2_with fail
        go_ret
        exact ⟨rfl, HI7.out.1⟩
    | true =>
      refine (HA1.out _ HQ0.out HQ9.out hr2).mono ?_
      rintro e w9 ⟨va2, vc2, n2, rfl, hb, hrd⟩
      have HI := hid (HI.out.step hb)
      clear hb hr2
      go_wp2_with fail
      refine hrd.out.mono ?_
      rintro e w10 ⟨rfl, hb⟩
      have HI := hid (HI.out.step hb)
      clear hb hrd
      obtain ⟨wq, hwq⟩ : ∃ wq, w10.alloc (.cells #[.int .i64 q.id, .int .u8 q.status, .int .i64 q.left, .int .i64 q.wait, .int .i64 q.token] 62) = wq := ⟨_, rfl⟩
      have HI := hid (HI.out.alloc (.cells #[.int .i64 q.id, .int .u8 q.status, .int .i64 q.left, .int .i64 q.wait, .int .i64 q.token] 62))
      have hN := five_new (W := w10) (a := .int .i64 q.id) (b := .int .u8 q.status) (c := .int .i64 q.left) (d := .int .i64 q.wait) (e := .int .i64 q.token) (t := 62)
      rw [hwq] at HI hN
      obtain ⟨u0, u1, u2, u3, u4⟩ := HI.out.2.2.2
      obtain ⟨y0, y1, y2, y3, y4⟩ := hN
      go_wp2_with fail
      clear u0 u1 u2 u3 u4 y0 y1 y2 y3 y4 hwq
      refine (K3.out _ HI.out.1).mono ?_
      rintro e w3 ⟨rfl, hb⟩
      have HI3 := hid (HI.out.step hb)
      clear hb
      rcases HC.out with ⟨hwb, hto⟩ | ⟨pp, hto⟩
      · rw [hto]
        have HWB := hid hwb
        clear hto hwb
        go_wp2_with fail
        have HI4 := hid (HI3.out.alloc (.cells #[.int .i64 (rqO s).id, .int .u8 (rqO s).want, .int .i64 (rqO s).flow, .int .i64 (rqO s).count, .string (rqO s).text, .int .i64 (rqO s).token] 59))
        refine (HRR.out _ HWB.out).mono ?_
        rintro e w5 ⟨va, vc, rfl, hb, hbt⟩
        have HI5 := hid (HI4.out.step hb)
        have HT := hid hbt
        clear hb hbt
        go_wp2_with fail
        refine (K5.out _ va vc HI5.out.1 HT.out).mono ?_
        rintro e w6 ⟨rfl, m, rfl⟩
        have HI6 := hid (show Inv w B r q (w5.drewN m) from HI5.out.step (below_drewN (Below.refl _ _) m))
        go_wp2_with fail
        refine (PrtQ.live_any _).mono ?_
        rintro e w7 ⟨rfl, hb⟩
        have HI7 := hid (HI6.out.step hb)
        clear hb
        go_wp2_with fail
        go_ret
        exact ⟨rfl, HI7.out.1⟩
      · rw [hto]
        clear hto
        go_wp2_with fail
        have HI4 := hid (HI3.out.alloc (.cells #[.int .i64 0, .int .u8 0, .int .i64 0, .int .i64 0, .string ⟨#[]⟩, .int .i64 0] 59))
        refine (PrtQ.live_any _).mono ?_
        rintro e w7 ⟨rfl, hb⟩
        have HI7 := hid (HI4.out.step hb)
        clear hb
        go_wp2_with fail
        go_ret
        exact ⟨rfl, HI7.out.1⟩

set_option maxRecDepth 100000 in
theorem main {H : Type} {enc : TypeId × Value → H} {W : World} {base : Nat} {held : Bool} (r : Rq) (hs : r.text.size ≤ maxLen) (q : Aw) (hq : 0 ≤ q.status ∧ q.status ≤ 255) (a0 : Option Addr) (len0 cap0 : Nat) {d : DataW H} {p : List MemPlace}
    (h : DataW.Trod enc Try.prog W base (fun _ => true) held 23 (.slice a0 len0 cap0) d p) (hz : ∀ m ∈ d.weights Try.prog 23, m ≤ reachBytes) {b0 : Nat} {rr : Reach} (hv : Value.okWide Try.prog W rr b0 23 (.slice a0 len0 cap0)) :
    Calls Try.prog 7 #[rv r, av q, .slice a0 len0 cap0] W fun e w' => e = .returned (.bool true) ∧ Below W.heap.size W w' := by
  obtain ⟨s, rfl, hB, h1, h2, h3⟩ := bytes_sized h hz
  exact back_core r q a0 cap0 s W hs hq.1 hq.2 h3 h1 (by simpa [maxLen] using h2) (hid hB) (slice_lt hv)

end Go.Proofs.Ytbpajgkhajheaaa.PrtY

namespace Go.Proofs.Ytbpajgkhajheaaa.protoBack
open Go.ChangeShapes Go.WideShapes Go.ChangeAt Go.RowKit Go.Deep
open Go.ChangeMaps (open_string shut_string)
set_option linter.unusedVariables false

theorem own : ownKnob Try.prog.godebug = none := by kernel_rfl
theorem laidOut : laidOutB Try.prog = true := by kernel_rfl

set_option maxRecDepth 100000 in
set_option maxHeartbeats 2000000 in
theorem lifted (os : Os) (started : os.Started) (H : Type) (enc : TypeId × Value → H) :
    ReturnsInHanded {} Try.checked os 7 .any (Rows.protoBackSpec.pre6 enc Try.prog Try.f7 Rows.protoBackRow.domain false) (Rows.protoBackSpec.post enc Try.prog Try.f7 false true false false) := by
  refine returnsInHanded_of_change_sized (C := Try.checked) own started (by kernel_rfl) Try.func7
    (ChangeSpec.witness6 (enc := enc) (C := Try.checked) false ⟨#[], #[.agg #[.int .i64 0, .int .u8 0, .int .i64 0, .int .i64 0, .string ⟨#[]⟩, .int .i64 0], .agg #[.int .i64 0, .int .u8 0, .int .i64 0, .int .i64 0, .int .i64 0], .slice none 0 0], []⟩ 8 (by kernel_rfl) (by kernel_rfl) (by kernel_rfl) (by kernel_rfl)) ?_
  intro W base args ds gs before hval0 hW hcnd hsz0 _
  have hval : ∀ (j : Nat) t v, Try.f7.params[j]? = some t → args[j]? = some v → Value.okWide Try.prog W .any base t v := hval0
  have hW' := hW
  obtain ⟨p, q, hA0, hV, rfl, hfz, hnd⟩ := hW
  have hA : DataW.TrodAll enc Try.prog W 0 (fun _ => true) true Try.f7.params.toList args.toList ds p := hA0
  rw [Try.params7] at hA hval
  obtain ⟨v0, vs0, d0, ds0, p0, q0, hargs, rfl, rfl, h0, r0⟩ := trodAll_cons hA
  obtain ⟨v1, vs1, d1, ds1, p1, q1, rfl, rfl, rfl, h1, r1⟩ := trodAll_cons r0
  obtain ⟨v2, vs2, d2, ds2, p2, q2, rfl, rfl, rfl, h2, r2⟩ := trodAll_cons r1
  obtain ⟨rfl, rfl, rfl⟩ := trodAll_nil r2
  obtain rfl : args = #[v0, v1, v2] := by cases args; simp_all
  obtain ⟨rfl, rfl⟩ := trodVars_none hV
  obtain ⟨rq0, rfl, wq0⟩ := PrtX.rq_of (hval 0 59 v0 rfl rfl) h0
  obtain ⟨rq1, rfl, wq1⟩ := PrtX.aw_of (hval 1 62 v1 rfl rfl) h1
  obtain ⟨a2, len2, cap2, rfl⟩ := okWide_slice Try.underlying23 (hval 2 23 v2 rfl rfl)
  have k0 := h0
  have lt0 : ∀ x ∈ p0, x.block < W.heap.size := by obtain ⟨m, hm⟩ := k0; exact DataW.trod_lt m _ _ _ hm
  have k1 := h1
  have lt1 : ∀ x ∈ p1, x.block < W.heap.size := by obtain ⟨m, hm⟩ := k1; exact DataW.trod_lt m _ _ _ hm
  have k2 := h2
  have lt2 : ∀ x ∈ p2, x.block < W.heap.size := by obtain ⟨m, hm⟩ := k2; exact DataW.trod_lt m _ _ _ hm
  clear hA0 hval0
  refine (PrtY.main rq0 wq0 rq1 wq1 a2 len2 cap2 h2 (fun m hm => by have := List.all_eq_true.1 hsz0 m (DataW.weights_mem_each (j := 2) rfl rfl m hm); simpa using this) (hval 2 23 _ rfl rfl)).mono fun e W' ⟨he, bel⟩ => ?_
  subst he
  exact ⟨_, rfl, _, _, _, [], _, [], hW', trodAll_mk1 (shut_bool Try.underlying4 _), (trodAll_cons_mk (Below.trod laidOut (by kernel_rfl) (of_decide_eq_true (by kernel_rfl)) k0 bel lt0) (trodAll_cons_mk (Below.trod laidOut (by kernel_rfl) (of_decide_eq_true (by kernel_rfl)) k1 bel lt1) (trodAll_cons_mk (Below.trod laidOut (by kernel_rfl) (of_decide_eq_true (by kernel_rfl)) k2 bel lt2) trodAll_mk0))), rfl, bel.frame _, fun h => by cases h⟩

theorem over : Rows.protoBackRow.holds Try.pinned (OpenSpec.ofChange Rows.protoBackSpec) :=
  OpenClaim.holds_of_wide 7 Try.f7 rfl rfl rfl rfl rfl rfl rfl ⟨rfl, rfl, rfl, rfl, rfl⟩ rfl rfl rfl rfl rfl (by kernel_rfl) Try.func7 (by kernel_rfl)
    (of_decide_eq_true (by kernel_rfl)) (by unfold Func.isWrapper; first | (rw [if_pos (by decide +kernel)]; kernel_rfl) | (rw [if_neg (by decide +kernel)]; exact ⟨rfl, rfl⟩))
    (fun os started H enc _ => lifted os started H enc)

theorem proved : Rows.ProtoBackSaid := over
#print axioms proved
end Go.Proofs.Ytbpajgkhajheaaa.protoBack
