/- The first rule that is wrong. -/
import Derived.Test.YtcedbgoopolmdaaRulE
namespace Go.Proofs.Ytcedbgoopolmdaa.RulF
open Go.ChangeShapes Go.WideShapes Go.ChangeAt Go.RowKit Base RulA RulB RulD RulE

/-- the first rule that is wrong, and how -/
def WRes (n : Nat → Nat) (err : Nat → Nat → Int) (k i : Nat) (er : Int) : Prop :=
  (∃ j, j < 5 ∧ 256 < n j ∧ (∀ x, x < j → n x ≤ 256) ∧ k = j + 1 ∧ i = 0 ∧ er = 5) ∨
  ((∀ j, j < 5 → n j ≤ 256) ∧ ∃ j, j < 5 ∧ i < n j ∧ err j i ≠ 0 ∧ (∀ x, x < j → ∀ y, y < n x → err x y = 0) ∧ (∀ y, y < i → err j y = 0) ∧ k = j + 1 ∧ er = err j i) ∨
  ((∀ j, j < 5 → n j ≤ 256) ∧ (∀ j, j < 5 → ∀ y, y < n j → err j y = 0) ∧ k = 0 ∧ i = 0 ∧ er = 0)

def WherePost (n : Nat → Nat) (err : Nat → Nat → Int) (w : World) (e : Ending) (w' : World) : Prop :=
  ∃ (k i : Nat) (er : Int), e = .returned (.tuple #[.int .u8 k, .int .i64 i, .int .i64 er]) ∧ WRes n err k i er ∧ Below w.heap.size w w'

/-- what the function of a kind's number j says of its rule i -/
def Says (a : Nat → Option Addr) (n cap : Nat → Nat) (err : Nat → Nat → Int) (w : World) : Prop :=
  ∀ (j i b : Nat) (W : World), j < 5 → i < n j → n j ≤ 256 → Below w.heap.size w W → Held W b (a j) (n j) (cap j) (lkF j) (isF j) →
    Calls Try.prog (wrF j) #[.int .i64 i, .pointer (some ⟨b + 1, 0, none⟩), .pointer (some ⟨b, 0, none⟩)] W fun e W' => e = .returned (.int .i64 (err j i)) ∧ Below W.heap.size W W'

theorem enter_wr (m : Nat) (h : m < 5) (args : Array Value) (w : World) : (callFunc (wrF m) args).run Try.prog w = .ok (.enter (wrF m) args) w := by
  rcases (show m = 0 ∨ m = 1 ∨ m = 2 ∨ m = 3 ∨ m = 4 by omega) with rfl | rfl | rfl | rfl | rfl <;> (simp only [wrF]; go_simp)

set_option maxRecDepth 100000 in
set_option maxHeartbeats 2000000 in
theorem Where_any (a : Nat → Option Addr) (n cap : Nat → Nat) (err : Nat → Nat → Int) (w : World) (HC : Hid (Says a n cap err w)) :
    Calls Try.prog 28 #[.agg #[.slice (a 0) (n 0) (cap 0), .slice (a 1) (n 1) (cap 1), .slice (a 2) (n 2) (cap 2), .slice (a 3) (n 3) (cap 3), .slice (a 4) (n 4) (cap 4)]] w (WherePost n err w) := by
  go_enter Try.func28, Try.ntmps28
  go_wp2_with fail
  refine (kinds_any a n cap _).mono ?_
  rintro e w1 ⟨g, b, rfl, hg, hk, hb⟩
  have HB1 : Hid (Below w.heap.size w w1) := hid (((Below.refl _ w).alloc (Nat.le_refl _) _).trans (hb.mono (by simp)))
  have HK := hid hk
  clear hb hk
  go_wp2_with fail
  go_loopw [16] (fun i wr => ∃ m : Nat, m ≤ 5 ∧ i = .int .i64 m ∧ (∀ x, x < m → n x ≤ 256) ∧ Below w1.heap.size w1 wr) (fun i _ => 5 - (intOf i).toNat)
  case atStart => exact ⟨0, by omega, rfl, fun x h => by omega, Below.refl _ _⟩
  case round =>
    obtain ⟨m, hm, rfl, hle, hb⟩ := hrel
    have HL := hid hle
    have HB := hid hb
    have hg2 := Nat.lt_of_lt_of_le hg hb.size
    by_cases hlt : m < 5
    · have hcs := (HK.out m hlt).1
      have c0 : wr.cell? ⟨g, m * 4, none⟩ = some (.int .u8 ((m + 1 : Nat) : Int)) := (hb.cell (p := ⟨g, m * 4, none⟩) hg).trans (hcs 0 _ rfl)
      have c1 : wr.cell? ⟨g, m * 4 + 1, none⟩ = some (.int .i64 (n m)) := (hb.cell (p := ⟨g, m * 4 + 1, none⟩) hg).trans (hcs 1 _ rfl)
      have c2 : wr.cell? ⟨g, m * 4 + 2, none⟩ = some (.func (Fn.func (wrF m)) #[] #[.pointer (some ⟨b m + 1, 0, none⟩), .pointer (some ⟨b m, 0, none⟩)]) := (hb.cell (p := ⟨g, m * 4 + 2, none⟩) hg).trans (hcs 2 _ rfl)
      have c3 : wr.cell? ⟨g, m * 4 + 3, none⟩ = some (.func (Fn.func (ofF m)) #[] #[.pointer (some ⟨b m + 2, 0, none⟩), .pointer (some ⟨b m, 0, none⟩)]) := (hb.cell (p := ⟨g, m * 4 + 3, none⟩) hg).trans (hcs 3 _ rfl)
      clear hcs hb hle
      by_cases hbig : 256 < n m
      · go_wp2_with fail
        go_ret3
        exact ⟨m + 1, 0, 5, rfl, .inl ⟨m, hlt, hbig, HL.out, rfl, rfl, rfl⟩, (HB1.out.trans (HB.out.mono HB1.out.size)).alloc (Nat.le_trans HB1.out.size HB.out.size) _⟩
      · have hd : decide (256 < (n m : Int)) = false := by simp; omega
        go_wp2_with fail
        go_roundw
        case rel => exact ⟨m + 1, by omega, by go_num, (fun x hx => (by
          rcases Nat.lt_or_ge x m with e | e
          · exact HL.out x e
          · obtain rfl : x = m := by omega
            omega)), HB.out.alloc HB.out.size _⟩
        case measure => simp [intOf]; omega
    · have hlt5 : decide ((m : Int) < 5) = false := by simp; omega
      go_wp2_with fail
      have HL5 : Hid (∀ j, j < 5 → n j ≤ 256) := hid fun j hj => HL.out j (by omega)
      have HW := HB
      have hgw := hg2
      clear hle hb HL HB hg2 hlt hm hlt5
      generalize wr = w2 at *
      generalize hmo : (m : Int) = mo at *
      clear hmo
      go_loopw [28] (fun i wr => ∃ m : Nat, m ≤ 5 ∧ i = .int .i64 m ∧ (∀ x, x < m → ∀ y, y < n x → err x y = 0) ∧ Below w2.heap.size w2 wr) (fun i _ => 5 - (intOf i).toNat)
      case atStart => exact ⟨0, by omega, rfl, fun x h => by omega, Below.refl _ _⟩
      case round =>
        obtain ⟨m, hm, rfl, hle, hb⟩ := hrel
        have HL := hid hle
        have HB2 := hid (HW.out.trans (hb.mono HW.out.size))
        have hg2 := Nat.lt_of_lt_of_le hgw hb.size
        have hs2 := hb.size
        by_cases hlt : m < 5
        · have hcs := (HK.out m hlt).1
          have hheld := ((HK.out m hlt).2.below HW.out).below hb
          have c0 : wr.cell? ⟨g, m * 4, none⟩ = some (.int .u8 ((m + 1 : Nat) : Int)) := (HB2.out.cell (p := ⟨g, m * 4, none⟩) hg).trans (hcs 0 _ rfl)
          have c1 : wr.cell? ⟨g, m * 4 + 1, none⟩ = some (.int .i64 (n m)) := (HB2.out.cell (p := ⟨g, m * 4 + 1, none⟩) hg).trans (hcs 1 _ rfl)
          have c2 : wr.cell? ⟨g, m * 4 + 2, none⟩ = some (.func (Fn.func (wrF m)) #[] #[.pointer (some ⟨b m + 1, 0, none⟩), .pointer (some ⟨b m, 0, none⟩)]) := (HB2.out.cell (p := ⟨g, m * 4 + 2, none⟩) hg).trans (hcs 2 _ rfl)
          have c3 : wr.cell? ⟨g, m * 4 + 3, none⟩ = some (.func (Fn.func (ofF m)) #[] #[.pointer (some ⟨b m + 2, 0, none⟩), .pointer (some ⟨b m, 0, none⟩)]) := (HB2.out.cell (p := ⟨g, m * 4 + 3, none⟩) hg).trans (hcs 3 _ rfl)
          have hn5 : n m ≤ 256 := HL5.out m hlt
          have HH := hid hheld
          have HBR := hid hb
          have hd5 : decide ((m : Int) < 5) = true := by simp; omega
          clear hcs hle hb hheld
          go_wp2_with fail
          clear hd5
          have hrm : wr.heap.size < (wr.alloc (.cells #[.int .u8 ((m : Int) + 1), .int .i64 (n m), .func (Fn.func (wrF m)) #[] #[.pointer (some ⟨b m + 1, 0, none⟩), .pointer (some ⟨b m, 0, none⟩)], .func (Fn.func (ofF m)) #[] #[.pointer (some ⟨b m + 2, 0, none⟩), .pointer (some ⟨b m, 0, none⟩)]] 128)).heap.size := by simp
          have k0 : (wr.alloc (.cells #[.int .u8 ((m : Int) + 1), .int .i64 (n m), .func (Fn.func (wrF m)) #[] #[.pointer (some ⟨b m + 1, 0, none⟩), .pointer (some ⟨b m, 0, none⟩)], .func (Fn.func (ofF m)) #[] #[.pointer (some ⟨b m + 2, 0, none⟩), .pointer (some ⟨b m, 0, none⟩)]] 128)).cell? ⟨wr.heap.size, 0, none⟩ = some (.int .u8 ((m : Int) + 1)) := by unfold World.cell?; rw [heap_alloc_new]; rfl
          have k2 : (wr.alloc (.cells #[.int .u8 ((m : Int) + 1), .int .i64 (n m), .func (Fn.func (wrF m)) #[] #[.pointer (some ⟨b m + 1, 0, none⟩), .pointer (some ⟨b m, 0, none⟩)], .func (Fn.func (ofF m)) #[] #[.pointer (some ⟨b m + 2, 0, none⟩), .pointer (some ⟨b m, 0, none⟩)]] 128)).cell? ⟨wr.heap.size, 2, none⟩ = some (.func (Fn.func (wrF m)) #[] #[.pointer (some ⟨b m + 1, 0, none⟩), .pointer (some ⟨b m, 0, none⟩)]) := by unfold World.cell?; rw [heap_alloc_new]; rfl
          have HBA : Hid (Below wr.heap.size wr (wr.alloc (.cells #[.int .u8 ((m : Int) + 1), .int .i64 (n m), .func (Fn.func (wrF m)) #[] #[.pointer (some ⟨b m + 1, 0, none⟩), .pointer (some ⟨b m, 0, none⟩)], .func (Fn.func (ofF m)) #[] #[.pointer (some ⟨b m + 2, 0, none⟩), .pointer (some ⟨b m, 0, none⟩)]] 128))) := hid ((Below.refl _ _).alloc (Nat.le_refl _) _)
          have HS4 := hid (HH.out.below HBA.out)
          have hB4 : Below w2.heap.size w2 (wr.alloc (.cells #[.int .u8 ((m : Int) + 1), .int .i64 (n m), .func (Fn.func (wrF m)) #[] #[.pointer (some ⟨b m + 1, 0, none⟩), .pointer (some ⟨b m, 0, none⟩)], .func (Fn.func (ofF m)) #[] #[.pointer (some ⟨b m + 2, 0, none⟩), .pointer (some ⟨b m, 0, none⟩)]] 128)) := HBR.out.trans (HBA.out.mono hs2)
          have HB4 := hid hB4
          have K0 := hid k0
          have K2 := hid k2
          have hsw := hB4.size
          clear hB4 c0 c1 c2 c3 k0 k2 HBA HH
          generalize wr.alloc (.cells #[.int .u8 ((m : Int) + 1), .int .i64 (n m), .func (Fn.func (wrF m)) #[] #[.pointer (some ⟨b m + 1, 0, none⟩), .pointer (some ⟨b m, 0, none⟩)], .func (Fn.func (ofF m)) #[] #[.pointer (some ⟨b m + 2, 0, none⟩), .pointer (some ⟨b m, 0, none⟩)]] 128) = w4 at *
          generalize wr.heap.size = rb at *
          go_loopw [34] (fun i wr => ∃ y : Nat, y ≤ n m ∧ i = .int .i64 y ∧ (∀ z, z < y → err m z = 0) ∧ Below w4.heap.size w4 wr) (fun i _ => n m - (intOf i).toNat)
          case atStart => exact ⟨0, Nat.zero_le _, rfl, fun z h => by omega, Below.refl _ _⟩
          case round =>
            obtain ⟨y, hy, rfl, hno, hb⟩ := hrel
            have HNO := hid hno
            have HBQ := hid hb
            have HBW : Hid (Below w.heap.size w wr) := hid (HB1.out.trans ((HW.out.trans ((HB4.out.trans (hb.mono hsw)).mono HW.out.size)).mono HB1.out.size))
            by_cases hlty : y < n m
            · have j0 := (hb.cell (p := ⟨rb, 0, none⟩) hrm).trans K0.out
              have j2 := (hb.cell (p := ⟨rb, 2, none⟩) hrm).trans K2.out
              have HCA := hid (HC.out m y (b m) wr hlt hlty hn5 HBW.out (HS4.out.below hb))
              obtain ⟨er, her⟩ : ∃ er, err m y = er := ⟨_, rfl⟩
              rw [her] at HCA
              have HER := hid her
              clear hno hb her
              have hcf := enter_wr m hlt
              go_wp2_with fail
              refine HCA.out.mono ?_
              rintro e w5 ⟨rfl, hb5⟩
              have j05 := (hb5.cell (p := ⟨rb, 0, none⟩) (Nat.lt_of_lt_of_le hrm HBQ.out.size)).trans j0
              have HB5 := hid (HBQ.out.trans (hb5.mono HBQ.out.size))
              have HBW5 := hid (HBW.out.trans (hb5.mono HBW.out.size))
              clear j0 j2 HCA hb5
              by_cases he0 : er = 0
              · subst he0
                go_wp2_with fail
                go_roundw
                case rel => exact ⟨y + 1, by omega, by go_num, (fun z hz => (by
                  rcases Nat.lt_or_ge z y with e | e
                  · exact HNO.out z e
                  · obtain rfl : z = y := by omega
                    exact HER.out)), HB5.out⟩
                case measure => simp [intOf]; omega
              · have hne : (er != 0) = true := by simpa using he0
                have HE0 := hid he0
                clear he0
                go_wp2_with fail
                go_ret3
                exact ⟨_, y, er, rfl, .inr (.inl ⟨HL5.out, _, hlt, hlty, by rw [HER.out]; exact HE0.out, HL.out, HNO.out, rfl, HER.out.symm⟩), HBW5.out⟩
            · obtain rfl : y = n m := by omega
              have HB6 := hid (HB4.out.trans (hb.mono hsw))
              clear hno hb
              go_wp2_with fail
              go_roundw
              case rel => exact ⟨m + 1, by omega, by go_num, (fun x hx => (by
                rcases Nat.lt_or_ge x m with e | e
                · exact HL.out x e
                · obtain rfl : x = m := by omega
                  exact HNO.out)), HB6.out⟩
              case measure => simp [intOf]; omega
        · obtain rfl : m = 5 := by omega
          go_wp2_with fail
          go_ret3
          exact ⟨0, 0, 0, rfl, .inr (.inr ⟨HL5.out, HL.out, rfl, rfl, rfl⟩), HB1.out.trans (HB2.out.mono HB1.out.size)⟩

end Go.Proofs.Ytcedbgoopolmdaa.RulF
