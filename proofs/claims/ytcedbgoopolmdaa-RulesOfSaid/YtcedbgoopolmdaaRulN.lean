/- The numbers of a resource's rules. -/
import Derived.Test.YtcedbgoopolmdaaRulM
import Derived.Laws.AppendOwnNone
import Derived.Maps.AppendAt
namespace Go.Proofs.Ytcedbgoopolmdaa.RulN
open Go.ChangeShapes Go.WideShapes Go.ChangeAt Go.RowKit Base RulA RulB RulC RulD RulE RulF RulG RulH RulM Txt
set_option linter.unusedVariables false

def szF : Nat → Nat
  | 0 => 12
  | 1 => 7
  | 2 => 5
  | 3 => 5
  | _ => 3

/-- all rules in memory; R: their resources -/
def AllRows (w : World) (a : Nat → Option Addr) (n : Nat → Nat) (C : Nat → Nat → Nat → Value) (R : Nat → Nat → ByteArray) : Prop :=
  ∀ j, j < 5 → RowsOf w (a j) (n j) (szF j) (C j) ∧ (j ≠ 3 → ∀ i, i < n j → C j i 0 = .string (R j i))

theorem AllRows.below {w w' : World} {a : Nat → Option Addr} {n : Nat → Nat} {C : Nat → Nat → Nat → Value} {R : Nat → Nat → ByteArray} (h : AllRows w a n C R) (hb : Below w.heap.size w w') : AllRows w' a n C R :=
  fun j hj => ⟨(h j hj).1.below hb, (h j hj).2⟩

def ofB (R : Nat → Nat → ByteArray) (s : ByteArray) (j i : Nat) : Bool := if j = 3 then true else decide (R j i = s)

theorem of_any {W : World} {a : Nat → Option Addr} {n cap : Nat → Nat} {C : Nat → Nat → Nat → Value} {R : Nat → Nat → ByteArray} (h : AllRows W a n C R) (j i b : Nat) (s : ByteArray) (hj : j < 5) (hi : i < n j) (hh : Held W b (a j) (n j) (cap j) (lkF j) (isF j)) :
    Calls Try.prog (ofF j) #[.int .i64 i, .string s, .pointer (some ⟨b + 2, 0, none⟩), .pointer (some ⟨b, 0, none⟩)] W fun e W' => e = .returned (.bool (ofB R s j i)) ∧ Below W.heap.size W W' := by
  obtain ⟨h1, h2⟩ := h j hj
  obtain ⟨g, o, ha, hg, hc⟩ := h1 (by omega)
  have hk := hh.c0
  rw [ha] at hk
  have hci := hc i hi
  rcases (show j = 0 ∨ j = 1 ∨ j = 2 ∨ j = 3 ∨ j = 4 by omega) with rfl | rfl | rfl | rfl | rfl
  · have c0 := hci 0 (by decide)
    rw [h2 (by decide) i hi] at c0
    exact ofFlow (R 0 i) s _ _ _ _ _ _ _ _ _ _ _ g o i (n 0) (cap 0) b W hi hg hh.lt hk hh.c2 c0 (hci 1 (by decide)) (hci 2 (by decide)) (hci 3 (by decide)) (hci 4 (by decide)) (hci 5 (by decide)) (hci 6 (by decide)) (hci 7 (by decide)) (hci 8 (by decide)) (hci 9 (by decide)) (hci 10 (by decide)) (hci 11 (by decide))
  · have c0 := hci 0 (by decide)
    rw [h2 (by decide) i hi] at c0
    exact ofBreak (R 1 i) s _ _ _ _ _ _ g o i (n 1) (cap 1) b W hi hg hh.lt hk hh.c2 c0 (hci 1 (by decide)) (hci 2 (by decide)) (hci 3 (by decide)) (hci 4 (by decide)) (hci 5 (by decide)) (hci 6 (by decide))
  · have c0 := hci 0 (by decide)
    rw [h2 (by decide) i hi] at c0
    exact ofHot (R 2 i) s _ _ _ _ g o i (n 2) (cap 2) b W hi hg hh.lt hk hh.c2 c0 (hci 1 (by decide)) (hci 2 (by decide)) (hci 3 (by decide)) (hci 4 (by decide))
  · exact ofSystem s _ _ _ _ _ g o i (n 3) (cap 3) b W hi hg hh.lt hk hh.c2 (hci 0 (by decide)) (hci 1 (by decide)) (hci 2 (by decide)) (hci 3 (by decide)) (hci 4 (by decide))
  · have c0 := hci 0 (by decide)
    rw [h2 (by decide) i hi] at c0
    exact ofAuthority (R 4 i) s _ _ g o i (n 4) (cap 4) b W hi hg hh.lt hk hh.c2 c0 (hci 1 (by decide)) (hci 2 (by decide))

theorem enter_of (m : Nat) (h : m < 5) (args : Array Value) (w : World) : (callFunc (ofF m) args).run Try.prog w = .ok (.enter (ofF m) args) w := by
  rcases (show m = 0 ∨ m = 1 ∨ m = 2 ∨ m = 3 ∨ m = 4 by omega) with rfl | rfl | rfl | rfl | rfl <;> (simp only [ofF]; go_simp)

/-- those below y that are a resource's -/
def part (R : Nat → Nat → ByteArray) (s : ByteArray) (j y : Nat) : List Nat := (List.range y).filter (ofB R s j)
theorem part_succ (R : Nat → Nat → ByteArray) (s : ByteArray) (j y : Nat) : part R s j (y + 1) = part R s j y ++ (if ofB R s j y then [y] else []) := by
  unfold part
  rw [List.range_succ, List.filter_append]
  congr 1
  cases h : ofB R s j y <;> simp [h]
theorem part_len (R : Nat → Nat → ByteArray) (s : ByteArray) (j y : Nat) : (part R s j y).length ≤ y := by
  unfold part
  exact Nat.le_trans (List.length_filter_le _ _) (by simp)
/-- what has been gathered ahead of kind m -/
def acc (n : Nat → Nat) (R : Nat → Nat → ByteArray) (s : ByteArray) (kd m : Nat) : List Nat := if 1 ≤ kd ∧ kd ≤ m then part R s (kd - 1) (n (kd - 1)) else []
theorem acc_zero (n : Nat → Nat) (R : Nat → Nat → ByteArray) (s : ByteArray) (kd : Nat) : acc n R s kd 0 = [] := by unfold acc; rw [if_neg (by omega)]
theorem acc_not {n : Nat → Nat} {R : Nat → Nat → ByteArray} {s : ByteArray} {kd m : Nat} (h : m + 1 ≠ kd) : acc n R s kd (m + 1) = acc n R s kd m := by
  unfold acc
  by_cases h2 : 1 ≤ kd ∧ kd ≤ m
  · rw [if_pos h2, if_pos (by omega)]
  · rw [if_neg h2, if_neg (by omega)]
theorem acc_at {n : Nat → Nat} {R : Nat → Nat → ByteArray} {s : ByteArray} {m : Nat} : acc n R s (m + 1) m = [] ∧ acc n R s (m + 1) (m + 1) = part R s m (n m) := by
  unfold acc
  exact ⟨if_neg (by omega), if_pos (by omega)⟩

def nums (l : List Nat) : List Value := l.map fun (i : Nat) => Value.int .i64 (i : Int)
def OwnI (B : Nat) (w : World) (v : Value) (l : List Nat) : Prop := w.ownsRow B 3 1 v l.length (nums l)
theorem infoInt : (Try.prog.info? 3).map (fun i => (i.zero, i.size, i.bytes)) = some (some (.int .i64 0), 1, 8) := by kernel_rfl
theorem nums_app (l : List Nat) (i : Nat) : nums (l ++ [i]) = nums l ++ [.int .i64 i] := by simp [nums]
theorem owns_shape {w : World} {base n size : Nat} {e : TypeId} {v : Value} {xs : List Value} (h : w.ownsRow base e size v n xs) : ∃ va vc, v = .slice va n vc := by
  rcases h.2 with ⟨rfl, h0⟩ | ⟨g, cap, cur, rfl, _⟩
  · exact ⟨none, 0, by rw [h0]⟩
  · exact ⟨_, _, rfl⟩
theorem owns_keep {w w' : World} {base n size : Nat} {e : TypeId} {v : Value} {xs : List Value} (h : w.ownsRow base e size v n xs) (hb : Below w.heap.size w w') : w'.ownsRow base e size v n xs := by
  have hl := World.ownsRow.lt h
  refine ⟨h.1, ?_⟩
  rcases h.2 with hn | ⟨g, cap, cur, rfl, hb2, hgg, rest⟩
  · exact .inl hn
  · exact .inr ⟨g, cap, cur, rfl, hb2, (hb.block g (hl g rfl).2).trans hgg, rest⟩
theorem cell_one (w : World) (x : Value) (ty : TypeId) (j : Nat) (u : Value) (hu : [x][j]? = some u) : (w.alloc (.cells #[x] ty)).cell? (Addr.add ⟨w.heap.size, 0, none⟩ j) = some u := by
  rw [Go.WideShapes.add_plain, Nat.zero_add]
  unfold World.cell?
  rw [heap_alloc_new]
  simpa using hu

def OfPost (n : Nat → Nat) (R : Nat → Nat → ByteArray) (s : ByteArray) (kd : Nat) (w : World) (e : Ending) (w' : World) : Prop :=
  ∃ v, e = .returned v ∧ OwnI w.heap.size w' v (acc n R s kd 5) ∧ Below w.heap.size w w'

/-- in a round: what was there ahead of the list is as it was -/
structure In (w w1 wr : World) (v : Value) (l : List Nat) : Prop where
  own : OwnI w.heap.size wr v l
  far : ∀ g, v.ownBlock = some g → w1.heap.size ≤ g
  bel : Below w1.heap.size w1 wr

theorem In.below {w w1 wr w' : World} {v : Value} {l : List Nat} (h : In w w1 wr v l) (hb : Below wr.heap.size wr w') : In w w1 w' v l :=
  ⟨owns_keep h.own hb, h.far, h.bel.trans (hb.mono h.bel.size)⟩

theorem In.push {w w1 wr w' : World} {v v' : Value} {l : List Nat} {i : Nat} {o : Obj} (h : In w w1 wr v l) (hown : w'.ownsRow w.heap.size 3 1 v' (l.length + 1) (nums l ++ [.int .i64 i])) (hgr : (wr.alloc o).grownBy w' v.ownBlock)
    (hat : v'.ownBlock = v.ownBlock ∨ v'.ownBlock = some (wr.alloc o).heap.size) : In w w1 w' v' (l ++ [i]) := by
  have hal : Below w1.heap.size w1 (wr.alloc o) := h.bel.alloc h.bel.size o
  refine ⟨?_, fun g hg => ?_, hal.grown hgr hal.size (fun j e => h.far j e)⟩
  · unfold OwnI; rw [nums_app, List.length_append]; exact hown
  · rcases hat with e | e
    · exact h.far g (e ▸ hg)
    · rw [e] at hg
      have h2 := Option.some.inj hg
      have := hal.size
      omega

theorem In.older {w w1 w4 wr : World} {v : Value} {l : List Nat} (h : In w w4 wr v l) (hb : Below w1.heap.size w1 w4) : In w w1 wr v l :=
  ⟨h.own, fun g hg => Nat.le_trans hb.size (h.far g hg), hb.trans (h.bel.mono hb.size)⟩

set_option maxRecDepth 100000 in
set_option maxHeartbeats 2000000 in
theorem Of_any (a : Nat → Option Addr) (n cap : Nat → Nat) (C : Nat → Nat → Nat → Value) (R : Nat → Nat → ByteArray) (s : ByteArray) (kd : Nat) (hkd : kd < 256) (w : World) (HR : Hid (AllRows w a n C R)) (HN : Hid (∀ j, j < 5 → n j ≤ 4000000000000)) :
    Calls Try.prog 40 #[.agg #[.slice (a 0) (n 0) (cap 0), .slice (a 1) (n 1) (cap 1), .slice (a 2) (n 2) (cap 2), .slice (a 3) (n 3) (cap 3), .slice (a 4) (n 4) (cap 4)], .int .u8 kd, .string s] w (OfPost n R s kd w) := by
  obtain ⟨i0, hi, hz0, hz1, hz2⟩ := info_parts infoInt
  have HI0 := hid hi; have HZ0 := hid hz0; have HZ1 := hid hz1; have HZ2 := hid hz2
  clear hi hz0 hz1 hz2
  go_enter Try.func40, Try.ntmps40
  go_wp2_with fail
  refine (kinds_any a n cap _).mono ?_
  rintro e w1 ⟨g, b, rfl, hg, hk, hb⟩
  have HB1 : Hid (Below w.heap.size w w1) := hid (((Below.refl _ w).alloc (Nat.le_refl _) _).trans (hb.mono (by simp)))
  have HK := hid hk
  have hst : In w w1 w1 (.slice none 0 0) (acc n R s kd 0) := by rw [acc_zero]; exact ⟨⟨rfl, .inl ⟨rfl, rfl⟩⟩, fun g e => (by cases e), Below.refl _ _⟩
  have HST := hid hst
  clear hb hk hst
  go_wp2_with fail
  go_loopw [7, 14] (fun v i wr => ∃ m : Nat, m ≤ 5 ∧ i = .int .i64 m ∧ In w w1 wr v (acc n R s kd m) ∧ (m < kd → v = .slice none 0 0)) (fun _ i _ => 5 - (intOf i).toNat)
  case atStart => exact ⟨0, by omega, rfl, HST.out, fun _ => rfl⟩
  case round =>
    obtain ⟨m, hm, rfl, hI, hno⟩ := hrel
    have HNO := hid hno
    clear hno
    have HI := hid hI
    obtain ⟨va, vc, rfl⟩ := owns_shape hI.own
    have hb := hI.bel
    have HB := hid hb
    have hg2 := Nat.lt_of_lt_of_le hg hb.size
    clear hI HST
    by_cases hlt : m < 5
    · have hcs := (HK.out m hlt).1
      have c0 : wr.cell? ⟨g, m * 4, none⟩ = some (.int .u8 ((m + 1 : Nat) : Int)) := (hb.cell (p := ⟨g, m * 4, none⟩) hg).trans (hcs 0 _ rfl)
      have c1 : wr.cell? ⟨g, m * 4 + 1, none⟩ = some (.int .i64 (n m)) := (hb.cell (p := ⟨g, m * 4 + 1, none⟩) hg).trans (hcs 1 _ rfl)
      have c2 : wr.cell? ⟨g, m * 4 + 2, none⟩ = some (.func (Fn.func (wrF m)) #[] #[.pointer (some ⟨b m + 1, 0, none⟩), .pointer (some ⟨b m, 0, none⟩)]) := (hb.cell (p := ⟨g, m * 4 + 2, none⟩) hg).trans (hcs 2 _ rfl)
      have c3 : wr.cell? ⟨g, m * 4 + 3, none⟩ = some (.func (Fn.func (ofF m)) #[] #[.pointer (some ⟨b m + 2, 0, none⟩), .pointer (some ⟨b m, 0, none⟩)]) := (hb.cell (p := ⟨g, m * 4 + 3, none⟩) hg).trans (hcs 3 _ rfl)
      have HH := hid ((HK.out m hlt).2.below hb)
      have hnm := HN.out m hlt
      have hd5 : decide ((m : Int) < 5) = true := by simp; omega
      clear hcs hb
      by_cases hkm : m + 1 = kd
      · have hne : ((m : Int) + 1 != kd) = false := by simp; omega
        have HAC : Hid (acc n R s kd m = [] ∧ acc n R s kd (m + 1) = part R s m (n m)) := hid (hkm ▸ acc_at)
        have HLT : Hid (m < kd) := hid (by omega)
        have HKM := hid hkm
        clear hkm
        go_wp2_with fail
        clear hd5 hne
        have hrm : wr.heap.size < (wr.alloc (.cells #[.int .u8 ((m : Int) + 1), .int .i64 (n m), .func (Fn.func (wrF m)) #[] #[.pointer (some ⟨b m + 1, 0, none⟩), .pointer (some ⟨b m, 0, none⟩)], .func (Fn.func (ofF m)) #[] #[.pointer (some ⟨b m + 2, 0, none⟩), .pointer (some ⟨b m, 0, none⟩)]] 128)).heap.size := by simp
        have k3 : (wr.alloc (.cells #[.int .u8 ((m : Int) + 1), .int .i64 (n m), .func (Fn.func (wrF m)) #[] #[.pointer (some ⟨b m + 1, 0, none⟩), .pointer (some ⟨b m, 0, none⟩)], .func (Fn.func (ofF m)) #[] #[.pointer (some ⟨b m + 2, 0, none⟩), .pointer (some ⟨b m, 0, none⟩)]] 128)).cell? ⟨wr.heap.size, 3, none⟩ = some (.func (Fn.func (ofF m)) #[] #[.pointer (some ⟨b m + 2, 0, none⟩), .pointer (some ⟨b m, 0, none⟩)]) := by unfold World.cell?; rw [heap_alloc_new]; rfl
        have hal : Below wr.heap.size wr (wr.alloc (.cells #[.int .u8 ((m : Int) + 1), .int .i64 (n m), .func (Fn.func (wrF m)) #[] #[.pointer (some ⟨b m + 1, 0, none⟩), .pointer (some ⟨b m, 0, none⟩)], .func (Fn.func (ofF m)) #[] #[.pointer (some ⟨b m + 2, 0, none⟩), .pointer (some ⟨b m, 0, none⟩)]] 128)) := (Below.refl _ _).alloc (Nat.le_refl _) _
        have HI4 := hid (HI.out.below hal)
        have HH4 := hid (HH.out.below hal)
        have K3 := hid k3
        clear k3 hal c0 c1 c2 c3 HH HI HB hg2
        generalize wr.alloc (.cells #[.int .u8 ((m : Int) + 1), .int .i64 (n m), .func (Fn.func (wrF m)) #[] #[.pointer (some ⟨b m + 1, 0, none⟩), .pointer (some ⟨b m, 0, none⟩)], .func (Fn.func (ofF m)) #[] #[.pointer (some ⟨b m + 2, 0, none⟩), .pointer (some ⟨b m, 0, none⟩)]] 128) = w4 at *
        generalize wr.heap.size = rb at *
        have hva := HNO.out HLT.out
        have hst2 : In w w4 w4 (.slice none 0 0) (part R s m 0) := ⟨⟨rfl, .inl ⟨rfl, rfl⟩⟩, fun g e => (by cases e), Below.refl _ _⟩
        rw [hva]
        clear hva HNO
        have HW14 := hid HI4.out.bel
        have HST2 := hid hst2
        clear hst2 HI4
        go_loopw [7, 24] (fun v i wr => ∃ y : Nat, y ≤ n m ∧ i = .int .i64 y ∧ In w w4 wr v (part R s m y)) (fun _ i _ => n m - (intOf i).toNat)
        case atStart => exact ⟨0, Nat.zero_le _, rfl, HST2.out⟩
        case round =>
          obtain ⟨y, hy, rfl, hI⟩ := hrel
          have hb4 := hI.bel
          obtain ⟨va2, vc2, rfl⟩ := owns_shape hI.own
          have HI := hid hI
          have HB4 := hid hb4
          clear hI HST2
          by_cases hlty : y < n m
          · have j3 := (hb4.cell (p := ⟨rb, 3, none⟩) hrm).trans K3.out
            have hHB : Below w.heap.size w wr := HB1.out.trans ((HW14.out.trans (hb4.mono HW14.out.size)).mono HB1.out.size)
            have HCA := hid (of_any (HR.out.below hHB) m y (b m) s hlt hlty (HH4.out.below hb4))
            obtain ⟨x, hx⟩ : ∃ x, ofB R s m y = x := ⟨_, rfl⟩
            have hps := part_succ R s m y
            rw [hx] at HCA hps
            have hpl := part_len R s m y
            have HPS := hid hps
            have hcf := enter_of m hlt
            clear hx hps hb4
            go_wp2_with fail
            refine HCA.out.mono ?_
            rintro e w5 ⟨rfl, hb5⟩
            have HI5 := hid (HI.out.below hb5)
            have HB5 := hid (HB4.out.trans (hb5.mono HB4.out.size))
            clear j3 HCA hb5 hcf hHB HI HB4
            cases x with
            | false =>
              go_wp2_with fail
              go_roundw
              case rel => exact ⟨y + 1, by omega, by go_num, by rw [HPS.out]; simpa using HI5.out⟩
              case measure => simp [intOf]; omega
            | true =>
              have hi := HI0.out; have hz0 := HZ0.out; have hz1 := HZ1.out; have hz2 := HZ2.out
              have hown1 : (w5.alloc (.cells #[.int .i64 y] 3)).ownsRow w.heap.size 3 1 (.slice va2 (part R s m y).length vc2) (part R s m y).length (nums (part R s m y)) := World.ownsRow.alloc HI5.out.own _
              have hsz : w.heap.size ≤ w5.heap.size := Nat.le_trans HB1.out.size (Nat.le_trans HW14.out.size HI5.out.bel.size)
              go_wp2_with (at_builtin; (refine wpList_append_own_at _ rfl _ _ 26 rfl w.heap.size 3 i0 (.int .i64 0) 1 8 Try.underlying26 hi hz0 hz1 hz2 rfl (by decide) (Value.slice va2 (part R s m y).length vc2) _ _ rfl hown1 ⟨w5.heap.size, 0, none⟩ 1 1 [.int .i64 y] rfl ?c1 ?c2 ?c3 ?c4 ?c5 ?c6 ?_); rotate_left 6; intro v6 w6 hown6 hgr6 hnil6 hat6)
              case c1 => rfl
              case c2 => exact cell_one _ _ _
              case c3 => intro u hu; obtain rfl := List.mem_singleton.1 hu; rfl
              case c4 => unfold maxLen; omega
              case c5 => omega
              case c6 => simp; omega
              have hI6 := HI5.out.push hown6 hgr6 hat6
              have HI6 := hid hI6
              clear hown1 hown6 hgr6 hnil6 hat6 hi hz0 hz1 hz2 hI6 hsz
              go_wp2_with fail
              go_roundw
              case rel => exact ⟨y + 1, by omega, by go_num, by rw [HPS.out]; exact HI6.out⟩
              case measure => simp [intOf]; omega
          · obtain rfl : y = n m := by omega
            clear hb4
            go_wp2_with fail
            go_roundw
            case rel => exact ⟨m + 1, by omega, by go_num, by rw [HAC.out.2]; exact HI.out.older HW14.out, (fun h => by have := HKM.out; omega)⟩
            case measure => simp [intOf]; omega
      · have hne : ((m : Int) + 1 != kd) = true := by simp; omega
        have HAN : Hid (acc n R s kd (m + 1) = acc n R s kd m) := hid (acc_not hkm)
        go_wp2_with fail
        go_roundw
        case rel => exact ⟨m + 1, by omega, by go_num, by rw [HAN.out]; exact HI.out.below ((Below.refl _ _).alloc (Nat.le_refl _) _), (fun h => HNO.out (by omega))⟩
        case measure => simp [intOf]; omega
    · have hlt5 : decide ((m : Int) < 5) = false := by simp; omega
      have hm5 : m = 5 := by omega
      have HM5 := hid hm5
      clear hm5 hb
      go_wp2_with fail
      go_ret
      exact ⟨_, rfl, by have := HI.out.own; rw [HM5.out] at this; rw [HM5.out]; exact this, HB1.out.trans (HB.out.mono HB1.out.size)⟩

end Go.Proofs.Ytcedbgoopolmdaa.RulN
