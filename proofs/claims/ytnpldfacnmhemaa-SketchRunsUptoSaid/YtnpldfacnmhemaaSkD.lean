/- Contracts of a sketch's small calls: sums that stay at the greatest, hashes, what a bucket tells. -/
import Derived.Test.YtnpldfacnmhemaaSkC
namespace Go.Proofs.Ytnpldfacnmhemaa.SkD
open Go.ChangeShapes Go.WideShapes Go.ChangeAt Go.RowKit Base Wri SkA SkB

def sumTo (f : Nat → Nat) : Nat → Nat
  | 0 => 0
  | k + 1 => sumTo f k + f k
theorem sumTo_le (f : Nat → Nat) {k n : Nat} (h : k ≤ n) : sumTo f k ≤ sumTo f n := by
  induction h with
  | refl => exact Nat.le_refl _
  | step _ ih => exact Nat.le_trans ih (Nat.le_add_right _ _)

set_option maxRecDepth 20000 in
set_option maxHeartbeats 400000 in
theorem plus_core (g o n cap : Nat) (f : Nat → Nat) (w : World) (hn : n ≤ 9223372036854775807) (HC : Hid (∀ i, i < n → w.cell? ⟨g, o + i, none⟩ = some (.int .i64 (f i)))) :
    Calls Try.prog 36 #[.slice (some ⟨g, o, none⟩) n cap] w fun e w' => e = .returned (.int .i64 (sat (sumTo f n))) ∧ w = w' := by
  go_enter Try.func36, Try.ntmps36
  go_wp2
  go_loop [3, 8] (fun s i => ∃ k : Nat, k ≤ n ∧ s = .int .i64 (sumTo f k) ∧ i = .int .i64 k ∧ sumTo f k ≤ 4611686018427387904) (fun _ i => n - (intOf i).toNat)
  case atStart => exact ⟨0, Nat.zero_le _, rfl, rfl, by simp [sumTo]⟩
  case round =>
    obtain ⟨k, hk, rfl, rfl, hle⟩ := hrel
    by_cases hlt : k < n
    · have hx := HC.out k hlt
      have hS : Hid (sumTo f (k + 1) = sumTo f k + f k) := hid rfl
      have hM := hid (sumTo_le f (show k + 1 ≤ n by omega))
      generalize sumTo f k = sk at *
      generalize f k = fk at *
      by_cases hg : 4611686018427387904 < sk + fk
      · have h1 : decide ((4611686018427387904 : Int) - (sk : Int) < (fk : Int)) = true := by simp; omega
        have hr : Hid (sat (sumTo f n) = 4611686018427387904) := hid (by have := hS.out; have := hM.out; unfold sat; omega)
        clear hg
        go_wp2
        go_ret
        exact ⟨by rw [hr.out]; rfl, rfl⟩
      · have h1 : decide ((4611686018427387904 : Int) - (sk : Int) < (fk : Int)) = false := by simp; omega
        have hg2 : sk + fk ≤ 4611686018427387904 := by omega
        clear hg
        go_wp2
        go_round
        case rel => exact ⟨k + 1, by omega, by rw [hS.out]; go_num, by go_num, by rw [hS.out]; exact hg2⟩
        case measure => simp [intOf]; omega
    · obtain rfl : k = n := by omega
      have hr : Hid (sat (sumTo f k) = sumTo f k) := hid (by unfold sat; omega)
      go_wp2
      go_ret
      exact ⟨by rw [hr.out]; rfl, rfl⟩

theorem plus_none (a : Option Addr) (cap : Nat) (w : World) :
    Calls Try.prog 36 #[.slice a 0 cap] w fun e w' => e = .returned (.int .i64 0) ∧ w = w' := by
  go_enter Try.func36, Try.ntmps36
  go_wp2
  go_loop [3, 8] (fun s i => s = .int .i64 0 ∧ i = .int .i64 0) (fun _ _ => 0)
  case atStart => exact ⟨rfl, rfl⟩
  case round =>
    obtain ⟨rfl, rfl⟩ := hrel
    go_wp2
    go_ret
    exact ⟨rfl, rfl⟩

theorem plus_any (a : Option Addr) (n cap : Nat) (f : Nat → Nat) (w : World) (hn : n ≤ 9223372036854775807) (h : Ints w a n (fun i => (f i : Int))) :
    Calls Try.prog 36 #[.slice a n cap] w fun e w' => e = .returned (.int .i64 (sat (sumTo f n))) ∧ w = w' := by
  by_cases h0 : n = 0
  · subst h0; exact plus_none a cap w
  · obtain ⟨g, o, rfl, _, hc⟩ := h (by omega)
    exact plus_core g o n cap f w hn (hid hc)

/-- of two numbers, in a list of their own -/
theorem plus_two (x y : Nat) (wq : World) (w : World) (hw : wq.heap = (w.alloc (.cells #[.int .i64 x, .int .i64 y] 3)).heap) :
    Calls Try.prog 36 #[.slice (some ⟨w.heap.size, 0, none⟩) 2 2] wq fun e w' => e = .returned (.int .i64 (sat (x + y))) ∧ wq = w' := by
  have hb : wq.heap[w.heap.size]? = some (.cells #[.int .i64 x, .int .i64 y] 3) := by rw [hw]; exact heap_alloc_new w _
  have := plus_core w.heap.size 0 2 2 (fun i => if i = 0 then x else y) wq (by omega) (hid fun i hi => by
    match i, hi with
    | 0, _ => simp [World.cell?, hb]
    | 1, _ => simp [World.cell?, hb])
  have e : sumTo (fun i => if i = 0 then x else y) 2 = x + y := by simp [sumTo]
  rw [e] at this
  exact this

def hstep (h : Nat) (b : UInt8) : Nat := (h ^^^ b.toNat) * 1099511628211 % 18446744073709551616
def hashTo (c : Nat) (s : ByteArray) (k : Nat) : Nat := (s.data.toList.take k).foldl hstep c
def hashN (s : ByteArray) : Nat := s.data.toList.foldl hstep 14695981039346656037

theorem hstep_lt (h : Nat) (b : UInt8) : hstep h b < 18446744073709551616 := Nat.mod_lt _ (by decide)
theorem hstep_eq (h : Nat) (hh : h < 18446744073709551616) (b : UInt8) : IntKind.u64.wrap (bits .xor .u64 (h : Int) (IntKind.u64.wrap (b.toNat : Int)) * 1099511628211) = (hstep h b : Nat) := by
  have hb : b.toNat < 256 := b.toNat_lt
  have e1 : IntKind.u64.wrap (b.toNat : Int) = (b.toNat : Int) := by rw [IntKind.wrap_u64]; omega
  rw [e1, bits_xor_u64_nat h b.toNat hh (by omega), IntKind.wrap_u64]
  unfold hstep
  rw [Int.natCast_emod, Int.natCast_mul]
  rfl
theorem fold_lt (l : List UInt8) (h : Nat) (hh : h < 18446744073709551616) : l.foldl hstep h < 18446744073709551616 := by
  induction l generalizing h with
  | nil => exact hh
  | cons x r ih => exact ih _ (hstep_lt _ _)
theorem hash_lt (s : ByteArray) : hashN s < 18446744073709551616 := fold_lt _ _ (by decide)
theorem foldl_step {β : Type} (f : Nat → β → Nat) (c : Nat) (l : List β) (k : Nat) (b : β) (h : l[k]? = some b) : (l.take (k + 1)).foldl f c = f ((l.take k).foldl f c) b := by
  rw [List.take_add_one, h, List.foldl_append]
  rfl
theorem hashTo_step (c : Nat) (s : ByteArray) (k : Nat) (h : k < s.size) : hashTo c s (k + 1) = hstep (hashTo c s k) s[k] := by
  refine foldl_step hstep c s.data.toList k s[k] ?_
  rw [List.getElem?_eq_getElem (by simpa using h)]
  rfl
theorem hashTo_succ (c : Nat) (hc : c < 18446744073709551616) (s : ByteArray) (k : Nat) (h : k < s.size) : ((hashTo c s (k + 1) : Nat) : Int) = IntKind.u64.wrap (bits .xor .u64 (hashTo c s k : Int) (IntKind.u64.wrap (s[k].toNat : Int)) * 1099511628211) := by
  have hl : hashTo c s k < 18446744073709551616 := fold_lt _ _ hc
  rw [hstep_eq _ hl, hashTo_step c s k h]
theorem hashTo_all (c : Nat) (s : ByteArray) : hashTo c s s.size = s.data.toList.foldl hstep c := by
  unfold hashTo
  have h : s.data.toList.length ≤ s.size := Nat.le_of_eq (by rw [Array.length_toList]; rfl)
  rw [List.take_of_length_le h]

set_option maxRecDepth 20000 in
set_option maxHeartbeats 400000 in
theorem hash_core (c : Nat) (HC0 : Hid ((14695981039346656037 : Int) = (c : Int))) (s : ByteArray) (HS : Hid (∀ k, (h : k < s.size) → ((hashTo c s (k + 1) : Nat) : Int) = IntKind.u64.wrap (bits .xor .u64 (hashTo c s k : Int) (IntKind.u64.wrap (s[k].toNat : Int)) * 1099511628211))) (w : World) (hs : s.size ≤ maxLen) :
    Calls Try.prog 23 #[.string s] w fun e w' => e = .returned (.int .u64 (s.data.toList.foldl hstep c : Nat)) ∧ w = w' := by
  unfold maxLen at hs
  go_enter Try.func23, Try.ntmps23
  go_wp2
  go_loop [3, 7] (fun h i => ∃ k : Nat, k ≤ s.size ∧ h = .int .u64 (hashTo c s k : Nat) ∧ i = .int .i64 k) (fun _ i => s.size - (intOf i).toNat)
  case atStart => exact ⟨0, Nat.zero_le _, by rw [HC0.out]; rfl, rfl⟩
  case round =>
    obtain ⟨k, hk, rfl, rfl⟩ := hrel
    by_cases hlt : k < s.size
    · have HE := hid (HS.out k hlt)
      obtain ⟨h, hh⟩ : ∃ h, hashTo c s k = h := ⟨_, rfl⟩
      rw [hh] at HE ⊢
      clear hh
      go_wp2
      exact ⟨⟨k + 1, by omega, by rw [HE.out], by go_num⟩, by simp [intOf]; omega⟩
    · obtain rfl : k = s.size := by omega
      rw [hashTo_all]
      go_wp2
      go_ret
      exact ⟨rfl, rfl⟩

theorem hash_any (s : ByteArray) (w : World) (hs : s.size ≤ maxLen) :
    Calls Try.prog 23 #[.string s] w fun e w' => e = .returned (.int .u64 (hashN s)) ∧ w = w' :=
  hash_core 14695981039346656037 (hid rfl) s (hid fun k h => hashTo_succ _ (by decide) s k h) w hs

set_option maxHeartbeats 400000 in
theorem total1_any (a b : Int) (m : Value) (w : World) :
    Calls Try.prog 65 #[.agg #[.int .i64 a, .int .i64 b, m]] w fun e w' => e = .returned (.int .i64 b) ∧ Below w.heap.size w w' := by
  go_enter Try.func65, Try.ntmps65
  go_wp2
  go_ret
  exact ⟨rfl, (by repeat (first | (with_reducible exact Below.refl _ _) | (with_reducible refine Below.setCell ?_ (by first | (simp; done) | (simp; omega) | omega) _) | (with_reducible refine Below.alloc ?_ (by first | (simp; done) | (simp; omega) | omega) _) | (with_reducible refine Below.drew ?_) | (with_reducible refine below_drewN ?_ _)))⟩

set_option maxHeartbeats 400000 in
theorem forget1_any (a b lim : Int) (m : Value) (F : Nat) (w : World) (hF : F < w.heap.size) (h : w.cell? ⟨F, 0, none⟩ = some (.int .i64 lim)) :
    Calls Try.prog 70 #[.agg #[.int .i64 a, .int .i64 b, m], .pointer (some ⟨F, 0, none⟩)] w fun e w' => e = .returned (.bool (decide (a < lim))) ∧ Below w.heap.size w w' := by
  go_enter Try.func70, Try.ntmps70
  go_wp2
  go_ret
  exact ⟨rfl, (by repeat (first | (with_reducible exact Below.refl _ _) | (with_reducible refine Below.setCell ?_ (by first | (simp; done) | (simp; omega) | omega) _) | (with_reducible refine Below.alloc ?_ (by first | (simp; done) | (simp; omega) | omega) _) | (with_reducible refine Below.drew ?_) | (with_reducible refine below_drewN ?_ _)))⟩

set_option maxHeartbeats 400000 in
theorem estimate1_any (a b x : Int) (mb F : Nat) (r c : Nat) (w : World) (_hF : F < w.heap.size) (h0 : w.cell? ⟨F, 0, none⟩ = some (.int .i64 r)) (h1 : w.cell? ⟨F, 1, none⟩ = some (.int .i64 c))
    (hl : ∀ w1 : World, w1.heap[mb]? = w.heap[mb]? → (Instr.lookup 86 (.map (some mb)) (.agg #[.int .i64 r, .int .i64 c]) false).run Try.prog w1 = .ok (.int .i64 x) w1) (hmb : mb < w.heap.size) :
    Calls Try.prog 75 #[.agg #[.int .i64 a, .int .i64 b, .map (some mb)], .pointer (some ⟨F, 0, none⟩)] w fun e w' => e = .returned (.int .i64 x) ∧ Below w.heap.size w w' := by
  have hl1 := hl (w.alloc (.cells #[.int .i64 a, .int .i64 b, .map (some mb)] 88)) (Below.heap_alloc _ _ _ hmb)
  clear hl
  go_enter Try.func75, Try.ntmps75
  go_wp2
  go_ret
  exact ⟨rfl, (by repeat (first | (with_reducible exact Below.refl _ _) | (with_reducible refine Below.setCell ?_ (by first | (simp; done) | (simp; omega) | omega) _) | (with_reducible refine Below.alloc ?_ (by first | (simp; done) | (simp; omega) | omega) _) | (with_reducible refine Below.drew ?_) | (with_reducible refine below_drewN ?_ _)))⟩

theorem last_any (p : Nat) (t : Int) (w : World) (h : w.cell? ⟨p, 5, none⟩ = some (.int .i64 t)) :
    Calls Try.prog 45 #[.pointer (some ⟨p, 0, none⟩)] w fun e w' => e = .returned (.int .i64 t) ∧ w = w' := by
  go_enter Try.func45, Try.ntmps45
  go_wp2
  go_ret
  exact ⟨rfl, rfl⟩

end Go.Proofs.Ytnpldfacnmhemaa.SkD
