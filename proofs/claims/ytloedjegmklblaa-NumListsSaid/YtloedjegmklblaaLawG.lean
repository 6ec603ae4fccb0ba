/- Contracts of the document's own Plus and Mean over a list. -/
import Derived.Test.YtloedjegmklblaaLawE
namespace Go.Proofs.Ytloedjegmklblaa.LawG
open Go.ChangeShapes Go.WideShapes Go.ChangeAt Go.RowKit Base NumM NumA NumB NumC NumD NumE RefA RefB RefC RefD RefE LawA LawB LawE DivB

theorem plus_can (a b : Int) : plusB (neg a) a.natAbs (neg b) b.natAbs = neg (a + b) ∧ plusN (neg a) a.natAbs (neg b) b.natAbs = (a + b).natAbs := by
  unfold plusB plusN neg
  by_cases h1 : a < 0 <;> by_cases h2 : b < 0 <;> simp only [h1, h2, decide_true, decide_false, Bool.false_eq_true, Bool.true_eq_false, if_true, if_false]
  · constructor
    · exact (decide_eq_true (by omega)).symm
    · omega
  · by_cases h3 : a.natAbs < b.natAbs
    · rw [if_pos h3, if_pos h3]
      constructor
      · rw [Bool.false_and]; exact (decide_eq_false (by omega)).symm
      · omega
    · rw [if_neg h3, if_neg h3]
      constructor
      · rw [Bool.true_and, decide_eq_decide]; omega
      · omega
  · by_cases h3 : a.natAbs < b.natAbs
    · rw [if_pos h3, if_pos h3]
      constructor
      · rw [Bool.true_and, decide_eq_decide]; omega
      · omega
    · rw [if_neg h3, if_neg h3]
      constructor
      · rw [Bool.false_and]; exact (decide_eq_false (by omega)).symm
      · omega
  · constructor
    · exact (decide_eq_false (by omega)).symm
    · omega

theorem sgn_can (n : Int) : sgn (neg n) n.natAbs = n := by unfold sgn neg; by_cases h1 : n < 0 <;> simp [h1] <;> omega

set_option maxRecDepth 20000 in
set_option maxHeartbeats 2000000 in
theorem plus_list_ref (p q len cap : Nat) (xs : List Int) (w : World) (hlen : len ≤ 9223372036854775807) (hp : p < w.heap.size) (HL : Hid (xs.length = len))
    (HC : Hid (∀ i, i < len → w.cell? ⟨p, q + i, none⟩ = some (.int .i64 (xs.getD i 0)))) (HX : Hid (∀ i, Fits (xs.getD i 0))) :
    Calls Try.prog 32 #[.slice (some ⟨p, q, none⟩) len cap] w fun e w' => e = .returned (.int .i64 (plusL xs)) ∧ Below w.heap.size w w' := by
  go_enter Try.func32, Try.ntmps32
  go_wp2
  go_loopw [3, 4] (PRel w len xs) (fun _ i _ => len - (intOf i).toNat)
  case atStart => exact ⟨0, Nat.zero_le _, rfl, rfl, Below.refl _ _⟩
  case round =>
    obtain ⟨k, hk, rfl, rfl, hbel⟩ := hrel
    have HB := hid hbel
    clear hbel
    by_cases hlt : k < len
    · have hx : _ = some (Value.int .i64 (xs.getD k 0)) := (HB.out.cell (p := ⟨p, q + k, none⟩) hp).trans (HC.out k hlt)
      have hpw : p < wr.heap.size := Nat.lt_of_lt_of_le hp HB.out.size
      have hk1 : (k : Int) < (len : Int) := by omega
      have hk0 : (0 : Int) ≤ (k : Int) := by omega
      have HS : Hid (plusL (xs.take (k + 1)) = keep (plusL (xs.take k) + xs.getD k 0)) := hid (by rw [take_snoc _ _ (by rw [HL.out]; exact hlt), plusL_snoc])
      have HF : Hid (Fits (xs.getD k 0)) := hid (HX.out k)
      have HN : Hid (Fits (plusL (xs.take k))) := hid (plusL_fits _)
      generalize xs.getD k 0 = x at *
      generalize plusL (xs.take k) = n at *
      have HB2 : Hid (n.natAbs + x.natAbs < 340282366920938463463374607431768211456) := hid (by have h1 := HF.out; have h2 := HN.out; unfold Fits at h1 h2; omega)
      have HO1 : Hid (∀ w, Calls Try.prog 75 #[.int .i64 n] w fun e w' => e = .returned (S (neg n) n.natAbs) ∧ Below w.heap.size w w') := hid fun w => of_any n HN.out w
      have HO2 : Hid (∀ w, Calls Try.prog 75 #[.int .i64 x] w fun e w' => e = .returned (S (neg x) x.natAbs) ∧ Below w.heap.size w w') := hid fun w => of_any x HF.out w
      have HP : Hid (∀ w, Calls Try.prog 76 #[S (neg n) n.natAbs, S (neg x) x.natAbs] w fun e w' => e = .returned (S (neg (n + x)) (n + x).natAbs) ∧ Below w.heap.size w w') := hid fun w => by
        have h := plus_ref (neg n) n.natAbs (neg x) x.natAbs HB2.out rfl rfl w
        rw [(plus_can n x).1, (plus_can n x).2] at h
        exact h
      have HK : Hid (∀ w, Calls Try.prog 85 #[S (neg (n + x)) (n + x).natAbs] w fun e w' => e = .returned (.int .i64 (keep (n + x))) ∧ Below w.heap.size w w') := hid fun w => by
        have h := kept_ref (neg (n + x)) (n + x).natAbs rfl w
        rw [sgn_can] at h
        exact h
      have G0 := hid hpw
      go_wp2_with fail
      go_region_with (first | (go_at_call 75; first | ((with_reducible refine (HO1.out _).mono ?_); rintro e w1 ⟨rfl, hb1⟩; obtain ⟨hc1, hf1⟩ := bat hb1 p G0.out; have z1 := hb1.size; have G1 := hid (Nat.lt_of_lt_of_le G0.out z1)) | ((with_reducible refine (HO2.out _).mono ?_); rintro e w2 ⟨rfl, hb2⟩; have z2 := hb2.size)) | (go_at_call 76; refine (HP.out _).mono ?_; rintro e w3 ⟨rfl, hb3⟩; have z3 := hb3.size) | (go_at_call 85; refine (HK.out _).mono ?_; rintro e w4 ⟨rfl, hb4⟩; have z4 := hb4.size))
      all_goals
        have z0 := HB.out.size
        (try simp at z1); (try simp at z2)
        go_wp2
        go_roundw
        case rel =>
          have hb := HB.out
          exact ⟨k + 1, by omega, by go_num, by rw [HS.out], (by repeat (first | (with_reducible exact Below.refl _ _) | (with_reducible refine Below.setCell ?_ (by first | (simp; done) | (simp; omega) | omega) _) | (with_reducible refine Below.alloc ?_ (by first | (simp; done) | (simp; omega) | omega) _) | (with_reducible refine Below.drew ?_) | (with_reducible exact hb4) | (with_reducible exact hb3) | (with_reducible exact hb2) | (with_reducible exact hb1) | (with_reducible exact hb) | (with_reducible refine Below.trans ?_ (Below.mono hb4 (by first | (simp; done) | (simp; omega) | omega))) | (with_reducible refine Below.trans ?_ (Below.mono hb3 (by first | (simp; done) | (simp; omega) | omega))) | (with_reducible refine Below.trans ?_ (Below.mono hb2 (by first | (simp; done) | (simp; omega) | omega))) | (with_reducible refine Below.trans ?_ (Below.mono hb1 (by first | (simp; done) | (simp; omega) | omega))) | (with_reducible refine Below.trans ?_ (Below.mono hb (by first | (simp; done) | (simp; omega) | omega)))))⟩
        case measure => simp [intOf]; omega
    · have HE : Hid (plusL (xs.take k) = plusL xs) := hid (by rw [List.take_of_length_le (by rw [HL.out]; omega)])
      go_wp2
      go_ret
      rw [HE.out]
      exact ⟨rfl, HB.out⟩

set_option maxHeartbeats 400000 in
theorem plus_empty_ref (a : Option Addr) (cap : Nat) (w : World) :
    Calls Try.prog 32 #[.slice a 0 cap] w fun e w' => e = .returned (.int .i64 0) ∧ Below w.heap.size w w' := by
  go_enter Try.func32, Try.ntmps32
  go_wp2
  go_loopw [3, 4] (fun t i wr => i = .int .i64 0 ∧ t = .int .i64 0 ∧ wr = w) (fun _ _ _ => 0)
  case atStart => exact ⟨rfl, rfl, rfl⟩
  case round =>
    obtain ⟨rfl, rfl, rfl⟩ := hrel
    go_wp2
    go_ret
    exact ⟨rfl, Below.refl _ _⟩

/-- what the loop of the document's Mean keeps -/
def RRel (w : World) (len : Nat) (xs : List Int) (i : Value) (wr : World) : Prop :=
  ∃ k : Nat, k ≤ len ∧ i = .int .i64 k ∧ wr.cell? ⟨w.heap.size, 0, none⟩ = some (.bool (neg (sumL (xs.take k)))) ∧ wr.cell? ⟨w.heap.size, 1, none⟩ = some (.int .u64 (hiM (sumL (xs.take k)).natAbs)) ∧ wr.cell? ⟨w.heap.size, 2, none⟩ = some (.int .u64 (loM (sumL (xs.take k)).natAbs)) ∧
    wr.frozen? ⟨w.heap.size, 0, none⟩ = false ∧ wr.frozen? ⟨w.heap.size, 1, none⟩ = false ∧ wr.frozen? ⟨w.heap.size, 2, none⟩ = false ∧ Below w.heap.size w wr ∧ w.heap.size < wr.heap.size

theorem hm0 : hiM (0 : Int).natAbs = 0 := by decide
theorem lm0 : loM (0 : Int).natAbs = 0 := by decide

set_option maxRecDepth 20000 in
set_option maxHeartbeats 4000000 in
theorem mean_list_ref (p q len cap : Nat) (xs : List Int) (w : World) (hlen : len ≤ 9223372036854775807) (h0 : 0 < len) (hp : p < w.heap.size) (HL : Hid (xs.length = len))
    (HC : Hid (∀ i, i < len → w.cell? ⟨p, q + i, none⟩ = some (.int .i64 (xs.getD i 0)))) (HX : Hid (∀ x ∈ xs, Fits x)) :
    Calls Try.prog 30 #[.slice (some ⟨p, q, none⟩) len cap] w fun e w' => e = .returned (.tuple #[.int .i64 (divN (sumL xs) len false), .int .i64 (divE (sumL xs) len false)]) ∧ Below w.heap.size w w' := by
  have HS : Hid (Fits (len : Int)) := hid (by unfold Fits; omega)
  have HLEN := hid hlen
  have H0 := hid h0
  have hl0 : ((len : Int) == 0) = false := by rw [beq_eq_false_iff_ne]; omega
  go_enter Try.func30, Try.ntmps30
  go_wp2
  go_loopw [5] (RRel w len xs) (fun i _ => len - (intOf i).toNat)
  case atStart =>
    refine ⟨0, Nat.zero_le _, rfl, ?_, ?_, ?_, by go_simp, by go_simp, by go_simp, (Below.refl _ _).alloc (Nat.le_refl _) _, by simp⟩
    · show _ = some (Value.bool (neg 0)); go_simp; rfl
    · show _ = some (Value.int .u64 ((hiM (0 : Int).natAbs : Nat) : Int)); rw [hm0]; go_simp
    · show _ = some (Value.int .u64 ((loM (0 : Int).natAbs : Nat) : Int)); rw [lm0]; go_simp
  case round =>
    obtain ⟨k, hk, rfl, c0, c1, c2, f0, f1, f2, hbel, hsz⟩ := hrel
    have HB := hid hbel
    clear hbel
    by_cases hlt : k < len
    · have hx : _ = some (Value.int .i64 (xs.getD k 0)) := (HB.out.cell (p := ⟨p, q + k, none⟩) hp).trans (HC.out k hlt)
      have hpw : p < wr.heap.size := Nat.lt_of_lt_of_le hp HB.out.size
      have hk1 : (k : Int) < (len : Int) := by omega
      have hk0 : (0 : Int) ≤ (k : Int) := by omega
      have HSn : Hid (sumL (xs.take (k + 1)) = sumL (xs.take k) + xs.getD k 0) := hid (by rw [take_snoc _ _ (by rw [HL.out]; exact hlt), sumL_snoc])
      have HF : Hid (Fits (xs.getD k 0)) := hid (HX.out _ (by have hkl : k < xs.length := (by rw [HL.out]; exact hlt); simp [List.getD, hkl]))
      have HBD : Hid ((sumL (xs.take k)).natAbs < 170141183460469231731687303715884105728) := hid (sumL_bd (fun x hx => HX.out x (List.mem_of_mem_take hx)) (by rw [List.length_take]; have := HLEN.out; omega))
      generalize xs.getD k 0 = x at *
      generalize sumL (xs.take k) = n at *
      have HO2 : Hid (∀ w, Calls Try.prog 75 #[.int .i64 x] w fun e w' => e = .returned (S (neg x) x.natAbs) ∧ Below w.heap.size w w') := hid fun w => of_any x HF.out w
      have HP : Hid (∀ w, Calls Try.prog 76 #[S (neg n) n.natAbs, S (neg x) x.natAbs] w fun e w' => e = .returned (S (neg (n + x)) (n + x).natAbs) ∧ Below w.heap.size w w') := hid fun w => by
        have h := plus_ref (neg n) n.natAbs (neg x) x.natAbs (by have h1 := HF.out; have h2 := HBD.out; unfold Fits at h1; omega) rfl rfl w
        rw [(plus_can n x).1, (plus_can n x).2] at h
        exact h
      have G0 := hid hpw
      go_wp2_with fail
      go_region_with (first | (go_at_call 75; refine (HO2.out _).mono ?_; rintro e w1 ⟨rfl, hb1⟩; obtain ⟨hc1, hf1⟩ := bat hb1 w.heap.size hsz; have z1 := hb1.size; have g1 : w.heap.size < w1.heap.size := (Nat.lt_of_lt_of_le hsz z1)) | (go_at_call 76; refine (HP.out _).mono ?_; rintro e w2 ⟨rfl, hb2⟩; obtain ⟨hc2, hf2⟩ := bat hb2 w.heap.size g1; have z2 := hb2.size; have g2 : w.heap.size < w2.heap.size := (Nat.lt_of_lt_of_le g1 z2)))
      all_goals
        have z0 := HB.out.size
        (try simp at z1); (try simp at z2)
        go_wp2
        go_roundw
        case rel =>
          have hb := HB.out
          exact ⟨k + 1, by omega, by go_num, by rw [HSn.out]; go_simp, by rw [HSn.out]; go_simp, by rw [HSn.out]; go_simp, by go_simp, by go_simp, by go_simp, (by repeat (first | (with_reducible exact Below.refl _ _) | (with_reducible refine Below.setCell ?_ (by first | (simp; done) | (simp; omega) | omega) _) | (with_reducible refine Below.alloc ?_ (by first | (simp; done) | (simp; omega) | omega) _) | (with_reducible refine Below.drew ?_) | (with_reducible exact hb2) | (with_reducible exact hb1) | (with_reducible exact hb) | (with_reducible refine Below.trans ?_ (Below.mono hb2 (by first | (simp; done) | (simp; omega) | omega))) | (with_reducible refine Below.trans ?_ (Below.mono hb1 (by first | (simp; done) | (simp; omega) | omega))) | (with_reducible refine Below.trans ?_ (Below.mono hb (by first | (simp; done) | (simp; omega) | omega))))), by simp; omega⟩
        case measure => simp [intOf]; omega
    · have HE : Hid (sumL (xs.take k) = sumL xs) := hid (by rw [List.take_of_length_le (by rw [HL.out]; omega)])
      rw [HE.out] at c0 c1 c2
      have HBD : Hid ((sumL xs).natAbs < 170141183460469231731687303715884105728) := hid (sumL_bd HX.out (by rw [HL.out]; exact HLEN.out))
      obtain ⟨n, HN⟩ : ∃ n, Hid (sumL xs = n) := ⟨_, hid rfl⟩
      rw [HN.out] at c0 c1 c2 HBD
      have HY : Hid (∀ w, Calls Try.prog 83 #[S (neg n) n.natAbs, .int .i64 len, .bool false] w fun e w' => e = .returned (.tuple #[.int .i64 (tellN (rdiv n len false)), .bool (fitsB (rdiv n len false))]) ∧ Below w.heap.size w w') := hid fun w => by_any (neg n) n.natAbs len false HBD.out HS.out (by have := H0.out; omega) rfl w
      have HD : Hid (divN n len false = tellN (rdiv n len false) ∧ divE n len false = tellE (rdiv n len false)) := hid (by have hne : ¬ ((len : Int) = 0) := (by have := H0.out; omega); unfold divN divE; rw [if_neg hne, if_neg hne]; exact ⟨rfl, rfl⟩)
      go_wp2_with fail
      refine (HY.out _).mono ?_
      rintro e w1 ⟨rfl, hb1⟩
      go_wp2_with fail
      refine (told_fit _ _).mono ?_
      rintro e w2 ⟨rfl, rfl⟩
      go_wp2
      go_ret2
      have hb := HB.out
      have z0 := hb.size
      rw [HN.out, HD.out.1, HD.out.2]
      exact ⟨rfl, (by repeat (first | (with_reducible exact Below.refl _ _) | (with_reducible refine Below.setCell ?_ (by first | (simp; done) | (simp; omega) | omega) _) | (with_reducible refine Below.alloc ?_ (by first | (simp; done) | (simp; omega) | omega) _) | (with_reducible refine Below.drew ?_) | (with_reducible exact hb1) | (with_reducible exact hb) | (with_reducible refine Below.trans ?_ (Below.mono hb1 (by first | (simp; done) | (simp; omega) | omega))) | (with_reducible refine Below.trans ?_ (Below.mono hb (by first | (simp; done) | (simp; omega) | omega)))))⟩

set_option maxHeartbeats 400000 in
theorem mean_empty_ref (a : Option Addr) (cap : Nat) (w : World) :
    Calls Try.prog 30 #[.slice a 0 cap] w fun e w' => e = .returned (.tuple #[.int .i64 0, .int .i64 4]) ∧ Below w.heap.size w w' := by
  go_enter Try.func30, Try.ntmps30
  go_wp2
  go_ret2
  exact ⟨rfl, (by repeat (first | (with_reducible exact Below.refl _ _) | (with_reducible refine Below.setCell ?_ (by first | (simp; done) | (simp; omega) | omega) _) | (with_reducible refine Below.alloc ?_ (by first | (simp; done) | (simp; omega) | omega) _) | (with_reducible refine Below.drew ?_)))⟩

end Go.Proofs.Ytloedjegmklblaa.LawG
