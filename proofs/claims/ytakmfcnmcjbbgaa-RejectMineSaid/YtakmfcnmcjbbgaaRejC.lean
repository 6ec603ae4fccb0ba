/- The document's word on whom a flow rule concerns. -/
import Derived.Test.YtakmfcnmcjbbgaaRejB
namespace Go.Proofs.Ytakmfcnmcjbbgaa.RejC
set_option linter.unusedVariables false
open Go.ChangeShapes Go.WideShapes Go.ChangeAt Go.RowKit Base RejA RejB Txt

theorem hasO_zero (L : Nat → Flow) (r o : ByteArray) : hasO 0 L r o = false := by
  unfold hasO
  rw [hasB_not.2 (fun k hk => by omega), Bool.and_false]
theorem hasB_succ (n : Nat) (L : Nat → Flow) (r o : ByteArray) : hasB (n + 1) L r o = (hasB n L r o || isOwn r o (L n)) := by
  rw [Bool.eq_iff_iff, Bool.or_eq_true, hasB_iff, hasB_iff]
  constructor
  · rintro ⟨k, hk, h⟩
    rcases Nat.lt_or_ge k n with e | e
    · exact .inl ⟨k, e, h⟩
    · obtain rfl : k = n := by omega
      exact .inr h
  · rintro (⟨k, hk, h⟩ | h)
    · exact ⟨k, by omega, h⟩
    · exact ⟨n, by omega, h⟩
theorem hasO_succ (n : Nat) (L : Nat → Flow) (r o : ByteArray) : hasO (n + 1) L r o = (hasO n L r o || (decide ((L n).res = r) && decide ((L n).org = o) && !(decide (o = dft)) && !(decide (o = oth)))) := by
  unfold hasO
  rw [hasB_succ]
  unfold isOwn
  cases decide (o = dft) <;> cases decide (o = oth) <;> simp

theorem drewN_below (w : World) (n B : Nat) : Below B w (w.drewN n) := ⟨rfl, rfl, rfl, Nat.le_refl _, fun _ _ => rfl⟩

set_option maxRecDepth 100000 in
set_option maxHeartbeats 4000000 in
theorem RefCon_in (g q n cap k : Nat) (L : Nat → Flow) (r t o : ByteArray) (w : World) (hk : k < n) (hn : n ≤ 9223372036854775807) (hg : g < w.heap.size) (HR : Hid ((L k).res = r)) (HT : Hid ((L k).org = t)) (b : Bool) (B : Hid ((decide (t = dft) || decide (t = o) || (decide (t = oth) && !(hasO n L r o))) = b))
    (HC : Hid (∀ i, i < n → ∀ (j : Nat) v, (fv (L i))[j]? = some v → w.cell? ⟨g, q + i * 12 + j, none⟩ = some v)) :
    Calls Try.prog 23 #[.slice (some ⟨g, q, none⟩) n cap, .int .i64 k, .string o] w fun e w' => e = .returned (.bool b) ∧ Below w.heap.size w w' := by
  have hki : (k : Int) < n := by omega
  have hk0 : decide ((k : Int) < 0) = false := by simp
  have k1 : w.cell? ⟨g, q + k * 12 + 1, none⟩ = some (.string t) := HT.out ▸ HC.out k hk 1 _ rfl
  cases d1 : decide (t = dft) with
  | true =>
    have e1 : (t.toList == [100, 101, 102, 97, 117, 108, 116]) = true := by rw [eq_dft]; exact d1
    rw [d1] at B
    clear d1
    go_enter Try.func23, Try.ntmps23
    go_wp2_with fail
    go_ret
    exact ⟨ret_bool (by rw [← B.out]; rfl), Below.refl _ _⟩
  | false =>
    have e1 : (t.toList == [100, 101, 102, 97, 117, 108, 116]) = false := by rw [eq_dft]; exact d1
    rw [d1] at B
    clear d1
    cases d2 : decide (t = o) with
    | true =>
      have e2 : (t.toList == o.toList) = true := by rw [text_eq]; exact d2
      rw [d2] at B
      clear d2
      go_enter Try.func23, Try.ntmps23
      go_wp2_with fail
      go_ret
      exact ⟨ret_bool (by rw [← B.out]; rfl), Below.refl _ _⟩
    | false =>
      have e2 : (t.toList == o.toList) = false := by rw [text_eq]; exact d2
      rw [d2] at B
      clear d2
      cases d3 : decide (t = oth) with
      | false =>
        have e3 : (t.toList == [111, 116, 104, 101, 114]) = false := by rw [eq_oth]; exact d3
        rw [d3] at B
        clear d3
        go_enter Try.func23, Try.ntmps23
        go_wp2_with fail
        go_ret
        exact ⟨ret_bool (by rw [← B.out]; rfl), Below.refl _ _⟩
      | true =>
        have e3 : (t.toList == [111, 116, 104, 101, 114]) = true := by rw [eq_oth]; exact d3
        rw [d3] at B
        clear d3
        go_enter Try.func23, Try.ntmps23
        go_wp2_with fail
        clear e1 e2 e3 k1
        go_loopw [7] (fun i wr => ∃ j : Nat, j ≤ n ∧ i = .int .i64 j ∧ hasO j L r o = false ∧ Below w.heap.size w wr) (fun i _ => n - (intOf i).toNat)
        case atStart => exact ⟨0, Nat.zero_le _, rfl, hasO_zero L r o, Below.refl _ _⟩
        case round =>
          obtain ⟨j, hj, rfl, hno, hb⟩ := hrel
          have HNO := hid hno
          have HB2 := hid hb
          have hg2 := Nat.lt_of_lt_of_le hg hb.size
          clear hno hb
          by_cases hlt2 : j < n
          · obtain ⟨rj, hrj⟩ : ∃ x, (L j).res = x := ⟨_, rfl⟩
            obtain ⟨tj, htj⟩ : ∃ x, (L j).org = x := ⟨_, rfl⟩
            have k0 : wr.cell? ⟨g, q + k * 12, none⟩ = some (.string r) := HR.out ▸ ((HB2.out.cell (p := ⟨g, q + k * 12, none⟩) hg).trans (HC.out k hk 0 _ rfl))
            have j0 : wr.cell? ⟨g, q + j * 12, none⟩ = some (.string rj) := hrj ▸ ((HB2.out.cell (p := ⟨g, q + j * 12, none⟩) hg).trans (HC.out j hlt2 0 _ rfl))
            have j1 : wr.cell? ⟨g, q + j * 12 + 1, none⟩ = some (.string tj) := htj ▸ ((HB2.out.cell (p := ⟨g, q + j * 12 + 1, none⟩) hg).trans (HC.out j hlt2 1 _ rfl))
            have hsu := hasO_succ j L r o
            rw [hrj, htj, HNO.out, Bool.false_or] at hsu
            have hji : decide ((j : Int) < n) = true := by simp; omega
            have hji2 : (j : Int) < n := by omega
            obtain ⟨a1, ha1⟩ : ∃ x, decide (rj = r) = x := ⟨_, rfl⟩
            obtain ⟨a2, ha2⟩ : ∃ x, decide (tj = o) = x := ⟨_, rfl⟩
            obtain ⟨a3, ha3⟩ : ∃ x, decide (tj = dft) = x := ⟨_, rfl⟩
            obtain ⟨a4, ha4⟩ : ∃ x, decide (tj = oth) = x := ⟨_, rfl⟩
            have hsu2 : hasO (j + 1) L r o = (a1 && a2 && !a3 && !a4) := by
              rw [hsu, ha1, ha2]
              cases a2 with
              | false => simp
              | true =>
                rw [decide_eq_true_iff] at ha2
                rw [← ha2, ha3, ha4]
            have HSU := hid hsu2
            have e1 : (rj.toList == r.toList) = a1 := by rw [text_eq]; exact ha1
            have e2 : (tj.toList == o.toList) = a2 := by rw [text_eq]; exact ha2
            have e3 : (tj.toList == [100, 101, 102, 97, 117, 108, 116]) = a3 := by rw [eq_dft]; exact ha3
            have e4 : (tj.toList == [111, 116, 104, 101, 114]) = a4 := by rw [eq_oth]; exact ha4
            have HYES : Hid (hasO (j + 1) L r o = true → hasO n L r o = true) := hid fun h => by
              unfold hasO at h ⊢
              simp only [Bool.and_eq_true] at h ⊢
              obtain ⟨h1, h2⟩ := h
              obtain ⟨x, hx, hy⟩ := hasB_iff.1 h2
              exact ⟨h1, hasB_iff.2 ⟨x, by omega, hy⟩⟩
            clear ha1 ha2 ha3 ha4 hsu hsu2 hrj htj
            cases a1 <;> cases a2 <;> cases a3 <;> cases a4 <;> (
              go_wp2_with fail
              go_quiet (fail)
              have HB3 := hid (HB2.out.trans (drewN_below wr nq _))
              clear k0 j0 j1 hg2 HB2
              generalize wr.drewN nq = wd at *
              go_wp2_with fail
              first
                | (go_roundw
                   case rel => exact ⟨j + 1, by omega, by go_num, HSU.out, HB3.out⟩
                   case measure => simp [intOf]; omega)
                | (go_ret
                   exact ⟨ret_bool (by rw [← B.out, HYES.out HSU.out]; rfl), HB3.out⟩))
          · obtain rfl : j = n := by omega
            have hji : decide ((j : Int) < j) = false := by simp
            go_wp2_with fail
            go_ret
            exact ⟨ret_bool (by rw [← B.out, HNO.out]; rfl), HB2.out⟩

set_option maxRecDepth 20000 in
set_option maxHeartbeats 2000000 in
theorem RefCon_out (a : Option Addr) (n cap : Nat) (i : Int) (o : ByteArray) (w : World) (h : ¬ (0 ≤ i ∧ i < n)) :
    Calls Try.prog 23 #[.slice a n cap, .int .i64 i, .string o] w fun e w' => e = .returned (.bool false) ∧ w = w' := by
  by_cases h0 : i < 0
  · clear h
    go_enter Try.func23, Try.ntmps23
    go_wp2_with fail
    go_ret
    exact ⟨rfl, rfl⟩
  · have h1 : decide (i < 0) = false := by simpa using h0
    have h2 : (n : Int) ≤ i := by omega
    clear h h0
    go_enter Try.func23, Try.ntmps23
    go_wp2_with fail
    go_ret
    exact ⟨rfl, rfl⟩

theorem RefCon_any (a : Option Addr) (n cap : Nat) (L : Nat → Flow) (i : Int) (o : ByteArray) (w : World) (hn : n ≤ 9223372036854775807) (hf : Flows w a n L) :
    Calls Try.prog 23 #[.slice a n cap, .int .i64 i, .string o] w fun e w' => e = .returned (.bool (conc n L i o)) ∧ Below w.heap.size w w' := by
  by_cases h : 0 ≤ i ∧ i < n
  · obtain ⟨k, rfl⟩ : ∃ k : Nat, i = k := ⟨i.toNat, by omega⟩
    have hk : k < n := by omega
    obtain ⟨g, q, rfl, hg, hc⟩ := hf.at_ (by omega)
    exact RefCon_in g q n cap k L _ _ o w hk hn hg (hid rfl) (hid rfl) _ (hid (conc_in hk).symm) (hid hc)
  · refine (RefCon_out a n cap i o w h).mono ?_
    rintro e w1 ⟨rfl, rfl⟩
    exact ⟨ret_bool (conc_out h).symm, Below.refl _ _⟩

end Go.Proofs.Ytakmfcnmcjbbgaa.RejC
