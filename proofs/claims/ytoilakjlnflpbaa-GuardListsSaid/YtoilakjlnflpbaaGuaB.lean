/- A system rule's field that blocks. -/
import Derived.Test.YtoilakjlnflpbaaGuaA
import Derived.Test.YtoilakjlnflpbaaLisD
namespace Go.Proofs.Ytoilakjlnflpbaa.GuaB
open Go.ChangeShapes Go.WideShapes Go.ChangeAt Go.RowKit Base NumM NumE RulA GuaA LisA LisD
set_option linter.unusedVariables false

theorem ret_str {a b : ByteArray} (h : a = b) : Ending.returned (.string a) = .returned (.string b) := by rw [h]
theorem empty_eq (s : ByteArray) : s.toList.isEmpty = decide (s = ⟨#[]⟩) := by
  rw [← Txt.text_eq]
  rw [ByteArray.toList_eq, ByteArray.toList_eq]
  cases s.data.toList <;> rfl

def aboveB (n l : Int) : Bool := !(decide (l = -1)) && decide (l < n)
def nf (qp th rt ld cp mo le : Int) (i : Nat) : Int := match i with | 0 => qp | 1 => th | 2 => rt | 3 => ld | 4 => cp | 5 => mo | _ => le
def okM (n : Int) : Bool := decide (0 ≤ n) && decide (n ≤ 4611686018427387904)
def nowB (qp th rt ld cp mo le : Int) : Bool := okM qp && okM th && okM rt && okM ld && okM cp && okM mo && okM le
theorem nowB_no (qp th rt ld cp mo le : Int) {k : Nat} (hk : k < 7) (h : okM (nf qp th rt ld cp mo le k) = false) : nowB qp th rt ld cp mo le = false := by
  unfold nowB
  obtain rfl | rfl | rfl | rfl | rfl | rfl | rfl : k = 0 ∨ k = 1 ∨ k = 2 ∨ k = 3 ∨ k = 4 ∨ k = 5 ∨ k = 6 := by omega
  all_goals (simp only [nf] at h; rw [h]; simp)
theorem nowB_yes (qp th rt ld cp mo le : Int) (h : ∀ k, k < 7 → okM (nf qp th rt ld cp mo le k) = true) : nowB qp th rt ld cp mo le = true := by
  unfold nowB
  have h0 := h 0 (by omega); have h1 := h 1 (by omega); have h2 := h 2 (by omega); have h3 := h 3 (by omega); have h4 := h 4 (by omega); have h5 := h 5 (by omega); have h6 := h 6 (by omega)
  simp only [nf] at h0 h1 h2 h3 h4 h5 h6
  rw [h0, h1, h2, h3, h4, h5, h6]; rfl

set_option maxHeartbeats 400000 in
theorem above_any (n l : Int) (w : World) : Calls Try.prog 58 #[.int .i64 n, .int .i64 l] w fun x w' => x = .returned (.bool (aboveB n l)) ∧ w = w' := by
  unfold aboveB
  by_cases h : l = -1
  · subst h
    go_enter Try.func58, Try.ntmps58
    go_wp2_with fail
    go_ret
    exact ⟨rfl, rfl⟩
  · have h1 : (l != -1) = true := by simpa using h
    have h2 : decide (l = -1) = false := by simpa using h
    rw [h2]
    clear h h2
    obtain ⟨b, hb⟩ : ∃ b, decide (l < n) = b := ⟨_, rfl⟩
    rw [hb]
    cases b <;> (
      go_enter Try.func58, Try.ntmps58
      go_wp2_with fail
      go_ret
      exact ⟨rfl, rfl⟩)

set_option maxRecDepth 20000 in
set_option maxHeartbeats 1000000 in
theorem mayBe_any (qp th rt ld cp mo le : Int) (n : Int) (w : World) :
    Calls Try.prog 30 #[.agg #[.int .i64 qp, .int .i64 th, .int .i64 rt, .int .i64 ld, .int .i64 cp, .int .i64 mo, .int .i64 le], .int .i64 n] w fun e w' => e = .returned (.bool (nowB qp th rt ld cp mo le && inR n 1 1099511627776)) ∧ Below w.heap.size w w' := by
  have HIX : Hid (∀ (k : Nat) (w : World), k < 7 → (Instr.index 91 (.agg #[.int .i64 qp, .int .i64 th, .int .i64 rt, .int .i64 ld, .int .i64 cp, .int .i64 mo, .int .i64 le]) (.int .i64 k)).run Try.prog w = .ok (.int .i64 (nf qp th rt ld cp mo le k)) w) := hid (by
    intro k w hk
    obtain rfl | rfl | rfl | rfl | rfl | rfl | rfl : k = 0 ∨ k = 1 ∨ k = 2 ∨ k = 3 ∨ k = 4 ∨ k = 5 ∨ k = 6 := by omega
    all_goals kernel_rfl)
  have HB : Hid (Below w.heap.size w (w.alloc (.cells #[.int .i64 qp, .int .i64 th, .int .i64 rt, .int .i64 ld, .int .i64 cp, .int .i64 mo, .int .i64 le] 27))) := hid ((Below.refl _ w).alloc (Nat.le_refl _) _)
  obtain ⟨r, hr⟩ : ∃ r, (nowB qp th rt ld cp mo le && inR n 1 1099511627776) = r := ⟨_, rfl⟩
  have HR := hid hr
  rw [hr]
  clear hr
  go_enter Try.func30, Try.ntmps30
  go_wp2_with fail
  obtain ⟨W, hW⟩ : ∃ W, w.alloc (.cells #[.int .i64 qp, .int .i64 th, .int .i64 rt, .int .i64 ld, .int .i64 cp, .int .i64 mo, .int .i64 le] 27) = W := ⟨_, rfl⟩
  rw [hW] at HB ⊢
  clear hW
  go_loopw [22] (fun i wr => ∃ k : Nat, k ≤ 7 ∧ i = .int .i64 k ∧ (∀ j, j < k → okM (nf qp th rt ld cp mo le j) = true) ∧ W = wr) (fun i _ => 7 - (intOf i).toNat)
  case atStart => exact ⟨0, Nat.zero_le _, rfl, fun j h => by omega, rfl⟩
  case round =>
    obtain ⟨k, hk, rfl, hno, rfl⟩ := hrel
    have HNo := hid hno
    clear hno
    by_cases hlt : k < 7
    · have i0 := HIX.out k W hlt
      obtain ⟨x, hx⟩ : ∃ x, nf qp th rt ld cp mo le k = x := ⟨_, rfl⟩
      rw [hx] at i0
      have HX := hid hx
      clear hx
      obtain ⟨b, hb⟩ : ∃ b, okM x = b := ⟨_, rfl⟩
      have HBb : Hid (okM (nf qp th rt ld cp mo le k) = b) := hid (by rw [HX.out]; exact hb)
      unfold okM at hb
      cases b with
      | true =>
        obtain ⟨h1, h2⟩ : 0 ≤ x ∧ x ≤ 4611686018427387904 := by simpa using hb
        have h1' : ¬ x < 0 := by omega
        have h2' : ¬ 4611686018427387904 < x := by omega
        clear hb h1 h2
        go_wp2_with fail
        go_roundw
        case rel => exact ⟨k + 1, by omega, by go_num, fun j h1 => (by
          rcases Nat.lt_or_ge j k with e | e
          · exact HNo.out j e
          · obtain rfl : j = k := by omega
            exact HBb.out), by trivial⟩
        case measure => simp [intOf]; omega
      | false =>
        have HF : Hid (r = false) := hid (by rw [← HR.out, nowB_no qp th rt ld cp mo le hlt HBb.out]; rfl)
        by_cases h1 : x < 0
        · clear hb
          go_wp2_with fail
          go_ret
          exact ⟨ret_bool HF.out.symm, HB.out⟩
        · have h2 : 4611686018427387904 < x := by
            simp at hb
            omega
          clear hb
          go_wp2_with fail
          go_ret
          exact ⟨ret_bool HF.out.symm, HB.out⟩
    · have hd : decide ((k : Int) < 7) = false := by simp; omega
      have HY : Hid (r = inR n 1 1099511627776) := hid (by
        obtain rfl : k = 7 := by omega
        rw [← HR.out, nowB_yes qp th rt ld cp mo le (fun j hj => HNo.out j hj)]; rfl)
      unfold inR at HY
      clear HNo HIX
      by_cases h1 : 1 ≤ n
      · by_cases h2 : n ≤ 1099511627776
        · have HZ : Hid (r = true) := hid (by rw [HY.out]; simp; omega)
          go_wp2_with fail
          go_ret
          exact ⟨ret_bool HZ.out.symm, HB.out⟩
        · have HZ : Hid (r = false) := hid (by rw [HY.out]; simp; omega)
          have h2' : decide (n ≤ 1099511627776) = false := by simpa using h2
          clear h2
          go_wp2_with fail
          go_ret
          exact ⟨ret_bool HZ.out.symm, HB.out⟩
      · have HZ : Hid (r = false) := hid (by rw [HY.out]; simp; omega)
        have h1' : decide (1 ≤ n) = false := by simpa using h1
        clear h1
        go_wp2_with fail
        go_ret
        exact ⟨ret_bool HZ.out.symm, HB.out⟩

def pickS (c0 c1 c2 c3 c4 c5 : Bool) : ByteArray := if c0 then ⟨#[113, 112, 115]⟩ else if c1 then ⟨#[116, 104, 114, 101, 97, 100, 115]⟩ else if c2 then ⟨#[114, 116]⟩ else if c3 && c4 then ⟨#[108, 111, 97, 100]⟩ else if c5 then ⟨#[99, 112, 117]⟩ else ⟨#[]⟩

set_option maxRecDepth 20000 in
set_option maxHeartbeats 4000000 in
theorem blocking_core (qp th rt ld cp mo le : Int) (x0 x1 x2 x3 x4 : Int) (n qs ts : Int) (c0 c1 c2 c3 c4 c5 : Bool) (s : ByteArray) (RS : Hid (pickS c0 c1 c2 c3 c4 c5 = s)) (e0 : wrap64 (qp + n) = qs) (e1 : wrap64 (th + 1) = ts) (w : World)
    (H0 : Hid (∀ w, Calls Try.prog 58 #[.int .i64 qs, .int .i64 x0] w fun x w' => x = .returned (.bool c0) ∧ w = w'))
    (H1 : Hid (∀ w, Calls Try.prog 58 #[.int .i64 ts, .int .i64 x1] w fun x w' => x = .returned (.bool c1) ∧ w = w'))
    (H2 : Hid (∀ w, Calls Try.prog 58 #[.int .i64 rt, .int .i64 x2] w fun x w' => x = .returned (.bool c2) ∧ w = w'))
    (H3 : Hid (∀ w, Calls Try.prog 58 #[.int .i64 ld, .int .i64 x3] w fun x w' => x = .returned (.bool c3) ∧ w = w'))
    (H4 : Hid (∀ w, Calls Try.prog 19 #[.int .i64 th, .int .i64 mo, .int .i64 le] w fun x w' => x = .returned (.bool c4) ∧ Below w.heap.size w w'))
    (H5 : Hid (∀ w, Calls Try.prog 58 #[.int .i64 cp, .int .i64 x4] w fun x w' => x = .returned (.bool c5) ∧ w = w')) :
    Calls Try.prog 33 #[.agg #[.int .i64 qp, .int .i64 th, .int .i64 rt, .int .i64 ld, .int .i64 cp, .int .i64 mo, .int .i64 le], .agg #[.int .i64 x0, .int .i64 x1, .int .i64 x2, .int .i64 x3, .int .i64 x4], .int .i64 n] w fun e w' => e = .returned (.string s) ∧ Below w.heap.size w w' := by
  have HB : Hid (Below w.heap.size w ((w.alloc (.cells #[.int .i64 qp, .int .i64 th, .int .i64 rt, .int .i64 ld, .int .i64 cp, .int .i64 mo, .int .i64 le] 27)).alloc (.cells #[.int .i64 x0, .int .i64 x1, .int .i64 x2, .int .i64 x3, .int .i64 x4] 38))) := hid (((Below.refl _ w).alloc (Nat.le_refl _) _).alloc (by simp) _)
  go_enter Try.func33, Try.ntmps33
  go_wp2_with fail
  cases c0 with
  | true =>
    refine (H0.out _).mono ?_
    rintro x w1 ⟨rfl, rfl⟩
    go_wp2_with fail
    go_ret
    exact ⟨ret_str (by rw [← RS.out]; rfl), HB.out⟩
  | false =>
    refine (H0.out _).mono ?_
    rintro x w1 ⟨rfl, rfl⟩
    go_wp2_with fail
    cases c1 with
    | true =>
      refine (H1.out _).mono ?_
      rintro x w1 ⟨rfl, rfl⟩
      go_wp2_with fail
      go_ret
      exact ⟨ret_str (by rw [← RS.out]; rfl), HB.out⟩
    | false =>
      refine (H1.out _).mono ?_
      rintro x w1 ⟨rfl, rfl⟩
      go_wp2_with fail
      cases c2 with
      | true =>
        refine (H2.out _).mono ?_
        rintro x w1 ⟨rfl, rfl⟩
        go_wp2_with fail
        go_ret
        exact ⟨ret_str (by rw [← RS.out]; rfl), HB.out⟩
      | false =>
        refine (H2.out _).mono ?_
        rintro x w1 ⟨rfl, rfl⟩
        go_wp2_with fail
        cases c3 with
        | true =>
          refine (H3.out _).mono ?_
          rintro x w1 ⟨rfl, rfl⟩
          go_wp2_with fail
          refine (H4.out _).mono ?_
          rintro x w1 ⟨rfl, hb⟩
          have HB := hid (HB.out.trans (hb.mono HB.out.size))
          have d0 := (hb.cell (p := ⟨w.heap.size, 4, none⟩) (by simp; omega)).trans (by go_cell : _ = some (.int .i64 cp))
          have d1 := (hb.cell (p := ⟨w.heap.size + 1, 4, none⟩) (by simp)).trans (by go_cell : _ = some (.int .i64 x4))
          clear hb
          cases c4 with
          | true =>
            go_wp2_with fail
            go_ret
            exact ⟨ret_str (by rw [← RS.out]; rfl), HB.out⟩
          | false =>
            go_wp2_with fail
            cases c5 <;> (
              refine (H5.out _).mono ?_
              rintro x w2 ⟨rfl, rfl⟩
              go_wp2_with fail
              go_ret
              exact ⟨ret_str (by rw [← RS.out]; rfl), HB.out⟩)
        | false =>
          refine (H3.out _).mono ?_
          rintro x w1 ⟨rfl, rfl⟩
          go_wp2_with fail
          cases c5 <;> (
            refine (H5.out _).mono ?_
            rintro x w2 ⟨rfl, rfl⟩
            go_wp2_with fail
            go_ret
            exact ⟨ret_str (by rw [← RS.out]; rfl), HB.out⟩)

theorem w64 {n : Int} (h : -9223372036854775808 ≤ n ∧ n ≤ 9223372036854775807) : wrap64 n = n := by unfold wrap64; omega
theorem fits_le {n : Int} (h0 : 0 ≤ n) (h : n ≤ 4611686018427387904) : Fits n := by unfold Fits; omega
theorem okM_iff {n : Int} : okM n = true ↔ 0 ≤ n ∧ n ≤ 4611686018427387904 := by unfold okM; simp

/-- the field that blocks, where all may be -/
def blkS (qp th rt ld cp mo le : Int) (x0 x1 x2 x3 x4 : Int) (n : Int) : ByteArray := pickS (aboveB (qp + n) x0) (aboveB (th + 1) x1) (aboveB rt x2) (aboveB ld x3) (manyV th mo le) (aboveB cp x4)

theorem blocking_any (qp th rt ld cp mo le : Int) (x0 x1 x2 x3 x4 : Int) (n : Int) (hn : inR n 1 1099511627776 = true) (hm : nowB qp th rt ld cp mo le = true) (w : World) :
    Calls Try.prog 33 #[.agg #[.int .i64 qp, .int .i64 th, .int .i64 rt, .int .i64 ld, .int .i64 cp, .int .i64 mo, .int .i64 le], .agg #[.int .i64 x0, .int .i64 x1, .int .i64 x2, .int .i64 x3, .int .i64 x4], .int .i64 n] w fun e w' => e = .returned (.string (blkS qp th rt ld cp mo le x0 x1 x2 x3 x4 n)) ∧ Below w.heap.size w w' := by
  have hn := inR_iff.1 hn
  unfold nowB at hm
  simp only [Bool.and_eq_true, okM_iff] at hm
  refine blocking_core qp th rt ld cp mo le x0 x1 x2 x3 x4 n (qp + n) (th + 1) _ _ _ _ _ _ _ (hid rfl) (w64 ⟨by omega, by omega⟩) (w64 ⟨by omega, by omega⟩) w (hid fun w => above_any _ _ w) (hid fun w => above_any _ _ w) (hid fun w => above_any _ _ w) (hid fun w => above_any _ _ w)
    (hid fun w => many_any _ _ _ (fits_le (by omega) (by omega)) (fits_le (by omega) (by omega)) (fits_le (by omega) (by omega)) w) (hid fun w => above_any _ _ w)

theorem two (w : World) (X Y : Array Value) (t1 t2 : TypeId) (W : World) (hW : (w.alloc (.cells X t1)).alloc (.cells Y t2) = W) :
    (∀ (k : Nat) v, X[k]? = some v → W.cell? ⟨w.heap.size, k, none⟩ = some v) ∧ (∀ (k : Nat) v, Y[k]? = some v → W.cell? ⟨w.heap.size + 1, k, none⟩ = some v) ∧ W.heap.size = w.heap.size + 2 ∧ Below w.heap.size w W := by
  subst hW
  refine ⟨fun k v hk => ?_, fun k v hk => ?_, by simp, ((Below.refl _ w).alloc (Nat.le_refl _) _).alloc (by simp) _⟩
  · have h1 : ((w.alloc (.cells X t1)).alloc (.cells Y t2)).cell? ⟨w.heap.size, k, none⟩ = (w.alloc (.cells X t1)).cell? ⟨w.heap.size, k, none⟩ := World.cell?_of_block (Below.heap_alloc _ _ _ (by simp))
    rw [h1, World.cell?_alloc_new]
    exact hk
  · have e : (w.alloc (.cells X t1)).heap.size = w.heap.size + 1 := by simp
    rw [← e, World.cell?_alloc_new]
    exact hk

def fieldS (qp th rt ld cp mo le : Int) (x0 x1 x2 x3 x4 : Int) (n : Int) : ByteArray := if sysB x0 x1 x2 x3 x4 && (nowB qp th rt ld cp mo le && inR n 1 1099511627776) then blkS qp th rt ld cp mo le x0 x1 x2 x3 x4 n else ⟨#[102, 111, 114, 109]⟩

set_option maxRecDepth 20000 in
set_option maxHeartbeats 2000000 in
theorem field_core (qp th rt ld cp mo le : Int) (x0 x1 x2 x3 x4 : Int) (n e : Int) (c1 : Bool) (s t : ByteArray) (he : e = 0 ∧ ((c1 = true ∧ t = s) ∨ (c1 = false ∧ t = ⟨#[102, 111, 114, 109]⟩)) ∨ e = 33 ∧ t = ⟨#[102, 111, 114, 109]⟩) (w : World)
    (H0 : Hid (∀ w, Calls Try.prog 29 #[.agg #[.int .i64 x0, .int .i64 x1, .int .i64 x2, .int .i64 x3, .int .i64 x4]] w fun x w' => x = .returned (.int .i64 e) ∧ Below w.heap.size w w'))
    (H1 : Hid (∀ w, Calls Try.prog 30 #[.agg #[.int .i64 qp, .int .i64 th, .int .i64 rt, .int .i64 ld, .int .i64 cp, .int .i64 mo, .int .i64 le], .int .i64 n] w fun x w' => x = .returned (.bool c1) ∧ Below w.heap.size w w'))
    (H2 : Hid (c1 = true → ∀ w, Calls Try.prog 33 #[.agg #[.int .i64 qp, .int .i64 th, .int .i64 rt, .int .i64 ld, .int .i64 cp, .int .i64 mo, .int .i64 le], .agg #[.int .i64 x0, .int .i64 x1, .int .i64 x2, .int .i64 x3, .int .i64 x4], .int .i64 n] w fun x w' => x = .returned (.string s) ∧ Below w.heap.size w w')) :
    Calls Try.prog 16 #[.agg #[.int .i64 x0, .int .i64 x1, .int .i64 x2, .int .i64 x3, .int .i64 x4], .int .i64 n, .agg #[.int .i64 qp, .int .i64 th, .int .i64 rt, .int .i64 ld, .int .i64 cp, .int .i64 mo, .int .i64 le]] w fun x w' => x = .returned (.string t) ∧ Below w.heap.size w w' := by
  obtain ⟨W, hW⟩ : ∃ W, (w.alloc (.cells #[.int .i64 x0, .int .i64 x1, .int .i64 x2, .int .i64 x3, .int .i64 x4] 38)).alloc (.cells #[.int .i64 qp, .int .i64 th, .int .i64 rt, .int .i64 ld, .int .i64 cp, .int .i64 mo, .int .i64 le] 27) = W := ⟨_, rfl⟩
  have HB : Hid (Below w.heap.size w W) := hid (by rw [← hW]; exact ((Below.refl _ w).alloc (Nat.le_refl _) _).alloc (by simp) _)
  have HC : Hid (∀ wx, Below w.heap.size W wx → True) := hid fun _ _ => trivial
  obtain ⟨c0, c1', hsz, -⟩ := two w _ _ _ _ W hW
  have HC0 := hid c0
  have HC1 := hid c1'
  have HSZ := hid hsz
  have H := hid (H0.out W)
  have z0 : W.cell? ⟨w.heap.size, 0, none⟩ = some (.int .i64 x0) := c0 0 _ rfl
  have z1 : W.cell? ⟨w.heap.size, 1, none⟩ = some (.int .i64 x1) := c0 1 _ rfl
  have z2 : W.cell? ⟨w.heap.size, 2, none⟩ = some (.int .i64 x2) := c0 2 _ rfl
  have z3 : W.cell? ⟨w.heap.size, 3, none⟩ = some (.int .i64 x3) := c0 3 _ rfl
  have z4 : W.cell? ⟨w.heap.size, 4, none⟩ = some (.int .i64 x4) := c0 4 _ rfl
  clear c0 c1' hsz HC
  go_enter Try.func16, Try.ntmps16
  go_wp2_with fail
  refine H.out.mono ?_
  rintro x w1 ⟨rfl, hb1⟩
  have HB1 := hid (HB.out.trans (hb1.mono HB.out.size))
  have HL := hid hb1
  clear hb1 H hW z0 z1 z2 z3 z4
  rcases he with ⟨rfl, he⟩ | ⟨rfl, rfl⟩
  · have HS2 : Hid (w.heap.size + 1 < W.heap.size ∧ w.heap.size < W.heap.size) := hid (by rw [HSZ.out]; omega)
    have n0 : w1.cell? ⟨w.heap.size + 1, 0, none⟩ = some (.int .i64 qp) := (HL.out.cell (p := ⟨w.heap.size + 1, 0, none⟩) HS2.out.1).trans (HC1.out 0 _ rfl)
    have n1 : w1.cell? ⟨w.heap.size + 1, 1, none⟩ = some (.int .i64 th) := (HL.out.cell (p := ⟨w.heap.size + 1, 1, none⟩) HS2.out.1).trans (HC1.out 1 _ rfl)
    have n2 : w1.cell? ⟨w.heap.size + 1, 2, none⟩ = some (.int .i64 rt) := (HL.out.cell (p := ⟨w.heap.size + 1, 2, none⟩) HS2.out.1).trans (HC1.out 2 _ rfl)
    have n3 : w1.cell? ⟨w.heap.size + 1, 3, none⟩ = some (.int .i64 ld) := (HL.out.cell (p := ⟨w.heap.size + 1, 3, none⟩) HS2.out.1).trans (HC1.out 3 _ rfl)
    have n4 : w1.cell? ⟨w.heap.size + 1, 4, none⟩ = some (.int .i64 cp) := (HL.out.cell (p := ⟨w.heap.size + 1, 4, none⟩) HS2.out.1).trans (HC1.out 4 _ rfl)
    have n5 : w1.cell? ⟨w.heap.size + 1, 5, none⟩ = some (.int .i64 mo) := (HL.out.cell (p := ⟨w.heap.size + 1, 5, none⟩) HS2.out.1).trans (HC1.out 5 _ rfl)
    have n6 : w1.cell? ⟨w.heap.size + 1, 6, none⟩ = some (.int .i64 le) := (HL.out.cell (p := ⟨w.heap.size + 1, 6, none⟩) HS2.out.1).trans (HC1.out 6 _ rfl)
    go_wp2_with fail
    refine (H1.out _).mono ?_
    rintro x w2 ⟨rfl, hb2⟩
    have HB2 := hid (HB1.out.trans (hb2.mono HB1.out.size))
    have HL2 := hid (HL.out.trans (hb2.mono HL.out.size))
    clear hb2
    rcases he with ⟨rfl, rfl⟩ | ⟨rfl, rfl⟩
    · have H2' := hid (H2.out rfl)
      clear H2
      have m0 : w2.cell? ⟨w.heap.size + 1, 0, none⟩ = some (.int .i64 qp) := (HL2.out.cell (p := ⟨w.heap.size + 1, 0, none⟩) HS2.out.1).trans (HC1.out 0 _ rfl)
      have m1 : w2.cell? ⟨w.heap.size + 1, 1, none⟩ = some (.int .i64 th) := (HL2.out.cell (p := ⟨w.heap.size + 1, 1, none⟩) HS2.out.1).trans (HC1.out 1 _ rfl)
      have m2 : w2.cell? ⟨w.heap.size + 1, 2, none⟩ = some (.int .i64 rt) := (HL2.out.cell (p := ⟨w.heap.size + 1, 2, none⟩) HS2.out.1).trans (HC1.out 2 _ rfl)
      have m3 : w2.cell? ⟨w.heap.size + 1, 3, none⟩ = some (.int .i64 ld) := (HL2.out.cell (p := ⟨w.heap.size + 1, 3, none⟩) HS2.out.1).trans (HC1.out 3 _ rfl)
      have m4 : w2.cell? ⟨w.heap.size + 1, 4, none⟩ = some (.int .i64 cp) := (HL2.out.cell (p := ⟨w.heap.size + 1, 4, none⟩) HS2.out.1).trans (HC1.out 4 _ rfl)
      have m5 : w2.cell? ⟨w.heap.size + 1, 5, none⟩ = some (.int .i64 mo) := (HL2.out.cell (p := ⟨w.heap.size + 1, 5, none⟩) HS2.out.1).trans (HC1.out 5 _ rfl)
      have m6 : w2.cell? ⟨w.heap.size + 1, 6, none⟩ = some (.int .i64 le) := (HL2.out.cell (p := ⟨w.heap.size + 1, 6, none⟩) HS2.out.1).trans (HC1.out 6 _ rfl)
      have r0 : w2.cell? ⟨w.heap.size, 0, none⟩ = some (.int .i64 x0) := (HL2.out.cell (p := ⟨w.heap.size, 0, none⟩) HS2.out.2).trans (HC0.out 0 _ rfl)
      have r1 : w2.cell? ⟨w.heap.size, 1, none⟩ = some (.int .i64 x1) := (HL2.out.cell (p := ⟨w.heap.size, 1, none⟩) HS2.out.2).trans (HC0.out 1 _ rfl)
      have r2 : w2.cell? ⟨w.heap.size, 2, none⟩ = some (.int .i64 x2) := (HL2.out.cell (p := ⟨w.heap.size, 2, none⟩) HS2.out.2).trans (HC0.out 2 _ rfl)
      have r3 : w2.cell? ⟨w.heap.size, 3, none⟩ = some (.int .i64 x3) := (HL2.out.cell (p := ⟨w.heap.size, 3, none⟩) HS2.out.2).trans (HC0.out 3 _ rfl)
      have r4 : w2.cell? ⟨w.heap.size, 4, none⟩ = some (.int .i64 x4) := (HL2.out.cell (p := ⟨w.heap.size, 4, none⟩) HS2.out.2).trans (HC0.out 4 _ rfl)
      go_wp2_with fail
      refine (H2'.out _).mono ?_
      rintro x w3 ⟨rfl, hb3⟩
      have HB3 := hid (HB2.out.trans (hb3.mono HB2.out.size))
      clear hb3
      go_wp2_with fail
      go_ret
      exact ⟨rfl, HB3.out⟩
    · go_wp2_with fail
      go_ret
      exact ⟨rfl, HB2.out⟩
  · go_wp2_with fail
    go_ret
    exact ⟨rfl, HB1.out⟩

theorem Field_any (qp th rt ld cp mo le : Int) (x0 x1 x2 x3 x4 : Int) (n : Int) (w : World) :
    Calls Try.prog 16 #[.agg #[.int .i64 x0, .int .i64 x1, .int .i64 x2, .int .i64 x3, .int .i64 x4], .int .i64 n, .agg #[.int .i64 qp, .int .i64 th, .int .i64 rt, .int .i64 ld, .int .i64 cp, .int .i64 mo, .int .i64 le]] w fun x w' => x = .returned (.string (fieldS qp th rt ld cp mo le x0 x1 x2 x3 x4 n)) ∧ Below w.heap.size w w' := by
  refine field_core qp th rt ld cp mo le x0 x1 x2 x3 x4 n (sysE x0 x1 x2 x3 x4) (nowB qp th rt ld cp mo le && inR n 1 1099511627776) (blkS qp th rt ld cp mo le x0 x1 x2 x3 x4 n) _ ?_ w (hid fun w => System_any x0 x1 x2 x3 x4 w) (hid fun w => mayBe_any qp th rt ld cp mo le n w) (hid fun h w => ?_)
  · unfold fieldS sysE
    cases sysB x0 x1 x2 x3 x4 <;> cases (nowB qp th rt ld cp mo le && inR n 1 1099511627776) <;> simp
  · simp only [Bool.and_eq_true] at h
    exact blocking_any qp th rt ld cp mo le x0 x1 x2 x3 x4 n h.2 h.1 w

set_option maxHeartbeats 1000000 in
theorem system_core (qp th rt ld cp mo le : Int) (x0 x1 x2 x3 x4 : Int) (n : Int) (s : ByteArray) (b : Bool) (hb : s.toList.isEmpty = b) (w : World)
    (H0 : Hid (∀ w, Calls Try.prog 16 #[.agg #[.int .i64 x0, .int .i64 x1, .int .i64 x2, .int .i64 x3, .int .i64 x4], .int .i64 n, .agg #[.int .i64 qp, .int .i64 th, .int .i64 rt, .int .i64 ld, .int .i64 cp, .int .i64 mo, .int .i64 le]] w fun x w' => x = .returned (.string s) ∧ Below w.heap.size w w')) :
    Calls Try.prog 14 #[.agg #[.int .i64 x0, .int .i64 x1, .int .i64 x2, .int .i64 x3, .int .i64 x4], .int .i64 n, .agg #[.int .i64 qp, .int .i64 th, .int .i64 rt, .int .i64 ld, .int .i64 cp, .int .i64 mo, .int .i64 le]] w fun x w' => x = .returned (.bool b) ∧ Below w.heap.size w w' := by
  obtain ⟨W, hW⟩ : ∃ W, (w.alloc (.cells #[.int .i64 x0, .int .i64 x1, .int .i64 x2, .int .i64 x3, .int .i64 x4] 38)).alloc (.cells #[.int .i64 qp, .int .i64 th, .int .i64 rt, .int .i64 ld, .int .i64 cp, .int .i64 mo, .int .i64 le] 27) = W := ⟨_, rfl⟩
  have HB : Hid (Below w.heap.size w W) := hid (by rw [← hW]; exact ((Below.refl _ w).alloc (Nat.le_refl _) _).alloc (by simp) _)
  obtain ⟨c0, c1', -, -⟩ := two w _ _ _ _ W hW
  have H := hid (H0.out W)
  have z0 : W.cell? ⟨w.heap.size, 0, none⟩ = some (.int .i64 x0) := c0 0 _ rfl
  have z1 : W.cell? ⟨w.heap.size, 1, none⟩ = some (.int .i64 x1) := c0 1 _ rfl
  have z2 : W.cell? ⟨w.heap.size, 2, none⟩ = some (.int .i64 x2) := c0 2 _ rfl
  have z3 : W.cell? ⟨w.heap.size, 3, none⟩ = some (.int .i64 x3) := c0 3 _ rfl
  have z4 : W.cell? ⟨w.heap.size, 4, none⟩ = some (.int .i64 x4) := c0 4 _ rfl
  have y0 : W.cell? ⟨w.heap.size + 1, 0, none⟩ = some (.int .i64 qp) := c1' 0 _ rfl
  have y1 : W.cell? ⟨w.heap.size + 1, 1, none⟩ = some (.int .i64 th) := c1' 1 _ rfl
  have y2 : W.cell? ⟨w.heap.size + 1, 2, none⟩ = some (.int .i64 rt) := c1' 2 _ rfl
  have y3 : W.cell? ⟨w.heap.size + 1, 3, none⟩ = some (.int .i64 ld) := c1' 3 _ rfl
  have y4 : W.cell? ⟨w.heap.size + 1, 4, none⟩ = some (.int .i64 cp) := c1' 4 _ rfl
  have y5 : W.cell? ⟨w.heap.size + 1, 5, none⟩ = some (.int .i64 mo) := c1' 5 _ rfl
  have y6 : W.cell? ⟨w.heap.size + 1, 6, none⟩ = some (.int .i64 le) := c1' 6 _ rfl
  clear c0 c1'
  go_enter Try.func14, Try.ntmps14
  go_wp2_with fail
  refine H.out.mono ?_
  rintro x w1 ⟨rfl, hb1⟩
  have HB1 := hid (HB.out.trans (hb1.mono HB.out.size))
  clear hb1 H
  go_wp2_with fail
  go_ret
  exact ⟨rfl, HB1.out⟩

theorem System_is (qp th rt ld cp mo le : Int) (x0 x1 x2 x3 x4 : Int) (n : Int) (w : World) :
    Calls Try.prog 14 #[.agg #[.int .i64 x0, .int .i64 x1, .int .i64 x2, .int .i64 x3, .int .i64 x4], .int .i64 n, .agg #[.int .i64 qp, .int .i64 th, .int .i64 rt, .int .i64 ld, .int .i64 cp, .int .i64 mo, .int .i64 le]] w fun x w' => x = .returned (.bool (decide (fieldS qp th rt ld cp mo le x0 x1 x2 x3 x4 n = ⟨#[]⟩))) ∧ Below w.heap.size w w' :=
  system_core qp th rt ld cp mo le x0 x1 x2 x3 x4 n _ _ (empty_eq _) w (hid fun w => Field_any qp th rt ld cp mo le x0 x1 x2 x3 x4 n w)

end Go.Proofs.Ytoilakjlnflpbaa.GuaB
