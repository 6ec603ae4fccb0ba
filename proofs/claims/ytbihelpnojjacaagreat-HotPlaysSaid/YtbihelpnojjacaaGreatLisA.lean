/- Lists of texts looked through; names and system rules, the program's and the document's. -/
import Derived.Test.YtbihelpnojjacaaGreatValA
import Derived.Test.YtbihelpnojjacaaGreatRulA
import Derived.Test.YtbihelpnojjacaaGreatTxt
import Derived.Deep.RegionHeld3
namespace Go.Proofs.YtbihelpnojjacaaGreat.LisA
open Go.ChangeShapes Go.WideShapes Go.ChangeAt Go.RowKit Base RulA Txt ValA
set_option linter.unusedVariables false

abbrev bs (x : List UInt8) : ByteArray := ⟨x.toArray⟩
theorem bs_list (x : List UInt8) : (bs x).toList = x := by rw [ByteArray.toList_eq]
theorem bs_size (x : List UInt8) : (bs x).size = x.length := by simp [ByteArray.size]

set_option maxHeartbeats 400000 in
theorem isNone_any (s : ByteArray) (w : World) (hs : s.size ≤ maxLen) :
    Calls Tryz.prog 117 #[.string s] w fun e w' => e = .returned (.bool (!nameB s)) ∧ w = w' := by
  have HW := hid (IsName_any s w hs)
  go_enter Tryz.func117, Tryz.ntmps117
  go_wp2_with fail
  refine HW.out.mono ?_
  rintro e w1 ⟨rfl, rfl⟩
  go_wp2_with fail
  go_ret
  exact ⟨rfl, rfl⟩

/-- the place of the first that is so, or -1 -/
def firstAt (P : List UInt8 → Bool) (ss : List (List UInt8)) : Int := match ss.findIdx? P with | some k => (k : Int) | none => -1
theorem firstAt_yes {P : List UInt8 → Bool} {ss : List (List UInt8)} {k : Nat} {x : List UInt8} (hx : ss[k]? = some x) (hP : P x = true) (hno : ∀ (i : Nat) y, i < k → ss[i]? = some y → P y = false) : firstAt P ss = k := by
  have : ss.findIdx? P = some k := by
    rw [List.findIdx?_eq_some_iff_getElem]
    obtain ⟨hk, hx2⟩ := List.getElem?_eq_some_iff.1 hx
    exact ⟨hk, by rw [hx2]; exact hP, fun j hj => by simp only [Bool.not_eq_true]; exact hno j _ hj (List.getElem?_eq_getElem (by omega))⟩
  unfold firstAt
  rw [this]
theorem firstAt_no {P : List UInt8 → Bool} {ss : List (List UInt8)} (hno : ∀ (i : Nat) y, ss[i]? = some y → P y = false) : firstAt P ss = -1 := by
  have : ss.findIdx? P = none := by
    rw [List.findIdx?_eq_none_iff]
    intro x hx
    obtain ⟨i, hi, rfl⟩ := List.getElem_of_mem hx
    exact hno i _ (List.getElem?_eq_getElem hi)
  unfold firstAt
  rw [this]
theorem firstAt_any (P : List UInt8 → Bool) (ss : List (List UInt8)) : decide (0 ≤ firstAt P ss) = ss.any P := by
  unfold firstAt
  cases h : ss.findIdx? P with
  | some k =>
    have h2 := List.findIdx?_isSome (p := P) (xs := ss)
    rw [h] at h2
    rw [← h2]
    simp
  | none =>
    have h2 := List.findIdx?_isSome (p := P) (xs := ss)
    rw [h] at h2
    rw [← h2]
    rfl

set_option maxRecDepth 20000 in
set_option maxHeartbeats 1000000 in
theorem indexNone_any (a : Option Addr) (cap : Nat) (ss : List (List UInt8)) (HL : Hid (∀ x ∈ ss, x.length ≤ maxLen)) (w : World) (hss : ss.length ≤ 9223372036854775807) (HT : Hid (TAt w w.heap.size a ss)) :
    Calls Tryz.prog 145 #[.slice a ss.length cap, .func (Fn.func 117) #[] #[]] w fun e w' => e = .returned (.int .i64 (firstAt (fun x => !nameB (bs x)) ss)) ∧ w = w' := by
  obtain ⟨n, hn⟩ : ∃ n, ss.length = n := ⟨_, rfl⟩
  have HN := hid hn
  rw [hn] at hss ⊢
  clear hn
  go_enter Tryz.func145, Tryz.ntmps145
  go_wp2_with fail
  go_loop [8] (fun i => ∃ k : Nat, k ≤ n ∧ i = .int .i64 k ∧ ∀ j y, j < k → ss[j]? = some y → (fun x => !nameB (bs x)) y = false) (fun i => n - (intOf i).toNat)
  case atStart => exact ⟨0, Nat.zero_le _, rfl, fun j y h => by omega⟩
  case round =>
    obtain ⟨k, hk, rfl, hno⟩ := hrel
    have HNo := hid hno
    clear hno
    by_cases hlt : k < n
    · obtain ⟨g, o, rfl, hg, hc⟩ := HT.out (by rw [HN.out]; omega)
      obtain ⟨x, hx⟩ : ∃ x, ss[k]? = some x := ⟨ss[k]'(by rw [HN.out]; exact hlt), List.getElem?_eq_getElem _⟩
      have x0 : w.cell? ⟨g, o + k, none⟩ = some (.string ⟨x.toArray⟩) := hc k x hx
      have HX := hid hx
      clear hc hx
      obtain ⟨b, hb⟩ : ∃ b, (fun x => !nameB (bs x)) x = b := ⟨_, rfl⟩
      have HB := hid hb
      have HA := hid (isNone_any (bs x) w (by rw [bs_size]; exact HL.out x (List.mem_of_getElem? HX.out)))
      rw [show (!nameB (bs x)) = b from hb] at HA
      clear hb
      cases b with
      | true =>
        have HE : Hid (firstAt (fun x => !nameB (bs x)) ss = k) := hid (firstAt_yes HX.out HB.out HNo.out)
        go_wp2_with fail
        refine HA.out.mono ?_
        rintro e w1 ⟨rfl, rfl⟩
        go_wp2_with fail
        go_ret
        exact ⟨by rw [HE.out]; rfl, rfl⟩
      | false =>
        go_wp2_with fail
        refine HA.out.mono ?_
        rintro e w1 ⟨rfl, rfl⟩
        go_wp2_with fail
        go_round
        case rel => exact ⟨k + 1, by omega, by go_num, fun j y h1 h2 => (by
          rcases Nat.lt_or_ge j k with e | e
          · exact HNo.out j y e h2
          · obtain rfl : j = k := by omega
            rw [HX.out] at h2; cases h2; exact HB.out)⟩
        case measure => simp [intOf]; omega
    · obtain rfl : k = n := by omega
      have HE : Hid (firstAt (fun x => !nameB (bs x)) ss = -1) := hid (firstAt_no fun i y h => HNo.out i y (by have := (List.getElem?_eq_some_iff.1 h).1; rw [HN.out] at this; exact this) h)
      go_wp2_with fail
      go_ret
      exact ⟨by rw [HE.out]; rfl, rfl⟩

set_option maxRecDepth 20000 in
set_option maxHeartbeats 1000000 in
theorem index_any (a : Option Addr) (cap : Nat) (ss : List (List UInt8)) (s : ByteArray) (w : World) (hss : ss.length ≤ 9223372036854775807) (HT : Hid (TAt w w.heap.size a ss)) :
    Calls Tryz.prog 85 #[.slice a ss.length cap, .string s] w fun e w' => e = .returned (.int .i64 (firstAt (fun x => decide (bs x = s)) ss)) ∧ w = w' := by
  obtain ⟨n, hn⟩ : ∃ n, ss.length = n := ⟨_, rfl⟩
  have HN := hid hn
  rw [hn] at hss ⊢
  clear hn
  go_enter Tryz.func85, Tryz.ntmps85
  go_wp2_with fail
  go_loop [8] (fun i => ∃ k : Nat, k ≤ n ∧ i = .int .i64 k ∧ ∀ j y, j < k → ss[j]? = some y → (fun x => decide (bs x = s)) y = false) (fun i => n - (intOf i).toNat)
  case atStart => exact ⟨0, Nat.zero_le _, rfl, fun j y h => by omega⟩
  case round =>
    obtain ⟨k, hk, rfl, hno⟩ := hrel
    have HNo := hid hno
    clear hno
    by_cases hlt : k < n
    · obtain ⟨g, o, rfl, hg, hc⟩ := HT.out (by rw [HN.out]; omega)
      obtain ⟨x, hx⟩ : ∃ x, ss[k]? = some x := ⟨ss[k]'(by rw [HN.out]; exact hlt), List.getElem?_eq_getElem _⟩
      have x0 : w.cell? ⟨g, o + k, none⟩ = some (.string ⟨x.toArray⟩) := hc k x hx
      have HX := hid hx
      clear hc hx
      obtain ⟨b, hb⟩ : ∃ b, (fun x => decide (bs x = s)) x = b := ⟨_, rfl⟩
      have HB := hid hb
      have e1 : (s.toList == x) = b := by rw [show x = (bs x).toList from (bs_list x).symm, text_eq]; exact (decide_eq_decide.2 eq_comm).trans hb
      clear hb
      cases b with
      | true =>
        have HE : Hid (firstAt (fun x => decide (bs x = s)) ss = k) := hid (firstAt_yes HX.out HB.out HNo.out)
        go_wp2_with fail
        go_ret
        exact ⟨by rw [HE.out]; rfl, rfl⟩
      | false =>
        go_wp2_with fail
        go_round
        case rel => exact ⟨k + 1, by omega, by go_num, fun j y h1 h2 => (by
          rcases Nat.lt_or_ge j k with e | e
          · exact HNo.out j y e h2
          · obtain rfl : j = k := by omega
            rw [HX.out] at h2; cases h2; exact HB.out)⟩
        case measure => simp [intOf]; omega
    · obtain rfl : k = n := by omega
      have HE : Hid (firstAt (fun x => decide (bs x = s)) ss = -1) := hid (firstAt_no fun i y h => HNo.out i y (by have := (List.getElem?_eq_some_iff.1 h).1; rw [HN.out] at this; exact this) h)
      go_wp2_with fail
      go_ret
      exact ⟨by rw [HE.out]; rfl, rfl⟩

set_option maxHeartbeats 400000 in
theorem containsNone_any (a : Option Addr) (cap : Nat) (ss : List (List UInt8)) (HL : Hid (∀ x ∈ ss, x.length ≤ maxLen)) (w : World) (hss : ss.length ≤ 9223372036854775807) (HT : Hid (TAt w w.heap.size a ss)) :
    Calls Tryz.prog 118 #[.slice a ss.length cap, .func (Fn.func 117) #[] #[]] w fun e w' => e = .returned (.bool (ss.any (fun x => !nameB (bs x)))) ∧ w = w' := by
  have HI := hid (indexNone_any a cap ss HL w hss HT)
  obtain ⟨i, hi⟩ : ∃ i, firstAt (fun x => !nameB (bs x)) ss = i := ⟨_, rfl⟩
  have HB : Hid (decide (0 ≤ i) = ss.any (fun x => !nameB (bs x))) := hid (by rw [← hi]; exact firstAt_any _ _)
  rw [hi] at HI
  clear hi
  go_enter Tryz.func118, Tryz.ntmps118
  go_wp2_with fail
  refine HI.out.mono ?_
  rintro e w1 ⟨rfl, rfl⟩
  clear HI
  by_cases h : 0 ≤ i
  · have hd : decide (0 ≤ i) = true := by simpa using h
    rw [hd] at HB
    clear hd
    go_wp2_with fail
    go_ret
    exact ⟨ret_bool (by rw [← HB.out]), rfl⟩
  · have hd : decide (0 ≤ i) = false := by simpa using h
    rw [hd] at HB
    clear h
    go_wp2_with fail
    go_ret
    exact ⟨ret_bool (by rw [← HB.out]), rfl⟩

set_option maxHeartbeats 400000 in
theorem contains_any (a : Option Addr) (cap : Nat) (ss : List (List UInt8)) (s : ByteArray) (w : World) (hss : ss.length ≤ 9223372036854775807) (HT : Hid (TAt w w.heap.size a ss)) :
    Calls Tryz.prog 53 #[.slice a ss.length cap, .string s] w fun e w' => e = .returned (.bool (ss.any (fun x => decide (bs x = s)))) ∧ w = w' := by
  have HI := hid (index_any a cap ss s w hss HT)
  obtain ⟨i, hi⟩ : ∃ i, firstAt (fun x => decide (bs x = s)) ss = i := ⟨_, rfl⟩
  have HB : Hid (decide (0 ≤ i) = ss.any (fun x => decide (bs x = s))) := hid (by rw [← hi]; exact firstAt_any _ _)
  rw [hi] at HI
  clear hi
  go_enter Tryz.func53, Tryz.ntmps53
  go_wp2_with fail
  refine HI.out.mono ?_
  rintro e w1 ⟨rfl, rfl⟩
  clear HI
  by_cases h : 0 ≤ i
  · have hd : decide (0 ≤ i) = true := by simpa using h
    rw [hd] at HB
    clear hd
    go_wp2_with fail
    go_ret
    exact ⟨ret_bool (by rw [← HB.out]), rfl⟩
  · have hd : decide (0 ≤ i) = false := by simpa using h
    rw [hd] at HB
    clear h
    go_wp2_with fail
    go_ret
    exact ⟨ret_bool (by rw [← HB.out]), rfl⟩

set_option maxHeartbeats 400000 in
theorem in_any (n lo hi : Int) (w : World) :
    Calls Tryz.prog 58 #[.int .i64 n, .int .i64 lo, .int .i64 hi] w fun e w' => e = .returned (.bool (inR n lo hi)) ∧ w = w' := by
  by_cases h1 : lo ≤ n
  · by_cases h2 : n ≤ hi
    · have e : inR n lo hi = true := inR_iff.2 ⟨h1, h2⟩
      rw [e]; clear e
      go_enter Tryz.func58, Tryz.ntmps58
      go_wp2
      go_ret
      exact ⟨rfl, rfl⟩
    · have e : inR n lo hi = false := inR_not.2 (by omega)
      rw [e]; clear e
      have h2' : decide (n ≤ hi) = false := by simpa using h2
      clear h2
      go_enter Tryz.func58, Tryz.ntmps58
      go_wp2
      go_ret
      exact ⟨rfl, rfl⟩
  · have e : inR n lo hi = false := inR_not.2 (by omega)
    rw [e]; clear e
    have h1' : decide (lo ≤ n) = false := by simpa using h1
    clear h1
    go_enter Tryz.func58, Tryz.ntmps58
    go_wp2
    go_ret
    exact ⟨rfl, rfl⟩

set_option maxRecDepth 20000 in
set_option maxHeartbeats 1000000 in
theorem rname_any (s : ByteArray) (w : World) (hs : s.size ≤ maxLen) :
    Calls Tryz.prog 57 #[.string s] w fun e w' => e = .returned (.bool (nameB s)) ∧ w = w' := by
  unfold maxLen at hs
  by_cases h1 : s.size < 1
  · have e : nameB s = false := name_not.2 (fun h => by omega)
    rw [e]; clear e
    go_enter Tryz.func57, Tryz.ntmps57
    go_wp2_with fail
    go_ret
    exact ⟨rfl, rfl⟩
  · by_cases h2 : 64 < s.size
    · have e : nameB s = false := name_not.2 (fun h => by omega)
      rw [e]; clear e
      have h1' : decide (s.size < 1) = false := by simpa using h1
      have h2' : decide (64 < s.size) = true := by simpa using h2
      clear h1
      go_enter Tryz.func57, Tryz.ntmps57
      go_wp2_with fail
      go_ret
      exact ⟨rfl, rfl⟩
    · have HR : Hid (1 ≤ s.size ∧ s.size ≤ 64) := hid ⟨by omega, by omega⟩
      have h1' : ¬ ((s.size : Int) < 1) := by omega
      have h2' : ¬ (64 < (s.size : Int)) := by omega
      clear h1 h2
      go_enter Tryz.func57, Tryz.ntmps57
      go_wp2_with fail
      clear h1' h2'
      go_loop [3] (fun i => ∃ k : Nat, k ≤ s.size ∧ i = .int .i64 k ∧ ∀ j, (h : j < s.size) → j < k → okB s[j] = true) (fun i => s.size - (intOf i).toNat)
      case atStart => exact ⟨0, Nat.zero_le _, rfl, fun j _ h => by omega⟩
      case round =>
        obtain ⟨k, hk, rfl, hok⟩ := hrel
        have HOK := hid hok
        clear hok
        by_cases hlt : k < s.size
        · cases hb : okB s[k] with
          | true =>
            have hb2 : 33 ≤ s[k].toNat ∧ s[k].toNat ≤ 126 := by unfold okB at hb; simpa using hb
            obtain ⟨hb3, hb4⟩ := hb2
            have HX := hid hb
            clear hb
            go_wp2
            go_round
            case rel => exact ⟨k + 1, by omega, by go_num, fun j h1 h2 => (by
              by_cases e : j = k
              · subst e; exact HX.out
              · exact HOK.out j h1 (by omega))⟩
            case measure => simp [intOf]; omega
          | false =>
            have e : nameB s = false := name_not.2 (fun h => by have := h.2.2 k hlt; rw [hb] at this; cases this)
            have hb2 : s[k].toNat < 33 ∨ 126 < s[k].toNat := by unfold okB at hb; simp at hb; omega
            have E := hid e
            clear e hb
            rcases hb2 with h | h
            · go_wp2
              go_ret
              exact ⟨ret_bool E.out.symm, rfl⟩
            · have h' : ¬ s[k].toNat < 33 := by omega
              go_wp2
              go_ret
              exact ⟨ret_bool E.out.symm, rfl⟩
        · have e : nameB s = true := name_iff.2 ⟨HR.out.1, HR.out.2, fun j h => HOK.out j h (by omega)⟩
          have E := hid e
          clear e
          obtain rfl : k = s.size := by omega
          go_wp2
          go_ret
          exact ⟨ret_bool E.out.symm, rfl⟩

end Go.Proofs.YtbihelpnojjacaaGreat.LisA
