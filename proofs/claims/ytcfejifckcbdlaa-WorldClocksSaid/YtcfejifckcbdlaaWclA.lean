/- Clocks of the document and of the program: every call. -/
import Derived.Test.YtcfejifckcbdlaaMem
import Derived.Test.YtcfejifckcbdlaaWri
import Derived.Test.YtcfejifckcbdlaaWldA
namespace Go.Proofs.Ytcfejifckcbdlaa.WclA
open Go.ChangeShapes Go.WideShapes Go.ChangeAt Go.RowKit Base ClkM Clk WldA WldF WldG Mem Wri

set_option maxHeartbeats 400000 in
theorem rtime_yes (n : Int) (h : 0 ≤ n) (h2 : n ≤ 1152921504606846976) (w : World) :
    Calls Try.prog 34 #[.int .i64 n] w fun e w' => e = .returned (.bool true) ∧ w = w' := by
  go_enter Try.func34, Try.ntmps34
  go_wp2
  go_ret
  exact ⟨rfl, rfl⟩

set_option maxHeartbeats 400000 in
theorem rtime_no (n : Int) (h : ¬ IsT n) (w : World) :
    Calls Try.prog 34 #[.int .i64 n] w fun e w' => e = .returned (.bool false) ∧ w = w' := by
  by_cases h1 : 0 ≤ n
  · have h2 : decide (n ≤ 1152921504606846976) = false := by unfold IsT at h; simp; omega
    clear h
    go_enter Try.func34, Try.ntmps34
    go_wp2
    go_ret
    exact ⟨rfl, rfl⟩
  · have h0 : decide (0 ≤ n) = false := by simpa using h1
    clear h h1
    go_enter Try.func34, Try.ntmps34
    go_wp2
    go_ret
    exact ⟨rfl, rfl⟩

set_option maxHeartbeats 400000 in
theorem rnew_yes (n : Int) (h : IsT n) (w : World) :
    Calls Try.prog 7 #[.int .i64 n] w fun e w' => e = .returned (.tuple #[.pointer (some ⟨w.heap.size, 0, none⟩), .int .i64 0]) ∧ w.alloc (.cells #[.int .i64 n] 41) = w' := by
  have H : Hid (IsT n) := hid h
  clear h
  go_enter Try.func7, Try.ntmps7
  go_wp2_with (go_at_call 34; refine (rtime_yes n H.out.1 H.out.2 _).mono ?_; rintro e w1 ⟨rfl, rfl⟩)
  go_ret2
  exact ⟨rfl, rfl⟩

set_option maxHeartbeats 400000 in
theorem rnew_no (n : Int) (h : ¬ IsT n) (w : World) :
    Calls Try.prog 7 #[.int .i64 n] w fun e w' => e = .returned (.tuple #[.pointer none, .int .i64 2]) ∧ w = w' := by
  have H : Hid (¬ IsT n) := hid h
  clear h
  go_enter Try.func7, Try.ntmps7
  go_wp2_with (go_at_call 34; refine (rtime_no n H.out _).mono ?_; rintro e w1 ⟨rfl, rfl⟩)
  go_ret2
  exact ⟨rfl, rfl⟩

set_option maxHeartbeats 400000 in
theorem rtick_core (b : Nat) (s : Int) (p q len cap : Nat) (xs : List Int) (w : World) (h : w.cell? ⟨b, 0, none⟩ = some (.int .i64 s)) (hf : w.frozen? ⟨b, 0, none⟩ = false)
    (hlen : len ≤ 9223372036854775807) (HL : Hid (xs.length = len)) (HC : Hid (∀ i, i < len → w.cell? ⟨p, q + i, none⟩ = some (.int .i64 (xs.getD i 0)))) (HS : Hid (IsT s)) :
    Calls Try.prog 11 #[.pointer (some ⟨b, 0, none⟩), .slice (some ⟨p, q, none⟩) len cap] w (TickPost b (tickF s xs) w) := by
  go_enter Try.func11, Try.ntmps11
  go_wp2
  go_loop [6, 7] (fun t i => ∃ (k : Nat) (n : Int), k ≤ len ∧ i = .int .i64 k ∧ t = .int .i64 n ∧ tickF s (xs.take k) = some n) (fun _ i => len - (intOf i).toNat)
  case atStart => exact ⟨0, s, Nat.zero_le _, rfl, rfl, rfl⟩
  case round =>
    obtain ⟨k, n, hk, rfl, rfl, hn⟩ := hrel
    have HN : Hid (tickF s (xs.take k) = some n) := hid hn
    have hT := (tickF_some HS.out hn).1
    have hT1 := hT.1
    have hT2 := hT.2
    clear hn hT
    by_cases hlt : k < len
    · have hx := HC.out k hlt
      have HX : Hid (xs.take (k + 1) = xs.take k ++ [xs.getD k 0]) := hid (by have hkl : k < xs.length := (by rw [HL.out]; exact hlt); rw [take_snoc xs k hkl]; simp [List.getD, hkl])
      generalize xs.getD k 0 = x at *
      have HX2 : Hid (tickF s (xs.take (k + 1)) = if 0 ≤ x ∧ n + x ≤ 1152921504606846976 then some (n + x) else none) := hid (by rw [HX.out, tickF_snoc, HN.out]; rfl)
      by_cases hg0 : 0 ≤ x
      · by_cases hg : n + x ≤ 1152921504606846976
        · go_wp2
          go_round
          case rel => exact ⟨k + 1, n + x, by omega, by go_num, rfl, by rw [HX2.out, if_pos ⟨hg0, hg⟩]⟩
          case measure => simp [intOf]; omega
        · have HE : Hid (tickF s xs = none) := hid (tickF_take_none (k + 1) (by rw [HX2.out, if_neg (by omega)]))
          go_wp2
          go_ret2
          exact TickPost.none' HE.out ⟨rfl, rfl⟩
      · have HE : Hid (tickF s xs = none) := hid (tickF_take_none (k + 1) (by rw [HX2.out, if_neg (by omega)]))
        go_wp2
        go_ret2
        exact TickPost.none' HE.out ⟨rfl, rfl⟩
    · have HE : Hid (tickF s xs = some n) := hid (by have := HN.out; rwa [List.take_of_length_le (by rw [HL.out]; omega)] at this)
      go_wp2
      go_ret2
      exact TickPost.some' HE.out ⟨rfl, rfl⟩

set_option maxHeartbeats 400000 in
theorem tick_empty (b : Nat) (s : Int) (a : Option Addr) (cap : Nat) (w : World) (h : w.cell? ⟨b, 0, none⟩ = some (.int .i64 s)) (hf : w.frozen? ⟨b, 0, none⟩ = false) :
    Calls Try.prog 10 #[.pointer (some ⟨b, 0, none⟩), .slice a 0 cap] w (TickPost b (some s) w) := by
  go_enter Try.func10, Try.ntmps10
  go_wp2
  go_loop [6, 17] (fun t i => i = .int .i64 0 ∧ t = .int .i64 s) (fun _ i => 0)
  case atStart => exact ⟨rfl, rfl⟩
  case round =>
    obtain ⟨rfl, rfl⟩ := hrel
    go_wp2
    go_ret2
    exact TickPost.some' rfl ⟨rfl, rfl⟩

set_option maxHeartbeats 400000 in
theorem rtick_empty (b : Nat) (s : Int) (a : Option Addr) (cap : Nat) (w : World) (h : w.cell? ⟨b, 0, none⟩ = some (.int .i64 s)) (hf : w.frozen? ⟨b, 0, none⟩ = false) :
    Calls Try.prog 11 #[.pointer (some ⟨b, 0, none⟩), .slice a 0 cap] w (TickPost b (some s) w) := by
  go_enter Try.func11, Try.ntmps11
  go_wp2
  go_loop [6, 7] (fun t i => i = .int .i64 0 ∧ t = .int .i64 s) (fun _ i => 0)
  case atStart => exact ⟨rfl, rfl⟩
  case round =>
    obtain ⟨rfl, rfl⟩ := hrel
    go_wp2
    go_ret2
    exact TickPost.some' rfl ⟨rfl, rfl⟩

theorem tick_any (b : Nat) (s : Int) (a : Option Addr) (n cap : Nat) (f : Nat → Int) (w : World) (h : w.cell? ⟨b, 0, none⟩ = some (.int .i64 s)) (hf : w.frozen? ⟨b, 0, none⟩ = false) (hn : n ≤ 9223372036854775807) (hi : IntsAt w a n f) (hs : IsT s) :
    Calls Try.prog 10 #[.pointer (some ⟨b, 0, none⟩), .slice a n cap] w (TickPost b (tickF s (firsts f n)) w) := by
  by_cases h0 : n = 0
  · subst h0; exact tick_empty b s a cap w h hf
  · obtain ⟨g, o, rfl, _, hc⟩ := hi (by omega)
    exact tick_core b s g o n cap (firsts f n) w h hf hn (hid (firsts_len f n)) (hid fun i hi => by rw [firsts_get f n i hi]; exact hc i hi) (hid hs)

theorem rtick_any (b : Nat) (s : Int) (a : Option Addr) (n cap : Nat) (f : Nat → Int) (w : World) (h : w.cell? ⟨b, 0, none⟩ = some (.int .i64 s)) (hf : w.frozen? ⟨b, 0, none⟩ = false) (hn : n ≤ 9223372036854775807) (hi : IntsAt w a n f) (hs : IsT s) :
    Calls Try.prog 11 #[.pointer (some ⟨b, 0, none⟩), .slice a n cap] w (TickPost b (tickF s (firsts f n)) w) := by
  by_cases h0 : n = 0
  · subst h0; exact rtick_empty b s a cap w h hf
  · obtain ⟨g, o, rfl, _, hc⟩ := hi (by omega)
    exact rtick_core b s g o n cap (firsts f n) w h hf hn (hid (firsts_len f n)) (hid fun i hi => by rw [firsts_get f n i hi]; exact hc i hi) (hid hs)

/-- what Set comes to -/
def SetPost (b : Nat) (s n : Int) (w : World) (e : Ending) (w' : World) : Prop :=
  (∃ r : Int, r = (if ¬ IsT n then 2 else if n < s then 7 else 0) ∧ e = .returned (.int .i64 r)) ∧ ((IsT n ∧ s ≤ n ∧ w.setCell ⟨b, 0, none⟩ (.int .i64 n) = w') ∨ (¬ (IsT n ∧ s ≤ n) ∧ w = w'))

set_option maxHeartbeats 400000 in
theorem set_any (b : Nat) (s n : Int) (w : World) (h : w.cell? ⟨b, 0, none⟩ = some (.int .i64 s)) (hf : w.frozen? ⟨b, 0, none⟩ = false) :
    Calls Try.prog 12 #[.pointer (some ⟨b, 0, none⟩), .int .i64 n] w (SetPost b s n w) := by
  by_cases hn : IsT n
  · have HN := hid hn
    clear hn
    by_cases hs : n < s
    · go_enter Try.func12, Try.ntmps12
      go_wp2_with fail
      refine (isTime_yes n HN.out.1 HN.out.2 _).mono ?_
      rintro e w1 ⟨rfl, rfl⟩
      go_wp2
      go_ret
      exact ⟨⟨7, by simp [HN.out, hs], rfl⟩, .inr ⟨fun h => by omega, rfl⟩⟩
    · go_enter Try.func12, Try.ntmps12
      go_wp2_with fail
      refine (isTime_yes n HN.out.1 HN.out.2 _).mono ?_
      rintro e w1 ⟨rfl, rfl⟩
      go_wp2
      go_ret
      exact ⟨⟨0, by simp [HN.out, hs], rfl⟩, .inl ⟨HN.out, by omega, rfl⟩⟩
  · have HN := hid hn
    clear hn
    go_enter Try.func12, Try.ntmps12
    go_wp2_with fail
    refine (isTime_no n HN.out _).mono ?_
    rintro e w1 ⟨rfl, rfl⟩
    go_wp2
    go_ret
    exact ⟨⟨2, by simp [HN.out], rfl⟩, .inr ⟨fun h => HN.out h.1, rfl⟩⟩

set_option maxHeartbeats 400000 in
theorem rset_any (b : Nat) (s n : Int) (w : World) (h : w.cell? ⟨b, 0, none⟩ = some (.int .i64 s)) (hf : w.frozen? ⟨b, 0, none⟩ = false) :
    Calls Try.prog 13 #[.pointer (some ⟨b, 0, none⟩), .int .i64 n] w (SetPost b s n w) := by
  by_cases hn : IsT n
  · have HN := hid hn
    clear hn
    by_cases hs : n < s
    · go_enter Try.func13, Try.ntmps13
      go_wp2_with fail
      refine (rtime_yes n HN.out.1 HN.out.2 _).mono ?_
      rintro e w1 ⟨rfl, rfl⟩
      go_wp2
      go_ret
      exact ⟨⟨7, by simp [HN.out, hs], rfl⟩, .inr ⟨fun h => by omega, rfl⟩⟩
    · go_enter Try.func13, Try.ntmps13
      go_wp2_with fail
      refine (rtime_yes n HN.out.1 HN.out.2 _).mono ?_
      rintro e w1 ⟨rfl, rfl⟩
      go_wp2
      go_ret
      exact ⟨⟨0, by simp [HN.out, hs], rfl⟩, .inl ⟨HN.out, by omega, rfl⟩⟩
  · have HN := hid hn
    clear hn
    go_enter Try.func13, Try.ntmps13
    go_wp2_with fail
    refine (rtime_no n HN.out _).mono ?_
    rintro e w1 ⟨rfl, rfl⟩
    go_wp2
    go_ret
    exact ⟨⟨2, by simp [HN.out], rfl⟩, .inr ⟨fun h => HN.out h.1, rfl⟩⟩

set_option maxHeartbeats 400000 in
theorem fork_any (b : Nat) (n : Int) (w : World) (h : w.cell? ⟨b, 0, none⟩ = some (.int .i64 n)) :
    Calls Try.prog 14 #[.pointer (some ⟨b, 0, none⟩)] w fun e w' => e = .returned (.pointer (some ⟨w.heap.size, 0, none⟩)) ∧ w.alloc (.cells #[.int .i64 n] 90) = w' := by
  go_enter Try.func14, Try.ntmps14
  go_wp2
  go_ret
  exact ⟨rfl, rfl⟩

end Go.Proofs.Ytcfejifckcbdlaa.WclA
