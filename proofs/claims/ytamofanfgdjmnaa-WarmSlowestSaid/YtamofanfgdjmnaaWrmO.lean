/- WarmSlowest. -/
import Derived.Test.YtamofanfgdjmnaaWrmK
import Derived.Test.YtamofanfgdjmnaaMem
import Derived.Test.YtamofanfgdjmnaaOpn
namespace Go.Proofs.Ytamofanfgdjmnaa.WrmO
set_option linter.unusedVariables false
open Go.ChangeShapes Go.WideShapes Go.ChangeAt Go.RowKit Go.Deep Base WrmP NumM NumC NumE NumA WrmA WrmB WrmC WrmD WrmE WrmF WrmG WrmH WrmI WrmJ WrmK Wri Mem

def cold (x : Int) : Int := max (x / 3) 1
def stepF (L x : Int) : Int := if x ≤ 0 then L else if L = 0 ∨ cold x < L then cold x else L
def slowF (f : Nat → Int) : Nat → Int
  | 0 => 0
  | n + 1 => stepF (slowF f n) (f n)

def SRel (n : Nat) (f : Nat → Int) (w : World) (l i : Value) (wr : World) : Prop := ∃ k : Nat, k ≤ n ∧ i = .int .i64 k ∧ l = .int .i64 (slowF f k) ∧ w = wr

theorem parts (x : Int) (h0 : 0 < x) (h1 : x ≤ 9223372036854775807) : 0 ≤ x ∧ Int.tdiv x 3 = x / 3 ∧ wrap64 (x / 3) = x / 3 := ⟨by omega, Int.tdiv_eq_ediv_of_nonneg (by omega), by unfold wrap64; omega⟩

set_option maxRecDepth 20000 in
set_option maxHeartbeats 1000000 in
theorem Slowest_at (g o n cap : Nat) (f : Nat → Int) (w : World) (hn : n ≤ 9223372036854775807) (HC : Hid (∀ i, i < n → w.cell? ⟨g, o + i, none⟩ = some (.int .i64 (f i)))) (HX : Hid (∀ i, i < n → f i ≤ 9223372036854775807)) :
    Calls Try.prog 18 #[.slice (some ⟨g, o, none⟩) n cap] w fun e w' => e = .returned (.int .i64 (slowF f n)) ∧ w = w' := by
  go_enter Try.func18, Try.ntmps18
  go_wp2
  go_loopw [3, 9] (SRel n f w) (fun _ i _ => n - (intOf i).toNat)
  case atStart => exact ⟨0, Nat.zero_le _, rfl, rfl, rfl⟩
  case round =>
    obtain ⟨k, hk, rfl, rfl, rfl⟩ := hrel
    by_cases hlt : k < n
    · have hx := HC.out k hlt
      have hb := HX.out k hlt
      have HS := hid (show slowF f (k + 1) = stepF (slowF f k) (f k) from rfl)
      generalize f k = x at *
      generalize slowF f k = L at *
      by_cases h0 : x ≤ 0
      · have h1 : decide (x ≤ 0) = true := by simpa using h0
        go_wp2_with fail
        go_roundw
        case rel => exact ⟨k + 1, hlt, by go_num, by rw [HS.out]; unfold stepF; rw [if_pos h0], rfl⟩
        case measure => simp [intOf]; omega
      · have h1 : decide (x ≤ 0) = false := by simpa using h0
        obtain ⟨p1, p2, p3⟩ := parts x (by omega) hb
        have HT := hid (fun w => third_core x (x / 3) p1 rfl p2 p3 w)
        have HS2 : Hid (slowF f (k + 1) = if L = 0 ∨ cold x < L then cold x else L) := hid (by rw [HS.out]; unfold stepF; rw [if_neg h0])
        obtain ⟨q, hq⟩ : ∃ q, x / 3 = q := ⟨_, rfl⟩
        obtain ⟨c, hc⟩ : ∃ c, cold x = c := ⟨_, rfl⟩
        have hm : max q 1 = c := by rw [← hc, ← hq]; rfl
        rw [hc] at HS2
        rw [hq] at HT
        clear p1 p2 p3 hq hc HS hb h0
        go_wp2_with fail
        refine (HT.out _).mono ?_
        rintro e w1 ⟨rfl, rfl⟩
        clear HT
        by_cases hL : L = 0
        · have h2 : (L == 0) = true := by simpa using hL
          have HH := hid hL
          clear hL
          go_wp2_with fail
          go_roundw
          case rel => exact ⟨k + 1, hlt, by go_num, by rw [HS2.out, if_pos (.inl HH.out)], rfl⟩
          case measure => simp [intOf]; omega
        · have h2 : (L == 0) = false := by simpa using hL
          by_cases hcl : c < L
          · have h3 : decide (c < L) = true := by simpa using hcl
            go_wp2_with fail
            go_roundw
            case rel => exact ⟨k + 1, hlt, by go_num, by rw [HS2.out, if_pos (.inr hcl)], rfl⟩
            case measure => simp [intOf]; omega
          · have h3 : decide (c < L) = false := by simpa using hcl
            go_wp2_with fail
            go_roundw
            case rel => exact ⟨k + 1, hlt, by go_num, by rw [HS2.out, if_neg (by omega)], rfl⟩
            case measure => simp [intOf]; omega
    · obtain rfl : k = n := by omega
      go_wp2_with fail
      go_ret
      exact ⟨rfl, rfl⟩

set_option maxRecDepth 20000 in
set_option maxHeartbeats 1000000 in
theorem RSlowest_at (g o n cap : Nat) (f : Nat → Int) (w : World) (hn : n ≤ 9223372036854775807) (HC : Hid (∀ i, i < n → w.cell? ⟨g, o + i, none⟩ = some (.int .i64 (f i)))) (HX : Hid (∀ i, i < n → f i ≤ 9223372036854775807)) :
    Calls Try.prog 19 #[.slice (some ⟨g, o, none⟩) n cap] w fun e w' => e = .returned (.int .i64 (slowF f n)) ∧ w = w' := by
  go_enter Try.func19, Try.ntmps19
  go_wp2
  go_loopw [3, 4] (SRel n f w) (fun _ i _ => n - (intOf i).toNat)
  case atStart => exact ⟨0, Nat.zero_le _, rfl, rfl, rfl⟩
  case round =>
    obtain ⟨k, hk, rfl, rfl, rfl⟩ := hrel
    by_cases hlt : k < n
    · have hx := HC.out k hlt
      have hb := HX.out k hlt
      have HS := hid (show slowF f (k + 1) = stepF (slowF f k) (f k) from rfl)
      generalize f k = x at *
      generalize slowF f k = L at *
      by_cases h0 : x ≤ 0
      · have h1 : decide (x ≤ 0) = true := by simpa using h0
        go_wp2_with fail
        go_roundw
        case rel => exact ⟨k + 1, hlt, by go_num, by rw [HS.out]; unfold stepF; rw [if_pos h0], rfl⟩
        case measure => simp [intOf]; omega
      · have h1 : decide (x ≤ 0) = false := by simpa using h0
        obtain ⟨p1, p2, p3⟩ := parts x (by omega) hb
        have HS2 : Hid (slowF f (k + 1) = if L = 0 ∨ cold x < L then cold x else L) := hid (by rw [HS.out]; unfold stepF; rw [if_neg h0])
        obtain ⟨q, hq⟩ : ∃ q, x / 3 = q := ⟨_, rfl⟩
        obtain ⟨c, hc⟩ : ∃ c, cold x = c := ⟨_, rfl⟩
        have hm : max q 1 = c := by rw [← hc, ← hq]; rfl
        rw [hc] at HS2
        rw [hq] at p2 p3
        have HP := hid hm
        clear HS hb h0 hc hm
        by_cases hq1 : q < 1
        · obtain rfl : c = 1 := by have := HP.out; omega
          have h5 : decide (q < 1) = true := by simpa using hq1
          by_cases hL : L = 0
          · have h2 : (L == 0) = true := by simpa using hL
            have HH := hid hL
            clear hL
            go_wp2_with fail
            go_roundw
            case rel => exact ⟨k + 1, hlt, by go_num, by rw [HS2.out, if_pos (.inl HH.out)], rfl⟩
            case measure => simp [intOf]; omega
          · have h2 : (L == 0) = false := by simpa using hL
            by_cases hcl : 1 < L
            · have h3 : decide (1 < L) = true := by simpa using hcl
              go_wp2_with fail
              go_roundw
              case rel => exact ⟨k + 1, hlt, by go_num, by rw [HS2.out, if_pos (.inr hcl)], rfl⟩
              case measure => simp [intOf]; omega
            · have h3 : decide (1 < L) = false := by simpa using hcl
              go_wp2_with fail
              go_roundw
              case rel => exact ⟨k + 1, hlt, by go_num, by rw [HS2.out, if_neg (by omega)], rfl⟩
              case measure => simp [intOf]; omega
        · obtain rfl : c = q := by have := HP.out; omega
          have h5 : decide (c < 1) = false := by simpa using hq1
          by_cases hL : L = 0
          · have h2 : (L == 0) = true := by simpa using hL
            have HH := hid hL
            clear hL
            go_wp2_with fail
            go_roundw
            case rel => exact ⟨k + 1, hlt, by go_num, by rw [HS2.out, if_pos (.inl HH.out), p3], rfl⟩
            case measure => simp [intOf]; omega
          · have h2 : (L == 0) = false := by simpa using hL
            by_cases hcl : c < L
            · have h3 : decide (c < L) = true := by simpa using hcl
              go_wp2_with fail
              go_roundw
              case rel => exact ⟨k + 1, hlt, by go_num, by rw [HS2.out, if_pos (.inr hcl), p3], rfl⟩
              case measure => simp [intOf]; omega
            · have h3 : decide (c < L) = false := by simpa using hcl
              go_wp2_with fail
              go_roundw
              case rel => exact ⟨k + 1, hlt, by go_num, by rw [HS2.out, if_neg (by omega)], rfl⟩
              case measure => simp [intOf]; omega
    · obtain rfl : k = n := by omega
      go_wp2_with fail
      go_ret
      exact ⟨rfl, rfl⟩

set_option maxHeartbeats 400000 in
theorem Slowest_zero (a : Option Addr) (cap : Nat) (w : World) :
    Calls Try.prog 18 #[.slice a 0 cap] w fun e w' => e = .returned (.int .i64 0) ∧ w = w' := by
  go_enter Try.func18, Try.ntmps18
  go_wp2
  go_loopw [3, 9] (fun l i wr => i = .int .i64 0 ∧ l = .int .i64 0 ∧ w = wr) (fun _ _ _ => 0)
  case atStart => exact ⟨rfl, rfl, rfl⟩
  case round =>
    obtain ⟨rfl, rfl, rfl⟩ := hrel
    go_wp2
    go_ret
    exact ⟨rfl, rfl⟩

set_option maxHeartbeats 400000 in
theorem RSlowest_zero (a : Option Addr) (cap : Nat) (w : World) :
    Calls Try.prog 19 #[.slice a 0 cap] w fun e w' => e = .returned (.int .i64 0) ∧ w = w' := by
  go_enter Try.func19, Try.ntmps19
  go_wp2
  go_loopw [3, 4] (fun l i wr => i = .int .i64 0 ∧ l = .int .i64 0 ∧ w = wr) (fun _ _ _ => 0)
  case atStart => exact ⟨rfl, rfl, rfl⟩
  case round =>
    obtain ⟨rfl, rfl, rfl⟩ := hrel
    go_wp2
    go_ret
    exact ⟨rfl, rfl⟩

theorem Slowest_any (a : Option Addr) (n cap : Nat) (f : Nat → Int) (w : World) (hn : n ≤ 9223372036854775807) (h : IntsAt w a n f) (hx : ∀ i, i < n → f i ≤ 9223372036854775807) :
    Calls Try.prog 18 #[.slice a n cap] w fun e w' => e = .returned (.int .i64 (slowF f n)) ∧ w = w' := by
  by_cases h0 : n = 0
  · subst h0; exact Slowest_zero a cap w
  · obtain ⟨g, o, rfl, _, hc⟩ := h (by omega)
    exact Slowest_at g o n cap f w hn (hid hc) (hid hx)
theorem RSlowest_any (a : Option Addr) (n cap : Nat) (f : Nat → Int) (w : World) (hn : n ≤ 9223372036854775807) (h : IntsAt w a n f) (hx : ∀ i, i < n → f i ≤ 9223372036854775807) :
    Calls Try.prog 19 #[.slice a n cap] w fun e w' => e = .returned (.int .i64 (slowF f n)) ∧ w = w' := by
  by_cases h0 : n = 0
  · subst h0; exact RSlowest_zero a cap w
  · obtain ⟨g, o, rfl, _, hc⟩ := h (by omega)
    exact RSlowest_at g o n cap f w hn (hid hc) (hid hx)

set_option maxRecDepth 20000 in
set_option maxHeartbeats 1000000 in
theorem slowest_core (a : Option Addr) (n cap : Nat) (f : Nat → Int) (w : World) (hn : n ≤ 17592186044416) (h : IntsAt w a n f) (hx : ∀ i, i < n → f i ≤ 9223372036854775807) :
    Calls Try.prog 4 #[.slice a n cap] w fun e w' => e = .returned (.bool true) ∧ Below w.heap.size w w' := by
  have HH := hid (hand_any a n cap f w hn h)
  have HI := hid h
  have HX := hid hx
  clear h hx
  go_enter Try.func4, Try.ntmps4
  go_wp2_with fail
  refine HH.out.mono ?_
  rintro e w1 ⟨rfl, hr, hb, hl⟩
  have HR := hid hr
  have HB := hid hb
  have HL := hid hl
  clear hr hb hl HH
  generalize hp : w.heap.size = p at *
  go_wp2_with fail
  refine (live_any w1).mono ?_
  rintro e w2 ⟨rfl, hb⟩
  have HI2 := hid (HI.out.below (hp ▸ HB.out) |>.below hb)
  have hin : IntsAt w2 (some ⟨p, 0, none⟩) n f := (IntsAt.below (IntsAt.congr (Row.intsAt HR.out HL.out n (by omega)) (fun i hi => by simp [markF, hi])) hb)
  have HR2 : Hid (WldG.Row w2 p (n + 9) (markF n f)) := hid (fun j hj => ⟨(hb.cell (p := ⟨p, j, none⟩) HL.out).trans (HR.out j hj).1, (hb.frozen (p := ⟨p, j, none⟩) HL.out).trans (HR.out j hj).2⟩)
  have HB2 : Hid (Below p w w2) := hid (HB.out.trans (hb.mono (Nat.le_of_lt HL.out)))
  have HP2 : Hid (p < w2.heap.size) := hid (Nat.lt_of_lt_of_le HL.out hb.size)
  have HS := hid (Slowest_any (some ⟨p, 0, none⟩) n (n + 9) f w2 (by omega) hin HX.out)
  have HT := hid (RSlowest_any a n cap f w2 (by omega) HI2.out HX.out)
  clear hin hb HB HR HL
  go_wp2_with fail
  refine HS.out.mono ?_
  rintro e w3 ⟨rfl, rfl⟩
  go_wp2_with fail
  refine HT.out.mono ?_
  rintro e w3 ⟨rfl, rfl⟩
  clear HS HT
  generalize slowF f n = x at *
  go_wp2_with fail
  refine (kept_any a p n cap f w2 hn HP2.out HI2.out HR2.out).mono ?_
  rintro e w3 ⟨rfl, m, rfl⟩
  go_wp2_with fail
  refine (Slowest_zero none 0 _).mono ?_
  rintro e w3 ⟨rfl, rfl⟩
  go_wp2_with fail
  go_ret
  exact ⟨rfl, by rw [hp]; exact below_drewN HB2.out m⟩

theorem main {H : Type} {enc : TypeId × Value → H} {W : World} {base : Nat} {spare : Nat → Bool} {held : Bool} {d0 : DataW H} {p0 : List MemPlace} (a0 : Option Addr) (len0 cap0 : Nat)
    (h0 : ∃ fuel, DataW.trod enc Try.prog W base spare held fuel 40 [.slice a0 len0 cap0] = some (d0, p0)) (z0 : ∀ m ∈ d0.weights Try.prog 40, m ≤ reachBytes) :
    Calls Try.prog 4 #[.slice a0 len0 cap0] W fun e w' => e = .returned (.bool true) ∧ Below W.heap.size W w' := by
  obtain ⟨k0, h0⟩ := h0
  rcases open_ints Try.underlying40 Try.underlying3 (by kernel_rfl) h0 with ⟨hv, _⟩ | ⟨a, l, c, zs, hcs, _, hl, hm, hz, hx, hcc, hw⟩
  · simp only [List.cons.injEq, Value.slice.injEq, and_true] at hv
    obtain ⟨rfl, rfl, rfl⟩ := hv
    exact slowest_core none 0 0 (fun _ => 0) W (by omega) (fun h => by omega) (fun i h => by omega)
  · simp only [List.cons.injEq, Value.slice.injEq, and_true] at hcs
    obtain ⟨rfl, rfl, rfl⟩ := hcs
    obtain ⟨a', n', c', f', e, hn, hf, hz2⟩ := Opn.ints_sized Try.underlying40 Try.underlying3 (by kernel_rfl) (by kernel_rfl) h0
    cases e
    have hzl : len0 ≤ zs.length := by rw [hz]; split <;> omega
    refine slowest_core (some a) len0 cap0 (fun i => zs.getD i 0) W (hz2 z0) (fun h => ?_) (fun i hi => ?_)
    · obtain ⟨b, off, rfl, hcd⟩ := ints_at hcc (by omega)
      exact ⟨b, off, rfl, World.block_lt_of_cell? _ _ (hcc 0 (by omega)), fun i hi => hcd i (by omega)⟩
    · have := (range_i64 (zs := zs) (fun n hn => hw n hn) i).2
      simpa [List.getD] using this

end Go.Proofs.Ytamofanfgdjmnaa.WrmO
