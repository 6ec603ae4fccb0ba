/- A sketch of the program behind calls. -/
import Derived.Test.YtnpldfacnmhemaaSkU
namespace Go.Proofs.Ytnpldfacnmhemaa.SkV
open Go.ChangeShapes Go.WideShapes Go.ChangeAt Go.RowKit Go.Deep Base Wri Map WldG SkK SkA SkB SkC SkD SkE SkF SkG SkH SkI SkJ SkL SkM SkN SkP SkQ SkR SkS SkT SkU
set_option linter.unusedVariables false

variable {w w' w0 w1 : World} {p q last t : Nat} {go : Option Nat} {X : Shp} {ns : List Note} {qs : List Nat} {mpf : Nat → Nat}

theorem Own.older (h : Own w1 w' p go X q last ns qs mpf) (hb : Below w0.heap.size w0 w1) : Own w0 w' p go X q last ns qs mpf :=
  ⟨h.full, fun k hk => Nat.le_trans hb.size (h.up k hk), hb.trans (h.bel.mono hb.size)⟩

/-- what the first k deeds leave -/
noncomputable def kept (D : Nat → Deed) : Nat → Nat × List Note
  | 0 => (0, [])
  | k + 1 => if (D k).kind = 0 then (lastA (kept D k).1 (D k).t (D k).f (D k).n, notesA (kept D k).1 (kept D k).2 (D k).t (D k).key (D k).f (D k).n) else kept D k

theorem kept_add {D : Nat → Deed} {k : Nat} (h : (D k).kind = 0) : kept D (k + 1) = (lastA (kept D k).1 (D k).t (D k).f (D k).n, notesA (kept D k).1 (kept D k).2 (D k).t (D k).key (D k).f (D k).n) := by
  rw [kept]; exact if_pos h
theorem kept_not {D : Nat → Deed} {k : Nat} (h : ¬ (D k).kind = 0) : kept D (k + 1) = kept D k := by
  rw [kept]; exact if_neg h

set_option maxRecDepth 100000 in
set_option maxHeartbeats 4000000 in
theorem run_any (wd bk ro co : Int) (sd : Nat) (a : Option Addr) (len cap : Nat) (D : Nat → Deed) (sv : Value) (hsv : sv = .slice a len cap) (w : World) (HC : Hid (Deeds w a len D)) :
    Calls Try.prog 15 #[.agg #[.int .i64 wd, .int .i64 bk, .int .i64 ro, .int .i64 co, .int .u64 sd], sv] w fun e w' =>
      (refZ wd bk ro co = 0 ∧ ∃ (X : Shp) (q p : Nat) (go : Option Nat) (qs : List Nat) (mpf : Nat → Nat), wd = X.wd ∧ bk = X.bk ∧ ro = X.ro ∧ co = X.co ∧ X.seed = sd ∧ e = .returned (.tuple #[.pointer (some ⟨p, 0, none⟩), .int .i64 0]) ∧ Own w w' p go X q (kept D len).1 (kept D len).2 qs mpf) ∨
      (refZ wd bk ro co ≠ 0 ∧ e = .returned (.tuple #[.pointer none, .int .i64 (refZ wd bk ro co)]) ∧ Below w.heap.size w w') := by
  have HSV := hid hsv
  clear hsv
  go_enter Try.func15, Try.ntmps15
  go_wp2_with fail
  have HB1 : Hid (Below w.heap.size w (w.alloc (.cells #[.int .i64 wd, .int .i64 bk, .int .i64 ro, .int .i64 co, .int .u64 sd] 24))) := hid ((Below.refl _ w).alloc (Nat.le_refl _) _)
  generalize w.alloc (.cells #[.int .i64 wd, .int .i64 bk, .int .i64 ro, .int .i64 co, .int .u64 sd] 24) = w1 at *
  refine (New_any wd bk ro co sd w1).mono ?_
  rintro e w2 (⟨hr, X, q, p, rfl, rfl, rfl, rfl, rfl, rfl, hO⟩ | ⟨hr, rfl, hb2⟩)
  · have HO := hid (SkV.Own.older hO HB1.out)
    have HR := hid hr
    have hsv := HSV.out
    subst hsv
    have hlen := HC.out.1
    have hst : ∃ (go : Option Nat) (qs : List Nat) (mpf : Nat → Nat), Own w w2 p go X q (kept D 0).1 (kept D 0).2 qs mpf := ⟨_, _, _, HO.out⟩
    have HST := hid hst
    clear hr hO hst HO
    go_wp2_with fail
    go_loopw [8] (fun i wr => ∃ k : Nat, k ≤ len ∧ i = .int .i64 k ∧ ∃ (go : Option Nat) (qs : List Nat) (mpf : Nat → Nat), Own w wr p go X q (kept D k).1 (kept D k).2 qs mpf) (fun i _ => len - (intOf i).toNat)
    case atStart => exact ⟨0, Nat.zero_le _, rfl, HST.out⟩
    case round =>
      obtain ⟨k, hk, rfl, go, qs, mpf, hO⟩ := hrel
      have HO := hid hO
      have hb := hO.bel
      clear hO HST
      by_cases hlt : k < len
      · obtain ⟨g, o, rfl, hg, hc⟩ := HC.out.2.1 (by omega)
        have hck := hc k hlt
        obtain ⟨hks, hDn, hDf⟩ := HC.out.2.2 k hlt
        have c0 : wr.cell? ⟨g, o + k * 4, none⟩ = some (.int .i64 (D k).kind) := (hb.cell (p := ⟨g, o + k * 4, none⟩) hg).trans (hck 0 _ rfl)
        have c1 : wr.cell? ⟨g, o + k * 4 + 1, none⟩ = some (.int .i64 (D k).t) := (hb.cell (p := ⟨g, o + k * 4 + 1, none⟩) hg).trans (hck 1 _ rfl)
        have c2 : wr.cell? ⟨g, o + k * 4 + 2, none⟩ = some (.string (D k).key) := (hb.cell (p := ⟨g, o + k * 4 + 2, none⟩) hg).trans (hck 2 _ rfl)
        have c3 : wr.cell? ⟨g, o + k * 4 + 3, none⟩ = some (.slice (D k).a (D k).n (D k).cap) := (hb.cell (p := ⟨g, o + k * 4 + 3, none⟩) hg).trans (hck 3 _ rfl)
        have HOd := hid (SkU.Own.drew HO.out)
        have HA := hid (Add_any HOd.out (D k).t (D k).key hks (D k).a (D k).n (D k).cap (D k).f hDn hDf)
        clear hc hck hks hDn hDf hb HOd
        by_cases hkd : (D k).kind = 0
        · have hkp : kept D (k + 1) = _ := kept_add hkd
          have HKP := hid hkp
          rw [hkd] at c0
          clear hkp
          go_wp2_with fail
          go_region_with (go_at_call 11; refine HA.out.mono ?_; rintro e w3 ⟨rfl, go', qs', mpf', hO'⟩; have HO3 := hid hO'; clear HA hO')
          all_goals
            clear c0 c1 c2 c3
            go_wp2_with fail
            go_roundw
            case rel => exact ⟨k + 1, by omega, by go_num, go', qs', mpf', by rw [HKP.out]; exact HO3.out⟩
            case measure => simp [intOf]; omega
        · have hkp : kept D (k + 1) = _ := kept_not hkd
          have HKP := hid hkp
          have hkb : ((D k).kind == 0) = false := by simpa using hkd
          clear hkp c1 c2 c3 HA
          go_wp2_with fail
          go_roundw
          case rel => exact ⟨k + 1, by omega, by go_num, go, qs, mpf, by rw [HKP.out]; exact HO.out⟩
          case measure => simp [intOf]; omega
      · obtain rfl : k = len := by omega
        go_wp2_with fail
        go_ret2
        exact .inl ⟨HR.out, X, q, p, go, qs, mpf, rfl, rfl, rfl, rfl, rfl, rfl, HO.out⟩
  · have hrf : (refZ wd bk ro co == 0) = false := by simpa using hr
    have HR := hid hr
    have HB2 := hid (HB1.out.trans (hb2.mono HB1.out.size))
    have hsv := HSV.out
    subst hsv
    have hlen := HC.out.1
    clear hb2 hr
    generalize hrz : refZ wd bk ro co = r at *
    go_wp2_with fail
    go_loop [8] (fun i => i = .int .i64 0) (fun _ => 0)
    case atStart => rfl
    case round =>
      obtain rfl := hrel
      by_cases hl : 0 < len
      all_goals
        go_wp2_with fail
        go_ret2
        exact .inr ⟨HR.out, rfl, HB2.out⟩

end Go.Proofs.Ytnpldfacnmhemaa.SkV
