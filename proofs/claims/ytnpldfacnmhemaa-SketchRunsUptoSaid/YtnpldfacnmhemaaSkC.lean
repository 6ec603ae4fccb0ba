/- Contracts of a sketch's small calls: buckets' beginnings, sums, hashes. -/
import Derived.Test.YtnpldfacnmhemaaSkB
import Derived.Deep.RegionHeld3
import Derived.BigQuiet
import Derived.Laws.BitsLemmas
namespace Go.Proofs.Ytnpldfacnmhemaa.SkC
open Go.ChangeShapes Go.WideShapes Go.ChangeAt Go.RowKit Base Wri SkA SkB

theorem beg_eq (q a : Nat) : (a : Int) - (a : Int) % (q : Int) = ((a - a % q : Nat) : Int) := by
  have h : a % q ≤ a := Nat.mod_le _ _
  have e : ((a % q : Nat) : Int) = (a : Int) % (q : Int) := rfl
  rw [← e]
  omega

set_option maxHeartbeats 400000 in
theorem begin_any (wd bk ro co q t : Nat) (w : World) (hz : 0 < bk) (hq : wd / bk = q) (hq0 : 0 < q) (hz2 : wd ≤ 1099511627776) (ha : t ≤ 1152921504606846976) :
    Calls Try.prog 38 #[szv wd bk ro co, .int .i64 t] w fun e w' => e = .returned (.int .i64 ((t - t % q : Nat) : Int)) ∧ Below w.heap.size w w' := by
  have e1 : (wd : Int) / (bk : Int) = (q : Int) := by rw [← hq]; rfl
  have n1 : ((bk : Int) == 0) = false := by simp; omega
  have n2 : ((q : Int) == 0) = false := by simp; omega
  have q1 : q ≤ 1099511627776 := by rw [← hq]; exact Nat.le_trans (Nat.div_le_self _ _) hz2
  have m1 : (0 : Int) ≤ (t : Int) % (q : Int) := Int.emod_nonneg _ (by omega)
  have m2 : (t : Int) % (q : Int) ≤ t := Int.ofNat_le.2 (Nat.mod_le t q)
  have hB := hid (beg_eq q t)
  clear hq hz2
  unfold szv
  go_enter Try.func38, Try.ntmps38
  go_wp2_with fail
  go_ret
  exact ⟨by rw [← hB.out]; rfl, (by repeat (first | (with_reducible exact Below.refl _ _) | (with_reducible refine Below.setCell ?_ (by first | (simp; done) | (simp; omega) | omega) _) | (with_reducible refine Below.alloc ?_ (by first | (simp; done) | (simp; omega) | omega) _) | (with_reducible refine Below.drew ?_) | (with_reducible refine below_drewN ?_ _)))⟩

set_option maxRecDepth 20000 in
set_option maxHeartbeats 400000 in
theorem first_any (wd bk ro co q t : Nat) (w : World) (hz : 0 < bk) (hq : wd / bk = q) (hq0 : 0 < q) (hz2 : wd ≤ 1099511627776) (ha : t ≤ 1152921504606846976) :
    Calls Try.prog 35 #[szv wd bk ro co, .int .i64 t] w fun e w' => e = .returned (.int .i64 (((t - t % q : Nat) : Int) - wd + q)) ∧ Below w.heap.size w w' := by
  have e1 : (wd : Int) / (bk : Int) = (q : Int) := by rw [← hq]; rfl
  have n1 : ((bk : Int) == 0) = false := by simp; omega
  have q1 : q ≤ 1099511627776 := by rw [← hq]; exact Nat.le_trans (Nat.div_le_self _ _) hz2
  have b1 : t - t % q ≤ 1152921504606846976 := Nat.le_trans (Nat.sub_le _ _) ha
  have HQ := hid (fun w => begin_any wd bk ro co q t w hz hq hq0 hz2 ha)
  generalize t - t % q = b at *
  have x1 : IntKind.i64.wrap ((b : Int) - (wd : Int)) = (b : Int) - (wd : Int) := by rw [IntKind.wrap_i64]; omega
  have x3 : IntKind.i64.wrap (q : Int) = (q : Int) := by rw [IntKind.wrap_i64]; omega
  have x4 : IntKind.i64.wrap ((wd : Int) / (bk : Int)) = (q : Int) := by rw [e1]; exact x3
  have x5 : Int.tdiv (wd : Int) (bk : Int) = (q : Int) := by rw [← e1]; exact Int.ofNat_tdiv wd bk
  have x6 : IntKind.i64.wrap (Int.tdiv (wd : Int) (bk : Int)) = (q : Int) := by rw [x5]; exact x3
  have n3 : ¬ ((bk : Int) = 0) := by omega
  have n4 : ¬ (bk = 0) := by omega
  have x2 : IntKind.i64.wrap ((b : Int) - (wd : Int) + (q : Int)) = (b : Int) - (wd : Int) + (q : Int) := by rw [IntKind.wrap_i64]; omega
  clear hq
  unfold szv at *
  go_enter Try.func35, Try.ntmps35
  go_wp2_with fail
  go_region_held3 (fun w' => w'.cell? ⟨w.heap.size, 0, none⟩ = some (.int .i64 wd) ∧ w'.cell? ⟨w.heap.size, 1, none⟩ = some (.int .i64 bk) ∧ w'.cell? ⟨w.heap.size, 2, none⟩ = some (.int .i64 ro) ∧ w'.cell? ⟨w.heap.size, 3, none⟩ = some (.int .i64 co)) (first | assumption | go_keep)
    (first | (go_at_call 38; refine (HQ.out _).mono ?_; rintro e w3 ⟨rfl, hb3⟩
              have k0 : w3.cell? ⟨w.heap.size, 0, none⟩ = some (.int .i64 wd) := (hb3.cell (p := ⟨w.heap.size, 0, none⟩) (by simp)).trans (by go_cell)
              have k1 : w3.cell? ⟨w.heap.size, 1, none⟩ = some (.int .i64 bk) := (hb3.cell (p := ⟨w.heap.size, 1, none⟩) (by simp)).trans (by go_cell)
              have k2 : w3.cell? ⟨w.heap.size, 2, none⟩ = some (.int .i64 ro) := (hb3.cell (p := ⟨w.heap.size, 2, none⟩) (by simp)).trans (by go_cell)
              have k3 : w3.cell? ⟨w.heap.size, 3, none⟩ = some (.int .i64 co) := (hb3.cell (p := ⟨w.heap.size, 3, none⟩) (by simp)).trans (by go_cell)))
  all_goals
    go_wp2_with fail
    go_ret
    exact ⟨rfl, (((Below.refl w.heap.size w).alloc (Nat.le_refl _) _).drew).trans (hb3.mono (by show w.heap.size ≤ (w.alloc _).heap.size; simp))⟩

end Go.Proofs.Ytnpldfacnmhemaa.SkC
