/- Pacing: what must be whatever is asked; PacingNone. -/
import Derived.Test.YtcnfgngkejjecaaPacM
import Derived.Deep.RegionHeld3
namespace Go.Proofs.Ytcnfgngkejjecaa.PacB
set_option linter.unusedVariables false
open Go.ChangeShapes Go.WideShapes Go.ChangeAt Go.RowKit Base NumM NumA NumE WrmA Wri PacP PacM

theorem go_is (p : Nat) (m m' : Pc) (ho : m.Ok) (t n z er : Int) (g : Bool) (w : World) (h : At w p m) (e : wA m t n m.count = z ∧ gA m t n m.count = g ∧ refW m t n m.count = er ∧ stepA m t n m.count = m') :
    Calls Try.prog 15 #[ptr p, .int .i64 t, .int .i64 n] w fun e w' => e = .returned (.tuple #[.int .i64 z, .bool g, .int .i64 er]) ∧ At w' p m' ∧ m'.Ok ∧ Wr (fun k => k = p) w w' := by
  obtain ⟨rfl, rfl, rfl, rfl⟩ := e
  exact (Go_any p m ho t n w h).mono fun e w' h => ⟨h.1, h.2.1, stepA_ok ho _ _ _, h.2.2⟩

def m0 : Pc := fresh 10 200000
def m1 : Pc := ⟨10, 200000, 0, 0, true⟩
def m2 : Pc := ⟨10, 200000, 0, 100000, true⟩
def m3 : Pc := ⟨10, 200000, 0, 200000, true⟩
theorem s0 : wA m0 0 1 m0.count = 0 ∧ gA m0 0 1 m0.count = true ∧ refW m0 0 1 m0.count = 0 ∧ stepA m0 0 1 m0.count = m1 := ⟨by decide, by decide, by decide, by rfl⟩
theorem s1 : wA m1 0 1 m1.count = 100000 ∧ gA m1 0 1 m1.count = true ∧ refW m1 0 1 m1.count = 0 ∧ stepA m1 0 1 m1.count = m2 := ⟨by decide, by decide, by decide, by rfl⟩
theorem s2 : wA m2 0 1 m2.count = 200000 ∧ gA m2 0 1 m2.count = true ∧ refW m2 0 1 m2.count = 0 ∧ stepA m2 0 1 m2.count = m3 := ⟨by decide, by decide, by decide, by rfl⟩
theorem s3 : wA m3 0 1 m3.count = 0 ∧ gA m3 0 1 m3.count = false ∧ refW m3 0 1 m3.count = 0 ∧ stepA m3 0 1 m3.count = m3 := ⟨by decide, by decide, by decide, by rfl⟩

theorem wbel {w w1 w2 : World} {p : Nat} (h : Below w.heap.size w w1) (hw : Wr (fun k => k = p) w1 w2) (hp : w.heap.size ≤ p) : Below w.heap.size w w2 :=
  h.trans (hw.below w.heap.size h.size (fun k e => by omega))

set_option maxRecDepth 20000 in
set_option maxHeartbeats 2000000 in
theorem live_any (w : World) :
    Calls Try.prog 9 #[] w fun e w' => e = .returned (.bool true) ∧ Below w.heap.size w w' := by
  go_enter Try.func9, Try.ntmps9
  go_wp2_with fail
  refine (New_any 10 200000 w).mono ?_
  rintro e w1 (⟨cn, qn, hc, hs, ho, rfl, ha, hb⟩ | ⟨h, -⟩)
  rotate_left
  · exact absurd h (by decide)
  obtain rfl : cn = 10 := by omega
  obtain rfl : qn = 200000 := by omega
  have HO : Hid m0.Ok := hid ho
  have HA : Hid (At w1 w.heap.size m0) := hid ha
  have HB := hid hb
  clear ho ha hb hc hs
  go_wp2_with fail
  refine (go_is w.heap.size m0 m1 HO.out 0 1 _ _ _ w1 HA.out s0).mono ?_
  rintro e w2 ⟨rfl, ha, ho, hw⟩
  have HO1 := hid ho
  have HA1 := hid ha
  have HB1 := hid (wbel HB.out hw (Nat.le_refl _))
  clear ha hw ho HA HO HB
  go_wp2_with fail
  refine (go_is w.heap.size m1 m2 HO1.out 0 1 _ _ _ w2 HA1.out s1).mono ?_
  rintro e w3 ⟨rfl, ha, ho, hw⟩
  have HO2 := hid ho
  have HA2 := hid ha
  have HB2 := hid (wbel HB1.out hw (Nat.le_refl _))
  clear ha hw ho HA1 HO1 HB1
  go_wp2_with fail
  refine (go_is w.heap.size m2 m3 HO2.out 0 1 _ _ _ w3 HA2.out s2).mono ?_
  rintro e w4 ⟨rfl, ha, ho, hw⟩
  have HO3 := hid ho
  have HA3 := hid ha
  have HB3 := hid (wbel HB2.out hw (Nat.le_refl _))
  clear ha hw ho HA2 HO2 HB2
  go_wp2_with fail
  refine (go_is w.heap.size m3 m3 HO3.out 0 1 _ _ _ w4 HA3.out s3).mono ?_
  rintro e w5 ⟨rfl, ha, ho, hw⟩
  have HB4 := hid (wbel HB3.out hw (Nat.le_refl _))
  clear ha hw ho HA3 HO3 HB3
  go_wp2_with fail
  go_ret
  exact ⟨rfl, HB4.out⟩

set_option maxRecDepth 20000 in
set_option maxHeartbeats 2000000 in
theorem main {W : World} (a0 : Int) (w0 : (Lit.int .i64 a0).wf = true) (a1 : Int) (w1 : (Lit.int .i64 a1).wf = true) (a2 : Int) (w2 : (Lit.int .i64 a2).wf = true) :
    Calls Try.prog 6 #[.int .i64 a0, .int .i64 a1, .int .i64 a2] W fun e w' => e = .returned (.bool true) ∧ Below W.heap.size W w' := by
  clear w0 w1 w2
  go_enter Try.func6, Try.ntmps6
  go_wp2_with fail
  refine (look_nil a0 a1 W).mono ?_
  rintro e w1 ⟨rfl, hb⟩
  have HB1 := hid hb
  clear hb
  go_wp2_with fail
  refine (go_nil a0 a1 w1).mono ?_
  rintro e w2 ⟨rfl, hb⟩
  have HB2 := hid (bl HB1.out hb)
  clear hb HB1
  go_wp2_with fail
  refine (at_nil a0 a1 a2 w2).mono ?_
  rintro e w3 ⟨rfl, hb⟩
  have HB3 := hid (bl HB2.out hb)
  clear hb HB2
  go_wp2_with fail
  refine (next_nil w3).mono ?_
  rintro e w4 ⟨rfl, hb⟩
  have HB4 := hid (bl HB3.out hb)
  clear hb HB3
  go_wp2_with fail
  refine (live_any w4).mono ?_
  rintro e w5 ⟨rfl, hb⟩
  have HB5 := hid (bl HB4.out hb)
  clear hb HB4
  go_wp2_with fail
  refine (fork_nil w5).mono ?_
  rintro e w6 ⟨rfl, hb⟩
  have HB6 := hid (bl HB5.out hb)
  clear hb HB5
  go_wp2_with fail
  go_ret
  exact ⟨rfl, HB6.out⟩

end Go.Proofs.Ytcnfgngkejjecaa.PacB
