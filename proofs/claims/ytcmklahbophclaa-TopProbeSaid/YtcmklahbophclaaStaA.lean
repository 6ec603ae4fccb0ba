/- Contracts of a node's small parts: isTime, areCounts, flight, Last, the windows. -/
import Derived.Test.YtcmklahbophclaaWinL
namespace Go.Proofs.Ytcmklahbophclaa.StaA
open Go.ChangeShapes Go.WideShapes Go.ChangeAt Go.RowKit Base WinM WinA WinB WinC WinD WinE WinF WinG WinH WinI WinJ WinK WinL WldF WldG

def isT (n : Int) : Bool := decide (0 ≤ n ∧ n ≤ 1152921504606846976)

/-- wrong for a count of tokens -/
def badC (n : Int) : Bool := decide (n < 1 ∨ 1099511627776 < n)

/-- a slice of ints, as a call's argument -/
def Ints (w : World) (a : Option Addr) (n : Nat) (f : Nat → Int) : Prop := 0 < n → ∃ g o, a = some ⟨g, o, none⟩ ∧ g < w.heap.size ∧ ∀ i, i < n → w.cell? ⟨g, o + i, none⟩ = some (.int .i64 (f i))

open Classical in
/-- all right for counts of tokens -/
noncomputable def goodC (f : Nat → Int) (n : Nat) : Bool := decide (∀ i, i < n → badC (f i) = false)

/-- a node's error -/
def nrefM (last at_ : Int) (ok : Bool) : Int := if ok = true ∧ isT at_ = true then (if at_ < last then 7 else 0) else 2

set_option maxHeartbeats 400000 in
theorem winNew_any (wd sz q : Nat) (w : World) (hz : 0 < sz) (hs : sz ≤ 60) (hq : 0 < q) (hw : wd ≤ 1099511627776) (hd : wd = sz * q) :
    Calls Try.prog 78 #[.int .i64 wd, .int .i64 sz] w fun e w' => e = .returned (.tuple #[.pointer (some ⟨w.heap.size, 0, none⟩), .int .i64 0]) ∧ w.alloc (.cells #[.int .i64 wd, .int .i64 sz, .int .i64 0, .slice none 0 0] 124) = w' := by
  have h1 : 1 ≤ wd := by rw [hd]; exact Nat.mul_pos hz hq
  have h2 : (wd : Int) % (sz : Int) = 0 := by rw [hd]; simp
  have n1 : ((sz : Int) == 0) = false := by simp; omega
  clear hd
  go_enter Try.func78, Try.ntmps78
  go_wp2
  go_ret2
  exact ⟨rfl, rfl⟩

end Go.Proofs.Ytcmklahbophclaa.StaA
