/- A deed on both maps. -/
import Derived.Test.YtkdldcigooiljaaLruU
import Derived.Deep.RegionHeld3
namespace Go.Proofs.Ytkdldcigooiljaa.LruV
open Go.ChangeShapes Go.WideShapes Go.ChangeAt Go.RowKit Base Wri LruA LruB LruC LruD LruE LruF

/-- a deed in memory -/
def dv (k : Int) (s : ByteArray) (x : Int) (m : Value) : Array Value := #[.int .i64 k, .string s, .int .i64 x, m]
def wb (w : World) (k : Int) (s : ByteArray) (x : Int) (m : Value) : World := w.alloc (.cells (dv k s x m) 37)
theorem wb_new (w : World) (k : Int) (s : ByteArray) (x : Int) (m : Value) : (wb w k s x m).heap[w.heap.size]? = some (.cells (dv k s x m) 37) := heap_alloc_new w _
theorem wb_below (w : World) (k : Int) (s : ByteArray) (x : Int) (m : Value) : Below w.heap.size w (wb w k s x m) := (Below.refl _ w).alloc (Nat.le_refl _) _

theorem dv_cells {w : World} {b : Nat} {k x : Int} {s : ByteArray} {m : Value} (h : w.heap[b]? = some (.cells (dv k s x m) 37)) :
    w.cell? ⟨b, 0, none⟩ = some (.int .i64 k) ∧ w.cell? ⟨b, 1, none⟩ = some (.string s) ∧ w.cell? ⟨b, 2, none⟩ = some (.int .i64 x) ∧ w.cell? ⟨b, 3, none⟩ = some m := by
  unfold dv at h
  exact ⟨by simp [World.cell?, h], by simp [World.cell?, h], by simp [World.cell?, h], by simp [World.cell?, h]⟩

set_option maxRecDepth 20000 in
set_option maxHeartbeats 1000000 in
theorem do_put (mv rv : Value) (s : ByteArray) (x : Int) (a : Option Addr) (n cap : Nat) (w : World) (g : ByteArray) (b : Bool) (c : Int) (Q1 Q2 : World → Prop)
    (HP : Hid (Calls Try.prog 12 #[mv, .string s, .int .i64 x] (wb w 0 s x (.slice a n cap)) fun e w' => e = .returned (.tuple #[.string g, .bool b, .int .i64 c]) ∧ Q1 w'))
    (HR : Hid (∀ w1, Q1 w1 → w1.heap[w.heap.size]? = some (.cells (dv 0 s x (.slice a n cap)) 37) ∧ Calls Try.prog 61 #[rv, .string s, .int .i64 x] w1 fun e w' => e = .returned (.tuple #[.string g, .bool b, .int .i64 c]) ∧ Q2 w')) :
    Calls Try.prog 17 #[mv, rv, .agg (dv 0 s x (.slice a n cap))] w fun e w' => e = .returned (.bool true) ∧ Q2 w' := by
  have hs : (g.toList == g.toList) = true := by simp
  unfold wb dv at *
  go_enter Try.func17, Try.ntmps17
  go_wp2_with fail
  refine HP.out.mono ?_
  rintro e w1 ⟨rfl, h1⟩
  obtain ⟨hb, hr⟩ := HR.out w1 h1
  obtain ⟨-, c1, c2, -⟩ := dv_cells hb
  have HR1 := hid hr
  clear HP HR h1 hb hr
  go_wp2_with fail
  refine HR1.out.mono ?_
  rintro e w2 ⟨rfl, h2⟩
  have H2 := hid h2
  clear HR1 h2
  go_wp2_with fail
  go_ret
  exact ⟨by cases b <;> simp, H2.out⟩

set_option maxRecDepth 20000 in
set_option maxHeartbeats 1000000 in
theorem do_get (mv rv : Value) (s : ByteArray) (x : Int) (a : Option Addr) (n cap : Nat) (w : World) (b : Bool) (c : Int) (Q1 Q2 : World → Prop)
    (HP : Hid (Calls Try.prog 13 #[mv, .string s] (wb w 1 s x (.slice a n cap)) fun e w' => e = .returned (.tuple #[.int .i64 c, .bool b]) ∧ Q1 w'))
    (HR : Hid (∀ w1, Q1 w1 → w1.heap[w.heap.size]? = some (.cells (dv 1 s x (.slice a n cap)) 37) ∧ Calls Try.prog 62 #[rv, .string s] w1 fun e w' => e = .returned (.tuple #[.int .i64 c, .bool b]) ∧ Q2 w')) :
    Calls Try.prog 17 #[mv, rv, .agg (dv 1 s x (.slice a n cap))] w fun e w' => e = .returned (.bool true) ∧ Q2 w' := by
  unfold wb dv at *
  go_enter Try.func17, Try.ntmps17
  go_wp2_with fail
  refine HP.out.mono ?_
  rintro e w1 ⟨rfl, h1⟩
  obtain ⟨hb, hr⟩ := HR.out w1 h1
  obtain ⟨-, c1, c2, -⟩ := dv_cells hb
  have HR1 := hid hr
  clear HP HR h1 hb hr
  go_wp2_with fail
  refine HR1.out.mono ?_
  rintro e w2 ⟨rfl, h2⟩
  have H2 := hid h2
  clear HR1 h2
  go_wp2_with fail
  go_ret
  exact ⟨by cases b <;> simp, H2.out⟩

set_option maxRecDepth 20000 in
set_option maxHeartbeats 1000000 in
theorem do_peek (mv rv : Value) (s : ByteArray) (x : Int) (a : Option Addr) (n cap : Nat) (w : World) (b : Bool) (c : Int) (Q1 Q2 : World → Prop)
    (HP : Hid (Calls Try.prog 14 #[mv, .string s] (wb w 2 s x (.slice a n cap)) fun e w' => e = .returned (.tuple #[.int .i64 c, .bool b]) ∧ Q1 w'))
    (HR : Hid (∀ w1, Q1 w1 → w1.heap[w.heap.size]? = some (.cells (dv 2 s x (.slice a n cap)) 37) ∧ Calls Try.prog 63 #[rv, .string s] w1 fun e w' => e = .returned (.tuple #[.int .i64 c, .bool b]) ∧ Q2 w')) :
    Calls Try.prog 17 #[mv, rv, .agg (dv 2 s x (.slice a n cap))] w fun e w' => e = .returned (.bool true) ∧ Q2 w' := by
  unfold wb dv at *
  go_enter Try.func17, Try.ntmps17
  go_wp2_with fail
  refine HP.out.mono ?_
  rintro e w1 ⟨rfl, h1⟩
  obtain ⟨hb, hr⟩ := HR.out w1 h1
  obtain ⟨-, c1, c2, -⟩ := dv_cells hb
  have HR1 := hid hr
  clear HP HR h1 hb hr
  go_wp2_with fail
  refine HR1.out.mono ?_
  rintro e w2 ⟨rfl, h2⟩
  have H2 := hid h2
  clear HR1 h2
  go_wp2_with fail
  go_ret
  exact ⟨by cases b <;> simp, H2.out⟩

set_option maxRecDepth 20000 in
set_option maxHeartbeats 1000000 in
theorem do_drop (mv rv : Value) (k : Int) (s : ByteArray) (x : Int) (a : Option Addr) (n cap : Nat) (w : World) (hk0 : (k == 0) = false) (hk1 : (k == 1) = false) (hk2 : (k == 2) = false) (c : Int) (Q1 Q2 : World → Prop)
    (HP : Hid (Calls Try.prog 20 #[mv, .slice a n cap] (wb w k s x (.slice a n cap)).drew fun e w' => e = .returned (.int .i64 c) ∧ Q1 w'))
    (HR : Hid (∀ w1, Q1 w1 → w1.heap[w.heap.size]? = some (.cells (dv k s x (.slice a n cap)) 37) ∧ Calls Try.prog 64 #[rv, .slice a n cap] w1 fun e w' => e = .returned (.int .i64 c) ∧ Q2 w'))
    (HB : Hid (∀ w2, Q2 w2 → w2.cell? ⟨w.heap.size, 3, none⟩ = some (.slice a n cap))) :
    Calls Try.prog 17 #[mv, rv, .agg (dv k s x (.slice a n cap))] w fun e w' => e = .returned (.bool true) ∧ Q2 w' := by
  unfold wb dv at *
  go_enter Try.func17, Try.ntmps17
  go_wp2_with fail
  go_region_held3 (fun w' => w'.cell? ⟨w.heap.size, 3, none⟩ = some (.slice a n cap)) (first | assumption | go_keep)
    (first
      | (go_at_call 20; refine HP.out.mono ?_; rintro e w1 ⟨rfl, h1⟩; obtain ⟨hb, hr⟩ := HR.out w1 h1; have c3 := (dv_cells hb).2.2.2; have HR1 := hid hr; clear HP HR h1 hb hr)
      | (go_at_call 64; refine HR1.out.mono ?_; rintro e w2 ⟨rfl, h2⟩; have H2 := hid h2; have c4 := HB.out w2 h2; clear HR1 h2))
  all_goals
    go_wp2_with fail
    go_ret
    exact ⟨by simp, H2.out⟩

end Go.Proofs.Ytkdldcigooiljaa.LruV
