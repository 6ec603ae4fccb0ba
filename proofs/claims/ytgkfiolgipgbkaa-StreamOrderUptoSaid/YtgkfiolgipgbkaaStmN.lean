/- What must be, whatever is asked of networks. -/
import Derived.Test.YtgkfiolgipgbkaaStmM
import Derived.Laws.BytesString
import Derived.Laws.Cells
namespace Go.Proofs.Ytgkfiolgipgbkaa.StmN
open Go.ChangeShapes Go.WideShapes Go.ChangeAt Go.RowKit Base Wri Map FrmP FrmA StmA StmB StmC StmD StmE StmF VaiA StmG StmH StmI StmJ StmK StmL StmM
set_option linter.unusedVariables false
set_option linter.unusedSimpArgs false

/-- the tag of what is the law's own -/
abbrev FT : Nat := 10000000000000
theorem isn_alloc {w W : World} {B p nc : Nat} {own : Nat → Nat} {S : Nst} (h : IsNet w B own p S nc) (hb : Below w.heap.size w W) (t : Nat) : IsNet W B (later own w.heap.size t) p S nc ∧ Stp w W own (later own w.heap.size t) NetR := by
  obtain ⟨mo, mc, vd, K, h⟩ := h
  exact ⟨⟨mo, mc, vd, K, h.keep (fun g hg _ _ => ⟨hb.block g hg, later_old hg⟩)⟩, Wr.ofBelow hb, fun g hg => later_old hg⟩
/-- what a read told becomes the law's -/
def mine (own : Nat → Nat) (v : Value) : Nat → Nat := fun g => if v.ownBlock = some g then FT else own g
theorem isn_mine {w : World} {B p nc : Nat} {own : Nat → Nat} {S : Nst} {v : Value} (h : IsNet w B own p S nc) (hv : ∀ g, v.ownBlock = some g → own g = 4) : IsNet w B (mine own v) p S nc := by
  obtain ⟨mo, mc, vd, K, h⟩ := h
  exact ⟨mo, mc, vd, K, h.keep (fun g hg h1 h2 => ⟨rfl, if_neg (fun e => h1 (hv g e))⟩)⟩
theorem stp_mine {w w' : World} {own own' : Nat → Nat} {v : Value} (h : Stp w w' own own' NetR) (hv : ∀ g, v.ownBlock = some g → w.heap.size ≤ g) : Stp w w' own (mine own' v) NetR :=
  ⟨h.wr, fun g hg => by
    unfold mine
    rw [if_neg (fun e => by have := hv g e; omega)]
    exact h.tag g hg⟩
theorem stp_below {w w' : World} {own' : Nat → Nat} (h : Stp w w' (fun _ => FT) own' NetR) : Below w.heap.size w w' :=
  ⟨h.wr.os, h.wr.tape, h.wr.output, h.wr.size, fun g hg => h.wr.block g hg (Nat.lt_irrefl _)⟩
/-- the law's own blocks stay -/
theorem stp_ft {w w' : World} {own own' : Nat → Nat} {g : Nat} (h : Stp w w' own own' NetR) (hg : g < w.heap.size) (ho : own g = FT) : w'.heap[g]? = w.heap[g]? ∧ own' g = FT := by
  obtain ⟨h1, h2⟩ := h.keep hg (by rw [ho]; exact Nat.lt_irrefl _)
  exact ⟨h1, h2.trans ho⟩

theorem conv_ab (w : World) (g o cap : Nat) (h : ∀ i x, ([97, 98] : Bs)[i]? = some x → w.cell? ⟨g, o + i, none⟩ = some (bv x)) : (convert 32 9 (.slice (some ⟨g, o, none⟩) 2 cap)).run Try.prog w = .ok (.string ⟨#[97, 98]⟩) w := by
  rw [run_convert_bytes_string _ _ _ _ _ _ _ Try.underlying32 Try.underlying5 Try.underlying9]
  rw [run_bytesToString _ _ _ _ [97, 98] ?_]
  · rfl
  · exact run_loadCells_list (P := Try.prog) (w := w) ⟨g, o, none⟩ [.int .u8 97, .int .u8 98] (fun j v hj => by
      rw [Go.WideShapes.add_plain]
      match j, hj with
      | 0, hj => simp at hj; subst hj; exact h 0 97 rfl
      | 1, hj => simp at hj; subst hj; exact h 1 98 rfl
      | j + 2, hj => simp at hj)

theorem lit_bat (w : World) (cs : Array Value) (s : Bs) (h : cs.toList = s.map bv) : BAt (w.alloc (.cells cs 5)) (w.alloc (.cells cs 5)).heap.size (some ⟨w.heap.size, 0, none⟩) s := fun _ => ⟨w.heap.size, 0, rfl, by simp, fun i x hx => by
  refine blk_cell (heap_alloc_new w _) ?_
  have : cs.toList[0 + i]? = some (bv x) := by rw [h, Nat.zero_add, List.getElem?_map, hx]; rfl
  simpa using this⟩

def T1 : Nst := ⟨fun j => false || [(80 : Int)].contains j, [], fun _ => none⟩
def T2 : Nst := Nst.dial T1 80
def D1 : Con := Con.put con0 0 (Wy.wtIf (Con.at con0 0) [97, 98, 99])
def T3 : Nst := Nst.set T2 1 D1
def D2 : Con := Con.put D1 0 (Wy.mv (Con.at D1 0) 2)
def T4 : Nst := Nst.set T3 1 D2
def D3 : Con := Con.put D2 0 (Wy.rd (Con.at D2 0) 9)
def T5 : Nst := Nst.set T4 1 D3
def T6 : Nst := Nst.brk T5 [1]

set_option maxRecDepth 20000 in
set_option maxHeartbeats 4000000 in
theorem live_any (w : World) : Calls Try.prog 6 #[] w fun x w' => x = .returned (.bool true) ∧ Below w.heap.size w w' := by
  have HN := hid (new_any (fun _ => FT) w)
  go_enter Try.func6, Try.ntmps6
  go_wp2_with fail
  refine HN.out.mono ?_
  rintro x w1 ⟨p, own1, rfl, hn, hs⟩
  obtain ⟨hn2, hs2⟩ := isn_alloc hn (bel_alloc w1 (.cells #[.int .i64 80] 3)) FT
  have HL := hid (Listen_any p w.heap.size 0 _ net0 (some ⟨w1.heap.size, 0, none⟩) 1 [80] _ (hid hn2) (by decide) (hid (single_at w1 80)) (fun g o e => by cases e; rw [later_new (Nat.le_refl _)]; decide))
  rw [show portE [80] = 0 from by decide, if_pos rfl, show (⟨fun j => net0.op j || [(80 : Int)].contains j, net0.di, net0.co⟩ : Nst) = T1 from rfl, show [(80 : Int)].length = 1 from rfl] at HL
  have HS := hid (hs.trans hs2)
  clear hn hs hn2 hs2 HN
  go_wp2_with fail
  refine HL.out.mono ?_
  rintro x w2 ⟨rfl, own2, hn, hs⟩
  have HS2 := hid (HS.out.trans hs)
  have HD := hid (dial_ok p w.heap.size 0 own2 T1 80 w2 (hid hn) (by decide) (by decide) (by decide) HS2.out.wr.size (by decide))
  rw [show Nst.dial T1 80 = T2 from rfl, show ((T1.di.length + 1 : Nat) : Int) = 1 from rfl] at HD
  clear hn hs HL HS
  go_wp2_with fail
  refine HD.out.mono ?_
  rintro x w3 ⟨rfl, own3, hn, hs⟩
  have HS3 := hid (HS2.out.trans hs)
  have HD2 := hid (dial_down p w.heap.size 1 own3 T2 81 w3 (hid hn) (by decide) (by decide))
  clear hn hs HD HS2
  go_wp2_with fail
  refine HD2.out.mono ?_
  rintro x w4 ⟨rfl, own4, hn, hs⟩
  obtain ⟨hn2, hs2⟩ := isn_alloc hn (bel_alloc w4 (.cells #[.int .u8 97, .int .u8 98, .int .u8 99] 5)) FT
  have HS4 := hid (HS3.out.trans (hs.trans hs2))
  have HW := hid (write_ok0 p w.heap.size 1 1 _ T2 con0 [97, 98, 99] (some ⟨w4.heap.size, 0, none⟩) 3 _ (hid hn2) rfl HS4.out.wr.size (by decide) (hid (lit_bat w4 #[.int .u8 97, .int .u8 98, .int .u8 99] [97, 98, 99] rfl)))
  rw [show Con.put con0 0 (Wy.wtIf (Con.at con0 0) [97, 98, 99]) = D1 from rfl, show Nst.set T2 1 D1 = T3 from rfl, show wtE (Con.at con0 0) ([97, 98, 99] : Bs).length = 0 from by decide, show ([97, 98, 99] : Bs).length = 3 from rfl, show (((1 : Nat) : Int)) = 1 from rfl] at HW
  clear hn hs hn2 hs2 HD2 HS3
  go_wp2_with fail
  refine HW.out.mono ?_
  rintro x w5 ⟨rfl, own5, hn, hs⟩
  have HS5 := hid (HS4.out.trans hs)
  have HM := hid (move_ok0 p w.heap.size 1 1 2 own5 T3 D1 w5 (hid hn) rfl HS5.out.wr.size (by decide))
  rw [show Con.put D1 0 (Wy.mv (Con.at D1 0) 2) = D2 from rfl, show Nst.set T3 1 D2 = T4 from rfl, show ((((Con.at D1 0).u.take 2).length : Nat) : Int) = 2 from by decide, show (((1 : Nat) : Int)) = 1 from rfl, show (((2 : Nat) : Int)) = 2 from rfl] at HM
  clear hn hs HW HS4
  go_wp2_with fail
  refine HM.out.mono ?_
  rintro x w6 ⟨rfl, own6, hn, hs⟩
  have HS6 := hid (HS5.out.trans hs)
  have HR := hid (read_ok1 p w.heap.size 1 1 9 own6 T4 D2 w6 (hid hn) rfl HS6.out.wr.size (by decide))
  rw [show Con.put D2 0 (Wy.rd (Con.at D2 0) 9) = D3 from rfl, show Nst.set T4 1 D3 = T5 from rfl, show (Con.at D2 0).c.take 9 = [97, 98] from by decide, show overB (Wy.rd (Con.at D2 0) 9) = false from by decide, show (((1 : Nat) : Int)) = 1 from rfl, show (((9 : Nat) : Int)) = 9 from rfl] at HR
  clear hn hs HM HS5
  go_wp2_with fail
  refine HR.out.mono ?_
  rintro x w7 ⟨v, rfl, hv, own7, hn, hs, hvt⟩
  have hn2 := isn_mine hn hvt
  have HS7 := hid (HS6.out.trans (stp_mine hs (fun g e => (hv.lt g e).1)))
  obtain ⟨va, vc, rfl, hv1, hv2, hv3⟩ := hv.bat
  obtain ⟨vg, vo, rfl, hvg, hvc⟩ := hv3 (by decide)
  have HV : Hid (mine own7 (.slice (some ⟨vg, vo, none⟩) ([97, 98] : Bs).length vc) vg = FT ∧ vg < w7.heap.size ∧ ∀ i x, ([97, 98] : Bs)[i]? = some x → w7.cell? ⟨vg, vo + i, none⟩ = some (bv x)) := hid ⟨if_pos rfl, hvg, hvc⟩
  generalize mine own7 (.slice (some ⟨vg, vo, none⟩) ([97, 98] : Bs).length vc) = own8 at *
  obtain ⟨hn3, hs3⟩ := isn_alloc hn2 (bel_alloc w7 (.cells #[.int .i64 1] 3)) FT
  have HS8 := hid (HS7.out.trans hs3)
  have hft := stp_ft hs3 HV.out.2.1 HV.out.1
  have HV8 : Hid (later own8 w7.heap.size FT vg = FT ∧ vg < w7.heap.size ∧ (w7.alloc (.cells #[.int .i64 1] 3)).heap[vg]? = w7.heap[vg]?) := hid ⟨hft.2, HV.out.2.1, hft.1⟩
  have HB := hid (break_any p w.heap.size 1 _ T5 (some ⟨w7.heap.size, 0, none⟩) 1 [1] _ (hid hn3) (by decide) (hid (single_at w7 1)) HS8.out.wr.size (by intro x hx; obtain rfl := List.mem_singleton.1 hx; decide) (fun g o e => by cases e; right; rw [later_new (Nat.le_refl _)]; exact Nat.le_refl _))
  rw [show brkE T5 [1] = 0 from by decide, if_pos rfl, if_pos rfl, show Nst.brk T5 [1] = T6 from rfl, show [(1 : Int)].length = 1 from rfl] at HB
  generalize later own8 w7.heap.size FT = own9 at *
  rw [show ([97, 98] : Bs).length = 2 from rfl]
  clear hn hs hvt hv hv1 hv2 hv3 hvg hvc hn2 hn3 hs3 hft HR HS6 HS7
  go_wp2_with fail
  refine HB.out.mono ?_
  rintro x w9 ⟨rfl, own10, hn, hs⟩
  have hft := stp_ft hs (by simp; have := HV8.out.2.1; omega) HV8.out.1
  have HS9 := hid (HS8.out.trans hs)
  have HV9 : Hid (own10 vg = FT ∧ vg < w9.heap.size ∧ w9.heap[vg]? = w7.heap[vg]?) := hid ⟨hft.2, by have := hs.wr.size; simp at this; have := HV8.out.2.1; omega, hft.1.trans HV8.out.2.2⟩
  have HE := hid (read_err p w.heap.size (1 - 1) own10 T6 1 1 9 w9 (hid hn) (by decide) (by decide) (by decide))
  rw [show atE T6 1 1 9 = 51 from by decide] at HE
  clear hn hs hft HB HS8 HV8
  go_wp2_with fail
  refine HE.out.mono ?_
  rintro x w10 ⟨rfl, own11, hn, hs⟩
  have hft := stp_ft hs HV9.out.2.1 HV9.out.1
  have HS10 := hid (HS9.out.trans hs)
  have hvb : w10.heap[vg]? = w7.heap[vg]? := hft.1.trans HV9.out.2.2
  have kcv := conv_ab w10 vg vo vc (fun i x hx => (World.cell?_of_block (a := ⟨vg, vo + i, none⟩) hvb).trans (HV.out.2.2 i x hx))
  clear hn hs hft hvb HE HS9 HV9
  go_wp2_with fail
  go_ret
  exact ⟨rfl, stp_below HS10.out⟩

end Go.Proofs.Ytgkfiolgipgbkaa.StmN
