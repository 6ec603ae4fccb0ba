/- A book takes a list of lists of bytes. -/
import Derived.Test.YtbpajgkhajheaaaAlbC
namespace Go.Proofs.Ytbpajgkhajheaaa.AlbT
open Go.ChangeShapes Go.WideShapes Go.ChangeAt Go.RowKit Base AloA WldF Wri AlbC
set_option linter.unusedVariables false

/-- a book in block b: its row of lists of bytes -/
structure Bk (w0 : World) (B b : Nat) (n : Nat) (blk0 : Option Nat) (xs : List Value) (w : World) : Prop where
  row : ∃ va vc, w.cell? ⟨b, 0, none⟩ = some (.slice va n vc) ∧ w.frozen? ⟨b, 0, none⟩ = false ∧ w.ownsRow B 23 1 (.slice va n vc) n xs ∧ (∀ g, (Value.slice va n vc).ownBlock = some g → g ≠ b ∧ (blk0 = some g ∨ w0.heap.size ≤ g))
  wr : Wr (fun k => k = b ∨ blk0 = some k) w0 w
  rest : ∀ j, j ≠ 0 → w.cell? ⟨b, j, none⟩ = w0.cell? ⟨b, j, none⟩ ∧ w.frozen? ⟨b, j, none⟩ = w0.frozen? ⟨b, j, none⟩

def IsL (v : Value) : Prop := ∃ a n c, v = .slice a n c

set_option maxRecDepth 20000 in
set_option maxHeartbeats 1000000 in
theorem takes_core (b B n m rc : Nat) (va ra : Option Addr) (vc : Nat) (xs ls : List Value) (w : World) (hB : B ≤ w.heap.size) (hb : b < w.heap.size) (hm : n + m ≤ 1099511627776) (h2 : w.cell? ⟨b, 0, none⟩ = some (.slice va n vc)) (hf : w.frozen? ⟨b, 0, none⟩ = false)
    (hown : w.ownsRow B 23 1 (.slice va n vc) n xs) (hnb : ∀ g, (Value.slice va n vc).ownBlock = some g → g ≠ b) (hlen : ls.length = m) (hL : Hid (∀ v ∈ ls, IsL v))
    (HA : Hid (0 < m → ∃ g o, ra = some ⟨g, o, none⟩ ∧ g < w.heap.size ∧ g ≠ b ∧ (Value.slice va n vc).ownBlock ≠ some g ∧ ∀ i v, ls[i]? = some v → w.cell? ⟨g, o + i, none⟩ = some v)) :
    Calls Try.prog 21 #[.pointer (some ⟨b, 0, none⟩), .slice ra m rc] w fun e w' => e = .returned (.tuple #[]) ∧ Bk w B b (n + m) (Value.slice va n vc).ownBlock (xs ++ ls) w' := by
  have HL := hid hlen
  have H0 : Hid (Bk w B b n (Value.slice va n vc).ownBlock xs w) := hid ⟨⟨va, vc, h2, hf, hown, fun g hg => ⟨hnb g hg, .inl hg⟩⟩, Wr.refl _ _, fun j _ => ⟨rfl, rfl⟩⟩
  obtain ⟨blk0, hblk0⟩ : ∃ blk0, (Value.slice va n vc).ownBlock = blk0 := ⟨_, rfl⟩
  rw [hblk0] at H0 HA ⊢
  clear hown h2 hf hnb hblk0 hlen
  go_enter Try.func21, Try.ntmps21
  go_wp2_with fail
  go_loopw [4] (fun i wr => ∃ k : Nat, k ≤ m ∧ i = .int .i64 k ∧ Bk w B b (n + k) blk0 (xs ++ ls.take k) wr) (fun i _ => m - (intOf i).toNat)
  case atStart => exact ⟨0, Nat.zero_le _, rfl, by simpa using H0.out⟩
  case round =>
    obtain ⟨k, hk, rfl, hbk⟩ := hrel
    have HB := hid hbk
    clear hbk
    by_cases hlt : k < m
    · obtain ⟨g, o, rfl, hg, hgb, hg0, hcell⟩ := HA.out (by omega)
      obtain ⟨v, hv⟩ : ∃ v, ls[k]? = some v := ⟨ls[k]'(by rw [HL.out]; exact hlt), List.getElem?_eq_getElem _⟩
      obtain ⟨la, ll, lc, rfl⟩ := hL.out v (List.mem_of_getElem? hv)
      have x0 : wr.cell? ⟨g, o + k, none⟩ = some (.slice la ll lc) := (HB.out.wr.cell (o + k) hg (fun e => e.elim hgb hg0)).trans (hcell k _ hv)
      obtain ⟨va1, vc1, q0, qf, qown, qb⟩ := HB.out.row
      have HC := hid (take_core b B (n + k) va1 vc1 (xs ++ ls.take k) la ll lc wr (Nat.le_trans hB HB.out.wr.size) (Nat.lt_of_lt_of_le hb HB.out.wr.size) (by omega) q0 qf qown (fun g hg => (qb g hg).1))
      have HQ := hid qb
      have HV := hid hv
      clear hcell q0 qf qown qb hv
      go_wp2_with (go_at_call 20
                   refine HC.out.mono ?_
                   rintro e w3 ⟨rfl, va', vc', z1, z2, z3, z4, z5, z6, z7⟩
                   have H3 := hid (And.intro z1 (And.intro z2 (And.intro z3 (And.intro z4 (And.intro z5 (And.intro z6 z7))))))
                   clear z1 z2 z3 z4 z5 z6 z7 HC)
      obtain ⟨z1, z2, z3, z4, z5, z6, z7⟩ := H3.out
      refine ⟨⟨k + 1, by omega, by go_num, ⟨⟨va', vc', z1, z2, ?_, fun g hg => ⟨z4 g hg, ?_⟩⟩, HB.out.wr.on z6 (fun j hj => ?_), fun j hj => ⟨(z7 j hj).1.trans (HB.out.rest j hj).1, (z7 j hj).2.trans (HB.out.rest j hj).2⟩⟩⟩, by simp [intOf]; omega⟩
      · rw [List.take_add_one, HV.out, ← List.append_assoc]
        exact z3
      · have hg' : (Value.slice va' (n + k + 1) vc').ownBlock = some g := hg
        rcases z5 with e | e
        · exact (HQ.out g (e.symm.trans hg')).2
        · have e2 := e.symm.trans hg'
          cases e2
          have := HB.out.wr.size
          exact .inr (by omega)
      · rcases hj with e | e
        · exact .inl (.inl e)
        · rcases (HQ.out j e).2 with h | h
          · exact .inl (.inr h)
          · exact .inr h
    · obtain rfl : k = m := by omega
      have hall : ls.take k = ls := List.take_of_length_le (by rw [HL.out]; exact Nat.le_refl _)
      rw [hall] at HB
      go_wp2_with fail
      go_end0
      exact ⟨rfl, HB.out⟩

end Go.Proofs.Ytbpajgkhajheaaa.AlbT
