/- A reader never gathers more than a frame; a broken one tells nothing more. -/
import Derived.Test.YthmcfnbnafdkeaaFrmL
import Derived.Test.YthmcfnbnafdkeaaFrmZ
namespace Go.Proofs.Ythmcfnbnafdkeaa.FrmO
open Go.ChangeShapes Go.WideShapes Go.ChangeAt Go.RowKit Go.Deep Base Wri FrmP FrmA FrmE FrmQ FrmR FrmW FrmX FrmL FrmZ
set_option linter.unusedVariables false
set_option linter.unusedSimpArgs false

theorem put_sizes (r : Rd) (b : Bs) : ∀ q ∈ (r.put b).1, 1 ≤ q.length ∧ q.length ≤ 4096 := by
  intro q hq
  cases hb : r.broken with
  | true => rw [Rd.put_broken hb] at hq; cases hq
  | false =>
    cases h2 : bad (sp (r.g ++ b)).2 with
    | true => rw [Rd.put_bad hb h2] at hq; exact sp_sizes _ q hq
    | false => rw [Rd.put_good hb h2] at hq; exact sp_sizes _ q hq
theorem put_stays {r : Rd} (h : r.broken = true) (b : Bs) : (r.put b).2.broken = true ∧ (r.put b).1 = [] := by rw [Rd.put_broken h]; exact ⟨h, rfl⟩
theorem sumL_in {ls : List Bs} {i : Nat} {q : Bs} (h : ls[i]? = some q) : q.length ≤ sumL ls := by
  unfold sumL
  have h1 : q.length ∈ ls.map List.length := List.mem_map.2 ⟨q, List.mem_of_getElem? h, rfl⟩
  obtain ⟨x, y, e⟩ := List.append_of_mem h1
  rw [e]; simp; omega

/-- the reader, all whose blocks are newer than w -/
def Ns (w W : World) (p : Nat) (r : Rd) : Prop := ∃ va, IsRd W w.heap.size p va r ∧ w.heap.size ≤ p ∧ Below w.heap.size w W ∧ r.Ok

theorem Ns.put {w W : World} {p : Nat} {r : Rd} (h : Ns w W p r) (a : Option Addr) (cap : Nat) (b : Bs) (hb : b.length ≤ 4398046507000) (hc : b.length ≤ cap) (hc2 : cap ≤ 9223372036854775807) (HB : BAt W w.heap.size a b) :
    Calls Try.prog 15 #[.pointer (some ⟨p, 0, none⟩), .slice a b.length cap] W fun e w' => ∃ row vs, e = .returned (.tuple #[row, .int .i64 ((r.put b).2.err)]) ∧ Ns w w' p (r.put b).2 ∧ Pls w' w.heap.size row vs (r.put b).1 := by
  obtain ⟨va, h1, h2, h3, h4⟩ := h
  refine (put_any w.heap.size p va r a cap b W h1 h4 h3.size hb hc hc2 (hid (HB.mono h3.size)) (fun h0 x e => ?_)).mono ?_
  · obtain ⟨g, o, e2, hg, _⟩ := HB h0
    rw [e2] at e; cases e
    rintro (h5 | h5)
    · have h5 : g = p := h5; omega
    · have h5 : va.ownBlock = some g := h5
      have := (h1.own.lt _ h5).1; omega
  · rintro e w' ⟨row, vs, va', he, hp⟩
    refine ⟨row, vs, he, ⟨va', hp.rd, h2, h3.trans (hp.wr.below _ h3.size (fun k h5 => ?_)), Rd.put_ok h4 b⟩, hp.pls⟩
    rcases h5 with h5 | h5
    · have h5 : k = p := h5; omega
    · exact (h1.own.lt _ h5).1

end Go.Proofs.Ythmcfnbnafdkeaa.FrmO
