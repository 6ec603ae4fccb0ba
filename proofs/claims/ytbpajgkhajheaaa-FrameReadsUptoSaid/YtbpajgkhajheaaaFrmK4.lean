/- What the document's reader told, compared. -/
import Derived.Test.YtbpajgkhajheaaaFrmK3
import Derived.Test.YtbpajgkhajheaaaFrmM
namespace Go.Proofs.Ytbpajgkhajheaaa.FrmK4
open Go.ChangeShapes Go.WideShapes Go.ChangeAt Go.RowKit Base Wri FrmP FrmA FrmE FrmR FrmM FrmJ FrmK
set_option linter.unusedVariables false

theorem cuts_pat {W : World} {B rc : Nat} {ra : Option Addr} {vs : List Value} {ps : List Bs} (hown : W.ownsRow B 23 1 (.slice ra ps.length rc) ps.length vs) (hcut : Cuts W W.heap.size vs ps) (hps : ∀ q ∈ ps, q.length ≤ 4096) : PQt W W.heap.size ra ps (whereAt vs) := by
  have hl : vs.length = ps.length := by have := hown.1; omega
  intro h1
  obtain ⟨g, c, e, hb, hg, hc⟩ := owns_at hown h1
  cases e
  refine ⟨g, 0, rfl, hg, fun i q hq => ?_⟩
  have hi := (List.getElem?_eq_some_iff.1 hq).1
  obtain ⟨v, hv⟩ : ∃ v, vs[i]? = some v := ⟨vs[i]'(by omega), List.getElem?_eq_getElem _⟩
  obtain ⟨a2, c2, rfl, hat⟩ := hcut i v q hv hq
  rw [whereAt_eq hv, Nat.zero_add]
  have := hps q (List.mem_of_getElem? hq)
  exact ⟨hc i _ hi hv, hat, by omega⟩

end Go.Proofs.Ytbpajgkhajheaaa.FrmK4
