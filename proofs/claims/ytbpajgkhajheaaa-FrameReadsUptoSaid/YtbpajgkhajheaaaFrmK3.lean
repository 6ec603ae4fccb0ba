/- The document's reader takes bytes. -/
import Derived.Test.YtbpajgkhajheaaaFrmDc
import Derived.Test.YtbpajgkhajheaaaFrmK2
namespace Go.Proofs.Ytbpajgkhajheaaa.FrmK3
open Go.ChangeShapes Go.WideShapes Go.ChangeAt Go.RowKit Base Wri FrmP FrmA FrmE FrmR FrmJ FrmK FrmDc
set_option linter.unusedVariables false

theorem rput_any (p c bc : Nat) (a ba : Option Addr) (r : Rd) (b : Bs) (w : World) (h : IsDr w p a c r) (HBb : Hid (BAt w w.heap.size ba b)) (hsum : r.g.length + b.length ≤ 4398046511104) (hok : r.Ok) :
    Calls Try.prog 29 #[.pointer (some ⟨p, 0, none⟩), .slice ba b.length bc] w fun e w' => ∃ ra rc vs a' c', e = .returned (.tuple #[.slice ra (r.put b).1.length rc, .int .i64 (if (r.put b).2.broken = true then 50 else 0)]) ∧
      w'.ownsRow w.heap.size 23 1 (.slice ra (r.put b).1.length rc) (r.put b).1.length vs ∧ Cuts w' w'.heap.size vs (r.put b).1 ∧ IsDr w' p a' c' (r.put b).2 ∧ New0 a' (r.put b).2.g.length w.heap.size ∧ Wr (fun k => k = p) w w' :=
  rput_core p c bc a ba r b w h HBb hsum hok (hid (fun a3 c3 s w3 h1 h2 h3 h4 => rsplit_any a3 c3 s w3 h1 h2 h3 (hid h4)))

end Go.Proofs.Ytbpajgkhajheaaa.FrmK3
