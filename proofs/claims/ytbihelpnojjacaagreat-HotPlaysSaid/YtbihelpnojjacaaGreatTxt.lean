/- Texts: when two are the same; lists of texts that came in. -/
import Derived.Test.YtbihelpnojjacaaGreatBase
import Derived.Laws.Closers25b
namespace Go.Proofs.YtbihelpnojjacaaGreat.Txt
open Go.ChangeShapes Go.WideShapes Go.ChangeAt Go.RowKit

theorem text_eq (a b : ByteArray) : (a.toList == b.toList) = decide (a = b) := by
  rw [ByteArray.toList_eq, ByteArray.toList_eq]
  by_cases h : a = b
  · subst h; simp
  · rw [decide_eq_false h, beq_eq_false_iff_ne]
    exact fun e => h (Go.WideShapes.bytes_inj e)

end Go.Proofs.YtbihelpnojjacaaGreat.Txt
