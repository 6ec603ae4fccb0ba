/- How many rows a slice that came in may have, by what it weighs. -/
import Derived.Test.YtbihelpnojjacaaGreatOpn
namespace Go.Proofs.YtbihelpnojjacaaGreat.Room
open Go.ChangeShapes Go.WideShapes Go.Deep Go.RowKit Opn

theorem rows_room {H : Type} {enc : TypeId × Value → H} {P : Program} {w : World} {base : Nat} {spare : Nat → Bool} {held : Bool} {t e : TypeId} {fuel : Nat} {a0 : Option Addr} {len cap : Nat} {x : DataW H × List MemPlace} (ht : P.underlying t = some (.slice e))
    (h : DataW.trod enc P w base spare held fuel t [.slice a0 len cap] = some x) (hw : ∀ m ∈ x.1.weights P t, m ≤ reachBytes) : len * P.bytesOf e ≤ reachBytes := by
  rcases open_slice ht h with ⟨hn, _⟩ | ⟨a, l, c, m, n, D, Pl, hcs, _, hl, hm, hmm, hx, hi⟩
  · simp at hn
    rw [hn.2.1, Nat.zero_mul]; exact Nat.zero_le _
  · simp at hcs
    obtain ⟨rfl, rfl, rfl⟩ := hcs
    have hx1 := congrArg Prod.fst hx
    dsimp only at hx1
    rw [hx1] at hw
    unfold DataW.weights at hw
    rw [ht] at hw
    have := hw _ List.mem_cons_self
    simp at this
    exact Nat.le_trans (Nat.mul_le_mul_right _ (Nat.le_add_right _ _)) this

end Go.Proofs.YtbihelpnojjacaaGreat.Room
