/- The list with one rule ahead: the same rules look at a call. -/
import Derived.Test.YtakmfcnmcjbbgaaRejI
import Derived.Test.YtakmfcnmcjbbgaaRejC
namespace Go.Proofs.Ytakmfcnmcjbbgaa.RejK
set_option linter.unusedVariables false
open Go.ChangeShapes Go.WideShapes Go.ChangeAt Go.RowKit Base RejA RejB RejC RejD RejE RejF Txt

theorem infoFlow : (Try.prog.info? 25).map (fun i => (i.zero, i.size, i.bytes)) = some (some (.agg #[.string ⟨#[]⟩, .string ⟨#[]⟩, .bool false, .int .i64 0, .int .u8 0, .string ⟨#[]⟩, .int .u8 0, .int .i64 0, .int .i64 0, .bool false, .int .i64 0, .bool false]), 12, 120) := by kernel_rfl

def flatF (n : Nat) (L : Nat → Flow) : List Value := (List.range n).flatMap fun i => (fv (L i)).toList
theorem fv_len (f : Flow) : (fv f).toList.length = 12 := rfl
theorem flatF_succ (n : Nat) (L : Nat → Flow) : flatF (n + 1) L = flatF n L ++ (fv (L n)).toList := by
  unfold flatF
  rw [List.range_succ, List.flatMap_append]
  simp
theorem flatF_len (n : Nat) (L : Nat → Flow) : (flatF n L).length = n * 12 := by
  induction n with
  | zero => rfl
  | succ n ih => rw [flatF_succ, List.length_append, ih, fv_len]; omega
theorem flatF_get (n : Nat) (L : Nat → Flow) (i : Nat) (hi : i < n) (j : Nat) (hj : j < 12) : (flatF n L)[i * 12 + j]? = (fv (L i)).toList[j]? := by
  induction n with
  | zero => omega
  | succ n ih =>
    rw [flatF_succ]
    rcases Nat.lt_or_ge i n with e | e
    · rw [List.getElem?_append_left (by rw [flatF_len]; omega)]
      exact ih e
    · obtain rfl : i = n := by omega
      rw [List.getElem?_append_right (by rw [flatF_len]; omega), flatF_len, show i * 12 + j - i * 12 = j by omega]
theorem fv_one (f : Flow) : ∀ u ∈ (fv f).toList, u.oneCell' = true := by
  intro u hu
  simp [fv] at hu
  rcases hu with rfl | rfl | rfl | rfl | rfl | rfl | rfl | rfl | rfl | rfl | rfl | rfl <;> rfl
theorem flatF_one (n : Nat) (L : Nat → Flow) : ∀ u ∈ flatF n L, u.oneCell' = true := by
  intro u hu
  unfold flatF at hu
  obtain ⟨i, _, h⟩ := List.mem_flatMap.1 hu
  exact fv_one _ u h
theorem flatF_cut (n : Nat) (L : Nat → Flow) (k : Nat) (u : Value) (h : (flatF n L)[k]? = some u) : ∃ i j, i < n ∧ k = i * 12 + j ∧ (fv (L i))[j]? = some u := by
  have hk : k < n * 12 := by rw [← flatF_len n L]; exact (List.getElem?_eq_some_iff.1 h).1
  refine ⟨k / 12, k % 12, by omega, by omega, ?_⟩
  have e : k = k / 12 * 12 + k % 12 := by omega
  rw [e, flatF_get n L (k / 12) (by omega) (k % 12) (by omega)] at h
  rwa [Array.getElem?_toList] at h

theorem hasB_same {n : Nat} {L M : Nat → Flow} {r o : ByteArray} (h : ∀ i, i < n → M i = L i) : hasB n M r o = hasB n L r o := by
  rw [Bool.eq_iff_iff, hasB_iff, hasB_iff]
  exact ⟨fun ⟨k, hk, e⟩ => ⟨k, hk, h k hk ▸ e⟩, fun ⟨k, hk, e⟩ => ⟨k, hk, (h k hk).symm ▸ e⟩⟩
theorem own_up {B k n c : Nat} (h : B ≤ k) : ∀ j, (Value.slice (some ⟨k, 0, none⟩) n c).ownBlock = some j → B ≤ j := fun j e => by
  have h2 : k = j := Option.some.inj e
  omega

/-- one rule ahead -/
def ahead (L : Nat → Flow) (F : Flow) : Nat → Flow
  | 0 => F
  | i + 1 => L i
theorem flat_ahead (n : Nat) (L : Nat → Flow) (F : Flow) : flatF (n + 1) (ahead L F) = (fv F).toList ++ flatF n L := by
  induction n with
  | zero => simp [flatF, ahead]
  | succ n ih => rw [flatF_succ, ih, flatF_succ n L, List.append_assoc]; rfl

theorem hasB_ahead {n : Nat} {L : Nat → Flow} {F : Flow} {r o : ByteArray} (h : F.res ≠ r) : hasB (n + 1) (ahead L F) r o = hasB n L r o := by
  rw [Bool.eq_iff_iff, hasB_iff, hasB_iff]
  refine ⟨fun ⟨k, hk, e⟩ => ?_, fun ⟨k, hk, e⟩ => ⟨k + 1, by omega, e⟩⟩
  cases k with
  | zero =>
    exfalso
    unfold isOwn ahead at e
    rw [decide_eq_false h] at e
    cases e
  | succ k => exact ⟨k, by omega, e⟩
theorem conc_ahead {n k : Nat} {L : Nat → Flow} {F : Flow} {o : ByteArray} (hk : k < n) (hne : F.res ≠ (L k).res) : conc (n + 1) (ahead L F) (k + 1 : Nat) o = conc n L k o := by
  have e1 : ahead L F (k + 1) = L k := rfl
  have e3 : hasO (n + 1) (ahead L F) (L k).res o = hasO n L (L k).res o := by unfold hasO; rw [hasB_ahead hne]
  rw [conc_in (show k + 1 < n + 1 by omega), conc_in hk, e1, e3]
theorem mineB_zero {n : Nat} {L : Nat → Flow} {F : Flow} {c : Cal} (h : F.res ≠ c.res) : mineB (n + 1) (ahead L F) c 0 = false := by
  unfold mineB
  rw [show ahead L F 0 = F from rfl, decide_eq_false h]
  rfl
theorem mineB_ahead {n k : Nat} {L : Nat → Flow} {F : Flow} {c : Cal} (hk : k < n) (h : F.res ≠ c.res) : mineB (n + 1) (ahead L F) c (k + 1) = mineB n L c k := by
  unfold mineB
  rw [show ahead L F (k + 1) = L k from rfl]
  by_cases e : (L k).res = c.res
  · rw [conc_ahead hk (by rw [e]; exact h)]
  · rw [decide_eq_false e]; rfl
theorem mines_ahead {n : Nat} {L : Nat → Flow} {F : Flow} {c : Cal} (h : F.res ≠ c.res) : ∀ k, k ≤ n → mines (n + 1) (ahead L F) c (k + 1) = (mines n L c k).map (· + 1) := by
  intro k
  induction k with
  | zero =>
    intro _
    rw [mines_no (mineB_zero h)]
    rfl
  | succ k ih =>
    intro hk
    have e := mineB_ahead (n := n) (L := L) (F := F) (c := c) (show k < n by omega) h
    cases hb : mineB n L c k with
    | true => rw [mines_yes (by rw [e]; exact hb), mines_yes hb, ih (by omega), List.map_append]; rfl
    | false => rw [mines_no (by rw [e]; exact hb), mines_no hb, ih (by omega)]

theorem flows_ahead {w : World} {B n g cap : Nat} {L : Nat → Flow} {F : Flow} (h : w.ownsRow B 25 12 (.slice (some ⟨g, 0, none⟩) (n + 1) cap) (n + 1) ((fv F).toList ++ flatF n L))
    (s1 : ∀ i, i < n → (L i).res.size ≤ maxLen) (s2 : ∀ i, i < n → (L i).org.size ≤ maxLen) (s3 : ∀ i, i < n → (L i).ref.size ≤ maxLen) (f1 : F.res.size ≤ maxLen) (f2 : F.org.size ≤ maxLen) (f3 : F.ref.size ≤ maxLen) : Flows w (some ⟨g, 0, none⟩) (n + 1) (ahead L F) := by
  have hg := (World.ownsRow.lt h g rfl).2
  have each : ∀ (p : Flow → Prop), (∀ i, i < n → p (L i)) → p F → ∀ i, i < n + 1 → p (ahead L F i) := fun p h1 h2 i hi => by
    cases i with
    | zero => exact h2
    | succ i => exact h1 i (by omega)
  refine ⟨fun _ => ⟨g, 0, rfl, hg, fun i hi j v hv => ?_⟩, each (fun x => x.res.size ≤ maxLen) s1 f1, each (fun x => x.org.size ≤ maxLen) s2 f2, each (fun x => x.ref.size ≤ maxLen) s3 f3⟩
  rw [← flat_ahead] at h
  have hj : j < 12 := by
    rcases Nat.lt_or_ge j 12 with e | e
    · exact e
    · rw [Array.getElem?_eq_none (by show 12 ≤ j; exact e)] at hv; cases hv
  have h3 := World.ownsRow.cells h (g := g) rfl (i * 12 + j) v (by rw [flatF_get _ _ i hi j hj, Array.getElem?_toList]; exact hv)
  rw [Go.WideShapes.add_plain, Nat.zero_add] at h3
  rw [Nat.zero_add]
  exact h3

/-- the numbers, in memory -/
theorem vals_at {w : World} {B : Nat} {va : Option Addr} {n c : Nat} {l : List Nat} (h : w.ownsRow B 3 1 (.slice va n c) l.length (vals l)) (h0 : 0 < l.length) : n = l.length ∧ ∃ g, va = some ⟨g, 0, none⟩ ∧ g < w.heap.size ∧ ∀ i, i < l.length → w.cell? ⟨g, i, none⟩ = some (.int .i64 (l.getD i 0 : Nat)) := by
  obtain ⟨g, cc, he, -, hg, hc⟩ := Wri.owns_at h h0
  cases he
  refine ⟨rfl, g, rfl, hg, fun i hi => hc i _ hi ?_⟩
  unfold vals
  simp [List.getD, hi]
theorem vals_len {w : World} {B : Nat} {va : Option Addr} {n c : Nat} {l : List Nat} (h : w.ownsRow B 3 1 (.slice va n c) l.length (vals l)) : n = l.length := by
  rcases Nat.eq_zero_or_pos l.length with e | e
  · rcases h.2 with ⟨hv, _⟩ | ⟨g, cap, cur, hv, _⟩
    · cases hv; exact e.symm
    · cases hv; rfl
  · exact (vals_at h e).1

end Go.Proofs.Ytakmfcnmcjbbgaa.RejK
