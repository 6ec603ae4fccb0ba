/- An append of one int onto an owned list: what the law of owned rows tells, and that the elements that were there stay where they were. -/
import Derived.Test.YtbpajgkhajheaaaAloD
import Derived.Deep.Upon
import Derived.Maps.AppendAt
namespace Go.Proofs.Ytbpajgkhajheaaa.AloF
open Go.ChangeShapes Go.WideShapes Go.ChangeAt Go.RowKit Base AloA WldF Wri AloC AloD
set_option linter.unusedVariables false

theorem came_of {wr : World} {B n : Nat} {e : TypeId} {v : Value} {xs : List Value} (h : wr.ownsRow B e 1 v n xs) :
    ∃ ao g c, v = .slice ao n c ∧ Came wr 1 ao g 0 n c xs ∧ (0 < c → v.ownBlock = some g) ∧ c ≤ maxLen := by
  have hlt := h.lt
  obtain ⟨hl, h2⟩ := h
  rcases h2 with ⟨rfl, rfl⟩ | ⟨g, c, cur, rfl, hb, hg, hnc, hcm, hcs, htake⟩
  · have : xs = [] := List.eq_nil_of_length_eq_zero (by simpa using hl)
    subst this
    exact ⟨none, 0, 0, rfl, ⟨Nat.le_refl _, fun h => by omega, fun h => by omega, rfl, fun j u hj => by simp at hj, fun j hj => by omega⟩, fun h => by omega, by unfold maxLen; omega⟩
  · refine ⟨some ⟨g, 0, none⟩, g, c, rfl, ⟨hnc, fun _ => rfl, fun _ => (hlt g rfl).2, hl, fun j u hj => ?_, fun j hj => ?_⟩, fun _ => rfl, hcm⟩
    · rw [Nat.zero_add]
      have h1 : (cur.toList.take (n * 1))[j]? = some u := by rw [htake]; exact hj
      rw [List.getElem?_take] at h1
      split at h1
      · have e : cur[j]? = some u := by rw [← Array.getElem?_toList, h1]
        simp [World.cell?, hg, e]
      · cases h1
    · have hjc : 0 + n * 1 + j < cur.size := by rw [hcs]; omega
      refine ⟨?_, ?_⟩
      · simp only [World.cell?, hg]
        simp
        omega
      · simp [World.frozen?, hg]

theorem run_one (w : World) (B : Nat) (t ty e : TypeId) (i : TypeInfo) (z : Value) (bytes : Nat) (ht : Try.prog.underlying t = some (.slice e)) (hi : Try.prog.info? e = some i) (hz : i.zero = some z)
    (hsize : i.size = 1) (hby : i.bytes = bytes) (hzs : z.cells.size = 1) (v : Value) (n : Nat) (xs : List Value) (hown : w.ownsRow B e 1 v n xs)
    (a : Addr) (c : Nat) (u : Value) (hu : w.cell? a = some u) (h1 : u.oneCell' = true) (h63 : n + 1 ≤ maxLen) (hbytes : (n + 1) * bytes ≤ 140737488355328) (hbase : B ≤ w.heap.size) :
    ∃ v' w', (Builtin.append_ #[t, t] ty #[v, .slice (some a) 1 c]).run Try.prog w = .ok v' w' ∧ w'.ownsRow B e 1 v' (n + 1) (xs ++ [u]) ∧ w.grownBy w' v.ownBlock ∧
      (v'.ownBlock = v.ownBlock ∨ v'.ownBlock = some w.heap.size) ∧ ∀ g, v.ownBlock = some g → ∀ q, q < n → w'.cell? ⟨g, q, none⟩ = w.cell? ⟨g, q, none⟩ := by
  have hn : ∀ j x, [u][j]? = some x → w.cell? (a.add j) = some x := fun j x hj => by
    match j, hj with
    | 0, hj => simp at hj; subst hj; simpa [Addr.add] using hu
    | k + 1, hj => simp at hj
  have ho : ∀ x ∈ [u], x.oneCell' = true := fun x hx => by rw [List.mem_singleton.1 hx]; exact h1
  obtain ⟨v', w', hr, h2, h3, _, h5⟩ := run_append_own_at (P := Try.prog) w B t ty e i z 1 bytes ht hi hz hsize hby hzs (by decide) v n xs hown a 1 c [u] rfl hn ho h63 hbytes hbase
  obtain ⟨ao, g0, c0, rfl, hc, hgb, hcm⟩ := came_of hown
  obtain ⟨v2, w2, hr2, hU⟩ := run_append_upon (P := Try.prog) hc t t ty i z bytes ht hi hz hsize hby hzs (Upon.start hc) (.slice (some a) 1 c) 1 [u] (Src.ofSlice w ht a 1 c [u] rfl hn ho) h63 hbytes
  rw [hr] at hr2
  cases hr2
  refine ⟨v', w', hr, h2, h3, h5, fun g hg q hq => ?_⟩
  have hcl := hc.le
  have := hgb (by omega)
  rw [this] at hg
  cases hg
  refine hU.old (hc.lt (by omega)) (fun j _ ⟨_, e⟩ => by omega)

theorem wpList_one (w : World) {ops : Array Oper} {rest : List Oper} {o : Oper} {act : Act} {Q : Exit → Act → World → Prop} (hgd : o.guard = none) (s x : Operand) (t : TypeId)
    (ho : o.op = .call { callee := .builtin .append, args := #[s, x], argTypes := #[t, t] })
    (B : Nat) (e : TypeId) (i : TypeInfo) (z : Value) (bytes : Nat) (ht : Try.prog.underlying t = some (.slice e)) (hi : Try.prog.info? e = some i) (hz : i.zero = some z)
    (hsize : i.size = 1) (hby : i.bytes = bytes) (hzs : z.cells.size = 1) (v : Value) (n : Nat) (xs : List Value) (hs : act.eval s = v) (hown : w.ownsRow B e 1 v n xs)
    (a : Addr) (c : Nat) (u : Value) (hx : act.eval x = .slice (some a) 1 c) (hu : w.cell? a = some u) (h1 : u.oneCell' = true) (h63 : n + 1 ≤ maxLen) (hbytes : (n + 1) * bytes ≤ 140737488355328) (hbase : B ≤ w.heap.size)
    (h : ∀ v' w', w'.ownsRow B e 1 v' (n + 1) (xs ++ [u]) → w.grownBy w' v.ownBlock → (v'.ownBlock = v.ownBlock ∨ v'.ownBlock = some w.heap.size) → (∀ g, v.ownBlock = some g → ∀ q, q < n → w'.cell? ⟨g, q, none⟩ = w.cell? ⟨g, q, none⟩) → wpList Try.prog ops Q rest (act.put o.dst v') w') :
    wpList Try.prog ops Q (o :: rest) act w := by
  refine wpList_plain hgd fun K hK => ?_
  obtain ⟨v', w', hr, h2, h3, h4, h5⟩ := run_one w B t o.type e i z bytes ht hi hz hsize hby hzs v n xs hown a c u hu h1 h63 hbytes hbase
  unfold Oper.wp execOp
  simp only [ho, resolve, invoke, builtin, Sem.run_bind, Sem.run_pure, Result.andThen_ok, List.map_toArray, List.map_cons, List.map_nil, hs, hx, hr]
  exact hK _ _ (h v' w' h2 h3 h4 h5)

end Go.Proofs.Ytbpajgkhajheaaa.AloF
