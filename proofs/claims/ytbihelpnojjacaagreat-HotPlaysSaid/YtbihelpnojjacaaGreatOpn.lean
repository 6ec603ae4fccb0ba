/- How arguments that are lists of structs are opened: the cell of each field of each row, and what it reads as. -/
import Derived.Test.YtbihelpnojjacaaGreatBase
import Derived.Deep.Slices
import Derived.Deep.Fields
import Derived.ChangeSame
import Derived.ChangeArms
import Derived.SizedLaws
import Derived.OpenShut
namespace Go.Proofs.YtbihelpnojjacaaGreat.Opn
open Go.ChangeShapes Go.WideShapes Go.Deep Go.RowKit

section
variable {H : Type} {enc : TypeId × Value → H} {P : Program} {w : World} {base : Nat} {spare : Nat → Bool} {held : Bool}

/-- a struct whose fields take one cell each, in memory: what its field number j reads as -/
theorem field_at {e : TypeId} {fs : Array Field} {n : Nat} {a : Addr} {cs : List Value} {y : DataW H × List MemPlace} (he : P.underlying e = some (.struct fs)) (hone : oneCellFields P fs = true) (hC : P.cellsOf e = fs.size)
    (hc : w.cells? base a (P.cellsOf e) = some cs) (ht : DataW.trod enc P w base spare held n e cs = some y) (j : Nat) (f : Field) (hj : fs[j]? = some f) :
    ∃ v z k, w.cell? (a.add j) = some v ∧ DataW.trod enc P w base spare held k f.type [v] = some z := by
  obtain ⟨_, hlen, hat⟩ := World.cells?_some hc
  obtain ⟨xs, k, _, _, _, hxl, hg⟩ := DataW.trod_struct he ht
  obtain ⟨o1, o2⟩ := hone_of hone j f hj
  have hjs : j < fs.size := (Array.getElem?_eq_some_iff.1 hj).1
  have hjc : j < cs.length := by omega
  have hg := hg j f hj
  rw [o1, o2, List.drop_eq_getElem_cons hjc] at hg
  simp only [List.take_succ_cons, List.take_zero] at hg
  obtain ⟨z, hz⟩ : ∃ z, xs[j]? = some z := ⟨xs[j]'(by omega), List.getElem?_eq_getElem (by omega)⟩
  exact ⟨cs[j], z, k, by rw [hat j (by omega)]; exact List.getElem?_eq_getElem hjc, by rw [hg, hz]⟩

theorem row_at {t e : TypeId} {fs : Array Field} {fuel : Nat} {a0 : Option Addr} {len cap : Nat} {x : DataW H × List MemPlace} (ht : P.underlying t = some (.slice e)) (he : P.underlying e = some (.struct fs)) (hone : oneCellFields P fs = true) (hC : P.cellsOf e = fs.size)
    (h : DataW.trod enc P w base spare held fuel t [.slice a0 len cap] = some x) :
    (a0 = none ∧ len = 0) ∨ ∃ a, a0 = some a ∧ len ≤ cap ∧ cap ≤ maxLen ∧ ∀ i, i < len → ∀ (j : Nat) (f : Field), fs[j]? = some f → ∃ v z k, w.cell? (a.add (i * fs.size + j)) = some v ∧ DataW.trod enc P w base spare held k f.type [v] = some z := by
  rcases open_slice ht h with ⟨hn, _⟩ | ⟨a, l, c, m, n, D, Pl, hcs, _, hl, hm, hmm, _, hi⟩
  · simp at hn
    exact .inl ⟨hn.1, hn.2.1⟩
  · simp at hcs
    obtain ⟨rfl, rfl, rfl⟩ := hcs
    refine .inr ⟨a, rfl, hl, hm, fun i hil j f hj => ?_⟩
    obtain ⟨cs, h1, h2⟩ := hi i (by rw [hmm]; split <;> omega)
    obtain ⟨v, z, k, h3, h4⟩ := field_at he hone hC h1 h2 j f hj
    rw [hC] at h3
    exact ⟨v, z, k, by rw [← add_add]; exact h3, h4⟩

theorem weights_all {e : TypeId} {n : Nat} {d : DataW H} : ∀ {l : List (DataW H)}, d ∈ l → n ∈ d.weights P e → n ∈ DataW.weightsAll P e l
  | [], h, _ => by cases h
  | x :: r, h, hn => by
    unfold DataW.weightsAll
    rcases List.mem_cons.1 h with rfl | h
    · exact List.mem_append.2 (.inl hn)
    · exact List.mem_append.2 (.inr (weights_all h hn))

/-- the same, and what each field weighs -/
theorem field_sized {e : TypeId} {fs : Array Field} {n : Nat} {a : Addr} {cs : List Value} {y : DataW H × List MemPlace} (he : P.underlying e = some (.struct fs)) (hone : oneCellFields P fs = true) (hC : P.cellsOf e = fs.size)
    (hc : w.cells? base a (P.cellsOf e) = some cs) (ht : DataW.trod enc P w base spare held n e cs = some y) (j : Nat) (f : Field) (hj : fs[j]? = some f) :
    ∃ v z k, w.cell? (a.add j) = some v ∧ DataW.trod enc P w base spare held k f.type [v] = some z ∧ ∀ m ∈ z.1.weights P f.type, m ∈ y.1.weights P e := by
  obtain ⟨_, hlen, hat⟩ := World.cells?_some hc
  obtain ⟨xs, k, _, hy, _, hxl, hg⟩ := DataW.trod_struct he ht
  obtain ⟨o1, o2⟩ := hone_of hone j f hj
  have hjs : j < fs.size := (Array.getElem?_eq_some_iff.1 hj).1
  have hjc : j < cs.length := by omega
  have hg := hg j f hj
  rw [o1, o2, List.drop_eq_getElem_cons hjc] at hg
  simp only [List.take_succ_cons, List.take_zero] at hg
  obtain ⟨z, hz⟩ : ∃ z, xs[j]? = some z := ⟨xs[j]'(by omega), List.getElem?_eq_getElem (by omega)⟩
  refine ⟨cs[j], z, k, by rw [hat j (by omega)]; exact List.getElem?_eq_getElem hjc, by rw [hg, hz], fun m hm => ?_⟩
  have hy1 : y.1 = .agg (xs.map (·.1)) := by rw [hy]
  rw [hy1]
  unfold DataW.weights
  rw [he]
  exact DataW.weights_mem_each (j := j) (by rw [List.getElem?_map]; simp [hj]) (by rw [List.getElem?_map, hz]; rfl) m hm

theorem row_sized {t e : TypeId} {fs : Array Field} {fuel : Nat} {a0 : Option Addr} {len cap : Nat} {x : DataW H × List MemPlace} (ht : P.underlying t = some (.slice e)) (he : P.underlying e = some (.struct fs)) (hone : oneCellFields P fs = true) (hC : P.cellsOf e = fs.size)
    (h : DataW.trod enc P w base spare held fuel t [.slice a0 len cap] = some x) :
    (a0 = none ∧ len = 0) ∨ ∃ a, a0 = some a ∧ len ≤ cap ∧ cap ≤ maxLen ∧ ∀ i, i < len → ∀ (j : Nat) (f : Field), fs[j]? = some f →
      ∃ v z k, w.cell? (a.add (i * fs.size + j)) = some v ∧ DataW.trod enc P w base spare held k f.type [v] = some z ∧ ∀ m ∈ z.1.weights P f.type, m ∈ x.1.weights P t := by
  rcases open_slice ht h with ⟨hn, _⟩ | ⟨a, l, c, m, n, D, Pl, hcs, _, hl, hm, hmm, hx, hi⟩
  · simp at hn
    exact .inl ⟨hn.1, hn.2.1⟩
  · simp at hcs
    obtain ⟨rfl, rfl, rfl⟩ := hcs
    refine .inr ⟨a, rfl, hl, hm, fun i hil j f hj => ?_⟩
    obtain ⟨cs, h1, h2⟩ := hi i (by rw [hmm]; split <;> omega)
    obtain ⟨v, z, k, h3, h4, h5⟩ := field_sized he hone hC h1 h2 j f hj
    rw [hC] at h3
    refine ⟨v, z, k, by rw [← add_add]; exact h3, h4, fun m hm => ?_⟩
    have hx1 := congrArg Prod.fst hx
    dsimp only at hx1
    rw [hx1]
    unfold DataW.weights
    rw [ht]
    refine List.mem_cons_of_mem _ (List.mem_append.2 (.inl (weights_all (List.mem_map.2 ⟨i, List.mem_range.2 hil, rfl⟩) (h5 m hm))))

/-- a list of ints, opened: where it lies, and how long it may be -/
theorem ints_sized {t e : TypeId} {k : Nat} {v : Value} {z : DataW H × List MemPlace} (ht : P.underlying t = some (.slice e)) (he : P.underlying e = some (.int .i64)) (hc : P.cellsOf e = 1) (hb : P.bytesOf e = 8)
    (h : DataW.trod enc P w base spare held k t [v] = some z) :
    ∃ (a : Option Addr) (n cap : Nat) (f : Nat → Int), v = .slice a n cap ∧ n ≤ 9223372036854775807 ∧ (0 < n → ∃ g o, a = some ⟨g, o, none⟩ ∧ g < w.heap.size ∧ ∀ i, i < n → w.cell? ⟨g, o + i, none⟩ = some (.int .i64 (f i))) ∧
      ((∀ m ∈ z.1.weights P t, m ≤ reachBytes) → n ≤ 17592186044416) := by
  rcases open_ints ht he hc h with ⟨hn, _⟩ | ⟨a, l, c, zs, hcs, _, hl, hm, hz, hx, hcc, _⟩
  · simp at hn
    exact ⟨none, 0, 0, fun _ => 0, hn, by omega, fun h => by omega, fun _ => by omega⟩
  · simp at hcs
    have hzl : l ≤ zs.length := by rw [hz]; split <;> omega
    unfold maxLen at hm
    refine ⟨some a, l, c, fun i => zs.getD i 0, hcs, by omega, fun h0 => ?_, fun hw => ?_⟩
    · obtain ⟨b, off, rfl, hcd⟩ := ints_at hcc (by omega)
      exact ⟨b, off, rfl, World.block_lt_of_cell? _ _ (hcc 0 (by omega)), fun i hi => hcd i (by omega)⟩
    · have h1 := hw (((lits .i64 (zs.take l) : List (DataW H)).length + (lits .i64 (zs.drop l) : List (DataW H)).length) * P.bytesOf e) (by rw [hx]; unfold DataW.weights; rw [ht]; exact List.mem_cons_self)
      rw [hb] at h1
      simp only [lits, List.length_map, List.length_take, List.length_drop, reachBytes] at h1
      omega

end

theorem choose2 {n : Nat} {α : Type} {p : Nat → α → Prop} (a0 : α) (h : ∀ i, i < n → ∃ x, p i x) : ∃ f : Nat → α, ∀ i, i < n → p i (f i) := by
  classical
  exact ⟨fun i => if hi : i < n then (h i hi).choose else a0, fun i hi => by simp only [hi, dif_pos]; exact (h i hi).choose_spec⟩

end Go.Proofs.YtbihelpnojjacaaGreat.Opn
