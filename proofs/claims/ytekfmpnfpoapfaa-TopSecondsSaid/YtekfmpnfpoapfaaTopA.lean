/- What lies in memory in the loop of TopSeconds: a node, a window, and a list of what passed. -/
import Derived.Test.YtekfmpnfpoapfaaStaH
import Derived.Laws.AppendOwnNone
import Derived.Maps.AppendAt
namespace Go.Proofs.Ytekfmpnfpoapfaa.TopA
open Go.ChangeShapes Go.WideShapes Go.ChangeAt Go.RowKit Base WinM WinA WinB WinC WinD WinE WinF WinG WinH WinI WinJ WinK WinL WinN StaA StaB StaC StaD StaH WldF WldG

theorem infoNote : (Try.prog.info? 117).map (fun i => (i.zero, i.size, i.bytes)) = some (some (.agg #[.int .i64 0, .int .i64 0]), 2, 16) := by kernel_rfl

def ntv (e : Nat × Int) : List Value := [.int .i64 e.1, .int .i64 e.2]
def flatE (E : List (Nat × Int)) : List Value := E.flatMap ntv
theorem flatE_app (E : List (Nat × Int)) (e : Nat × Int) : flatE (E ++ [e]) = flatE E ++ [.int .i64 e.1, .int .i64 e.2] := by simp [flatE, ntv]
theorem flatE_get (E : List (Nat × Int)) (i : Nat) (e : Nat × Int) (h : E[i]? = some e) : (flatE E)[i * 2]? = some (.int .i64 e.1) ∧ (flatE E)[i * 2 + 1]? = some (.int .i64 e.2) := by
  induction E generalizing i with
  | nil => simp at h
  | cons x t ih =>
    have e1 : flatE (x :: t) = .int .i64 x.1 :: .int .i64 x.2 :: flatE t := by simp [flatE, ntv]
    rw [e1]
    cases i with
    | zero => simp at h; subst h; simp
    | succ i =>
      have h2 := ih i (by simpa using h)
      rw [show (i + 1) * 2 = i * 2 + 1 + 1 by omega]
      simpa using h2

def OwnE (B : Nat) (w : World) (v : Value) (E : List (Nat × Int)) : Prop := w.ownsRow B 117 2 v E.length (flatE E)

theorem OwnE.of_block {B : Nat} {w w' : World} {v : Value} {E : List (Nat × Int)} (h : OwnE B w v E) (hk : ∀ g, v.ownBlock = some g → w'.heap[g]? = w.heap[g]?) : OwnE B w' v E := by
  refine ⟨h.1, ?_⟩
  rcases h.2 with hn | ⟨g, cap, cur, rfl, hb, hgg, rest⟩
  · exact .inl hn
  · exact .inr ⟨g, cap, cur, rfl, hb, (hk g rfl).trans hgg, rest⟩

theorem OwnE.form {B : Nat} {w : World} {v : Value} {E : List (Nat × Int)} (h : OwnE B w v E) (hn : 0 < E.length) : ∃ g cap, v = .slice (some ⟨g, 0, none⟩) E.length cap ∧ g < w.heap.size ∧ ∀ i e, E[i]? = some e → w.cell? ⟨g, i * 2, none⟩ = some (.int .i64 e.1) ∧ w.cell? ⟨g, i * 2 + 1, none⟩ = some (.int .i64 e.2) := by
  have hl := World.ownsRow.lt h
  rcases h.2 with ⟨_, h0⟩ | ⟨g, cap, cur, rfl, hb, hgg, rest⟩
  · omega
  · refine ⟨g, cap, rfl, (hl g rfl).2, fun i e he => ?_⟩
    obtain ⟨h1, h2⟩ := flatE_get E i e he
    have h3 := World.ownsRow.cells h (g := g) rfl _ _ h1
    have h4 := World.ownsRow.cells h (g := g) rfl _ _ h2
    rw [Go.WideShapes.add_plain, Nat.zero_add] at h3 h4
    exact ⟨h3, h4⟩

theorem OwnE.shape {B : Nat} {w : World} {v : Value} {E : List (Nat × Int)} (h : OwnE B w v E) : ∃ va vc, v = .slice va E.length vc := by
  rcases h.2 with ⟨rfl, h0⟩ | ⟨g, cap, cur, rfl, _⟩
  · exact ⟨none, 0, by rw [h0]⟩
  · exact ⟨_, _, rfl⟩

structure St (w0 : World) (S : Spots) (p : Nat) (go : Option Nat) (N : Nd) (s : Win) (E : List (Nat × Int)) (v : Value) (wr : World) : Prop where
  node : IsNode wr S N
  win : IsWin wr p go s
  away : ¬ S.Has p ∧ ∀ g, go = some g → ¬ S.Has g
  above : (∀ k, S.Has k → w0.heap.size ≤ k) ∧ w0.heap.size ≤ p ∧ ∀ g, go = some g → w0.heap.size ≤ g
  own : OwnE w0.heap.size wr v E
  far : ∀ g, v.ownBlock = some g → ¬ S.Has g ∧ g ≠ p ∧ go ≠ some g
  bel : Below w0.heap.size w0 wr

theorem St.size {w0 : World} {S : Spots} {p : Nat} {go : Option Nat} {N : Nd} {s : Win} {E : List (Nat × Int)} {v : Value} {wr : World} (h : St w0 S p go N s E v wr) : w0.heap.size ≤ wr.heap.size := h.bel.size

theorem St.below {w0 : World} {S : Spots} {p : Nat} {go : Option Nat} {N : Nd} {s : Win} {E : List (Nat × Int)} {v : Value} {wr w' : World} (h : St w0 S p go N s E v wr) (hb : Below wr.heap.size wr w') : St w0 S p go N s E v w' where
  node := h.node.below hb
  win := h.win.keep (R := fun _ => False) (Lets.ofBelow hb) (fun h => h) (fun _ _ h => h)
  away := h.away
  above := h.above
  own := h.own.of_block fun g hg => hb.block g (World.ownsRow.lt h.own g hg).2
  far := h.far
  bel := h.bel.trans (hb.mono h.size)

theorem St.alloc {w0 : World} {S : Spots} {p : Nat} {go : Option Nat} {N : Nd} {s : Win} {E : List (Nat × Int)} {v : Value} {wr : World} (h : St w0 S p go N s E v wr) (o : Obj) : St w0 S p go N s E v (wr.alloc o) := h.below ((Below.refl _ _).alloc (Nat.le_refl _) o)

theorem St.drew {w0 : World} {S : Spots} {p : Nat} {go : Option Nat} {N : Nd} {s : Win} {E : List (Nat × Int)} {v : Value} {wr : World} (h : St w0 S p go N s E v wr) : St w0 S p go N s E v wr.drew := h.below (Below.refl _ _).drew

/-- behind a call of the node -/
theorem St.noted {w0 : World} {S : Spots} {p : Nat} {go : Option Nat} {N N' : Nd} {s : Win} {E : List (Nat × Int)} {v : Value} {wr w' : World} {e : Ending} (h : St w0 S p go N s E v wr) (hp : NodePost S N' wr e w') :
    ∃ S', S'.n = S.n ∧ St w0 S' p go N' s E v w' := by
  obtain ⟨_, S', hn, hg, hl⟩ := hp
  have hs' : ∀ k, S'.Has k → S.Has k ∨ wr.heap.size ≤ k := by
    obtain ⟨g1, g2, g3, g4, g5⟩ := hg
    rintro k (rfl | rfl | e | rfl | e)
    · exact .inl (.inl g1)
    · exact .inl (.inr (.inl g2))
    · rcases g4 with g4 | ⟨g, g4, hlt⟩
      · exact .inl (.inr (.inr (.inl (g4 ▸ e))))
      · rw [g4] at e; obtain rfl := Option.some.inj e; exact .inr hlt
    · exact .inl (.inr (.inr (.inr (.inl g3))))
    · rcases g5 with g5 | ⟨g, g5, hlt⟩
      · exact .inl (.inr (.inr (.inr (.inr (g5 ▸ e)))))
      · rw [g5] at e; obtain rfl := Option.some.inj e; exact .inr hlt
  have hpl := h.win.lt
  have hgl := h.win.lt2
  have hsz := h.size
  refine ⟨S', hg.1, { node := hn, win := h.win.keep hl h.away.1 h.away.2, away := ⟨fun hh => ?_, fun g eg hh => ?_⟩, above := ⟨fun k hk => ?_, h.above.2⟩, own := h.own.of_block fun g eg => hl.block g (World.ownsRow.lt h.own g eg).2 (h.far g eg).1, far := fun g eg => ⟨fun hh => ?_, (h.far g eg).2⟩, bel := h.bel.trans (hl.below _ hsz h.above.1) }⟩
  · exact (hs' _ hh).elim h.away.1 (fun h2 => by omega)
  · exact (hs' _ hh).elim (h.away.2 g eg) (fun h2 => by have := hgl g eg; omega)
  · exact (hs' k hk).elim (h.above.1 k) (fun h2 => by omega)
  · exact (hs' g hh).elim (h.far g eg).1 (fun h2 => by have := (World.ownsRow.lt h.own g eg).2; omega)

/-- behind a call of the window -/
theorem St.added {w0 : World} {S : Spots} {p : Nat} {go : Option Nat} {N : Nd} {s s' : Win} {E : List (Nat × Int)} {v : Value} {wr w' : World} {e : Ending} (h : St w0 S p go N s E v wr) (hp : AddPost p go s' wr e w') :
    ∃ go', St w0 S p go' N s' E v w' := by
  obtain ⟨go', _, hw, hg, hl⟩ := hp
  have hsz := h.size
  have hlt := h.node.hasLt
  have hR : ∀ k, S.Has k → ¬ (k = p ∨ go = some k) := fun k hk hh => hh.elim (fun e => h.away.1 (e ▸ hk)) (fun e => h.away.2 k e hk)
  refine ⟨go', { node := h.node.keep hl hR, win := hw, away := ⟨h.away.1, fun g eg hh => ?_⟩, above := ⟨h.above.1, h.above.2.1, fun g eg => ?_⟩, own := h.own.of_block fun g eg => hl.block g (World.ownsRow.lt h.own g eg).2 (fun hh => hh.elim (h.far g eg).2.1 (h.far g eg).2.2), far := fun g eg => ⟨(h.far g eg).1, (h.far g eg).2.1, fun hh => ?_⟩, bel := h.bel.trans (hl.below _ hsz (fun k hk => hk.elim (fun e => e ▸ h.above.2.1) (h.above.2.2 k))) }⟩
  · rcases hg with rfl | ⟨g2, rfl, h2⟩
    · exact h.away.2 g eg hh
    · obtain rfl := Option.some.inj eg
      have := hlt _ hh
      omega
  · rcases hg with rfl | ⟨g2, rfl, h2⟩
    · exact h.above.2.2 g eg
    · obtain rfl := Option.some.inj eg
      omega
  · rcases hg with rfl | ⟨g2, rfl, h2⟩
    · exact (h.far g eg).2.2 hh
    · obtain rfl := Option.some.inj hh
      have := (World.ownsRow.lt h.own _ eg).2
      omega

/-- behind an append to the list -/
theorem St.pushed {w0 : World} {S : Spots} {p : Nat} {go : Option Nat} {N : Nd} {s : Win} {E E' : List (Nat × Int)} {v v' : Value} {wr w' : World} (h : St w0 S p go N s E v wr) (ho : OwnE w0.heap.size w' v' E') (hg : wr.grownBy w' v.ownBlock) (hv : v'.ownBlock = v.ownBlock ∨ v'.ownBlock = some wr.heap.size) :
    St w0 S p go N s E' v' w' := by
  have hl : Lets (fun k => v.ownBlock = some k) wr w' := Lets.ofGrown hg (fun k e => e)
  have hlt := h.node.hasLt
  have hpl := h.win.lt
  have hgl := h.win.lt2
  refine { node := h.node.keep hl (fun k hk hh => (h.far k hh).1 hk), win := h.win.keep hl (fun hh => (h.far p hh).2.1 rfl) (fun g eg hh => (h.far g hh).2.2 eg), away := h.away, above := h.above, own := ho, far := fun g eg => ?_, bel := h.bel.grown hg h.size (fun k e => (World.ownsRow.lt h.own k e).1) }
  rcases hv with hv | hv
  · exact h.far g (hv.symm.trans eg)
  · rw [hv] at eg
    obtain rfl := Option.some.inj eg
    exact ⟨fun hh => by have := hlt _ hh; omega, by omega, fun hh => by have := hgl _ hh; omega⟩

end Go.Proofs.Ytekfmpnfpoapfaa.TopA
