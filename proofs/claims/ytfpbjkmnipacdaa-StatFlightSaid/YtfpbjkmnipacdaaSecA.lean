/- What lies in memory in the loop of StatSeconds: a node, and two lists of numbers. -/
import Derived.Test.YtfpbjkmnipacdaaStaI
import Derived.Laws.AppendOwnNone
import Derived.Maps.AppendAt
namespace Go.Proofs.Ytfpbjkmnipacdaa.SecA
open Go.ChangeShapes Go.WideShapes Go.ChangeAt Go.RowKit Base WinM WinA WinB WinC WinD WinE WinF WinG WinH WinI WinJ WinK WinL WinN StaA StaB StaC StaD StaH StaI WldF WldG

def OwnI (B : Nat) (w : World) (v : Value) (xs : List Int) : Prop := w.ownsRow B 3 1 v xs.length (xs.map (Value.int .i64))

theorem OwnI.of_block {B : Nat} {w w' : World} {v : Value} {xs : List Int} (h : OwnI B w v xs) (hk : ∀ g, v.ownBlock = some g → w'.heap[g]? = w.heap[g]?) : OwnI B w' v xs := by
  refine ⟨h.1, ?_⟩
  rcases h.2 with hn | ⟨g, cap, cur, rfl, hb, hgg, rest⟩
  · exact .inl hn
  · exact .inr ⟨g, cap, cur, rfl, hb, (hk g rfl).trans hgg, rest⟩

theorem OwnI.shape {B : Nat} {w : World} {v : Value} {xs : List Int} (h : OwnI B w v xs) : ∃ va vc, v = .slice va xs.length vc := by
  rcases h.2 with ⟨rfl, h0⟩ | ⟨g, cap, cur, rfl, _⟩
  · exact ⟨none, 0, by rw [h0]⟩
  · exact ⟨_, _, rfl⟩

structure Sw (w0 : World) (S : Spots) (N : Nd) (xs ys : List Int) (vx vy : Value) (wr : World) : Prop where
  node : IsNode wr S N
  above : ∀ k, S.Has k → w0.heap.size ≤ k
  own1 : OwnI w0.heap.size wr vx xs
  own2 : OwnI w0.heap.size wr vy ys
  far1 : ∀ g, vx.ownBlock = some g → ¬ S.Has g
  far2 : ∀ g, vy.ownBlock = some g → ¬ S.Has g
  two : ∀ g, vx.ownBlock = some g → vy.ownBlock ≠ some g
  bel : Below w0.heap.size w0 wr

variable {w0 : World} {S : Spots} {N N' : Nd} {xs ys zs : List Int} {vx vy v' : Value} {wr w' : World}

theorem Sw.size (h : Sw w0 S N xs ys vx vy wr) : w0.heap.size ≤ wr.heap.size := h.bel.size

theorem Sw.below (h : Sw w0 S N xs ys vx vy wr) (hb : Below wr.heap.size wr w') : Sw w0 S N xs ys vx vy w' where
  node := h.node.below hb
  above := h.above
  own1 := h.own1.of_block fun g hg => hb.block g (World.ownsRow.lt h.own1 g hg).2
  own2 := h.own2.of_block fun g hg => hb.block g (World.ownsRow.lt h.own2 g hg).2
  far1 := h.far1
  far2 := h.far2
  two := h.two
  bel := h.bel.trans (hb.mono h.size)

theorem Sw.alloc (h : Sw w0 S N xs ys vx vy wr) (o : Obj) : Sw w0 S N xs ys vx vy (wr.alloc o) := h.below ((Below.refl _ _).alloc (Nat.le_refl _) o)
theorem Sw.drewN (h : Sw w0 S N xs ys vx vy wr) (n : Nat) : Sw w0 S N xs ys vx vy (wr.drewN n) := h.below ⟨rfl, rfl, rfl, Nat.le_refl _, fun _ _ => rfl⟩

theorem Sw.noted {e : Ending} (h : Sw w0 S N xs ys vx vy wr) (hp : NodePost S N' wr e w') : ∃ S', S'.n = S.n ∧ Sw w0 S' N' xs ys vx vy w' := by
  obtain ⟨_, S', hn, hg, hl⟩ := hp
  have hs' : ∀ k, S'.Has k → S.Has k ∨ wr.heap.size ≤ k := by
    obtain ⟨g1, g2, g3, g4, g5⟩ := hg
    rintro k (rfl | rfl | e | rfl | e)
    · exact .inl (.inl g1)
    · exact .inl (.inr (.inl g2))
    · rcases g4 with g4 | ⟨g, g4, hlt⟩
      · exact .inl (.inr (.inr (.inl (g4 ▸ e))))
      · rw [g4] at e; obtain rfl := Option.some.inj e; exact .inr hlt
    · exact .inl (.inr (.inr (.inr (.inl g3))))
    · rcases g5 with g5 | ⟨g, g5, hlt⟩
      · exact .inl (.inr (.inr (.inr (.inr (g5 ▸ e)))))
      · rw [g5] at e; obtain rfl := Option.some.inj e; exact .inr hlt
  have hsz := h.size
  refine ⟨S', hg.1, { node := hn, above := fun k hk => ?_, own1 := h.own1.of_block fun g eg => hl.block g (World.ownsRow.lt h.own1 g eg).2 (h.far1 g eg), own2 := h.own2.of_block fun g eg => hl.block g (World.ownsRow.lt h.own2 g eg).2 (h.far2 g eg), far1 := fun g eg hh => ?_, far2 := fun g eg hh => ?_, two := h.two, bel := h.bel.trans (hl.below _ hsz h.above) }⟩
  · exact (hs' k hk).elim (h.above k) (fun h2 => by omega)
  · exact (hs' g hh).elim (h.far1 g eg) (fun h2 => by have := (World.ownsRow.lt h.own1 g eg).2; omega)
  · exact (hs' g hh).elim (h.far2 g eg) (fun h2 => by have := (World.ownsRow.lt h.own2 g eg).2; omega)

theorem Sw.pushed1 (h : Sw w0 S N xs ys vx vy wr) (ho : OwnI w0.heap.size w' v' zs) (hg : wr.grownBy w' vx.ownBlock) (hv : v'.ownBlock = vx.ownBlock ∨ v'.ownBlock = some wr.heap.size) : Sw w0 S N zs ys v' vy w' := by
  have hl : Lets (fun k => vx.ownBlock = some k) wr w' := Lets.ofGrown hg (fun k e => e)
  have hlt := h.node.hasLt
  refine { node := h.node.keep hl (fun k hk hh => h.far1 k hh hk), above := h.above, own1 := ho, own2 := h.own2.of_block fun g eg => hl.block g (World.ownsRow.lt h.own2 g eg).2 (fun e => h.two g e eg), far1 := fun g eg => ?_, far2 := h.far2, two := fun g eg e2 => ?_, bel := h.bel.grown hg h.size (fun k e => (World.ownsRow.lt h.own1 k e).1) }
  · rcases hv with hv | hv
    · exact h.far1 g (hv.symm.trans eg)
    · rw [hv] at eg; obtain rfl := Option.some.inj eg; exact fun hh => by have := hlt _ hh; omega
  · rcases hv with hv | hv
    · exact h.two g (hv.symm.trans eg) e2
    · rw [hv] at eg; obtain rfl := Option.some.inj eg; have := (World.ownsRow.lt h.own2 _ e2).2; omega

theorem Sw.pushed2 (h : Sw w0 S N xs ys vx vy wr) (ho : OwnI w0.heap.size w' v' zs) (hg : wr.grownBy w' vy.ownBlock) (hv : v'.ownBlock = vy.ownBlock ∨ v'.ownBlock = some wr.heap.size) : Sw w0 S N xs zs vx v' w' := by
  have hl : Lets (fun k => vy.ownBlock = some k) wr w' := Lets.ofGrown hg (fun k e => e)
  have hlt := h.node.hasLt
  refine { node := h.node.keep hl (fun k hk hh => h.far2 k hh hk), above := h.above, own2 := ho, own1 := h.own1.of_block fun g eg => hl.block g (World.ownsRow.lt h.own1 g eg).2 (fun e => h.two g eg e), far2 := fun g eg => ?_, far1 := h.far1, two := fun g eg e2 => ?_, bel := h.bel.grown hg h.size (fun k e => (World.ownsRow.lt h.own2 k e).1) }
  · rcases hv with hv | hv
    · exact h.far2 g (hv.symm.trans eg)
    · rw [hv] at eg; obtain rfl := Option.some.inj eg; exact fun hh => by have := hlt _ hh; omega
  · rcases hv with hv | hv
    · exact h.two g eg (hv.symm.trans e2)
    · rw [hv] at e2; obtain rfl := Option.some.inj e2; have := (World.ownsRow.lt h.own1 _ eg).2; omega

/-- behind Pass of a list: refused, or done -/
def PassPost (w0 : World) (n : Nat) (N : Nd) (last : Nat) (xs ys : List Int) (vx vy : Value) (wz : World) (at_ : Int) (f : Nat → Int) (m : Nat) (r : Int) (w' : World) : Prop :=
  (r ≠ 0 ∧ wz = w') ∨
  (r = 0 ∧ ∃ (t : Nat) (S' : Spots), at_ = t ∧ t ≤ 1152921504606846976 ∧ last ≤ t ∧ (∀ i, i < m → badC (f i) = false) ∧ (m : Int) ≤ 4096 - N.entries ∧ S'.n = n ∧ Sw w0 S' (({ N with entries := N.entries + m } : Nd).noted t ⟨tokM (firsts f m), 0, 0, 0, 0, 0⟩) xs ys vx vy w')

theorem pass_step (last : Nat) (E : List (Nat × Int)) (at_ : Int) (a : Option Addr) (m cap : Nat) (f : Nat → Int) (h : Sw w0 S N xs ys vx vy wr) (hg : NGood N last E) (hm : m ≤ 9223372036854775807) (hi : Ints wr a m f) (hfar : 0 < m → ∀ g o, a = some ⟨g, o, none⟩ → g < w0.heap.size) :
    Calls Try.prog 18 #[.pointer (some ⟨S.n, 0, none⟩), .int .i64 at_, .slice a m cap] wr fun e w' =>
      ∃ r : Int, e = .returned (.int .i64 r) ∧ Lets S.Has wr w' ∧ PassPost w0 S.n N last xs ys vx vy wr at_ f m r w' := by
  by_cases hr : nrefM last at_ (goodC f m) = 0
  · unfold nrefM at hr
    split at hr
    · rename_i hb
      split at hr
      · cases hr
      · rename_i hlast
        obtain ⟨hb1, hb2⟩ := hb
        have hbad : ∀ i, i < m → badC (f i) = false := by unfold goodC at hb1; simpa using hb1
        unfold isT at hb2
        have hb3 : 0 ≤ at_ ∧ at_ ≤ 1152921504606846976 := by simpa using hb2
        obtain ⟨t, rfl⟩ : ∃ t : Nat, at_ = t := ⟨at_.toNat, by omega⟩
        by_cases hroom : (m : Int) ≤ 4096 - N.entries
        · refine (pass_yes S N last t a m cap f _ h.node hg.ok (by omega) (by omega) hi (fun h0 g o e e2 => by have h1 := hfar h0 g o e; have h2 := h.above _ (.inl e2); omega) hbad hroom).mono fun e w' hp => ?_
          obtain ⟨S', hS', hst⟩ := h.noted hp
          exact ⟨0, hp.1, hp.2.choose_spec.2.2, .inr ⟨rfl, t, S', rfl, by omega, by omega, hbad, hroom, hS', hst⟩⟩
        · refine (pass_full S N last t a m cap f _ h.node hg.ok (by omega) (by omega) hm hi hbad (by omega)).mono ?_
          rintro e w' ⟨⟨r, hr, rfl⟩, hw⟩
          exact ⟨r, rfl, hw ▸ Lets.refl _ _, .inl ⟨hr, hw⟩⟩
    · cases hr
  · refine (pass_no S N last at_ a m cap f _ h.node hg.ok.l1 hm hi hr).mono ?_
    rintro e w' ⟨he, hw⟩
    exact ⟨_, he, hw ▸ Lets.refl _ _, .inl ⟨hr, hw⟩⟩

/-- what passed in the whole second ahead -/
def ahead (b : Int) : List (Nat × Int) → Int
  | [] => 0
  | e :: t => (if (e.1 : Int) < b ∧ b - 1000000 ≤ e.1 then e.2 else 0) + ahead b t
theorem ahead_app (b : Int) (x y : List (Nat × Int)) : ahead b (x ++ y) = ahead b x + ahead b y := by
  induction x with
  | nil => simp [ahead]
  | cons z t ih => simp only [List.cons_append, ahead, ih]; omega
theorem ahead_take (b : Int) (E : List (Nat × Int)) (m : Nat) (e : Nat × Int) (h : E[m]? = some e) : ahead b (E.take (m + 1)) = ahead b (E.take m) + (if (e.1 : Int) < b ∧ b - 1000000 ≤ e.1 then e.2 else 0) := by
  rw [List.take_add_one, h, ahead_app]
  simp [ahead]
theorem ahead_pos (b : Int) (E : List (Nat × Int)) (h : ∀ e ∈ E, 0 ≤ e.2) : 0 ≤ ahead b E ∧ ahead b E ≤ tot E := by
  induction E with
  | nil => simp [ahead, tot]
  | cons x t ih =>
    have h1 := ih fun e he => h e (List.mem_cons_of_mem _ he)
    have h2 := h x List.mem_cons_self
    simp only [ahead, tot]
    split <;> omega
theorem ahead_ev (t : Nat) (E : List (Nat × Int)) : ev 1000000 ((begN 1000000 t : Int) - 1000000) E - ev 1000000 (begN 1000000 t) E = ahead (begN 1000000 t) E := by
  induction E with
  | nil => simp [ev, ahead]
  | cons x u ih =>
    have h1 : ((begN 1000000 t : Int) - 1000000 ≤ (begN 1000000 x.1 : Int)) ↔ (begN 1000000 t : Int) - 1000000 ≤ x.1 := by unfold begN; omega
    have h2 : ((begN 1000000 t : Int) ≤ (begN 1000000 x.1 : Int)) ↔ (begN 1000000 t : Int) ≤ x.1 := by unfold begN; omega
    simp only [ev, ahead]
    by_cases a1 : (begN 1000000 t : Int) - 1000000 ≤ x.1 <;> by_cases a2 : (begN 1000000 t : Int) ≤ x.1
    · rw [if_pos (h1.2 a1), if_pos (h2.2 a2), if_neg (by omega)]; omega
    · rw [if_pos (h1.2 a1), if_neg (fun h => a2 (h2.1 h)), if_pos (by omega)]; omega
    · omega
    · rw [if_neg (fun h => a1 (h1.1 h)), if_neg (fun h => a2 (h2.1 h)), if_neg (by omega)]; omega

end Go.Proofs.Ytfpbjkmnipacdaa.SecA
