/- Copies of windows and nodes. -/
import Derived.Test.YtnloedhcginopaaTreMa
import Derived.Test.YtnloedhcginopaaStaI
import Derived.Deep.RegionHeld3
import Derived.Test.YtnloedhcginopaaWinK
import Derived.Test.YtnloedhcginopaaWinD
import Derived.Deep.DeepCutAuto
import Derived.Maps.AppendAt
import Derived.Lib.SliceRun
import Derived.Deep.RegionWith
import Derived.BigQuiet
import Derived.Test.YtnloedhcginopaaOpn
import Derived.Test.YtnloedhcginopaaStaF

/- What Pass, Block and Done do with each node. -/
namespace Go.Proofs.Ytnloedhcginopaa.TreT
set_option linter.unusedVariables false
open Go.ChangeShapes Go.WideShapes Go.ChangeAt Go.RowKit Base Wri Map TreA TreB TreC TreD TreE TreF TreG TreH TreJ TreK TreL TreP TreQ TreR TreS WinM WinA WinB WinC WinD WinE WinF WinG WinH WinI WinN StaA StaB StaC StaD StaI Plu NumC WldG WldF WinJ WinK WinL

def passN (at_ : Nat) (c : Int) (N : Nd) : Nd := ({ N with entries := N.entries + 1 } : Nd).noted at_ ⟨c, 0, 0, 0, 0, 0⟩
def blockN (at_ : Nat) (c : Int) (N : Nd) : Nd := N.noted at_ ⟨0, c, 0, 0, 0, 0⟩
def doneN (at_ : Nat) (rt : Int) (fl : Bool) (N : Nd) : Nd := ({ N with entries := N.entries - 1 } : Nd).noted at_ ⟨0, 0, 1, if fl then 1 else 0, rt, rt⟩

theorem tok1 (c : Int) (h : 1 ≤ c ∧ c ≤ 1099511627776) : tokM (firsts (fun _ => c) 1) = c := by
  have := tok_sum (fun _ => c) 1 (fun _ _ => by unfold badC; simp; omega) (by decide)
  rw [this]
  simp [sumTo]

/-- what a closure leaves of a node -/
def NodeTo (S : Spots) (N' : Nd) (w : World) (e : Ending) (w' : World) : Prop := e = .returned (.tuple #[]) ∧ ∃ S', IsNode w' S' N' ∧ S.Grew S' w.heap.size ∧ Lets S.Has w w'

theorem notedTo {S : Spots} {N' : Nd} {w w1 w' : World} {o : Obj} (h : NodePost S N' (w.alloc o) (.returned (.int .i64 0)) w') : ∃ S', IsNode w' S' N' ∧ S.Grew S' w.heap.size ∧ Lets S.Has w w' := by
  obtain ⟨-, S', h1, h2, h3⟩ := h
  refine ⟨S', h1, ⟨h2.1, h2.2.1, h2.2.2.1, h2.2.2.2.1.imp_right fun ⟨g, q1, q2⟩ => ⟨g, q1, by simp at q2; omega⟩, h2.2.2.2.2.imp_right fun ⟨g, q1, q2⟩ => ⟨g, q1, by simp at q2; omega⟩⟩, ((Lets.refl _ _).alloc _).trans h3⟩

set_option maxHeartbeats 1000000 in
theorem pass2_at (S : Spots) (N : Nd) (last at_ bx : Nat) (c : Int) (w : World) (h : IsNode w S N) (ho : N.Ok last) (hat : at_ ≤ 1152921504606846976) (hb : last ≤ at_) (hc : 1 ≤ c ∧ c ≤ 1099511627776) (hr : N.entries + 1 ≤ 4096)
    (h0 : w.cell? ⟨bx, 0, none⟩ = some (.int .i64 at_)) (h5 : w.cell? ⟨bx, 5, none⟩ = some (.int .i64 c)) :
    Calls Try.prog 35 #[ptr S.n, ptr bx] w (NodeTo S (passN at_ c N) w) := by
  have hbel : Below w.heap.size w (w.alloc (.cells #[.int .i64 c] 3)) := (Below.refl _ _).alloc (Nat.le_refl _) _
  have HA := hid (pass_yes S N last at_ (some ⟨w.heap.size, 0, none⟩) 1 1 (fun _ => c) (w.alloc (.cells #[.int .i64 c] 3)) (h.below hbel) ho hat hb (ints_one w c) (fun _ g o e => by cases e; have := h.lt; omega) (fun _ _ => by unfold badC; simp; omega) (by omega))
  rw [tok1 c hc] at HA
  have hE : (({ N with entries := N.entries + ((1 : Nat) : Int) } : Nd).noted at_ ⟨c, 0, 0, 0, 0, 0⟩) = passN at_ c N := rfl
  rw [hE] at HA
  clear h ho hbel hE
  go_enter Try.func35, Try.ntmps35
  go_wp2_with fail
  refine HA.out.mono ?_
  rintro e w2 hp
  have hp2 := hp
  obtain ⟨rfl, -⟩ := hp2
  have HP := hid (notedTo (w1 := w) hp)
  clear hp
  go_wp2_with fail
  go_end0
  exact ⟨rfl, HP.out⟩

set_option maxHeartbeats 1000000 in
theorem block1_at (S : Spots) (N : Nd) (last at_ bx : Nat) (c : Int) (w : World) (h : IsNode w S N) (ho : N.Ok last) (hat : at_ ≤ 1152921504606846976) (hb : last ≤ at_) (hc : 1 ≤ c ∧ c ≤ 1099511627776)
    (h0 : w.cell? ⟨bx, 0, none⟩ = some (.int .i64 at_)) (h5 : w.cell? ⟨bx, 5, none⟩ = some (.int .i64 c)) :
    Calls Try.prog 36 #[ptr S.n, ptr bx] w (NodeTo S (blockN at_ c N) w) := by
  have hbel : Below w.heap.size w (w.alloc (.cells #[.int .i64 c] 3)) := (Below.refl _ _).alloc (Nat.le_refl _) _
  have HA := hid (block_yes S N last at_ (some ⟨w.heap.size, 0, none⟩) 1 1 (fun _ => c) (w.alloc (.cells #[.int .i64 c] 3)) (h.below hbel) ho hat hb (by decide) (ints_one w c) (fun _ _ => by unfold badC; simp; omega))
  rw [tok1 c hc] at HA
  have hE : (N.noted at_ ⟨0, c, 0, 0, 0, 0⟩) = blockN at_ c N := rfl
  rw [hE] at HA
  clear h ho hbel hE
  go_enter Try.func36, Try.ntmps36
  go_wp2_with fail
  refine HA.out.mono ?_
  rintro e w2 hp
  have hp2 := hp
  obtain ⟨rfl, -⟩ := hp2
  have HP := hid (notedTo (w1 := w) hp)
  clear hp
  go_wp2_with fail
  go_end0
  exact ⟨rfl, HP.out⟩

set_option maxHeartbeats 1000000 in
theorem done2_at (S : Spots) (N : Nd) (last at_ bx b2 b3 : Nat) (rt : Int) (fl : Bool) (w : World) (h : IsNode w S N) (ho : N.Ok last) (hat : at_ ≤ 1152921504606846976) (hb : last ≤ at_) (hrt : 0 ≤ rt ∧ rt ≤ 1152921504606846976) (hne : N.entries ≠ 0)
    (h0 : w.cell? ⟨bx, 0, none⟩ = some (.int .i64 at_)) (h2 : w.cell? ⟨b2, 0, none⟩ = some (.int .i64 rt)) (h3 : w.cell? ⟨b3, 0, none⟩ = some (.bool fl)) :
    Calls Try.prog 40 #[ptr S.n, ptr bx, ptr b2, ptr b3] w (NodeTo S (doneN at_ rt fl N) w) := by
  have HA := hid (done_yes S N last at_ rt fl w h ho hat hb hrt hne)
  have hE : (({ N with entries := N.entries - 1 } : Nd).noted at_ ⟨0, 0, 1, if fl then 1 else 0, rt, rt⟩) = doneN at_ rt fl N := rfl
  rw [hE] at HA
  clear h ho hE hne
  go_enter Try.func40, Try.ntmps40
  go_wp2_with fail
  refine HA.out.mono ?_
  rintro e w2 hp
  have hp2 := hp
  obtain ⟨rfl, -⟩ := hp2
  have HP := hid hp
  clear hp
  go_wp2_with fail
  go_end0
  obtain ⟨-, S', q1, q2, q3⟩ := HP.out
  exact ⟨rfl, S', q1, q2, q3⟩

/-- a node may have this done, and keeps what it must -/
theorem passN_ok {N : Nd} {last at_ : Nat} {c : Int} (h : NK N last) (hb : last ≤ at_) (hc : 1 ≤ c ∧ c ≤ 1099511627776) (hr : N.entries + 1 ≤ 4096) : NK (passN at_ c N) at_ :=
  h.noted hb _ ⟨by have := h.ok.e1; omega, hr⟩ _ (StaC.right_pass _ (by unfold InN; omega))
theorem blockN_ok {N : Nd} {last at_ : Nat} {c : Int} (h : NK N last) (hb : last ≤ at_) (hc : 1 ≤ c ∧ c ≤ 1099511627776) : NK (blockN at_ c N) at_ :=
  h.noted hb N.entries ⟨h.ok.e1, h.ok.e2⟩ _ (StaC.right_block _ (by unfold InN; omega))
theorem doneN_ok {N : Nd} {last at_ : Nat} {rt : Int} {fl : Bool} (h : NK N last) (hb : last ≤ at_) (hrt : 0 ≤ rt ∧ rt ≤ 1152921504606846976) (hne : N.entries ≠ 0) : NK (doneN at_ rt fl N) at_ :=
  h.noted hb _ ⟨by have := h.ok.e1; omega, by have := h.ok.e2; omega⟩ _ (StaC.right_done rt _ hrt (by cases fl; exact .inl rfl; exact .inr rfl))

/-- some keys' nodes are done, of a tree that stood in w2 -/
def Lp (w2 : World) (own1 : Nat → Nat) (p b : Nat) (v1 : Value) (L1 : List Ent) (f : Nat → Key) (g : Nd → Nd) (last at_ k : Nat) (wr : World) : Prop :=
  ∃ own' L', L'.map (fun e => (e.key, e.S.n)) = L1.map (fun e => (e.key, e.S.n)) ∧ L'.map (fun e => (e.key, e.N)) = eachK (firstK f k) g (L1.map fun e => (e.key, e.N)) ∧ (∀ j, j < w2.heap.size → own' j = own1 j) ∧ TMem wr own' p b v1 L' last at_ ∧ Wr (fun j => own1 j ≠ 0) w2 wr

theorem Lp.start {w2 : World} {own1 : Nat → Nat} {p b : Nat} {v1 : Value} {L1 : List Ent} {f : Nat → Key} {g : Nd → Nd} {last at_ : Nat} (h : TMem w2 own1 p b v1 L1 last at_) : Lp w2 own1 p b v1 L1 f g last at_ 0 w2 :=
  ⟨own1, L1, rfl, (eachK_nil _ _).symm, fun _ _ => rfl, h, Wr.refl _ _⟩

theorem Lp.step {w2 wr : World} {own1 : Nat → Nat} {p b : Nat} {v1 : Value} {L1 : List Ent} {f : Nat → Key} {g : Nd → Nd} {last at_ k : Nat} (h : Lp w2 own1 p b v1 L1 f g last at_ k wr) (hk : hasK L1 (f k) = true) (hnew : f k ∉ firstK f k) :
    ∃ (e1 : Ent) (S : Spots) (l : Nat), e1 ∈ L1 ∧ e1.key = f k ∧ IsNode wr S e1.N ∧ nptr L1 (f k) = ptr S.n ∧ NK e1.N l ∧ l ≤ at_ ∧ (∀ j, j < w2.heap.size → own1 j = 0 → ¬ S.Has j) ∧
      ∀ w' S', IsNode w' S' (g e1.N) → S.Grew S' wr.heap.size → Lets S.Has wr w' → NK (g e1.N) at_ → Lp w2 own1 p b v1 L1 f g last at_ (k + 1) w' := by
  obtain ⟨own', L', hm, hs, hag, hT, hw⟩ := h
  obtain ⟨fs1, fs2⟩ := find_same (f k) hm
  obtain ⟨e, he, hek, hp⟩ := nptr_yes (fs1.trans hk)
  obtain ⟨i, hi, hge⟩ := List.getElem_of_mem he
  have hat : L'[i]? = some e := by rw [List.getElem?_eq_getElem hi, hge]
  obtain ⟨n1, ⟨l, n2, n3⟩, n4⟩ := hT.nds i e hat
  have hlen : L'.length = L1.length := by have := congrArg List.length hm; simpa using this
  have hi1 : i < L1.length := by omega
  have hk1 : L1[i].key = e.key := by
    have := congrArg (fun l => l[i]?) hm
    simp only [List.getElem?_map, List.getElem?_eq_getElem hi, List.getElem?_eq_getElem hi1, hge, Option.map_some, Option.some.injEq, Prod.mk.injEq] at this
    exact this.1.symm
  have hN1 : L1[i].N = e.N := by
    have := congrArg (fun l => l[i]?) hs
    unfold eachK at this
    simp only [List.getElem?_map, List.getElem?_eq_getElem hi, List.getElem?_eq_getElem hi1, hge, Option.map_some, Option.some.injEq] at this
    rw [if_neg (by rw [hk1, hek]; exact hnew)] at this
    exact (Prod.mk.inj this).2.symm
  refine ⟨L1[i], e.S, l, List.getElem_mem hi1, hk1.trans hek, by rw [hN1]; exact n1, by rw [← fs2, hp], by rw [hN1]; exact n3, n2, fun j hj h0 hh => ?_, fun w' S' q1 q2 q3 q4 => ?_⟩
  · have h1 := n4 j hh
    have h2 := hag j hj
    omega
  · rw [hN1] at q1 q4
    obtain ⟨own2, a1, a2⟩ := hT.noded hat q1 q2 q3 ⟨at_, Nat.le_refl _, q4⟩
    refine ⟨own2, _, ?_, ?_, ?_, a2, ?_⟩
    · rw [← hm, List.map_set]
      apply List.ext_getElem
      · simp
      · intro j h1 h2
        rw [List.getElem_set]
        split
        · rename_i hij; subst hij; simp [hge, q2.1]
        · rfl
    · rw [firstK_succ, eachK_snoc _ _ _ _ hnew, ← hs, List.map_set]
      have hpw := List.pairwise_iff_getElem.1 hT.nd
      apply List.ext_getElem
      · simp
      · intro j h1 h2
        rw [List.getElem_set]
        simp only [List.getElem_map]
        split
        · rename_i hij
          subst hij
          rw [if_pos (by rw [hge, hek]), hge]
        · rename_i hij
          have hjl : j < L'.length := by simpa using h2
          rw [if_neg]
          intro e4
          have e5 : L'[j].key = L'[i].key := by rw [e4, hge, hek]
          rcases Nat.lt_or_gt_of_ne hij with hl | hl
          · have := hpw i j (by simpa using hi) (by simpa using hjl) hl
            rw [List.getElem_map, List.getElem_map] at this
            exact this e5.symm
          · have := hpw j i (by simpa using hjl) (by simpa using hi) hl
            rw [List.getElem_map, List.getElem_map] at this
            exact this e5
    · intro j hj
      rw [a1 j (Nat.lt_of_lt_of_le hj hw.size)]
      exact hag j hj
    · exact hw.on (lets_wr q3) fun j hj => by
        have h1 := n4 j hj
        by_cases hjl : j < w2.heap.size
        · left
          have := hag j hjl
          omega
        · right; omega

end Go.Proofs.Ytnloedhcginopaa.TreT

/- come: the same is done with all nodes of some keys. -/
namespace Go.Proofs.Ytnloedhcginopaa.TreV
set_option linter.unusedVariables false
open Go.ChangeShapes Go.WideShapes Go.ChangeAt Go.RowKit Base Wri Map TreA TreB TreC TreD TreE TreF TreG TreH TreJ TreK TreL TreP TreQ TreR TreS TreT WinM WinA WinB WinC WinD WinE WinF WinG WinH WinI WinN StaA StaB StaC

theorem nodesL_get {L : List Ent} {f : Nat → Key} : ∀ {n : Nat}, (∀ i, i < n → hasK L (f i) = true) → (nodesL L f n).length = n ∧ ∀ i, i < n → (nodesL L f n)[i]? = some (nptr L (f i)) := by
  intro n
  induction n with
  | zero => intro _; exact ⟨rfl, fun i hi => by omega⟩
  | succ n ih =>
    intro h
    obtain ⟨h1, h2⟩ := ih fun i hi => h i (by omega)
    rw [nodesL_yes (h n (by omega))]
    refine ⟨by simp [h1], fun i hi => ?_⟩
    by_cases e : i = n
    · subst e
      rw [List.getElem?_append_right (by omega), h1]
      simp
    · rw [List.getElem?_append_left (by omega)]
      exact h2 i (by omega)

theorem row1_at {w : World} {B : Nat} {T : TypeId} {v : Value} {n : Nat} {xs : List Value} (h : w.ownsRow B T 1 v n xs) (hn : 0 < n) : ∃ g c, v = .slice (some ⟨g, 0, none⟩) n c ∧ B ≤ g ∧ g < w.heap.size ∧ ∀ i u, xs[i]? = some u → w.cell? ⟨g, i, none⟩ = some u := by
  rcases h.2 with ⟨rfl, hz⟩ | ⟨g, cap, cur, rfl, hg, hgb, _⟩
  · omega
  · refine ⟨g, cap, rfl, hg, (Array.getElem?_eq_some_iff.1 hgb).1, fun i u hu => ?_⟩
    have := World.ownsRow.cells h (g := g) rfl i u hu
    rwa [Go.WideShapes.add_plain, Nat.zero_add] at this

theorem app_map (L G : List Ent) (K : List Key) (hG : ∀ y ∈ G, y.N = Nd.new) (hk : G.map (·.key) = K) : (L ++ G).map (fun e => (e.key, e.N)) = L.map (fun e => (e.key, e.N)) ++ K.map fun x => (x, Nd.new) := by
  subst hk
  rw [List.map_append, List.map_map]
  congr 1
  exact List.map_congr_left fun e he => by simp [hG e he]

/-- what come comes to -/
def ComePost (own : Nat → Nat) (p b : Nat) (L : List Ent) (at_ : Nat) (l : List Key) (g : Nd → Nd) (w : World) (e : Ending) (w' : World) : Prop :=
  (512 < L.length + (news (L.map (·.key)) l).length ∧ e = .returned (.int .i64 3) ∧ Below w.heap.size w w') ∨
  (L.length + (news (L.map (·.key)) l).length ≤ 512 ∧ e = .returned (.int .i64 0) ∧ ∃ own' v' L', L'.map (fun e => (e.key, e.N)) = eachK l g (L.map (fun e => (e.key, e.N)) ++ (news (L.map (·.key)) l).map fun x => (x, Nd.new)) ∧ (∀ k, k < w.heap.size → own' k = own k) ∧ TMem w' own' p b v' L' at_ at_ ∧ Wr (fun k => own k ≠ 0) w w')

set_option maxRecDepth 20000 in
set_option maxHeartbeats 4000000 in
theorem come_pass (p b : Nat) (v : Value) (L : List Ent) (last at_ : Nat) (own : Nat → Nat) (a : Option Addr) (n cap : Nat) (f : Nat → Key) (g : Nd → Nd) (Q : Nd → Prop) (bx : Nat) (w : World) (hn0 : 0 < n) (hn : n ≤ 1000) (hf : ∀ i, i < n → (f i).Fit) (hnd : (firstK f n).Nodup) (hk : KAt w a n f) (ha0 : ∀ g o, a = some ⟨g, o, none⟩ → own g = 0) (hT : TMem w own p b v L last at_)
    (hQ : ∀ e ∈ L, e.key ∈ firstK f n → Q e.N) (hQ0 : Q Nd.new ∨ ∀ x ∈ firstK f n, x ∈ L.map (·.key))
    (HC : Hid (∀ wr S N l, Wr (fun j => own j ≠ 0) w wr → (∀ j, j < w.heap.size → own j = 0 → ¬ S.Has j) → IsNode wr S N → NK N l → l ≤ at_ → Q N → NK (g N) at_ ∧ Calls Try.prog 35 #[ptr S.n, ptr bx] wr (NodeTo S (g N) wr))) :
    Calls Try.prog 34 #[ptr p, .int .i64 at_, .slice a n cap, .func (Fn.func 35) #[] #[ptr bx]] w (ComePost own p b L at_ (firstK f n) g w) := by
  have HGrow := hid (grow_any p b v L last at_ own a n cap f w (by omega) hf hk hT)
  have HH := hid (And.intro hf (And.intro hk (And.intro hT ha0)))
  have HN := hid hnd
  have HQ := hid (And.intro hQ hQ0)
  clear hf hk hT hnd hQ hQ0 ha0
  go_enter Try.func34, Try.ntmps34
  go_wp2_with fail
  refine HGrow.out.mono ?_
  rintro e w1 (⟨hfull, rfl, hb⟩ | ⟨hroom, rfl, own1, v1, G, hGk, hGN, hag, hT1, hw1⟩)
  · have HF := hid (And.intro hfull hb)
    clear hfull hb
    go_wp2_with fail
    go_ret
    exact .inl ⟨HF.out.1, rfl, HF.out.2⟩
  · obtain ⟨hf, hk, hT, ha0⟩ := HH.out
    have hkw : KAt w1 a n f := fun h0 => by
      obtain ⟨g0, o0, e0, hg0, hc0⟩ := hk h0
      have hc : ∀ o, w1.cell? ⟨g0, o, none⟩ = w.cell? ⟨g0, o, none⟩ := fun o => hw1.cell o hg0 (fun h => h (ha0 g0 o0 e0))
      exact ⟨g0, o0, e0, Nat.lt_of_lt_of_le hg0 hw1.size, fun i hi => ⟨(hc _).trans (hc0 i hi).1, (hc _).trans (hc0 i hi).2.1, (hc _).trans (hc0 i hi).2.2.1, (hc _).trans (hc0 i hi).2.2.2⟩⟩
    have hall : ∀ i, i < n → hasK (L ++ G) (f i) = true := fun i hi => hasK_iff.2 (by
      rw [List.map_append, hGk, List.mem_append, news_mem]
      have hin : f i ∈ firstK f n := List.mem_map.2 ⟨i, List.mem_range.2 hi, rfl⟩
      by_cases h : f i ∈ L.map (·.key)
      · exact .inl h
      · exact .inr ⟨hin, h⟩)
    obtain ⟨hlen, hget⟩ := nodesL_get hall
    have HNo := hid (nodesOf_any p b a n cap f (L ++ G) w1 (by omega) hf hkw hT1.cells.1 hT1.map)
    have HL := hid (And.intro hlen (And.intro hget hall))
    have HR := hid (And.intro hroom (And.intro hGk (And.intro hGN (And.intro hag (And.intro hT1 hw1)))))
    clear hroom hGk hGN hag hT1 hw1 hlen hget hall hkw hf hk hT ha0
    go_wp2_with fail
    refine HNo.out.mono ?_
    rintro e w2 ⟨⟨vn, rfl, hrow⟩, hb2⟩
    rw [HL.out.1] at hrow
    obtain ⟨gn, cn, rfl, hgn, hgl, hcell⟩ := row1_at hrow hn0
    obtain ⟨-, hGk, hGN, hag, hT1, hw1⟩ := HR.out
    have hT2 := hT1.below hb2
    have hgn0 : own1 gn = 0 := by
      rcases Nat.eq_zero_or_pos (own1 gn) with e | e
      · exact e
      · exact absurd (hT1.old gn (by omega)) (by omega)
    have HStart := hid (Lp.start (f := f) (g := g) hT2)
    have HW : Hid (∀ wr, Wr (fun j => own1 j ≠ 0) w2 wr → Wr (fun j => own j ≠ 0) w wr) := hid fun wr hw => (hw1.on (Wr.ofBelow (R := fun _ => False) hb2) (fun k e => e.elim)).on hw fun j hj => by
      by_cases h : j < w.heap.size
      · exact .inl (by rw [← hag j h]; exact hj)
      · exact .inr (by omega)
    have HFar : Hid (∀ j, j < w.heap.size → own j = 0 → j < w2.heap.size ∧ own1 j = 0) := hid fun j hj h0 => ⟨by have := hw1.size; have := hb2.size; omega, by rw [hag j hj]; exact h0⟩
    have HCell : Hid (gn < w2.heap.size ∧ own1 gn = 0 ∧ ∀ i, i < n → w2.cell? ⟨gn, i, none⟩ = some (nptr (L ++ G) (f i))) := hid ⟨hgl, hgn0, fun i hi => hcell i _ (HL.out.2.1 i hi)⟩
    clear hrow hb2 hgn hgl hcell hGk hGN hag hT1 hw1 hT2 hgn0
    go_wp2_with fail
    go_loopw [26] (fun i wr => ∃ k : Nat, k ≤ n ∧ i = .int .i64 k ∧ Lp w2 own1 p b v1 (L ++ G) f g last at_ k wr) (fun i _ => n - (intOf i).toNat)
    case atStart => exact ⟨0, Nat.zero_le _, rfl, HStart.out⟩
    case round =>
      obtain ⟨k, hk, rfl, hlp⟩ := hrel
      have HLp := hid hlp
      clear hlp
      by_cases hlt : k < n
      · have hnew : f k ∉ firstK f k := fun h => by
          have hnd := HN.out
          obtain ⟨r, hr⟩ := firstK_split f (show k + 1 ≤ n from hlt)
          rw [hr, firstK_succ, List.append_assoc, List.nodup_append] at hnd
          exact hnd.2.2 _ h _ (by simp) rfl
        obtain ⟨e1, S, l, he1, hek, hI, hp, hK, hle, hfar, hstep⟩ := HLp.out.step (HL.out.2.2 k hlt) hnew
        have hwr : Wr (fun j => own1 j ≠ 0) w2 wr := by obtain ⟨_, _, _, _, _, _, h⟩ := HLp.out; exact h
        have hQ1 : Q e1.N := by
          rcases List.mem_append.1 he1 with h | h
          · exact HQ.out.1 e1 h (by rw [hek]; exact List.mem_map.2 ⟨k, List.mem_range.2 hlt, rfl⟩)
          · rw [HR.out.2.2.1 e1 h]
            rcases HQ.out.2 with h2 | h2
            · exact h2
            · exfalso
              have h3 := (news_mem _ _ _).1 (by rw [← HR.out.2.1]; exact List.mem_map.2 ⟨e1, h, rfl⟩)
              exact h3.2 (h2 _ h3.1)
        obtain ⟨hN, hcall⟩ := HC.out wr S e1.N l (HW.out wr hwr) (fun j hj h0 => hfar j (HFar.out j hj h0).1 (HFar.out j hj h0).2) hI hK hle hQ1
        have c0 : wr.cell? ⟨gn, k, none⟩ = some (ptr S.n) := by rw [hwr.cell k HCell.out.1 (fun h => h HCell.out.2.1), HCell.out.2.2 k hlt, hp]
        have HCall := hid hcall
        have HSt := hid (And.intro hN hstep)
        clear hnew he1 hek hI hp hK hle hfar hstep hwr hQ1 hN hcall HLp
        have hki : (k : Int) < n := by omega
        have hki0 : (0 : Int) ≤ k := by omega
        generalize hsn : S.n = sn at *
        go_wp2_with fail
        refine HCall.out.mono ?_
        rintro e w3 ⟨rfl, S', q1, q2, q3⟩
        have HLp := hid (HSt.out.2 w3 S' q1 q2 q3 HSt.out.1)
        clear q1 q2 q3
        go_wp2_with fail
        go_roundw
        case rel => exact ⟨k + 1, hlt, by go_num, HLp.out⟩
        case measure => simp [intOf]; omega
      · obtain rfl : k = n := by omega
        obtain ⟨own', L', hm, hs, hag2, hT3, hw3⟩ := HLp.out
        obtain ⟨-, -, j2, jf⟩ := hT3.cells
        have jf2 := jf 2
        have HE := hid (And.intro hm (And.intro hs (And.intro hag2 (And.intro hT3 hw3))))
        clear hm hs hag2 hT3 hw3 jf
        go_wp2_with fail
        go_ret
        obtain ⟨hm, hs, hag2, hT3, hw3⟩ := HE.out
        obtain ⟨hroom, hGk, hGN, hag, hT1, hw1⟩ := HR.out
        have hsz : w.heap.size ≤ w2.heap.size := by
          rcases Nat.lt_or_ge w2.heap.size w.heap.size with h | h
          · have := (HW.out w2 (Wr.refl _ _)).size; omega
          · exact h
        refine .inr ⟨hroom, rfl, own', v1, L', ?_, fun j hj => (hag2 j (by omega)).trans (hag j hj), hT3.timed at_, ?_⟩
        · rw [hs, app_map L G _ hGN hGk]
        · exact (HW.out wr hw3).on (Wr.set (R := fun k => k = p) _ _ rfl) fun j hj => .inl (by rw [hj, ← hag p (by have := HH.out.2.2.1.lt; exact this), hT1.op]; decide)

set_option maxRecDepth 20000 in
set_option maxHeartbeats 4000000 in
theorem come_block (p b : Nat) (v : Value) (L : List Ent) (last at_ : Nat) (own : Nat → Nat) (a : Option Addr) (n cap : Nat) (f : Nat → Key) (g : Nd → Nd) (Q : Nd → Prop) (bx : Nat) (w : World) (hn0 : 0 < n) (hn : n ≤ 1000) (hf : ∀ i, i < n → (f i).Fit) (hnd : (firstK f n).Nodup) (hk : KAt w a n f) (ha0 : ∀ g o, a = some ⟨g, o, none⟩ → own g = 0) (hT : TMem w own p b v L last at_)
    (hQ : ∀ e ∈ L, e.key ∈ firstK f n → Q e.N) (hQ0 : Q Nd.new ∨ ∀ x ∈ firstK f n, x ∈ L.map (·.key))
    (HC : Hid (∀ wr S N l, Wr (fun j => own j ≠ 0) w wr → (∀ j, j < w.heap.size → own j = 0 → ¬ S.Has j) → IsNode wr S N → NK N l → l ≤ at_ → Q N → NK (g N) at_ ∧ Calls Try.prog 36 #[ptr S.n, ptr bx] wr (NodeTo S (g N) wr))) :
    Calls Try.prog 34 #[ptr p, .int .i64 at_, .slice a n cap, .func (Fn.func 36) #[] #[ptr bx]] w (ComePost own p b L at_ (firstK f n) g w) := by
  have HGrow := hid (grow_any p b v L last at_ own a n cap f w (by omega) hf hk hT)
  have HH := hid (And.intro hf (And.intro hk (And.intro hT ha0)))
  have HN := hid hnd
  have HQ := hid (And.intro hQ hQ0)
  clear hf hk hT hnd hQ hQ0 ha0
  go_enter Try.func34, Try.ntmps34
  go_wp2_with fail
  refine HGrow.out.mono ?_
  rintro e w1 (⟨hfull, rfl, hb⟩ | ⟨hroom, rfl, own1, v1, G, hGk, hGN, hag, hT1, hw1⟩)
  · have HF := hid (And.intro hfull hb)
    clear hfull hb
    go_wp2_with fail
    go_ret
    exact .inl ⟨HF.out.1, rfl, HF.out.2⟩
  · obtain ⟨hf, hk, hT, ha0⟩ := HH.out
    have hkw : KAt w1 a n f := fun h0 => by
      obtain ⟨g0, o0, e0, hg0, hc0⟩ := hk h0
      have hc : ∀ o, w1.cell? ⟨g0, o, none⟩ = w.cell? ⟨g0, o, none⟩ := fun o => hw1.cell o hg0 (fun h => h (ha0 g0 o0 e0))
      exact ⟨g0, o0, e0, Nat.lt_of_lt_of_le hg0 hw1.size, fun i hi => ⟨(hc _).trans (hc0 i hi).1, (hc _).trans (hc0 i hi).2.1, (hc _).trans (hc0 i hi).2.2.1, (hc _).trans (hc0 i hi).2.2.2⟩⟩
    have hall : ∀ i, i < n → hasK (L ++ G) (f i) = true := fun i hi => hasK_iff.2 (by
      rw [List.map_append, hGk, List.mem_append, news_mem]
      have hin : f i ∈ firstK f n := List.mem_map.2 ⟨i, List.mem_range.2 hi, rfl⟩
      by_cases h : f i ∈ L.map (·.key)
      · exact .inl h
      · exact .inr ⟨hin, h⟩)
    obtain ⟨hlen, hget⟩ := nodesL_get hall
    have HNo := hid (nodesOf_any p b a n cap f (L ++ G) w1 (by omega) hf hkw hT1.cells.1 hT1.map)
    have HL := hid (And.intro hlen (And.intro hget hall))
    have HR := hid (And.intro hroom (And.intro hGk (And.intro hGN (And.intro hag (And.intro hT1 hw1)))))
    clear hroom hGk hGN hag hT1 hw1 hlen hget hall hkw hf hk hT ha0
    go_wp2_with fail
    refine HNo.out.mono ?_
    rintro e w2 ⟨⟨vn, rfl, hrow⟩, hb2⟩
    rw [HL.out.1] at hrow
    obtain ⟨gn, cn, rfl, hgn, hgl, hcell⟩ := row1_at hrow hn0
    obtain ⟨-, hGk, hGN, hag, hT1, hw1⟩ := HR.out
    have hT2 := hT1.below hb2
    have hgn0 : own1 gn = 0 := by
      rcases Nat.eq_zero_or_pos (own1 gn) with e | e
      · exact e
      · exact absurd (hT1.old gn (by omega)) (by omega)
    have HStart := hid (Lp.start (f := f) (g := g) hT2)
    have HW : Hid (∀ wr, Wr (fun j => own1 j ≠ 0) w2 wr → Wr (fun j => own j ≠ 0) w wr) := hid fun wr hw => (hw1.on (Wr.ofBelow (R := fun _ => False) hb2) (fun k e => e.elim)).on hw fun j hj => by
      by_cases h : j < w.heap.size
      · exact .inl (by rw [← hag j h]; exact hj)
      · exact .inr (by omega)
    have HFar : Hid (∀ j, j < w.heap.size → own j = 0 → j < w2.heap.size ∧ own1 j = 0) := hid fun j hj h0 => ⟨by have := hw1.size; have := hb2.size; omega, by rw [hag j hj]; exact h0⟩
    have HCell : Hid (gn < w2.heap.size ∧ own1 gn = 0 ∧ ∀ i, i < n → w2.cell? ⟨gn, i, none⟩ = some (nptr (L ++ G) (f i))) := hid ⟨hgl, hgn0, fun i hi => hcell i _ (HL.out.2.1 i hi)⟩
    clear hrow hb2 hgn hgl hcell hGk hGN hag hT1 hw1 hT2 hgn0
    go_wp2_with fail
    go_loopw [26] (fun i wr => ∃ k : Nat, k ≤ n ∧ i = .int .i64 k ∧ Lp w2 own1 p b v1 (L ++ G) f g last at_ k wr) (fun i _ => n - (intOf i).toNat)
    case atStart => exact ⟨0, Nat.zero_le _, rfl, HStart.out⟩
    case round =>
      obtain ⟨k, hk, rfl, hlp⟩ := hrel
      have HLp := hid hlp
      clear hlp
      by_cases hlt : k < n
      · have hnew : f k ∉ firstK f k := fun h => by
          have hnd := HN.out
          obtain ⟨r, hr⟩ := firstK_split f (show k + 1 ≤ n from hlt)
          rw [hr, firstK_succ, List.append_assoc, List.nodup_append] at hnd
          exact hnd.2.2 _ h _ (by simp) rfl
        obtain ⟨e1, S, l, he1, hek, hI, hp, hK, hle, hfar, hstep⟩ := HLp.out.step (HL.out.2.2 k hlt) hnew
        have hwr : Wr (fun j => own1 j ≠ 0) w2 wr := by obtain ⟨_, _, _, _, _, _, h⟩ := HLp.out; exact h
        have hQ1 : Q e1.N := by
          rcases List.mem_append.1 he1 with h | h
          · exact HQ.out.1 e1 h (by rw [hek]; exact List.mem_map.2 ⟨k, List.mem_range.2 hlt, rfl⟩)
          · rw [HR.out.2.2.1 e1 h]
            rcases HQ.out.2 with h2 | h2
            · exact h2
            · exfalso
              have h3 := (news_mem _ _ _).1 (by rw [← HR.out.2.1]; exact List.mem_map.2 ⟨e1, h, rfl⟩)
              exact h3.2 (h2 _ h3.1)
        obtain ⟨hN, hcall⟩ := HC.out wr S e1.N l (HW.out wr hwr) (fun j hj h0 => hfar j (HFar.out j hj h0).1 (HFar.out j hj h0).2) hI hK hle hQ1
        have c0 : wr.cell? ⟨gn, k, none⟩ = some (ptr S.n) := by rw [hwr.cell k HCell.out.1 (fun h => h HCell.out.2.1), HCell.out.2.2 k hlt, hp]
        have HCall := hid hcall
        have HSt := hid (And.intro hN hstep)
        clear hnew he1 hek hI hp hK hle hfar hstep hwr hQ1 hN hcall HLp
        have hki : (k : Int) < n := by omega
        have hki0 : (0 : Int) ≤ k := by omega
        generalize hsn : S.n = sn at *
        go_wp2_with fail
        refine HCall.out.mono ?_
        rintro e w3 ⟨rfl, S', q1, q2, q3⟩
        have HLp := hid (HSt.out.2 w3 S' q1 q2 q3 HSt.out.1)
        clear q1 q2 q3
        go_wp2_with fail
        go_roundw
        case rel => exact ⟨k + 1, hlt, by go_num, HLp.out⟩
        case measure => simp [intOf]; omega
      · obtain rfl : k = n := by omega
        obtain ⟨own', L', hm, hs, hag2, hT3, hw3⟩ := HLp.out
        obtain ⟨-, -, j2, jf⟩ := hT3.cells
        have jf2 := jf 2
        have HE := hid (And.intro hm (And.intro hs (And.intro hag2 (And.intro hT3 hw3))))
        clear hm hs hag2 hT3 hw3 jf
        go_wp2_with fail
        go_ret
        obtain ⟨hm, hs, hag2, hT3, hw3⟩ := HE.out
        obtain ⟨hroom, hGk, hGN, hag, hT1, hw1⟩ := HR.out
        have hsz : w.heap.size ≤ w2.heap.size := by
          rcases Nat.lt_or_ge w2.heap.size w.heap.size with h | h
          · have := (HW.out w2 (Wr.refl _ _)).size; omega
          · exact h
        refine .inr ⟨hroom, rfl, own', v1, L', ?_, fun j hj => (hag2 j (by omega)).trans (hag j hj), hT3.timed at_, ?_⟩
        · rw [hs, app_map L G _ hGN hGk]
        · exact (HW.out wr hw3).on (Wr.set (R := fun k => k = p) _ _ rfl) fun j hj => .inl (by rw [hj, ← hag p (by have := HH.out.2.2.1.lt; exact this), hT1.op]; decide)

set_option maxRecDepth 20000 in
set_option maxHeartbeats 4000000 in
theorem come_done (p b : Nat) (v : Value) (L : List Ent) (last at_ : Nat) (own : Nat → Nat) (a : Option Addr) (n cap : Nat) (f : Nat → Key) (g : Nd → Nd) (Q : Nd → Prop) (bx b2 b3 : Nat) (w : World) (hn0 : 0 < n) (hn : n ≤ 1000) (hf : ∀ i, i < n → (f i).Fit) (hnd : (firstK f n).Nodup) (hk : KAt w a n f) (ha0 : ∀ g o, a = some ⟨g, o, none⟩ → own g = 0) (hT : TMem w own p b v L last at_)
    (hQ : ∀ e ∈ L, e.key ∈ firstK f n → Q e.N) (hQ0 : Q Nd.new ∨ ∀ x ∈ firstK f n, x ∈ L.map (·.key))
    (HC : Hid (∀ wr S N l, Wr (fun j => own j ≠ 0) w wr → (∀ j, j < w.heap.size → own j = 0 → ¬ S.Has j) → IsNode wr S N → NK N l → l ≤ at_ → Q N → NK (g N) at_ ∧ Calls Try.prog 40 #[ptr S.n, ptr bx, ptr b2, ptr b3] wr (NodeTo S (g N) wr))) :
    Calls Try.prog 34 #[ptr p, .int .i64 at_, .slice a n cap, .func (Fn.func 40) #[] #[ptr bx, ptr b2, ptr b3]] w (ComePost own p b L at_ (firstK f n) g w) := by
  have HGrow := hid (grow_any p b v L last at_ own a n cap f w (by omega) hf hk hT)
  have HH := hid (And.intro hf (And.intro hk (And.intro hT ha0)))
  have HN := hid hnd
  have HQ := hid (And.intro hQ hQ0)
  clear hf hk hT hnd hQ hQ0 ha0
  go_enter Try.func34, Try.ntmps34
  go_wp2_with fail
  refine HGrow.out.mono ?_
  rintro e w1 (⟨hfull, rfl, hb⟩ | ⟨hroom, rfl, own1, v1, G, hGk, hGN, hag, hT1, hw1⟩)
  · have HF := hid (And.intro hfull hb)
    clear hfull hb
    go_wp2_with fail
    go_ret
    exact .inl ⟨HF.out.1, rfl, HF.out.2⟩
  · obtain ⟨hf, hk, hT, ha0⟩ := HH.out
    have hkw : KAt w1 a n f := fun h0 => by
      obtain ⟨g0, o0, e0, hg0, hc0⟩ := hk h0
      have hc : ∀ o, w1.cell? ⟨g0, o, none⟩ = w.cell? ⟨g0, o, none⟩ := fun o => hw1.cell o hg0 (fun h => h (ha0 g0 o0 e0))
      exact ⟨g0, o0, e0, Nat.lt_of_lt_of_le hg0 hw1.size, fun i hi => ⟨(hc _).trans (hc0 i hi).1, (hc _).trans (hc0 i hi).2.1, (hc _).trans (hc0 i hi).2.2.1, (hc _).trans (hc0 i hi).2.2.2⟩⟩
    have hall : ∀ i, i < n → hasK (L ++ G) (f i) = true := fun i hi => hasK_iff.2 (by
      rw [List.map_append, hGk, List.mem_append, news_mem]
      have hin : f i ∈ firstK f n := List.mem_map.2 ⟨i, List.mem_range.2 hi, rfl⟩
      by_cases h : f i ∈ L.map (·.key)
      · exact .inl h
      · exact .inr ⟨hin, h⟩)
    obtain ⟨hlen, hget⟩ := nodesL_get hall
    have HNo := hid (nodesOf_any p b a n cap f (L ++ G) w1 (by omega) hf hkw hT1.cells.1 hT1.map)
    have HL := hid (And.intro hlen (And.intro hget hall))
    have HR := hid (And.intro hroom (And.intro hGk (And.intro hGN (And.intro hag (And.intro hT1 hw1)))))
    clear hroom hGk hGN hag hT1 hw1 hlen hget hall hkw hf hk hT ha0
    go_wp2_with fail
    refine HNo.out.mono ?_
    rintro e w2 ⟨⟨vn, rfl, hrow⟩, hb2⟩
    rw [HL.out.1] at hrow
    obtain ⟨gn, cn, rfl, hgn, hgl, hcell⟩ := row1_at hrow hn0
    obtain ⟨-, hGk, hGN, hag, hT1, hw1⟩ := HR.out
    have hT2 := hT1.below hb2
    have hgn0 : own1 gn = 0 := by
      rcases Nat.eq_zero_or_pos (own1 gn) with e | e
      · exact e
      · exact absurd (hT1.old gn (by omega)) (by omega)
    have HStart := hid (Lp.start (f := f) (g := g) hT2)
    have HW : Hid (∀ wr, Wr (fun j => own1 j ≠ 0) w2 wr → Wr (fun j => own j ≠ 0) w wr) := hid fun wr hw => (hw1.on (Wr.ofBelow (R := fun _ => False) hb2) (fun k e => e.elim)).on hw fun j hj => by
      by_cases h : j < w.heap.size
      · exact .inl (by rw [← hag j h]; exact hj)
      · exact .inr (by omega)
    have HFar : Hid (∀ j, j < w.heap.size → own j = 0 → j < w2.heap.size ∧ own1 j = 0) := hid fun j hj h0 => ⟨by have := hw1.size; have := hb2.size; omega, by rw [hag j hj]; exact h0⟩
    have HCell : Hid (gn < w2.heap.size ∧ own1 gn = 0 ∧ ∀ i, i < n → w2.cell? ⟨gn, i, none⟩ = some (nptr (L ++ G) (f i))) := hid ⟨hgl, hgn0, fun i hi => hcell i _ (HL.out.2.1 i hi)⟩
    clear hrow hb2 hgn hgl hcell hGk hGN hag hT1 hw1 hT2 hgn0
    go_wp2_with fail
    go_loopw [26] (fun i wr => ∃ k : Nat, k ≤ n ∧ i = .int .i64 k ∧ Lp w2 own1 p b v1 (L ++ G) f g last at_ k wr) (fun i _ => n - (intOf i).toNat)
    case atStart => exact ⟨0, Nat.zero_le _, rfl, HStart.out⟩
    case round =>
      obtain ⟨k, hk, rfl, hlp⟩ := hrel
      have HLp := hid hlp
      clear hlp
      by_cases hlt : k < n
      · have hnew : f k ∉ firstK f k := fun h => by
          have hnd := HN.out
          obtain ⟨r, hr⟩ := firstK_split f (show k + 1 ≤ n from hlt)
          rw [hr, firstK_succ, List.append_assoc, List.nodup_append] at hnd
          exact hnd.2.2 _ h _ (by simp) rfl
        obtain ⟨e1, S, l, he1, hek, hI, hp, hK, hle, hfar, hstep⟩ := HLp.out.step (HL.out.2.2 k hlt) hnew
        have hwr : Wr (fun j => own1 j ≠ 0) w2 wr := by obtain ⟨_, _, _, _, _, _, h⟩ := HLp.out; exact h
        have hQ1 : Q e1.N := by
          rcases List.mem_append.1 he1 with h | h
          · exact HQ.out.1 e1 h (by rw [hek]; exact List.mem_map.2 ⟨k, List.mem_range.2 hlt, rfl⟩)
          · rw [HR.out.2.2.1 e1 h]
            rcases HQ.out.2 with h2 | h2
            · exact h2
            · exfalso
              have h3 := (news_mem _ _ _).1 (by rw [← HR.out.2.1]; exact List.mem_map.2 ⟨e1, h, rfl⟩)
              exact h3.2 (h2 _ h3.1)
        obtain ⟨hN, hcall⟩ := HC.out wr S e1.N l (HW.out wr hwr) (fun j hj h0 => hfar j (HFar.out j hj h0).1 (HFar.out j hj h0).2) hI hK hle hQ1
        have c0 : wr.cell? ⟨gn, k, none⟩ = some (ptr S.n) := by rw [hwr.cell k HCell.out.1 (fun h => h HCell.out.2.1), HCell.out.2.2 k hlt, hp]
        have HCall := hid hcall
        have HSt := hid (And.intro hN hstep)
        clear hnew he1 hek hI hp hK hle hfar hstep hwr hQ1 hN hcall HLp
        have hki : (k : Int) < n := by omega
        have hki0 : (0 : Int) ≤ k := by omega
        generalize hsn : S.n = sn at *
        go_wp2_with fail
        refine HCall.out.mono ?_
        rintro e w3 ⟨rfl, S', q1, q2, q3⟩
        have HLp := hid (HSt.out.2 w3 S' q1 q2 q3 HSt.out.1)
        clear q1 q2 q3
        go_wp2_with fail
        go_roundw
        case rel => exact ⟨k + 1, hlt, by go_num, HLp.out⟩
        case measure => simp [intOf]; omega
      · obtain rfl : k = n := by omega
        obtain ⟨own', L', hm, hs, hag2, hT3, hw3⟩ := HLp.out
        obtain ⟨-, -, j2, jf⟩ := hT3.cells
        have jf2 := jf 2
        have HE := hid (And.intro hm (And.intro hs (And.intro hag2 (And.intro hT3 hw3))))
        clear hm hs hag2 hT3 hw3 jf
        go_wp2_with fail
        go_ret
        obtain ⟨hm, hs, hag2, hT3, hw3⟩ := HE.out
        obtain ⟨hroom, hGk, hGN, hag, hT1, hw1⟩ := HR.out
        have hsz : w.heap.size ≤ w2.heap.size := by
          rcases Nat.lt_or_ge w2.heap.size w.heap.size with h | h
          · have := (HW.out w2 (Wr.refl _ _)).size; omega
          · exact h
        refine .inr ⟨hroom, rfl, own', v1, L', ?_, fun j hj => (hag2 j (by omega)).trans (hag j hj), hT3.timed at_, ?_⟩
        · rw [hs, app_map L G _ hGN hGk]
        · exact (HW.out wr hw3).on (Wr.set (R := fun k => k = p) _ _ rfl) fun j hj => .inl (by rw [hj, ← hag p (by have := HH.out.2.2.1.lt; exact this), hT1.op]; decide)

end Go.Proofs.Ytnloedhcginopaa.TreV

/- takes: the keys of a call, if it may be noted; the tree's calls, pure. -/
namespace Go.Proofs.Ytnloedhcginopaa.TreW
set_option linter.unusedVariables false
open Go.ChangeShapes Go.WideShapes Go.ChangeAt Go.RowKit Base Wri Map TreA TreB TreC TreD TreE TreF TreG TreH TreJ TreK TreL TreP TreQ TreR TreS TreT TreV WinM WinA WinB WinC WinD WinE WinF WinG WinH WinI WinN StaA StaB StaC

/-- a call -/
structure Cl where
  t : Int
  r : ByteArray
  c : ByteArray
  o : ByteArray
  inb : Bool
  cnt : Int
structure Cl.Fit (x : Cl) : Prop where
  r : x.r.size ≤ maxLen
  c : x.c.size ≤ maxLen
  o : x.o.size ≤ maxLen
def Cl.keys (x : Cl) : List Key := keysOf x.c x.r x.o x.inb
def Cl.ok (x : Cl) : Bool := okNames x.r x.c x.o
abbrev Cl.val (x : Cl) (ca : Option Addr) (cn cc : Nat) : Value := .agg #[.int .i64 x.t, .string x.r, .string x.c, .string x.o, .bool x.inb, .int .i64 x.cnt, .slice ca cn cc]
abbrev Cl.cells (x : Cl) (ca : Option Addr) (cn cc : Nat) : Array Value := #[.int .i64 x.t, .string x.r, .string x.c, .string x.o, .bool x.inb, .int .i64 x.cnt, .slice ca cn cc]

theorem Cl.keys_fit {x : Cl} (h : x.Fit) : ∀ y ∈ x.keys, y.Fit := by
  intro y hy
  have h0 : (emp : ByteArray).size ≤ maxLen := by unfold maxLen; decide
  unfold Cl.keys keysOf at hy
  simp only [List.mem_append, List.mem_cons, List.not_mem_nil, or_false] at hy
  rcases hy with ((((rfl | rfl) | hy) | rfl) | hy)
  · exact ⟨by simp, h.c, h.r, h0⟩
  · exact ⟨by simp, h0, h.r, h0⟩
  · by_cases ho : x.o = emp
    · simp [ho] at hy
    · rw [if_neg ho] at hy
      obtain rfl := List.mem_singleton.1 hy
      exact ⟨by simp, h0, h.r, h.o⟩
  · exact ⟨by simp, h.c, h0, h0⟩
  · cases hb : x.inb
    · simp [hb] at hy
    · rw [hb, if_pos rfl] at hy
      obtain rfl := List.mem_singleton.1 hy
      exact ⟨by decide, h0, h0, h0⟩
theorem Cl.keys_len (x : Cl) : 0 < x.keys.length ∧ x.keys.length ≤ 5 := by
  unfold Cl.keys keysOf
  by_cases ho : x.o = emp <;> cases x.inb <;> simp [ho]
theorem Cl.keys_nodup (x : Cl) : x.keys.Nodup := keysOf_nodup _ _ _ _

def takesR (ok m : Bool) (ref : Int) : Int := if ok then (if m then ref else 2) else 10
def callE (s : St) (x : Cl) (m : Bool) : Int := takesR x.ok m (refR s.last x.t)

theorem firstK_getD (l : List Key) : firstK (fun i => l.getD i default) l.length = l := by
  unfold firstK
  apply List.ext_getElem
  · simp
  · intro i h1 h2
    simp [List.getD_eq_getElem?_getD, List.getElem?_eq_getElem h2]

set_option maxRecDepth 20000 in
set_option maxHeartbeats 2000000 in
theorem takes_any (p : Nat) (last : Int) (x : Cl) (hx : x.Fit) (ca : Option Addr) (cn cc : Nat) (m : Bool) (w : World) (h : w.cell? ⟨p, 2, none⟩ = some (.int .i64 last)) :
    Calls Try.prog 29 #[ptr p, x.val ca cn cc, .bool m] w fun e w' => (∃ (va : Option Addr) (vn vc : Nat), e = .returned (.tuple #[.slice va vn vc, .int .i64 (takesR x.ok m (refR last x.t))]) ∧ (x.ok = true → m = true → KRow w' w.heap.size (.slice va vn vc) x.keys)) ∧ Below w.heap.size w w' := by
  obtain ⟨t, r, c, o, inb, cnt⟩ := x
  have hb : Below w.heap.size w (w.alloc (.cells #[.int .i64 t, .string r, .string c, .string o, .bool inb, .int .i64 cnt, .slice ca cn cc] 40)) := (Below.refl _ _).alloc (Nat.le_refl _) _
  have HK := hid (keys_any t r c o inb cnt ca cn cc (w.alloc (.cells #[.int .i64 t, .string r, .string c, .string o, .bool inb, .int .i64 cnt, .slice ca cn cc] 40)) hx.r hx.c hx.o)
  have hpl := World.block_lt_of_cell? _ _ h
  have HP := hid (show (⟨p, 2, none⟩ : Addr).block < w.heap.size from hpl)
  have hp1 := kcS hb h
  have b0 : (w.alloc (.cells #[.int .i64 t, .string r, .string c, .string o, .bool inb, .int .i64 cnt, .slice ca cn cc] 40)).cell? ⟨w.heap.size, 0, none⟩ = some (.int .i64 t) := by go_cell
  have HB := hid hb
  have HC := hid (And.intro hp1 b0)
  show Calls Try.prog 29 #[ptr p, .agg #[.int .i64 t, .string r, .string c, .string o, .bool inb, .int .i64 cnt, .slice ca cn cc], .bool m] w fun e w' => (∃ (va : Option Addr) (vn vc : Nat), e = .returned (.tuple #[.slice va vn vc, .int .i64 (takesR (okNames r c o) m (refR last t))]) ∧ (okNames r c o = true → m = true → KRow w' w.heap.size (.slice va vn vc) (keysOf c r o inb))) ∧ Below w.heap.size w w'
  clear hb hpl hp1 b0 h hx
  go_enter Try.func29, Try.ntmps29
  go_wp2_with fail
  refine HK.out.mono ?_
  rintro e w1 ⟨⟨hok, v, rfl, hrow⟩ | ⟨hok, rfl⟩, hb1⟩
  · obtain ⟨va, vc, rfl⟩ := owns_shape hrow
    have c2 := kcS hb1 HC.out.1
    have c0 := kcS hb1 HC.out.2
    have HR := hid (KRow.mono hrow (show w.heap.size ≤ (w.alloc (.cells #[.int .i64 t, .string r, .string c, .string o, .bool inb, .int .i64 cnt, .slice ca cn cc] 40)).heap.size by simp))
    have HB1 := hid (HB.out.trans (hb1.mono HB.out.size))
    have HO := hid hok
    clear hrow hb1 hok
    cases m with
    | false =>
      go_wp2_with fail
      go_ret2
      first | exact ⟨⟨none, 0, 0, by rw [HO.out]; rfl, fun _ h => by cases h⟩, HB1.out⟩ | exact ⟨⟨none, 0, 0, by rw [HO.out]; rfl, fun h => by simp at h⟩, HB1.out⟩ | exact ⟨⟨none, 0, 0, by rw [HO.out]; rfl⟩, HB1.out⟩
    | true =>
      have HRf := hid (refuses_any p t last w1 c2)
      clear c2
      go_wp2_with fail
      refine HRf.out.mono ?_
      rintro e w2 ⟨rfl, rfl⟩
      go_wp2_with fail
      go_ret2
      first | exact ⟨⟨va, _, vc, by rw [HO.out]; rfl, fun _ _ => HR.out⟩, HB1.out⟩ | exact ⟨⟨va, _, vc, by rw [HO.out]; rfl, fun _ => HR.out⟩, HB1.out⟩
  · have HB1 := hid (HB.out.trans (hb1.mono HB.out.size))
    have HO := hid hok
    clear hb1 hok
    go_wp2_with fail
    go_ret2
    refine ⟨⟨none, 0, 0, by rw [HO.out]; rfl, fun h => by rw [HO.out] at h; cases h⟩, HB1.out⟩

/-- a tree in memory that stands so -/
def IsT (w : World) (own : Nat → Nat) (p : Nat) (s : St) : Prop := ∃ b v L, L.map (fun e => (e.key, e.N)) = s.ks ∧ TMem w own p b v L s.last s.last

/-- what a call of a tree comes to -/
def TOp (own : Nat → Nat) (p : Nat) (q : Int × St) (w : World) (e : Ending) (w' : World) : Prop :=
  e = .returned (.int .i64 q.1) ∧ ∃ own', (∀ k, k < w.heap.size → own' k = own k) ∧ IsT w' own' p q.2 ∧ Wr (fun k => own k ≠ 0) w w'

theorem TOp.same {own : Nat → Nat} {p : Nat} {s : St} {w w' : World} (r : Int) (h : IsT w own p s) (hb : Below w.heap.size w w') : TOp own p (r, s) w (.returned (.int .i64 r)) w' :=
  ⟨rfl, own, fun _ _ => rfl, by obtain ⟨b, v, L, h1, h2⟩ := h; exact ⟨b, v, L, h1, h2.below hb⟩, Wr.ofBelow hb⟩

def someS (s : St) (l : List Key) (q : Nd → Bool) : Bool := s.ks.any fun e => decide (e.1 ∈ l) && q e.2
def allS (s : St) (l : List Key) : Bool := l.all fun x => decide (x ∈ s.keys)
def fullN (N : Nd) : Bool := decide ((4096 : Int) ≤ N.entries)
def emptyN (N : Nd) : Bool := (N.entries == (0 : Int))
def comeS (s : St) (t : Nat) (l : List Key) (g : Nd → Nd) : Int × St := if s.full l then (3, s) else (0, s.come t l g)
def passS (s : St) (x : Cl) : Int × St := if callE s x (cB x.cnt) ≠ 0 then (callE s x (cB x.cnt), s) else if someS s x.keys fullN then (3, s) else comeS s x.t.toNat x.keys (passN x.t.toNat x.cnt)
def blockS (s : St) (x : Cl) : Int × St := if callE s x (cB x.cnt) ≠ 0 then (callE s x (cB x.cnt), s) else comeS s x.t.toNat x.keys (blockN x.t.toNat x.cnt)
def doneS (s : St) (x : Cl) (rt : Int) (fl : Bool) : Int × St := if callE s x (tB rt) ≠ 0 then (callE s x (tB rt), s) else if !allS s x.keys || someS s x.keys emptyN then (4, s) else comeS s x.t.toNat x.keys (doneN x.t.toNat rt fl)

theorem takesR_zero {ok m : Bool} {ref : Int} (h : takesR ok m ref = 0) : ok = true ∧ m = true ∧ ref = 0 := by
  unfold takesR at h
  cases ok <;> cases m <;> simp at h
  exact ⟨rfl, rfl, h⟩
theorem refR_zero {last : Nat} {t : Int} (h : refR last t = 0) : ∃ k : Nat, t = k ∧ k ≤ 1152921504606846976 ∧ last ≤ k := by
  unfold refR tB at h
  split at h
  · rename_i h1
    simp only [Bool.and_eq_true, decide_eq_true_eq] at h1
    split at h
    · cases h
    · exact ⟨t.toNat, by omega, by omega, by omega⟩
  · cases h

/-- come's post as the tree's -/
theorem come_op {own : Nat → Nat} {p b t : Nat} {L : List Ent} {s : St} {l : List Key} {g : Nd → Nd} {w0 w w' : World} {e : Ending} (h : ComePost own p b L t l g w e w') (hL : L.map (fun e => (e.key, e.N)) = s.ks) (hb : Below w0.heap.size w0 w) (hT0 : IsT w0 own p s) : TOp own p (comeS s t l g) w0 e w' := by
  have hk : L.map (·.key) = s.keys := by
    unfold St.keys
    rw [← hL, List.map_map]
    rfl
  have hn : L.length = s.ks.length := by rw [← hL, List.length_map]
  unfold ComePost at h
  rw [hk, hn] at h
  unfold comeS St.full
  rcases h with ⟨h1, rfl, h2⟩ | ⟨h1, rfl, own', v', L', h2, h3, h4, h5⟩
  · rw [if_pos (decide_eq_true h1)]
    exact TOp.same 3 hT0 (hb.trans (h2.mono hb.size))
  · rw [decide_eq_false (by omega)]
    refine ⟨rfl, own', fun k hk => h3 k (Nat.lt_of_lt_of_le hk hb.size), ⟨b, v', L', ?_, h4⟩, (Wr.ofBelow hb).on h5 fun k hk => .inl hk⟩
    show _ = (s.come t l g).ks
    unfold St.come St.grow
    rw [h2, hL]

end Go.Proofs.Ytnloedhcginopaa.TreW

/- Pass, Block and Done of a tree. -/
namespace Go.Proofs.Ytnloedhcginopaa.TreX
set_option linter.unusedVariables false
open Go.ChangeShapes Go.WideShapes Go.ChangeAt Go.RowKit Base Wri Map TreA TreB TreC TreD TreE TreF TreG TreH TreJ TreK TreL TreP TreQ TreR TreS TreT TreV TreW WinM WinA WinB WinC WinD WinE WinF WinG WinH WinI WinN StaA StaB StaC

/-- the call's box -/
def Box (bx : Nat) (x : Cl) (ca : Option Addr) (cn cc : Nat) (w : World) : Prop := w.heap[bx]? = some (.cells (x.cells ca cn cc) 40)
theorem Box.cells {bx : Nat} {t : Int} {r c o : ByteArray} {inb : Bool} {cnt : Int} {ca : Option Addr} {cn cc : Nat} {w : World} (h : Box bx ⟨t, r, c, o, inb, cnt⟩ ca cn cc w) : w.cell? ⟨bx, 0, none⟩ = some (.int .i64 t) ∧ w.cell? ⟨bx, 1, none⟩ = some (.string r) ∧ w.cell? ⟨bx, 2, none⟩ = some (.string c) ∧ w.cell? ⟨bx, 3, none⟩ = some (.string o) ∧ w.cell? ⟨bx, 4, none⟩ = some (.bool inb) ∧ w.cell? ⟨bx, 5, none⟩ = some (.int .i64 cnt) ∧ w.cell? ⟨bx, 6, none⟩ = some (.slice ca cn cc) := by
  unfold Box at h
  exact ⟨by simp [World.cell?, h], by simp [World.cell?, h], by simp [World.cell?, h], by simp [World.cell?, h], by simp [World.cell?, h], by simp [World.cell?, h], by simp [World.cell?, h]⟩

theorem cell_of {w : World} {b : Nat} {cs : Array Value} {T : TypeId} (h : w.heap[b]? = some (.cells cs T)) (i : Nat) (v : Value) (hv : cs[i]? = some v) : w.cell? ⟨b, i, none⟩ = some v := by simp [World.cell?, h, hv]

/-- takes' post beside the call's box -/
def Tk (bx p : Nat) (x : Cl) (ca : Option Addr) (cn cc : Nat) (m : Bool) (er : Int) (w : World) (e : Ending) (w' : World) : Prop :=
  (∃ (va : Option Addr) (vn vc : Nat), e = .returned (.tuple #[.slice va vn vc, .int .i64 er]) ∧ Hid (x.ok = true → m = true → KRow w' w.heap.size (.slice va vn vc) x.keys)) ∧ Box bx x ca cn cc w' ∧ Hid (Below w.heap.size w w')

theorem takes_box (bx p : Nat) (last : Int) (x : Cl) (hx : x.Fit) (ca : Option Addr) (cn cc : Nat) (m : Bool) (er : Int) (w : World) (h : w.cell? ⟨p, 2, none⟩ = some (.int .i64 last)) (hb : Box bx x ca cn cc w) (he : takesR x.ok m (refR last x.t) = er) :
    Calls Try.prog 29 #[ptr p, x.val ca cn cc, .bool m] w (Tk bx p x ca cn cc m er w) := by
  subst he
  refine (takes_any p last x hx ca cn cc m w h).mono ?_
  rintro e w' ⟨⟨va, vn, vc, h1, h2⟩, h3⟩
  exact ⟨⟨va, vn, vc, h1, hid h2⟩, (h3.block bx (Array.getElem?_eq_some_iff.1 hb).1).trans hb, hid h3⟩

/-- the errors of a call, told with nothing done -/
theorem err_op {own : Nat → Nat} {p : Nat} {s : St} {w w' : World} {q : Int × St} {er : Int} (hq : q = (er, s)) (h : IsT w own p s) (hb : Below w.heap.size w w') : TOp own p q w (.returned (.int .i64 er)) w' := by
  subst hq; exact TOp.same er h hb

set_option maxRecDepth 20000 in
set_option maxHeartbeats 4000000 in
theorem block_any (p : Nat) (s : St) (own : Nat → Nat) (x : Cl) (hx : x.Fit) (ca : Option Addr) (cn cc : Nat) (w : World) (hT : IsT w own p s) :
    Calls Try.prog 16 #[ptr p, x.val ca cn cc] w (TOp own p (blockS s x) w) := by
  have HI := hid hT
  obtain ⟨b, v, L, hL, hT⟩ := hT
  obtain ⟨er, her⟩ : ∃ er, callE s x (cB x.cnt) = er := ⟨_, rfl⟩
  have HFit := hid hx
  have HTL := hid (And.intro hL hT)
  obtain ⟨t, r, c, o, inb, cnt⟩ := x
  have hb : Below w.heap.size w (w.alloc (.cells #[.int .i64 t, .string r, .string c, .string o, .bool inb, .int .i64 cnt, .slice ca cn cc] 40)) := (Below.refl _ _).alloc (Nat.le_refl _) _
  have hbox : Box w.heap.size ⟨t, r, c, o, inb, cnt⟩ ca cn cc (w.alloc (.cells #[.int .i64 t, .string r, .string c, .string o, .bool inb, .int .i64 cnt, .slice ca cn cc] 40)).drew := heap_alloc_new _ _
  have HTk := hid (takes_box w.heap.size p s.last ⟨t, r, c, o, inb, cnt⟩ hx ca cn cc (cB cnt) er (w.alloc (.cells #[.int .i64 t, .string r, .string c, .string o, .bool inb, .int .i64 cnt, .slice ca cn cc] 40)).drew (kcS hb.drew hT.cells.2.2.1) hbox her)
  have HBx := hid (And.intro hb.drew hbox)
  have HC := hid (isCount_any cnt)
  obtain ⟨b0, b1, b2, b3, b4, b5, b6⟩ := hbox.cells
  have HE := hid her
  clear hb hbox hL hT hx her
  go_enter Try.func16, Try.ntmps16
  go_upto_region 1 with fail
  go_region_held3 (fun w' => w'.cell? ⟨w.heap.size, 0, none⟩ = some (.int .i64 t) ∧ w'.cell? ⟨w.heap.size, 1, none⟩ = some (.string r) ∧ w'.cell? ⟨w.heap.size, 2, none⟩ = some (.string c) ∧ w'.cell? ⟨w.heap.size, 3, none⟩ = some (.string o) ∧ w'.cell? ⟨w.heap.size, 4, none⟩ = some (.bool inb) ∧ w'.cell? ⟨w.heap.size, 5, none⟩ = some (.int .i64 cnt) ∧ w'.cell? ⟨w.heap.size, 6, none⟩ = some (.slice ca cn cc)) (first | assumption | go_keep) (first | (go_at_call 30; refine (HC.out _).mono ?_; rintro e w2 ⟨rfl, rfl⟩) | (go_at_call 29; refine HTk.out.mono ?_; rintro e w3 ⟨⟨va, vn, vc, rfl, HRow⟩, hbox, HB⟩; obtain ⟨c0, c1, c2, c3, c4, c5, c6⟩ := hbox.cells; have HBox := hid hbox; clear hbox))
  clear b0 b1 b2 b3 b4 b5 b6 c0 c1 c2 c3 c4 c5 c6
  have HB3 := hid (HBx.out.1.trans (HB.out.mono HBx.out.1.size))
  by_cases he0 : er = 0
  · subst he0
    obtain ⟨hok, hm, href⟩ := takesR_zero HE.out
    obtain ⟨k, rfl, hk60, hkl⟩ := refR_zero href
    have hm' : 1 ≤ cnt ∧ cnt ≤ 1099511627776 := by unfold cB at hm; simpa using hm
    have hrow := HRow.out hok hm
    obtain ⟨a', cp', hsl, hka, -⟩ := KRow.at hrow
    injection hsl with q1 q2 q3
    subst q1 q2 q3
    obtain ⟨hL, hT⟩ := HTL.out
    have hlen := Cl.keys_len ⟨k, r, c, o, inb, cnt⟩
    have hbx0 : own w.heap.size = 0 := by
      rcases Nat.eq_zero_or_pos (own w.heap.size) with e | e
      · exact e
      · exact absurd (hT.old _ (by omega)) (Nat.lt_irrefl _)
    have hbxl : w.heap.size < w3.heap.size := (Array.getElem?_eq_some_iff.1 HBox.out).1
    have hq : blockS s ⟨k, r, c, o, inb, cnt⟩ = comeS s k (Cl.keys ⟨k, r, c, o, inb, cnt⟩) (blockN k cnt) := by
      unfold blockS
      rw [if_neg (by rw [HE.out]; simp)]
      simp
    have hcome := come_block p b v L s.last k own va (Cl.keys ⟨k, r, c, o, inb, cnt⟩).length vc (fun i => (Cl.keys ⟨k, r, c, o, inb, cnt⟩).getD i default) (blockN k cnt) (fun _ => True) w.heap.size w3 hlen.1 (by omega) (fun i hi => Cl.keys_fit HFit.out _ (by rw [List.getD_eq_getElem?_getD, List.getElem?_eq_getElem hi]; exact List.getElem_mem hi)) (by rw [firstK_getD]; exact Cl.keys_nodup _) hka (fun g o e => by
        have := (KRow.has hrow g (by subst e; rfl)).1
        rcases Nat.eq_zero_or_pos (own g) with e2 | e2
        · exact e2
        · have h1 := hT.old g (by omega)
          have h2 := HBx.out.1.size
          omega) ((hT.below HB3.out).raise hkl) (fun _ _ _ => trivial) (.inl trivial) (hid fun wr S N l hw hfar hI hK hle _ => ⟨blockN_ok hK hle hm', block1_at S N l k w.heap.size cnt wr hI hK.ok hk60 hle hm' ((hw.cell 0 hbxl (fun h => h hbx0)).trans HBox.out.cells.1) ((hw.cell 5 hbxl (fun h => h hbx0)).trans HBox.out.cells.2.2.2.2.2.1)⟩)
    rw [firstK_getD] at hcome
    have HCome := hid (hcome.mono (R' := fun e w' => ∃ q, e = .returned (.int .i64 q) ∧ Hid (TOp own p (blockS s ⟨k, r, c, o, inb, cnt⟩) w e w')) fun e w' h => by
      have h2 := come_op h hL HB3.out HI.out
      rw [hq]
      exact ⟨_, h2.1, hid h2⟩)
    obtain ⟨c0, -⟩ := HBox.out.cells
    have hb6 : Below w.heap.size w w3 := HB3.out
    clear hrow hka hL hT hlen hbx0 hbxl hq hcome hok hm href hb6 HTk HRow HBox HBx HFit HB HC
    generalize (Cl.keys ⟨k, r, c, o, inb, cnt⟩).length = nk at *
    go_wp2_with fail
    refine HCome.out.mono ?_
    rintro e w4 ⟨q, rfl, HOp⟩
    go_wp2_with fail
    go_ret
    exact HOp.out
  · have he1 : (er == 0) = false := by simpa using he0
    go_wp2_with fail
    go_ret
    exact err_op (by unfold blockS; rw [HE.out, if_pos he0]) HI.out HB3.out

/-- the nodes of some keys, each that there is -/
def exL (L : List Ent) (l : List Key) : List Ent := l.filterMap fun x => L.find? fun e => decide (e.key = x)
theorem exL_nodes (L : List Ent) (f : Nat → Key) (n : Nat) : nodesL L f n = (exL L (firstK f n)).map fun e => ptr e.S.n := by
  induction n with
  | zero => rfl
  | succ n ih =>
    rw [firstK_succ]
    unfold exL at *
    rw [List.filterMap_append, List.map_append, ← ih]
    cases hh : hasK L (f n) with
    | true =>
      rw [nodesL_yes hh]
      congr 1
      unfold hasK at hh
      unfold nptr
      cases hf : L.find? (fun e => decide (e.key = f n)) with
      | none =>
        obtain ⟨e, he, hk⟩ := List.any_eq_true.1 hh
        exact absurd hk (List.find?_eq_none.1 hf e he)
      | some e => simp [hf]
    | false =>
      rw [nodesL_no hh]
      unfold hasK at hh
      have hf : L.find? (fun e => decide (e.key = f n)) = none := List.find?_eq_none.2 fun e he => by
        rw [List.any_eq_false] at hh
        exact hh e he
      simp [hf]
theorem find_at {L : List Ent} (hnd : (L.map (·.key)).Nodup) {e : Ent} (he : e ∈ L) : L.find? (fun y => decide (y.key = e.key)) = some e := by
  induction L with
  | nil => cases he
  | cons y t ih =>
    rw [List.map_cons, List.nodup_cons] at hnd
    rw [List.find?_cons]
    rcases List.mem_cons.1 he with rfl | he2
    · simp
    · have : y.key ≠ e.key := fun h => hnd.1 (h ▸ List.mem_map.2 ⟨e, he2, rfl⟩)
      simp only [this, decide_false]
      exact ih hnd.2 he2
theorem exL_mem {L : List Ent} (hnd : (L.map (·.key)).Nodup) (l : List Key) (e : Ent) : e ∈ exL L l ↔ e ∈ L ∧ e.key ∈ l := by
  unfold exL
  rw [List.mem_filterMap]
  constructor
  · rintro ⟨x, hx, hf⟩
    have h1 := List.find?_some hf
    have h2 := List.mem_of_find?_eq_some hf
    simp at h1
    exact ⟨h2, by rw [h1]; exact hx⟩
  · rintro ⟨h1, h2⟩
    exact ⟨e.key, h2, find_at hnd h1⟩
theorem exL_any {L : List Ent} (hnd : (L.map (·.key)).Nodup) (l : List Key) (q : Nd → Bool) : (exL L l).any (fun e => q e.N) = L.any fun e => decide (e.key ∈ l) && q e.N := by
  rw [Bool.eq_iff_iff, List.any_eq_true, List.any_eq_true]
  constructor
  · rintro ⟨e, he, hq⟩
    obtain ⟨h1, h2⟩ := (exL_mem hnd l e).1 he
    exact ⟨e, h1, by simp [h2, hq]⟩
  · rintro ⟨e, he, hq⟩
    simp only [Bool.and_eq_true, decide_eq_true_eq] at hq
    exact ⟨e, (exL_mem hnd l e).2 ⟨he, hq.1⟩, hq.2⟩
theorem someS_ents {s : St} {L : List Ent} (hL : L.map (fun e => (e.key, e.N)) = s.ks) (l : List Key) (q : Nd → Bool) : someS s l q = L.any fun e => decide (e.key ∈ l) && q e.N := by
  unfold someS
  rw [← hL, List.any_map]
  rfl
theorem keys_ents {s : St} {L : List Ent} (hL : L.map (fun e => (e.key, e.N)) = s.ks) : L.map (·.key) = s.keys := by
  unfold St.keys
  rw [← hL, List.map_map]
  rfl
theorem any_range {α : Type} (l : List α) (d : α) (q : α → Bool) : ((List.range l.length).any fun i => q (l.getD i d)) = l.any q := by
  rw [Bool.eq_iff_iff, List.any_eq_true, List.any_eq_true]
  constructor
  · rintro ⟨i, hi, hq⟩
    have hi := List.mem_range.1 hi
    refine ⟨l[i], List.getElem_mem hi, ?_⟩
    rwa [List.getD_eq_getElem?_getD, List.getElem?_eq_getElem hi] at hq
  · rintro ⟨x, hx, hq⟩
    obtain ⟨i, hi, rfl⟩ := List.getElem_of_mem hx
    refine ⟨i, List.mem_range.2 hi, ?_⟩
    rwa [List.getD_eq_getElem?_getD, List.getElem?_eq_getElem hi]

/-- the row of these nodes, as contains_full and contains_empty want it -/
theorem nodes_row {w : World} {own : Nat → Nat} {p b B : Nat} {v vn : Value} {L : List Ent} {last top : Nat} {s : St} {l : List Key} {f : Nat → Key} {n : Nat} (hL : L.map (fun e => (e.key, e.N)) = s.ks) (hT : TMem w own p b v L last top) (hf : firstK f n = l)
    (h : w.ownsRow B 49 1 vn (nodesL L f n).length (nodesL L f n)) (hn : n ≤ 1000000) :
    ∃ a m c F K, vn = .slice a m c ∧ m ≤ 9223372036854775807 ∧ PAt w a m F K ∧ fullB K m = someS s l fullN ∧ emptyB K m = someS s l emptyN := by
  have hle := nodesL_len L f n
  obtain ⟨a, c, rfl⟩ := owns_shape h
  have hex := exL_nodes L f n
  rw [hf] at hex
  have hlen : (nodesL L f n).length = (exL L l).length := by rw [hex, List.length_map]
  let d : Ent := ⟨default, ⟨0, 0, none, 0, none⟩, Nd.new⟩
  refine ⟨a, _, c, fun i => ((exL L l).getD i d).S.n, fun i => ((exL L l).getD i d).N.entries, rfl, by omega, fun h0 => ?_, ?_, ?_⟩
  · obtain ⟨g, c', e, hg, hgl, hcell⟩ := row1_at h h0
    injection e with e1 e2 e3
    subst e1
    refine ⟨g, 0, rfl, hgl, fun i hi => ?_⟩
    have hi2 : i < (exL L l).length := by omega
    have hgd : (exL L l).getD i d = (exL L l)[i] := by rw [List.getD_eq_getElem?_getD, List.getElem?_eq_getElem hi2]; rfl
    have hmem := ((exL_mem hT.nd l _).1 (List.getElem_mem hi2)).1
    obtain ⟨j, hj, hje⟩ := List.getElem_of_mem hmem
    have hnode := (hT.nds j _ (List.getElem?_eq_getElem hj)).1
    rw [hje] at hnode
    dsimp only
    rw [hgd, Nat.zero_add]
    refine ⟨hcell i _ ?_, hnode.cells.1⟩
    rw [hex, List.getElem?_map, List.getElem?_eq_getElem hi2]
    rfl
  · unfold fullB
    rw [hlen, someS_ents hL, ← exL_any hT.nd, ← any_range (exL L l) d]
    rfl
  · unfold emptyB
    rw [hlen, someS_ents hL, ← exL_any hT.nd, ← any_range (exL L l) d]
    rfl
theorem allK_S {s : St} {L : List Ent} {l : List Key} {f : Nat → Key} {n : Nat} (hL : L.map (fun e => (e.key, e.N)) = s.ks) (hf : firstK f n = l) : allK L f n = allS s l := by
  unfold allK allS
  rw [← hf, Bool.eq_iff_iff, List.all_eq_true, List.all_eq_true]
  constructor
  · intro h x hx
    obtain ⟨i, hi, rfl⟩ := List.mem_map.1 hx
    have := h i hi
    rw [hasK_iff, keys_ents hL] at this
    exact decide_eq_true this
  · intro h i hi
    have := h (f i) (List.mem_map.2 ⟨i, hi, rfl⟩)
    rw [hasK_iff, keys_ents hL]
    exact of_decide_eq_true this

set_option maxRecDepth 20000 in
set_option maxHeartbeats 4000000 in
theorem pass_any (p : Nat) (s : St) (own : Nat → Nat) (x : Cl) (hx : x.Fit) (ca : Option Addr) (cn cc : Nat) (w : World) (hT : IsT w own p s) :
    Calls Try.prog 15 #[ptr p, x.val ca cn cc] w (TOp own p (passS s x) w) := by
  have HI := hid hT
  obtain ⟨b, v, L, hL, hT⟩ := hT
  obtain ⟨er, her⟩ : ∃ er, callE s x (cB x.cnt) = er := ⟨_, rfl⟩
  have HFit := hid hx
  have HTL := hid (And.intro hL hT)
  obtain ⟨t, r, c, o, inb, cnt⟩ := x
  have hb : Below w.heap.size w (w.alloc (.cells #[.int .i64 t, .string r, .string c, .string o, .bool inb, .int .i64 cnt, .slice ca cn cc] 40)) := (Below.refl _ _).alloc (Nat.le_refl _) _
  have hbox : Box w.heap.size ⟨t, r, c, o, inb, cnt⟩ ca cn cc (w.alloc (.cells #[.int .i64 t, .string r, .string c, .string o, .bool inb, .int .i64 cnt, .slice ca cn cc] 40)).drew := heap_alloc_new _ _
  have HTk := hid (takes_box w.heap.size p s.last ⟨t, r, c, o, inb, cnt⟩ hx ca cn cc (cB cnt) er (w.alloc (.cells #[.int .i64 t, .string r, .string c, .string o, .bool inb, .int .i64 cnt, .slice ca cn cc] 40)).drew (kcS hb.drew hT.cells.2.2.1) hbox her)
  have HBx := hid (And.intro hb.drew hbox)
  have HC := hid (isCount_any cnt)
  obtain ⟨b0, b1, b2, b3, b4, b5, b6⟩ := hbox.cells
  have HE := hid her
  clear hb hbox hL hT hx her
  go_enter Try.func15, Try.ntmps15
  go_upto_region 1 with fail
  go_region_held3 (fun w' => w'.cell? ⟨w.heap.size, 0, none⟩ = some (.int .i64 t) ∧ w'.cell? ⟨w.heap.size, 1, none⟩ = some (.string r) ∧ w'.cell? ⟨w.heap.size, 2, none⟩ = some (.string c) ∧ w'.cell? ⟨w.heap.size, 3, none⟩ = some (.string o) ∧ w'.cell? ⟨w.heap.size, 4, none⟩ = some (.bool inb) ∧ w'.cell? ⟨w.heap.size, 5, none⟩ = some (.int .i64 cnt) ∧ w'.cell? ⟨w.heap.size, 6, none⟩ = some (.slice ca cn cc)) (first | assumption | go_keep) (first | (go_at_call 30; refine (HC.out _).mono ?_; rintro e w2 ⟨rfl, rfl⟩) | (go_at_call 29; refine HTk.out.mono ?_; rintro e w3 ⟨⟨va, vn, vc, rfl, HRow⟩, hbox, HB⟩; obtain ⟨c0, c1, c2, c3, c4, c5, c6⟩ := hbox.cells; have HBox := hid hbox; clear hbox))
  clear b0 b1 b2 b3 b4 b5 b6 c0 c1 c2 c3 c4 c5 c6
  have HB3 := hid (HBx.out.1.trans (HB.out.mono HBx.out.1.size))
  by_cases he0 : er = 0
  · subst he0
    obtain ⟨hok, hm, href⟩ := takesR_zero HE.out
    obtain ⟨k, rfl, hk60, hkl⟩ := refR_zero href
    have hm' : 1 ≤ cnt ∧ cnt ≤ 1099511627776 := by unfold cB at hm; simpa using hm
    have hrow := HRow.out hok hm
    obtain ⟨a', cp', hsl, hka, -⟩ := KRow.at hrow
    injection hsl with q1 q2 q3
    subst q1 q2 q3
    obtain ⟨hL, hT⟩ := HTL.out
    have hlen := Cl.keys_len ⟨k, r, c, o, inb, cnt⟩
    have hbx0 : own w.heap.size = 0 := by
      rcases Nat.eq_zero_or_pos (own w.heap.size) with e | e
      · exact e
      · exact absurd (hT.old _ (by omega)) (Nat.lt_irrefl _)
    have hbxl : w.heap.size < w3.heap.size := (Array.getElem?_eq_some_iff.1 HBox.out).1
    have hfit : ∀ i, i < (Cl.keys ⟨k, r, c, o, inb, cnt⟩).length → ((Cl.keys ⟨k, r, c, o, inb, cnt⟩).getD i default).Fit := fun i hi => Cl.keys_fit HFit.out _ (by rw [List.getD_eq_getElem?_getD, List.getElem?_eq_getElem hi]; exact List.getElem_mem hi)
    have hT3 := hT.below HB3.out
    have HNo := hid (nodesOf_any p b va (Cl.keys ⟨k, r, c, o, inb, cnt⟩).length vc (fun i => (Cl.keys ⟨k, r, c, o, inb, cnt⟩).getD i default) L w3 (by omega) hfit hka hT3.cells.1 hT3.map)
    have HRow3 := hid hrow
    have HKa := hid hka
    have HZ := hid (And.intro hlen (And.intro hbx0 hbxl))
    obtain ⟨c0, -⟩ := HBox.out.cells
    clear hrow hka hL hT hlen hbx0 hbxl hok hm href HTk HRow HB HC hfit hT3
    go_wp2_with fail
    refine HNo.out.mono ?_
    rintro e w5 ⟨⟨vn, rfl, hrn⟩, hb5⟩
    obtain ⟨hL, hT⟩ := HTL.out
    have HB5 : Hid (Below w.heap.size w w5) := hid (HB3.out.trans (hb5.mono HB3.out.size))
    have HBox5 : Hid (Box w.heap.size ⟨k, r, c, o, inb, cnt⟩ ca cn cc w5) := hid ((hb5.block _ HZ.out.2.2).trans HBox.out)
    have HKa5 := hid (KAt.below HKa.out hb5)
    have hT5 := hT.below HB5.out
    have hbxl5 : w.heap.size < w5.heap.size := Nat.lt_of_lt_of_le HZ.out.2.2 hb5.size
    obtain ⟨a5, m5, c5, F5, K5, rfl, hm5, hp5, hfull5, hempty5⟩ := nodes_row hL hT5 (firstK_getD _) hrn (by have := HZ.out.1; omega)
    have HC5 := hid (contains_full a5 m5 c5 F5 K5 w5 hm5 hp5)
    rw [hfull5] at HC5
    have hlen := HZ.out.1
    have hbx0 := HZ.out.2.1
    obtain ⟨bb, hbb⟩ : ∃ bb, someS s (Cl.keys ⟨k, r, c, o, inb, cnt⟩) fullN = bb := ⟨_, rfl⟩
    rw [hbb] at HC5
    obtain ⟨c0, -⟩ := HBox5.out.cells
    cases bb with
    | true =>
      have HQ := hid (show passS s ⟨k, r, c, o, inb, cnt⟩ = (3, s) by
        unfold passS
        rw [if_neg (by rw [HE.out]; simp), hbb, if_pos rfl])
      clear hL hT hb5 hT5 hbxl5 hrn hm5 hp5 hfull5 hempty5 hlen hbx0 hbb
      go_wp2_with fail
      refine HC5.out.mono ?_
      rintro e w6 ⟨rfl, rfl⟩
      go_wp2_with fail
      go_ret
      exact err_op HQ.out HI.out HB5.out
    | false =>
      have hQall : ∀ e ∈ L, e.key ∈ firstK (fun i => (Cl.keys ⟨k, r, c, o, inb, cnt⟩).getD i default) (Cl.keys ⟨k, r, c, o, inb, cnt⟩).length → e.N.entries + 1 ≤ 4096 := fun e he hk => by
        rw [firstK_getD] at hk
        rw [someS_ents hL, List.any_eq_false] at hbb
        have := hbb e he
        simp only [hk, decide_true, Bool.true_and] at this
        unfold fullN at this
        simp at this
        omega
      have hq : passS s ⟨k, r, c, o, inb, cnt⟩ = comeS s k (Cl.keys ⟨k, r, c, o, inb, cnt⟩) (passN k cnt) := by
        unfold passS
        rw [if_neg (by rw [HE.out]; simp), hbb]
        simp
      have hcome := come_pass p b v L s.last k own va (Cl.keys ⟨k, r, c, o, inb, cnt⟩).length vc (fun i => (Cl.keys ⟨k, r, c, o, inb, cnt⟩).getD i default) (passN k cnt) (fun N => N.entries + 1 ≤ 4096) w.heap.size w5 hlen.1 (by omega) (fun i hi => Cl.keys_fit HFit.out _ (by rw [List.getD_eq_getElem?_getD, List.getElem?_eq_getElem hi]; exact List.getElem_mem hi)) (by rw [firstK_getD]; exact Cl.keys_nodup _) HKa5.out (fun g o e => by
          have := (KRow.has HRow3.out g (by subst e; rfl)).1
          rcases Nat.eq_zero_or_pos (own g) with e2 | e2
          · exact e2
          · have h1 := hT.old g (by omega)
            have h2 := HBx.out.1.size
            omega) ((hT.below HB5.out).raise hkl) hQall (.inl (by decide)) (hid fun wr S N l hw hfar hI hK hle hq1 => ⟨passN_ok hK hle hm' hq1, pass2_at S N l k w.heap.size cnt wr hI hK.ok hk60 hle hm' hq1 ((hw.cell 0 hbxl5 (fun h => h hbx0)).trans HBox5.out.cells.1) ((hw.cell 5 hbxl5 (fun h => h hbx0)).trans HBox5.out.cells.2.2.2.2.2.1)⟩)
      rw [firstK_getD] at hcome
      have HCome := hid (hcome.mono (R' := fun e w' => ∃ q, e = .returned (.int .i64 q) ∧ Hid (TOp own p (passS s ⟨k, r, c, o, inb, cnt⟩) w e w')) fun e w' h => by
        have h2 := come_op h hL HB5.out HI.out
        rw [hq]
        exact ⟨_, h2.1, hid h2⟩)
      clear hL hT hb5 hT5 hbxl5 hrn hm5 hp5 hfull5 hempty5 hlen hbx0 hbb hQall hq hcome
      go_wp2_with fail
      refine HC5.out.mono ?_
      rintro e w6 ⟨rfl, rfl⟩
      go_wp2_with fail
      refine HCome.out.mono ?_
      rintro e w4 ⟨q, rfl, HOp⟩
      go_wp2_with fail
      go_ret
      exact HOp.out
  · have he1 : (er == 0) = false := by simpa using he0
    go_wp2_with fail
    go_ret
    exact err_op (by unfold passS; rw [HE.out, if_pos he0]) HI.out HB3.out

end Go.Proofs.Ytnloedhcginopaa.TreX

/- Done of a tree. -/
namespace Go.Proofs.Ytnloedhcginopaa.TreY
set_option linter.unusedVariables false
open Go.ChangeShapes Go.WideShapes Go.ChangeAt Go.RowKit Base Wri Map TreA TreB TreC TreD TreE TreF TreG TreH TreJ TreK TreL TreP TreQ TreR TreS TreT TreV TreW TreX WinM WinA WinB WinC WinD WinE WinF WinG WinH WinI WinN StaA StaB StaC

set_option maxRecDepth 20000 in
set_option maxHeartbeats 4000000 in
theorem done_any (p : Nat) (s : St) (own : Nat → Nat) (x : Cl) (hx : x.Fit) (ca : Option Addr) (cn cc : Nat) (rt : Int) (fl : Bool) (w : World) (hT : IsT w own p s) :
    Calls Try.prog 17 #[ptr p, x.val ca cn cc, .int .i64 rt, .bool fl] w (TOp own p (doneS s x rt fl) w) := by
  have HI := hid hT
  obtain ⟨b, v, L, hL, hT⟩ := hT
  obtain ⟨er, her⟩ : ∃ er, callE s x (tB rt) = er := ⟨_, rfl⟩
  have HFit := hid hx
  have HTL := hid (And.intro hL hT)
  obtain ⟨t, r, c, o, inb, cnt⟩ := x
  have hb : Below w.heap.size w (((w.alloc (.cells #[.int .i64 t, .string r, .string c, .string o, .bool inb, .int .i64 cnt, .slice ca cn cc] 40)).alloc (.cells #[.int .i64 rt] 3)).alloc (.cells #[.bool fl] 4)) := (by repeat (first | (with_reducible exact Below.refl _ _) | (with_reducible refine Below.setCell ?_ (by first | (simp; done) | (simp; omega) | omega) _) | (with_reducible refine Below.alloc ?_ (by first | (simp; done) | (simp; omega) | omega) _) | (with_reducible refine Below.drew ?_)))
  have hbox : Box w.heap.size ⟨t, r, c, o, inb, cnt⟩ ca cn cc (((w.alloc (.cells #[.int .i64 t, .string r, .string c, .string o, .bool inb, .int .i64 cnt, .slice ca cn cc] 40)).alloc (.cells #[.int .i64 rt] 3)).alloc (.cells #[.bool fl] 4)).drew := (StaC.heap3 w _ _ _).1
  have hrt : (((w.alloc (.cells #[.int .i64 t, .string r, .string c, .string o, .bool inb, .int .i64 cnt, .slice ca cn cc] 40)).alloc (.cells #[.int .i64 rt] 3)).alloc (.cells #[.bool fl] 4)).drew.heap[w.heap.size + 1]? = some (.cells #[.int .i64 rt] 3) ∧ (((w.alloc (.cells #[.int .i64 t, .string r, .string c, .string o, .bool inb, .int .i64 cnt, .slice ca cn cc] 40)).alloc (.cells #[.int .i64 rt] 3)).alloc (.cells #[.bool fl] 4)).drew.heap[w.heap.size + 2]? = some (.cells #[.bool fl] 4) := ⟨(StaC.heap3 w _ _ _).2.1, (StaC.heap3 w _ _ _).2.2⟩
  have HTk := hid (takes_box w.heap.size p s.last ⟨t, r, c, o, inb, cnt⟩ hx ca cn cc (tB rt) er (((w.alloc (.cells #[.int .i64 t, .string r, .string c, .string o, .bool inb, .int .i64 cnt, .slice ca cn cc] 40)).alloc (.cells #[.int .i64 rt] 3)).alloc (.cells #[.bool fl] 4)).drew (kcS hb.drew hT.cells.2.2.1) hbox her)
  have HBx := hid (And.intro hb.drew hbox)
  have HC := hid (TreC.isTime_any rt)
  have HRt := hid hrt
  have b7 : (((w.alloc (.cells #[.int .i64 t, .string r, .string c, .string o, .bool inb, .int .i64 cnt, .slice ca cn cc] 40)).alloc (.cells #[.int .i64 rt] 3)).alloc (.cells #[.bool fl] 4)).drew.cell? ⟨w.heap.size + 1, 0, none⟩ = some (.int .i64 rt) := cell_of hrt.1 0 _ rfl
  obtain ⟨b0, b1, b2, b3, b4, b5, b6⟩ := hbox.cells
  have HE := hid her
  clear hb hbox hL hT hx her hrt
  go_enter Try.func17, Try.ntmps17
  go_upto_region 1 with fail
  go_region_held3 (fun w' => w'.cell? ⟨w.heap.size, 0, none⟩ = some (.int .i64 t) ∧ w'.cell? ⟨w.heap.size, 1, none⟩ = some (.string r) ∧ w'.cell? ⟨w.heap.size, 2, none⟩ = some (.string c) ∧ w'.cell? ⟨w.heap.size, 3, none⟩ = some (.string o) ∧ w'.cell? ⟨w.heap.size, 4, none⟩ = some (.bool inb) ∧ w'.cell? ⟨w.heap.size, 5, none⟩ = some (.int .i64 cnt) ∧ w'.cell? ⟨w.heap.size, 6, none⟩ = some (.slice ca cn cc) ∧ w'.cell? ⟨w.heap.size + 1, 0, none⟩ = some (.int .i64 rt)) (first | assumption | go_keep) (first | (go_at_call 38; refine (HC.out _).mono ?_; rintro e w2 ⟨rfl, rfl⟩) | (go_at_call 29; refine HTk.out.mono ?_; rintro e w3 ⟨⟨va, vn, vc, rfl, HRow⟩, hbox, HB⟩; obtain ⟨c0, c1, c2, c3, c4, c5, c6⟩ := hbox.cells; have HBox := hid hbox; have HRt3 : Hid (w3.heap[w.heap.size + 1]? = some (.cells #[.int .i64 rt] 3) ∧ w3.heap[w.heap.size + 2]? = some (.cells #[.bool fl] 4)) := hid ⟨(HB.out.block _ (Array.getElem?_eq_some_iff.1 HRt.out.1).1).trans HRt.out.1, (HB.out.block _ (Array.getElem?_eq_some_iff.1 HRt.out.2).1).trans HRt.out.2⟩; have c7 : w3.cell? ⟨w.heap.size + 1, 0, none⟩ = some (.int .i64 rt) := cell_of HRt3.out.1 0 _ rfl; clear hbox))
  clear b0 b1 b2 b3 b4 b5 b6 b7 c0 c1 c2 c3 c4 c5 c6 c7
  have HB3 := hid (HBx.out.1.trans (HB.out.mono HBx.out.1.size))
  by_cases he0 : er = 0
  · subst he0
    obtain ⟨hok, hm, href⟩ := takesR_zero HE.out
    obtain ⟨k, rfl, hk60, hkl⟩ := refR_zero href
    have hm' : 0 ≤ rt ∧ rt ≤ 1152921504606846976 := by unfold tB at hm; simpa using hm
    have hrow := HRow.out hok hm
    obtain ⟨a', cp', hsl, hka, -⟩ := KRow.at hrow
    injection hsl with q1 q2 q3
    subst q1 q2 q3
    obtain ⟨hL, hT⟩ := HTL.out
    have hlen := Cl.keys_len ⟨k, r, c, o, inb, cnt⟩
    have hbx0 : own w.heap.size = 0 := by
      rcases Nat.eq_zero_or_pos (own w.heap.size) with e | e
      · exact e
      · exact absurd (hT.old _ (by omega)) (Nat.lt_irrefl _)
    have hbxl : w.heap.size < w3.heap.size := (Array.getElem?_eq_some_iff.1 HBox.out).1
    have hfit : ∀ i, i < (Cl.keys ⟨k, r, c, o, inb, cnt⟩).length → ((Cl.keys ⟨k, r, c, o, inb, cnt⟩).getD i default).Fit := fun i hi => Cl.keys_fit HFit.out _ (by rw [List.getD_eq_getElem?_getD, List.getElem?_eq_getElem hi]; exact List.getElem_mem hi)
    have hT3 := hT.below HB3.out
    have HHv := hid (have_any p b va (Cl.keys ⟨k, r, c, o, inb, cnt⟩).length vc (fun i => (Cl.keys ⟨k, r, c, o, inb, cnt⟩).getD i default) L w3 (by omega) hfit hka hT3.cells.1 hT3.map)
    rw [allK_S hL (firstK_getD _)] at HHv
    have HNo : Hid (∀ w9, Below w3.heap.size w3 w9 → Calls Try.prog 26 #[ptr p, .slice va (Cl.keys ⟨k, r, c, o, inb, cnt⟩).length vc] w9 fun e w' => (∃ v, e = .returned v ∧ w'.ownsRow w9.heap.size 49 1 v (nodesL L (fun i => (Cl.keys ⟨k, r, c, o, inb, cnt⟩).getD i default) (Cl.keys ⟨k, r, c, o, inb, cnt⟩).length).length (nodesL L (fun i => (Cl.keys ⟨k, r, c, o, inb, cnt⟩).getD i default) (Cl.keys ⟨k, r, c, o, inb, cnt⟩).length)) ∧ Below w9.heap.size w9 w') := hid fun w9 hb9 => nodesOf_any p b va (Cl.keys ⟨k, r, c, o, inb, cnt⟩).length vc (fun i => (Cl.keys ⟨k, r, c, o, inb, cnt⟩).getD i default) L w9 (by omega) hfit (KAt.below hka hb9) (hT3.below hb9).cells.1 (hT3.below hb9).map
    have HRow3 := hid hrow
    have HKa := hid hka
    have HZ := hid (And.intro hlen (And.intro hbx0 hbxl))
    obtain ⟨ba, hba⟩ : ∃ ba, allS s (Cl.keys ⟨k, r, c, o, inb, cnt⟩) = ba := ⟨_, rfl⟩
    rw [hba] at HHv
    clear hrow hka hL hT hlen hbx0 hbxl hok hm href HTk HRow HB HC hfit hT3
    go_wp2_with fail
    refine HHv.out.mono ?_
    rintro e w9 ⟨rfl, hb9⟩
    have HB9 := hid (HB3.out.trans (hb9.mono HB3.out.size))
    have HB39 := hid hb9
    have HNo9 := hid (HNo.out w9 hb9)
    clear hb9 HNo
    cases ba with
    | false =>
     have HQ := hid (show doneS s ⟨k, r, c, o, inb, cnt⟩ rt fl = (4, s) by
        unfold doneS
        rw [if_neg (by rw [HE.out]; simp), hba]
        rfl)
     clear hba
     go_wp2_with fail
     go_ret
     exact err_op HQ.out HI.out HB9.out
    | true =>
     go_wp2_with fail
     refine HNo9.out.mono ?_
     rintro e w5 ⟨⟨vn, rfl, hrn⟩, hb5⟩
     obtain ⟨hL, hT⟩ := HTL.out
     have HB5 : Hid (Below w.heap.size w w5) := hid (HB9.out.trans (hb5.mono HB9.out.size))
     have HBox5 : Hid (Box w.heap.size ⟨k, r, c, o, inb, cnt⟩ ca cn cc w5) := hid ((hb5.block _ (Nat.lt_of_lt_of_le HZ.out.2.2 HB39.out.size)).trans ((HB39.out.block _ HZ.out.2.2).trans HBox.out))
     have HKa5 := hid (KAt.below (KAt.below HKa.out HB39.out) hb5)
     have hT5 := hT.below HB5.out
     have hbxl5 : w.heap.size < w5.heap.size := Nat.lt_of_lt_of_le (Nat.lt_of_lt_of_le HZ.out.2.2 HB39.out.size) hb5.size
     obtain ⟨a5, m5, c5, F5, K5, rfl, hm5, hp5, hfull5, hempty5⟩ := nodes_row hL hT5 (firstK_getD _) hrn (by have := HZ.out.1; omega)
     have HC5 := hid (contains_empty a5 m5 c5 F5 K5 w5 hm5 hp5)
     rw [hempty5] at HC5
     have hlen := HZ.out.1
     have hbx0 := HZ.out.2.1
     obtain ⟨bb, hbb⟩ : ∃ bb, someS s (Cl.keys ⟨k, r, c, o, inb, cnt⟩) emptyN = bb := ⟨_, rfl⟩
     rw [hbb] at HC5
     obtain ⟨c0, -⟩ := HBox5.out.cells
     cases bb with
     | true =>
       have HQ := hid (show doneS s ⟨k, r, c, o, inb, cnt⟩ rt fl = (4, s) by
         unfold doneS
         rw [if_neg (by rw [HE.out]; simp), hba, hbb]
         rfl)
       clear hL hT hb5 hT5 hbxl5 hrn hm5 hp5 hfull5 hempty5 hlen hbx0 hbb hba
       go_wp2_with fail
       refine HC5.out.mono ?_
       rintro e w6 ⟨rfl, rfl⟩
       go_wp2_with fail
       go_ret
       exact err_op HQ.out HI.out HB5.out
     | false =>
       have hQall : ∀ e ∈ L, e.key ∈ firstK (fun i => (Cl.keys ⟨k, r, c, o, inb, cnt⟩).getD i default) (Cl.keys ⟨k, r, c, o, inb, cnt⟩).length → e.N.entries ≠ 0 := fun e he hk => by
         rw [firstK_getD] at hk
         rw [someS_ents hL, List.any_eq_false] at hbb
         have := hbb e he
         simp only [hk, decide_true, Bool.true_and] at this
         unfold emptyN at this
         simpa using this
       have hAll : ∀ y ∈ firstK (fun i => (Cl.keys ⟨k, r, c, o, inb, cnt⟩).getD i default) (Cl.keys ⟨k, r, c, o, inb, cnt⟩).length, y ∈ L.map (·.key) := fun y hy => by
         rw [firstK_getD] at hy
         unfold allS at hba
         rw [keys_ents hL]
         exact of_decide_eq_true (List.all_eq_true.1 hba y hy)
       have hb15 : w.heap.size + 1 < w5.heap.size ∧ w.heap.size + 2 < w5.heap.size ∧ own (w.heap.size + 1) = 0 ∧ own (w.heap.size + 2) = 0 ∧ w5.cell? ⟨w.heap.size + 1, 0, none⟩ = some (.int .i64 rt) ∧ w5.cell? ⟨w.heap.size + 2, 0, none⟩ = some (.bool fl) := by
         have g1 := (Array.getElem?_eq_some_iff.1 HRt3.out.1).1
         have g2 := (Array.getElem?_eq_some_iff.1 HRt3.out.2).1
         have s1 := HB39.out.size
         have s2 := hb5.size
         have z : ∀ j, w.heap.size ≤ j → own j = 0 := fun j hj => by
           rcases Nat.eq_zero_or_pos (own j) with e2 | e2
           · exact e2
           · exact absurd (hT.old j (by omega)) (by omega)
         exact ⟨by omega, by omega, z _ (by omega), z _ (by omega), kcS hb5 (kcS HB39.out (cell_of HRt3.out.1 0 _ rfl)), kcS hb5 (kcS HB39.out (cell_of HRt3.out.2 0 _ rfl))⟩
       have hq : doneS s ⟨k, r, c, o, inb, cnt⟩ rt fl = comeS s k (Cl.keys ⟨k, r, c, o, inb, cnt⟩) (doneN k rt fl) := by
         unfold doneS
         rw [if_neg (by rw [HE.out]; simp), hba, hbb]
         simp
       have hcome := come_done p b v L s.last k own va (Cl.keys ⟨k, r, c, o, inb, cnt⟩).length vc (fun i => (Cl.keys ⟨k, r, c, o, inb, cnt⟩).getD i default) (doneN k rt fl) (fun N => N.entries ≠ 0) w.heap.size (w.heap.size + 1) (w.heap.size + 2) w5 hlen.1 (by omega) (fun i hi => Cl.keys_fit HFit.out _ (by rw [List.getD_eq_getElem?_getD, List.getElem?_eq_getElem hi]; exact List.getElem_mem hi)) (by rw [firstK_getD]; exact Cl.keys_nodup _) HKa5.out (fun g o e => by
           have := (KRow.has HRow3.out g (by subst e; rfl)).1
           rcases Nat.eq_zero_or_pos (own g) with e2 | e2
           · exact e2
           · have h1 := hT.old g (by omega)
             have h2 := HBx.out.1.size
             omega) ((hT.below HB5.out).raise hkl) hQall (.inr hAll) (hid fun wr S N l hw hfar hI hK hle hq1 => ⟨doneN_ok hK hle hm' hq1, done2_at S N l k w.heap.size (w.heap.size + 1) (w.heap.size + 2) rt fl wr hI hK.ok hk60 hle hm' hq1 ((hw.cell 0 hbxl5 (fun h => h hbx0)).trans HBox5.out.cells.1) ((hw.cell 0 hb15.1 (fun h => h hb15.2.2.1)).trans hb15.2.2.2.2.1) ((hw.cell 0 hb15.2.1 (fun h => h hb15.2.2.2.1)).trans hb15.2.2.2.2.2)⟩)
       rw [firstK_getD] at hcome
       have HCome := hid (hcome.mono (R' := fun e w' => ∃ q, e = .returned (.int .i64 q) ∧ Hid (TOp own p (doneS s ⟨k, r, c, o, inb, cnt⟩ rt fl) w e w')) fun e w' h => by
         have h2 := come_op h hL HB5.out HI.out
         rw [hq]
         exact ⟨_, h2.1, hid h2⟩)
       clear hL hT hb5 hT5 hbxl5 hrn hm5 hp5 hfull5 hempty5 hlen hbx0 hbb hba hQall hAll hb15 hq hcome
       go_wp2_with fail
       refine HC5.out.mono ?_
       rintro e w6 ⟨rfl, rfl⟩
       go_wp2_with fail
       refine HCome.out.mono ?_
       rintro e w4 ⟨q, rfl, HOp⟩
       go_wp2_with fail
       go_ret
       exact HOp.out
  · have he1 : (er == 0) = false := by simpa using he0
    go_wp2_with fail
    go_ret
    exact err_op (by unfold doneS; rw [HE.out, if_pos he0]) HI.out HB3.out

end Go.Proofs.Ytnloedhcginopaa.TreY

/- window.Join: counts together. -/
namespace Go.Proofs.Ytnloedhcginopaa.TreWa
set_option linter.unusedVariables false
open Go.ChangeShapes Go.WideShapes Go.ChangeAt Go.RowKit Base WinM WinA WinB WinC WinD WinE WinF WinG WinH WinI WinJ WinK

/-- n counts that lie in memory -/
def CAt (w : World) (a : Option Addr) (n : Nat) (f : Nat → Cnt) : Prop := 0 < n → ∃ g o, a = some ⟨g, o, none⟩ ∧ g < w.heap.size ∧ ∀ i, i < n → At6 w g (o + i * 6) (f i)
def zeroC : Cnt := ⟨0, 0, 0, 0, 0, 0⟩
def sumC (f : Nat → Cnt) (n : Nat) : Cnt := ((List.range n).map f).foldl joinM zeroC
theorem sumC_succ (f : Nat → Cnt) (n : Nat) : sumC f (n + 1) = joinM (sumC f n) (f n) := by unfold sumC; simp [List.range_succ]
theorem sumC_fine (f : Nat → Cnt) (n : Nat) (h : ∀ i, i < n → (f i).Right) : (sumC f n).Fine := by
  induction n with
  | zero => show Cnt.Fine ⟨0, 0, 0, 0, 0, 0⟩; unfold Cnt.Fine InN; decide
  | succ n ih => rw [sumC_succ]; exact joinM_fine (ih fun i hi => h i (by omega)) (h n (by omega)).1

theorem at6_below {w w' : World} {g o : Nat} {c : Cnt} (h : At6 w g o c) (hb : Below w.heap.size w w') : At6 w' g o c := by
  obtain ⟨h1, h2, h3, h4, h5, h6⟩ := h
  have k : ∀ {p : Addr} {v : Value}, w.cell? p = some v → w'.cell? p = some v := fun {p v} h => (hb.cell (World.block_lt_of_cell? _ _ h)).trans h
  exact ⟨k h1, k h2, k h3, k h4, k h5, k h6⟩

set_option maxRecDepth 100000 in
set_option maxHeartbeats 4000000 in
theorem wjoin_any (a : Option Addr) (n cap : Nat) (f : Nat → Cnt) (w : World) (hn : n ≤ 9223372036854775807) (hc : CAt w a n f) (hr : ∀ i, i < n → (f i).Right) :
    Calls Try.prog 55 #[.slice a n cap] w fun e w' => e = .returned (cv (sumC f n)) ∧ Below w.heap.size w w' := by
  have HH := hid (And.intro hc hr)
  clear hc hr
  have h0 : ((w.alloc (.cells (cl zeroC) 32)).alloc (.cells (cl zeroC) 32)).heap[w.heap.size]? = some (.cells (cl zeroC) 32) := (heap_alloc_old _ _ (by simp)).trans (heap_alloc_new _ _)
  have h1 : ((w.alloc (.cells (cl zeroC) 32)).alloc (.cells (cl zeroC) 32)).heap[w.heap.size + 1]? = some (.cells (cl zeroC) 32) := by have := heap_alloc_new (w.alloc (.cells (cl zeroC) 32)) (.cells (cl zeroC) 32); simpa using this
  have hb0 : Below w.heap.size w ((w.alloc (.cells (cl zeroC) 32)).alloc (.cells (cl zeroC) 32)) := (by repeat (first | (with_reducible exact Below.refl _ _) | (with_reducible refine Below.setCell ?_ (by first | (simp; done) | (simp; omega) | omega) _) | (with_reducible refine Below.alloc ?_ (by first | (simp; done) | (simp; omega) | omega) _) | (with_reducible refine Below.drew ?_)))
  have H0 := hid (And.intro h0 (And.intro h1 hb0))
  clear h0 h1 hb0
  unfold cl zeroC at H0
  go_enter Try.func55, Try.ntmps55
  go_wp2_with fail
  go_loopw [8] (fun i wr => ∃ k : Nat, k ≤ n ∧ i = .int .i64 k ∧ wr.heap[w.heap.size]? = some (.cells (cl zeroC) 32) ∧ wr.heap[w.heap.size + 1]? = some (.cells (cl (sumC f k)) 32) ∧ Below w.heap.size w wr) (fun i _ => n - (intOf i).toNat)
  case atStart => exact ⟨0, Nat.zero_le _, rfl, H0.out.1, H0.out.2.1, H0.out.2.2⟩
  case round =>
    obtain ⟨k, hk, rfl, hz, hs, hb⟩ := hrel
    have HZ := hid hz
    have HS := hid hs
    have HB := hid hb
    have hl1 : w.heap.size + 1 < wr.heap.size := (Array.getElem?_eq_some_iff.1 hs).1
    clear hz hs hb
    by_cases hlt : k < n
    · obtain ⟨g, o, rfl, hg, hc⟩ := HH.out.1 (by omega)
      have hR := HH.out.2 k hlt
      have hF := sumC_fine f k (fun i hi => HH.out.2 i (by omega))
      have h6 := at6_below (hc k hlt) (Below.mono HB.out (Nat.le_refl _))
      obtain ⟨d1, d2, d3, d4, d5, d6⟩ := h6
      have hgr : g < wr.heap.size := Nat.lt_of_lt_of_le hg HB.out.size
      obtain ⟨⟨s1, s2, s3, s4, s5, s6⟩, ⟨z1, z2, z3, z4, z5, z6⟩⟩ := cl_at HS.out
      simp only [Nat.zero_add] at s1 s2 s3 s4 s5 s6 z1 z2 z3 z4 z5 z6
      have hki : (k : Int) < n := by omega
      have hki0 : (0 : Int) ≤ k := by omega
      have HSS := hid (sumC_succ f k)
      clear hc
      generalize hfk : f k = c at *
      generalize hsk : sumC f k = S at *
      obtain ⟨c1, c2, c3, c4, c5, c6⟩ := c
      obtain ⟨S1, S2, S3, S4, S5, S6⟩ := S
      dsimp only at d1 d2 d3 d4 d5 d6 s1 s2 s3 s4 s5 s6
      have HF := hid (And.intro hF hR)
      have HW := hid (fun w9 => (wrong_no c1 c2 c3 c4 c5 c6 hR w9).mono (R' := fun e w' => e = .returned (.bool false) ∧ Below w9.heap.size w9 w') (by rintro e w' ⟨rfl, rfl⟩; exact ⟨rfl, (Below.refl _ _).alloc (Nat.le_refl _) _⟩))
      have hA : Below wr.heap.size wr (wr.alloc (.cells #[.int .i64 c1, .int .i64 c2, .int .i64 c3, .int .i64 c4, .int .i64 c5, .int .i64 c6] 32)) := (Below.refl _ _).alloc (Nat.le_refl _) _
      have hA2 : (wr.alloc (.cells #[.int .i64 c1, .int .i64 c2, .int .i64 c3, .int .i64 c4, .int .i64 c5, .int .i64 c6] 32)).heap[wr.heap.size]? = some (.cells #[.int .i64 c1, .int .i64 c2, .int .i64 c3, .int .i64 c4, .int .i64 c5, .int .i64 c6] 32) := heap_alloc_new _ _
      have HA := hid (And.intro hA hA2)
      clear hfk hsk hF hR hA hA2
      go_upto_region 5 with fail
      generalize (wr.alloc (.cells #[.int .i64 c1, .int .i64 c2, .int .i64 c3, .int .i64 c4, .int .i64 c5, .int .i64 c6] 32)) = W1 at *
      obtain ⟨⟨b1, b2, b3, b4, b5, b6⟩, -⟩ := cl_at (c := ⟨c1, c2, c3, c4, c5, c6⟩) HA.out.2
      simp only [Nat.zero_add] at b1 b2 b3 b4 b5 b6
      clear d1 d2 d3 d4 d5 d6 s1 s2 s3 s4 s5 s6 z1 z2 z3 z4 z5 z6
      go_wp2_with fail
      refine (HW.out _).mono ?_
      rintro e w2 ⟨rfl, hb2⟩
      have HB2 := hid (HA.out.1.trans (hb2.mono HA.out.1.size))
      have hS2 : w2.heap[w.heap.size + 1]? = some (.cells (cl ⟨S1, S2, S3, S4, S5, S6⟩) 32) := (HB2.out.block _ hl1).trans HS.out
      have hc2 : w2.heap[wr.heap.size]? = some (.cells (cl ⟨c1, c2, c3, c4, c5, c6⟩) 32) := (hb2.block _ (Array.getElem?_eq_some_iff.1 HA.out.2).1).trans HA.out.2
      have HS2 := hid hS2
      obtain ⟨⟨s1, s2, s3, s4, s5, s6⟩, ⟨z1, z2, z3, z4, z5, z6⟩⟩ := cl_at hS2
      obtain ⟨⟨d1, d2, d3, d4, d5, d6⟩, -⟩ := cl_at hc2
      simp only [Nat.zero_add] at s1 s2 s3 s4 s5 s6 z1 z2 z3 z4 z5 z6 d1 d2 d3 d4 d5 d6
      have hl2 : w.heap.size + 1 < w2.heap.size := (Array.getElem?_eq_some_iff.1 hS2).1
      have HTo := hid (together_one S1 S2 S3 S4 S5 S6 c1 c2 c3 c4 c5 c6 w2.heap.size 0 1 (w2.alloc (.cells #[.int .i64 c1, .int .i64 c2, .int .i64 c3, .int .i64 c4, .int .i64 c5, .int .i64 c6] 32)) HF.out.1 HF.out.2.1 (hid (by have := (cl_at (heap_alloc_new w2 (.cells (cl ⟨c1, c2, c3, c4, c5, c6⟩) 32))).1; exact this)) (by simp))
      have hb3 : Below w2.heap.size w2 (w2.alloc (.cells #[.int .i64 c1, .int .i64 c2, .int .i64 c3, .int .i64 c4, .int .i64 c5, .int .i64 c6] 32)) := (Below.refl _ _).alloc (Nat.le_refl _) _
      have HB3 := hid hb3
      clear hb2 hS2 hc2 b1 b2 b3 b4 b5 b6 hb3
      go_wp2_with fail
      refine HTo.out.mono ?_
      rintro e w4 ⟨rfl, hb4⟩
      have HB4 := hid (HB3.out.trans (hb4.mono HB3.out.size))
      have hS4 : w4.heap[w.heap.size + 1]? = some (.cells (cl ⟨S1, S2, S3, S4, S5, S6⟩) 32) := (HB4.out.block _ hl2).trans HS2.out
      have HS4 := hid hS4
      clear s1 s2 s3 s4 s5 s6 z1 z2 z3 z4 z5 z6 d1 d2 d3 d4 d5 d6 hb4
      obtain ⟨⟨s1, s2, s3, s4, s5, s6⟩, ⟨z1, z2, z3, z4, z5, z6⟩⟩ := cl_at hS4
      simp only [Nat.zero_add] at s1 s2 s3 s4 s5 s6 z1 z2 z3 z4 z5 z6
      generalize hJ : joinM ⟨S1, S2, S3, S4, S5, S6⟩ ⟨c1, c2, c3, c4, c5, c6⟩ = J at *
      obtain ⟨J1, J2, J3, J4, J5, J6⟩ := J
      have HJ := hid hJ
      clear hJ hS4
      unfold cv
      dsimp only
      go_wp2_with fail
      go_roundw
      case rel =>
        have hz4 : w4.heap[w.heap.size]? = some (.cells (cl zeroC) 32) := (HB4.out.block _ (by omega)).trans ((HB2.out.block _ (by omega)).trans HZ.out)
        have hb9 : Below w.heap.size w w4 := HB.out.trans ((HB2.out.mono HB.out.size).trans (HB4.out.mono (Nat.le_trans HB.out.size HB2.out.size)))
        have hq := set6_other w4 (w.heap.size + 1) w.heap.size ⟨J1, J2, J3, J4, J5, J6⟩ (by omega)
        have hq2 := set6_heap (c := ⟨J1, J2, J3, J4, J5, J6⟩) HS4.out
        have hq3 := set6_below hb9 (w.heap.size + 1) ⟨J1, J2, J3, J4, J5, J6⟩ (by omega)
        unfold set6 at hq hq2 hq3
        dsimp only at hq hq2 hq3
        refine ⟨k + 1, hlt, by go_num, ?_, ?_, ?_⟩
        · exact hq.trans hz4
        · rw [HSS.out]; exact hq2
        · exact hq3
      case measure => simp [intOf]; omega
    · obtain rfl : k = n := by omega
      obtain ⟨⟨s1, s2, s3, s4, s5, s6⟩, -⟩ := cl_at HS.out
      obtain ⟨⟨t1, t2, t3, t4, t5, t6⟩, ⟨z1, z2, z3, z4, z5, z6⟩⟩ := cl_at HZ.out
      simp only [Nat.zero_add] at s1 s2 s3 s4 s5 s6 z1 z2 z3 z4 z5 z6 t1 t2 t3 t4 t5 t6
      generalize hsk : sumC f k = S at *
      obtain ⟨S1, S2, S3, S4, S5, S6⟩ := S
      dsimp only at s1 s2 s3 s4 s5 s6
      have HSK := hid hsk
      clear hsk
      have hq3 := set6_below HB.out w.heap.size ⟨S1, S2, S3, S4, S5, S6⟩ (Nat.le_refl _)
      unfold set6 at hq3
      dsimp only at hq3
      have HQ3 := hid hq3
      clear hq3
      go_wp2_with fail
      refine bodyPost_ret (v := cv ⟨S1, S2, S3, S4, S5, S6⟩) (by simp [results, Try.results55, go_sem, World.cell?_setCell_same', t1, t2, t3, t4, t5, t6, cv]) rfl ⟨by rw [HSK.out], ?_⟩
      exact HQ3.out

end Go.Proofs.Ytnloedhcginopaa.TreWa

/- stat.Join: nodes together. -/
namespace Go.Proofs.Ytnloedhcginopaa.TreWb
set_option linter.unusedVariables false
open Go.ChangeShapes Go.WideShapes Go.ChangeAt Go.RowKit Base Wri WinM WinA WinB WinC WinD WinE WinF WinG WinH WinI WinJ WinK StaA StaB StaC TreWa TreC TreG TreQ TreF

/-- n nodes in a row -/
def NAt (w : World) (a : Option Addr) (n : Nat) (F : Nat → Nd) (at_ : Nat) : Prop :=
  0 < n → ∃ g o, a = some ⟨g, o, none⟩ ∧ g < w.heap.size ∧ ∀ i, i < n → ∃ S l, w.cell? ⟨g, o + i, none⟩ = some (ptr S.n) ∧ IsNode w S (F i) ∧ NK (F i) l ∧ l ≤ at_
theorem NAt.below {w w' : World} {a : Option Addr} {n : Nat} {F : Nat → Nd} {at_ : Nat} (h : NAt w a n F at_) (hb : Below w.heap.size w w') : NAt w' a n F at_ := fun h0 => by
  obtain ⟨g, o, e, hg, hc⟩ := h h0
  refine ⟨g, o, e, Nat.lt_of_lt_of_le hg hb.size, fun i hi => ?_⟩
  obtain ⟨S, l, h1, h2, h3, h4⟩ := hc i hi
  exact ⟨S, l, (hb.cell (p := ⟨g, o + i, none⟩) hg).trans h1, h2.below hb, h3, h4⟩
def entS (F : Nat → Nd) (n : Nat) : Int := ((List.range n).map fun i => (F i).entries).sum
theorem entS_succ (F : Nat → Nd) (n : Nat) : entS F (n + 1) = entS F n + (F n).entries := by unfold entS; simp [List.range_succ]
theorem entS_bound (F : Nat → Nd) (n : Nat) (h : ∀ i, i < n → 0 ≤ (F i).entries ∧ (F i).entries ≤ 4096) : 0 ≤ entS F n ∧ entS F n ≤ n * 4096 := by
  induction n with
  | zero => unfold entS; simp
  | succ n ih =>
    rw [entS_succ]
    have h1 := ih fun i hi => h i (by omega)
    have h2 := h n (by omega)
    omega

def cl6 (c : Cnt) : List Value := [.int .i64 c.pass, .int .i64 c.block, .int .i64 c.done, .int .i64 c.errs, .int .i64 c.rt, .int .i64 c.low]
def cells6 (f : Nat → Cnt) (n : Nat) : List Value := ((List.range n).map f).flatMap cl6
theorem cells6_succ (f : Nat → Cnt) (n : Nat) : cells6 f (n + 1) = cells6 f n ++ cl6 (f n) := by unfold cells6; simp [List.range_succ]
theorem cells6_len (f : Nat → Cnt) (n : Nat) : (cells6 f n).length = n * 6 := by
  induction n with
  | zero => rfl
  | succ n ih => rw [cells6_succ, List.length_append, ih]; simp [cl6]; omega
theorem cells6_at (f : Nat → Cnt) (n : Nat) : ∀ i, i < n → ∀ j v, (cl6 (f i))[j]? = some v → (cells6 f n)[i * 6 + j]? = some v := by
  induction n with
  | zero => intro i hi; omega
  | succ n ih =>
    intro i hi j v hv
    have hj : j < 6 := by have := (List.getElem?_eq_some_iff.1 hv).1; simpa [cl6] using this
    rw [cells6_succ]
    by_cases e : i = n
    · subst e
      rw [List.getElem?_append_right (by rw [cells6_len]; omega), cells6_len, show i * 6 + j - i * 6 = j by omega]
      exact hv
    · rw [List.getElem?_append_left (by rw [cells6_len]; omega)]
      exact ih i (by omega) j v hv
theorem row6_at {w : World} {B : Nat} {va : Option Addr} {vc n : Nat} {f : Nat → Cnt} (h : w.ownsRow B 32 6 (.slice va n vc) n (cells6 f n)) : CAt w va n f := fun h0 => by
  rcases h.2 with ⟨_, hz⟩ | ⟨g, cap, cur, e, hg, hgb, _⟩
  · omega
  · injection e with e1 e2 e3
    subst e1 e3
    refine ⟨g, 0, rfl, (Array.getElem?_eq_some_iff.1 hgb).1, fun i hi => ?_⟩
    have hc : ∀ j v, (cl6 (f i))[j]? = some v → w.cell? ⟨g, 0 + i * 6 + j, none⟩ = some v := fun j v hv => by
      have := World.ownsRow.cells h (g := g) rfl _ _ (cells6_at f n i hi j v hv)
      rw [Go.WideShapes.add_plain] at this
      rw [← this]
      congr 2
      omega
    exact ⟨hc 0 _ rfl, hc 1 _ rfl, hc 2 _ rfl, hc 3 _ rfl, hc 4 _ rfl, hc 5 _ rfl⟩
theorem infoC : (Try.prog.info? 32).map (fun i => (i.zero, i.size, i.bytes)) = some (some (.agg #[.int .i64 0, .int .i64 0, .int .i64 0, .int .i64 0, .int .i64 0, .int .i64 0]), 6, 48) := by kernel_rfl
theorem row6_below {w w' : World} {B : Nat} {v : Value} {n : Nat} {xs : List Value} {T : TypeId} (h : w.ownsRow B T 6 v n xs) (hb : Below w.heap.size w w') : w'.ownsRow B T 6 v n xs := owns_keep h (fun g hg => hb.block g (h.lt g hg).2)
theorem box6_row (w : World) (c1 c2 c3 c4 c5 c6 : Int) : ∀ (j : Nat) (u : Value), ([.int .i64 c1, .int .i64 c2, .int .i64 c3, .int .i64 c4, .int .i64 c5, .int .i64 c6] : List Value)[j]? = some u → (w.alloc (.cells #[.int .i64 c1, .int .i64 c2, .int .i64 c3, .int .i64 c4, .int .i64 c5, .int .i64 c6] 32)).cell? ((⟨w.heap.size, 0, none⟩ : Addr).add j) = some u := by
  intro j u hu
  rw [Go.WideShapes.add_plain, Nat.zero_add]
  have := heap_alloc_new w (.cells #[.int .i64 c1, .int .i64 c2, .int .i64 c3, .int .i64 c4, .int .i64 c5, .int .i64 c6] 32)
  simp only [World.cell?, this]
  simpa using hu

set_option maxRecDepth 100000 in
set_option maxHeartbeats 4000000 in
theorem sjoin_any (a : Option Addr) (n cap at_ : Nat) (F : Nat → Nd) (w : World) (hn : n ≤ 1000000) (hat : at_ ≤ 1152921504606846976) (hN : NAt w a n F at_) :
    Calls Try.prog 25 #[.int .i64 at_, .slice a n cap] w fun e w' => e = .returned (.tuple #[cv (sumC (fun i => sumN (F i) at_) n), .int .i64 (entS F n), .int .i64 0]) ∧ Below w.heap.size w w' := by
  obtain ⟨i0, hi, hz0, hz1, hz2⟩ := info_parts infoC
  have HN := hid hN
  have hNK : ∀ i, i < n → ∃ l, NK (F i) l ∧ l ≤ at_ := fun i hi => by
    obtain ⟨g, o, e, hg, hc⟩ := hN (by omega)
    obtain ⟨S, l, h1, h2, h3, h4⟩ := hc i hi
    exact ⟨l, h3, h4⟩
  have HK := hid hNK
  have h0 : (w.alloc (.cells (cl zeroC) 32)).heap[w.heap.size]? = some (.cells (cl zeroC) 32) := heap_alloc_new _ _
  have hb0 : Below w.heap.size w (w.alloc (.cells (cl zeroC) 32)) := (by repeat (first | (with_reducible exact Below.refl _ _) | (with_reducible refine Below.setCell ?_ (by first | (simp; done) | (simp; omega) | omega) _) | (with_reducible refine Below.alloc ?_ (by first | (simp; done) | (simp; omega) | omega) _) | (with_reducible refine Below.drew ?_)))
  have H0 : Hid ((w.alloc (.cells #[.int .i64 0, .int .i64 0, .int .i64 0, .int .i64 0, .int .i64 0, .int .i64 0] 32)).heap[w.heap.size]? = some (.cells (cl zeroC) 32) ∧ Below w.heap.size w (w.alloc (.cells #[.int .i64 0, .int .i64 0, .int .i64 0, .int .i64 0, .int .i64 0, .int .i64 0] 32))) := hid (And.intro h0 hb0)
  clear h0 hb0 hN hNK
  go_enter Try.func25, Try.ntmps25
  go_wp2_with fail
  go_loopw [7, 8, 15] (fun l fl i wr => ∃ (k : Nat) (va : Option Addr) (vc : Nat) (es : Int), k ≤ n ∧ i = .int .i64 k ∧ l = .slice va k vc ∧ fl = .int .i64 es ∧ es = entS F k ∧ wr.ownsRow (w.heap.size + 1) 32 6 (.slice va k vc) k (cells6 (fun i => sumN (F i) at_) k) ∧ wr.heap[w.heap.size]? = some (.cells (cl zeroC) 32) ∧ Below w.heap.size w wr) (fun _ _ i _ => n - (intOf i).toNat)
  case atStart => exact ⟨0, none, 0, 0, Nat.zero_le _, rfl, rfl, rfl, rfl, ⟨rfl, .inl ⟨rfl, rfl⟩⟩, H0.out.1, H0.out.2⟩
  case round =>
    obtain ⟨k, va, vc, es, hk, rfl, rfl, rfl, hes, hrow, hz, hb⟩ := hrel
    have HRow := hid hrow
    have HZ := hid hz
    have HB := hid hb
    have HES := hid hes
    have hzl : w.heap.size < wr.heap.size := (Array.getElem?_eq_some_iff.1 hz).1
    have HZL := hid hzl
    clear hrow hz hb hes hzl
    by_cases hlt : k < n
    · obtain ⟨g, o, rfl, hg0, hc⟩ := HN.out (by omega)
      obtain ⟨S, l, h1, h2, h3, h4⟩ := hc k hlt
      have hg : g < wr.heap.size := Nat.lt_of_lt_of_le hg0 HB.out.size
      have hsnl := h2.lt
      have h1 := (HB.out.cell (p := ⟨g, o + k, none⟩) hg0).trans h1
      have h2 := h2.below HB.out
      have HSum := hid (nsum_yes S (F k) l at_ wr h2 h3.ok hat h4)
      have hbd := entS_bound F k (fun i hi => by obtain ⟨l', h5, _⟩ := HK.out i (by omega); exact ⟨h5.ok.e1, h5.ok.e2⟩)
      have hent : 0 ≤ (F k).entries ∧ (F k).entries ≤ 4096 := ⟨h3.ok.e1, h3.ok.e2⟩
      have hc0 := h2.cells.1
      rw [← HES.out] at hbd
      have hki : (k : Int) < n := by omega
      have hki0 : (0 : Int) ≤ k := by omega
      clear hc h2 h3 h4 hg0
      generalize hsn : S.n = sn at *
      generalize hsm : sumN (F k) at_ = c at *
      obtain ⟨c1, c2, c3, c4, c5, c6⟩ := c
      have HSM := hid hsm
      clear hsm
      go_wp2_with fail
      refine HSum.out.mono ?_
      rintro e w2 ⟨rfl, hb2⟩
      have HB2 := hid (HB.out.trans (hb2.mono HB.out.size))
      have HBs := hid hb2
      have hrow4 : ((w2.alloc (.cells #[.int .i64 c1, .int .i64 c2, .int .i64 c3, .int .i64 c4, .int .i64 c5, .int .i64 c6] 32)).alloc (.cells #[.int .i64 c1, .int .i64 c2, .int .i64 c3, .int .i64 c4, .int .i64 c5, .int .i64 c6] 32)).ownsRow (w.heap.size + 1) 32 6 (.slice va k vc) k (cells6 (fun i => sumN (F i) at_) k) := World.ownsRow.alloc (World.ownsRow.alloc (row6_below HRow.out hb2) _) _
      have hsz4 : w.heap.size + 1 ≤ ((w2.alloc (.cells #[.int .i64 c1, .int .i64 c2, .int .i64 c3, .int .i64 c4, .int .i64 c5, .int .i64 c6] 32)).alloc (.cells #[.int .i64 c1, .int .i64 c2, .int .i64 c3, .int .i64 c4, .int .i64 c5, .int .i64 c6] 32)).heap.size := by have := HZL.out; have := hb2.size; simp; omega
      have HSZ := hid hsz4
      have hc2 : w2.cell? ⟨sn, 0, none⟩ = some (.int .i64 (F k).entries) := (hb2.cell (p := ⟨sn, 0, none⟩) (Nat.lt_of_lt_of_le hsnl HB.out.size)).trans hc0
      have hsn2 : sn < w2.heap.size := Nat.lt_of_lt_of_le hsnl HB2.out.size
      have HHC := hid (And.intro hc2 hsn2)
      have hzl : w.heap.size < w2.heap.size := Nat.lt_of_lt_of_le HZL.out hb2.size
      have HZ4 : Hid (((w2.alloc (.cells #[.int .i64 c1, .int .i64 c2, .int .i64 c3, .int .i64 c4, .int .i64 c5, .int .i64 c6] 32)).alloc (.cells #[.int .i64 c1, .int .i64 c2, .int .i64 c3, .int .i64 c4, .int .i64 c5, .int .i64 c6] 32)).heap[w.heap.size]? = some (.cells (cl zeroC) 32) ∧ Below w.heap.size w ((w2.alloc (.cells #[.int .i64 c1, .int .i64 c2, .int .i64 c3, .int .i64 c4, .int .i64 c5, .int .i64 c6] 32)).alloc (.cells #[.int .i64 c1, .int .i64 c2, .int .i64 c3, .int .i64 c4, .int .i64 c5, .int .i64 c6] 32)) ∧ w.heap.size < ((w2.alloc (.cells #[.int .i64 c1, .int .i64 c2, .int .i64 c3, .int .i64 c4, .int .i64 c5, .int .i64 c6] 32)).alloc (.cells #[.int .i64 c1, .int .i64 c2, .int .i64 c3, .int .i64 c4, .int .i64 c5, .int .i64 c6] 32)).heap.size ∧ ((w2.alloc (.cells #[.int .i64 c1, .int .i64 c2, .int .i64 c3, .int .i64 c4, .int .i64 c5, .int .i64 c6] 32)).alloc (.cells #[.int .i64 c1, .int .i64 c2, .int .i64 c3, .int .i64 c4, .int .i64 c5, .int .i64 c6] 32)).cell? ⟨sn, 0, none⟩ = some (.int .i64 (F k).entries)) := hid ⟨(heap_alloc_old _ _ (by simp; omega)).trans ((heap_alloc_old _ _ hzl).trans ((hb2.block _ HZL.out).trans HZ.out)), (HB2.out.alloc HB2.out.size _).alloc (by have := HB2.out.size; simp; omega) _, by simp; omega, by rw [World.cell?_of_block (a := ⟨sn, 0, none⟩) (heap_alloc_old _ _ (by simp; omega)), World.cell?_of_block (a := ⟨sn, 0, none⟩) (heap_alloc_old _ _ hsn2)]; exact hc2⟩
      have HFl := hid (fun w9 h => flight_at sn (F k).entries w9 h)
      have hnews : ∀ (j : Nat) (u : Value), ([.int .i64 c1, .int .i64 c2, .int .i64 c3, .int .i64 c4, .int .i64 c5, .int .i64 c6] : List Value)[j]? = some u → ((w2.alloc (.cells #[.int .i64 c1, .int .i64 c2, .int .i64 c3, .int .i64 c4, .int .i64 c5, .int .i64 c6] 32)).alloc (.cells #[.int .i64 c1, .int .i64 c2, .int .i64 c3, .int .i64 c4, .int .i64 c5, .int .i64 c6] 32)).cell? ((⟨w2.heap.size + 1, 0, none⟩ : Addr).add j) = some u := by
        have hx := box6_row (w2.alloc (.cells #[.int .i64 c1, .int .i64 c2, .int .i64 c3, .int .i64 c4, .int .i64 c5, .int .i64 c6] 32)) c1 c2 c3 c4 c5 c6
        rw [show (w2.alloc (.cells #[.int .i64 c1, .int .i64 c2, .int .i64 c3, .int .i64 c4, .int .i64 c5, .int .i64 c6] 32)).heap.size = w2.heap.size + 1 by simp] at hx
        exact hx
      clear hb2 h1 hc0 hzl hsz4
      unfold cv
      dsimp only
      go_wp2_with (first
        | (at_builtin
           refine wpList_append_own_at _ rfl _ _ 92 rfl (w.heap.size + 1) 32 i0 (.agg #[.int .i64 0, .int .i64 0, .int .i64 0, .int .i64 0, .int .i64 0, .int .i64 0]) 6 48 Try.underlying92 hi hz0 hz1 hz2 rfl (by decide) (Value.slice va k vc) k _ rfl hrow4 ⟨w2.heap.size + 1, 0, none⟩ 1 1 [.int .i64 c1, .int .i64 c2, .int .i64 c3, .int .i64 c4, .int .i64 c5, .int .i64 c6] rfl rfl hnews (by intro u hu; simp at hu; rcases hu with rfl | rfl | rfl | rfl | rfl | rfl <;> rfl) (by unfold maxLen; omega) (by omega) HSZ.out ?_
           intro v6 w6 hown6 hgr6 hnil6 hat6
           obtain ⟨vb, vd, rfl⟩ := owns_shape hown6))
      have hgne : ∀ j, j < w.heap.size + 1 → some j ≠ (Value.slice va k vc).ownBlock := fun j hj e => by have := (hrow4.lt j e.symm).1; omega
      have HB6 : Hid (Below w.heap.size w w6) := hid (HZ4.out.2.1.grown hgr6 (by have := HZ4.out.2.2.1; omega) (fun j hj => by have := (hrow4.lt j hj).1; omega))
      have HZ6 : Hid (w6.heap[w.heap.size]? = some (.cells (cl zeroC) 32)) := hid ((hgr6.block _ HZ4.out.2.2.1 (hgne _ (by omega))).trans HZ4.out.1)
      have hc6 : w6.cell? ⟨sn, 0, none⟩ = some (.int .i64 (F k).entries) := (World.cell?_of_block (a := ⟨sn, 0, none⟩) (hgr6.block sn (by have := HHC.out.2; simp; omega) (hgne sn (by omega)))).trans HZ4.out.2.2.2
      have HO6 := hid hown6
      have HF6 := hid (HFl.out w6 hc6)
      clear hown6 hgr6 hnil6 hat6 hrow4 hgne hnews HFl hc6 hc2
      generalize hent2 : (F k).entries = en at *
      go_wp2_with fail
      refine HF6.out.mono ?_
      rintro e w7 ⟨rfl, rfl⟩
      have hw64 : wrap64 (es + en) = es + en := by unfold wrap64; omega
      go_wp2_with fail
      go_roundw
      case rel => exact ⟨k + 1, vb, vd, es + en, hlt, by go_num, rfl, rfl, by rw [entS_succ, HES.out, hent2], by rw [cells6_succ, HSM.out]; exact HO6.out, HZ6.out, HB6.out⟩
      case measure => simp [intOf]; omega
    · obtain rfl : k = n := by omega
      have HJ := hid (wjoin_any va k vc (fun i => sumN (F i) at_) wr (by omega) (row6_at HRow.out) (fun i hi => by obtain ⟨l, h, _⟩ := HK.out i hi; exact h.sum at_))
      generalize hJq : sumC (fun i => sumN (F i) at_) k = J at *
      obtain ⟨J1, J2, J3, J4, J5, J6⟩ := J
      have HJQ := hid hJq
      clear hJq
      go_wp2_with fail
      refine HJ.out.mono ?_
      rintro e w2 ⟨rfl, hb2⟩
      have HB2 : Hid (Below w.heap.size w w2) := hid (HB.out.trans (hb2.mono HB.out.size))
      obtain ⟨⟨t1, t2, t3, t4, t5, t6⟩, ⟨z1, z2, z3, z4, z5, z6⟩⟩ := cl_at ((hb2.block _ HZL.out).trans HZ.out)
      simp only [Nat.zero_add] at z1 z2 z3 z4 z5 z6 t1 t2 t3 t4 t5 t6
      have hq3 := set6_below HB2.out w.heap.size ⟨J1, J2, J3, J4, J5, J6⟩ (Nat.le_refl _)
      unfold set6 at hq3
      dsimp only at hq3
      have HQ3 := hid hq3
      clear hq3 hb2
      unfold cv
      dsimp only
      go_wp2_with fail
      refine bodyPost_ret (v := .tuple #[cv ⟨J1, J2, J3, J4, J5, J6⟩, .int .i64 es, .int .i64 0]) (by simp [results, Try.results25, go_sem, World.cell?_setCell_same', t1, t2, t3, t4, t5, t6, cv]) rfl ⟨by rw [HES.out, HJQ.out], ?_⟩
      exact HQ3.out

end Go.Proofs.Ytnloedhcginopaa.TreWb

/- New, Last, All and Sum of a tree. -/
namespace Go.Proofs.Ytnloedhcginopaa.TreZ
set_option linter.unusedVariables false
open Go.ChangeShapes Go.WideShapes Go.ChangeAt Go.RowKit Base Wri Map TreA TreB TreC TreD TreE TreF TreG TreH TreJ TreK TreL TreP TreQ TreR TreS TreT TreV TreW TreX TreY TreWa TreWb WinM WinA WinB WinC WinD WinE WinF WinG WinH WinI WinJ WinK WinN StaA StaB StaC

def St.new : St := ⟨[], 0⟩

set_option maxHeartbeats 1000000 in
theorem New_any (w : World) : Calls Try.prog 14 #[] w fun e w' => ∃ p, e = .returned (ptr p) ∧ w.heap.size ≤ p ∧ (∃ own, (∀ k, k < w.heap.size → own k = 0) ∧ IsT w' own p TreZ.St.new) ∧ Below w.heap.size w w' := by
  have hmk : (Instr.makeMap 55 none).run Try.prog w = .ok (.map (some w.heap.size)) (w.alloc (.map #[] 0)) := run_makeMap _ _
  have H0 : Hid (TMem ((w.alloc (.map #[] 0)).alloc (.cells #[.map (some w.heap.size), .slice none 0 0, .int .i64 0] 59)) (fun k => if k = w.heap.size + 1 then 1 else if k = w.heap.size then 2 else 0) (w.heap.size + 1) w.heap.size (.slice none 0 0) [] 0 0) := hid {
    blk := by have := heap_alloc_new (w.alloc (.map #[] 0)) (.cells #[.map (some w.heap.size), .slice none 0 0, .int .i64 0] 59); simpa using this
    map := ⟨_, _, (MapOf.made w).of_block (heap_alloc_old _ _ (by simp)), fun x => rfl⟩
    row := ⟨rfl, .inl ⟨rfl, rfl⟩⟩
    nds := fun i e he => by simp at he
    op := by simp
    ob := by simp
    orow := fun g hg => by cases hg
    old := fun k hk => by
      simp
      by_cases h1 : k = w.heap.size + 1
      · omega
      · by_cases h2 : k = w.heap.size
        · omega
        · simp [h1, h2] at hk
    fit := fun e he => by cases he
    nd := by simp
    len := by simp }
  have HB : Hid (Below w.heap.size w ((w.alloc (.map #[] 0)).alloc (.cells #[.map (some w.heap.size), .slice none 0 0, .int .i64 0] 59))) := hid (by repeat (first | (with_reducible exact Below.refl _ _) | (with_reducible refine Below.setCell ?_ (by first | (simp; done) | (simp; omega) | omega) _) | (with_reducible refine Below.alloc ?_ (by first | (simp; done) | (simp; omega) | omega) _) | (with_reducible refine Below.drew ?_)))
  go_enter Try.func14, Try.ntmps14
  go_wp2_with fail
  go_ret
  exact ⟨_, rfl, Nat.le_succ _, ⟨_, fun k hk => by rw [if_neg (by omega), if_neg (by omega)], w.heap.size, _, [], rfl, H0.out⟩, HB.out⟩

set_option maxHeartbeats 400000 in
theorem Last_any (p : Nat) (s : St) (own : Nat → Nat) (w : World) (hT : IsT w own p s) : Calls Try.prog 11 #[ptr p] w fun e w' => e = .returned (.int .i64 s.last) ∧ w = w' := by
  obtain ⟨b, v, L, hL, hT⟩ := hT
  obtain ⟨-, -, h2, -⟩ := hT.cells
  clear hT
  go_enter Try.func11, Try.ntmps11
  go_wp2_with fail
  go_ret
  exact ⟨rfl, rfl⟩

set_option maxRecDepth 20000 in
set_option maxHeartbeats 1000000 in
theorem clone_any (v : Value) (B : Nat) (l : List Key) (w : World) (h : KRow w B v l) (hl : l.length ≤ 1000) : Calls Try.prog 22 #[v] w fun e w' => (∃ va vc, e = .returned (.slice va l.length vc) ∧ KRow w' w.heap.size (.slice va l.length vc) l) ∧ Below w.heap.size w w' := by
  have hrow := h
  rcases h.2 with ⟨rfl, hz⟩ | ⟨g, cap, cur, rfl, _, hgb, _⟩
  · obtain rfl : l = [] := List.eq_nil_of_length_eq_zero hz
    have he : ∀ wx, (binOp .eql 26 (.slice none 0 0) (.slice none 0 0)).run Try.prog wx = .ok (.bool true) wx := fun wx => Go.Lib.run_eql_slice_nil wx _ 30 _ _ _ _ _ Try.underlying26
    clear hrow
    go_enter Try.func22, Try.ntmps22
    go_wp2_with fail
    go_ret
    exact ⟨⟨_, _, rfl, ⟨rfl, .inl ⟨rfl, rfl⟩⟩⟩, Below.refl _ _⟩
  · obtain ⟨n, hn⟩ : ∃ n, l.length = n := ⟨_, rfl⟩
    rw [hn] at hrow ⊢
    have he : ∀ wx, (binOp .eql 26 (.slice (some ⟨g, 0, none⟩) n cap) (.slice none 0 0)).run Try.prog wx = .ok (.bool false) wx := fun wx => Go.Lib.run_eql_slice_nil wx _ 30 _ _ _ _ _ Try.underlying26
    have hb0 : Below w.heap.size w (w.alloc (.cells #[] 30)) := (Below.refl _ _).alloc (Nat.le_refl _) _
    have h0 : KRow (w.alloc (.cells #[] 30)) w.heap.size (.slice (some ⟨w.heap.size, 0, none⟩) 0 0) [] := ⟨rfl, .inr ⟨w.heap.size, 0, #[], rfl, Nat.le_refl _, heap_alloc_new _ _, Nat.le_refl _, Nat.zero_le _, rfl, rfl⟩⟩
    have HR := hid (And.intro h0 (And.intro (KRow.below hrow hb0) hb0))
    have HN := hid hn
    have hl2 : ([] : List Key).length + l.length ≤ 1000000000 := by simp; omega
    have hsz : w.heap.size ≤ (w.alloc (.cells #[] 30)).heap.size := by simp
    have HL2 := hid (And.intro hl2 hsz)
    clear hrow hgb h0 hb0 hn hl2 hsz hl
    go_enter Try.func22, Try.ntmps22
    go_wp2_with (at_builtin; refine wpList_append_keys rfl _ _ rfl rfl rfl HR.out.1 HR.out.2.1 HL2.out.2 HL2.out.1 ?_; intro v6 w6 hown6 hgr6 hat6; obtain ⟨vb, vd, rfl⟩ := owns_shape hown6)
    go_ret
    rw [List.nil_append] at hown6
    have hlen : (([] : List Key) ++ l).length = n := by simp [HN.out]
    refine ⟨⟨vb, vd, by simp [HN.out], by simpa [HN.out] using hown6⟩, HR.out.2.2.grown hgr6 (by simp) (fun k hk => by have h2 := (KRow.has HR.out.1 k hk).1; exact h2)⟩

set_option maxRecDepth 20000 in
set_option maxHeartbeats 1000000 in
theorem All_any (p : Nat) (s : St) (own : Nat → Nat) (w : World) (hT : IsT w own p s) : Calls Try.prog 9 #[ptr p] w fun e w' => (∃ va vc, e = .returned (.slice va s.keys.length vc) ∧ KRow w' w.heap.size (.slice va s.keys.length vc) s.keys) ∧ Below w.heap.size w w' := by
  obtain ⟨b, v, L, hL, hT⟩ := hT
  obtain ⟨-, h1, -, -⟩ := hT.cells
  have hlen := hT.len
  have hr := hT.row
  rw [keys_ents hL] at hr
  obtain ⟨va, vc, rfl⟩ := owns_shape hr
  have HC := hid (clone_any _ 0 _ w hr (by rw [← keys_ents hL, List.length_map]; omega))
  clear hr hlen
  clear hT
  go_enter Try.func9, Try.ntmps9
  go_wp2_with fail
  refine HC.out.mono ?_
  rintro e w2 ⟨⟨vb, vd, rfl, hrow⟩, hb⟩
  have HR := hid (And.intro hrow hb)
  clear hrow hb
  go_wp2_with fail
  go_ret
  exact ⟨⟨vb, vd, rfl, HR.out.1⟩, HR.out.2⟩

def exS (s : St) (l : List Key) : List Nd := l.filterMap fun x => (s.ks.find? fun e => decide (e.1 = x)).map (·.2)
theorem exS_ents {s : St} {L : List Ent} (hL : L.map (fun e => (e.key, e.N)) = s.ks) (l : List Key) : (exL L l).map (·.N) = exS s l := by
  unfold exL exS
  rw [List.map_filterMap, ← hL]
  congr 1
  funext x
  rw [List.find?_map, Option.map_map]
  rfl
def joinS (l : List Nd) (t : Nat) : Cnt := (l.map fun N => sumN N t).foldl joinM zeroC
def flightS (l : List Nd) : Int := (l.map (·.entries)).sum
def sumS (s : St) (t : Int) (l : List Key) : Cnt × Int × Int := if refR s.last t ≠ 0 then (zeroC, 0, refR s.last t) else if !allS s l then (zeroC, 0, 4) else (joinS (exS s l) t.toNat, flightS (exS s l), 0)

theorem map_range {α β : Type} (l : List α) (d : α) (f : α → β) : (List.range l.length).map (fun i => f (l.getD i d)) = l.map f := by
  apply List.ext_getElem
  · simp
  · intro i h1 h2
    have hi : i < l.length := by simpa using h2
    simp [List.getD_eq_getElem?_getD, List.getElem?_eq_getElem hi]

/-- the row of these nodes, as stat.Join wants it -/
theorem nodes_nat {w : World} {own : Nat → Nat} {p b B t : Nat} {v vn : Value} {L : List Ent} {last top : Nat} {s : St} {l : List Key} {f : Nat → Key} {n : Nat} (hL : L.map (fun e => (e.key, e.N)) = s.ks) (hT : TMem w own p b v L last top) (hf : firstK f n = l) (ht : top ≤ t)
    (h : w.ownsRow B 49 1 vn (nodesL L f n).length (nodesL L f n)) (hn : n ≤ 1000000) :
    ∃ a m c F, vn = .slice a m c ∧ m ≤ 1000000 ∧ NAt w a m F t ∧ sumC (fun i => sumN (F i) t) m = joinS (exS s l) t ∧ entS F m = flightS (exS s l) := by
  have hle := nodesL_len L f n
  obtain ⟨a, c, rfl⟩ := owns_shape h
  have hex := exL_nodes L f n
  rw [hf] at hex
  have hlen : (nodesL L f n).length = (exL L l).length := by rw [hex, List.length_map]
  let d : Ent := ⟨default, ⟨0, 0, none, 0, none⟩, Nd.new⟩
  refine ⟨a, _, c, fun i => ((exL L l).getD i d).N, rfl, by omega, fun h0 => ?_, ?_, ?_⟩
  · obtain ⟨g, c', e, hg, hgl, hcell⟩ := row1_at h h0
    injection e with e1 e2 e3
    subst e1
    refine ⟨g, 0, rfl, hgl, fun i hi => ?_⟩
    have hi2 : i < (exL L l).length := by omega
    have hgd : (exL L l).getD i d = (exL L l)[i] := by rw [List.getD_eq_getElem?_getD, List.getElem?_eq_getElem hi2]; rfl
    have hmem := ((exL_mem hT.nd l _).1 (List.getElem_mem hi2)).1
    obtain ⟨j, hj, hje⟩ := List.getElem_of_mem hmem
    obtain ⟨hnode, ⟨l', hl', hK⟩, -⟩ := hT.nds j _ (List.getElem?_eq_getElem hj)
    rw [hje] at hnode hK
    dsimp only
    rw [hgd, Nat.zero_add]
    refine ⟨_, l', hcell i _ ?_, hnode, hK, by omega⟩
    rw [hex, List.getElem?_map, List.getElem?_eq_getElem hi2]
    rfl
  · unfold sumC joinS
    rw [hlen, ← exS_ents hL, List.map_map, map_range (exL L l) d (fun e => sumN e.N t)]
    rfl
  · unfold entS flightS
    rw [hlen, ← exS_ents hL, List.map_map, map_range (exL L l) d (fun e => e.N.entries)]
    rfl

set_option maxRecDepth 20000 in
set_option maxHeartbeats 2000000 in
theorem Sum_any (p : Nat) (s : St) (own : Nat → Nat) (t : Int) (a : Option Addr) (n cap : Nat) (f : Nat → Key) (w : World) (hn : n ≤ 1000000) (hf : ∀ i, i < n → (f i).Fit) (hk : KAt w a n f) (hT : IsT w own p s) :
    Calls Try.prog 10 #[ptr p, .int .i64 t, .slice a n cap] w fun e w' => e = .returned (.tuple #[cv (sumS s t (firstK f n)).1, .int .i64 (sumS s t (firstK f n)).2.1, .int .i64 (sumS s t (firstK f n)).2.2]) ∧ Below w.heap.size w w' := by
  obtain ⟨b, v, L, hL, hT⟩ := hT
  have h0 : (w.alloc (.cells (cl zeroC) 32)).heap[w.heap.size]? = some (.cells (cl zeroC) 32) := heap_alloc_new _ _
  have hb0 : Below w.heap.size w (w.alloc (.cells (cl zeroC) 32)) := (by repeat (first | (with_reducible exact Below.refl _ _) | (with_reducible refine Below.setCell ?_ (by first | (simp; done) | (simp; omega) | omega) _) | (with_reducible refine Below.alloc ?_ (by first | (simp; done) | (simp; omega) | omega) _) | (with_reducible refine Below.drew ?_)))
  obtain ⟨w1, hw1⟩ : ∃ w1, w.alloc (.cells (cl zeroC) 32) = w1 := ⟨_, rfl⟩
  have hw1' : w.alloc (.cells #[.int .i64 0, .int .i64 0, .int .i64 0, .int .i64 0, .int .i64 0, .int .i64 0] 32) = w1 := hw1
  rw [hw1] at h0 hb0
  have hT1 := hT.below hb0
  have hk1 := KAt.below hk hb0
  have HT1 := hid (And.intro hL (And.intro hT1 (And.intro hk1 (And.intro h0 hb0))))
  have HF := hid hf
  have HR := hid (refuses_any p t s.last w1 hT1.cells.2.2.1)
  have hfin : ∀ w2, w2.heap[w.heap.size]? = some (.cells (cl zeroC) 32) → Below w.heap.size w w2 → ∀ J, Below w.heap.size w (set6 w2 w.heap.size J) := fun w2 _ hb J => set6_below hb _ _ (Nat.le_refl _)
  have HFin := hid hfin
  have HW := hid hw1'
  clear hT hk hL hT1 hk1 h0 hb0 hw1 hf hfin hw1'
  go_enter Try.func10, Try.ntmps10
  go_upto_region 1 with fail
  rw [HW.out]
  clear HW
  obtain ⟨er, her⟩ : ∃ er, refR s.last t = er := ⟨_, rfl⟩
  rw [her] at HR
  by_cases he0 : er = 0
  · subst he0
    obtain ⟨k, rfl, hk60, hkl⟩ := refR_zero her
    obtain ⟨-, hT1, hk1, -, -⟩ := HT1.out
    have HHv := hid (have_any p b a n cap f L w1 (by omega) HF.out hk1 hT1.cells.1 hT1.map)
    rw [allK_S HT1.out.1 rfl] at HHv
    obtain ⟨ba, hba⟩ : ∃ ba, allS s (firstK f n) = ba := ⟨_, rfl⟩
    rw [hba] at HHv
    clear hT1 hk1
    go_wp2_with fail
    refine HR.out.mono ?_
    rintro e w2 ⟨rfl, rfl⟩
    go_wp2_with fail
    refine HHv.out.mono ?_
    rintro e w3 ⟨rfl, hb3⟩
    obtain ⟨hL, hT1, hk1, h0, hb0⟩ := HT1.out
    have hz3 := (hb3.block _ (Array.getElem?_eq_some_iff.1 h0).1).trans h0
    have HB3 := hid (hb0.trans (hb3.mono hb0.size))
    cases ba with
    | false =>
      have HQ : Hid (sumS s k (firstK f n) = (zeroC, 0, 4)) := hid (by unfold sumS; rw [if_neg (by rw [her]; simp), hba]; rfl)
      obtain ⟨⟨t1, t2, t3, t4, t5, t6⟩, ⟨z1, z2, z3, z4, z5, z6⟩⟩ := cl_at hz3
      simp only [Nat.zero_add, zeroC] at z1 z2 z3 z4 z5 z6 t1 t2 t3 t4 t5 t6
      have hq3 := HFin.out w3 hz3 HB3.out zeroC
      unfold set6 zeroC at hq3
      dsimp only at hq3
      have HQ3 := hid hq3
      clear hL hT1 hk1 h0 hb0 hb3 hz3 hq3 hba her
      go_wp2_with fail
      refine bodyPost_ret (v := .tuple #[cv zeroC, .int .i64 0, .int .i64 4]) (by simp [results, Try.results10, go_sem, World.cell?_setCell_same', t1, t2, t3, t4, t5, t6, cv, zeroC]) rfl ⟨by rw [HQ.out], ?_⟩
      exact HQ3.out
    | true =>
      have hT3 := hT1.below hb3
      have HNo := hid (nodesOf_any p b a n cap f L w3 hn HF.out (KAt.below hk1 hb3) hT3.cells.1 hT3.map)
      have HZ3 := hid hz3
      have HTT := hid (And.intro hL hT3)
      clear hL hT1 hk1 h0 hb0 hb3 hT3 hz3
      go_wp2_with fail
      refine HNo.out.mono ?_
      rintro e w4 ⟨⟨vn, rfl, hrow⟩, hb4⟩
      obtain ⟨a4, m4, c4, F4, rfl, hm4, hN4, hs4, he4⟩ := nodes_nat HTT.out.1 (HTT.out.2.below hb4) rfl hkl hrow hn
      have HJ := hid (sjoin_any a4 m4 c4 k F4 w4 hm4 hk60 hN4)
      rw [hs4, he4] at HJ
      have HB4 := hid (HB3.out.trans (hb4.mono HB3.out.size))
      have HZ4 := hid ((hb4.block _ (Array.getElem?_eq_some_iff.1 HZ3.out).1).trans HZ3.out)
      have HQ : Hid (sumS s k (firstK f n) = (joinS (exS s (firstK f n)) k, flightS (exS s (firstK f n)), 0)) := hid (by unfold sumS; rw [if_neg (by rw [her]; simp), hba]; simp)
      clear hrow hb4 hm4 hN4 hs4 he4
      generalize joinS (exS s (firstK f n)) k = J at *
      generalize flightS (exS s (firstK f n)) = es at *
      obtain ⟨J1, J2, J3, J4, J5, J6⟩ := J
      go_wp2_with fail
      refine HJ.out.mono ?_
      rintro e w5 ⟨rfl, hb5⟩
      have hz5 := (hb5.block _ (Array.getElem?_eq_some_iff.1 HZ4.out).1).trans HZ4.out
      obtain ⟨⟨t1, t2, t3, t4, t5, t6⟩, ⟨z1, z2, z3, z4, z5, z6⟩⟩ := cl_at hz5
      simp only [Nat.zero_add] at z1 z2 z3 z4 z5 z6 t1 t2 t3 t4 t5 t6
      have hq3 := HFin.out w5 hz5 (HB4.out.trans (hb5.mono HB4.out.size)) ⟨J1, J2, J3, J4, J5, J6⟩
      unfold set6 at hq3
      dsimp only at hq3
      have HQ3 := hid hq3
      clear hb5 hz5 hq3 hba her
      unfold cv
      dsimp only
      go_wp2_with fail
      refine bodyPost_ret (v := .tuple #[cv ⟨J1, J2, J3, J4, J5, J6⟩, .int .i64 es, .int .i64 0]) (by simp [results, Try.results10, go_sem, World.cell?_setCell_same', t1, t2, t3, t4, t5, t6, cv]) rfl ⟨by rw [HQ.out], ?_⟩
      exact HQ3.out
  · have he1 : (er == 0) = false := by simpa using he0
    have HQ : Hid (sumS s t (firstK f n) = (zeroC, 0, er)) := hid (by unfold sumS; rw [if_pos (by rw [her]; exact he0), her])
    obtain ⟨-, -, -, h0, hb0⟩ := HT1.out
    obtain ⟨⟨t1, t2, t3, t4, t5, t6⟩, ⟨z1, z2, z3, z4, z5, z6⟩⟩ := cl_at h0
    simp only [Nat.zero_add, zeroC] at z1 z2 z3 z4 z5 z6 t1 t2 t3 t4 t5 t6
    have hq3 := HFin.out w1 h0 hb0 zeroC
    unfold set6 zeroC at hq3
    dsimp only at hq3
    have HQ3 := hid hq3
    clear h0 hb0 hq3 her
    go_wp2_with fail
    refine HR.out.mono ?_
    rintro e w2 ⟨rfl, rfl⟩
    go_wp2_with fail
    refine bodyPost_ret (v := .tuple #[cv zeroC, .int .i64 0, .int .i64 er]) (by simp [results, Try.results10, go_sem, World.cell?_setCell_same', t1, t2, t3, t4, t5, t6, cv, zeroC]) rfl ⟨by rw [HQ.out], ?_⟩
    exact HQ3.out

end Go.Proofs.Ytnloedhcginopaa.TreZ

/- A tree beside other memory; what must be whatever is asked: the answers. -/
namespace Go.Proofs.Ytnloedhcginopaa.TreAa
set_option linter.unusedVariables false
open Go.ChangeShapes Go.WideShapes Go.ChangeAt Go.RowKit Base Wri Map TreA TreB TreC TreD TreE TreF TreG TreH TreJ TreK TreL TreP TreQ TreR TreS TreT TreV TreW TreX TreY TreWa TreWb TreZ WinM WinA WinB WinC WinD WinE WinF WinG WinH WinI WinJ WinK WinN StaA StaB StaC

/-- a tree, beside memory that stood in w0 -/
structure Tr (w0 : World) (p : Nat) (s : St) (wr : World) (own : Nat → Nat) : Prop where
  t : IsT wr own p s
  bel : Below w0.heap.size w0 wr
  low : ∀ k, k < w0.heap.size → own k = 0

theorem Tr.new_ {w0 : World} {p : Nat} {s : St} {wr : World} {own : Nat → Nat} (h : Tr w0 p s wr own) (k : Nat) (hk : wr.heap.size ≤ k) : own k = 0 := by
  obtain ⟨b, v, L, hL, hT⟩ := h.t
  rcases Nat.eq_zero_or_pos (own k) with e | e
  · exact e
  · exact absurd (hT.old k (by omega)) (by omega)
theorem Tr.below {w0 : World} {p : Nat} {s : St} {wr w' : World} {own : Nat → Nat} (h : Tr w0 p s wr own) (hb : Below wr.heap.size wr w') : Tr w0 p s w' own :=
  ⟨by obtain ⟨b, v, L, hL, hT⟩ := h.t; exact ⟨b, v, L, hL, hT.below hb⟩, h.bel.trans (hb.mono h.bel.size), h.low⟩
theorem Tr.op {w0 : World} {p : Nat} {s : St} {q : Int × St} {wr w' : World} {own : Nat → Nat} {e : Ending} (h : Tr w0 p s wr own) (ho : TOp own p q wr e w') :
    e = .returned (.int .i64 q.1) ∧ ∃ own', Tr w0 p q.2 w' own' ∧ wr.heap.size ≤ w'.heap.size ∧ ∀ k, k < wr.heap.size → own k = 0 → own' k = 0 ∧ w'.heap[k]? = wr.heap[k]? := by
  obtain ⟨h1, own', h2, h3, h4⟩ := ho
  have hs := h.bel.size
  exact ⟨h1, own', ⟨h3, h.bel.trans (h4.below _ hs fun k hk => by
    rcases Nat.lt_or_ge k w0.heap.size with h5 | h5
    · exact absurd (h.low k h5) hk
    · exact h5), fun k hk => (h2 k (by omega)).trans (h.low k hk)⟩, h4.size, fun k hk h0 => ⟨(h2 k hk).trans h0, h4.block k hk fun h5 => h5 h0⟩⟩

def ca : Cl := ⟨0, ⟨#[114]⟩, ⟨#[99]⟩, ⟨#[111]⟩, true, 1⟩
def cb : Cl := ⟨0, ⟨#[114]⟩, ⟨#[99]⟩, ⟨#[]⟩, false, 2⟩
def s1 : St := (passS TreZ.St.new ca).2
def s2 : St := (passS s1 cb).2
theorem pass1 : passS TreZ.St.new ca = (0, s1) := by
  have : (passS TreZ.St.new ca).1 = 0 := by kernel_rfl
  exact Prod.ext this rfl
theorem pass2 : passS s1 cb = (0, s2) := by
  have : (passS s1 cb).1 = 0 := by kernel_rfl
  exact Prod.ext this rfl
theorem keys2 : s2.keys.length = 5 := by kernel_rfl
theorem keys21 : (s2.keys.getD 1 default).k = 4 := by kernel_rfl
theorem sum1 : sumS s2 5 [⟨4, emp, ⟨#[114]⟩, emp⟩] = (⟨3, 0, 0, 0, 0, 0⟩, 2, 0) := by kernel_rfl
theorem sum2 : sumS s2 5 [⟨5, emp, ⟨#[114]⟩, ⟨#[111]⟩⟩] = (⟨1, 0, 0, 0, 0, 0⟩, 1, 0) := by kernel_rfl

end Go.Proofs.Ytnloedhcginopaa.TreAa

/- Where there is no tree. -/
namespace Go.Proofs.Ytnloedhcginopaa.TreN
set_option linter.unusedVariables false
open Go.ChangeShapes Go.WideShapes Go.ChangeAt Go.RowKit Base Wri Map TreA TreB TreC WinM WinC WinE StaA StaB StaC

theorem bl {w w1 w2 : World} (h : Below w.heap.size w w1) (h2 : Below w1.heap.size w1 w2) : Below w.heap.size w w2 := h.trans (h2.mono h.size)

set_option maxHeartbeats 1000000 in
theorem takes_nil (at_ : Int) (r c o : ByteArray) (inb : Bool) (cnt : Int) (ca : Option Addr) (cn cc : Nat) (b : Bool) (w : World) : Calls Try.prog 29 #[.pointer none, .agg #[.int .i64 at_, .string r, .string c, .string o, .bool inb, .int .i64 cnt, .slice ca cn cc], .bool b] w fun e w' => e = .returned (.tuple #[.slice none 0 0, .int .i64 1]) ∧ Below w.heap.size w w' := by
  go_enter Try.func29, Try.ntmps29
  go_wp2_with fail
  go_ret2
  exact ⟨rfl, (Below.refl _ _).alloc (Nat.le_refl _) _⟩

set_option maxRecDepth 20000 in
set_option maxHeartbeats 2000000 in
theorem Pass_nil (at_ : Int) (r c o : ByteArray) (inb : Bool) (cnt : Int) (ca : Option Addr) (cn cc : Nat) (w : World) : Calls Try.prog 15 #[.pointer none, .agg #[.int .i64 at_, .string r, .string c, .string o, .bool inb, .int .i64 cnt, .slice ca cn cc]] w fun e w' => e = .returned (.int .i64 1) ∧ Below w.heap.size w w' := by
  have hb : Below w.heap.size w (w.alloc (.cells #[.int .i64 at_, .string r, .string c, .string o, .bool inb, .int .i64 cnt, .slice ca cn cc] 40)) := (by repeat (first | (with_reducible exact Below.refl _ _) | (with_reducible refine Below.setCell ?_ (by first | (simp; done) | (simp; omega) | omega) _) | (with_reducible refine Below.alloc ?_ (by first | (simp; done) | (simp; omega) | omega) _) | (with_reducible refine Below.drew ?_)))
  go_enter Try.func15, Try.ntmps15
  go_upto_region 1 with fail
  first
    | (go_region_with
        (first
          | (go_at_call 30; refine (isCount_any _ _).mono ?_; rintro e w2 ⟨rfl, rfl⟩)
          | (go_at_call 38; refine (TreC.isTime_any _ _).mono ?_; rintro e w2 ⟨rfl, rfl⟩)
          | (go_at_call 29; refine (takes_nil at_ r c o inb cnt ca cn cc _ _).mono ?_; rintro e w3 ⟨rfl, hb3⟩)))
    | fail
  all_goals
    have HB : Hid (Below w.heap.size w w3) := hid (by first | exact bl hb hb3 | exact bl hb.drew hb3)
    clear hb hb3
    go_wp2_with fail
    go_ret
    exact ⟨rfl, HB.out⟩

set_option maxRecDepth 20000 in
set_option maxHeartbeats 2000000 in
theorem Block_nil (at_ : Int) (r c o : ByteArray) (inb : Bool) (cnt : Int) (ca : Option Addr) (cn cc : Nat) (w : World) : Calls Try.prog 16 #[.pointer none, .agg #[.int .i64 at_, .string r, .string c, .string o, .bool inb, .int .i64 cnt, .slice ca cn cc]] w fun e w' => e = .returned (.int .i64 1) ∧ Below w.heap.size w w' := by
  have hb : Below w.heap.size w (w.alloc (.cells #[.int .i64 at_, .string r, .string c, .string o, .bool inb, .int .i64 cnt, .slice ca cn cc] 40)) := (by repeat (first | (with_reducible exact Below.refl _ _) | (with_reducible refine Below.setCell ?_ (by first | (simp; done) | (simp; omega) | omega) _) | (with_reducible refine Below.alloc ?_ (by first | (simp; done) | (simp; omega) | omega) _) | (with_reducible refine Below.drew ?_)))
  go_enter Try.func16, Try.ntmps16
  go_upto_region 1 with fail
  first
    | (go_region_with
        (first
          | (go_at_call 30; refine (isCount_any _ _).mono ?_; rintro e w2 ⟨rfl, rfl⟩)
          | (go_at_call 38; refine (TreC.isTime_any _ _).mono ?_; rintro e w2 ⟨rfl, rfl⟩)
          | (go_at_call 29; refine (takes_nil at_ r c o inb cnt ca cn cc _ _).mono ?_; rintro e w3 ⟨rfl, hb3⟩)))
    | fail
  all_goals
    have HB : Hid (Below w.heap.size w w3) := hid (by first | exact bl hb hb3 | exact bl hb.drew hb3)
    clear hb hb3
    go_wp2_with fail
    go_ret
    exact ⟨rfl, HB.out⟩

set_option maxRecDepth 20000 in
set_option maxHeartbeats 2000000 in
theorem Done_nil (at_ : Int) (r c o : ByteArray) (inb : Bool) (cnt : Int) (ca : Option Addr) (cn cc : Nat) (rt : Int) (fl : Bool) (w : World) : Calls Try.prog 17 #[.pointer none, .agg #[.int .i64 at_, .string r, .string c, .string o, .bool inb, .int .i64 cnt, .slice ca cn cc], .int .i64 rt, .bool fl] w fun e w' => e = .returned (.int .i64 1) ∧ Below w.heap.size w w' := by
  have hb : Below w.heap.size w (((w.alloc (.cells #[.int .i64 at_, .string r, .string c, .string o, .bool inb, .int .i64 cnt, .slice ca cn cc] 40)).alloc (.cells #[.int .i64 rt] 3)).alloc (.cells #[.bool fl] 4)) := (by repeat (first | (with_reducible exact Below.refl _ _) | (with_reducible refine Below.setCell ?_ (by first | (simp; done) | (simp; omega) | omega) _) | (with_reducible refine Below.alloc ?_ (by first | (simp; done) | (simp; omega) | omega) _) | (with_reducible refine Below.drew ?_)))
  go_enter Try.func17, Try.ntmps17
  go_upto_region 1 with fail
  first
    | (go_region_with
        (first
          | (go_at_call 30; refine (isCount_any _ _).mono ?_; rintro e w2 ⟨rfl, rfl⟩)
          | (go_at_call 38; refine (TreC.isTime_any _ _).mono ?_; rintro e w2 ⟨rfl, rfl⟩)
          | (go_at_call 29; refine (takes_nil at_ r c o inb cnt ca cn cc _ _).mono ?_; rintro e w3 ⟨rfl, hb3⟩)))
    | fail
  all_goals
    have HB : Hid (Below w.heap.size w w3) := hid (by first | exact bl hb hb3 | exact bl hb.drew hb3)
    clear hb hb3
    go_wp2_with fail
    go_ret
    exact ⟨rfl, HB.out⟩

set_option maxHeartbeats 1000000 in
theorem Touch_nil (a : Option Addr) (n cp : Nat) (w : World) : Calls Try.prog 18 #[.pointer none, .slice a n cp] w fun e w' => e = .returned (.int .i64 1) ∧ Below w.heap.size w w' := by
  go_enter Try.func18, Try.ntmps18
  go_wp2_with fail
  go_ret
  exact ⟨rfl, Below.refl _ _⟩

set_option maxHeartbeats 1000000 in
theorem Last_nil (w : World) : Calls Try.prog 11 #[.pointer none] w fun e w' => e = .returned (.int .i64 0) ∧ Below w.heap.size w w' := by
  go_enter Try.func11, Try.ntmps11
  go_wp2_with fail
  go_ret
  exact ⟨rfl, Below.refl _ _⟩

set_option maxHeartbeats 1000000 in
theorem Fork_nil (w : World) : Calls Try.prog 21 #[.pointer none] w fun e w' => e = .returned (.pointer none) ∧ Below w.heap.size w w' := by
  go_enter Try.func21, Try.ntmps21
  go_wp2_with fail
  go_ret
  exact ⟨rfl, Below.refl _ _⟩

set_option maxHeartbeats 1000000 in
theorem All_nil (w : World) : Calls Try.prog 9 #[.pointer none] w fun e w' => e = .returned (.slice none 0 0) ∧ Below w.heap.size w w' := by
  go_enter Try.func9, Try.ntmps9
  go_wp2_with fail
  go_ret
  exact ⟨rfl, Below.refl _ _⟩

set_option maxHeartbeats 1000000 in
theorem Node_nil (x : Key) (w : World) : Calls Try.prog 19 #[.pointer none, kv x] w fun e w' => e = .returned (.pointer none) ∧ Below w.heap.size w w' := by
  unfold kv
  go_enter Try.func19, Try.ntmps19
  go_wp2_with fail
  go_ret
  exact ⟨rfl, (Below.refl _ _).alloc (Nat.le_refl _) _⟩

set_option maxHeartbeats 1000000 in
theorem Has_nil (x : Key) (w : World) : Calls Try.prog 13 #[.pointer none, kv x] w fun e w' => e = .returned (.bool false) ∧ Below w.heap.size w w' := by
  unfold kv
  go_enter Try.func13, Try.ntmps13
  go_wp2_with fail
  go_quiet (fail)
  go_wp2_with fail
  go_ret
  exact ⟨rfl, by first | exact below_drewN ((Below.refl _ _).alloc (Nat.le_refl _) _) _ | exact ((Below.refl _ _).alloc (Nat.le_refl _) _).drew⟩

set_option maxHeartbeats 1000000 in
theorem Sum_nil (t : Int) (a : Option Addr) (n cp : Nat) (w : World) : Calls Try.prog 10 #[.pointer none, .int .i64 t, .slice a n cp] w fun e w' => e = .returned (.tuple #[.agg #[.int .i64 0, .int .i64 0, .int .i64 0, .int .i64 0, .int .i64 0, .int .i64 0], .int .i64 0, .int .i64 1]) ∧ Below w.heap.size w w' := by
  go_enter Try.func10, Try.ntmps10
  go_wp2_with fail
  refine (refuses_nil t _).mono ?_
  rintro e w2 ⟨rfl, rfl⟩
  go_wp2_with fail
  exact bodyPost_ret (v := .tuple #[.agg #[.int .i64 0, .int .i64 0, .int .i64 0, .int .i64 0, .int .i64 0, .int .i64 0], .int .i64 0, .int .i64 1]) (by simp [results, Try.results10, go_sem]) rfl ⟨rfl, (Below.refl _ _).alloc (Nat.le_refl _) _⟩

set_option maxHeartbeats 1000000 in
theorem index_nil (f : Value) (w : World) : Calls Try.prog 56 #[.slice none 0 0, f] w fun e w' => e = .returned (.int .i64 (-1)) ∧ w = w' := by
  go_enter Try.func56, Try.ntmps56
  go_wp2
  go_loop [8] (fun i => i = .int .i64 0) (fun _ => 0)
  case atStart => rfl
  case round =>
    obtain rfl := hrel
    go_wp2
    go_ret
    exact ⟨rfl, rfl⟩

set_option maxHeartbeats 1000000 in
theorem delete_nil (f : Value) (w : World) : Calls Try.prog 28 #[.slice none 0 0, f] w fun e w' => e = .returned (.slice none 0 0) ∧ w = w' := by
  go_enter Try.func28, Try.ntmps28
  go_wp2_with fail
  refine (index_nil f _).mono ?_
  rintro e w1 ⟨rfl, rfl⟩
  go_wp2
  go_ret
  exact ⟨rfl, rfl⟩

set_option maxHeartbeats 1000000 in
theorem Of_nil (k : Int) (r : ByteArray) (w : World) : Calls Try.prog 12 #[.pointer none, .int .u8 k, .string r] w fun e w' => e = .returned (.slice none 0 0) ∧ Below w.heap.size w w' := by
  have hb : Below w.heap.size w ((w.alloc (.cells #[.int .u8 k] 28)).alloc (.cells #[.string r] 9)) := (by repeat (first | (with_reducible exact Below.refl _ _) | (with_reducible refine Below.setCell ?_ (by first | (simp; done) | (simp; omega) | omega) _) | (with_reducible refine Below.alloc ?_ (by first | (simp; done) | (simp; omega) | omega) _) | (with_reducible refine Below.drew ?_)))
  have HB := hid hb
  clear hb
  go_enter Try.func12, Try.ntmps12
  go_wp2_with fail
  refine (All_nil _).mono ?_
  rintro e w1 ⟨rfl, hb1⟩
  have HB1 := hid (bl HB.out hb1)
  clear hb1 HB
  go_wp2_with fail
  refine (delete_nil _ _).mono ?_
  rintro e w2 ⟨rfl, rfl⟩
  go_wp2_with fail
  go_ret
  exact ⟨rfl, HB1.out⟩

end Go.Proofs.Ytnloedhcginopaa.TreN

/- Where there is no tree: the law's walk, but for what must be whatever is asked (LV). -/
namespace Go.Proofs.Ytnloedhcginopaa.TreO
set_option linter.unusedVariables false
open Go.ChangeShapes Go.WideShapes Go.ChangeAt Go.RowKit Base Wri Map TreA TreB TreC TreN

theorem kc2 {w1 w2 : World} {p o : Nat} {v : Value} (h2 : Below w1.heap.size w1 w2) (h : w1.cell? ⟨p, o, none⟩ = some v) : w2.cell? ⟨p, o, none⟩ = some v :=
  (h2.cell (p := ⟨p, o, none⟩) (World.block_lt_of_cell? _ _ h)).trans h
theorem key0 : kv ⟨1, emp, emp, emp⟩ = .agg #[.int .u8 1, .string ⟨#[]⟩, .string ⟨#[]⟩, .string ⟨#[]⟩] := rfl

set_option maxRecDepth 20000 in
set_option maxHeartbeats 4000000 in
theorem core_none (at_ : Int) (r c o : ByteArray) (inb : Bool) (cnt : Int) (ca : Option Addr) (cn cc : Nat) (t : Int) (W : World) (LV : Hid (∀ w, Calls Try.prog 7 #[] w fun e w' => e = .returned (.bool true) ∧ Below w.heap.size w w')) :
    Calls Try.prog 6 #[.agg #[.int .i64 at_, .string r, .string c, .string o, .bool inb, .int .i64 cnt, .slice ca cn cc], .int .i64 t] W fun e w' => e = .returned (.bool true) ∧ Below W.heap.size W w' := by
  have HN := hid (Node_nil ⟨1, emp, emp, emp⟩)
  have HH := hid (Has_nil ⟨1, emp, emp, emp⟩)
  rw [key0] at HN HH
  have hb0 : Below W.heap.size W (((W.alloc (.cells #[.int .i64 at_, .string r, .string c, .string o, .bool inb, .int .i64 cnt, .slice ca cn cc] 40)).alloc (.cells #[.int .u8 1, .string ⟨#[]⟩, .string ⟨#[]⟩, .string ⟨#[]⟩] 30)).alloc (.cells #[.int .u8 1, .string ⟨#[]⟩, .string ⟨#[]⟩, .string ⟨#[]⟩] 30)) := (by repeat (first | (with_reducible exact Below.refl _ _) | (with_reducible refine Below.setCell ?_ (by first | (simp; done) | (simp; omega) | omega) _) | (with_reducible refine Below.alloc ?_ (by first | (simp; done) | (simp; omega) | omega) _) | (with_reducible refine Below.drew ?_)))
  have f0 : (((W.alloc (.cells #[.int .i64 at_, .string r, .string c, .string o, .bool inb, .int .i64 cnt, .slice ca cn cc] 40)).alloc (.cells #[.int .u8 1, .string ⟨#[]⟩, .string ⟨#[]⟩, .string ⟨#[]⟩] 30)).alloc (.cells #[.int .u8 1, .string ⟨#[]⟩, .string ⟨#[]⟩, .string ⟨#[]⟩] 30)).cell? ⟨W.heap.size, 0, none⟩ = some (.int .i64 at_) ∧ (((W.alloc (.cells #[.int .i64 at_, .string r, .string c, .string o, .bool inb, .int .i64 cnt, .slice ca cn cc] 40)).alloc (.cells #[.int .u8 1, .string ⟨#[]⟩, .string ⟨#[]⟩, .string ⟨#[]⟩] 30)).alloc (.cells #[.int .u8 1, .string ⟨#[]⟩, .string ⟨#[]⟩, .string ⟨#[]⟩] 30)).cell? ⟨W.heap.size, 1, none⟩ = some (.string r) ∧ (((W.alloc (.cells #[.int .i64 at_, .string r, .string c, .string o, .bool inb, .int .i64 cnt, .slice ca cn cc] 40)).alloc (.cells #[.int .u8 1, .string ⟨#[]⟩, .string ⟨#[]⟩, .string ⟨#[]⟩] 30)).alloc (.cells #[.int .u8 1, .string ⟨#[]⟩, .string ⟨#[]⟩, .string ⟨#[]⟩] 30)).cell? ⟨W.heap.size, 2, none⟩ = some (.string c) ∧ (((W.alloc (.cells #[.int .i64 at_, .string r, .string c, .string o, .bool inb, .int .i64 cnt, .slice ca cn cc] 40)).alloc (.cells #[.int .u8 1, .string ⟨#[]⟩, .string ⟨#[]⟩, .string ⟨#[]⟩] 30)).alloc (.cells #[.int .u8 1, .string ⟨#[]⟩, .string ⟨#[]⟩, .string ⟨#[]⟩] 30)).cell? ⟨W.heap.size, 3, none⟩ = some (.string o) ∧ (((W.alloc (.cells #[.int .i64 at_, .string r, .string c, .string o, .bool inb, .int .i64 cnt, .slice ca cn cc] 40)).alloc (.cells #[.int .u8 1, .string ⟨#[]⟩, .string ⟨#[]⟩, .string ⟨#[]⟩] 30)).alloc (.cells #[.int .u8 1, .string ⟨#[]⟩, .string ⟨#[]⟩, .string ⟨#[]⟩] 30)).cell? ⟨W.heap.size, 4, none⟩ = some (.bool inb) ∧ (((W.alloc (.cells #[.int .i64 at_, .string r, .string c, .string o, .bool inb, .int .i64 cnt, .slice ca cn cc] 40)).alloc (.cells #[.int .u8 1, .string ⟨#[]⟩, .string ⟨#[]⟩, .string ⟨#[]⟩] 30)).alloc (.cells #[.int .u8 1, .string ⟨#[]⟩, .string ⟨#[]⟩, .string ⟨#[]⟩] 30)).cell? ⟨W.heap.size, 5, none⟩ = some (.int .i64 cnt) ∧ (((W.alloc (.cells #[.int .i64 at_, .string r, .string c, .string o, .bool inb, .int .i64 cnt, .slice ca cn cc] 40)).alloc (.cells #[.int .u8 1, .string ⟨#[]⟩, .string ⟨#[]⟩, .string ⟨#[]⟩] 30)).alloc (.cells #[.int .u8 1, .string ⟨#[]⟩, .string ⟨#[]⟩, .string ⟨#[]⟩] 30)).cell? ⟨W.heap.size, 6, none⟩ = some (.slice ca cn cc) ∧ (((W.alloc (.cells #[.int .i64 at_, .string r, .string c, .string o, .bool inb, .int .i64 cnt, .slice ca cn cc] 40)).alloc (.cells #[.int .u8 1, .string ⟨#[]⟩, .string ⟨#[]⟩, .string ⟨#[]⟩] 30)).alloc (.cells #[.int .u8 1, .string ⟨#[]⟩, .string ⟨#[]⟩, .string ⟨#[]⟩] 30)).cell? ⟨W.heap.size + 1, 0, none⟩ = some (.int .u8 1) ∧ (((W.alloc (.cells #[.int .i64 at_, .string r, .string c, .string o, .bool inb, .int .i64 cnt, .slice ca cn cc] 40)).alloc (.cells #[.int .u8 1, .string ⟨#[]⟩, .string ⟨#[]⟩, .string ⟨#[]⟩] 30)).alloc (.cells #[.int .u8 1, .string ⟨#[]⟩, .string ⟨#[]⟩, .string ⟨#[]⟩] 30)).cell? ⟨W.heap.size + 1, 1, none⟩ = some (.string ⟨#[]⟩) ∧ (((W.alloc (.cells #[.int .i64 at_, .string r, .string c, .string o, .bool inb, .int .i64 cnt, .slice ca cn cc] 40)).alloc (.cells #[.int .u8 1, .string ⟨#[]⟩, .string ⟨#[]⟩, .string ⟨#[]⟩] 30)).alloc (.cells #[.int .u8 1, .string ⟨#[]⟩, .string ⟨#[]⟩, .string ⟨#[]⟩] 30)).cell? ⟨W.heap.size + 1, 2, none⟩ = some (.string ⟨#[]⟩) ∧ (((W.alloc (.cells #[.int .i64 at_, .string r, .string c, .string o, .bool inb, .int .i64 cnt, .slice ca cn cc] 40)).alloc (.cells #[.int .u8 1, .string ⟨#[]⟩, .string ⟨#[]⟩, .string ⟨#[]⟩] 30)).alloc (.cells #[.int .u8 1, .string ⟨#[]⟩, .string ⟨#[]⟩, .string ⟨#[]⟩] 30)).cell? ⟨W.heap.size + 1, 3, none⟩ = some (.string ⟨#[]⟩) := ⟨by go_cell, by go_cell, by go_cell, by go_cell, by go_cell, by go_cell, by go_cell, by go_cell, by go_cell, by go_cell, by go_cell⟩
  have hcore := HN
  go_enter Try.func6, Try.ntmps6
  go_wp2_with fail
  generalize (((W.alloc (.cells #[.int .i64 at_, .string r, .string c, .string o, .bool inb, .int .i64 cnt, .slice ca cn cc] 40)).alloc (.cells #[.int .u8 1, .string ⟨#[]⟩, .string ⟨#[]⟩, .string ⟨#[]⟩] 30)).alloc (.cells #[.int .u8 1, .string ⟨#[]⟩, .string ⟨#[]⟩, .string ⟨#[]⟩] 30)) = w0 at *
  have HX : Hid (∀ wx, Below w0.heap.size w0 wx → wx.cell? ⟨W.heap.size, 0, none⟩ = some (.int .i64 at_) ∧ wx.cell? ⟨W.heap.size, 1, none⟩ = some (.string r) ∧ wx.cell? ⟨W.heap.size, 2, none⟩ = some (.string c) ∧ wx.cell? ⟨W.heap.size, 3, none⟩ = some (.string o) ∧ wx.cell? ⟨W.heap.size, 4, none⟩ = some (.bool inb) ∧ wx.cell? ⟨W.heap.size, 5, none⟩ = some (.int .i64 cnt) ∧ wx.cell? ⟨W.heap.size, 6, none⟩ = some (.slice ca cn cc) ∧ wx.cell? ⟨W.heap.size + 1, 0, none⟩ = some (.int .u8 1) ∧ wx.cell? ⟨W.heap.size + 1, 1, none⟩ = some (.string ⟨#[]⟩) ∧ wx.cell? ⟨W.heap.size + 1, 2, none⟩ = some (.string ⟨#[]⟩) ∧ wx.cell? ⟨W.heap.size + 1, 3, none⟩ = some (.string ⟨#[]⟩)) := hid fun wx hb => ⟨kc2 hb f0.1, kc2 hb f0.2.1, kc2 hb f0.2.2.1, kc2 hb f0.2.2.2.1, kc2 hb f0.2.2.2.2.1, kc2 hb f0.2.2.2.2.2.1, kc2 hb f0.2.2.2.2.2.2.1, kc2 hb f0.2.2.2.2.2.2.2.1, kc2 hb f0.2.2.2.2.2.2.2.2.1, kc2 hb f0.2.2.2.2.2.2.2.2.2.1, kc2 hb f0.2.2.2.2.2.2.2.2.2.2⟩
  have HB0 := hid hb0
  have HK0 : Hid (Below w0.heap.size w0 w0) := hid (Below.refl _ _)
  clear hb0 f0 hcore
  refine (Sum_nil t _ _ _ _).mono ?_
  rintro e w1 ⟨rfl, hb⟩
  have HK1 : Hid (Below w0.heap.size w0 w1) := hid (by first | exact TreN.bl HK0.out hb | exact TreN.bl (HK0.out.alloc HK0.out.size _) hb)
  clear hb HK0
  obtain ⟨q0, q1, q2, q3, q4, q5, q6, q7, q8, q9, q10⟩ := HX.out _ HK1.out
  go_wp2_with fail
  refine (LV.out _).mono ?_
  rintro e w2 ⟨rfl, hb⟩
  have HK2 : Hid (Below w0.heap.size w0 w2) := hid (by first | exact TreN.bl HK1.out hb | exact TreN.bl (HK1.out.alloc HK1.out.size _) hb)
  clear hb HK1 q0 q1 q2 q3 q4 q5 q6 q7 q8 q9 q10
  obtain ⟨q0, q1, q2, q3, q4, q5, q6, q7, q8, q9, q10⟩ := HX.out _ HK2.out
  go_wp2_with fail
  refine (Touch_nil _ _ _ _).mono ?_
  rintro e w3 ⟨rfl, hb⟩
  have HK3 : Hid (Below w0.heap.size w0 w3) := hid (by first | exact TreN.bl HK2.out hb | exact TreN.bl (HK2.out.alloc HK2.out.size _) hb)
  clear hb HK2 q0 q1 q2 q3 q4 q5 q6 q7 q8 q9 q10
  obtain ⟨q0, q1, q2, q3, q4, q5, q6, q7, q8, q9, q10⟩ := HX.out _ HK3.out
  go_wp2_with fail
  refine (Pass_nil at_ r c o inb cnt ca cn cc _).mono ?_
  rintro e w4 ⟨rfl, hb⟩
  have HK4 : Hid (Below w0.heap.size w0 w4) := hid (by first | exact TreN.bl HK3.out hb | exact TreN.bl (HK3.out.alloc HK3.out.size _) hb)
  clear hb HK3 q0 q1 q2 q3 q4 q5 q6 q7 q8 q9 q10
  obtain ⟨q0, q1, q2, q3, q4, q5, q6, q7, q8, q9, q10⟩ := HX.out _ HK4.out
  go_wp2_with fail
  refine (Block_nil at_ r c o inb cnt ca cn cc _).mono ?_
  rintro e w5 ⟨rfl, hb⟩
  have HK5 : Hid (Below w0.heap.size w0 w5) := hid (by first | exact TreN.bl HK4.out hb | exact TreN.bl (HK4.out.alloc HK4.out.size _) hb)
  clear hb HK4 q0 q1 q2 q3 q4 q5 q6 q7 q8 q9 q10
  obtain ⟨q0, q1, q2, q3, q4, q5, q6, q7, q8, q9, q10⟩ := HX.out _ HK5.out
  go_wp2_with fail
  refine (Done_nil at_ r c o inb cnt ca cn cc t true _).mono ?_
  rintro e w6 ⟨rfl, hb⟩
  have HK6 : Hid (Below w0.heap.size w0 w6) := hid (by first | exact TreN.bl HK5.out hb | exact TreN.bl (HK5.out.alloc HK5.out.size _) hb)
  clear hb HK5 q0 q1 q2 q3 q4 q5 q6 q7 q8 q9 q10
  obtain ⟨q0, q1, q2, q3, q4, q5, q6, q7, q8, q9, q10⟩ := HX.out _ HK6.out
  go_wp2_with fail
  refine (HN.out _).mono ?_
  rintro e w7 ⟨rfl, hb⟩
  have HK7 : Hid (Below w0.heap.size w0 w7) := hid (by first | exact TreN.bl HK6.out hb | exact TreN.bl (HK6.out.alloc HK6.out.size _) hb)
  clear hb HK6 q0 q1 q2 q3 q4 q5 q6 q7 q8 q9 q10
  obtain ⟨q0, q1, q2, q3, q4, q5, q6, q7, q8, q9, q10⟩ := HX.out _ HK7.out
  go_wp2_with fail
  refine (HH.out _).mono ?_
  rintro e w8 ⟨rfl, hb⟩
  have HK8 : Hid (Below w0.heap.size w0 w8) := hid (by first | exact TreN.bl HK7.out hb | exact TreN.bl (HK7.out.alloc HK7.out.size _) hb)
  clear hb HK7 q0 q1 q2 q3 q4 q5 q6 q7 q8 q9 q10
  obtain ⟨q0, q1, q2, q3, q4, q5, q6, q7, q8, q9, q10⟩ := HX.out _ HK8.out
  go_wp2_with fail
  refine (All_nil _).mono ?_
  rintro e w9 ⟨rfl, hb⟩
  have HK9 : Hid (Below w0.heap.size w0 w9) := hid (by first | exact TreN.bl HK8.out hb | exact TreN.bl (HK8.out.alloc HK8.out.size _) hb)
  clear hb HK8 q0 q1 q2 q3 q4 q5 q6 q7 q8 q9 q10
  obtain ⟨q0, q1, q2, q3, q4, q5, q6, q7, q8, q9, q10⟩ := HX.out _ HK9.out
  go_wp2_with fail
  refine (Of_nil 1 ⟨#[]⟩ _).mono ?_
  rintro e w10 ⟨rfl, hb⟩
  have HK10 : Hid (Below w0.heap.size w0 w10) := hid (by first | exact TreN.bl HK9.out hb | exact TreN.bl (HK9.out.alloc HK9.out.size _) hb)
  clear hb HK9 q0 q1 q2 q3 q4 q5 q6 q7 q8 q9 q10
  obtain ⟨q0, q1, q2, q3, q4, q5, q6, q7, q8, q9, q10⟩ := HX.out _ HK10.out
  go_wp2_with fail
  refine (Last_nil _).mono ?_
  rintro e w11 ⟨rfl, hb⟩
  have HK11 : Hid (Below w0.heap.size w0 w11) := hid (by first | exact TreN.bl HK10.out hb | exact TreN.bl (HK10.out.alloc HK10.out.size _) hb)
  clear hb HK10 q0 q1 q2 q3 q4 q5 q6 q7 q8 q9 q10
  obtain ⟨q0, q1, q2, q3, q4, q5, q6, q7, q8, q9, q10⟩ := HX.out _ HK11.out
  go_wp2_with fail
  refine (Fork_nil _).mono ?_
  rintro e w12 ⟨rfl, hb⟩
  have HK12 : Hid (Below w0.heap.size w0 w12) := hid (by first | exact TreN.bl HK11.out hb | exact TreN.bl (HK11.out.alloc HK11.out.size _) hb)
  clear hb HK11 q0 q1 q2 q3 q4 q5 q6 q7 q8 q9 q10
  obtain ⟨q0, q1, q2, q3, q4, q5, q6, q7, q8, q9, q10⟩ := HX.out _ HK12.out
  go_wp2_with fail
  go_ret
  exact ⟨rfl, TreN.bl HB0.out HK12.out⟩

end Go.Proofs.Ytnloedhcginopaa.TreO

/- What must be whatever is asked; where there is no tree. -/
namespace Go.Proofs.Ytnloedhcginopaa.TreAb
set_option linter.unusedVariables false
open Go.ChangeShapes Go.WideShapes Go.ChangeAt Go.RowKit Base Wri Map TreA TreB TreC TreD TreE TreF TreG TreH TreJ TreK TreL TreP TreQ TreR TreS TreT TreV TreW TreX TreY TreWa TreWb TreZ TreAa WinM WinA WinB WinC WinD WinE WinF WinG WinH WinI WinJ WinK WinN StaA StaB StaC

theorem kat_box (w : World) (x : Key) : KAt (w.alloc (.cells #[.int .u8 x.k, .string x.c, .string x.r, .string x.o] 30)) (some ⟨w.heap.size, 0, none⟩) 1 (fun _ => x) := fun _ => by
  have := heap_alloc_new w (.cells #[.int .u8 x.k, .string x.c, .string x.r, .string x.o] 30)
  refine ⟨w.heap.size, 0, rfl, by simp, fun i hi => ?_⟩
  obtain rfl : i = 0 := by omega
  exact ⟨cell_of this 0 _ rfl, cell_of this 1 _ rfl, cell_of this 2 _ rfl, cell_of this 3 _ rfl⟩
theorem fit_of (x : Key) (h1 : x.k < 256) (h2 : x.c.size ≤ 64) (h3 : x.r.size ≤ 64) (h4 : x.o.size ≤ 64) : x.Fit := ⟨h1, by unfold maxLen; omega, by unfold maxLen; omega, by unfold maxLen; omega⟩
theorem cl_fit_of (x : Cl) (h1 : x.r.size ≤ 64) (h2 : x.c.size ≤ 64) (h3 : x.o.size ≤ 64) : x.Fit := ⟨by unfold maxLen; omega, by unfold maxLen; omega, by unfold maxLen; omega⟩

set_option maxRecDepth 100000 in
set_option maxHeartbeats 4000000 in
theorem live_any (w : World) : Calls Try.prog 7 #[] w fun e w' => e = .returned (.bool true) ∧ Below w.heap.size w w' := by
  have fa : ca.Fit := cl_fit_of _ (by decide) (by decide) (by decide)
  have fb : cb.Fit := cl_fit_of _ (by decide) (by decide) (by decide)
  have HF := hid (And.intro fa fb)
  clear fa fb
  go_enter Try.func7, Try.ntmps7
  go_wp2_with fail
  refine (New_any _).mono ?_
  rintro e w1 ⟨p, rfl, hp, ⟨own, hlow, hT⟩, hb⟩
  have T1 : Tr w p TreZ.St.new w1 own := ⟨hT, hb, hlow⟩
  have hbx : Below w1.heap.size w1 ((w1.alloc (.cells #[.int .i64 0, .string ⟨#[114]⟩, .string ⟨#[99]⟩, .string ⟨#[111]⟩, .bool true, .int .i64 1, .slice none 0 0] 40)).alloc (.cells #[.int .i64 0, .string ⟨#[114]⟩, .string ⟨#[99]⟩, .string ⟨#[]⟩, .bool false, .int .i64 2, .slice none 0 0] 40)) := (by repeat (first | (with_reducible exact Below.refl _ _) | (with_reducible refine Below.setCell ?_ (by first | (simp; done) | (simp; omega) | omega) _) | (with_reducible refine Below.alloc ?_ (by first | (simp; done) | (simp; omega) | omega) _) | (with_reducible refine Below.drew ?_)))
  have HBoxB : Hid (((w1.alloc (.cells #[.int .i64 0, .string ⟨#[114]⟩, .string ⟨#[99]⟩, .string ⟨#[111]⟩, .bool true, .int .i64 1, .slice none 0 0] 40)).alloc (.cells #[.int .i64 0, .string ⟨#[114]⟩, .string ⟨#[99]⟩, .string ⟨#[]⟩, .bool false, .int .i64 2, .slice none 0 0] 40)).heap[w1.heap.size + 1]? = some (.cells #[.int .i64 0, .string ⟨#[114]⟩, .string ⟨#[99]⟩, .string ⟨#[]⟩, .bool false, .int .i64 2, .slice none 0 0] 40)) := hid (by have := heap_alloc_new (w1.alloc (.cells #[.int .i64 0, .string ⟨#[114]⟩, .string ⟨#[99]⟩, .string ⟨#[111]⟩, .bool true, .int .i64 1, .slice none 0 0] 40)) (.cells #[.int .i64 0, .string ⟨#[114]⟩, .string ⟨#[99]⟩, .string ⟨#[]⟩, .bool false, .int .i64 2, .slice none 0 0] 40); simpa using this)
  have H2 := hid (T1.below hbx)
  have hP := pass_any p TreZ.St.new own ca HF.out.1 none 0 0 _ (T1.below hbx).t
  rw [pass1] at hP
  have HP := hid hP
  have ow1 : own (w1.heap.size + 1) = 0 := T1.new_ _ (by omega)
  have HO := hid ow1
  unfold ca Cl.val at HP
  dsimp only at HP
  clear hp hlow hT hb T1 hbx hP ow1
  go_wp2_with fail
  refine HP.out.mono ?_
  rintro e w2 ho
  obtain ⟨rfl, own2, T2, hs2, hk2⟩ := H2.out.op ho
  have HB2 := hid ((hk2 _ (Array.getElem?_eq_some_iff.1 HBoxB.out).1 HO.out).2.trans HBoxB.out)
  have HO2 := hid (hk2 _ (Array.getElem?_eq_some_iff.1 HBoxB.out).1 HO.out).1
  have HT2 := hid T2
  have hP := pass_any p s1 own2 cb HF.out.2 none 0 0 w2 T2.t
  rw [pass2] at hP
  have HP2 := hid hP
  unfold cb Cl.val at HP2
  dsimp only at HP2
  have b0 := cell_of HB2.out 0 _ rfl
  have b1 := cell_of HB2.out 1 _ rfl
  have b2 := cell_of HB2.out 2 _ rfl
  have b3 := cell_of HB2.out 3 _ rfl
  have b4 := cell_of HB2.out 4 _ rfl
  have b5 := cell_of HB2.out 5 _ rfl
  have b6 := cell_of HB2.out 6 _ rfl
  clear ho T2 hs2 hk2 hP HP HBoxB H2
  generalize w1.heap.size = z1 at *
  go_wp2_with fail
  refine HP2.out.mono ?_
  rintro e w3 ho
  obtain ⟨rfl, own3, T3, hs3, hk3⟩ := HT2.out.op ho
  have HT3 := hid T3
  have HA := hid (All_any p s2 own3 w3 T3.t)
  clear ho T3 hs3 hk3 HP2 HT2 b0 b1 b2 b3 b4 b5 b6 HB2 HO2
  dsimp only
  rw [keys2] at HA
  go_wp2_with fail
  refine HA.out.mono ?_
  rintro e w4 ⟨⟨va, vc, rfl, hrow⟩, hb4⟩
  have T4 := HT3.out.below hb4
  have hbk : Below w4.heap.size w4 (w4.alloc (.cells #[.int .u8 4, .string ⟨#[]⟩, .string ⟨#[114]⟩, .string ⟨#[]⟩] 30)) := (Below.refl _ _).alloc (Nat.le_refl _) _
  have hS := Sum_any p s2 own3 5 (some ⟨w4.heap.size, 0, none⟩) 1 1 (fun _ => ⟨4, emp, ⟨#[114]⟩, emp⟩) _ (by decide) (fun _ _ => fit_of _ (by decide) (by decide) (by decide) (by decide)) (kat_box w4 ⟨4, emp, ⟨#[114]⟩, emp⟩) (T4.below hbk).t
  rw [show firstK (fun _ => (⟨4, emp, ⟨#[114]⟩, emp⟩ : Key)) 1 = [⟨4, emp, ⟨#[114]⟩, emp⟩] from rfl, sum1] at hS
  have HS := hid hS
  have HRow := hid hrow
  have HT4 := hid (And.intro T4 hbk)
  clear hrow hb4 T4 hbk hS HA HT3
  unfold emp cv at HS
  dsimp only at HS
  rw [show ((4 : Nat) : Int) = 4 from rfl] at HS
  go_wp2_with fail
  refine HS.out.mono ?_
  rintro e w5 ⟨rfl, hb5⟩
  have T5 := HT4.out.1.below (Below.trans HT4.out.2 (hb5.mono HT4.out.2.size))
  have R5 := KRow.below (KRow.below HRow.out HT4.out.2) hb5
  have hbx : Below w5.heap.size w5 (w5.alloc (.cells #[.int .i64 3, .int .i64 0, .int .i64 0, .int .i64 0, .int .i64 0, .int .i64 0] 32)) := (Below.refl _ _).alloc (Nat.le_refl _) _
  have x5 := heap_alloc_new w5 (.cells #[.int .i64 3, .int .i64 0, .int .i64 0, .int .i64 0, .int .i64 0, .int .i64 0] 32)
  have T6 := T5.below hbx
  have R6 := KRow.below R5 hbx
  have hsz : (w5.alloc (.cells #[.int .i64 3, .int .i64 0, .int .i64 0, .int .i64 0, .int .i64 0, .int .i64 0] 32)).heap.size = w5.heap.size + 1 := by simp
  clear hb5 T5 R5 hbx HS HT4 HRow
  go_upto_region 8 with fail
  generalize (w5.alloc (.cells #[.int .i64 3, .int .i64 0, .int .i64 0, .int .i64 0, .int .i64 0, .int .i64 0] 32)) = w6 at *
  have hbk : Below w6.heap.size w6 (w6.alloc (.cells #[.int .u8 5, .string ⟨#[]⟩, .string ⟨#[114]⟩, .string ⟨#[111]⟩] 30)) := (Below.refl _ _).alloc (Nat.le_refl _) _
  have hS := Sum_any p s2 own3 5 (some ⟨w6.heap.size, 0, none⟩) 1 1 (fun _ => ⟨5, emp, ⟨#[114]⟩, ⟨#[111]⟩⟩) _ (by decide) (fun _ _ => fit_of _ (by decide) (by decide) (by decide) (by decide)) (kat_box w6 ⟨5, emp, ⟨#[114]⟩, ⟨#[111]⟩⟩) (T6.below hbk).t
  rw [show firstK (fun _ => (⟨5, emp, ⟨#[114]⟩, ⟨#[111]⟩⟩ : Key)) 1 = [⟨5, emp, ⟨#[114]⟩, ⟨#[111]⟩⟩] from rfl, sum2] at hS
  have HS := hid hS
  have HQ := hid (And.intro T6 (And.intro R6 (And.intro hbk (And.intro x5 hsz))))
  clear T6 R6 hbk hS x5 hsz
  unfold emp cv at HS
  dsimp only at HS
  rw [show ((5 : Nat) : Int) = 5 from rfl] at HS
  go_wp2_with fail
  refine HS.out.mono ?_
  rintro e w7 ⟨rfl, hb7⟩
  obtain ⟨T6, R6, hbk, x5, hsz⟩ := HQ.out
  have T7 := T6.below (Below.trans hbk (hb7.mono hbk.size))
  have R7 := KRow.below (KRow.below R6 hbk) hb7
  have x7 : w7.heap[w5.heap.size]? = _ := (hb7.block _ (by have := hbk.size; omega)).trans ((hbk.block _ (by omega)).trans x5)
  have c5 := cell_of x7 0 _ rfl
  have hx57 : w5.heap.size < w7.heap.size := (Array.getElem?_eq_some_iff.1 x7).1
  obtain ⟨a', cp, hsl, hka, -⟩ := KRow.at R7
  rw [keys2] at hsl
  injection hsl with q1 q2 q3
  subst q1 q3
  rw [keys2] at hka
  obtain ⟨g, o, rfl, hg, hc⟩ := hka (by decide)
  obtain ⟨k0, -, -, -⟩ := hc 1 (by decide)
  rw [keys21] at k0
  have HB := hid T7.bel
  have hkk : w7.cell? ⟨g, o + 4, none⟩ = some (.int .u8 4) := k0
  clear HQ T6 R6 hbk x5 hsz hb7 T7 R7 x7 hka hc k0 HS
  go_wp2_with fail
  go_ret
  exact ⟨rfl, HB.out.alloc HB.out.size _⟩

end Go.Proofs.Ytnloedhcginopaa.TreAb

/- A call of a tree as an argument; a list of deeds as an argument. -/
namespace Go.Proofs.Ytnloedhcginopaa.TreAc
set_option linter.unusedVariables false
open Go.ChangeShapes Go.WideShapes Go.ChangeAt Go.RowKit Go.Deep Base Opn TreA TreB TreC TreW

theorem under_call : ∃ fs, Try.prog.underlying 40 = some (.struct fs) ∧ oneCellFields Try.prog fs = true ∧ Try.prog.cellsOf 40 = fs.size ∧ fs.size = 7 ∧
    (fs.toList.map (·.type)) = [3, 9, 9, 9, 4, 3, 38] := ⟨_, Try.underlying40, by kernel_rfl, by kernel_rfl, by kernel_rfl, by kernel_rfl⟩

theorem arg_at {H : Type} {enc : TypeId × Value → H} {P : Program} {w : World} {base : Nat} {spare : Nat → Bool} {held : Bool} {e : TypeId} {fs : Array Field} {n : Nat} {cs : List Value} {y : DataW H × List MemPlace} (he : P.underlying e = some (.struct fs)) (hone : oneCellFields P fs = true) (hC : P.cellsOf e = fs.size)
    (ht : DataW.trod enc P w base spare held n e cs = some y) (j : Nat) (f : Field) (hj : fs[j]? = some f) :
    ∃ v z k, cs[j]? = some v ∧ DataW.trod enc P w base spare held k f.type [v] = some z := by
  obtain ⟨xs, k, _, _, hlen, hxl, hg⟩ := DataW.trod_struct he ht
  obtain ⟨o1, o2⟩ := hone_of hone j f hj
  have hjs : j < fs.size := (Array.getElem?_eq_some_iff.1 hj).1
  have hjc : j < cs.length := by omega
  have hg := hg j f hj
  rw [o1, o2, List.drop_eq_getElem_cons hjc] at hg
  simp only [List.take_succ_cons, List.take_zero] at hg
  obtain ⟨z, hz⟩ : ∃ z, xs[j]? = some z := ⟨xs[j]'(by omega), List.getElem?_eq_getElem (by omega)⟩
  exact ⟨cs[j], z, k, List.getElem?_eq_getElem hjc, by rw [hg, hz]⟩

set_option maxRecDepth 100000 in
/-- the cells of a call that can be read -/
theorem call_cells {H : Type} {enc : TypeId × Value → H} {W : World} {base : Nat} {spare : Nat → Bool} {held : Bool} {n : Nat} {cs : List Value} {y : DataW H × List MemPlace}
    (hf : DataW.trod enc Try.prog W base spare held n 40 cs = some y) :
    ∃ (x : Cl) (sa : Option Addr) (sn sc : Nat), cs = [.int .i64 x.t, .string x.r, .string x.c, .string x.o, .bool x.inb, .int .i64 x.cnt, .slice sa sn sc] ∧ x.Fit := by
  obtain ⟨fs, hu, h1, h2, h5, ht⟩ := under_call
  obtain ⟨_, _, _, _, hcl0, _, _⟩ := DataW.trod_struct hu hf
  have hcl : cs.length = 7 := by rw [hcl0, h2, h5]
  have hty : ∀ j (hj : j < 7), ∃ f, fs[j]? = some f ∧ some f.type = ([3, 9, 9, 9, 4, 3, 38] : List TypeId)[j]? := fun j hj => by
    refine ⟨fs[j]'(by omega), Array.getElem?_eq_getElem (by omega), ?_⟩
    rw [← ht]
    simp [h5, hj]
  obtain ⟨f0, g0, t0⟩ := hty 0 (by omega)
  obtain ⟨f1, g1, t1⟩ := hty 1 (by omega)
  obtain ⟨f2, g2, t2⟩ := hty 2 (by omega)
  obtain ⟨f3, g3, t3⟩ := hty 3 (by omega)
  obtain ⟨f4, g4, t4⟩ := hty 4 (by omega)
  obtain ⟨f5, g5, t5⟩ := hty 5 (by omega)
  obtain ⟨f6, g6, t6⟩ := hty 6 (by omega)
  obtain ⟨v0, z0, k0, c0, r0⟩ := arg_at hu h1 h2 hf 0 f0 g0
  obtain ⟨v1, z1, k1, c1, r1⟩ := arg_at hu h1 h2 hf 1 f1 g1
  obtain ⟨v2, z2, k2, c2, r2⟩ := arg_at hu h1 h2 hf 2 f2 g2
  obtain ⟨v3, z3, k3, c3, r3⟩ := arg_at hu h1 h2 hf 3 f3 g3
  obtain ⟨v4, z4, k4, c4, r4⟩ := arg_at hu h1 h2 hf 4 f4 g4
  obtain ⟨v5, z5, k5, c5, r5⟩ := arg_at hu h1 h2 hf 5 f5 g5
  obtain ⟨v6, z6, k6, c6, r6⟩ := arg_at hu h1 h2 hf 6 f6 g6
  simp only [List.getElem?_cons_zero, List.getElem?_cons_succ, Option.some.injEq] at t0 t1 t2 t3 t4 t5 t6
  rw [t0] at r0
  rw [t1] at r1
  rw [t2] at r2
  rw [t3] at r3
  rw [t4] at r4
  rw [t5] at r5
  rw [t6] at r6
  obtain ⟨n0, e0, _, w0⟩ := DataW.trod_int Try.underlying3 r0
  obtain ⟨n1, e1, _, hs1⟩ := DataW.trod_string Try.underlying9 r1
  obtain ⟨n2, e2, _, hs2⟩ := DataW.trod_string Try.underlying9 r2
  obtain ⟨n3, e3, _, hs3⟩ := DataW.trod_string Try.underlying9 r3
  obtain ⟨n4, e4, _⟩ := DataW.trod_bool Try.underlying4 r4
  obtain ⟨n5, e5, _, w5⟩ := DataW.trod_int Try.underlying3 r5
  obtain ⟨sa, sn, sc, e6⟩ : ∃ sa sn sc, [v6] = [Value.slice sa sn sc] := by
    rcases open_slice Try.underlying38 r6 with ⟨hn, _⟩ | ⟨a, l, c, m, n, D, Pl, hcs, _⟩
    · exact ⟨none, 0, 0, hn⟩
    · exact ⟨some a, l, c, hcs⟩
  simp only [List.cons.injEq, and_true] at e0 e1 e2 e3 e4 e5 e6
  subst e0 e1 e2 e3 e4 e5 e6
  refine ⟨⟨n0, n1, n2, n3, n4, n5⟩, sa, sn, sc, ?_, ⟨hs1, hs2, hs3⟩⟩
  match cs, hcl with
  | [a0, a1, a2, a3, a4, a5, a6], _ =>
    simp only [List.getElem?_cons_zero, List.getElem?_cons_succ, Option.some.injEq] at c0 c1 c2 c3 c4 c5 c6
    rw [c0, c1, c2, c3, c4, c5, c6]

set_option maxRecDepth 100000 in
theorem call_of {H : Type} {enc : TypeId × Value → H} {W : World} {base b0 : Nat} {r : Reach} {spare : Nat → Bool} {held : Bool} {v : Value} {d : DataW H} {p : List MemPlace}
    (hv : Value.okWide Try.prog W r b0 40 v) (h : DataW.Trod enc Try.prog W base spare held 40 v d p) :
    ∃ (x : Cl) (sa : Option Addr) (sn sc : Nat), v = x.val sa sn sc ∧ x.Fit := by
  obtain ⟨fuel, hf⟩ := h
  obtain ⟨fs, hu, h1, h2, h5, ht⟩ := under_call
  obtain ⟨cs, rfl, hcs⟩ := okWide_struct hu hv
  have hf : DataW.trod enc Try.prog W base spare held fuel 40 cs.toList = some (d, p) := by
    rw [show (Value.agg cs).cells = cs from by unfold Value.cells; rfl] at hf
    exact hf
  obtain ⟨x, sa, sn, sc, h3, h4⟩ := call_cells hf
  refine ⟨x, sa, sn, sc, ?_, h4⟩
  show Value.agg cs = Value.agg _
  congr 1
  apply Array.ext'
  rw [h3]

/-- the law's main, of TreeNone -/
theorem main (x : Cl) (sa : Option Addr) (sn sc : Nat) (hx : x.Fit) (t : Int) (wt : (Lit.int .i64 t).wf = true) {W : World} :
    Calls Try.prog 6 #[x.val sa sn sc, .int .i64 t] W fun e W' => e = .returned (.bool true) ∧ Below W.heap.size W W' :=
  TreO.core_none x.t x.r x.c x.o x.inb x.cnt sa sn sc t W (hid TreAb.live_any)

end Go.Proofs.Ytnloedhcginopaa.TreAc

/- A list of deeds as an argument; Touch and Has of a tree. -/
namespace Go.Proofs.Ytnloedhcginopaa.TreAd
set_option linter.unusedVariables false
open Go.ChangeShapes Go.WideShapes Go.ChangeAt Go.RowKit Go.Deep Base Wri Map Opn TreA TreB TreC TreD TreE TreF TreG TreH TreJ TreK TreL TreP TreQ TreR TreS TreT TreV TreW TreX TreY TreWa TreWb TreZ TreAa TreAb TreAc WinM WinA WinB WinC WinD WinE WinF WinG WinH WinI WinJ WinK WinN StaA StaB StaC

/-- a deed -/
structure Dd where
  kind : Int
  x : Cl
  sa : Option Addr
  sn : Nat
  sc : Nat
  rt : Int
  fl : Bool
def dd0 : Dd := ⟨0, ⟨0, emp, emp, emp, false, 0⟩, none, 0, 0, 0, false⟩
def dw (D : Dd) : List Value := [.int .i64 D.kind, .int .i64 D.x.t, .string D.x.r, .string D.x.c, .string D.x.o, .bool D.x.inb, .int .i64 D.x.cnt, .slice D.sa D.sn D.sc, .int .i64 D.rt, .bool D.fl]
/-- n deeds that lie in memory -/
def DAt (w : World) (a : Option Addr) (n : Nat) (f : Nat → Dd) : Prop := 0 < n → ∃ g o, a = some ⟨g, o, none⟩ ∧ g < w.heap.size ∧ ∀ i, i < n → ∀ j v, (dw (f i))[j]? = some v → w.cell? ⟨g, o + i * 10 + j, none⟩ = some v
theorem DAt.below {w w' : World} {a : Option Addr} {n : Nat} {f : Nat → Dd} (h : DAt w a n f) (hb : Below w.heap.size w w') : DAt w' a n f := fun h0 => by
  obtain ⟨g, o, e, hg, hc⟩ := h h0
  exact ⟨g, o, e, Nat.lt_of_lt_of_le hg hb.size, fun i hi j v hv => (hb.cell (p := ⟨g, o + i * 10 + j, none⟩) hg).trans (hc i hi j v hv)⟩

theorem under_deed : ∃ fs : Array Field, Try.prog.underlying 42 = some (.struct fs) ∧ fs.size = 4 ∧ Try.prog.cellsOf 42 = 10 ∧ Try.prog.cellsOf 3 = 1 ∧ Try.prog.cellsOf 4 = 1 ∧ Try.prog.cellsOf 40 = 7 ∧
    (fs.toList.map fun f => (f.type, f.offset)) = [(3, 0), (40, 1), (3, 8), (4, 9)] := ⟨_, Try.underlying42, by kernel_rfl, by kernel_rfl, by kernel_rfl, by kernel_rfl, by kernel_rfl, by kernel_rfl⟩

set_option maxRecDepth 100000 in
theorem deeds_of {H : Type} {enc : TypeId × Value → H} {W : World} {base : Nat} {spare : Nat → Bool} {held : Bool} {a0 : Option Addr} {len0 cap0 : Nat} {d : DataW H} {p : List MemPlace}
    (h : DataW.Trod enc Try.prog W base spare held 22 (.slice a0 len0 cap0) d p) (hw : ∀ m ∈ d.weights Try.prog 22, m ≤ reachBytes) : ∃ f, DAt W a0 len0 f ∧ len0 ≤ 2000000000000 ∧ ∀ i, i < len0 → (f i).x.Fit := by
  obtain ⟨fuel, hf⟩ := h
  obtain ⟨fs, hu, hsz, hc10, hci, hcb, hcc, hty0⟩ := under_deed
  rcases open_slice Try.underlying22 hf with ⟨hn, _⟩ | ⟨a, l, c, m, n, D, Pl, hcs, _, hl, hm, hmm, hx, hi⟩
  · simp [Value.cells] at hn
    exact ⟨fun _ => dd0, fun h0 => by omega, by omega, fun i hi => by omega⟩
  · simp [Value.cells] at hcs
    obtain ⟨rfl, rfl, rfl⟩ := hcs
    have each : ∀ i, i < len0 → ∃ D : Dd, (∀ (j : Nat) v, (dw D)[j]? = some v → W.cell? (a.add (i * 10 + j)) = some v) ∧ D.x.Fit := by
      intro i hil
      obtain ⟨cs, h1, h2⟩ := hi i (by rw [hmm]; split <;> omega)
      obtain ⟨_, hlen, hat⟩ := World.cells?_some h1
      obtain ⟨xs, k, _, _, hcl, hxl, hg⟩ := DataW.trod_struct hu h2
      rw [hc10] at hlen hcl h1 hat
      have hfield : ∀ (j : Nat) (T : TypeId) (off : Nat), ([(3, 0), (40, 1), (3, 8), (4, 9)] : List (TypeId × Nat))[j]? = some (T, off) → ∃ z, DataW.trod enc Try.prog W base spare held k T ((cs.drop off).take (Try.prog.cellsOf T)) = some z := by
        intro j T off hj
        have hj4 : j < 4 := by have := (List.getElem?_eq_some_iff.1 hj).1; simpa using this
        have hf : fs[j]? = some (fs[j]'(by omega)) := Array.getElem?_eq_getElem (by omega)
        have ht : ((fs[j]'(by omega)).type, (fs[j]'(by omega)).offset) = (T, off) := by
          have h3 : (fs.toList.map fun f => (f.type, f.offset))[j]? = some (T, off) := by rw [hty0]; exact hj
          rw [List.getElem?_map, Array.getElem?_toList, hf] at h3
          exact Option.some.inj h3
        have hgj := hg j _ hf
        rw [(Prod.mk.inj ht).1, (Prod.mk.inj ht).2] at hgj
        have hjx : j < xs.length := by omega
        exact ⟨xs[j], by rw [hgj]; exact List.getElem?_eq_getElem hjx⟩
      obtain ⟨z0, r0⟩ := hfield 0 _ _ rfl
      obtain ⟨z1, r1⟩ := hfield 1 _ _ rfl
      obtain ⟨z2, r2⟩ := hfield 2 _ _ rfl
      obtain ⟨z3, r3⟩ := hfield 3 _ _ rfl
      rw [hci] at r0 r2
      rw [hcb] at r3
      rw [hcc] at r1
      obtain ⟨n0, e0, _, _⟩ := DataW.trod_int Try.underlying3 r0
      obtain ⟨x, sa, sn, sc, e1, hfit⟩ := call_cells r1
      obtain ⟨n2, e2, _, _⟩ := DataW.trod_int Try.underlying3 r2
      obtain ⟨n3, e3, _⟩ := DataW.trod_bool Try.underlying4 r3
      refine ⟨⟨n0, x, sa, sn, sc, n2, n3⟩, fun j v hv => ?_, hfit⟩
      have hcs : cs = dw ⟨n0, x, sa, sn, sc, n2, n3⟩ := by
        match cs, hcl with
        | [a0, a1, a2, a3, a4, a5, a6, a7, a8, a9], _ =>
          simp at e0 e1 e2 e3
          obtain ⟨q1, q2, q3, q4, q5, q6, q7⟩ := e1
          subst e0 e2 e3 q1 q2 q3 q4 q5 q6 q7
          rfl
      have hj : j < 10 := by have := (List.getElem?_eq_some_iff.1 hv).1; simpa [dw] using this
      have := hat j (by omega)
      rw [hcs, hv] at this
      rw [← add_add]
      exact this
    obtain ⟨f, hf⟩ := choose2 dd0 each
    refine ⟨f, fun h0 => ?_, ?_, fun i hi => (hf i hi).2⟩
    · obtain ⟨b, off, spot⟩ := a
      have h00 := (hf 0 h0).1 0 _ rfl
      have hspot : spot = none := by simpa [Addr.add] using World.cell?_spot h00
      subst hspot
      refine ⟨b, off, rfl, World.block_lt_of_cell? _ _ h00, fun i hil j v hv => ?_⟩
      have h1 := (hf i hil).1 j v hv
      rw [Go.WideShapes.add_plain] at h1
      rw [show off + i * 10 + j = off + (i * 10 + j) by omega]
      exact h1
    · have h1 := hw ((((List.range len0).map D).length + ((List.range (m - len0)).map fun j => D (len0 + j)).length) * Try.prog.bytesOf 42) (by
        have hx1 := congrArg Prod.fst hx
        dsimp only at hx1
        rw [hx1]; unfold DataW.weights; rw [Try.underlying22]; exact List.mem_cons_self)
      rw [show Try.prog.bytesOf 42 = 120 by kernel_rfl] at h1
      simp only [List.length_map, List.length_range, reachBytes] at h1
      omega

/-- touch, pure -/
def touchS (s : St) (x : Cl) : Int × St := if !x.ok then (10, s) else if s.full x.keys then (3, s) else (0, s.grow x.keys)

end Go.Proofs.Ytnloedhcginopaa.TreAd

/- Touch of one call, Has, and copies of nodes. -/
namespace Go.Proofs.Ytnloedhcginopaa.TreAe
set_option linter.unusedVariables false
open Go.ChangeShapes Go.WideShapes Go.ChangeAt Go.RowKit Go.Deep Base Wri Map Opn TreA TreB TreC TreD TreE TreF TreG TreH TreJ TreK TreL TreP TreQ TreR TreS TreT TreV TreW TreX TreY TreWa TreWb TreZ TreAa TreAb TreAc TreAd WinM WinA WinB WinC WinD WinE WinF WinG WinH WinI WinJ WinK WinN StaA StaB StaC

/-- a row of one call -/
def OneCall (w : World) (g : Nat) (x : Cl) (sa : Option Addr) (sn sc : Nat) : Prop := w.heap[g]? = some (.cells (x.cells sa sn sc) 40)
theorem OneCall.at {w : World} {g : Nat} {t : Int} {r c o : ByteArray} {inb : Bool} {cnt : Int} {sa : Option Addr} {sn sc : Nat} (h : OneCall w g ⟨t, r, c, o, inb, cnt⟩ sa sn sc) : w.cell? ⟨g, 0, none⟩ = some (.int .i64 t) ∧ w.cell? ⟨g, 1, none⟩ = some (.string r) ∧ w.cell? ⟨g, 2, none⟩ = some (.string c) ∧ w.cell? ⟨g, 3, none⟩ = some (.string o) ∧ w.cell? ⟨g, 4, none⟩ = some (.bool inb) ∧ w.cell? ⟨g, 5, none⟩ = some (.int .i64 cnt) ∧ w.cell? ⟨g, 6, none⟩ = some (.slice sa sn sc) := by
  unfold OneCall at h
  exact ⟨cell_of h 0 _ rfl, cell_of h 1 _ rfl, cell_of h 2 _ rfl, cell_of h 3 _ rfl, cell_of h 4 _ rfl, cell_of h 5 _ rfl, cell_of h 6 _ rfl⟩

theorem grow_op {own : Nat → Nat} {p b : Nat} {L : List Ent} {s : St} {l : List Key} {w0 w w' : World} {e : Ending} (h : GrowPost own p b L s.last s.last l w e w') (hL : L.map (fun e => (e.key, e.N)) = s.ks) (hb : Below w0.heap.size w0 w) (hT0 : IsT w0 own p s) :
    TOp own p (if s.full l then (3, s) else (0, s.grow l)) w0 e w' := by
  have hk := keys_ents hL
  have hn : L.length = s.ks.length := by rw [← hL, List.length_map]
  unfold GrowPost at h
  rw [hk, hn] at h
  unfold St.full
  rcases h with ⟨h1, rfl, h2⟩ | ⟨h1, rfl, own', v', G, h2, h3, h4, h5, h6⟩
  · rw [if_pos (decide_eq_true h1)]
    exact TOp.same 3 hT0 (hb.trans (h2.mono hb.size))
  · rw [decide_eq_false (by omega)]
    refine ⟨rfl, own', fun k hk => h4 k (Nat.lt_of_lt_of_le hk hb.size), ⟨b, v', L ++ G, ?_, h5⟩, (Wr.ofBelow hb).on h6 fun k hk => .inl hk⟩
    show _ = (s.grow l).ks
    unfold St.grow
    rw [app_map L G _ h3 h2, hL]

set_option maxRecDepth 20000 in
set_option maxHeartbeats 4000000 in
theorem touch_any (p : Nat) (s : St) (own : Nat → Nat) (x : Cl) (hx : x.Fit) (sa : Option Addr) (sn sc g : Nat) (w : World) (hT : IsT w own p s) (h1 : OneCall w g x sa sn sc) :
    Calls Try.prog 18 #[ptr p, .slice (some ⟨g, 0, none⟩) 1 1] w (TOp own p (touchS s x) w) := by
  have HI := hid hT
  have HFit := hid hx
  have H1 := hid h1
  obtain ⟨t, r, c, o, inb, cnt⟩ := x
  clear hT h1 hx
  go_enter Try.func18, Try.ntmps18
  go_wp2_with fail
  go_loopw [5, 14] (fun l i wr => ∃ (k : Nat) (va : Option Addr) (vn vc : Nat), i = .int .i64 k ∧ l = .slice va vn vc ∧ (k = 0 ∧ va = none ∧ vn = 0 ∧ vc = 0 ∨ k = 1 ∧ Cl.ok ⟨t, r, c, o, inb, cnt⟩ = true ∧ KRow wr w.heap.size (.slice va vn vc) (Cl.keys ⟨t, r, c, o, inb, cnt⟩)) ∧ Below w.heap.size w wr) (fun _ i _ => 1 - (intOf i).toNat)
  case atStart => exact ⟨0, none, 0, 0, rfl, rfl, .inl ⟨rfl, rfl, rfl, rfl⟩, Below.refl _ _⟩
  case round =>
    obtain ⟨k, va, vn, vc, rfl, rfl, hk, hb⟩ := hrel
    have HB := hid hb
    have hg1 : g < w.heap.size := (Array.getElem?_eq_some_iff.1 H1.out).1
    rcases hk with ⟨rfl, rfl, rfl, rfl⟩ | ⟨rfl, hok, hrow⟩
    · have hbox : OneCall wr g ⟨t, r, c, o, inb, cnt⟩ sa sn sc := (hb.block g hg1).trans H1.out
      have hgr : g < wr.heap.size := Nat.lt_of_lt_of_le hg1 hb.size
      obtain ⟨c0, c1, c2, c3, c4, c5, c6⟩ := hbox.at
      have hbx : Below wr.heap.size wr (wr.alloc (.cells #[.int .i64 t, .string r, .string c, .string o, .bool inb, .int .i64 cnt, .slice sa sn sc] 40)) := (Below.refl _ _).alloc (Nat.le_refl _) _
      have HK := hid (keys_any t r c o inb cnt sa sn sc (wr.alloc (.cells #[.int .i64 t, .string r, .string c, .string o, .bool inb, .int .i64 cnt, .slice sa sn sc] 40)) HFit.out.r HFit.out.c HFit.out.o)
      have HBx := hid hbx
      clear hb hbx hbox
      go_wp2_with fail
      refine HK.out.mono ?_
      rintro e w1 ⟨⟨hok, v, rfl, hrow⟩ | ⟨hok, rfl⟩, hb1⟩
      · obtain ⟨vb, vd, rfl⟩ := owns_shape hrow
        have HB1 := hid (HB.out.trans ((HBx.out.trans (hb1.mono HBx.out.size)).mono HB.out.size))
        have hrow2 := KRow.mono hrow (show w.heap.size ≤ (wr.alloc (.cells #[.int .i64 t, .string r, .string c, .string o, .bool inb, .int .i64 cnt, .slice sa sn sc] 40)).heap.size from Nat.le_trans HB.out.size HBx.out.size)
        have h0 : KRow w1 w.heap.size (.slice none 0 0) [] := ⟨rfl, .inl ⟨rfl, rfl⟩⟩
        have hlen := (Cl.keys_len ⟨t, r, c, o, inb, cnt⟩).2
        have HR := hid (And.intro h0 (And.intro hrow2 (And.intro HB1.out.size (show ([] : List Key).length + (Cl.keys ⟨t, r, c, o, inb, cnt⟩).length ≤ 1000000000 by simp; omega))))
        have HOk := hid hok
        clear hrow hb1 hrow2 h0 hlen hok c0 c1 c2 c3 c4 c5 c6
        go_wp2_with (at_builtin; refine wpList_append_keys rfl _ _ rfl rfl rfl HR.out.1 HR.out.2.1 HR.out.2.2.1 HR.out.2.2.2 ?_; intro v6 w6 hown6 hgr6 hat6; obtain ⟨ve, vf, rfl⟩ := owns_shape hown6)
        have HO6 := hid hown6
        have HB6 : Hid (Below w.heap.size w w6) := hid (HB1.out.grown hgr6 HB1.out.size (fun k hk => (KRow.has HR.out.1 k hk).1))
        clear hown6 hgr6 hat6
        go_roundw
        case rel => exact ⟨1, ve, (Cl.keys ⟨t, r, c, o, inb, cnt⟩).length, vf, by go_num, by simp [Cl.keys], .inr ⟨rfl, HOk.out, HO6.out⟩, HB6.out⟩
        case measure => simp [intOf]
      · have HB1 := hid (HB.out.trans ((HBx.out.trans (hb1.mono HBx.out.size)).mono HB.out.size))
        have HOk := hid hok
        clear hb1 hok c0 c1 c2 c3 c4 c5 c6
        go_wp2_with fail
        go_ret
        refine err_op ?_ HI.out HB1.out
        unfold touchS Cl.ok
        dsimp only
        rw [HOk.out]
        rfl
    · obtain ⟨b, v, L, hL, hT⟩ := HI.out
      have hT2 := hT.below hb
      obtain ⟨a', cp, hsl, hka, -⟩ := KRow.at hrow
      injection hsl with q1 q2 q3
      subst q1 q2 q3
      have hlen := (Cl.keys_len ⟨t, r, c, o, inb, cnt⟩).2
      have hG := grow_any p b v L s.last s.last own va _ vc _ wr (by omega) (fun i hi => Cl.keys_fit HFit.out _ (by rw [List.getD_eq_getElem?_getD, List.getElem?_eq_getElem hi]; exact List.getElem_mem hi)) hka hT2
      rw [firstK_getD] at hG
      have HG := hid (hG.mono (R' := fun e w' => ∃ q, e = .returned (.int .i64 q) ∧ Hid (TOp own p (touchS s ⟨t, r, c, o, inb, cnt⟩) w e w')) fun e w' h => by
        have h2 := grow_op h hL HB.out HI.out
        have h3 : touchS s ⟨t, r, c, o, inb, cnt⟩ = (if s.full (Cl.keys ⟨t, r, c, o, inb, cnt⟩) then (3, s) else (0, s.grow (Cl.keys ⟨t, r, c, o, inb, cnt⟩))) := by unfold touchS; rw [hok]; rfl
        rw [h3]
        exact ⟨_, h2.1, hid h2⟩)
      clear hb hL hT hT2 hrow hka hlen hG hok
      go_wp2_with fail
      refine HG.out.mono ?_
      rintro e w4 ⟨q, rfl, HOp⟩
      go_wp2_with fail
      go_ret
      exact HOp.out

/-- is there a node of a key -/
def hasS (s : St) (x : Key) : Bool := decide (x ∈ s.keys)

set_option maxRecDepth 20000 in
set_option maxHeartbeats 4000000 in
theorem Has_any (p : Nat) (s : St) (own : Nat → Nat) (x : Key) (hx : x.Fit) (w : World) (hT : IsT w own p s) :
    Calls Try.prog 13 #[ptr p, kv x] w fun e w' => e = .returned (.bool (hasS s x)) ∧ Below w.heap.size w w' := by
  obtain ⟨b, v, L, hL, hT⟩ := hT
  have hb1 : Below w.heap.size w ((w.alloc (.cells #[.int .u8 x.k, .string x.c, .string x.r, .string x.o] 30)).drew.alloc (.cells #[.int .u8 x.k, .string x.c, .string x.r, .string x.o] 30)) := (by repeat (first | (with_reducible exact Below.refl _ _) | (with_reducible refine Below.setCell ?_ (by first | (simp; done) | (simp; omega) | omega) _) | (with_reducible refine Below.alloc ?_ (by first | (simp; done) | (simp; omega) | omega) _) | (with_reducible refine Below.drew ?_)))
  have hb2 : Below w.heap.size w ((w.alloc (.cells #[.int .u8 x.k, .string x.c, .string x.r, .string x.o] 30)).alloc (.cells #[.int .u8 x.k, .string x.c, .string x.r, .string x.o] 30)).drew := (by repeat (first | (with_reducible exact Below.refl _ _) | (with_reducible refine Below.setCell ?_ (by first | (simp; done) | (simp; omega) | omega) _) | (with_reducible refine Below.alloc ?_ (by first | (simp; done) | (simp; omega) | omega) _) | (with_reducible refine Below.drew ?_)))
  have hk1 : KAt ((w.alloc (.cells #[.int .u8 x.k, .string x.c, .string x.r, .string x.o] 30)).drew.alloc (.cells #[.int .u8 x.k, .string x.c, .string x.r, .string x.o] 30)) (some ⟨w.heap.size + 1, 0, none⟩) 1 (fun _ => x) := by
    have := kat_box (w.alloc (.cells #[.int .u8 x.k, .string x.c, .string x.r, .string x.o] 30)).drew x
    rwa [show (w.alloc (.cells #[.int .u8 x.k, .string x.c, .string x.r, .string x.o] 30)).drew.heap.size = w.heap.size + 1 by simp] at this
  have hk2 : KAt ((w.alloc (.cells #[.int .u8 x.k, .string x.c, .string x.r, .string x.o] 30)).alloc (.cells #[.int .u8 x.k, .string x.c, .string x.r, .string x.o] 30)).drew (some ⟨w.heap.size + 1, 0, none⟩) 1 (fun _ => x) := by
    have h3 : KAt ((w.alloc (.cells #[.int .u8 x.k, .string x.c, .string x.r, .string x.o] 30)).alloc (.cells #[.int .u8 x.k, .string x.c, .string x.r, .string x.o] 30)).drew (some ⟨(w.alloc (.cells #[.int .u8 x.k, .string x.c, .string x.r, .string x.o] 30)).heap.size, 0, none⟩) 1 (fun _ => x) := kat_box (w.alloc (.cells #[.int .u8 x.k, .string x.c, .string x.r, .string x.o] 30)) x
    rwa [show (w.alloc (.cells #[.int .u8 x.k, .string x.c, .string x.r, .string x.o] 30)).heap.size = w.heap.size + 1 by simp] at h3
  have e1 : allK L (fun _ => x) 1 = hasS s x := by
    rw [allK_S hL rfl]
    unfold allS hasS firstK
    simp
  have H1 := have_any p b _ 1 1 (fun _ => x) L _ (by decide) (fun _ _ => hx) hk1 (hT.below hb1).cells.1 (hT.below hb1).map
  have H2 := have_any p b _ 1 1 (fun _ => x) L _ (by decide) (fun _ _ => hx) hk2 (hT.below hb2).cells.1 (hT.below hb2).map
  rw [e1] at H1 H2
  have HH1 := hid (H1.mono (R' := fun e w' => e = .returned (.bool (hasS s x)) ∧ Hid (Below w.heap.size w w')) fun e w' h => ⟨h.1, hid (hb1.trans (h.2.mono hb1.size))⟩)
  have HH2 := hid (H2.mono (R' := fun e w' => e = .returned (.bool (hasS s x)) ∧ Hid (Below w.heap.size w w')) fun e w' h => ⟨h.1, hid (hb2.trans (h.2.mono hb2.size))⟩)
  have b0 : (w.alloc (.cells #[.int .u8 x.k, .string x.c, .string x.r, .string x.o] 30)).cell? ⟨w.heap.size, 0, none⟩ = some (.int .u8 x.k) := by go_cell
  have b1 : (w.alloc (.cells #[.int .u8 x.k, .string x.c, .string x.r, .string x.o] 30)).cell? ⟨w.heap.size, 1, none⟩ = some (.string x.c) := by go_cell
  have b2 : (w.alloc (.cells #[.int .u8 x.k, .string x.c, .string x.r, .string x.o] 30)).cell? ⟨w.heap.size, 2, none⟩ = some (.string x.r) := by go_cell
  have b3 : (w.alloc (.cells #[.int .u8 x.k, .string x.c, .string x.r, .string x.o] 30)).cell? ⟨w.heap.size, 3, none⟩ = some (.string x.o) := by go_cell
  clear hT hL hb1 hb2 hk1 hk2 H1 H2 e1
  unfold kv
  go_enter Try.func13, Try.ntmps13
  go_upto_region 1 with fail
  first
    | (go_region_with (first | (go_at_call 24; (first | (with_reducible refine HH1.out.mono ?_) | (with_reducible refine HH2.out.mono ?_)); rintro e w2 ⟨rfl, HB⟩)))
    | fail
  all_goals
    go_wp2_with fail
    go_ret
    exact ⟨rfl, HB.out⟩

end Go.Proofs.Ytnloedhcginopaa.TreAe

namespace Go.Proofs.Ytnloedhcginopaa.TreAf
set_option linter.unusedVariables false
open Go.ChangeShapes Go.WideShapes Go.ChangeAt Go.RowKit Go.Deep Base Wri Map Opn TreA TreB TreC TreD TreE TreF TreG TreH TreJ TreK TreL TreP TreQ TreR TreS TreT TreV TreW TreX TreY TreWa TreWb TreZ TreAa TreAb TreAc TreAd TreAe WinM WinA WinB WinC WinD WinE WinF WinG WinH WinI WinJ WinK WinN StaA StaB StaC StaD

def cells7 (f : Nat → Bkt) (n : Nat) : List Value := ((List.range n).map f).flatMap WinC.bv
theorem cells7_succ (f : Nat → Bkt) (n : Nat) : cells7 f (n + 1) = cells7 f n ++ WinC.bv (f n) := by unfold cells7; simp [List.range_succ]
theorem bv_len (b : Bkt) : (WinC.bv b).length = 7 := rfl
theorem cells7_len (f : Nat → Bkt) (n : Nat) : (cells7 f n).length = n * 7 := by
  induction n with
  | zero => rfl
  | succ n ih => rw [cells7_succ, List.length_append, ih, bv_len]; omega
theorem cells7_at (f : Nat → Bkt) (n : Nat) : ∀ i, i < n → ∀ j, j < 7 → (cells7 f n)[i * 7 + j]? = (WinC.bv (f i))[j]? := by
  induction n with
  | zero => intro i hi; omega
  | succ n ih =>
    intro i hi j hj
    rw [cells7_succ]
    by_cases e : i = n
    · subst e
      rw [List.getElem?_append_right (by rw [cells7_len]; omega), cells7_len, show i * 7 + j - i * 7 = j by omega]
    · rw [List.getElem?_append_left (by rw [cells7_len]; omega)]
      exact ih i (by omega) j hj
theorem one7 (f : Nat → Bkt) (n : Nat) : ∀ u ∈ cells7 f n, u.oneCell' = true := by
  intro u hu
  unfold cells7 at hu
  obtain ⟨x, hx, hu⟩ := List.mem_flatMap.1 hu
  unfold WinC.bv at hu
  simp at hu
  rcases hu with rfl | rfl | rfl | rfl | rfl | rfl | rfl <;> rfl
theorem infoBk : (Try.prog.info? 115).map (fun i => (i.zero, i.size, i.bytes)) = some (some (.agg #[.int .i64 0, .int .i64 0, .int .i64 0, .int .i64 0, .int .i64 0, .int .i64 0, .int .i64 0]), 7, 56) := by kernel_rfl

/-- a row of one's own as buckets -/
theorem bk_of {w : World} {B n : Nat} {v : Value} {f : Nat → Bkt} (h : w.ownsRow B 115 7 v n (cells7 f n)) (hn : 0 < n) : ∃ g cap, v = .slice (some ⟨g, 0, none⟩) n cap ∧ B ≤ g ∧ IsBk w g cap n f := by
  rcases h.2 with ⟨rfl, hz⟩ | ⟨g, cap, cur, rfl, hg, hgb, h1, h2, h3, h4⟩
  · omega
  · refine ⟨g, cap, rfl, hg, cur, hgb, h3, h1, h2, fun i hi j hj => ?_⟩
    have h5 := cells7_at f n i hi j hj
    rw [← h4, List.getElem?_take, if_pos (by omega), Array.getElem?_toList] at h5
    exact h5

set_option maxRecDepth 20000 in
set_option maxHeartbeats 2000000 in
theorem bclone_any (w : World) (go : Option Nat) (v : Value) (bs : List Bkt) (h : Holds w go v bs) (hl : bs.length ≤ 1000) :
    Calls Try.prog 76 #[v] w fun e w' => (∃ a n c, e = .returned (.slice a n c) ∧ ∃ go', Holds w' go' (.slice a n c) bs ∧ ∀ g, go' = some g → w.heap.size ≤ g) ∧ Below w.heap.size w w' := by
  obtain ⟨i0, hi, hz0, hz1, hz2⟩ := info_parts infoBk
  rcases h with ⟨rfl, rfl, rfl⟩ | ⟨g, cap, f, rfl, rfl, hbk, htl⟩
  · have he : ∀ wx, (binOp .eql 110 (.slice none 0 0) (.slice none 0 0)).run Try.prog wx = .ok (.bool true) wx := fun wx => Go.Lib.run_eql_slice_nil wx _ 115 _ _ _ _ _ Try.underlying110
    go_enter Try.func76, Try.ntmps76
    go_wp2_with fail
    go_ret
    exact ⟨⟨none, 0, 0, rfl, none, .inl ⟨rfl, rfl, rfl⟩, fun g hg => by cases hg⟩, Below.refl _ _⟩
  · obtain ⟨n, hn⟩ : ∃ n, bs.length = n := ⟨_, rfl⟩
    rw [hn] at hbk htl hl ⊢
    have he : ∀ wx, (binOp .eql 110 (.slice (some ⟨g, 0, none⟩) n cap) (.slice none 0 0)).run Try.prog wx = .ok (.bool false) wx := fun wx => Go.Lib.run_eql_slice_nil wx _ 115 _ _ _ _ _ Try.underlying110
    have hb0 : Below w.heap.size w (w.alloc (.cells #[] 115)) := (Below.refl _ _).alloc (Nat.le_refl _) _
    have h0 : (w.alloc (.cells #[] 115)).ownsRow w.heap.size 115 7 (.slice (some ⟨w.heap.size, 0, none⟩) 0 0) 0 [] := ⟨rfl, .inr ⟨w.heap.size, 0, #[], rfl, Nat.le_refl _, heap_alloc_new _ _, Nat.le_refl _, Nat.zero_le _, rfl, rfl⟩⟩
    have hbk2 := hbk.of_block (hb0.block g hbk.lt)
    have hnews : ∀ (j : Nat) (u : Value), (cells7 f n)[j]? = some u → (w.alloc (.cells #[] 115)).cell? ((⟨g, 0, none⟩ : Addr).add j) = some u := fun j u hu => by
      have hj := (List.getElem?_eq_some_iff.1 hu).1
      rw [cells7_len] at hj
      have h5 := cells7_at f n (j / 7) (by omega) (j % 7) (by omega)
      rw [show j / 7 * 7 + j % 7 = j by omega] at h5
      rw [Go.WideShapes.add_plain, Nat.zero_add]
      have := hbk2.cell (j / 7) (by omega) (j % 7) (by omega) u (by rw [← h5]; exact hu)
      rwa [show j / 7 * 7 + j % 7 = j by omega] at this
    have HX := hid (And.intro h0 (And.intro hb0 (And.intro hnews htl)))
    have HN := hid hn
    clear hbk hbk2 h0 hb0 hnews htl hn
    go_enter Try.func76, Try.ntmps76
    go_wp2_with (at_builtin; refine wpList_append_own_at _ rfl _ _ 110 rfl w.heap.size 115 i0 (.agg #[.int .i64 0, .int .i64 0, .int .i64 0, .int .i64 0, .int .i64 0, .int .i64 0, .int .i64 0]) 7 56 Try.underlying110 hi hz0 hz1 hz2 rfl (by decide) (.slice (some ⟨w.heap.size, 0, none⟩) 0 0) 0 [] rfl HX.out.1 ⟨g, 0, none⟩ n cap (cells7 f n) rfl (cells7_len f n) HX.out.2.2.1 (one7 f n) (by unfold maxLen; omega) (by omega) (by simp) ?_; intro v6 w6 hown6 hgr6 hnil6 hat6; obtain ⟨vb, vd, rfl⟩ := owns_shape hown6)
    go_ret
    rw [Nat.zero_add, List.nil_append] at hown6
    have hbel : Below w.heap.size w w6 := HX.out.2.1.grown hgr6 (by simp) (fun k e => by simp [Value.ownBlock] at e; omega)
    refine ⟨⟨vb, _, vd, rfl, ?_⟩, hbel⟩
    by_cases hn0 : n = 0
    · subst hn0
      obtain rfl : bs = [] := List.eq_nil_of_length_eq_zero HN.out
      rcases hown6.2 with ⟨e, _⟩ | ⟨g6, cap6, cur6, e, hg6, hgb6, h1, h2, h3, h4⟩
      · exact ⟨none, .inl ⟨rfl, e, rfl⟩, fun g hg => by cases hg⟩
      · exact ⟨some g6, .inr ⟨g6, cap6, fun _ => ⟨0, ⟨0, 0, 0, 0, 0, 0⟩⟩, rfl, e, ⟨cur6, hgb6, h3, h1, h2, fun i hi => absurd hi (Nat.not_lt_zero _)⟩, rfl⟩, fun g hg => by cases hg; exact hg6⟩
    · obtain ⟨g6, cap6, e, hg6, hbk6⟩ := bk_of hown6 (by omega)
      exact ⟨some g6, .inr ⟨g6, cap6, f, rfl, by rw [HN.out]; exact e, by rw [HN.out]; exact hbk6, by rw [HN.out]; exact HX.out.2.2.2⟩, fun g hg => by cases hg; exact hg6⟩

set_option maxRecDepth 20000 in
set_option maxHeartbeats 2000000 in
theorem wfork_any (w : World) (p : Nat) (go : Option Nat) (s : Win) (h : IsWin w p go s) (hl : s.bs.length ≤ 1000) :
    Calls Try.prog 64 #[ptr p] w fun e w' => (∃ q go', e = .returned (ptr q) ∧ w.heap.size ≤ q ∧ IsWin w' q go' s ∧ ∀ g, go' = some g → w.heap.size ≤ g) ∧ Below w.heap.size w w' := by
  obtain ⟨hne, v, hb, hh⟩ := h
  have hsh : ∃ a n c, v = .slice a n c := by
    rcases hh with ⟨_, rfl, _⟩ | ⟨g, cap, f, _, rfl, _⟩
    · exact ⟨_, _, _, rfl⟩
    · exact ⟨_, _, _, rfl⟩
  obtain ⟨a, n, c, rfl⟩ := hsh
  have hpl : p < w.heap.size := (Array.getElem?_eq_some_iff.1 hb).1
  have c0 := cell_of hb 0 _ rfl
  have c1 := cell_of hb 1 _ rfl
  have c2 := cell_of hb 2 _ rfl
  have c3 := cell_of hb 3 _ rfl
  have hbx : Below w.heap.size w (w.alloc (.cells #[.int .i64 s.width, .int .i64 s.size, .int .i64 s.last, .slice a n c] 112)) := (Below.refl _ _).alloc (Nat.le_refl _) _
  have HC := hid (bclone_any _ go _ s.bs (hh.of_block (w' := w.alloc (.cells #[.int .i64 s.width, .int .i64 s.size, .int .i64 s.last, .slice a n c] 112)) fun g hg => hbx.block g (hh.lt g hg)) hl)
  have HBx := hid (And.intro hbx (heap_alloc_new w (.cells #[.int .i64 s.width, .int .i64 s.size, .int .i64 s.last, .slice a n c] 112)))
  clear hh hb hbx hne
  have HS := hid (show (⟨s.width, s.size, s.last, s.bs⟩ : Win) = s from rfl)
  generalize s.width = x1 at *
  generalize s.size = x2 at *
  generalize s.last = x3 at *
  generalize s.bs = bs at *
  go_enter Try.func64, Try.ntmps64
  go_wp2_with fail
  refine HC.out.mono ?_
  rintro e w2 ⟨⟨a2, n2, c2', rfl, go2, hh2, hg2⟩, hb2⟩
  have hq2 := (hb2.block w.heap.size (Array.getElem?_eq_some_iff.1 HBx.out.2).1).trans HBx.out.2
  have d3 := cell_of hq2 3 _ rfl
  have f3 : w2.frozen? ⟨w.heap.size, 3, none⟩ = false := by simp [World.frozen?, hq2]
  have hsz := hb2.size
  have HH := hid (And.intro hh2 (And.intro hg2 (And.intro hb2 hq2)))
  clear hh2 hg2 hb2 hq2 hsz
  go_wp2_with fail
  go_ret
  obtain ⟨hh2, hg2, hb2, hq2⟩ := HH.out
  have hsz := HBx.out.1.size
  have hsz2 : (w.alloc (.cells #[.int .i64 x1, .int .i64 x2, .int .i64 x3, .slice a n c] 112)).heap.size = w.heap.size + 1 := by simp
  refine ⟨⟨_, go2, rfl, Nat.le_refl _, ⟨?_, .slice a2 n2 c2', ?_, ?_⟩, fun g hg => ?_⟩, ?_⟩
  · intro e
    have := hg2 _ e
    omega
  · rw [← HS.out]
    exact heap_setCell_same _ _ _ _ _ _ hq2
  · rw [← HS.out]
    refine hh2.of_block fun g hg => heap_setCell_other _ _ _ _ ?_
    have := hg2 g hg
    show g ≠ w.heap.size
    omega
  · have := hg2 g hg
    omega
  · have hb3 := HBx.out.1.trans (hb2.mono hsz)
    exact hb3.setCell (Nat.le_refl _) _

/-- a node's copy -/
def Copied (w : World) (N : Nd) (e : Ending) (w' : World) : Prop := (∃ S : Spots, e = .returned (ptr S.n) ∧ Above w.heap.size S ∧ IsNode w' S N) ∧ Below w.heap.size w w'

/-- what a copy of a window comes to, beside a node's cells -/
def WCp (w : World) (sn p1 p2 : Nat) (en : Int) (s : Win) (wx : World) (e : Ending) (w' : World) : Prop :=
  ∃ q go', e = .returned (ptr q) ∧ (w'.cell? ⟨sn, 0, none⟩ = some (.int .i64 en) ∧ w'.cell? ⟨sn, 1, none⟩ = some (ptr p1) ∧ w'.cell? ⟨sn, 2, none⟩ = some (ptr p2)) ∧ Hid (wx.heap.size ≤ q ∧ IsWin w' q go' s ∧ (∀ g, go' = some g → wx.heap.size ≤ g) ∧ Below wx.heap.size wx w') ∧ Below w.heap.size w w'

set_option maxRecDepth 20000 in
set_option maxHeartbeats 4000000 in
theorem nfork_any (S : Spots) (N : Nd) (last : Nat) (w : World) (h : IsNode w S N) (ho : N.Ok last) :
    Calls Try.prog 44 #[ptr S.n] w (Copied w N) := by
  obtain ⟨d0, d1, d2, -⟩ := h.cells
  have hnl := h.lt
  have mk : ∀ (p : Nat) (go : Option Nat) (s : Win), IsWin w p go s → s.bs.length ≤ 1000 → Hid (∀ wx, Below w.heap.size w wx → Calls Try.prog 64 #[ptr p] wx (WCp w S.n S.p1 S.p2 N.entries s wx)) := fun p go s hw hl => hid fun wx hb => (wfork_any wx p go s (hw.keep (R := fun _ => False) (Lets.ofBelow hb) (fun h => h) (fun _ _ h => h)) hl).mono (by
    rintro e w' ⟨⟨q, go', rfl, h1, h2, h3⟩, h4⟩
    have hb' := hb.trans (h4.mono hb.size)
    exact ⟨q, go', rfl, ⟨kcS hb' d0, kcS hb' d1, kcS hb' d2⟩, hid ⟨h1, h2, h3, h4⟩, hb'⟩)
  have HW1 := mk S.p1 S.g1 N.sec h.2.1 ho.n1
  have HW2 := mk S.p2 S.g2 N.pair h.2.2.1 ho.n2
  have HE := hid (show (⟨N.entries, N.sec, N.pair⟩ : Nd) = N from rfl)
  clear mk h ho
  generalize S.n = sn at *
  generalize S.p1 = p1 at *
  generalize S.p2 = p2 at *
  generalize N.entries = en at *
  generalize N.sec = s1 at *
  generalize N.pair = s2 at *
  unfold WCp at HW1 HW2
  go_enter Try.func44, Try.ntmps44
  go_upto_region 3 with fail
  go_region_held3 (fun w' => w'.cell? ⟨sn, 0, none⟩ = some (.int .i64 en) ∧ w'.cell? ⟨sn, 1, none⟩ = some (ptr p1) ∧ w'.cell? ⟨sn, 2, none⟩ = some (ptr p2)) (first | assumption | go_keep) (first | (go_at_call 64; with_reducible refine (HW1.out _ (by first | exact (Below.refl _ _).drew | exact hbelB)).mono ?_; rintro e wA ⟨qA, gA, rfl, ⟨kA0, kA1, kA2⟩, HA, hbelA⟩) | (go_at_call 64; with_reducible refine (HW2.out _ (by first | exact (Below.refl _ _).drew | exact hbelA)).mono ?_; rintro e wB ⟨qB, gB, rfl, ⟨kB0, kB1, kB2⟩, HB, hbelB⟩))
  all_goals
    obtain ⟨a1, a2, a3, a4⟩ := HA.out
    obtain ⟨b1, b2, b3, b4⟩ := HB.out
    have zA := a2.lt
    have yA := a2.lt2
    have zB := b2.lt
    have yB := b2.lt2
    have sA : w.heap.size ≤ wA.heap.size := hbelA.size
    have sB := b4.size
    have a1' : w.heap.size ≤ qA := a1
    have a3' : ∀ g, gA = some g → w.heap.size ≤ g := a3
    have hbx : Below wB.heap.size wB (wB.alloc (.cells #[.int .i64 en, ptr qA, ptr qB] 85)) := (Below.refl _ _).alloc (Nat.le_refl _) _
    have HF : Hid (Copied w N (.returned (ptr wB.heap.size)) (wB.alloc (.cells #[.int .i64 en, ptr qA, ptr qB] 85))) := hid (by
      refine ⟨⟨⟨wB.heap.size, qA, gA, qB, gB⟩, rfl, ⟨by show w.heap.size ≤ wB.heap.size; omega, a1', a3', by show w.heap.size ≤ qB; omega, fun g hg => by have := b3 g hg; omega⟩, ?_⟩, hbelB.trans (hbx.mono hbelB.size)⟩
      rw [← HE.out]
      refine ⟨heap_alloc_new _ _, ?_, b2.keep (R := fun _ => False) (Lets.ofBelow hbx) (fun h => h) (fun _ _ h => h), ?_⟩
      · exact (a2.keep (R := fun _ => False) (Lets.ofBelow b4) (fun h => h) (fun _ _ h => h)).keep (R := fun _ => False) (Lets.ofBelow hbx) (fun h => h) (fun _ _ h => h)
      · refine ⟨by show wB.heap.size ≠ qA; omega, by show wB.heap.size ≠ qB; omega, by show qA ≠ qB; omega, fun e => ?_, fun e => ?_, fun e => ?_, fun e => ?_, fun g e e2 => ?_⟩
        · have := yA _ e; dsimp only at this; omega
        · have := yA _ e; dsimp only at this; omega
        · have := yB _ e; dsimp only at this; omega
        · have := b3 _ e; dsimp only at this; omega
        · have h1 := yA _ e
          have h2 := b3 _ e2
          omega)
    clear a1 a2 a3 a4 b1 b2 b3 b4 zA yA zB yB sA sB a1' a3' hbx
    go_wp2_with fail
    go_ret
    exact HF.out

/-- a node's copy, of a tree's node -/
def nodeS (s : St) (x : Key) : Option Nd := (s.ks.find? fun e => decide (e.1 = x)).map (·.2)

set_option maxRecDepth 20000 in
set_option maxHeartbeats 2000000 in
theorem Node_any (p : Nat) (s : St) (own : Nat → Nat) (x : Key) (hx : x.Fit) (w : World) (hT : IsT w own p s) :
    Calls Try.prog 19 #[ptr p, kv x] w fun e w' => (hasS s x = false ∧ e = .returned (.pointer none) ∨ hasS s x = true ∧ ∃ (S : Spots) (N : Nd) (l : Nat), e = .returned (ptr S.n) ∧ Above w.heap.size S ∧ IsNode w' S N ∧ NK N l ∧ l ≤ s.last) ∧ Below w.heap.size w w' := by
  obtain ⟨b, v, L, hL, hT⟩ := hT
  have hb1 : Below w.heap.size w (w.alloc (.cells #[.int .u8 x.k, .string x.c, .string x.r, .string x.o] 30)) := (Below.refl _ _).alloc (Nat.le_refl _) _
  have hT1 := hT.below hb1
  obtain ⟨k0, -, -, -⟩ := hT1.cells
  have b0 : (w.alloc (.cells #[.int .u8 x.k, .string x.c, .string x.r, .string x.o] 30)).cell? ⟨w.heap.size, 0, none⟩ = some (.int .u8 x.k) := by go_cell
  have b1 : (w.alloc (.cells #[.int .u8 x.k, .string x.c, .string x.r, .string x.o] 30)).cell? ⟨w.heap.size, 1, none⟩ = some (.string x.c) := by go_cell
  have b2 : (w.alloc (.cells #[.int .u8 x.k, .string x.c, .string x.r, .string x.o] 30)).cell? ⟨w.heap.size, 2, none⟩ = some (.string x.r) := by go_cell
  have b3 : (w.alloc (.cells #[.int .u8 x.k, .string x.c, .string x.r, .string x.o] 30)).cell? ⟨w.heap.size, 3, none⟩ = some (.string x.o) := by go_cell
  have hl : (Instr.lookup 55 (.map (some b)) (.agg #[.int .u8 x.k, .string x.c, .string x.r, .string x.o]) false).run Try.prog (w.alloc (.cells #[.int .u8 x.k, .string x.c, .string x.r, .string x.o] 30)).drew = .ok (nptr L x) (w.alloc (.cells #[.int .u8 x.k, .string x.c, .string x.r, .string x.o] 30)).drew := (hT1.below (Below.refl _ _).drew).map.look x hx
  have hhas : hasK L x = hasS s x := by
    unfold hasS
    rw [← keys_ents hL, Bool.eq_iff_iff, hasK_iff, decide_eq_true_iff]
  have HT := hid (And.intro hT1 hb1)
  clear hT hL hT1 hb1
  unfold kv
  go_enter Try.func19, Try.ntmps19
  go_upto_region 3 with fail
  generalize (w.alloc (.cells #[.int .u8 x.k, .string x.c, .string x.r, .string x.o] 30)) = wb at *
  cases hh : hasK L x with
  | true =>
    obtain ⟨e, he, hek, hp⟩ := nptr_yes hh
    rw [hp] at hl
    obtain ⟨i, hi, hge⟩ := List.getElem_of_mem he
    obtain ⟨n1, ⟨l, n2, n3⟩, n4⟩ := HT.out.1.nds i _ (List.getElem?_eq_getElem hi)
    rw [hge] at n1 n3
    have hf := nfork_any e.S e.N l wb.drew (n1.below (Below.refl _ _).drew) n3.ok
    have HF := hid (hf.mono (R' := fun e' w' => (∃ q, e' = .returned (ptr q) ∧ Hid (∃ (S : Spots) (N : Nd) (l : Nat), q = S.n ∧ Above w.heap.size S ∧ IsNode w' S N ∧ NK N l ∧ l ≤ s.last)) ∧ Hid (Below w.heap.size w w')) fun e' w' h => by
      obtain ⟨⟨S, rfl, h1, h2⟩, h3⟩ := h
      have hs := HT.out.2.size
      have h1' : Above wb.heap.size S := h1
      have h3' : Below wb.heap.size wb w' := ⟨h3.os, h3.tape, h3.output, h3.size, h3.block⟩
      exact ⟨⟨_, rfl, hid ⟨S, e.N, l, rfl, ⟨Nat.le_trans hs h1'.1, Nat.le_trans hs h1'.2.1, fun g hg => Nat.le_trans hs (h1'.2.2.1 g hg), Nat.le_trans hs h1'.2.2.2.1, fun g hg => Nat.le_trans hs (h1'.2.2.2.2 g hg)⟩, h2, n3, n2⟩⟩, hid (HT.out.2.trans (h3'.mono hs))⟩)
    have HH := hid (hhas.symm.trans hh)
    clear hh he hek hp hge n1 n2 n3 n4 hf hhas
    generalize e.S.n = sn at *
    first
      | (go_region_with (first | (go_at_call 44; refine HF.out.mono ?_; rintro e2 w2 ⟨⟨q, rfl, HQ⟩, HB⟩)))
      | fail
    all_goals
      go_wp2_with fail
      go_ret
      obtain ⟨S, N, l, rfl, q1, q2, q3, q4⟩ := HQ.out
      exact ⟨.inr ⟨HH.out, S, N, l, rfl, q1, q2, q3, q4⟩, HB.out⟩
  | false =>
    rw [nptr_no hh] at hl
    have HH := hid (hhas.symm.trans hh)
    have HF := hid (StaF.fork_nil wb.drew)
    have HB1 := hid HT.out.2.drew
    clear hh hhas
    first
      | (go_region_with (first | (go_at_call 44; refine HF.out.mono ?_; rintro e2 w2 ⟨rfl, hw2⟩)))
      | fail
    all_goals
      subst hw2
      go_wp2_with fail
      go_ret
      exact ⟨.inl ⟨HH.out, rfl⟩, HB1.out⟩

end Go.Proofs.Ytnloedhcginopaa.TreAf
