/- A node that keeps its promises whatever is asked: its calls as steps. -/
import Derived.Test.YtfpbjkmnipacdaaSecA
import Derived.Test.YtfpbjkmnipacdaaSecB
namespace Go.Proofs.Ytfpbjkmnipacdaa.FliA
open Go.ChangeShapes Go.WideShapes Go.ChangeAt Go.RowKit Base WinM WinA WinB WinC WinD WinE WinF WinG WinH WinI WinJ WinK WinL WinN StaA StaB StaC StaD StaH StaI SecB WldF WldG

structure FGood (N : Nd) (last : Nat) : Prop where
  ok : N.Ok last
  t1 : Tidy 100000 N.sec last
  t2 : Tidy 1000000 N.pair last
  lt : last ≤ 1152921504606846976

theorem fgood_new : FGood Nd.new 0 := ⟨newOk, Tidy.fresh _ _ _, Tidy.fresh _ _ _, by decide⟩

theorem FGood.note {N : Nd} {last at_ : Nat} (h : FGood N last) (hb : last ≤ at_) (hl : at_ ≤ 1152921504606846976) (k : Int) (hk : 0 ≤ k ∧ k ≤ 4096) (c : Cnt) (hc : c.Fine) : FGood (({ N with entries := k } : Nd).noted at_ c) at_ := by
  have a1 := h.t1.add hb (by rw [h.ok.w1]; decide) hc
  have a2 := h.t2.add hb (by rw [h.ok.w2]; decide) hc
  have w1 := h.ok.w1
  have s1 := h.ok.s1
  have w2 := h.ok.w2
  have s2 := h.ok.s2
  have n1 := a1.len (by show N.sec.width = N.sec.size * 100000; rw [w1, s1]) (by decide)
  have n2 := a2.len (by show N.pair.width = N.pair.size * 1000000; rw [w2, s2]) (by decide)
  refine { ok := { w1 := w1, s1 := s1, w2 := w2, s2 := s2, l1 := rfl, l2 := rfl, f1 := a1.fine, f2 := a2.fine, n1 := ?_, n2 := ?_, e1 := hk.1, e2 := hk.2 }, t1 := a1, t2 := a2, lt := hl }
  · exact Nat.le_trans n1 (by show N.sec.size ≤ 1000; rw [s1]; decide)
  · exact Nat.le_trans n2 (by show N.pair.size ≤ 1000; rw [s2]; decide)

structure Sn (w0 : World) (S : Spots) (N : Nd) (wr : World) : Prop where
  node : IsNode wr S N
  above : ∀ k, S.Has k → w0.heap.size ≤ k
  bel : Below w0.heap.size w0 wr

variable {w0 : World} {S : Spots} {N N' : Nd} {wr w' : World}

theorem Sn.below (h : Sn w0 S N wr) (hb : Below wr.heap.size wr w') : Sn w0 S N w' := ⟨h.node.below hb, h.above, h.bel.trans (hb.mono h.bel.size)⟩
theorem Sn.alloc (h : Sn w0 S N wr) (o : Obj) : Sn w0 S N (wr.alloc o) := h.below ((Below.refl _ _).alloc (Nat.le_refl _) o)
theorem Sn.drewN (h : Sn w0 S N wr) (n : Nat) : Sn w0 S N (wr.drewN n) := h.below ⟨rfl, rfl, rfl, Nat.le_refl _, fun _ _ => rfl⟩

theorem Sn.noted {e : Ending} (h : Sn w0 S N wr) (hp : NodePost S N' wr e w') : ∃ S', S'.n = S.n ∧ Sn w0 S' N' w' := by
  obtain ⟨_, S', hn, hg, hl⟩ := hp
  have hsz := h.bel.size
  refine ⟨S', hg.1, hn, fun k hk => ?_, h.bel.trans (hl.below _ hsz h.above)⟩
  obtain ⟨g1, g2, g3, g4, g5⟩ := hg
  have A := h.above
  rcases hk with rfl | rfl | e | rfl | e
  · exact A _ (.inl g1)
  · exact A _ (.inr (.inl g2))
  · rcases g4 with g4 | ⟨g, g4, hlt⟩
    · exact A _ (.inr (.inr (.inl (g4 ▸ e))))
    · rw [g4] at e; obtain rfl := Option.some.inj e; omega
  · exact A _ (.inr (.inr (.inr (.inl g3))))
  · rcases g5 with g5 | ⟨g, g5, hlt⟩
    · exact A _ (.inr (.inr (.inr (.inr (g5 ▸ e)))))
    · rw [g5] at e; obtain rfl := Option.some.inj e; omega

/-- behind a call: refused, and nothing changed; or done -/
def FPost (w0 : World) (n : Nat) (wz : World) (at_ : Int) (k : Int) (r : Int) (w' : World) : Prop :=
  (r ≠ 0 ∧ wz = w') ∨ (r = 0 ∧ ∃ (t : Nat) (S' : Spots) (N' : Nd), at_ = t ∧ S'.n = n ∧ Sn w0 S' N' w' ∧ FGood N' t ∧ N'.entries = k)

theorem time_of {last : Nat} {at_ : Int} {b : Bool} (hr : nrefM last at_ b = 0) : b = true ∧ ∃ t : Nat, at_ = t ∧ t ≤ 1152921504606846976 ∧ last ≤ t := by
  unfold nrefM at hr
  split at hr
  · rename_i hb
    split at hr
    · cases hr
    · rename_i hlast
      obtain ⟨hb1, hb2⟩ := hb
      unfold isT at hb2
      have hb3 : 0 ≤ at_ ∧ at_ ≤ 1152921504606846976 := by simpa using hb2
      exact ⟨hb1, at_.toNat, by omega, by omega, by omega⟩
  · cases hr

theorem pass_f (last : Nat) (at_ : Int) (a : Option Addr) (m cap : Nat) (f : Nat → Int) (h : Sn w0 S N wr) (hg : FGood N last) (hm : m ≤ 9223372036854775807) (hi : Ints wr a m f) (hfar : 0 < m → ∀ g o, a = some ⟨g, o, none⟩ → g < w0.heap.size) :
    Calls Try.prog 18 #[.pointer (some ⟨S.n, 0, none⟩), .int .i64 at_, .slice a m cap] wr fun e w' =>
      ∃ r : Int, e = .returned (.int .i64 r) ∧ Lets S.Has wr w' ∧ FPost w0 S.n wr at_ (N.entries + m) r w' := by
  by_cases hr : nrefM last at_ (goodC f m) = 0
  · obtain ⟨hb1, t, rfl, ht, hlast⟩ := time_of hr
    have hbad : ∀ i, i < m → badC (f i) = false := by unfold goodC at hb1; simpa using hb1
    by_cases hroom : (m : Int) ≤ 4096 - N.entries
    · refine (pass_yes S N last t a m cap f _ h.node hg.ok (by omega) (by omega) hi (fun h0 g o e e2 => by have h1 := hfar h0 g o e; have h2 := h.above _ (.inl e2); omega) hbad hroom).mono fun e w' hp => ?_
      obtain ⟨S', hS', hst⟩ := h.noted hp
      exact ⟨0, hp.1, hp.2.choose_spec.2.2, .inr ⟨rfl, t, S', _, rfl, hS', hst, hg.note hlast ht _ ⟨by have := hg.ok.e1; omega, by omega⟩ _ (right_pass _ (tokM_in f m hbad)).1, rfl⟩⟩
    · refine (pass_full S N last t a m cap f _ h.node hg.ok (by omega) (by omega) hm hi hbad (by omega)).mono ?_
      rintro e w' ⟨⟨r, hr, rfl⟩, hw⟩
      exact ⟨r, rfl, hw ▸ Lets.refl _ _, .inl ⟨hr, hw⟩⟩
  · refine (pass_no S N last at_ a m cap f _ h.node hg.ok.l1 hm hi hr).mono ?_
    rintro e w' ⟨he, hw⟩
    exact ⟨_, he, hw ▸ Lets.refl _ _, .inl ⟨hr, hw⟩⟩

theorem block_f (last : Nat) (at_ : Int) (a : Option Addr) (m cap : Nat) (f : Nat → Int) (h : Sn w0 S N wr) (hg : FGood N last) (hm : m ≤ 9223372036854775807) (hi : Ints wr a m f) :
    Calls Try.prog 19 #[.pointer (some ⟨S.n, 0, none⟩), .int .i64 at_, .slice a m cap] wr fun e w' =>
      ∃ r : Int, e = .returned (.int .i64 r) ∧ Lets S.Has wr w' ∧ FPost w0 S.n wr at_ N.entries r w' := by
  by_cases hr : nrefM last at_ (goodC f m) = 0
  · obtain ⟨hb1, t, rfl, ht, hlast⟩ := time_of hr
    have hbad : ∀ i, i < m → badC (f i) = false := by unfold goodC at hb1; simpa using hb1
    refine (block_yes S N last t a m cap f _ h.node hg.ok (by omega) (by omega) hm hi hbad).mono fun e w' hp => ?_
    obtain ⟨S', hS', hst⟩ := h.noted hp
    exact ⟨0, hp.1, hp.2.choose_spec.2.2, .inr ⟨rfl, t, S', _, rfl, hS', hst, hg.note hlast ht N.entries ⟨hg.ok.e1, hg.ok.e2⟩ _ (StaC.right_block _ (tokM_in f m hbad)).1, rfl⟩⟩
  · refine (block_no S N last at_ a m cap f _ h.node hg.ok.l1 hm hi hr).mono ?_
    rintro e w' ⟨he, hw⟩
    exact ⟨_, he, hw ▸ Lets.refl _ _, .inl ⟨hr, hw⟩⟩

theorem done_f (last : Nat) (at_ rt : Int) (fl : Bool) (h : Sn w0 S N wr) (hg : FGood N last) :
    Calls Try.prog 20 #[.pointer (some ⟨S.n, 0, none⟩), .int .i64 at_, .int .i64 rt, .bool fl] wr fun e w' =>
      ∃ r : Int, e = .returned (.int .i64 r) ∧ Lets S.Has wr w' ∧ FPost w0 S.n wr at_ (N.entries - 1) r w' := by
  by_cases hr : nrefM last at_ (isT rt) = 0
  · obtain ⟨hb1, t, rfl, ht, hlast⟩ := time_of hr
    have hrt : 0 ≤ rt ∧ rt ≤ 1152921504606846976 := by unfold isT at hb1; simpa using hb1
    by_cases he0 : N.entries = 0
    · refine (done_empty S N last t rt fl _ h.node hg.ok (by omega) (by omega) hrt he0).mono ?_
      rintro e w' ⟨⟨r, hr, rfl⟩, hw⟩
      exact ⟨r, rfl, hw ▸ Lets.refl _ _, .inl ⟨hr, hw⟩⟩
    · refine (done_yes S N last t rt fl _ h.node hg.ok (by omega) (by omega) hrt he0).mono fun e w' hp => ?_
      obtain ⟨S', hS', hst⟩ := h.noted hp
      exact ⟨0, hp.1, hp.2.choose_spec.2.2, .inr ⟨rfl, t, S', _, rfl, hS', hst, hg.note hlast ht _ ⟨by have := hg.ok.e1; omega, by have := hg.ok.e2; omega⟩ _ (right_done rt _ hrt (by cases fl; exact .inl rfl; exact .inr rfl)).1, rfl⟩⟩
  · refine (done_no S N last at_ rt fl _ h.node hg.ok.l1 hr).mono ?_
    rintro e w' ⟨he, hw⟩
    exact ⟨_, he, hw ▸ Lets.refl _ _, .inl ⟨hr, hw⟩⟩

end Go.Proofs.Ytfpbjkmnipacdaa.FliA
