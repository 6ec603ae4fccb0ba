/- The walk of live (stat). -/
import Derived.Test.YtnloedhcginopaaStaC
namespace Go.Proofs.Ytnloedhcginopaa.StaD
open Go.ChangeShapes Go.WideShapes Go.ChangeAt Go.RowKit Base WinM WinA WinB WinC WinD WinE WinF WinG WinH WinI WinJ WinK WinL StaA StaB StaC WldF WldG

def n1 : Nd := ⟨1, ⟨1000000, 10, 100, [⟨0, ⟨3, 0, 0, 0, 0, 0⟩⟩]⟩, ⟨2000000, 2, 100, [⟨0, ⟨3, 0, 0, 0, 0, 0⟩⟩]⟩⟩
def n2 : Nd := ⟨2, ⟨1000000, 10, 950000, [⟨0, ⟨3, 0, 0, 0, 0, 0⟩⟩, ⟨900000, ⟨1, 0, 0, 0, 0, 0⟩⟩]⟩, ⟨2000000, 2, 950000, [⟨0, ⟨4, 0, 0, 0, 0, 0⟩⟩]⟩⟩
def n3 : Nd := ⟨1, ⟨1000000, 10, 1000000, [⟨900000, ⟨1, 0, 0, 0, 0, 0⟩⟩, ⟨1000000, ⟨0, 0, 1, 1, 50, 50⟩⟩]⟩, ⟨2000000, 2, 1000000, [⟨0, ⟨4, 0, 0, 0, 0, 0⟩⟩, ⟨1000000, ⟨0, 0, 1, 1, 50, 50⟩⟩]⟩⟩

theorem n1_eq : ({ Nd.new with entries := Nd.new.entries + ((1 : Nat) : Int) } : Nd).noted 100 ⟨tokM (firsts (fun _ => 3) 1), 0, 0, 0, 0, 0⟩ = n1 := by kernel_rfl
theorem n2_eq : ({ n1 with entries := n1.entries + ((1 : Nat) : Int) } : Nd).noted 950000 ⟨tokM (firsts (fun _ => 1) 1), 0, 0, 0, 0, 0⟩ = n2 := by kernel_rfl
theorem n3_eq : ({ n2 with entries := n2.entries - 1 } : Nd).noted 1000000 ⟨0, 0, 1, if true then 1 else 0, 50, 50⟩ = n3 := by kernel_rfl
theorem sum2a : sumN n2 999999 = ⟨4, 0, 0, 0, 0, 0⟩ := by kernel_rfl
theorem sum2b : sumN n2 1000000 = ⟨1, 0, 0, 0, 0, 0⟩ := by kernel_rfl
theorem past2 : pastN n2 1000000 = 4 := by kernel_rfl
theorem sum3 : sumN n3 1000000 = ⟨1, 0, 1, 1, 50, 50⟩ := by kernel_rfl

theorem fine_of (a b c d e f : Int) (h : (0 ≤ a ∧ a ≤ 4611686018427387904) ∧ (0 ≤ b ∧ b ≤ 4611686018427387904) ∧ (0 ≤ c ∧ c ≤ 4611686018427387904) ∧ (0 ≤ d ∧ d ≤ 4611686018427387904) ∧ (0 ≤ e ∧ e ≤ 4611686018427387904) ∧ (0 ≤ f ∧ f ≤ 4611686018427387904)) : (Cnt.mk a b c d e f).Fine := h

theorem n1Ok : n1.Ok 100 := { w1 := rfl, s1 := rfl, w2 := rfl, s2 := rfl, l1 := rfl, l2 := rfl, f1 := (fun x h => by simp [n1] at h; subst h; exact fine_of _ _ _ _ _ _ (by decide)), f2 := (fun x h => by simp [n1] at h; subst h; exact fine_of _ _ _ _ _ _ (by decide)), n1 := by decide, n2 := by decide, e1 := by decide, e2 := by decide }
theorem n2Ok : n2.Ok 950000 := { w1 := rfl, s1 := rfl, w2 := rfl, s2 := rfl, l1 := rfl, l2 := rfl, f1 := (fun x h => by simp [n2] at h; rcases h with rfl | rfl <;> exact fine_of _ _ _ _ _ _ (by decide)), f2 := (fun x h => by simp [n2] at h; subst h; exact fine_of _ _ _ _ _ _ (by decide)), n1 := by decide, n2 := by decide, e1 := by decide, e2 := by decide }
theorem n3Ok : n3.Ok 1000000 := { w1 := rfl, s1 := rfl, w2 := rfl, s2 := rfl, l1 := rfl, l2 := rfl, f1 := (fun x h => by simp [n3] at h; rcases h with rfl | rfl <;> exact fine_of _ _ _ _ _ _ (by decide)), f2 := (fun x h => by simp [n3] at h; rcases h with rfl | rfl <;> exact fine_of _ _ _ _ _ _ (by decide)), n1 := by decide, n2 := by decide, e1 := by decide, e2 := by decide }

theorem ints_one (w : World) (x : Int) : Ints (w.alloc (.cells #[.int .i64 x] 3)) (some ⟨w.heap.size, 0, none⟩) 1 (fun _ => x) := by
  intro _
  refine ⟨w.heap.size, 0, rfl, by simp, fun i hi => ?_⟩
  obtain rfl : i = 0 := by omega
  simp

/-- all of a node's blocks lie above -/
def Above (B : Nat) (S : Spots) : Prop := B ≤ S.n ∧ B ≤ S.p1 ∧ (∀ g, S.g1 = some g → B ≤ g) ∧ B ≤ S.p2 ∧ ∀ g, S.g2 = some g → B ≤ g
theorem Above.has {B : Nat} {S : Spots} (h : Above B S) (k : Nat) (hk : S.Has k) : B ≤ k := by
  rcases hk with rfl | rfl | e | rfl | e
  · exact h.1
  · exact h.2.1
  · exact h.2.2.1 k e
  · exact h.2.2.2.1
  · exact h.2.2.2.2 k e
theorem Above.grew {B : Nat} {S S' : Spots} {sz : Nat} (h : Above B S) (hg : S.Grew S' sz) (hs : B ≤ sz) : Above B S' := by
  obtain ⟨e1, e2, e3, e4, e5⟩ := hg
  refine ⟨by rw [e1]; exact h.1, by rw [e2]; exact h.2.1, fun g hg => ?_, by rw [e3]; exact h.2.2.2.1, fun g hg => ?_⟩
  · rcases e4 with e | ⟨g', e, hle⟩
    · exact h.2.2.1 g (by rw [← e, hg])
    · rw [e] at hg; cases hg; omega
  · rcases e5 with e | ⟨g', e, hle⟩
    · exact h.2.2.2.2 g (by rw [← e, hg])
    · rw [e] at hg; cases hg; omega

/-- a node of the call's own, known -/
def Mine (B L : Nat) (N : Nd) (n : Nat) (w : World) : Prop := ∃ S : Spots, S.n = n ∧ Above B S ∧ IsNode w S N ∧ ∀ k, S.Has k → k < L
theorem Mine.below {B L : Nat} {N : Nd} {n : Nat} {w w' : World} (h : Mine B L N n w) (hb : Below w.heap.size w w') : Mine B L N n w' := by
  obtain ⟨S, h1, h2, h3, h4⟩ := h
  exact ⟨S, h1, h2, h3.below hb, h4⟩
theorem Mine.lt {B L : Nat} {N : Nd} {n : Nat} {w : World} (h : Mine B L N n w) : n < w.heap.size := by
  obtain ⟨S, rfl, _, h, _⟩ := h
  exact h.lt

/-- what a noting call leaves -/
def MinePost (B L : Nat) (N' : Nd) (n : Nat) (w : World) (e : Ending) (w' : World) : Prop := e = .returned (.int .i64 0) ∧ Mine B w'.heap.size N' n w' ∧ Below B w w' ∧ w.heap.size ≤ w'.heap.size ∧ ∀ b, L ≤ b → b < w.heap.size → w'.heap[b]? = w.heap[b]?

theorem mine_pass (B L n : Nat) (N N' : Nd) (last at_ : Nat) (a : Option Addr) (k cap : Nat) (f : Nat → Int) (w : World) (hB : B ≤ w.heap.size) (h : Mine B L N n w) (ho : N.Ok last) (hat : at_ ≤ 1152921504606846976) (hback : last ≤ at_)
    (hi : Ints w a k f) (hfar : ∀ g o, a = some ⟨g, o, none⟩ → g ≠ n) (hx : ∀ i, i < k → badC (f i) = false) (hroom : (k : Int) ≤ 4096 - N.entries) (he : ({ N with entries := N.entries + k } : Nd).noted at_ ⟨tokM (firsts f k), 0, 0, 0, 0, 0⟩ = N') :
    Calls Try.prog 20 #[.pointer (some ⟨n, 0, none⟩), .int .i64 at_, .slice a k cap] w (MinePost B L N' n w) := by
  obtain ⟨S, rfl, hab, hn, hL⟩ := h
  refine (pass_yes S N last at_ a k cap f w hn ho hat hback hi (fun _ => hfar) hx hroom).mono ?_
  rintro e w' ⟨he', S', hn', hg, hl⟩
  rw [he] at hn'
  exact ⟨he', ⟨S', hg.1, hab.grew hg hB, hn', hn'.hasLt⟩, hl.below B hB (hab.has), hl.size, fun b h1 h2 => hl.block b h2 (fun h3 => by have := hL b h3; omega)⟩

theorem mine_done (B L n : Nat) (N N' : Nd) (last at_ : Nat) (rt : Int) (fl : Bool) (w : World) (hB : B ≤ w.heap.size) (h : Mine B L N n w) (ho : N.Ok last) (hat : at_ ≤ 1152921504606846976) (hback : last ≤ at_) (hrt : 0 ≤ rt ∧ rt ≤ 1152921504606846976) (hne : N.entries ≠ 0)
    (he : ({ N with entries := N.entries - 1 } : Nd).noted at_ ⟨0, 0, 1, if fl then 1 else 0, rt, rt⟩ = N') :
    Calls Try.prog 41 #[.pointer (some ⟨n, 0, none⟩), .int .i64 at_, .int .i64 rt, .bool fl] w (MinePost B L N' n w) := by
  obtain ⟨S, rfl, hab, hn, hL⟩ := h
  refine (done_yes S N last at_ rt fl w hn ho hat hback hrt hne).mono ?_
  rintro e w' ⟨he', S', hn', hg, hl⟩
  rw [he] at hn'
  exact ⟨he', ⟨S', hg.1, hab.grew hg hB, hn', hn'.hasLt⟩, hl.below B hB (hab.has), hl.size, fun b h1 h2 => hl.block b h2 (fun h3 => by have := hL b h3; omega)⟩

theorem good_one (x : Int) (h : 1 ≤ x ∧ x ≤ 1099511627776) : ∀ i : Nat, i < 1 → badC ((fun _ => x) i) = false := fun _ _ => by unfold badC; simp; omega

/-- the steps of live, one by one -/
theorem live_new (w : World) :
    Calls Try.prog 62 #[] w fun e w' => e = .returned (.pointer (some ⟨w.heap.size + 2, 0, none⟩)) ∧ Mine w.heap.size w'.heap.size Nd.new (w.heap.size + 2) w' ∧ Below w.heap.size w w' ∧ w'.heap.size = w.heap.size + 3 := by
  refine (new_any w).mono ?_
  rintro e w' ⟨rfl, hn, hb, hs⟩
  exact ⟨rfl, ⟨_, rfl, ⟨by simp, by simp, by simp, by simp, by simp⟩, hn, hn.hasLt⟩, hb, hs⟩

theorem live_pass1 (B L n : Nat) (w : World) (hB : B ≤ w.heap.size) (h : Mine B L Nd.new n w) :
    Calls Try.prog 20 #[.pointer (some ⟨n, 0, none⟩), .int .i64 100, .slice (some ⟨w.heap.size, 0, none⟩) 1 1] (w.alloc (.cells #[.int .i64 3] 3)) (MinePost B L n1 n (w.alloc (.cells #[.int .i64 3] 3))) :=
  mine_pass B L n Nd.new n1 0 100 (some ⟨w.heap.size, 0, none⟩) 1 1 (fun _ => 3) (w.alloc (.cells #[.int .i64 3] 3)) (by simp; omega) (h.below ((Below.refl _ _).alloc (Nat.le_refl _) _)) newOk (by omega) (by omega) (ints_one w 3) (fun g o e => by have := h.lt; have e2 : w.heap.size = g := congrArg Addr.block (Option.some.inj e); omega) (good_one 3 (by omega)) (by decide) n1_eq

theorem live_pass2 (B L n : Nat) (w : World) (hB : B ≤ w.heap.size) (h : Mine B L n1 n w) :
    Calls Try.prog 20 #[.pointer (some ⟨n, 0, none⟩), .int .i64 950000, .slice (some ⟨w.heap.size, 0, none⟩) 1 1] (w.alloc (.cells #[.int .i64 1] 3)) (MinePost B L n2 n (w.alloc (.cells #[.int .i64 1] 3))) :=
  mine_pass B L n n1 n2 100 950000 (some ⟨w.heap.size, 0, none⟩) 1 1 (fun _ => 1) (w.alloc (.cells #[.int .i64 1] 3)) (by simp; omega) (h.below ((Below.refl _ _).alloc (Nat.le_refl _) _)) n1Ok (by omega) (by omega) (ints_one w 1) (fun g o e => by have := h.lt; have e2 : w.heap.size = g := congrArg Addr.block (Option.some.inj e); omega) (good_one 1 (by omega)) (by decide) n2_eq

end Go.Proofs.Ytnloedhcginopaa.StaD
