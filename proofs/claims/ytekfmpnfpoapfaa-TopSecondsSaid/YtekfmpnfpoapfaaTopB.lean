/- The calls of TopSeconds' round over what lies in memory. -/
import Derived.Test.YtekfmpnfpoapfaaTopA
namespace Go.Proofs.Ytekfmpnfpoapfaa.TopB
open Go.ChangeShapes Go.WideShapes Go.ChangeAt Go.RowKit Base WinM WinA WinB WinC WinD WinE WinF WinG WinH WinI WinJ WinK WinL WinN StaA StaB StaC StaD StaH TopA WldF WldG

theorem tok_one (c : Int) (h : badC c = false) : tokM (firsts (fun _ => c) 1) = c := by
  unfold badC at h
  simp at h
  have hk : NumC.keep c = c := by unfold NumC.keep; rw [if_pos (by unfold NumM.Fits; omega)]
  have e : tokM (firsts (fun _ => c) 1) = min (NumC.keep (0 + c)) 4611686018427387904 := rfl
  rw [e, Int.zero_add, hk]
  omega

theorem good_iff (c : Int) : goodC (fun _ => c) 1 = !badC c := by
  unfold goodC
  cases h : badC c <;> simp [h]

/-- behind Pass: refused, or done -/
def PassPost (w0 : World) (n : Nat) (p : Nat) (go : Option Nat) (N : Nd) (s : Win) (last : Nat) (E : List (Nat × Int)) (v : Value) (wz : World) (at_ c r : Int) (w' : World) : Prop :=
  (r ≠ 0 ∧ wz = w') ∨
  (r = 0 ∧ ∃ (t : Nat) (S' : Spots), at_ = t ∧ t ≤ 1152921504606846976 ∧ last ≤ t ∧ 1 ≤ c ∧ c ≤ 1099511627776 ∧ S'.n = n ∧ St w0 S' p go (({ N with entries := N.entries + 1 } : Nd).noted t ⟨c, 0, 0, 0, 0, 0⟩) s E v w')

theorem pass_step (w0 : World) (S : Spots) (p : Nat) (go : Option Nat) (N : Nd) (s : Win) (last : Nat) (E : List (Nat × Int)) (v : Value) (wr : World) (at_ c : Int) (h : St w0 S p go N s E v wr) (hg : NGood N last E) (he : N.entries = E.length) (hE : E.length < 100) :
    Calls Try.prog 50 #[.pointer (some ⟨S.n, 0, none⟩), .int .i64 at_, .slice (some ⟨wr.heap.size, 0, none⟩) 1 1] (wr.alloc (.cells #[.int .i64 c] 3)).drew fun e w' =>
      ∃ r : Int, e = .returned (.int .i64 r) ∧ Below w0.heap.size w0 w' ∧ PassPost w0 S.n p go N s last E v (wr.alloc (.cells #[.int .i64 c] 3)).drew at_ c r w' := by
  have ha := (h.alloc (.cells #[.int .i64 c] 3)).drew
  have hi : Ints (wr.alloc (.cells #[.int .i64 c] 3)).drew (some ⟨wr.heap.size, 0, none⟩) 1 (fun _ => c) := ints_one wr c
  by_cases hr : nrefM last at_ (goodC (fun _ => c) 1) = 0
  · have hgd := good_iff c
    unfold nrefM at hr
    split at hr
    · rename_i hb
      split at hr
      · cases hr
      · rename_i hlast
        obtain ⟨hb1, hb2⟩ := hb
        rw [hgd] at hb1
        have hbad : badC c = false := by simpa using hb1
        unfold isT at hb2
        have hb3 : 0 ≤ at_ ∧ at_ ≤ 1152921504606846976 := by simpa using hb2
        obtain ⟨t, rfl⟩ : ∃ t : Nat, at_ = t := ⟨at_.toNat, by omega⟩
        have hbc := hbad
        unfold badC at hbc
        have hc2 : 1 ≤ c ∧ c ≤ 1099511627776 := by simp at hbc; omega
        have hP := pass_yes S N last t (some ⟨wr.heap.size, 0, none⟩) 1 1 (fun _ => c) _ ha.node hg.ok (by omega) (by omega) hi (fun g o e e2 => by have := h.node.lt; have e3 : wr.heap.size = g := congrArg Addr.block (Option.some.inj e); omega) (fun _ _ => hbad) (by rw [he]; omega)
        rw [tok_one c hbad] at hP
        refine hP.mono fun e w' hp => ?_
        obtain ⟨S', hS', hst⟩ := ha.noted hp
        exact ⟨0, hp.1, hst.bel, .inr ⟨rfl, t, S', rfl, by omega, by omega, hc2.1, hc2.2, hS', hst⟩⟩
    · cases hr
  · refine (pass_no S N last at_ (some ⟨wr.heap.size, 0, none⟩) 1 1 (fun _ => c) _ ha.node hg.ok.l1 (by omega) hi hr).mono ?_
    rintro e w' ⟨he, hw⟩
    exact ⟨_, he, hw ▸ ha.bel, .inl ⟨hr, hw⟩⟩

theorem right_pass1 (c : Int) (h : 1 ≤ c ∧ c ≤ 1099511627776) : (Cnt.mk c 0 0 0 0 0).Right := by
  refine ⟨⟨?_, ?_, ?_, ?_, ?_, ?_⟩, ?_, ?_, ?_⟩
  · show 0 ≤ c ∧ c ≤ 4611686018427387904; omega
  · show (0 : Int) ≤ 0 ∧ (0 : Int) ≤ 4611686018427387904; omega
  · show (0 : Int) ≤ 0 ∧ (0 : Int) ≤ 4611686018427387904; omega
  · show (0 : Int) ≤ 0 ∧ (0 : Int) ≤ 4611686018427387904; omega
  · show (0 : Int) ≤ 0 ∧ (0 : Int) ≤ 4611686018427387904; omega
  · show (0 : Int) ≤ 0 ∧ (0 : Int) ≤ 4611686018427387904; omega
  · show (0 : Int) ≤ 0; omega
  · show (0 : Int) ≤ 0; omega
  · show ¬ ((0 : Int) = 0 ∧ (0 : Int) ≠ 0); omega

theorem add_step (w0 : World) (S : Spots) (p : Nat) (go : Option Nat) (N N0 : Nd) (last t : Nat) (E E0 : List (Nat × Int)) (v : Value) (wr : World) (c : Int) (h : St w0 S p go N N0.sec E v wr) (hg : NGood N0 last E0) (ht : t ≤ 1152921504606846976) (hl : last ≤ t) (hc : 1 ≤ c ∧ c ≤ 1099511627776) :
    Calls Try.prog 63 #[.pointer (some ⟨p, 0, none⟩), .int .i64 t, .slice (some ⟨wr.heap.size, 0, none⟩) 1 1] (wr.alloc (.cells #[.int .i64 c, .int .i64 0, .int .i64 0, .int .i64 0, .int .i64 0, .int .i64 0] 103)).drew fun e w' =>
      e = .returned (.int .i64 0) ∧ Below w0.heap.size w0 w' ∧ ∃ go', St w0 S p go' N (addM 100000 N0.sec t ⟨c, 0, 0, 0, 0, 0⟩) E v w' := by
  have ha := (h.alloc (.cells #[.int .i64 c, .int .i64 0, .int .i64 0, .int .i64 0, .int .i64 0, .int .i64 0] 103)).drew
  have hz6 : At6 (wr.alloc (.cells #[.int .i64 c, .int .i64 0, .int .i64 0, .int .i64 0, .int .i64 0, .int .i64 0] 103)).drew wr.heap.size 0 ⟨c, 0, 0, 0, 0, 0⟩ := by
    clear h ha
    exact ⟨by go_cell, by go_cell, by go_cell, by go_cell, by go_cell, by go_cell⟩
  have hp := h.win.lt
  refine (add_yes p go N0.sec 100000 t ⟨c, 0, 0, 0, 0, 0⟩ wr.heap.size 0 1 _ ha.win (by rw [hg.ok.w1, hg.ok.s1]) (by omega) (by rw [hg.ok.s1]; omega) (by rw [hg.ok.w1]; omega) ht (by rw [hg.ok.l1]; omega) hg.ok.f1 hg.ok.n1 (right_pass1 c hc) hz6 (by simp) (by omega) (fun e => by have := h.win.lt2 _ e; omega)).mono fun e w' hpost => ⟨hpost.choose_spec.1, (ha.added hpost).choose_spec.bel, ha.added hpost⟩

theorem nsum_step (w0 : World) (S : Spots) (p : Nat) (go : Option Nat) (N : Nd) (s : Win) (t : Nat) (E E0 : List (Nat × Int)) (v : Value) (wr : World) (h : St w0 S p go N s E v wr) (hg : NGood N t E0) (ht : t ≤ 1152921504606846976) :
    Calls Try.prog 49 #[.pointer (some ⟨S.n, 0, none⟩), .int .i64 t] wr fun e w' => e = .returned (.tuple #[cv (sumN N t), .int .i64 0]) ∧ Below wr.heap.size wr w' :=
  nsum_yes S N t t wr h.node hg.ok ht (Nat.le_refl _)

theorem wsum_step (w0 : World) (S : Spots) (p : Nat) (go : Option Nat) (N : Nd) (t : Nat) (E E0 : List (Nat × Int)) (v : Value) (wr : World) (h : St w0 S p go N N.sec E v wr) (hg : NGood N t E0) (ht : t ≤ 1152921504606846976) :
    Calls Try.prog 64 #[.pointer (some ⟨p, 0, none⟩), .int .i64 t] wr fun e w' => e = .returned (.tuple #[cv (sumN N t), .int .i64 0]) ∧ Below wr.heap.size wr w' := by
  have h2 := sum_yes p go N.sec 100000 t wr h.win (by rw [hg.ok.w1, hg.ok.s1]) (by omega) (by rw [hg.ok.s1]; omega) (by rw [hg.ok.w1]; omega) ht (by rw [hg.ok.l1]; omega) hg.ok.f1 hg.ok.n1
  rw [hg.ok.w1] at h2
  exact h2

end Go.Proofs.Ytekfmpnfpoapfaa.TopB
