/- Put: the payloads that become whole. -/
import Derived.Test.YthmcfnbnafdkeaaFrmV
import Derived.Test.YthmcfnbnafdkeaaFrmG
namespace Go.Proofs.Ythmcfnbnafdkeaa.FrmW
open Go.ChangeShapes Go.WideShapes Go.ChangeAt Go.RowKit Base Wri FrmP FrmA FrmB FrmC FrmD FrmE FrmF FrmG FrmQ FrmR FrmS FrmT FrmU FrmV
open Go.Shelf
set_option linter.unusedVariables false
set_option linter.unusedSimpArgs false
attribute [local go_sem] Oper.semAt_some
attribute [local go_sem ↓ high] builtin_app

theorem put_none (a : Option Addr) (n c : Nat) (w : World) : Calls Try.prog 15 #[.pointer none, .slice a n c] w fun e w' => e = .returned (.tuple #[.slice none 0 0, .int .i64 1]) ∧ w' = w := by
  go_enter Try.func15, Try.ntmps15
  go_wp2_with fail
  go_ret2
  exact ⟨rfl, rfl⟩

set_option maxRecDepth 20000 in
theorem payloads_any (p n cap : Nat) (a : Option Addr) (w : World) :
    Calls Try.prog 46 #[.pointer (some ⟨p, 0, none⟩), .slice a n cap] w fun e w' => e = .returned (.func (Fn.func 72) #[] #[.pointer (some ⟨w.heap.size + 1, 0, none⟩), .pointer (some ⟨w.heap.size, 0, none⟩)]) ∧
      (w.alloc (.cells #[.pointer (some ⟨p, 0, none⟩)] 24)).alloc (.cells #[.slice a n cap] 28) = w' := by
  go_enter Try.func46, Try.ntmps46
  go_wp2_with fail
  go_ret
  exact ⟨rfl, rfl⟩

/-- what Put leaves -/
structure PutPost (w : World) (B p : Nat) (va : Value) (r' : Rd) (ps : List Bs) (w' : World) (row : Value) (vs : List Value) (va' : Value) : Prop where
  pls : Pls w' B row vs ps
  rlow : ∀ g, row.ownBlock = some g → w.heap.size ≤ g
  rd : IsRd w' B p va' r'
  alone : ∀ v ∈ vs, v.ownBlock ≠ va'.ownBlock
  vlow : ∀ g, va'.ownBlock = some g → va.ownBlock = some g ∨ w.heap.size ≤ g
  plow : ∀ v ∈ vs, ∀ g, v.ownBlock = some g → va.ownBlock = some g ∨ w.heap.size ≤ g
  wr : Wr (fun k => k = p ∨ va.ownBlock = some k) w w'

theorem payb_put {W : World} {base l : Nat} {v : Value} {q : Bs} {o o' : Obj} (h : PayB W base v q) (hl : W.heap[l]? = some o) (ho : o.isCells = false) : PayB (W.putObj l o') base v q :=
  h.keep (fun g e => World.putObj_heap_other (by
    obtain ⟨g', cur, e', _, hh, _⟩ := h.block
    rw [e'] at e; cases e
    intro e2; subst e2
    rw [hl] at hh; cases hh; cases ho))

/-- what a round is about: what is left, what was told, what is told now, where it lies -/
structure Xr where
  s : Bs
  ps : List Bs
  pay : Bs
  g : Nat

def Ar (w : World) (B p : Nat) (va0 : Value) (r0 : Rd) (b : Bs) (x : Xr) (W : World) : Prop :=
  Fed r0 b Rd.zero x.s (x.ps ++ [x.pay]) ∧ ∃ row vs va, RdJ w B p va0 x.s Rd.zero x.ps W row vs va ∧ PayB W B (.slice (some ⟨x.g, 4, none⟩) x.pay.length x.pay.length) x.pay ∧ (∀ v ∈ vs, v.ownBlock ≠ some x.g) ∧ (va0.ownBlock = some x.g ∨ w.heap.size + 3 ≤ x.g) ∧ va.ownBlock = none
def Br (w : World) (B p : Nat) (va0 : Value) (r0 : Rd) (b : Bs) (x : Xr) (W : World) : Prop := ∃ row vs va, RdJ w B p va0 x.s Rd.zero (x.ps ++ [x.pay]) W row vs va
def Zr (w : World) (B p : Nat) (va0 : Value) (r0 : Rd) (b : Bs) (W : World) : Prop := ∃ s row vs va, RdJ w B p va0 s (r0.put b).2 (r0.put b).1 W row vs va

set_option maxRecDepth 100000 in
set_option maxHeartbeats 2000000 in
theorem put_any (B p : Nat) (va : Value) (r : Rd) (a : Option Addr) (cap : Nat) (b : Bs) (w : World) (h : IsRd w B p va r) (hok : r.Ok) (hB : B ≤ w.heap.size) (hb : b.length ≤ 4398046507000) (hc : b.length ≤ cap) (hc2 : cap ≤ 9223372036854775807) (HB : Hid (BAt w w.heap.size a b))
    (hsep : 0 < b.length → ∀ x, a = some x → ¬ (x.block = p ∨ va.ownBlock = some x.block)) :
    Calls Try.prog 15 #[.pointer (some ⟨p, 0, none⟩), .slice a b.length cap] w fun e w' => ∃ row vs va', e = .returned (.tuple #[row, .int .i64 ((r.put b).2.err)]) ∧ PutPost w B p va (r.put b).2 (r.put b).1 w' row vs va' := by
  have hpl := h.lt
  refine callsIn_wide.1 (callsIn_of_wp_marks (n := 10) Try.func15 rfl trivial ?_ rfl)
  simp only [Try.ntmps15, List.size_toArray, List.length_cons, List.length_nil, Nat.reduceAdd, Nat.reduceSub, Array.replicate_succ, Array.replicate_zero, List.push_toArray, List.append_toArray, List.nil_append, List.cons_append]
  gi_wp2
  refine ⟨trivial, ?_⟩
  refine (callsIn_wide.2 (payloads_any _ _ _ _ _)).mono ?_
  rintro e w2 ⟨rfl, rfl⟩
  gi_wp2
  obtain ⟨W4, hW4⟩ : ∃ W4, ((w.alloc (.cells #[.slice none 0 0] 22)).alloc (.cells #[.pointer (some ⟨p, 0, none⟩)] 24)).alloc (.cells #[.slice a b.length cap] 28) = W4 := ⟨_, rfl⟩
  obtain ⟨bA, bB, bL, hB0, hsz⟩ := three w _ _ _ _ _ _ W4 hW4
  rw [hW4]
  clear hW4
  have hl0 := hok.left
  have hv0 : ∀ g, va.ownBlock = some g → g < w.heap.size := fun g e => (h.own.lt g e).2
  have HJ0 : Hid (RdJ w B p va b r [] W4 (.slice none 0 0) [] va) := hid ⟨bA, Pls.nil _ _, (fun g e => by cases e), h.below hB0, (fun v hv => by cases hv), (fun g e => .inl e), (fun v hv => by cases hv), bB, ⟨a, cap, bL, HB.out.below hB0, hc, hc2, hsep⟩, Wr.ofBelow hB0, by omega, hv0, hpl, hB⟩
  have HF0 := hid (Fed.start hok b)
  refine rf_joint (X := Xr) rfl (by omega) (gf := 72) (lb := #[.pointer (some ⟨w.heap.size + 2, 0, none⟩), .pointer (some ⟨w.heap.size + 1, 0, none⟩)]) rfl trivial (enters_of Try.func72 (by kernel_rfl) rfl)
    (fun x => #[.slice (some ⟨x.g, 4, none⟩) x.pay.length x.pay.length]) (fun _ => rfl) (Ar w B p va r b) (Br w B p va r b) (Zr w B p va r b)
    (by
      rintro x U V ⟨h1, row, vs, va', h2, h3, h4⟩ ⟨l, o, o', hl, hlo, ho, rfl⟩
      exact ⟨h1, row, vs, va', h2.putObj (by omega) hlo ho, payb_put h3 hlo ho, h4⟩)
    (by
      rintro x U V ⟨row, vs, va', h2⟩ ⟨l, o, o', hl, hlo, ho, rfl⟩
      exact ⟨row, vs, va', h2.putObj (by omega) hlo ho⟩)
    (by
      rintro U V ⟨s, row, vs, va', h2⟩ ⟨l, o, o', hl, hlo, ho, rfl⟩
      exact ⟨s, row, vs, va', h2.putObj (by omega) hlo ho⟩)
    (fun x => { tmps := #[.pointer (some ⟨p, 0, none⟩), .slice a b.length cap, undef, undef, .slice none 0 0, .int .i64 0, .pointer (some ⟨w.heap.size, 0, none⟩), .slice (some ⟨x.g, 4, none⟩) x.pay.length x.pay.length, .pointer (some ⟨p, 0, none⟩), .bool false, .pointer (some ⟨p, 0, none⟩), .slice a b.length cap,
        .func (Fn.func 72) #[] #[.pointer (some ⟨w.heap.size + 2, 0, none⟩), .pointer (some ⟨w.heap.size + 1, 0, none⟩)], .slice (some ⟨x.g, 4, none⟩) x.pay.length x.pay.length, undef, undef, undef, undef, undef, undef, undef, undef, undef, undef], defers := [] }) ?assign ?body ?iter ?done
  case assign =>
    intro l x W K hK
    gi_wp2
    exact hK
  case iter =>
    rintro l Bk W1 hBk hY hk ⟨o, o', hW1⟩
    subst hW1
    have hbl : Below W4.heap.size W4 ((W4.alloc o).alloc o') := ((Below.refl _ _).alloc (Nat.le_refl _) _).alloc (by simp) _
    refine (pays1_in 9 (by omega) l W4.heap.size w B p va r b (by omega) Bk (hid hBk) (fun s' ps pay g row vs va' W h1 h2 h3 h4 h5 h5' h6 => ?_) _ ⟨b, r, [], _, _, va, HF0.out, HJ0.out.below hbl⟩ hk).mono ?_
    · exact hY ⟨s', ps, pay, g⟩ W ⟨h1, row, vs, va', h2, h3, h4, h5, h5'⟩ h6
    · rintro e W' ⟨he, h2, h3⟩
      exact ⟨he, h2, h3⟩
  case body =>
    rintro l ⟨s', ps, pay, g⟩ W ⟨hfed, row, vs, va', hj, hpay, hfr, hlow, hnone⟩
    dsimp only at hfed hj hpay hfr hlow hnone ⊢
    obtain ⟨vr, vc, hvr⟩ := owns_shape hj.pls.own
    have hcnt := hfed.size
    rw [List.length_append, List.length_singleton] at hcnt
    have hsz5 := hj.size
    obtain ⟨g5, c5, w5, hrun, hown5, hgrow5, hat5⟩ := push_run W B (Nat.le_trans hB (by omega)) row vs ps.length hj.pls.own (by omega) g 4 pay.length pay.length
    obtain ⟨hb5, hj5⟩ := RdJ.pushed (w6 := W) hj hpay hfr (by rw [hnone]; intro e; cases e) (by
      intro e
      rcases hlow with h1 | h1
      · have := hv0 _ h1
        have := hj.rlow g e.symm
        omega
      · exact (hj.pls.out (.slice (some ⟨g, 4, none⟩) pay.length pay.length) |> fun _ => by
          obtain ⟨g', cur, e', _, hu, _⟩ := hpay.block
          cases e'
          rcases hj.pls.own.2 with ⟨h2, _⟩ | ⟨g2, cap2, cur2, h2, _, hh, _⟩
          · rw [h2] at e; cases e
          · rw [h2] at e; cases e
            rw [hu] at hh
            have := Option.some.inj hh
            injection this with _ e3 _
            exact absurd e3 (by decide))) (fun g' e => by cases e; exact hlow) hown5 hgrow5 hat5
    have HKF : Hid (KeepsFrom W4.heap.size W (w5.setCell ⟨w.heap.size, 0, none⟩ (.slice (some ⟨g5, 0, none⟩) (ps.length + 1) c5))) := hid ((((KeepsOthers.alloc W _).from _).trans ((KeepsOthers.of_grownBy hgrow5 (fun j o ej hj2 => by
      rcases hj.pls.own.2 with ⟨h1, _⟩ | ⟨g2, cap2, cur2, h1, _, hgb, _⟩
      · rw [h1] at ej; simp [Value.ownBlock] at ej
      · rw [h1] at ej
        obtain rfl : g2 = j := by simpa [Value.ownBlock] using ej
        rw [Below.heap_alloc _ _ _ (Array.getElem?_eq_some_iff.1 hgb).1, hgb] at hj2
        cases hj2; rfl)).from _)).trans (keeps_set _ _ _ _))
    have HJ5 := hid hj5
    have x0 := hj.b0.cell
    subst hvr
    have z0 : w5.cell? ⟨w.heap.size, 0, none⟩ = some (.slice vr ps.length vc) := by simp [World.cell?, hb5]
    have z1 : w5.frozen? ⟨w.heap.size, 0, none⟩ = false := by simp [World.frozen?, hb5]
    clear hj hj5 hpay hfr hlow hown5 hgrow5 hat5 hb5 hfed
    gi_wp2
    exact ⟨HKF.out, _, _, _, HJ5.out⟩
  case done =>
    rintro D W hD ⟨s, row, vs, va', hj⟩ hK
    obtain ⟨vr, vc, hvr⟩ := owns_shape hj.pls.own
    have x0 := hj.b0.cell
    obtain ⟨_, y1, _, _⟩ := hj.rd.cells
    have HJ := hid hj
    have hj2 := hid (hj.putObj (o' := .deferred none) (by omega) hK rfl)
    have hsz5 := hj.size
    have HPOST : Hid (PutPost w B p va (r.put b).2 (r.put b).1 (W.putObj D (.deferred none)) row vs va') := hid ⟨hj2.out.pls, fun g e => by have := hj2.out.rlow g e; omega, hj2.out.rd, hj2.out.alone, fun g e => by
      rcases hj2.out.vlow g e with h1 | h1
      · exact .inl h1
      · right; omega, fun v hv g e => by
      rcases hj2.out.plow v hv g e with h1 | h1
      · exact .inl h1
      · right; omega, hj2.out.wr⟩
    subst hvr
    cases hbr : (r.put b).2.broken with
    | true =>
      rw [hbr] at y1
      have HE : Hid ((r.put b).2.err = 50) := hid (by unfold Rd.err; rw [if_pos hbr])
      clear hj hj2 hbr bA bB bL
      gi_wp2
      refine ⟨by simp, .inl ⟨_, _, rfl, run_takeDeferred hK, ?_⟩⟩
      refine ⟨.tuple #[.slice vr (r.put b).1.length vc, .int .i64 50], by simp [results, Try.results15, go_sem], _, vs, va', by rw [HE.out], HPOST.out⟩
    | false =>
      rw [hbr] at y1
      have HE : Hid ((r.put b).2.err = 0) := hid (by unfold Rd.err; rw [if_neg (by simp [hbr])])
      clear hj hj2 hbr bA bB bL
      gi_wp2
      refine ⟨by simp, .inl ⟨_, _, rfl, run_takeDeferred hK, ?_⟩⟩
      refine ⟨.tuple #[.slice vr (r.put b).1.length vc, .int .i64 0], by simp [results, Try.results15, go_sem], _, vs, va', by rw [HE.out], HPOST.out⟩

end Go.Proofs.Ythmcfnbnafdkeaa.FrmW
