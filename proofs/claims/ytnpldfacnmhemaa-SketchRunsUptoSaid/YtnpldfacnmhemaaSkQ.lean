/- A sketch's Add, whole. -/
import Derived.Test.YtnpldfacnmhemaaSkP
namespace Go.Proofs.Ytnpldfacnmhemaa.SkQ
open Go.ChangeShapes Go.WideShapes Go.ChangeAt Go.RowKit Base Wri Map WldF WldG SkK SkA SkB SkC SkD SkE SkF SkG SkH SkI SkJ SkL SkM SkN SkP

variable {w w' : World} {p q last t : Nat} {go : Option Nat} {X : Shp} {ns : List Note} {qs : List Nat} {mpf : Nat → Nat}

/-- behind Add -/
def AddPost (w : World) (p : Nat) (go : Option Nat) (X : Shp) (q t : Nat) (ns' : List Note) (qs : List Nat) (mpf : Nat → Nat) (w' : World) : Prop :=
  ∃ go' qs' mpf', Full w' p go' X q t ns' qs' mpf' ∧ Wr (Ft p go qs mpf) w w' ∧ ∀ k, Ft p go' qs' mpf' k → Ft p go qs mpf k ∨ w.heap.size ≤ k

theorem ft_filter (f : Nat → Bool) {k : Nat} (h : Ft p go (qs.filter f) mpf k) : Ft p go qs mpf k := by
  rcases h with e | e | ⟨b, hb, e⟩
  · exact .inl e
  · exact .inr (.inl e)
  · exact .inr (.inr ⟨b, (List.mem_filter.1 hb).1, e⟩)

set_option maxRecDepth 20000 in
set_option maxHeartbeats 2000000 in
theorem Add_yes (h : Full w p go X q last ns qs mpf) (ht : last ≤ t) (ht2 : t ≤ 1152921504606846976) (s : ByteArray) (hs : s.size ≤ maxLen) (a : Option Addr) (n cap : Nat) (f : Nat → Nat) (hn : n ≤ 9223372036854775807) (hI : Ints w a n (fun i => (f i : Int))) (hgood : goodC (fun i => (f i : Int)) n = true)
    (hfar : 0 < n → ∀ g o, a = some ⟨g, o, none⟩ → ¬ Ft p go qs mpf g) :
    Calls Try.prog 11 #[.pointer (some ⟨p, 0, none⟩), .int .i64 t, .string s, .slice a n cap] w fun e w' => e = .returned (.int .i64 0) ∧ AddPost w p go X q t (ns ++ [⟨t, s, sumTo f n⟩]) qs mpf w' := by
  obtain ⟨_, v, hp, _⟩ := h.sk
  have hpl := h.sk.lt
  obtain ⟨c0, c1, c2, c3, -, c5, -, hfz⟩ := sv_cells hp
  have f5 := hfz 5
  have HA := hid (areCounts_any a n cap _ w hn hI)
  rw [hgood] at HA
  have HR := hid (refuses_any p last t true w c5)
  have e : refT last t true = 0 := by unfold refT; rw [if_neg (by simp; omega), if_neg (by omega)]
  rw [e] at HR
  have H := hid h
  have hok := h.ok
  obtain ⟨W1, hW1⟩ : ∃ W1, w.setCell ⟨p, 5, none⟩ (.int .i64 t) = W1 := ⟨_, rfl⟩
  have hk1 : IsSk W1 p go X t (bsOf q ns mpf qs) := hW1 ▸ IsSk.late h.sk t
  have hw1 : Wr (fun k => k = p ∨ go = some k) w W1 := hW1 ▸ Wr.set ⟨p, 5, none⟩ _ (.inl rfl)
  obtain ⟨_, v1, hp1, _⟩ := hk1
  obtain ⟨d0, d1, d2, d3, -, -, -, -⟩ := sv_cells hp1
  have HF := hid (first_any X.wd X.bk X.ro X.co q t W1 hok.b1 hok.qe hok.q0 hok.w1 ht2)
  obtain ⟨fi, hfi⟩ : ∃ fi, ((t - t % q : Nat) : Int) - X.wd + q = fi := ⟨_, rfl⟩
  rw [hfi] at HF
  have HFi := hid hfi
  have HK1 := hid (hW1 ▸ IsSk.late h.sk t : IsSk W1 p go X t (bsOf q ns mpf qs))
  have HW1 := hid hw1
  have HW1e := hid hW1
  have HI := hid (And.intro hI hfar)
  have hlen := h.len
  clear h hp hfz hI hgood e hok hp1 hfi hw1 hfar
  unfold szv at HF
  go_enter Try.func11, Try.ntmps11
  go_wp2_with fail
  refine HA.out.mono ?_
  rintro e w1 ⟨rfl, rfl⟩
  clear HA
  go_wp2_with fail
  refine HR.out.mono ?_
  rintro e w1 ⟨rfl, rfl⟩
  clear HR
  go_wp2_with fail
  refine HF.out.mono ?_
  rintro e w2 ⟨rfl, hb2⟩
  have hk2 := HK1.out.below hb2
  have HG := hid (forget_any p go X t _ fi w2 hk2 (by rw [bs_len]; omega))
  have HB2 := hid hb2
  clear HF hb2 hk2 d0 d1 d2 d3 c0 c1 c2 c3 c5 f5
  go_wp2_with fail
  refine HG.out.mono ?_
  rintro e w3 ⟨rfl, hk3, hw3⟩
  have hw03 : Wr (fun k => k = p ∨ go = some k) w w3 := (HW1.out.trans (Wr.ofBelow HB2.out)).trans hw3
  have hF3 : Full w3 p go X q t ns (qs.filter (inW q X.bk t)) mpf := SkN.Full.forgot H.out ht ht2 (by rw [HFi.out]; exact hk3) hw03
  have hfoot3 : ∀ k, (k = p ∨ go = some k) → Ft p go qs mpf k := fun k e => e.elim .inl (fun e => .inr (.inl e))
  have hI3 : Ints w3 a n (fun i => (f i : Int)) := fun h0 => by
    obtain ⟨g, o, e, hg, hc⟩ := HI.out.1 h0
    exact ⟨g, o, e, Nat.lt_of_lt_of_le hg hw03.size, fun i hi => (hw03.cell (o + i) hg (fun e2 => HI.out.2 h0 g o e (hfoot3 g e2))).trans (hc i hi)⟩
  have HPl := hid (plus_any a n cap f w3 hn hI3)
  have HF3 := hid hF3
  have HW3 := hid (hw03.mono hfoot3)
  clear HG hk3 hw3 hw03 hF3 hI3 hfoot3
  go_wp2_with fail
  refine HPl.out.mono ?_
  rintro e w3' ⟨rfl, rfl⟩
  clear HPl
  obtain ⟨N, hN⟩ : ∃ N, sumTo f n = N := ⟨_, rfl⟩
  rw [hN]
  have HN := hid hN
  clear hN
  by_cases h0 : N = 0
  · subst h0
    have e0 : sat 0 = 0 := rfl
    rw [e0]
    go_wp2_with fail
    go_ret
    refine ⟨rfl, go, qs.filter (inW q X.bk t), mpf, ?_, HW3.out, fun k hk => .inl (ft_filter _ hk)⟩
    rw [HN.out]
    exact SkN.Full.nought HF3.out s
  · have hpos : 0 < sat N := sat_pos.2 (by omega)
    have HMore := hid hpos
    obtain ⟨more, hmore⟩ : ∃ more, sat N = more := ⟨_, rfl⟩
    rw [hmore] at hpos ⊢
    have HMo := hid hmore
    obtain ⟨_, v3, hp3, _⟩ := HF3.out.sk
    obtain ⟨e0, e1, e2, e3, -, -, -, -⟩ := sv_cells hp3
    have hok := HF3.out.ok
    have HBe := hid (begin_any X.wd X.bk X.ro X.co q t w3 hok.b1 hok.qe hok.q0 hok.w1 ht2)
    unfold szv at HBe
    have hm1 : decide ((0 : Int) < (more : Int)) = true := by simp; omega
    clear hmore h0 hp3 hok
    go_wp2_with fail
    refine HBe.out.mono ?_
    rintro e w4 ⟨rfl, hb4⟩
    have hF4 := HF3.out.below hb4
    have HBu := hid (bucket_full hF4)
    have HF4 := hid hF4
    have HB4 := hid hb4
    clear HBe hb4 hF4 e0 e1 e2 e3
    go_wp2_with fail
    refine HBu.out.mono ?_
    rintro e w5 ⟨g, A, mpf', rfl, hA, hF5, hw5, hft5⟩
    have HF5 := hid hF5
    obtain ⟨_, v5, hp5, _⟩ := hF5.sk
    obtain ⟨-, -, g2, g3, g4, -, -, -⟩ := sv_cells hp5
    have HPc := hid (places_any p X.seed X.ro X.co s w5 hs ⟨hF5.ok.r1, hF5.ok.r2⟩ ⟨hF5.ok.c1, hF5.ok.c2⟩ g2 g3 g4)
    have HA := hid hA
    have HW5 : Hid (Wr (Ft p go qs mpf) w w5) := hid ((HW3.out.trans (Wr.ofBelow HB4.out)).trans (hw5.mono fun k hk => ft_filter _ hk))
    have HFt5 : Hid (∀ k, Ft p (some g) (A ++ [t / q]) mpf' k → Ft p go qs mpf k ∨ w.heap.size ≤ k) := hid fun k hk => (hft5 k hk).imp (ft_filter _) (fun e => Nat.le_trans (Nat.le_trans HW3.out.size HB4.out.size) e)
    clear HBu hp5 hF5 hw5 hft5 hA g2 g3 g4
    go_wp2_with fail
    refine HPc.out.mono ?_
    rintro e w6 ⟨gp, rfl, hgp, hpl6, hb6⟩
    have hF6 := HF5.out.below hb6
    have hd6 : ¬ Ft p (some g) (A ++ [t / q]) mpf' gp := fun hh => by have := HF5.out.lt hh; omega
    have HAd := hid (add_full (N := N) hF6 HA.out hpl6 hd6)
    rw [HMo.out] at HAd
    have HW6 : Hid (Wr (Ft p go qs mpf) w w6) := hid (HW5.out.trans (Wr.ofBelow hb6))
    clear HPc hgp hpl6 hb6 hF6 hd6
    go_wp2_with fail
    refine HAd.out.mono ?_
    rintro e w7 ⟨rfl, hF7, hw7⟩
    have HEnd : Hid (AddPost w p go X q t (ns ++ [⟨t, s, N⟩]) qs mpf w7) := hid ⟨some g, _, mpf', hF7, HW6.out.on hw7 HFt5.out, HFt5.out⟩
    clear HAd hF7 hw7
    go_wp2_with fail
    go_ret
    refine ⟨rfl, ?_⟩
    rw [HN.out]
    exact HEnd.out

set_option maxHeartbeats 1000000 in
theorem Add_no (h : w.cell? ⟨p, 5, none⟩ = some (.int .i64 last)) (tt : Int) (s : ByteArray) (a : Option Addr) (n cap : Nat) (f : Nat → Int) (hn : n ≤ 9223372036854775807) (hI : Ints w a n f) (r : Int) (hr : refT last tt (goodC f n) = r) (hr0 : r ≠ 0) :
    Calls Try.prog 11 #[.pointer (some ⟨p, 0, none⟩), .int .i64 tt, .string s, .slice a n cap] w fun e w' => e = .returned (.int .i64 r) ∧ w = w' := by
  have HA := hid (areCounts_any a n cap _ w hn hI)
  have HR := hid (refuses_any p last tt (goodC f n) w h)
  rw [hr] at HR
  generalize goodC f n = b at HA HR
  have hrb : (r != 0) = true := by simpa using hr0
  clear hr hI h
  go_enter Try.func11, Try.ntmps11
  go_wp2_with fail
  refine HA.out.mono ?_
  rintro e w1 ⟨rfl, rfl⟩
  go_wp2_with fail
  refine HR.out.mono ?_
  rintro e w1 ⟨rfl, rfl⟩
  go_wp2_with fail
  go_ret
  exact ⟨rfl, rfl⟩

end Go.Proofs.Ytnpldfacnmhemaa.SkQ
