/- A sketch's Add. -/
import Derived.Test.YtnpldfacnmhemaaSkN
namespace Go.Proofs.Ytnpldfacnmhemaa.SkP
open Go.ChangeShapes Go.WideShapes Go.ChangeAt Go.RowKit Base Wri Map WldF WldG SkK SkA SkB SkC SkD SkE SkF SkG SkH SkI SkJ SkL SkM SkN

variable {w w' : World} {p q last t : Nat} {go : Option Nat} {X : Shp} {ns : List Note} {qs : List Nat} {mpf : Nat → Nat}

theorem bs_at {f : Nat → Bk} (h : toL f qs.length = bsOf q ns mpf qs) {i : Nat} (hi : i < qs.length) : f i = ⟨((qs[i] * q : Nat) : Int), (sat (totB q ns qs[i]) : Nat), mpf qs[i]⟩ := by
  have h1 := toL_get h hi
  unfold bsOf at h1
  rw [List.getElem?_map, List.getElem?_eq_getElem hi] at h1
  exact (Option.some.inj h1).symm

theorem bucket_full (h : Full w p go X q t ns qs mpf) :
    Calls Try.prog 37 #[.pointer (some ⟨p, 0, none⟩), .int .i64 ((t - t % q : Nat) : Int)] w (BkPost w p go X q t ns qs mpf) := by
  have hlt2 := h.sk.lt2
  have hlen := h.len
  obtain ⟨hgo, v, hp, hv⟩ := h.sk
  rcases hv with ⟨rfl, rfl, h0⟩ | ⟨g, cap, f, rfl, rfl, hb, hf⟩
  · have e0 : qs = [] := by
      cases qs with
      | nil => rfl
      | cons a r => cases h0
    subst e0
    exact (bucket_nil p none 0 none X t _ (fun _ => ⟨0, 0, 0⟩) w hp hgo hlt2 (hid ⟨rfl, .inl ⟨rfl, rfl⟩⟩) (hid rfl)).mono fun e w' hh => new_full (f := fun _ => ⟨0, 0, 0⟩) h (by simp) rfl hh
  · rw [bs_len] at hp hb hf
    by_cases hn : qs = []
    · subst hn
      exact (bucket_nil p (some ⟨g, 0, none⟩) cap (some g) X t _ f w hp hgo hlt2 (hid (own_of_bk hb)) (hid rfl)).mono fun e w' hh => new_full h (by simp) hf hh
    · have hn1 : 0 < qs.length := List.length_pos_iff.2 hn
      have hil : qs.length - 1 < qs.length := by omega
      have hfl := bs_at hf hil
      obtain ⟨c0, -, -⟩ := hb.at3 _ hil
      rw [hfl] at c0
      by_cases hin : t / q ∈ qs
      · have hla := (last_is h.inv).2 hin
        have hlast : qs[qs.length - 1] = t / q := by
          rw [List.getLast?_eq_getElem?, List.getElem?_eq_getElem hil] at hla
          exact Option.some.inj hla
        have hA : qs = qs.dropLast ++ [t / q] := by
          have := List.dropLast_concat_getLast hn
          rw [List.getLast_eq_getElem, hlast] at this
          exact this.symm
        rw [hlast, ← beg_mul] at c0
        refine (bucket_same p g qs.length cap X t _ w hp hn1 (by omega) c0).mono ?_
        rintro e w' ⟨he, m, rfl⟩
        have hdl : qs.dropLast.length = qs.length - 1 := List.length_dropLast
        refine ⟨g, qs.dropLast, mpf, by rw [hdl]; exact he, ?_, ?_, (Wr.refl _ w).drewN m, ?_⟩
        · intro hm
          have hr := h.inv.rise
          rw [hA] at hr
          have := (List.pairwise_append.1 hr).2.2 _ hm _ List.mem_cons_self
          omega
        · rw [← hA]; exact h.keep fun k _ => rfl
        · rw [← hA]; exact fun k hk => .inl hk
      · have hne : qs[qs.length - 1] ≠ t / q := fun e => hin (e ▸ List.getElem_mem hil)
        refine (bucket_new p g qs.length _ cap (some g) X t _ f w hp hgo hlt2 (hid (own_of_bk hb)) (hid rfl) hn1 (by omega) c0 (fun e => hne ?_)).mono fun e w' hh => new_full h hin hf hh
        have e2 : qs[qs.length - 1] * q = t - t % q := by
          have e1 : ((qs[qs.length - 1] * q : Nat) : Int) = ((t - t % q : Nat) : Int) := e
          exact Int.ofNat.inj e1
        rw [beg_mul] at e2
        exact Nat.eq_of_mul_eq_mul_right h.ok.q0 e2

theorem add_full {A : List Nat} {g gp N : Nat} {s : ByteArray} (h : Full w p (some g) X q t ns (A ++ [t / q]) mpf) (hA : t / q ∉ A) (hp : Pl w gp X.ro X.ro (fun r => colN X.seed X.co r s)) (hd : ¬ Ft p (some g) (A ++ [t / q]) mpf gp) :
    Calls Try.prog 39 #[.pointer (some ⟨g, A.length * 3, none⟩), .int .i64 (sat N : Nat), .slice (some ⟨gp, 0, none⟩) X.ro X.ro] w fun e w' =>
      e = .returned (.tuple #[]) ∧ Full w' p (some g) X q t (ns ++ [⟨t, s, N⟩]) (A ++ [t / q]) mpf ∧ Wr (Ft p (some g) (A ++ [t / q]) mpf) w w' := by
  obtain ⟨hgo, v, hpp, hv⟩ := h.sk
  have hlen : (A ++ [t / q]).length = A.length + 1 := by simp
  have hmem : t / q ∈ A ++ [t / q] := by simp
  rcases hv with ⟨h0, _⟩ | ⟨g', cap, f, h0, rfl, hb, hf⟩
  · cases h0
  · cases h0
    rw [bs_len] at hpp hb hf
    have hi : A.length < (A ++ [t / q]).length := by rw [hlen]; omega
    have hfi := bs_at hf hi
    have hget : (A ++ [t / q])[A.length] = t / q := by simp
    rw [hget] at hfi
    have hfar := h.far _ hmem
    have hcol : ∀ r, r < X.ro → colN X.seed X.co r s < 4096 := fun r _ => Nat.lt_of_lt_of_le (Nat.mod_lt _ (by have := h.ok.c1; omega)) h.ok.c2
    refine (add_any (mb := mpf (t / q)) (m := numF q X ns (t / q)) g cap (A ++ [t / q]).length A.length gp X.ro (sat N) f (sat (totB q ns (t / q))) (fun r => colN X.seed X.co r s) hb hi (by rw [hfi]) (by rw [hfi]) (h.nums _ hmem) hp h.ok.r2 hcol (fun e => hfar.2 (by rw [e])) (fun e => hd (.inr (.inr ⟨_, hmem, e⟩))) (fun e => hd (.inr (.inl (by rw [e]))))).mono ?_
    rintro e w' ⟨he, hb', hN', hw⟩
    rw [sat_add, hfi] at hb'
    have hpw : w'.heap[p]? = w.heap[p]? := hw.block p h.sk.lt (fun e => e.elim (fun e => hgo (by rw [e])) (fun e => hfar.1 e.symm))
    have hne : ∀ b ∈ A, b ≠ t / q := fun b hb e => hA (e ▸ hb)
    have hbs : toL (fun k => if k = A.length then ⟨((t / q * q : Nat) : Int), (sat (totB q ns (t / q) + N) : Nat), mpf (t / q)⟩ else f k) (A ++ [t / q]).length = bsOf q (ns ++ [⟨t, s, N⟩]) mpf (A ++ [t / q]) := by
      rw [hlen, toL_succ, if_pos rfl, bs_app, bs_other q ns mpf mpf t s N A hA (fun _ _ => rfl)]
      congr 1
      · have h1 : toL f (A.length + 1) = bsOf q ns mpf A ++ bsOf q ns mpf [t / q] := by rw [← bs_app, ← hf, hlen]
        rw [toL_succ] at h1
        have h2 := List.append_inj_left h1 (by rw [toL_len, bs_len])
        rw [← h2]
        exact toL_congr fun i hi => if_neg (by omega)
      · unfold bsOf
        rw [List.map_singleton, tot_snoc, if_pos rfl]
    refine ⟨he, ⟨h.ok, ⟨hgo, _, hpw.trans hpp, .inr ⟨g, cap, (fun k => if k = A.length then ⟨((t / q * q : Nat) : Int), (sat (totB q ns (t / q) + N) : Nat), mpf (t / q)⟩ else f k), rfl, by rw [bs_len], by rw [bs_len]; exact hb', by rw [bs_len]; exact hbs⟩⟩, fun b hbm => ?_, h.far, h.inj, h.inv.there hmem s N, h.late⟩, hw.mono (fun k e => e.elim (fun e => .inr (.inl (by rw [e]))) (fun e => .inr (.inr ⟨_, hmem, e.symm⟩)))⟩
    by_cases e : b = t / q
    · subst e
      refine hN'.congr fun r c _ _ => ?_
      unfold upd numF
      rw [cnt_snoc]
      by_cases hr : r < X.ro
      · rw [if_pos hr, if_pos hr]
        by_cases hc : c = colN X.seed X.co r s
        · rw [if_pos ⟨hr, hc⟩, if_pos ⟨rfl, hc.symm⟩, sat_add]
        · rw [if_neg (fun h => hc h.2), if_neg (fun h => hc h.2.symm), Nat.add_zero]
      · rw [if_neg (fun h => hr h.1), if_neg hr, if_neg hr]
    · refine ((h.nums b hbm).of_block (hw.block _ (h.nums b hbm).lt (fun e2 => ?_))).congr fun r c _ _ => ?_
      · rcases e2 with e2 | e2
        · exact (h.far b hbm).2 (by rw [e2])
        · exact e (h.inj b hbm _ hmem e2)
      · unfold numF
        have hcn : ¬ (t / q = b ∧ colN X.seed X.co r s = c) := fun hh => e hh.1.symm
        rw [cnt_snoc, if_neg hcn, Nat.add_zero]

end Go.Proofs.Ytnpldfacnmhemaa.SkP
