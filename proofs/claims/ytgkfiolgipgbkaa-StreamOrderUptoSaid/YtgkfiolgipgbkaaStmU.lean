/- StreamOrder: the end of it: shut, moved, read. -/
import Derived.Test.YtgkfiolgipgbkaaStmT
namespace Go.Proofs.Ytgkfiolgipgbkaa.StmU
open Go.ChangeShapes Go.WideShapes Go.ChangeAt Go.RowKit Base Wri Map FrmP FrmA StmA StmB StmC StmD StmE StmF VaiA StmG StmH StmI StmJ StmK StmL StmM StmN StmP StmQ StmT
set_option linter.unusedVariables false
set_option linter.unusedSimpArgs false

/-- all that there is behind the rounds -/
structure Nd (w wr : World) (B p bw br bm : Nat) (own : Nat → Nat) (W R : Nat → Bs) (M : Nat → Nat) (xw xr : Nat → Value) (C E : Con) : Prop where
  law : LawM w wr B bw br bm own W R M xw xr
  net : NetOf wr B p own C E

theorem Nd.drewN {w wr : World} {B p bw br bm : Nat} {own : Nat → Nat} {W R : Nat → Bs} {M : Nat → Nat} {xw xr : Nat → Value} {C E : Con} (h : Nd w wr B p bw br bm own W R M xw xr C E) (m : Nat) : Nd w (wr.drewN m) B p bw br bm own W R M xw xr C E := by
  obtain ⟨S, h1, h2⟩ := h.net
  exact ⟨h.law.drewN m, ⟨S, isn_same h1 rfl, h2⟩⟩
theorem Nd.appR {w wr w1 : World} {B p bw br bm e : Nat} {own : Nat → Nat} {W R : Nat → Bs} {M : Nat → Nat} {xw xr : Nat → Value} {C E : Con} {v : Value} {s : Bs} (h : Nd w wr B p bw br bm own W R M xw xr C E) (he : e < 2) (hq : Que w1 B v s) (hg : wr.grownBy w1 (xr e).ownBlock) (hat : v.ownBlock = (xr e).ownBlock ∨ v.ownBlock = some wr.heap.size) :
    ∃ own', Nd w (w1.setCell ⟨br, e, none⟩ v) B p bw br bm own' W (upd R e s) M xw (upd xr e v) C E := by
  obtain ⟨h1, h2⟩ := h.law.appR he hq hg hat
  exact ⟨_, h1, h.net.law h2⟩

theorem nshut1_0 {w wr : World} {B p bw br bm : Nat} {own : Nat → Nat} {W R : Nat → Bs} {M : Nat → Nat} {xw xr : Nat → Value} {C E : Con} (h : Hid (Nd w wr B p bw br bm own W R M xw xr C E)) :
    Calls Try.prog 19 #[.pointer (some ⟨p, 0, none⟩), .int .i64 1, .int .i64 0] wr fun x w' => x = .returned (.int .i64 (shE (Con.at C 0))) ∧ ∃ own', Nd w w' B p bw br bm own' W R M xw xr (Con.put C 0 (Wy.sh (Con.at C 0))) E := by
  obtain ⟨hL, ⟨S, hN, h1, h2, h3⟩⟩ := h.out
  refine (shut_ok0 p B 2 1 own S C wr (hid hN) h1 hL.lo).mono ?_
  rintro x w' ⟨rfl, own', hN', hS⟩
  exact ⟨rfl, own', hL.net hS, ⟨_, hN', by unfold Nst.set; simp, by unfold Nst.set; simpa using h2, h3⟩⟩
theorem nmove1_0 {w wr : World} {B p bw br bm : Nat} {own : Nat → Nat} {W R : Nat → Bs} {M : Nat → Nat} {xw xr : Nat → Value} {C E : Con} (h : Hid (Nd w wr B p bw br bm own W R M xw xr C E)) (m : Nat) (hs : (Con.at C 0).u.length + (Con.at C 0).c.length ≤ 1099511627776) :
    Calls Try.prog 16 #[.pointer (some ⟨p, 0, none⟩), .int .i64 1, .int .i64 0, .int .i64 m] wr fun x w' => x = .returned (.tuple #[.int .i64 ((Con.at C 0).u.take m).length, .int .i64 0]) ∧ ∃ own', Nd w w' B p bw br bm own' W R M xw xr (Con.put C 0 (Wy.mv (Con.at C 0) m)) E := by
  obtain ⟨hL, ⟨S, hN, h1, h2, h3⟩⟩ := h.out
  refine (move_ok0 p B 2 1 m own S C wr (hid hN) h1 hL.lo hs).mono ?_
  rintro x w' ⟨rfl, own', hN', hS⟩
  exact ⟨rfl, own', hL.net hS, ⟨_, hN', by unfold Nst.set; simp, by unfold Nst.set; simpa using h2, h3⟩⟩
theorem nread1_0 {w wr : World} {B p bw br bm : Nat} {own : Nat → Nat} {W R : Nat → Bs} {M : Nat → Nat} {xw xr : Nat → Value} {C E : Con} (h : Hid (Nd w wr B p bw br bm own W R M xw xr C E)) (m : Nat) (hs : (Con.at C 1).c.length ≤ 1099511627776) :
    Calls Try.prog 17 #[.pointer (some ⟨p, 0, none⟩), .int .i64 1, .int .i64 0, .int .i64 m] wr fun x w' => ∃ va vc, x = .returned (.tuple #[.slice va ((Con.at C 1).c.take m).length vc, .bool (overB (Wy.rd (Con.at C 1) m)), .int .i64 0]) ∧ BAt w' w'.heap.size va ((Con.at C 1).c.take m) ∧ ∃ own', Nd w w' B p bw br bm own' W R M xw xr (Con.put C 1 (Wy.rd (Con.at C 1) m)) E := by
  obtain ⟨hL, ⟨S, hN, h1, h2, h3⟩⟩ := h.out
  refine (read_ok0 p B 2 1 m own S C wr (hid hN) h1 hL.lo hs).mono ?_
  rintro x w' ⟨v, rfl, hv, own', hN', hS, hvt⟩
  obtain ⟨va, vc, rfl, -, -, hvb⟩ := hv.bat
  exact ⟨va, vc, rfl, hvb, mine own' _, (hL.net hS).mine hvt, ⟨_, isn_mine hN' hvt, by unfold Nst.set; simp, by unfold Nst.set; simpa using h2, h3⟩⟩
theorem nshut1_1 {w wr : World} {B p bw br bm : Nat} {own : Nat → Nat} {W R : Nat → Bs} {M : Nat → Nat} {xw xr : Nat → Value} {C E : Con} (h : Hid (Nd w wr B p bw br bm own W R M xw xr C E)) :
    Calls Try.prog 19 #[.pointer (some ⟨p, 0, none⟩), .int .i64 1, .int .i64 1] wr fun x w' => x = .returned (.int .i64 (shE (Con.at C 1))) ∧ ∃ own', Nd w w' B p bw br bm own' W R M xw xr (Con.put C 1 (Wy.sh (Con.at C 1))) E := by
  obtain ⟨hL, ⟨S, hN, h1, h2, h3⟩⟩ := h.out
  refine (shut_ok1 p B 2 1 own S C wr (hid hN) h1 hL.lo).mono ?_
  rintro x w' ⟨rfl, own', hN', hS⟩
  exact ⟨rfl, own', hL.net hS, ⟨_, hN', by unfold Nst.set; simp, by unfold Nst.set; simpa using h2, h3⟩⟩
theorem nmove1_1 {w wr : World} {B p bw br bm : Nat} {own : Nat → Nat} {W R : Nat → Bs} {M : Nat → Nat} {xw xr : Nat → Value} {C E : Con} (h : Hid (Nd w wr B p bw br bm own W R M xw xr C E)) (m : Nat) (hs : (Con.at C 1).u.length + (Con.at C 1).c.length ≤ 1099511627776) :
    Calls Try.prog 16 #[.pointer (some ⟨p, 0, none⟩), .int .i64 1, .int .i64 1, .int .i64 m] wr fun x w' => x = .returned (.tuple #[.int .i64 ((Con.at C 1).u.take m).length, .int .i64 0]) ∧ ∃ own', Nd w w' B p bw br bm own' W R M xw xr (Con.put C 1 (Wy.mv (Con.at C 1) m)) E := by
  obtain ⟨hL, ⟨S, hN, h1, h2, h3⟩⟩ := h.out
  refine (move_ok1 p B 2 1 m own S C wr (hid hN) h1 hL.lo hs).mono ?_
  rintro x w' ⟨rfl, own', hN', hS⟩
  exact ⟨rfl, own', hL.net hS, ⟨_, hN', by unfold Nst.set; simp, by unfold Nst.set; simpa using h2, h3⟩⟩
theorem nread1_1 {w wr : World} {B p bw br bm : Nat} {own : Nat → Nat} {W R : Nat → Bs} {M : Nat → Nat} {xw xr : Nat → Value} {C E : Con} (h : Hid (Nd w wr B p bw br bm own W R M xw xr C E)) (m : Nat) (hs : (Con.at C 0).c.length ≤ 1099511627776) :
    Calls Try.prog 17 #[.pointer (some ⟨p, 0, none⟩), .int .i64 1, .int .i64 1, .int .i64 m] wr fun x w' => ∃ va vc, x = .returned (.tuple #[.slice va ((Con.at C 0).c.take m).length vc, .bool (overB (Wy.rd (Con.at C 0) m)), .int .i64 0]) ∧ BAt w' w'.heap.size va ((Con.at C 0).c.take m) ∧ ∃ own', Nd w w' B p bw br bm own' W R M xw xr (Con.put C 0 (Wy.rd (Con.at C 0) m)) E := by
  obtain ⟨hL, ⟨S, hN, h1, h2, h3⟩⟩ := h.out
  refine (read_ok1 p B 2 1 m own S C wr (hid hN) h1 hL.lo hs).mono ?_
  rintro x w' ⟨v, rfl, hv, own', hN', hS, hvt⟩
  obtain ⟨va, vc, rfl, -, -, hvb⟩ := hv.bat
  exact ⟨va, vc, rfl, hvb, mine own' _, (hL.net hS).mine hvt, ⟨_, isn_mine hN' hvt, by unfold Nst.set; simp, by unfold Nst.set; simpa using h2, h3⟩⟩

theorem ncell_w {w wr : World} {B p bw br bm e : Nat} {own : Nat → Nat} {W R : Nat → Bs} {M : Nat → Nat} {xw xr : Nat → Value} {C E : Con} (h : Nd w wr B p bw br bm own W R M xw xr C E) (he : e < 2) : ∃ a c, wr.cell? ⟨bw, e, none⟩ = some (.slice a (W e).length c) ∧ BAt wr wr.heap.size a (W e) := by
  obtain ⟨a, c, h1, h2, h3, h4⟩ := (h.law.qw e he).bat
  refine ⟨a, c, ?_, h4⟩
  rw [← h1]
  rcases (show e = 0 ∨ e = 1 by omega) with rfl | rfl <;> exact blk_cell h.law.hw rfl
theorem ncell_r {w wr : World} {B p bw br bm e : Nat} {own : Nat → Nat} {W R : Nat → Bs} {M : Nat → Nat} {xw xr : Nat → Value} {C E : Con} (h : Nd w wr B p bw br bm own W R M xw xr C E) (he : e < 2) : ∃ a c, wr.cell? ⟨br, e, none⟩ = some (.slice a (R e).length c) ∧ BAt wr wr.heap.size a (R e) := by
  obtain ⟨a, c, h1, h2, h3, h4⟩ := (h.law.qr e he).bat
  refine ⟨a, c, ?_, h4⟩
  rw [← h1]
  rcases (show e = 0 ∨ e = 1 by omega) with rfl | rfl <;> exact blk_cell h.law.hr rfl
theorem napp_r {w wr : World} {B p bw br bm e : Nat} {own : Nat → Nat} {W R : Nat → Bs} {M : Nat → Nat} {xw xr : Nat → Value} {C E : Con} (h : Nd w wr B p bw br bm own W R M xw xr C E) (he : e < 2) {ax : Option Addr} {cx : Nat} {t : Bs} (ht : BAt wr wr.heap.size ax t) (hs : (R e).length + t.length ≤ 1099511627776) :
    ∃ ao co a6 n6 c6 w6, wr.cell? ⟨br, e, none⟩ = some (.slice ao (R e).length co) ∧ (app #[32, 32] 32 #[.slice ao (R e).length co, .slice ax t.length cx]).run Try.prog wr = .ok (.slice a6 n6 c6) w6 ∧ w6.cell? ⟨br, e, none⟩ = some (.slice ao (R e).length co) ∧ w6.frozen? ⟨br, e, none⟩ = false ∧ ∃ own', Nd w (w6.setCell ⟨br, e, none⟩ (.slice a6 n6 c6)) B p bw br bm own' W (upd R e (R e ++ t)) M xw (upd xr e (.slice a6 n6 c6)) C E := by
  obtain ⟨ao, co, h1, h2, h3, h4⟩ := (h.law.qr e he).bat
  obtain ⟨v', w6, hr, hq, hg, hat⟩ := run_append_que (ty := 32) (cx := cx) wr Try.underlying32 Try.underlying32 (h.law.qr e he) ht h.law.lo hs
  obtain ⟨a6, c6, h5, -⟩ := hq.shape
  subst h5
  have hb6 : w6.heap[br]? = some (.cells #[xr 0, xr 1] 41 (0, 0)) := (hg.block br (Array.getElem?_eq_some_iff.1 h.law.hr).1 (fun e2 => by have h6 := h.law.tqr e he br e2.symm; rw [h.law.tr] at h6; omega)).trans h.law.hr
  refine ⟨ao, co, a6, _, c6, w6, ?_, by rw [← h1]; exact hr, ?_, by simp [World.frozen?, hb6], h.appR he hq hg hat⟩
  · rw [← h1]
    rcases (show e = 0 ∨ e = 1 by omega) with rfl | rfl <;> exact blk_cell h.law.hr rfl
  · rw [← h1]
    rcases (show e = 0 ∨ e = 1 by omega) with rfl | rfl <;> exact blk_cell hb6 rfl

/-- an end that is not shut yet: all that was written is read, has come, or is under way -/
def Lx (W R : Nat → Bs) (C : Con) (e : Nat) : Prop := W e = R e ++ (Con.at C e).c ++ (Con.at C e).u ∧ (Con.at C e).b = false
/-- an end that is shut and moved: the rest has come -/
def Lz (W R : Nat → Bs) (C : Con) (e : Nat) : Prop := W e = R e ++ (Con.at C e).c ∧ (Con.at C e).u = [] ∧ (Con.at C e).b = true

def Fin (w : World) (B p bw br bm j : Nat) (wr : World) : Prop :=
  ∃ own W R M xw xr C E, Nd w wr B p bw br bm own W R M xw xr C E ∧ (∀ e, e < 2 → j ≤ e → Lx W R C e) ∧ (∀ e, e < 2 → (W e).length ≤ 1048576)

theorem fin_of {w wr : World} {B p bw br bm n : Nat} {D : Nat → Dd} (h : Inv w B p bw br bm D n wr) (hk : sumS D n ≤ 1048576) : Fin w B p bw br bm 0 wr := by
  obtain ⟨own, W, R, M, xw, xr, C, E, h1, h2, h3, h4⟩ := h
  exact ⟨own, W, R, M, xw, xr, C, E, ⟨h1, h2⟩, fun e he _ => ⟨(h3 e he).1, (h3 e he).2.2⟩, fun e he => Nat.le_trans (h4 e he).1 hk⟩

theorem atp_same {C : Con} {e : Nat} {x : Wy} : Con.at (Con.put C e x) e = x := by
  unfold Con.at Con.put
  by_cases h : e = 0 <;> simp [h]
theorem atp_other {C : Con} {e i : Nat} {x : Wy} (he : e < 2) (hi : i < 2) (h : i ≠ e) : Con.at (Con.put C e x) i = Con.at C i := by
  unfold Con.at Con.put
  rcases (show e = 0 ∨ e = 1 by omega) with rfl | rfl <;> rcases (show i = 0 ∨ i = 1 by omega) with rfl | rfl <;> simp_all

theorem lx_len {W R : Nat → Bs} {C : Con} {e : Nat} (h : Lx W R C e) : (W e).length = (R e).length + ((Con.at C e).c.length + (Con.at C e).u.length) := by
  rw [h.1, List.length_append, List.length_append]
  omega
theorem she {W R : Nat → Bs} {C : Con} {e : Nat} (h : Lx W R C e) : shE (Con.at C e) = 0 := by
  unfold shE
  rw [h.2]
  rfl
/-- nothing was left: all has come already -/
theorem lz_none {W R : Nat → Bs} {C : Con} {e : Nat} (h : Lx W R C e) (h0 : (Con.at C e).c.length + (Con.at C e).u.length = 0) : Lz W R (Con.put C e (Wy.sh (Con.at C e))) e := by
  have hu : (Con.at C e).u = [] := List.eq_nil_of_length_eq_zero (by omega)
  refine ⟨?_, by rw [atp_same]; exact hu, by rw [atp_same]; rfl⟩
  rw [atp_same, h.1, hu, List.append_nil]
  rfl
/-- the rest is moved, and all but one read -/
theorem over_no {r : Nat} {x : Wy} (hr : x.c.length + x.u.length = r) (h0 : 0 < r) : overB (Wy.rd (Wy.mv x r) (r - 1)) = false := by
  unfold overB Wy.rd Wy.mv
  have h1 : ((x.c ++ x.u.take r).drop (r - 1)).length = 1 := by
    rw [List.length_drop, List.length_append, List.length_take]
    omega
  simp only [h1]
  simp
theorem lz_some {W R : Nat → Bs} {C : Con} {e r : Nat} (h : Lx W R C e) (hr : (Con.at C e).c.length + (Con.at C e).u.length = r) (h0 : 0 < r) :
    Lz W (upd R e (R e ++ (Con.at (Con.put (Con.put C e (Wy.sh (Con.at C e))) e (Wy.mv (Con.at (Con.put C e (Wy.sh (Con.at C e))) e) r)) e).c.take (r - 1))) (Con.put (Con.put (Con.put C e (Wy.sh (Con.at C e))) e (Wy.mv (Con.at (Con.put C e (Wy.sh (Con.at C e))) e) r)) e (Wy.rd (Con.at (Con.put (Con.put C e (Wy.sh (Con.at C e))) e (Wy.mv (Con.at (Con.put C e (Wy.sh (Con.at C e))) e) r)) e) (r - 1))) e := by
  unfold Lz
  rw [upd_same, atp_same, atp_same, atp_same]
  refine ⟨?_, ?_, rfl⟩
  · show W e = R e ++ ((Con.at C e).c ++ (Con.at C e).u.take r).take (r - 1) ++ ((Con.at C e).c ++ (Con.at C e).u.take r).drop (r - 1)
    rw [List.append_assoc, List.take_append_drop, List.take_of_length_le (show (Con.at C e).u.length ≤ r by omega), h.1, List.append_assoc]
  · show (Con.at C e).u.drop r = []
    exact List.drop_eq_nil_of_le (by omega)
theorem lz_len {W R : Nat → Bs} {C : Con} {e : Nat} (h : Lz W R C e) : (W e).length = (R e).length + (Con.at C e).c.length := by
  rw [h.1, List.length_append]
/-- the last of it is read, and it is over -/
theorem over_yes {W R : Nat → Bs} {C : Con} {e m : Nat} (h : Lz W R C e) (hm : (Con.at C e).c.length ≤ m) : overB (Wy.rd (Con.at C e) m) = true ∧ R e ++ (Con.at C e).c.take m = W e := by
  refine ⟨?_, by rw [List.take_of_length_le hm, h.1]⟩
  unfold overB Wy.rd
  simp only [h.2.1, h.2.2, List.drop_eq_nil_of_le hm]
  rfl
/-- the other end is what it was -/
theorem lx_other {W R R' : Nat → Bs} {C C' : Con} {i : Nat} (h : Lx W R C i) (h1 : R' i = R i) (h2 : Con.at C' i = Con.at C i) : Lx W R' C' i := by
  unfold Lx
  rw [h1, h2]
  exact h

end Go.Proofs.Ytgkfiolgipgbkaa.StmU
