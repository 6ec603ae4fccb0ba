/- StreamOrder: the network's calls, and what the law keeps beside. -/
import Derived.Test.YtgkfiolgipgbkaaStmP
import Derived.Test.YtgkfiolgipgbkaaStmQ
namespace Go.Proofs.Ytgkfiolgipgbkaa.StmT
open Go.ChangeShapes Go.WideShapes Go.ChangeAt Go.RowKit Base Wri Map FrmP FrmA StmA StmB StmC StmD StmE StmF VaiA StmG StmH StmI StmJ StmK StmL StmM StmN StmP StmQ
set_option linter.unusedVariables false
set_option linter.unusedSimpArgs false

def U1 : Nst := ⟨fun j => false || [(1 : Int)].contains j, [], fun _ => none⟩
def U2 : Nst := Nst.dial U1 1
def U3 : Nst := Nst.dial U2 1

/-- the network of the law: two connections -/
def NetOf (wr : World) (B p : Nat) (own : Nat → Nat) (C D : Con) : Prop := ∃ S, IsNet wr B own p S 2 ∧ S.co 1 = some C ∧ S.co 2 = some D ∧ S.di.length = 2

/-- what was written is what was read, what has come, and what is under way -/
def Ln (W R : Nat → Bs) (M : Nat → Nat) (C : Con) : Prop := ∀ e, e < 2 → W e = R e ++ (Con.at C e).c ++ (Con.at C e).u ∧ M e = (R e).length + (Con.at C e).c.length ∧ (Con.at C e).b = false

def Inv (w : World) (B p bw br bm : Nat) (D : Nat → Dd) (k : Nat) (wr : World) : Prop :=
  ∃ own W R M xw xr C E, LawM w wr B bw br bm own W R M xw xr ∧ NetOf wr B p own C E ∧ Ln W R M C ∧ (∀ e, e < 2 → (W e).length ≤ sumS D k ∧ (Con.at E e).u.length ≤ 65536 ∧ (Con.at E e).c.length ≤ 3 * k)

/-- the deed of a round, in its box -/
def Bx (wr : World) (bd : Nat) (own : Nat → Nat) (d : Dd) : Prop := wr.heap[bd]? = some (.cells #[.int .i64 d.kind, .int .i64 d.conn, .int .i64 d.en, .int .i64 d.num, .slice d.pa d.ps.length d.pc, .slice d.ba d.s.length d.bc] 34 (0, 0)) ∧ own bd = FT

theorem Bx.net {w w' : World} {bd : Nat} {own own' : Nat → Nat} {d : Dd} {R : Nat → Prop} (h : Bx w bd own d) (hs : Stp w w' own own' R) (hR : ¬ R FT) : Bx w' bd own' d := by
  obtain ⟨h1, h2⟩ := hs.keep (Array.getElem?_eq_some_iff.1 h.1).1 (by rw [h.2]; exact hR)
  exact ⟨h1.trans h.1, h2.trans h.2⟩

theorem start_inv {w0 w4 : World} {p n : Nat} {own4 : Nat → Nat} {D : Nat → Dd} (hn : IsNet w4 w0.heap.size own4 p U3 2) (hs : Stp w0 w4 (fun _ => FT) own4 NetR) :
    Inv w0 w0.heap.size p w4.heap.size (w4.heap.size + 1) (w4.heap.size + 2) D 0 (((w4.alloc (.cells #[.slice none 0 0, .slice none 0 0] 41)).alloc (.cells #[.slice none 0 0, .slice none 0 0] 41)).alloc (.cells #[.int .i64 0, .int .i64 0] 42)) := by
  have n1 := heap_alloc_new w4 (.cells #[.slice none 0 0, .slice none 0 0] 41)
  have n2 := heap_alloc_new (w4.alloc (.cells #[.slice none 0 0, .slice none 0 0] 41)) (.cells #[.slice none 0 0, .slice none 0 0] 41)
  have n3 := heap_alloc_new ((w4.alloc (.cells #[.slice none 0 0, .slice none 0 0] 41)).alloc (.cells #[.slice none 0 0, .slice none 0 0] 41)) (.cells #[.int .i64 0, .int .i64 0] 42)
  have s1 : (w4.alloc (.cells #[.slice none 0 0, .slice none 0 0] 41)).heap.size = w4.heap.size + 1 := by simp
  have s2 : ((w4.alloc (.cells #[.slice none 0 0, .slice none 0 0] 41)).alloc (.cells #[.slice none 0 0, .slice none 0 0] 41)).heap.size = w4.heap.size + 2 := by simp
  rw [s1] at n2
  rw [s2] at n3
  have hb4 : Below w4.heap.size w4 (((w4.alloc (.cells #[.slice none 0 0, .slice none 0 0] 41)).alloc (.cells #[.slice none 0 0, .slice none 0 0] 41)).alloc (.cells #[.int .i64 0, .int .i64 0] 42)) := bel_next (bel_next (bel_alloc _ _) _) _
  have hsz := hs.wr.size
  have hbe : Below w0.heap.size w0 (((w4.alloc (.cells #[.slice none 0 0, .slice none 0 0] 41)).alloc (.cells #[.slice none 0 0, .slice none 0 0] 41)).alloc (.cells #[.int .i64 0, .int .i64 0] 42)) := (stp_below hs).trans (hb4.mono hsz)
  refine ⟨fun g => if g < w4.heap.size then own4 g else if g = w4.heap.size then FT + 5 else if g = w4.heap.size + 1 then FT + 6 else FT + 7, fun _ => [], fun _ => [], fun _ => 0, fun _ => .slice none 0 0, fun _ => .slice none 0 0, con0, con0, ⟨hbe, fun g hg => ?_, heap_keep (heap_keep n1), heap_keep n2, n3, fun e he => Que.nil _ _, fun e he => Que.nil _ _, ?_, ?_, ?_, fun e he g h => (by cases h), fun e he g h => (by cases h), hbe.size⟩, ⟨U3, ?_, rfl, rfl, rfl⟩, fun e he => ?_, fun e he => ?_⟩
  · show (if g < w4.heap.size then _ else _) = _
    rw [if_pos (by omega)]
    exact hs.tag g hg
  · show (if w4.heap.size < w4.heap.size then _ else _) = _
    rw [if_neg (by omega), if_pos rfl]
  · show (if w4.heap.size + 1 < w4.heap.size then _ else _) = _
    rw [if_neg (by omega), if_neg (by omega), if_pos rfl]
  · show (if w4.heap.size + 2 < w4.heap.size then _ else _) = _
    rw [if_neg (by omega), if_neg (by omega), if_neg (by omega)]
  · obtain ⟨mo, mc, vd, K, hN⟩ := hn
    exact ⟨mo, mc, vd, K, hN.keep (fun g hg _ _ => ⟨hb4.block g hg, if_pos hg⟩)⟩
  · rcases (show e = 0 ∨ e = 1 by omega) with rfl | rfl <;> exact ⟨rfl, rfl, rfl⟩
  · rcases (show e = 0 ∨ e = 1 by omega) with rfl | rfl <;> exact ⟨Nat.zero_le _, Nat.zero_le _, Nat.zero_le _⟩


/-- all that there is in a round -/
structure Rnd (w wr : World) (B p bw br bm bd : Nat) (own : Nat → Nat) (W R : Nat → Bs) (M : Nat → Nat) (xw xr : Nat → Value) (C E : Con) (d : Dd) : Prop where
  law : LawM w wr B bw br bm own W R M xw xr
  net : NetOf wr B p own C E
  box : Bx wr bd own d

theorem NetOf.law {wr wr' : World} {B p : Nat} {own own' : Nat → Nat} {C D : Con} (h : NetOf wr B p own C D) (hs : Stp wr wr' own own' (fun t => FT < t)) : NetOf wr' B p own' C D := by
  obtain ⟨S, h1, h2⟩ := h
  exact ⟨S, isn_law h1 hs, h2⟩
theorem ft_not : ¬ NetR FT := ft_no 0
theorem ft_irr : ¬ (fun t => FT < t) FT := Nat.lt_irrefl _
theorem isn_same {w w' : World} {B p nc : Nat} {own : Nat → Nat} {S : Nst} (h : IsNet w B own p S nc) (hw : w'.heap = w.heap) : IsNet w' B own p S nc := by
  obtain ⟨mo, mc, vd, K, h⟩ := h
  exact ⟨mo, mc, vd, K, h.keep (fun g hg _ _ => ⟨by rw [hw], rfl⟩)⟩
theorem Rnd.drewN {w wr : World} {B p bw br bm bd : Nat} {own : Nat → Nat} {W R : Nat → Bs} {M : Nat → Nat} {xw xr : Nat → Value} {C E : Con} {d : Dd} (h : Rnd w wr B p bw br bm bd own W R M xw xr C E d) (m : Nat) : Rnd w (wr.drewN m) B p bw br bm bd own W R M xw xr C E d := by
  obtain ⟨S, h1, h2⟩ := h.net
  exact ⟨h.law.drewN m, ⟨S, isn_same h1 rfl, h2⟩, h.box⟩

theorem Rnd.appW {w wr w1 : World} {B p bw br bm bd e : Nat} {own : Nat → Nat} {W R : Nat → Bs} {M : Nat → Nat} {xw xr : Nat → Value} {C E : Con} {d : Dd} {v : Value} {s : Bs} (h : Rnd w wr B p bw br bm bd own W R M xw xr C E d) (he : e < 2) (hq : Que w1 B v s) (hg : wr.grownBy w1 (xw e).ownBlock) (hat : v.ownBlock = (xw e).ownBlock ∨ v.ownBlock = some wr.heap.size) :
    ∃ own', Rnd w (w1.setCell ⟨bw, e, none⟩ v) B p bw br bm bd own' (upd W e s) R M (upd xw e v) xr C E d := by
  obtain ⟨h1, h2⟩ := h.law.appW he hq hg hat
  exact ⟨_, h1, h.net.law h2, h.box.net h2 ft_irr⟩
theorem Rnd.appR {w wr w1 : World} {B p bw br bm bd e : Nat} {own : Nat → Nat} {W R : Nat → Bs} {M : Nat → Nat} {xw xr : Nat → Value} {C E : Con} {d : Dd} {v : Value} {s : Bs} (h : Rnd w wr B p bw br bm bd own W R M xw xr C E d) (he : e < 2) (hq : Que w1 B v s) (hg : wr.grownBy w1 (xr e).ownBlock) (hat : v.ownBlock = (xr e).ownBlock ∨ v.ownBlock = some wr.heap.size) :
    ∃ own', Rnd w (w1.setCell ⟨br, e, none⟩ v) B p bw br bm bd own' W (upd R e s) M xw (upd xr e v) C E d := by
  obtain ⟨h1, h2⟩ := h.law.appR he hq hg hat
  exact ⟨_, h1, h.net.law h2, h.box.net h2 ft_irr⟩
theorem Rnd.setM {w wr : World} {B p bw br bm bd e m : Nat} {own : Nat → Nat} {W R : Nat → Bs} {M : Nat → Nat} {xw xr : Nat → Value} {C E : Con} {d : Dd} (h : Rnd w wr B p bw br bm bd own W R M xw xr C E d) (he : e < 2) :
    Rnd w (wr.setCell ⟨bm, e, none⟩ (.int .i64 (m : Nat))) B p bw br bm bd own W R (upd M e m) xw xr C E d := by
  obtain ⟨h1, h2⟩ := h.law.setM (m := m) he
  exact ⟨h1, h.net.law h2, h.box.net h2 ft_irr⟩

theorem end_01 (x : Int) : wrap64 ((IntKind.u64.wrap x).tmod 2) = 0 ∨ wrap64 ((IntKind.u64.wrap x).tmod 2) = 1 := by
  have h0 : IntKind.u64.wrap x = x % 18446744073709551616 := by simp [IntKind.wrap, IntKind.bits, IntKind.signed]
  rw [h0]
  have h1 : 0 ≤ x % 18446744073709551616 := Int.emod_nonneg _ (by omega)
  generalize x % 18446744073709551616 = y at *
  rw [Int.tmod_eq_emod_of_nonneg h1]
  unfold wrap64
  omega

theorem write2_0 {w wr : World} {B p bw br bm bd : Nat} {own : Nat → Nat} {W R : Nat → Bs} {M : Nat → Nat} {xw xr : Nat → Value} {C E : Con} {d : Dd} (h : Hid (Rnd w wr B p bw br bm bd own W R M xw xr C E d)) (s : Bs) (ax : Option Addr) (cx : Nat) (hs : (Con.at E 0).u.length + s.length ≤ 1099511627776) (hbt : BAt wr wr.heap.size ax s) :
    Calls Try.prog 15 #[.pointer (some ⟨p, 0, none⟩), .int .i64 2, .int .i64 0, .slice ax s.length cx] wr fun x w' => x = .returned (.int .i64 (wtE (Con.at E 0) s.length)) ∧ ∃ own', Rnd w w' B p bw br bm bd own' W R M xw xr C (Con.put E 0 (Wy.wtIf (Con.at E 0) s)) d := by
  obtain ⟨hL, ⟨S, hN, h1, h2, h3⟩, hX⟩ := h.out
  refine (write_ok0 p B 2 2 own S E s ax cx wr (hid hN) h2 hL.lo hs (hid hbt)).mono ?_
  rintro x w' ⟨rfl, own', hN', hS⟩
  exact ⟨rfl, own', hL.net hS, ⟨_, hN', by unfold Nst.set; simpa using h1, by unfold Nst.set; simp, h3⟩, hX.net hS ft_not⟩
theorem move2_0 {w wr : World} {B p bw br bm bd : Nat} {own : Nat → Nat} {W R : Nat → Bs} {M : Nat → Nat} {xw xr : Nat → Value} {C E : Con} {d : Dd} (h : Hid (Rnd w wr B p bw br bm bd own W R M xw xr C E d)) (m : Nat) (hs : (Con.at E 0).u.length + (Con.at E 0).c.length ≤ 1099511627776) :
    Calls Try.prog 16 #[.pointer (some ⟨p, 0, none⟩), .int .i64 2, .int .i64 0, .int .i64 m] wr fun x w' => x = .returned (.tuple #[.int .i64 ((Con.at E 0).u.take m).length, .int .i64 0]) ∧ ∃ own', Rnd w w' B p bw br bm bd own' W R M xw xr C (Con.put E 0 (Wy.mv (Con.at E 0) m)) d := by
  obtain ⟨hL, ⟨S, hN, h1, h2, h3⟩, hX⟩ := h.out
  refine (move_ok0 p B 2 2 m own S E wr (hid hN) h2 hL.lo hs).mono ?_
  rintro x w' ⟨rfl, own', hN', hS⟩
  exact ⟨rfl, own', hL.net hS, ⟨_, hN', by unfold Nst.set; simpa using h1, by unfold Nst.set; simp, h3⟩, hX.net hS ft_not⟩

theorem write1_0 {w wr : World} {B p bw br bm bd : Nat} {own : Nat → Nat} {W R : Nat → Bs} {M : Nat → Nat} {xw xr : Nat → Value} {C E : Con} {d : Dd} (h : Hid (Rnd w wr B p bw br bm bd own W R M xw xr C E d)) (s : Bs) (ax : Option Addr) (cx : Nat) (hs : (Con.at C 0).u.length + s.length ≤ 1099511627776) (hbt : BAt wr wr.heap.size ax s) :
    Calls Try.prog 15 #[.pointer (some ⟨p, 0, none⟩), .int .i64 1, .int .i64 0, .slice ax s.length cx] wr fun x w' => x = .returned (.int .i64 (wtE (Con.at C 0) s.length)) ∧ ∃ own', Rnd w w' B p bw br bm bd own' W R M xw xr (Con.put C 0 (Wy.wtIf (Con.at C 0) s)) E d := by
  obtain ⟨hL, ⟨S, hN, h1, h2, h3⟩, hX⟩ := h.out
  refine (write_ok0 p B 2 1 own S C s ax cx wr (hid hN) h1 hL.lo hs (hid hbt)).mono ?_
  rintro x w' ⟨rfl, own', hN', hS⟩
  exact ⟨rfl, own', hL.net hS, ⟨_, hN', by unfold Nst.set; simp, by unfold Nst.set; simpa using h2, h3⟩, hX.net hS ft_not⟩
theorem move1_0 {w wr : World} {B p bw br bm bd : Nat} {own : Nat → Nat} {W R : Nat → Bs} {M : Nat → Nat} {xw xr : Nat → Value} {C E : Con} {d : Dd} (h : Hid (Rnd w wr B p bw br bm bd own W R M xw xr C E d)) (m : Nat) (hs : (Con.at C 0).u.length + (Con.at C 0).c.length ≤ 1099511627776) :
    Calls Try.prog 16 #[.pointer (some ⟨p, 0, none⟩), .int .i64 1, .int .i64 0, .int .i64 m] wr fun x w' => x = .returned (.tuple #[.int .i64 ((Con.at C 0).u.take m).length, .int .i64 0]) ∧ ∃ own', Rnd w w' B p bw br bm bd own' W R M xw xr (Con.put C 0 (Wy.mv (Con.at C 0) m)) E d := by
  obtain ⟨hL, ⟨S, hN, h1, h2, h3⟩, hX⟩ := h.out
  refine (move_ok0 p B 2 1 m own S C wr (hid hN) h1 hL.lo hs).mono ?_
  rintro x w' ⟨rfl, own', hN', hS⟩
  exact ⟨rfl, own', hL.net hS, ⟨_, hN', by unfold Nst.set; simp, by unfold Nst.set; simpa using h2, h3⟩, hX.net hS ft_not⟩

theorem shut1_0 {w wr : World} {B p bw br bm bd : Nat} {own : Nat → Nat} {W R : Nat → Bs} {M : Nat → Nat} {xw xr : Nat → Value} {C E : Con} {d : Dd} (h : Hid (Rnd w wr B p bw br bm bd own W R M xw xr C E d)) :
    Calls Try.prog 19 #[.pointer (some ⟨p, 0, none⟩), .int .i64 1, .int .i64 0] wr fun x w' => x = .returned (.int .i64 (shE (Con.at C 0))) ∧ ∃ own', Rnd w w' B p bw br bm bd own' W R M xw xr (Con.put C 0 (Wy.sh (Con.at C 0))) E d := by
  obtain ⟨hL, ⟨S, hN, h1, h2, h3⟩, hX⟩ := h.out
  refine (shut_ok0 p B 2 1 own S C wr (hid hN) h1 hL.lo).mono ?_
  rintro x w' ⟨rfl, own', hN', hS⟩
  exact ⟨rfl, own', hL.net hS, ⟨_, hN', by unfold Nst.set; simp, by unfold Nst.set; simpa using h2, h3⟩, hX.net hS ft_not⟩
theorem read1_0 {w wr : World} {B p bw br bm bd : Nat} {own : Nat → Nat} {W R : Nat → Bs} {M : Nat → Nat} {xw xr : Nat → Value} {C E : Con} {d : Dd} (h : Hid (Rnd w wr B p bw br bm bd own W R M xw xr C E d)) (m : Nat) (hs : (Con.at C 1).c.length ≤ 1099511627776) :
    Calls Try.prog 17 #[.pointer (some ⟨p, 0, none⟩), .int .i64 1, .int .i64 0, .int .i64 m] wr fun x w' => ∃ va vc, x = .returned (.tuple #[.slice va ((Con.at C 1).c.take m).length vc, .bool (overB (Wy.rd (Con.at C 1) m)), .int .i64 0]) ∧ BAt w' w'.heap.size va ((Con.at C 1).c.take m) ∧ ∃ own', Rnd w w' B p bw br bm bd own' W R M xw xr (Con.put C 1 (Wy.rd (Con.at C 1) m)) E d := by
  obtain ⟨hL, ⟨S, hN, h1, h2, h3⟩, hX⟩ := h.out
  refine (read_ok0 p B 2 1 m own S C wr (hid hN) h1 hL.lo hs).mono ?_
  rintro x w' ⟨v, rfl, hv, own', hN', hS, hvt⟩
  obtain ⟨va, vc, rfl, -, -, hvb⟩ := hv.bat
  have hbx := hX.net hS ft_not
  refine ⟨va, vc, rfl, hvb, mine own' _, (hL.net hS).mine hvt, ⟨_, isn_mine hN' hvt, by unfold Nst.set; simp, by unfold Nst.set; simpa using h2, h3⟩, hbx.1, ?_⟩
  unfold mine
  split
  · rfl
  · exact hbx.2
theorem moveE_0 {w wr : World} {B p bw br bm bd : Nat} {own : Nat → Nat} {W R : Nat → Bs} {M : Nat → Nat} {xw xr : Nat → Value} {C E : Con} {d : Dd} (h : Hid (Rnd w wr B p bw br bm bd own W R M xw xr C E d)) (m : Int) (hm : m < 0) :
    Calls Try.prog 16 #[.pointer (some ⟨p, 0, none⟩), .int .i64 1, .int .i64 0, .int .i64 m] wr fun x w' => x = .returned (.tuple #[.int .i64 0, .int .i64 2]) ∧ ∃ own', Rnd w w' B p bw br bm bd own' W R M xw xr C E d := by
  obtain ⟨hL, ⟨S, hN, h1, h2, h3⟩, hX⟩ := h.out
  have he : atE S 1 0 m = 2 := by
    unfold atE never
    rw [h3, if_neg (by decide), if_pos (.inr hm)]
  refine (move_err p B 2 own S 1 0 m wr (hid hN) (by omega) (by omega) (by rw [he]; decide)).mono ?_
  rintro x w' ⟨rfl, own', hN', hS⟩
  exact ⟨by rw [he], own', hL.net hS, ⟨S, hN', h1, h2, h3⟩, hX.net hS ft_not⟩
theorem readE_0 {w wr : World} {B p bw br bm bd : Nat} {own : Nat → Nat} {W R : Nat → Bs} {M : Nat → Nat} {xw xr : Nat → Value} {C E : Con} {d : Dd} (h : Hid (Rnd w wr B p bw br bm bd own W R M xw xr C E d)) (m : Int) (hm : m < 0) :
    Calls Try.prog 17 #[.pointer (some ⟨p, 0, none⟩), .int .i64 1, .int .i64 0, .int .i64 m] wr fun x w' => x = .returned (.tuple #[.slice none 0 0, .bool false, .int .i64 2]) ∧ ∃ own', Rnd w w' B p bw br bm bd own' W R M xw xr C E d := by
  obtain ⟨hL, ⟨S, hN, h1, h2, h3⟩, hX⟩ := h.out
  have he : atE S 1 0 m = 2 := by
    unfold atE never
    rw [h3, if_neg (by decide), if_pos (.inr hm)]
  refine (read_err p B 2 own S 1 0 m wr (hid hN) (by omega) (by omega) (by rw [he]; decide)).mono ?_
  rintro x w' ⟨rfl, own', hN', hS⟩
  exact ⟨by rw [he], own', hL.net hS, ⟨S, hN', h1, h2, h3⟩, hX.net hS ft_not⟩

theorem write2_1 {w wr : World} {B p bw br bm bd : Nat} {own : Nat → Nat} {W R : Nat → Bs} {M : Nat → Nat} {xw xr : Nat → Value} {C E : Con} {d : Dd} (h : Hid (Rnd w wr B p bw br bm bd own W R M xw xr C E d)) (s : Bs) (ax : Option Addr) (cx : Nat) (hs : (Con.at E 1).u.length + s.length ≤ 1099511627776) (hbt : BAt wr wr.heap.size ax s) :
    Calls Try.prog 15 #[.pointer (some ⟨p, 0, none⟩), .int .i64 2, .int .i64 1, .slice ax s.length cx] wr fun x w' => x = .returned (.int .i64 (wtE (Con.at E 1) s.length)) ∧ ∃ own', Rnd w w' B p bw br bm bd own' W R M xw xr C (Con.put E 1 (Wy.wtIf (Con.at E 1) s)) d := by
  obtain ⟨hL, ⟨S, hN, h1, h2, h3⟩, hX⟩ := h.out
  refine (write_ok1 p B 2 2 own S E s ax cx wr (hid hN) h2 hL.lo hs (hid hbt)).mono ?_
  rintro x w' ⟨rfl, own', hN', hS⟩
  exact ⟨rfl, own', hL.net hS, ⟨_, hN', by unfold Nst.set; simpa using h1, by unfold Nst.set; simp, h3⟩, hX.net hS ft_not⟩
theorem move2_1 {w wr : World} {B p bw br bm bd : Nat} {own : Nat → Nat} {W R : Nat → Bs} {M : Nat → Nat} {xw xr : Nat → Value} {C E : Con} {d : Dd} (h : Hid (Rnd w wr B p bw br bm bd own W R M xw xr C E d)) (m : Nat) (hs : (Con.at E 1).u.length + (Con.at E 1).c.length ≤ 1099511627776) :
    Calls Try.prog 16 #[.pointer (some ⟨p, 0, none⟩), .int .i64 2, .int .i64 1, .int .i64 m] wr fun x w' => x = .returned (.tuple #[.int .i64 ((Con.at E 1).u.take m).length, .int .i64 0]) ∧ ∃ own', Rnd w w' B p bw br bm bd own' W R M xw xr C (Con.put E 1 (Wy.mv (Con.at E 1) m)) d := by
  obtain ⟨hL, ⟨S, hN, h1, h2, h3⟩, hX⟩ := h.out
  refine (move_ok1 p B 2 2 m own S E wr (hid hN) h2 hL.lo hs).mono ?_
  rintro x w' ⟨rfl, own', hN', hS⟩
  exact ⟨rfl, own', hL.net hS, ⟨_, hN', by unfold Nst.set; simpa using h1, by unfold Nst.set; simp, h3⟩, hX.net hS ft_not⟩

theorem write1_1 {w wr : World} {B p bw br bm bd : Nat} {own : Nat → Nat} {W R : Nat → Bs} {M : Nat → Nat} {xw xr : Nat → Value} {C E : Con} {d : Dd} (h : Hid (Rnd w wr B p bw br bm bd own W R M xw xr C E d)) (s : Bs) (ax : Option Addr) (cx : Nat) (hs : (Con.at C 1).u.length + s.length ≤ 1099511627776) (hbt : BAt wr wr.heap.size ax s) :
    Calls Try.prog 15 #[.pointer (some ⟨p, 0, none⟩), .int .i64 1, .int .i64 1, .slice ax s.length cx] wr fun x w' => x = .returned (.int .i64 (wtE (Con.at C 1) s.length)) ∧ ∃ own', Rnd w w' B p bw br bm bd own' W R M xw xr (Con.put C 1 (Wy.wtIf (Con.at C 1) s)) E d := by
  obtain ⟨hL, ⟨S, hN, h1, h2, h3⟩, hX⟩ := h.out
  refine (write_ok1 p B 2 1 own S C s ax cx wr (hid hN) h1 hL.lo hs (hid hbt)).mono ?_
  rintro x w' ⟨rfl, own', hN', hS⟩
  exact ⟨rfl, own', hL.net hS, ⟨_, hN', by unfold Nst.set; simp, by unfold Nst.set; simpa using h2, h3⟩, hX.net hS ft_not⟩
theorem move1_1 {w wr : World} {B p bw br bm bd : Nat} {own : Nat → Nat} {W R : Nat → Bs} {M : Nat → Nat} {xw xr : Nat → Value} {C E : Con} {d : Dd} (h : Hid (Rnd w wr B p bw br bm bd own W R M xw xr C E d)) (m : Nat) (hs : (Con.at C 1).u.length + (Con.at C 1).c.length ≤ 1099511627776) :
    Calls Try.prog 16 #[.pointer (some ⟨p, 0, none⟩), .int .i64 1, .int .i64 1, .int .i64 m] wr fun x w' => x = .returned (.tuple #[.int .i64 ((Con.at C 1).u.take m).length, .int .i64 0]) ∧ ∃ own', Rnd w w' B p bw br bm bd own' W R M xw xr (Con.put C 1 (Wy.mv (Con.at C 1) m)) E d := by
  obtain ⟨hL, ⟨S, hN, h1, h2, h3⟩, hX⟩ := h.out
  refine (move_ok1 p B 2 1 m own S C wr (hid hN) h1 hL.lo hs).mono ?_
  rintro x w' ⟨rfl, own', hN', hS⟩
  exact ⟨rfl, own', hL.net hS, ⟨_, hN', by unfold Nst.set; simp, by unfold Nst.set; simpa using h2, h3⟩, hX.net hS ft_not⟩

theorem shut1_1 {w wr : World} {B p bw br bm bd : Nat} {own : Nat → Nat} {W R : Nat → Bs} {M : Nat → Nat} {xw xr : Nat → Value} {C E : Con} {d : Dd} (h : Hid (Rnd w wr B p bw br bm bd own W R M xw xr C E d)) :
    Calls Try.prog 19 #[.pointer (some ⟨p, 0, none⟩), .int .i64 1, .int .i64 1] wr fun x w' => x = .returned (.int .i64 (shE (Con.at C 1))) ∧ ∃ own', Rnd w w' B p bw br bm bd own' W R M xw xr (Con.put C 1 (Wy.sh (Con.at C 1))) E d := by
  obtain ⟨hL, ⟨S, hN, h1, h2, h3⟩, hX⟩ := h.out
  refine (shut_ok1 p B 2 1 own S C wr (hid hN) h1 hL.lo).mono ?_
  rintro x w' ⟨rfl, own', hN', hS⟩
  exact ⟨rfl, own', hL.net hS, ⟨_, hN', by unfold Nst.set; simp, by unfold Nst.set; simpa using h2, h3⟩, hX.net hS ft_not⟩
theorem read1_1 {w wr : World} {B p bw br bm bd : Nat} {own : Nat → Nat} {W R : Nat → Bs} {M : Nat → Nat} {xw xr : Nat → Value} {C E : Con} {d : Dd} (h : Hid (Rnd w wr B p bw br bm bd own W R M xw xr C E d)) (m : Nat) (hs : (Con.at C 0).c.length ≤ 1099511627776) :
    Calls Try.prog 17 #[.pointer (some ⟨p, 0, none⟩), .int .i64 1, .int .i64 1, .int .i64 m] wr fun x w' => ∃ va vc, x = .returned (.tuple #[.slice va ((Con.at C 0).c.take m).length vc, .bool (overB (Wy.rd (Con.at C 0) m)), .int .i64 0]) ∧ BAt w' w'.heap.size va ((Con.at C 0).c.take m) ∧ ∃ own', Rnd w w' B p bw br bm bd own' W R M xw xr (Con.put C 0 (Wy.rd (Con.at C 0) m)) E d := by
  obtain ⟨hL, ⟨S, hN, h1, h2, h3⟩, hX⟩ := h.out
  refine (read_ok1 p B 2 1 m own S C wr (hid hN) h1 hL.lo hs).mono ?_
  rintro x w' ⟨v, rfl, hv, own', hN', hS, hvt⟩
  obtain ⟨va, vc, rfl, -, -, hvb⟩ := hv.bat
  have hbx := hX.net hS ft_not
  refine ⟨va, vc, rfl, hvb, mine own' _, (hL.net hS).mine hvt, ⟨_, isn_mine hN' hvt, by unfold Nst.set; simp, by unfold Nst.set; simpa using h2, h3⟩, hbx.1, ?_⟩
  unfold mine
  split
  · rfl
  · exact hbx.2
theorem moveE_1 {w wr : World} {B p bw br bm bd : Nat} {own : Nat → Nat} {W R : Nat → Bs} {M : Nat → Nat} {xw xr : Nat → Value} {C E : Con} {d : Dd} (h : Hid (Rnd w wr B p bw br bm bd own W R M xw xr C E d)) (m : Int) (hm : m < 0) :
    Calls Try.prog 16 #[.pointer (some ⟨p, 0, none⟩), .int .i64 1, .int .i64 1, .int .i64 m] wr fun x w' => x = .returned (.tuple #[.int .i64 0, .int .i64 2]) ∧ ∃ own', Rnd w w' B p bw br bm bd own' W R M xw xr C E d := by
  obtain ⟨hL, ⟨S, hN, h1, h2, h3⟩, hX⟩ := h.out
  have he : atE S 1 1 m = 2 := by
    unfold atE never
    rw [h3, if_neg (by decide), if_pos (.inr hm)]
  refine (move_err p B 2 own S 1 1 m wr (hid hN) (by omega) (by omega) (by rw [he]; decide)).mono ?_
  rintro x w' ⟨rfl, own', hN', hS⟩
  exact ⟨by rw [he], own', hL.net hS, ⟨S, hN', h1, h2, h3⟩, hX.net hS ft_not⟩
theorem readE_1 {w wr : World} {B p bw br bm bd : Nat} {own : Nat → Nat} {W R : Nat → Bs} {M : Nat → Nat} {xw xr : Nat → Value} {C E : Con} {d : Dd} (h : Hid (Rnd w wr B p bw br bm bd own W R M xw xr C E d)) (m : Int) (hm : m < 0) :
    Calls Try.prog 17 #[.pointer (some ⟨p, 0, none⟩), .int .i64 1, .int .i64 1, .int .i64 m] wr fun x w' => x = .returned (.tuple #[.slice none 0 0, .bool false, .int .i64 2]) ∧ ∃ own', Rnd w w' B p bw br bm bd own' W R M xw xr C E d := by
  obtain ⟨hL, ⟨S, hN, h1, h2, h3⟩, hX⟩ := h.out
  have he : atE S 1 1 m = 2 := by
    unfold atE never
    rw [h3, if_neg (by decide), if_pos (.inr hm)]
  refine (read_err p B 2 own S 1 1 m wr (hid hN) (by omega) (by omega) (by rw [he]; decide)).mono ?_
  rintro x w' ⟨rfl, own', hN', hS⟩
  exact ⟨by rw [he], own', hL.net hS, ⟨S, hN', h1, h2, h3⟩, hX.net hS ft_not⟩

end Go.Proofs.Ytgkfiolgipgbkaa.StmT
