/- Ports opened, connections dialled. -/
import Derived.Test.YtgkfiolgipgbkaaStmK
namespace Go.Proofs.Ytgkfiolgipgbkaa.StmL
open Go.ChangeShapes Go.WideShapes Go.ChangeAt Go.RowKit Base Wri Map FrmP FrmA StmA StmB StmC StmD StmE StmF VaiA StmG StmH StmI StmJ StmK
set_option linter.unusedVariables false
set_option linter.unusedSimpArgs false

theorem net_listen {W W' : World} {B p nc mo mc : Nat} {own : Nat → Nat} {S : Nst} {vd : Value} {K : Nat → Nat} {op : Int → Bool} (h : NetAt W B own p S nc mo mc vd K) (hp : PMap W' mo op) (hw : Wr (fun g => g = mo) W W') :
    NetAt W' B (later own W.heap.size 4) p ⟨op, S.di, S.co⟩ nc mo mc vd K ∧ Stp W W' own (later own W.heap.size 4) NetR := by
  have hk : ∀ g, g < W.heap.size → g ≠ mo → W'.heap[g]? = W.heap[g]? := fun g hg hn => hw.block g hg hn
  have hd : ∀ g, vd.ownBlock = some g → g < W.heap.size ∧ g ≠ mo := fun g e => ⟨(h.row.lt g e).2, fun e2 => by have h1 := h.td g e; rw [e2, h.to_] at h1; cases h1⟩
  have hpn : p ≠ mo := fun e => by have h1 := h.tp; rw [e, h.to_] at h1; cases h1
  have hmn : mc ≠ mo := fun e => by have h1 := h.tm; rw [e, h.to_] at h1; cases h1
  refine ⟨⟨(hk p h.pos hpn).trans h.blk, hp, owns_keep h.row (fun g e => hk g (hd g e).1 (hd g e).2), h.cm.of_block (hk mc h.cm.lt hmn), fun j C hj => ?_, by rw [later_old h.pos, h.tp], by rw [later_old h.pm.lt, h.to_], fun g e => by rw [later_old (hd g e).1, h.td g e], by rw [later_old h.cm.lt, h.tm], h.len, h.low⟩, ⟨hw.mono (fun g e => by subst e; rw [h.to_]; unfold NetR; omega), fun g hg => later_old hg⟩⟩
  obtain ⟨j1, j2, j3⟩ := h.con j C hj
  exact ⟨j1, j2, j3.keep (fun g hg h1 h2 => ⟨hk g hg (fun e => by subst e; rw [h.to_] at h1; omega), later_old hg⟩)⟩

set_option maxRecDepth 20000 in
set_option maxHeartbeats 1000000 in
theorem Listen_any (p B nc : Nat) (own : Nat → Nat) (S : Nst) (a : Option Addr) (cap : Nat) (ss : List Int) (w : World) (h : Hid (IsNet w B own p S nc)) (hss : ss.length ≤ 9223372036854775807) (HA : Hid (NAt w w.heap.size a ss)) (hno : ∀ g o, a = some ⟨g, o, none⟩ → own g ≠ 1) :
    Calls Try.prog 13 #[.pointer (some ⟨p, 0, none⟩), .slice a ss.length cap] w fun x w' => x = .returned (.int .i64 (portE ss)) ∧ ∃ own', IsNet w' B own' p (if portE ss = 0 then ⟨fun j => S.op j || ss.contains j, S.di, S.co⟩ else S) nc ∧ Stp w w' own own' NetR := by
  obtain ⟨mo, mc, vd, K, hN⟩ := h.out
  obtain ⟨a1, c1, rfl, x0, x1, x2⟩ := net_cells hN
  have HR := hid (refuses_any p a cap ss w hss HA)
  cases hany : ss.any noPort with
  | true =>
    have hE : portE ss = 2 := by unfold portE; rw [hany]; rfl
    rw [hE] at HR ⊢
    rw [if_neg (by decide)]
    have HH : Hid (IsNet w B own p S nc) := h
    clear x0 x1 x2 hany hE hno
    go_enter Try.func13, Try.ntmps13
    go_wp2_with (go_at_call 47; refine HR.out.mono ?_; rintro x w1 ⟨rfl, rfl⟩)
    go_ret
    exact ⟨rfl, own, HH.out, Stp.same _ _ _⟩
  | false =>
    have hE : portE ss = 0 := by unfold portE; rw [hany]; rfl
    have hok : ∀ x ∈ ss, noPort x = false := fun x hx => by
      have := List.any_eq_false.1 hany x hx
      simpa using this
    have HL := hid (listen_any mo S.op a cap ss w hss HA hN.pm (hid hok) (hid (fun g o e e2 => hno g o e (by rw [e2]; exact hN.to_))))
    rw [hE] at HR ⊢
    simp only [if_true]
    have HN := hid hN
    clear hany hE hno hok hN x1 x2
    go_enter Try.func13, Try.ntmps13
    go_wp2_with (first
      | (go_at_call 47; refine HR.out.mono ?_; rintro x w1 ⟨rfl, rfl⟩)
      | (go_at_call 48; refine HL.out.mono ?_; rintro x w2 ⟨rfl, q1, q2⟩; have HQ := hid (And.intro q1 q2); clear q1 q2))
    go_ret
    obtain ⟨g1, g2⟩ := net_listen HN.out HQ.out.1 HQ.out.2
    exact ⟨rfl, _, ⟨mo, mc, _, K, g1⟩, g2⟩

theorem infoI : (Try.prog.info? 3).map (fun i => (i.zero, i.size, i.bytes)) = some (some (.int .i64 0), 1, 8) := by kernel_rfl

def Nst.dial (S : Nst) (port : Int) : Nst := ⟨S.op, S.di ++ [port], fun i => if i = S.di.length + 1 then some con0 else S.co i⟩

theorem cmap_put {W : World} {mc n j k : Nat} {K : Nat → Nat} {co : Nat → Option Con} {C : Con} (hj : j ≤ 1099511627777) (hn : co j = none) (h : CMap W mc K co n) :
    ∃ w', (Instr.mapUpdate 60 (.map (some mc)) (.int .i64 (j : Nat)) (.pointer (some ⟨k, 0, none⟩))).run Try.prog W = .ok () w' ∧ CMap w' mc (fun i => if i = j then k else K i) (fun i => if i = j then some C else co i) (n + 1) ∧ Wr (fun g => g = mc) W w' := by
  obtain ⟨F, hF, hF2⟩ := h
  obtain ⟨w', hr, hm, hw⟩ := hF.store keyedI Try.underlying60 (val := .pointer (some ⟨k, 0, none⟩)) (keyI (i := (j : Int)) (by omega) (by omega))
  have h0 := hF2 (j : Int)
  rw [if_pos (by omega), Int.toNat_natCast, hn] at h0
  rw [h0] at hm
  refine ⟨w', hr, ⟨_, hm, fun i => ?_⟩, hw⟩
  by_cases e : i = (j : Int)
  · subst e
    rw [put_same, if_pos (by omega), Int.toNat_natCast]
    simp
  · rw [put_other (by intro e2; cases e2; exact e rfl), hF2 i]
    by_cases hi : 0 ≤ i
    · rw [if_pos hi, if_pos hi]
      have : ¬ i.toNat = j := by omega
      simp [this]
    · rw [if_neg hi, if_neg hi]

theorem net_dial {w2 w4 W7 : World} {B p nc mo mc : Nat} {own : Nat → Nat} {S : Nst} {v v4 : Value} {K : Nat → Nat} {port : Int} {o : Obj} (h : NetAt w2 B own p S nc mo mc v K) (hB : B ≤ w2.heap.size) (hlen : S.di.length < 1099511627776)
    (h4 : w4.ownsRow B 3 1 v4 (S.di.length + 1) (S.di.map encI ++ [.int .i64 port])) (hg : (w2.alloc o).grownBy w4 v.ownBlock) (hat : v4.ownBlock = v.ownBlock ∨ v4.ownBlock = some (w2.heap.size + 1))
    (hm : CMap W7 mc (fun i => if i = S.di.length + 1 then w4.heap.size else K i) (fun i => if i = S.di.length + 1 then some con0 else S.co i) (nc + 1))
    (hw : Wr (fun g => g = mc) ((w4.setCell ⟨p, 1, none⟩ v4).alloc (.cells #[.slice none 0 0, .slice none 0 0, .bool false, .slice none 0 0, .slice none 0 0, .bool false] 80)) W7) :
    ∃ own', NetAt W7 B own' p (Nst.dial S port) (nc + 1) mo mc v4 (fun i => if i = S.di.length + 1 then w4.heap.size else K i) ∧ Stp w2 W7 own own' NetR := by
  have hs4 : w2.heap.size + 1 ≤ w4.heap.size := by have := hg.size; simpa using this
  have hv : ∀ g, v.ownBlock = some g → g < w2.heap.size ∧ own g = 2 := fun g e => ⟨(h.row.lt g e).2, h.td g e⟩
  have h4b : ∀ g, g < w2.heap.size → v.ownBlock ≠ some g → w4.heap[g]? = w2.heap[g]? := fun g h1 h2 => (hg.block g (by simp; omega) (fun e => h2 e.symm)).trans (heap_alloc_old w2 o h1)
  have hpv : v.ownBlock ≠ some p := fun e => by have h1 := (hv p e).2; rw [h.tp] at h1; cases h1
  have hmv : v.ownBlock ≠ some mc := fun e => by have h1 := (hv mc e).2; rw [h.tm] at h1; cases h1
  have hov : v.ownBlock ≠ some mo := fun e => by have h1 := (hv mo e).2; rw [h.to_] at h1; cases h1
  have hpm : p ≠ mc := fun e => by have h1 := h.tp; rw [e, h.tm] at h1; cases h1
  have hom : mo ≠ mc := fun e => by have h1 := h.to_; rw [e, h.tm] at h1; cases h1
  have hop : mo ≠ p := fun e => by have h1 := h.to_; rw [e, h.tp] at h1; cases h1
  have h7 : ∀ g, g < w4.heap.size → g ≠ mc → g ≠ p → W7.heap[g]? = w4.heap[g]? := fun g h1 h2 h3 => (hw.block g (by simp; omega) h2).trans ((heap_alloc_old _ _ (by simpa using h1)).trans (Below.heap_setCell _ _ _ _ h3))
  have hk : ∀ g, g < w2.heap.size → g ≠ mc → g ≠ p → v.ownBlock ≠ some g → W7.heap[g]? = w2.heap[g]? := fun g h1 h2 h3 h5 => (h7 g (by omega) h2 h3).trans (h4b g h1 h5)
  have hpw : W7.heap[p]? = some (.cells #[.map (some mo), v4, .map (some mc)] 62 (0, 0)) := by
    have h1 := h.pos
    refine (hw.block p (by simp; omega) hpm).trans ((heap_alloc_old _ _ (by simp; omega)).trans ?_)
    have := blk_set (i := 1) ((h4b p h1 hpv).trans h.blk) v4
    simpa using this
  have hn4 : ∀ g, v4.ownBlock = some g → g < w4.heap.size ∧ g ≠ mc ∧ g ≠ p ∧ (g < w2.heap.size → own g = 2) := fun g e => by
    have h1 := (h4.lt g e).2
    rcases hat with h2 | h2
    · rw [h2] at e
      have h3 := hv g e
      exact ⟨h1, fun e2 => hmv (e2 ▸ e), fun e2 => hpv (e2 ▸ e), fun _ => h3.2⟩
    · rw [h2] at e
      cases e
      have := h.pos
      have := h.cm.lt
      exact ⟨h1, by omega, by omega, fun _ => by omega⟩
  have hck : W7.heap[w4.heap.size]? = some (.cells #[.slice none 0 0, .slice none 0 0, .bool false, .slice none 0 0, .slice none 0 0, .bool false] 80 (0, 0)) := by
    have := h.cm.lt
    refine (hw.block w4.heap.size (by simp) (by omega)).trans ?_
    have := heap_alloc_new (w4.setCell ⟨p, 1, none⟩ v4) (.cells #[.slice none 0 0, .slice none 0 0, .bool false, .slice none 0 0, .slice none 0 0, .bool false] 80)
    simpa using this
  refine ⟨fun g => if g < w2.heap.size then own g else if g = w4.heap.size then 5 + 5 * (S.di.length + 1) else if v4.ownBlock = some g then 2 else 4, ⟨hpw, h.pm.of_block (hk mo h.pm.lt hom hop hov), ?_, hm, fun j C hj => ?_, ?_, ?_, fun g e => ?_, ?_, ?_, h.low⟩, ⟨⟨?_, ?_, ?_, ?_, fun g hg hn => ?_⟩, fun g hg => if_pos hg⟩⟩
  · show W7.ownsRow B _ 1 v4 (S.di ++ [port]).length ((S.di ++ [port]).map encI)
    rw [List.length_append, List.map_append]
    exact owns_keep h4 (fun g e => h7 g (hn4 g e).1 (hn4 g e).2.1 (hn4 g e).2.2.1)
  · have hj : (if j = S.di.length + 1 then some con0 else S.co j) = some C := hj
    have hln : (Nst.dial S port).di.length = S.di.length + 1 := by unfold Nst.dial; simp
    rw [hln]
    by_cases e : j = S.di.length + 1
    · rw [if_pos e] at hj
      cases hj
      subst e
      refine ⟨by omega, Nat.le_refl _, ?_⟩
      rw [if_pos rfl]
      refine ⟨_, .slice none 0 0, .slice none 0 0, .slice none 0 0, .slice none 0 0, hck, ?_, by omega, ⟨rfl, rfl, rfl, Que.nil _ _, Que.nil _ _, fun g e => (by cases e), fun g e => (by cases e)⟩, ⟨rfl, rfl, rfl, Que.nil _ _, Que.nil _ _, fun g e => (by cases e), fun g e => (by cases e)⟩⟩
      show (if w4.heap.size < w2.heap.size then _ else _) = _
      rw [if_neg (by omega), if_pos rfl]
    · rw [if_neg e] at hj
      obtain ⟨j1, j2, j3⟩ := h.con j C hj
      refine ⟨j1, by omega, ?_⟩
      rw [if_neg e]
      refine j3.keep (fun g hg h1 h2 => ⟨hk g hg (fun e => by subst e; rw [h.tm] at h1; omega) (fun e => by subst e; rw [h.tp] at h1; omega) (fun e => by have := (hv g e).2; omega), if_pos hg⟩)
  · show (if p < w2.heap.size then _ else _) = 0
    rw [if_pos h.pos, h.tp]
  · show (if mo < w2.heap.size then _ else _) = 1
    rw [if_pos h.pm.lt, h.to_]
  · show (if g < w2.heap.size then _ else _) = 2
    have h1 := hn4 g e
    by_cases e2 : g < w2.heap.size
    · rw [if_pos e2, h1.2.2.2 e2]
    · rw [if_neg e2, if_neg (by omega), if_pos e]
  · show (if mc < w2.heap.size then _ else _) = 3
    rw [if_pos h.cm.lt, h.tm]
  · show (S.di ++ [port]).length ≤ _
    rw [List.length_append]
    show S.di.length + 1 ≤ _
    omega
  · exact hw.os.trans hg.os
  · exact hw.tape.trans hg.tape
  · exact hw.output.trans hg.output
  · have h1 := hw.size
    simp at h1
    omega
  · refine hk g hg (fun e => ?_) (fun e => ?_) (fun e => ?_)
    · subst e; rw [h.tm] at hn; exact hn (by unfold NetR; omega)
    · subst e; rw [h.tp] at hn; exact hn (by unfold NetR; omega)
    · rw [(hv g e).2] at hn; exact hn (by unfold NetR; omega)

theorem single_at (w : World) (x : Int) : NAt (w.alloc (.cells #[.int .i64 x] 3)) (w.alloc (.cells #[.int .i64 x] 3)).heap.size (some ⟨w.heap.size, 0, none⟩) [x] := fun _ => ⟨w.heap.size, 0, rfl, by simp, fun i y hy => by
  match i, hy with
  | 0, hy =>
    obtain rfl : x = y := by simpa using hy
    exact alloc_cell w _ _
  | i + 1, hy => simp at hy⟩

set_option maxRecDepth 20000 in
set_option maxHeartbeats 1000000 in
theorem dial_down (p B nc : Nat) (own : Nat → Nat) (S : Nst) (port : Int) (w : World) (h : Hid (IsNet w B own p S nc)) (hp : noPort port = false) (hop : S.op port = false) :
    Calls Try.prog 14 #[.pointer (some ⟨p, 0, none⟩), .int .i64 port] w fun x w' => x = .returned (.tuple #[.int .i64 0, .int .i64 51]) ∧ ∃ own', IsNet w' B own' p S nc ∧ Stp w w' own own' NetR := by
  obtain ⟨mo, mc, vd, K, hN⟩ := h.out
  have hpb : 1 ≤ port ∧ port ≤ 65535 := by unfold noPort at hp; simp at hp; omega
  have hb1 := bel_alloc w (.cells #[.int .i64 port] 3)
  obtain ⟨hN1, hS1⟩ := net_alloc hN hb1
  obtain ⟨a1, c1, rfl, x0, x1, x2⟩ := net_cells hN1
  have HR := hid (refuses_any p (some ⟨w.heap.size, 0, none⟩) 1 [port] _ (by simp) (hid (single_at w port)))
  rw [show portE [port] = 0 by unfold portE; simp [hp], show [port].length = 1 from rfl] at HR
  have HO := hid (isOpen_any mo S.op port _ (by omega) (by omega) hN1.pm)
  rw [hop] at HO
  have HK := hid (And.intro hN1 hS1)
  clear hN hpb hb1 hN1 hS1 x1 x2 hp hop
  generalize hW : w.alloc (.cells #[.int .i64 port] 3) = W at *
  have HW := hid hW
  clear hW
  go_enter Try.func14, Try.ntmps14
  go_wp2_with fail
  rw [HW.out]
  refine HR.out.mono ?_
  rintro x w1 ⟨rfl, rfl⟩
  clear HR
  go_wp2_with (go_at_call 49
               refine HO.out.mono ?_
               rintro x w2 ⟨rfl, hb⟩
               have HB := hid hb
               clear hb)
  go_ret2
  refine ⟨rfl, _, ⟨mo, mc, _, K, (net_alloc HK.out.1 HB.out).1⟩, HK.out.2.trans (net_alloc HK.out.1 HB.out).2⟩

set_option maxRecDepth 20000 in
set_option maxHeartbeats 2000000 in
theorem dial_ok (p B nc : Nat) (own : Nat → Nat) (S : Nst) (port : Int) (w : World) (h : Hid (IsNet w B own p S nc)) (hp : noPort port = false) (hop : S.op port = true) (hnc : nc < 64) (hB : B ≤ w.heap.size) (hlen : S.di.length < 1099511627776) :
    Calls Try.prog 14 #[.pointer (some ⟨p, 0, none⟩), .int .i64 port] w fun x w' => x = .returned (.tuple #[.int .i64 ((S.di.length + 1 : Nat) : Int), .int .i64 0]) ∧ ∃ own', IsNet w' B own' p (Nst.dial S port) (nc + 1) ∧ Stp w w' own own' NetR := by
  obtain ⟨i0, hi, hz0, hz1, hz2⟩ := info_parts infoI
  obtain ⟨mo, mc, vd, K, hN⟩ := h.out
  have hpb : 1 ≤ port ∧ port ≤ 65535 := by unfold noPort at hp; simp at hp; omega
  have hb1 := bel_alloc w (.cells #[.int .i64 port] 3)
  obtain ⟨hN1, hS1⟩ := net_alloc hN hb1
  obtain ⟨a1, c1, rfl, x0, x1, x2⟩ := net_cells hN1
  have HR := hid (refuses_any p (some ⟨w.heap.size, 0, none⟩) 1 [port] _ (by simp) (hid (single_at w port)))
  rw [show portE [port] = 0 by unfold portE; simp [hp], show [port].length = 1 from rfl] at HR
  have HO := hid (isOpen_any mo S.op port _ (by omega) (by omega) hN1.pm)
  rw [hop] at HO
  have hBW := Nat.le_trans hB hb1.size
  have HK := hid (And.intro hN1 (And.intro hS1 (And.intro hBW hlen)))
  generalize later own w.heap.size 4 = own1 at *
  clear hN hpb hb1 hN1 hS1 x1 x2 hp hop hB hBW
  generalize hW : w.alloc (.cells #[.int .i64 port] 3) = W at *
  have HW := hid hW
  clear hW
  go_enter Try.func14, Try.ntmps14
  go_wp2_with fail
  rw [HW.out]
  refine HR.out.mono ?_
  rintro x w1 ⟨rfl, rfl⟩
  clear HR
  go_wp2_with fail
  refine HO.out.mono ?_
  rintro x w2 ⟨rfl, hb2⟩
  obtain ⟨hN2, hS2⟩ := net_alloc HK.out.1 hb2
  obtain ⟨a2, c2, e2, y0, y1, y2⟩ := net_cells hN2
  have hln : (Builtin.len_ #[60] 3 #[.map (some mc)]).run Try.prog w2 = .ok (.int .i64 nc) w2 := by
    obtain ⟨F, hF, -⟩ := hN2.cm
    exact hF.len Try.underlying60 _
  have hb3 := bel_alloc w2 (.cells #[.int .i64 port] 3)
  have hown3 : (w2.alloc (.cells #[.int .i64 port] 3)).ownsRow B 3 1 (.slice a2 S.di.length c2) S.di.length (S.di.map encI) := World.ownsRow.alloc (by rw [← e2]; exact hN2.row) _
  have z1 : (w2.alloc (.cells #[.int .i64 port] 3)).cell? ⟨p, 1, none⟩ = some (.slice a2 S.di.length c2) := (hb3.cell (p := ⟨p, 1, none⟩) hN2.pos).trans y1
  cases e2
  have HB := hid (And.intro hown3 (And.intro hN2 (And.intro hS2 (And.intro hb2 hb3))))
  clear hN2 hS2 hb2 hb3 hown3 HO x0
  go_wp2_with (at_builtin
               go_loud (refine wpList_append_own_at _ rfl _ _ 31 rfl B 3 i0 (.int .i64 0) 1 8 Try.underlying31 hi hz0 hz1 hz2 rfl (by decide) (Value.slice a1 S.di.length c1) S.di.length (S.di.map encI) rfl HB.out.1 ⟨w2.heap.size, 0, none⟩ 1 1 [.int .i64 port] rfl rfl (cell_one_new w2 _ _) (by intro u hu; obtain rfl := List.mem_singleton.1 hu; rfl) (by have := HK.out.2.2.2; unfold maxLen; omega) (by have := HK.out.2.2.2; omega) (by have := HK.out.2.2.1; have := HB.out.2.2.2.1.size; simp; omega) ?_)
               intro v4 w4 hown4 hgr4 hnil4 hat4
               obtain ⟨va, vc, rfl⟩ := owns_shape hown4
               have hN2 := HB.out.2.1
               have hvp : (Value.slice a1 S.di.length c1).ownBlock ≠ some p := fun e => by have h1 := hN2.td p e; rw [hN2.tp] at h1; cases h1
               have hvm : (Value.slice a1 S.di.length c1).ownBlock ≠ some mc := fun e => by have h1 := hN2.td mc e; rw [hN2.tm] at h1; cases h1
               have hpm : p ≠ mc := fun e => by have h1 := hN2.tp; rw [e, hN2.tm] at h1; cases h1
               have hb4 : w4.heap[p]? = some (.cells #[.map (some mo), .slice a1 S.di.length c1, .map (some mc)] 62 (0, 0)) := (hgr4.block p (by have := hN2.pos; simp; omega) (fun e => hvp e.symm)).trans ((heap_alloc_old w2 _ hN2.pos).trans hN2.blk)
               have q1 : w4.cell? ⟨p, 1, none⟩ = some (.slice a1 S.di.length c1) := blk_cell hb4 rfl
               have q2 : w4.cell? ⟨p, 2, none⟩ = some (.map (some mc)) := blk_cell hb4 rfl
               have g1 : w4.frozen? ⟨p, 1, none⟩ = false := blk_frozen hb4
               have hmc4 : CMap ((w4.setCell ⟨p, 1, none⟩ (.slice va (S.di.length + 1) vc)).alloc (.cells #[.slice none 0 0, .slice none 0 0, .bool false, .slice none 0 0, .slice none 0 0, .bool false] 80)) mc K S.co nc :=
                 hN2.cm.of_block ((heap_alloc_old _ _ (by have h1 := hN2.cm.lt; have h2 := hgr4.size; simp at h2; simp; omega)).trans ((Below.heap_setCell _ _ _ _ (fun e => hpm e.symm)).trans ((hgr4.block mc (by have := hN2.cm.lt; simp; omega) (fun e => hvm e.symm)).trans (heap_alloc_old w2 _ hN2.cm.lt))))
               have hnone : S.co (S.di.length + 1) = none := by
                 cases hc : S.co (S.di.length + 1) with
                 | none => rfl
                 | some C => have := (hN2.con _ C hc).2.1; omega
               obtain ⟨w7, hst, hm7, hw7⟩ := cmap_put (k := w4.heap.size) (C := con0) (by have := HK.out.2.2.2; omega) hnone hmc4
               rw [show ((S.di.length + 1 : Nat) : Int) = (S.di.length : Int) + 1 by omega] at hst
               have H4 := hid (And.intro hown4 (And.intro hgr4 (And.intro hat4 (And.intro hm7 hw7))))
               have hsz4 : (w4.setCell ⟨p, 1, none⟩ (.slice va (S.di.length + 1) vc)).heap.size = w4.heap.size := by simp
               clear hown4 hgr4 hnil4 hat4 hm7 hw7 hN2 hvp hvm hpm hb4 hmc4 hnone)
  go_ret2
  obtain ⟨h1, h2, h3, h4, h5⟩ := HB.out
  obtain ⟨k1, k2, k3, k4⟩ := HK.out
  obtain ⟨g1, g2, g3, g4, g5⟩ := H4.out
  obtain ⟨own', n1, n2⟩ := net_dial h2 (Nat.le_trans k3 h4.size) k4 g1 g2 (by simpa using g3) g4 g5
  exact ⟨rfl, own', ⟨mo, mc, _, _, n1⟩, k2.trans (h3.trans n2)⟩

end Go.Proofs.Ytgkfiolgipgbkaa.StmL
