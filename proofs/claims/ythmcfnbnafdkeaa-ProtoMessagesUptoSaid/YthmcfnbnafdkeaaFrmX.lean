/- Frames made; a reader's Fork and Reset. -/
import Derived.Test.YthmcfnbnafdkeaaFrmS
namespace Go.Proofs.Ythmcfnbnafdkeaa.FrmX
open Go.ChangeShapes Go.WideShapes Go.ChangeAt Go.RowKit Base Wri FrmP FrmA FrmB FrmC FrmD FrmE FrmF FrmQ FrmR FrmS
set_option linter.unusedVariables false
set_option linter.unusedSimpArgs false

/-- lists of bytes that lie in a list -/
def PAt (w : World) (n0 : Nat) (a : Option Addr) (ls : List Bs) (f : Nat → Option Addr × Nat) : Prop :=
  0 < ls.length → ∃ g o, a = some ⟨g, o, none⟩ ∧ g < n0 ∧ ∀ i q, ls[i]? = some q → w.cell? ⟨g, o + i, none⟩ = some (.slice (f i).1 q.length (f i).2) ∧ BAt w n0 (f i).1 q ∧ q.length ≤ (f i).2 ∧ (f i).2 ≤ 9223372036854775807

theorem PAt.below {w w' : World} {n0 : Nat} {a : Option Addr} {ls : List Bs} {f : Nat → Option Addr × Nat} (h : PAt w n0 a ls f) (hb : Below n0 w w') : PAt w' n0 a ls f := fun h0 => by
  obtain ⟨g, o, ha, hg, hc⟩ := h h0
  refine ⟨g, o, ha, hg, fun i q hq => ?_⟩
  obtain ⟨h1, h2, h3, h4⟩ := hc i q hq
  exact ⟨(hb.cell (p := ⟨g, o + i, none⟩) hg).trans h1, h2.below hb, h3, h4⟩

def firstErr : List Bs → Int
  | [] => 0
  | q :: r => if q.length > 4096 then 5 else if q.length = 0 then 6 else firstErr r
theorem firstErr_ok {l : List Bs} (h : ∀ q ∈ l, Right q) (r : List Bs) : firstErr (l ++ r) = firstErr r := by
  induction l with
  | nil => rfl
  | cons q l ih =>
    have := h q List.mem_cons_self
    unfold Right at this
    show (if q.length > 4096 then 5 else if q.length = 0 then 6 else firstErr (l ++ r)) = _
    rw [if_neg (by omega), if_neg (by omega), ih fun q hq => h q (List.mem_cons_of_mem _ hq)]
theorem firstErr_long {q : Bs} (h : q.length > 4096) (r : List Bs) : firstErr (q :: r) = 5 := by
  show (if q.length > 4096 then (5 : Int) else _) = 5
  rw [if_pos h]
theorem firstErr_zero {q : Bs} (h : q.length = 0) (r : List Bs) : firstErr (q :: r) = 6 := by
  show (if q.length > 4096 then (5 : Int) else if q.length = 0 then 6 else firstErr r) = 6
  rw [if_neg (by omega), if_pos h]

theorem take_snoc {ls : List Bs} {k : Nat} {q : Bs} (h : ls[k]? = some q) : ls.take (k + 1) = ls.take k ++ [q] := by rw [List.take_add_one, h]; rfl
theorem split_at {ls : List Bs} {k : Nat} {q : Bs} (h : ls[k]? = some q) : ls = ls.take k ++ (q :: ls.drop (k + 1)) := by
  have hk := (List.getElem?_eq_some_iff.1 h)
  obtain ⟨h1, h2⟩ := hk
  rw [← h2, List.getElem_cons_drop, List.take_append_drop]
theorem place_take (ls : List Bs) (k : Nat) : (frames (ls.take k)).length ≤ (frames ls).length := by
  have : frames ls = frames (ls.take k) ++ frames (ls.drop k) := by unfold frames; rw [← List.flatMap_append, List.take_append_drop]
  rw [this, List.length_append]; omega

set_option maxRecDepth 20000 in
set_option maxHeartbeats 1000000 in
theorem headOf_any (n : Nat) (hn : n ≤ 4096) (w : World) : Calls Try.prog 83 #[.int .i64 n] w fun e w' => e = .returned (.slice (some ⟨w.heap.size, 0, none⟩) 4 4) ∧
    w.alloc (.cells #[.int .u8 0, .int .u8 0, .int .u8 ((n / 256 : Nat) : Int), .int .u8 ((n % 256 : Nat) : Int)] 5) = w' := by
  go_enter Try.func83, Try.ntmps83
  go_wp2_with fail
  go_ret
  have e1 : (n : Int) / 16777216 = 0 := by omega
  have e2 : (n : Int) / 65536 = 0 := by omega
  have e3 : (n : Int) / 256 = ((n / 256 : Nat) : Int) := by omega
  have e4 : (n : Int) % 256 = ((n % 256 : Nat) : Int) := by omega
  exact ⟨rfl, by rw [e1, e2, e3, e4]⟩

/-- the four bytes of a length -/
def head4 (n : Nat) : Bs := [0, 0, UInt8.ofNat (n / 256), UInt8.ofNat n]
theorem frame_eq (q : Bs) : frame q = head4 q.length ++ q := rfl
theorem head4_bv (n : Nat) (hn : n ≤ 4096) : (head4 n).map bv = [.int .u8 0, .int .u8 0, .int .u8 ((n / 256 : Nat) : Int), .int .u8 ((n % 256 : Nat) : Int)] := by
  unfold head4 bv
  simp
  omega

theorem head_news (w : World) (n : Nat) (hn : n ≤ 4096) (wx : World) (hx : Below (w.heap.size + 1) (w.alloc (.cells #[.int .u8 0, .int .u8 0, .int .u8 ((n / 256 : Nat) : Int), .int .u8 ((n % 256 : Nat) : Int)] 5)) wx) :
    ∀ j u, ((head4 n).map bv)[j]? = some u → wx.cell? ((⟨w.heap.size, 0, none⟩ : Addr).add j) = some u := by
  intro j u hu
  rw [Go.WideShapes.add_plain, hx.cell (p := ⟨w.heap.size, 0 + j, none⟩) (by show w.heap.size < w.heap.size + 1; omega)]
  rw [head4_bv n hn] at hu
  unfold World.cell?
  rw [heap_alloc_new]
  simpa using hu

set_option maxRecDepth 20000 in
set_option maxHeartbeats 1000000 in
/-- one frame more, appended to those made -/
theorem frames_any (a : Option Addr) (cap : Nat) (ls : List Bs) (f : Nat → Option Addr × Nat) (w : World) (hn : ls.length ≤ 1099511627776) (hsz : (frames ls).length ≤ 1099511627776) (HP : Hid (PAt w w.heap.size a ls f)) :
    Calls Try.prog 65 #[.slice a ls.length cap] w fun e w' => (∃ v, e = .returned (.tuple #[v, .int .i64 (firstErr ls)]) ∧ (firstErr ls = 0 → (∀ q ∈ ls, Right q) ∧ w'.ownsRow w.heap.size 5 1 v (frames ls).length ((frames ls).map bv)) ∧ (firstErr ls ≠ 0 → v = .slice none 0 0)) ∧ Below w.heap.size w w' := by
  obtain ⟨i0, hi, hz0, hz1, hz2⟩ := info_parts infoU8
  obtain ⟨n, hln⟩ : ∃ n, ls.length = n := ⟨_, rfl⟩
  have HL := hid hln
  rw [hln] at hn ⊢
  clear hln
  go_enter Try.func65, Try.ntmps65
  go_wp2_with fail
  go_loopw [4, 10] (fun v i wr => ∃ k : Nat, k ≤ n ∧ i = .int .i64 k ∧ (∀ q ∈ ls.take k, Right q) ∧ wr.ownsRow w.heap.size 5 1 v (frames (ls.take k)).length ((frames (ls.take k)).map bv) ∧ Below w.heap.size w wr) (fun _ i _ => n - (intOf i).toNat)
  case atStart => exact ⟨0, Nat.zero_le _, rfl, (fun q hq => by simp at hq), World.ownsRow_nil _ _ _ _, Below.refl _ _⟩
  case round =>
    obtain ⟨k, hk, rfl, hr, hown, hb⟩ := hrel
    have HR := hid hr
    have HO := hid hown
    have HB := hid hb
    clear hr hown hb
    by_cases hlt : k < n
    · obtain ⟨g, o, rfl, hg, hc⟩ := HP.out (by rw [HL.out]; omega)
      obtain ⟨q, hq⟩ : ∃ q, ls[k]? = some q := ⟨ls[k]'(by rw [HL.out]; exact hlt), List.getElem?_eq_getElem _⟩
      obtain ⟨h1, h2, h3, h4⟩ := hc k q hq
      have HQ := hid hq
      have HBQ := hid h2
      have x0 : wr.cell? ⟨g, o + k, none⟩ = some (.slice (f k).1 q.length (f k).2) := (HB.out.cell (p := ⟨g, o + k, none⟩) hg).trans h1
      have HX : Hid (firstErr ls = firstErr (q :: ls.drop (k + 1))) := hid (by conv => lhs; rw [split_at hq, firstErr_ok HR.out])
      obtain ⟨L, hL⟩ : ∃ L, q.length = L := ⟨_, rfl⟩
      rw [hL] at x0 h3
      have HQL := hid hL
      clear h1 h2 hc hq hL
      by_cases hlong : 4096 < L
      · have HE : Hid (firstErr ls = 5) := hid (by rw [HX.out, firstErr_long (by rw [HQL.out]; exact hlong)])
        go_wp2_with fail
        go_ret2
        exact ⟨⟨_, by rw [HE.out]; rfl, fun h => by rw [HE.out] at h; exact absurd h (by decide), fun _ => rfl⟩, HB.out⟩
      · by_cases hzero : L = 0
        · have HE : Hid (firstErr ls = 6) := hid (by rw [HX.out, firstErr_zero (by rw [HQL.out]; exact hzero)])
          subst hzero
          go_wp2_with fail
          go_ret2
          exact ⟨⟨_, by rw [HE.out]; rfl, fun h => by rw [HE.out] at h; exact absurd h (by decide), fun _ => rfl⟩, HB.out⟩
        · obtain ⟨gq, oq, hfk, hgq, hcq⟩ := HBQ.out (by rw [HQL.out]; omega)
          rw [hfk] at x0
          have HCQ := hid hcq
          have HTS : Hid (frames (ls.take (k + 1)) = frames (ls.take k) ++ (head4 L ++ q)) := hid (by rw [take_snoc HQ.out, frames_snoc, frame_eq, HQL.out])
          have hszk := place_take ls (k + 1)
          rw [HTS.out] at hszk
          simp only [List.length_append] at hszk
          rw [HQL.out] at hszk
          have hh4 : (head4 L).length = 4 := rfl
          rw [hh4] at hszk
          obtain ⟨F, hF⟩ : ∃ F, frames (ls.take k) = F := ⟨_, rfl⟩
          rw [hF] at HO hszk
          have HFF := hid hF
          have hgw := HB.out.size
          clear hcq hfk hF h4 hh4
          go_wp2_with (first
            | (go_at_call 83
               refine (headOf_any L (by omega) wr).mono ?_
               rintro e w3 ⟨rfl, hw3⟩
               have hb3 : Below wr.heap.size wr w3 := by rw [← hw3]; exact (Below.refl _ _).alloc (Nat.le_refl _) _
               have hn3 : ∀ j u, ((head4 L).map bv)[j]? = some u → w3.cell? ((⟨wr.heap.size, 0, none⟩ : Addr).add j) = some u := head_news wr L (by omega) w3 (by rw [← hw3]; exact Below.refl _ _)
               have hs3 : w3.heap.size = wr.heap.size + 1 := by rw [← hw3]; simp
               have ho3 := owns_keep HO.out (fun g e => hb3.block g (HO.out.lt g e).2)
               have H3 := hid (And.intro hb3 (And.intro hn3 ho3))
               clear hw3 hb3 hn3 ho3)
            | (at_builtin
               refine wpList_append_own_at _ rfl _ _ 28 rfl w.heap.size 5 i0 (.int .u8 0) 1 1 Try.underlying28 hi hz0 hz1 hz2 rfl (by decide) _ F.length (F.map bv) rfl H3.out.2.2 ⟨wr.heap.size, 0, none⟩ 4 4 ((head4 L).map bv) rfl rfl H3.out.2.1 (one_cells _) (by unfold maxLen; omega) (by omega) (Nat.le_trans hgw H3.out.1.size) ?_
               intro v4 w4 hown4 hgrow4 _ hat4
               have hb4 : Below w.heap.size w w4 := Below.grown (HB.out.trans (H3.out.1.mono hgw)) hgrow4 (Nat.le_trans hgw H3.out.1.size) (fun g e => (HO.out.lt g e).1)
               have hq4 : ∀ i x, q[i]? = some x → w4.cell? ⟨gq, oq + i, none⟩ = some (bv x) := fun i x hx => (hb4.cell (p := ⟨gq, oq + i, none⟩) hgq).trans (HCQ.out i x hx)
               have H4 := hid (And.intro hown4 (And.intro hb4 hq4))
               clear hown4 hgrow4 hat4 hb4 hq4)
            | (at_builtin
               refine wpList_append_own_at _ rfl _ _ 28 rfl w.heap.size 5 i0 (.int .u8 0) 1 1 Try.underlying28 hi hz0 hz1 hz2 rfl (by decide) _ (F.length + 4) (F.map bv ++ (head4 L).map bv) rfl H4.out.1 ⟨gq, oq, none⟩ L _ (q.map bv) rfl (by rw [List.length_map, HQL.out, Nat.mul_one]) (news_of H4.out.2.2) (one_cells _) (by unfold maxLen; omega) (by omega) H4.out.2.1.size ?_
               intro v5 w5 hown5 hgrow5 _ hat5
               have hb5 : Below w.heap.size w w5 := Below.grown H4.out.2.1 hgrow5 H4.out.2.1.size (fun g e => (H4.out.1.lt g e).1)
               have H5 := hid (And.intro hown5 hb5)
               clear hown5 hgrow5 hat5 hb5))
          refine ⟨⟨k + 1, by omega, by go_num, ?_, ?_, H5.out.2⟩, by simp [intOf]; omega⟩
          · intro q' hq'
            rw [take_snoc HQ.out] at hq'
            rcases List.mem_append.1 hq' with h | h
            · exact HR.out q' h
            · obtain rfl := List.mem_singleton.1 h
              unfold Right
              rw [HQL.out]; omega
          · have h5 := H5.out.1
            rw [HTS.out, HFF.out]
            have e1 : (F ++ (head4 L ++ q)).length = F.length + 4 + L := by rw [List.length_append, List.length_append, HQL.out]; show F.length + (4 + L) = _; omega
            rw [e1, List.map_append, List.map_append, ← List.append_assoc]
            exact h5
    · obtain rfl : k = n := by omega
      have hall : ls.take k = ls := List.take_of_length_le (by rw [HL.out]; exact Nat.le_refl _)
      rw [hall] at HR HO
      have HE : Hid (firstErr ls = 0) := hid (by have := firstErr_ok HR.out []; rw [List.append_nil] at this; exact this)
      clear hall
      go_wp2_with fail
      go_ret2
      exact ⟨⟨_, by rw [HE.out]; rfl, fun _ => ⟨HR.out, HO.out⟩, fun h => absurd HE.out h⟩, HB.out⟩

set_option maxRecDepth 20000 in
set_option maxHeartbeats 1000000 in
theorem frame_any (a : Option Addr) (cap : Nat) (q : Bs) (w : World) (hq : q.length ≤ 1099511620000) (hc : q.length ≤ cap) (hc2 : cap ≤ 9223372036854775807) (HB : Hid (BAt w w.heap.size a q)) :
    Calls Try.prog 44 #[.slice a q.length cap] w fun e w' => (∃ v, e = .returned (.tuple #[v, .int .i64 (firstErr [q])]) ∧ (firstErr [q] = 0 → Right q ∧ w'.ownsRow w.heap.size 5 1 v (frame q).length ((frame q).map bv)) ∧ (firstErr [q] ≠ 0 → v = .slice none 0 0)) ∧ Below w.heap.size w w' := by
  have hb1 : Below w.heap.size w (w.alloc (.cells #[.slice a q.length cap] 28)) := (Below.refl _ _).alloc (Nat.le_refl _) _
  have hf1 : frames [q] = frame q := by simp [frames]
  have HC := hid (frames_any (some ⟨w.heap.size, 0, none⟩) 1 [q] (fun _ => (a, cap)) (w.alloc (.cells #[.slice a q.length cap] 28)) (by simp) (by rw [hf1, frame_len]; omega) (hid (fun _ => ⟨w.heap.size, 0, rfl, by simp, fun i q' hq' => by
    match i, hq' with
    | 0, hq' =>
      obtain rfl : q = q' := by simpa using hq'
      refine ⟨?_, (HB.out.below hb1).mono (by simp), hc, hc2⟩
      unfold World.cell?
      rw [heap_alloc_new]
      rfl
    | i + 1, hq' => simp at hq'⟩)))
  rw [show [q].length = 1 from rfl, hf1] at HC
  have HB1 := hid hb1
  clear hb1 HB hf1
  generalize q.length = n at *
  go_enter Try.func44, Try.ntmps44
  go_wp2_with fail
  refine HC.out.mono ?_
  rintro e w1 ⟨⟨v, rfl, h1, h2⟩, hb⟩
  have H1 := hid (And.intro h1 (And.intro h2 hb))
  clear h1 h2 hb HC
  go_wp2_with fail
  go_ret2
  have hb2 : Below w.heap.size w w1 := HB1.out.trans (H1.out.2.2.mono (by simp))
  refine ⟨⟨v, rfl, fun h => ⟨(H1.out.1 h).1 q (by simp), ?_⟩, H1.out.2.1⟩, hb2⟩
  have h3 := (H1.out.1 h).2
  refine ⟨h3.1, ?_⟩
  rcases h3.2 with h4 | ⟨g, c, cur, e1, e2, rest⟩
  · exact .inl h4
  · exact .inr ⟨g, c, cur, e1, by simp at e2; omega, rest⟩

set_option maxRecDepth 20000 in
set_option maxHeartbeats 400000 in
theorem reset_any (p : Nat) (x y : Value) (a : Option Addr) (n c : Nat) (w : World) (hx : x = .slice a n c) (h : w.heap[p]? = some (.cells #[x, y] 74 (0, 0))) (b : Bool) (hy : y = .bool b) : Calls Try.prog 11 #[.pointer (some ⟨p, 0, none⟩)] w fun e w' => e = .returned (.tuple #[]) ∧ (w.setCell ⟨p, 0, none⟩ (.slice none 0 0)).setCell ⟨p, 1, none⟩ (.bool false) = w' := by
  subst hx hy
  have x0 : w.cell? ⟨p, 0, none⟩ = some (.slice a n c) := by simp [World.cell?, h]
  have x1 : w.cell? ⟨p, 1, none⟩ = some (.bool b) := by simp [World.cell?, h]
  have f0 : w.frozen? ⟨p, 0, none⟩ = false := by simp [World.frozen?, h]
  have f1 : w.frozen? ⟨p, 1, none⟩ = false := by simp [World.frozen?, h]
  clear h
  go_enter Try.func11, Try.ntmps11
  go_wp2_with fail
  go_end0
  exact ⟨rfl, rfl⟩
theorem reset_none (w : World) : Calls Try.prog 11 #[.pointer none] w fun e w' => e = .returned (.tuple #[]) ∧ w' = w := by
  go_enter Try.func11, Try.ntmps11
  go_wp2_with fail
  go_end0
  exact ⟨rfl, rfl⟩
theorem left_none (w : World) : Calls Try.prog 18 #[.pointer none] w fun e w' => e = .returned (.int .i64 0) ∧ w' = w := by
  go_enter Try.func18, Try.ntmps18
  go_wp2_with fail
  go_ret
  exact ⟨rfl, rfl⟩
theorem missing_none (w : World) : Calls Try.prog 20 #[.pointer none] w fun e w' => e = .returned (.int .i64 0) ∧ w' = w := by
  go_enter Try.func20, Try.ntmps20
  go_wp2_with fail
  go_ret
  exact ⟨rfl, rfl⟩
theorem broken_none (w : World) : Calls Try.prog 22 #[.pointer none] w fun e w' => e = .returned (.bool false) ∧ w' = w := by
  go_enter Try.func22, Try.ntmps22
  go_wp2_with fail
  go_ret
  exact ⟨rfl, rfl⟩
theorem fork_none (w : World) : Calls Try.prog 12 #[.pointer none] w fun e w' => e = .returned (.pointer none) ∧ w' = w := by
  go_enter Try.func12, Try.ntmps12
  go_wp2_with fail
  go_ret
  exact ⟨rfl, rfl⟩

end Go.Proofs.Ythmcfnbnafdkeaa.FrmX
