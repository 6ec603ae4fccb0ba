/- whatever the values and the origins, of calls that a list blocks nothing is counted, and of the others no value is let in more often than its limit -/
import Derived.Test.YtbihelpnojjacaaGreatJHo
import Derived.Test.YtbihelpnojjacaaGreatLisC
import Derived.BigQuiet
import Derived.Test.YtbihelpnojjacaaGreatOpnS
import Derived.Test.YtbihelpnojjacaaGreatRows
import Derived.WalkKit
import Derived.ProofKit
import Derived.OpenShut
import Derived.ShutString
import Derived.ChangeOld
import Derived.Below
import Derived.SizedLaws
import Derived.ChangeShapes
import Derived.Test.YtbihelpnojjacaaGreatOpn

/- TopTwice: a list beside it, and a rule at work beside a map of counts. -/
namespace Go.Proofs.YtbihelpnojjacaaGreat.HotT
open Go.ChangeShapes Go.WideShapes Go.ChangeAt Go.RowKit Go.Deep Base Wri Map LruA LruB LruC LruD LruE LruF HotA HotB HotC HotD HotE HotF HotG HotH HotI HotJ HotK HotL HotM HotN HotO HotQ HotR RulA Txt ValA LisA LisB LisC
open SkA (Note)
open Go.Maps (Keyed string_keyed)
set_option linter.unusedVariables false

theorem below_drewN {B : Nat} {a w : World} (h : Below B a w) (n : Nat) : Below B a (w.drewN n) := ⟨h.os, h.tape, h.output, h.size, h.block⟩
theorem empty_eq (s : ByteArray) : s.toList.isEmpty = decide (s = ⟨#[]⟩) := by
  rw [← Txt.text_eq]
  rw [ByteArray.toList_eq, ByteArray.toList_eq]
  cases s.data.toList <;> rfl

def hasS (ss : List (List UInt8)) (o : ByteArray) : Bool := ss.any fun x => decide (bs x = o)
def listB (res : ByteArray) (white : Bool) (ss : List (List UInt8)) (o : ByteArray) : Bool := decide (listE res ss = 0) && (decide (o = ⟨#[]⟩) || (hasS ss o == white))

theorem TAt.heap {w w' : World} {n0 : Nat} {a : Option Addr} {ss : List (List UInt8)} (h : TAt w n0 a ss) (e : w'.heap = w.heap) : TAt w' n0 a ss := fun h0 => by
  obtain ⟨g, o, ha, hg, hc⟩ := h h0
  exact ⟨g, o, ha, hg, fun i x hx => (World.cell?_of_block (a := ⟨g, o + i, none⟩) (by rw [e])).trans (hc i x hx)⟩

set_option maxRecDepth 20000 in
set_option maxHeartbeats 1000000 in
theorem glist_core (res : ByteArray) (white : Bool) (a : Option Addr) (n cap : Nat) (o : ByteArray) (e : Int) (e0 b1 c r : Bool) (he : (e0 = true ∧ e = 0) ∨ (e0 = false ∧ e ≠ 0)) (hb : o.toList.isEmpty = b1) (R : Hid ((e0 && (b1 || (c == white))) = r)) (w : World)
    (H0 : Hid (∀ w', Below w.heap.size w w' → Calls Tryz.prog 52 #[.agg #[.string res, .bool white, .slice a n cap]] w' fun x w2 => x = .returned (.int .i64 e) ∧ Below w'.heap.size w' w2))
    (H1 : Hid (∀ w' wx, Below w.heap.size w w' → wx.heap = w'.heap → Calls Tryz.prog 53 #[.slice a n cap, .string o] wx fun x w2 => x = .returned (.bool c) ∧ wx = w2)) :
    Calls Tryz.prog 24 #[.agg #[.string res, .bool white, .slice a n cap], .string o] w fun x w' => x = .returned (.bool r) ∧ Below w.heap.size w w' := by
  have hb0 : Below w.heap.size w (w.alloc (.cells #[.string res, .bool white, .slice a n cap] 55)) := (Below.refl _ w).alloc (Nat.le_refl _) _
  have HB0 := hid hb0
  clear hb0
  go_enter Tryz.func24, Tryz.ntmps24
  go_wp2_with fail
  refine (H0.out _ HB0.out).mono ?_
  rintro x w1 ⟨rfl, hb1⟩
  have HB1 := hid (HB0.out.trans (hb1.mono HB0.out.size))
  have c1 : w1.cell? ⟨w.heap.size, 1, none⟩ = some (.bool white) := (hb1.cell (p := ⟨w.heap.size, 1, none⟩) (by simp)).trans (by go_cell)
  have c2 : w1.cell? ⟨w.heap.size, 2, none⟩ = some (.slice a n cap) := (hb1.cell (p := ⟨w.heap.size, 2, none⟩) (by simp)).trans (by go_cell)
  clear hb1 H0
  rcases he with ⟨rfl, rfl⟩ | ⟨rfl, he⟩
  · cases b1 with
    | true =>
      go_wp2_with fail
      go_region
      go_wp2_with fail
      go_ret
      exact ⟨RulA.ret_bool (by rw [← R.out]; simp), by first | exact HB1.out.drew | exact HB1.out⟩
    | false =>
      have HC := hid (H1.out w1 w1.drew HB1.out rfl)
      go_wp2_with fail
      go_quiet ((go_at_call 53; exact Calls.quiet_of_same ((H1.out w1 _ HB1.out (by rfl)).mono fun _ _ h => ⟨h.1, h.2.symm⟩)))
      have hq := below_drewN HB1.out nq
      go_wp2_with fail
      go_ret
      exact ⟨RulA.ret_bool (by rw [← R.out]; simp), hq⟩
  · have he1 : (e != 0) = true := by simpa using he
    clear he
    go_wp2_with fail
    go_ret
    exact ⟨RulA.ret_bool (by rw [← R.out]; rfl), HB1.out⟩

theorem GList_any (res : ByteArray) (white : Bool) (a : Option Addr) (cap : Nat) (ss : List (List UInt8)) (o : ByteArray) (w : World) (hr : res.size ≤ maxLen) (hss : ss.length ≤ 9223372036854775807) (hL : ∀ x ∈ ss, x.length ≤ maxLen) (hT : TAt w w.heap.size a ss) :
    Calls Tryz.prog 24 #[.agg #[.string res, .bool white, .slice a ss.length cap], .string o] w fun x w' => x = .returned (.bool (listB res white ss o)) ∧ Below w.heap.size w w' :=
  glist_core res white a ss.length cap o (listE res ss) (decide (listE res ss = 0)) (decide (o = ⟨#[]⟩)) (hasS ss o) _ (by
    by_cases h : listE res ss = 0
    · exact .inl ⟨by simpa using h, h⟩
    · exact .inr ⟨by simpa using h, h⟩) (empty_eq o) (hid rfl) w (hid fun w' hb => List_any res white a cap ss w' hr hss hL (TAt.low hT hb))
    (hid fun w' wx hb hh => contains_any a cap ss o wx hss (hid (TAt.heap (by have h := TAt.low hT hb; rwa [← hh] at h) hh)))

/-- a rule at work at time 0 beside other blocks P, one of which is a map of counts -/
structure Bt (w1 : World) (P : Nat → Prop) (mb : Nat) (C : HC) (N : List Note) (M : ByteArray → Nat) (wr : World) : Prop where
  ex : ∃ own L K Z, HMem wr own C 0 L K Z ∧ Same L K ∧ (∀ k, P k → own k = .non) ∧ Gh C 0 K Z.ns ∧ Z.ns = N
  map : ∃ F n, MapOf Tryz.prog 9 wr mb F n ∧ ∀ s, (F (.string s)).getD (.int .i64 0) = .int .i64 (M s : Nat)
  wr : Wr (fun k => ¬ P k ∨ k = mb) w1 wr
variable {w w' w1 : World} {P : Nat → Prop} {mb : Nat} {C : HC} {N : List Note} {M : ByteArray → Nat}

theorem Bt.below (h : Bt w1 P mb C N M w) (hb : Below w.heap.size w w') : Bt w1 P mb C N M w' := by
  obtain ⟨own, L, K, Z, hM, hs, ho, hG, hN⟩ := h.ex
  obtain ⟨F, n, hm, hF⟩ := h.map
  exact ⟨⟨own, L, K, Z, hM.below hb, hs, ho, hG, hN⟩, ⟨F, n, hm.of_block (hb.block _ hm.lt), hF⟩, h.wr.on (Wr.ofBelow (R := fun _ => False) hb) (fun _ e => e.elim)⟩

theorem Bt.look (h : Bt w1 P mb C N M w) (s : ByteArray) (hs : s.size ≤ maxLen) : (Instr.lookup 57 (.map (some mb)) (.string s) false).run Tryz.prog w = .ok (.int .i64 (M s : Nat)) w := by
  obtain ⟨F, n, hm, hF⟩ := h.map
  have hl := hm.look false keyedS Tryz.underlying57 (zeroI w) (Go.WideMaps.keyOf_string_mk Tryz.underlying9 hs)
  rw [hl]
  have := hF s
  cases hc : F (.string s) with
  | none => rw [hc] at this; rw [← this]; rfl
  | some v => rw [hc] at this; rw [← this]; rfl

theorem Bt.store (h : Bt w1 P mb C N M w) (hP : P mb) (s : ByteArray) (hs : s.size ≤ maxLen) : ∃ w', (Instr.mapUpdate 57 (.map (some mb)) (.string s) (.int .i64 ((M s : Int) + 1))).run Tryz.prog w = .ok () w' ∧ Bt w1 P mb C N (fun x => if x = s then M s + 1 else M x) w' := by
  obtain ⟨own, L, K, Z, hM, hsm, ho, hG, hN⟩ := h.ex
  obtain ⟨F, n, hm, hF⟩ := h.map
  obtain ⟨w', hrun, hm', hw⟩ := hm.store (val := .int .i64 ((M s : Int) + 1)) keyedS Tryz.underlying57 (Go.WideMaps.keyOf_string_mk Tryz.underlying9 hs)
  have hlt := hm.lt
  refine ⟨w', hrun, ⟨⟨_, L, K, Z, HMem.away hM (hw.mono fun k e => by rw [e]; exact ho mb hP), hsm, fun k hk => ?_, hG, hN⟩, ⟨_, _, hm', fun x => ?_⟩, h.wr.trans (hw.mono fun k e => .inr e)⟩⟩
  · by_cases hl : k < w.heap.size
    · rw [ext_lt hl]; exact ho k hk
    · exact ext_ge (by omega)
  · by_cases e : x = s
    · subst e
      rw [put_same, if_pos rfl]
      rfl
    · rw [put_other (fun e2 => e (by injection e2)), if_neg e]
      exact hF x

/-- Take at time 0 beside it -/
theorem Bt.take (h : Bt w1 P mb C N M w) (hP : P mb) (hPb : ∀ k, P k → k < w1.heap.size) (hl : ∀ s, limN C s ≤ 1099511627776) (s : ByteArray) (hs : s.size ≤ 64) (hfew : N.length < 1000) : ∃ (b : Bool),
    (∀ wx, Below w.heap.size w wx → Calls Tryz.prog 20 #[.pointer (some ⟨C.h, 0, none⟩), .int .i64 0, .string s, .int .i64 1] wx fun e w' => e = .returned (.tuple #[.bool b, .int .i64 0]) ∧ Bt w1 P mb C (if b then N ++ [⟨0, s, 1⟩] else N) M w') := by
  obtain ⟨own, L, K, Z, hM, hsm, ho, hG, hN⟩ := h.ex
  obtain ⟨u, hu1, hu2⟩ := us_some hM 0 s
  have hml : s.size ≤ maxLen := by unfold maxLen; omega
  have hE : hotE 0 0 (noC 1) s.size = 0 := by
    unfold hotE
    rw [if_neg (by simp; decide), if_neg (by omega), if_neg (by simp)]
  refine ⟨letB C 0 0 s 1 u, fun wx hb => ?_⟩
  have hB := Bt.below h hb
  have hMx := hM.below hb
  have hT := HMem.Take hMx hsm 0 s hml 1 u (fun _ => ⟨hu1, hu2⟩)
  rw [hE] at hT
  refine hT.mono fun e w' h2 => ⟨h2.1, ?_⟩
  obtain ⟨own', last', L', K', Z', hM', hsm', hst, hcase⟩ := h2.2
  obtain ⟨F, n, hm, hF⟩ := hB.map
  have hlt := hm.lt
  have hwr : Wr (fun k => ¬ P k ∨ k = mb) w1 w' := hB.wr.trans (hst.wr.mono fun k hk => .inl fun hp => hk (ho k hp))
  have hmap : ∃ F n, MapOf Tryz.prog 9 w' mb F n ∧ ∀ s, (F (.string s)).getD (.int .i64 0) = .int .i64 (M s : Nat) := ⟨F, n, hm.of_block (hst.wr.block _ hlt (fun hk => hk (ho mb hP))), hF⟩
  have hPl : ∀ k, P k → k < wx.heap.size := fun k hk => Nat.lt_of_lt_of_le (hPb k hk) (Nat.le_trans h.wr.size hb.size)
  rcases hcase with ⟨hne, _⟩ | ⟨h0, hlast, hcase⟩
  · exact absurd hE hne
  · obtain rfl : last' = 0 := by omega
    rcases hcase with ⟨hf, rfl, rfl, rfl⟩ | ⟨hf, hTk⟩
    · rw [hf]
      exact ⟨⟨own', _, _, _, hM', hsm', fun k hk => (hst.tag k (hPl k hk)).trans (ho k hk), hG, hN⟩, hmap, hwr⟩
    · have hpass : (u : Int) + 1 ≤ limN C s := by
        unfold letB at hf
        simp at hf
        exact hf.2
      have hG3 := Gh.took (n := 1) hMx hG hTk hu1 (by decide) (hl s) (by simpa using hpass) (by rw [hN]; exact hfew) (fun z hz y hy e => kw_only hM' hz hy e)
      rw [hf, if_pos rfl]
      refine ⟨⟨own', _, _, _, hM', hsm', fun k hk => (hst.tag k (hPl k hk)).trans (ho k hk), hG3, ?_⟩, hmap, hwr⟩
      rw [hTk.ns, hN]
      rfl

/-- what is used beside it -/
theorem Bt.used (h : Bt w1 P mb C N M w) (s : ByteArray) (hs : s.size ≤ 64) : ∃ u : Nat, HotQ.own C.q 0 s N ≤ u ∧ (nr C.q 0 s N : Int) ≤ limN C s ∧
    (∀ wx, Below w.heap.size w wx → Calls Tryz.prog 21 #[.pointer (some ⟨C.h, 0, none⟩), .int .i64 0, .string s] wx fun e w' => e = .returned (.tuple #[.int .i64 u, .int .i64 0]) ∧ Below wx.heap.size wx w') := by
  obtain ⟨own, L, K, Z, hM, hsm, ho, hG, hN⟩ := h.ex
  have hml : s.size ≤ maxLen := by unfold maxLen; omega
  obtain ⟨u, hu1, hu2⟩ := us_some hM 0 s
  have hE : hotE 0 0 false s.size = 0 := by
    unfold hotE
    rw [if_neg (by simp), if_neg (by omega), if_neg (by simp)]
  refine ⟨u, by rw [← hN]; exact Gh.used hM hG (Nat.le_refl _) hu1, by rw [← hN]; exact hG.near s 0 (Nat.le_refl _), fun wx hb => ?_⟩
  have := HMem.Used (hM.below hb) 0 s hml u (fun _ => by simpa using hu1)
  rw [hE, if_pos rfl] at this
  exact this
theorem Bt.limit (h : Bt w1 P mb C N M w) (s : ByteArray) (hs : s.size ≤ maxLen) : ∀ wx, Below w.heap.size w wx → Calls Tryz.prog 18 #[.pointer (some ⟨C.h, 0, none⟩), .string s] wx fun e w' => e = .returned (.int .i64 (limN C s)) ∧ Below wx.heap.size wx w' := fun wx hb => by
  obtain ⟨own, L, K, Z, hM, hsm, ho, hG, hN⟩ := h.ex
  exact Limit_any (hM.below hb) s hs

end Go.Proofs.YtbihelpnojjacaaGreat.HotT

/- TopTwice: the law's walk. -/
namespace Go.Proofs.YtbihelpnojjacaaGreat.HotU
open Go.ChangeShapes Go.WideShapes Go.ChangeAt Go.RowKit Go.Deep Base Wri Map LruA LruB LruC LruD LruE LruF HotA HotB HotC HotD HotE HotF HotG HotH HotI HotJ HotK HotL HotM HotN HotO HotQ HotR HotT RulA Txt ValA LisA LisB LisC
open SkA (Note)
set_option linter.unusedVariables false

def a1 : ByteArray := ⟨#[97, 112, 112, 49]⟩
def a2 : ByteArray := ⟨#[97, 112, 112, 50]⟩
def l1 : List (List UInt8) := [[97, 112, 112, 49]]
def gB (o : ByteArray) : Bool := listB ta true l1 o
theorem gB1 : gB a1 = true := by
  unfold gB listB
  rw [show hasS l1 a1 = true from by kernel_rfl, decide_eq_true (show listE ta l1 = 0 from by kernel_rfl)]
  simp
theorem gB2 : gB a2 = false := by
  unfold gB listB
  rw [show hasS l1 a2 = false from by kernel_rfl, decide_eq_false (show ¬ a2 = ⟨#[]⟩ from fun h => by have := congrArg ByteArray.size h; revert this; decide)]
  simp
theorem gB_no {o : ByteArray} (h : gB o = false) : o ≠ ⟨#[]⟩ ∧ o ≠ a1 := by
  refine ⟨fun e => ?_, fun e => ?_⟩
  · subst e
    unfold gB listB at h
    rw [decide_eq_true (show listE ta l1 = 0 from by kernel_rfl)] at h
    simp at h
  · subst e; rw [gB1] at h; cases h
theorem hot_3 (f : Nat → Itm) : hotR ta 0 3 1 0 f = 0 := by
  unfold hotR itemsB
  rw [name_a, decide_eq_true (show (0 : Nat) ≤ 32 by decide), decide_eq_true (show ∀ i, i < 0 → okI (f i) = true from fun i h => by omega), decide_eq_true (show (vals 0 f).Nodup from List.nodup_nil)]
  rfl

theorem guard_at (ob : Nat) (wx : World) (h : wx.heap[ob]? = some (.cells #[.string a1] 9)) (o : ByteArray) :
    Calls Tryz.prog 24 #[.agg #[.string ta, .bool true, .slice (some ⟨ob, 0, none⟩) 1 1], .string o] wx fun x w' => x = .returned (.bool (gB o)) ∧ Below wx.heap.size wx w' := by
  have := GList_any ta true (some ⟨ob, 0, none⟩) 1 l1 o wx (by unfold maxLen; decide) (by decide) (fun x hx => by simp [l1] at hx; subst hx; unfold maxLen; decide) (fun _ => ⟨ob, 0, rfl, (Array.getElem?_eq_some_iff.1 h).1, fun i x hx => by
    have hi : i < 1 := by have := (List.getElem?_eq_some_iff.1 hx).1; simpa [l1] using this
    obtain rfl : i = 0 := by omega
    simp [l1] at hx
    subst hx
    exact cell_of h 0 _ rfl⟩)
  exact this

variable {w w1 w' : World} {P : Nat → Prop} {mb : Nat} {C : HC} {N : List Note} {M : ByteArray → Nat}
theorem Bt.keep (h : Bt w1 P mb C N M w) {k : Nat} (hk : P k) (hm : k ≠ mb) (hl : k < w1.heap.size) : w.heap[k]? = w1.heap[k]? := h.wr.block k hl fun h => h.elim (fun h => h hk) hm

set_option maxRecDepth 20000 in
set_option maxHeartbeats 8000000 in
theorem twice_core (va : Option Addr) (nv cv : Nat) (fv : Nat → ByteArray) (ao : Option Addr) (no co : Nat) (fo : Nat → ByteArray) (w : World) (hfv : ∀ i, i < nv → (fv i).size ≤ maxLen) (hv : LruE.Strs w va nv fv) (ho : LruE.Strs w ao no fo) :
    Calls Tryz.prog 8 #[.slice va nv cv, .slice ao no co] w fun e w' => e = .returned (.bool true) ∧ Below w.heap.size w w' := by
  have hN := New_yes ta 0 3 1 (by decide) (by decide) none 0 0 (by decide) 2 (by decide) (by decide) 9 (fun _ => (ta, 0)) w (fun h => by omega) (fun i h => by omega) (hid fun wx hb => by
    have := Hot_any ta (by unfold maxLen; decide) 0 3 1 none 0 0 (fun _ => (ta, 0)) wx (fun h => by omega) (fun i h => by omega)
    rw [hot_3] at this
    exact this)
  have HN := hid hN
  have HS := hid (And.intro hfv (And.intro hv ho))
  clear hN hfv hv ho
  go_enter Tryz.func8, Tryz.ntmps8
  go_wp2_with fail
  refine HN.out.mono ?_
  rintro e w1 ⟨C, own, rfl, hM, hown, hmost, hcnt, hq, hseed, hit, hb⟩
  have hlim : ∀ s, limN C s = 3 := fun s => by unfold limN; rw [hit, hcnt]; rfl
  have HM := hid (And.intro hM (And.intro hown (And.intro hq (And.intro hb hlim))))
  clear hM hown hmost hcnt hq hseed hit hb hlim HN
  generalize hCh : C.h = ch at *
  have HCh := hid hCh
  clear hCh
  have hb2 : Below w1.heap.size w1 ((w1.alloc (.cells #[.string a1] 9)).alloc (.cells #[.string ta, .bool true, .slice (some ⟨w1.heap.size, 0, none⟩) 1 1] 55)) := ((Below.refl _ _).alloc (Nat.le_refl _) _).alloc (by simp) _
  have ho2 : ((w1.alloc (.cells #[.string a1] 9)).alloc (.cells #[.string ta, .bool true, .slice (some ⟨w1.heap.size, 0, none⟩) 1 1] 55)).heap[w1.heap.size]? = some (.cells #[.string a1] 9) := (heap_alloc_old _ _ (by simp)).trans (heap_alloc_new _ _)
  have hl2 : ((w1.alloc (.cells #[.string a1] 9)).alloc (.cells #[.string ta, .bool true, .slice (some ⟨w1.heap.size, 0, none⟩) 1 1] 55)).heap[w1.heap.size + 1]? = some (.cells #[.string ta, .bool true, .slice (some ⟨w1.heap.size, 0, none⟩) 1 1] 55) := by have := heap_alloc_new (w1.alloc (.cells #[.string a1] 9)) (.cells #[.string ta, .bool true, .slice (some ⟨w1.heap.size, 0, none⟩) 1 1] 55); simpa using this
  have HG1 := hid (guard_at w1.heap.size _ ho2 a1)
  have H2 := hid (And.intro hb2 (And.intro ho2 hl2))
  rw [gB1] at HG1
  clear hb2 ho2 hl2
  unfold a1 ta at HG1 H2
  go_wp2_with fail
  refine HG1.out.mono ?_
  rintro e w2 ⟨rfl, hb2⟩
  obtain ⟨hb0, ho0, hl0⟩ := H2.out
  have ho2 := (hb2.block _ (Array.getElem?_eq_some_iff.1 ho0).1).trans ho0
  have hl2 := (hb2.block _ (Array.getElem?_eq_some_iff.1 hl0).1).trans hl0
  have hb2' := bl hb0 hb2
  have d0 : w2.cell? ⟨w1.heap.size + 1, 0, none⟩ = some (.string ⟨#[97]⟩) := cell_of hl2 0 _ rfl
  have d1 : w2.cell? ⟨w1.heap.size + 1, 1, none⟩ = some (.bool true) := cell_of hl2 1 _ rfl
  have d2 : w2.cell? ⟨w1.heap.size + 1, 2, none⟩ = some (.slice (some ⟨w1.heap.size, 0, none⟩) 1 1) := cell_of hl2 2 _ rfl
  have HG2 := hid (guard_at w1.heap.size _ ho2 a2)
  rw [gB2] at HG2
  have H3 := hid (And.intro hb2' (And.intro ho2 hl2))
  clear hb0 ho0 hl0 ho2 hl2 hb2' hb2 H2 HG1
  unfold a2 ta at HG2
  go_wp2_with fail
  refine HG2.out.mono ?_
  rintro e w3 ⟨rfl, hb3⟩
  obtain ⟨hb0, ho0, hl0⟩ := H3.out
  have ho3 := (hb3.block _ (Array.getElem?_eq_some_iff.1 ho0).1).trans ho0
  have hl3 := (hb3.block _ (Array.getElem?_eq_some_iff.1 hl0).1).trans hl0
  have hb3' := bl hb0 hb3
  have hmk : (Instr.makeMap 57 none).run Tryz.prog w3 = .ok (.map (some w3.heap.size)) (w3.alloc (.map #[] 0)) := run_makeMap _ _
  have hbm : Below w3.heap.size w3 (w3.alloc (.map #[] 0)) := (Below.refl _ _).alloc (Nat.le_refl _) _
  have hob := (Array.getElem?_eq_some_iff.1 ho3).1
  have hlb := (Array.getElem?_eq_some_iff.1 hl3).1
  have ho4 := (hbm.block _ hob).trans ho3
  have hl4 := (hbm.block _ hlb).trans hl3
  have hb14 := bl hb3' hbm
  have hmm := MapOf.made (P := Tryz.prog) (k := 9) w3
  obtain ⟨w4, hw4⟩ : ∃ w4, w3.alloc (.map #[] 0) = w4 := ⟨_, rfl⟩
  have hs4 : w4.heap.size = w3.heap.size + 1 := by rw [← hw4]; simp
  rw [hw4] at hmk ho4 hl4 hb14 hmm
  obtain ⟨hM, hown, hq, hbw, hlim⟩ := HM.out
  have hww1 := hbw.size
  have hM4 := HMem.extend hM hb14 .non
  have HP : Hid (∀ k, (k < w.heap.size ∨ k = w1.heap.size ∨ k = w1.heap.size + 1 ∨ k = w3.heap.size) → k < w4.heap.size) := hid (fun k hk => by omega)
  have HB : Hid (Bt w4 (fun k => k < w.heap.size ∨ k = w1.heap.size ∨ k = w1.heap.size + 1 ∨ k = w3.heap.size) w3.heap.size C [] (fun _ => 0) w4) := hid ⟨⟨_, _, _, _, hM4, HMem.new_same, fun k hk => by
      by_cases hl : k < w1.heap.size
      · rw [ext_lt hl]
        refine hown k ?_
        omega
      · exact ext_ge (by omega), Gh.new C (fun s => by rw [hlim]; decide), rfl⟩, ⟨_, _, hmm, fun s => rfl⟩, Wr.refl _ _⟩
  have HK := hid (And.intro ho4 (And.intro hl4 (And.intro hlim (And.intro (show 0 < C.q by rw [hq]; decide) (show Below w.heap.size w w4 from hbw.trans (hb14.mono hww1))))))
  have HSz := hid (show w.heap.size ≤ w1.heap.size ∧ w.heap.size ≤ w1.heap.size + 1 ∧ w1.heap.size < w3.heap.size ∧ w1.heap.size + 1 < w3.heap.size ∧ w4.heap.size = w3.heap.size + 1 from ⟨hww1, by omega, by omega, hlb, hs4⟩)
  clear hb0 ho0 hl0 ho3 hl3 hb3' hbm hob hlb ho4 hl4 hb14 hmm hM hown hq hbw hlim hww1 hM4 hb3 H3 HG2 HM hs4 d0 d1 d2 hw4
  generalize hlbq : w1.heap.size + 1 = lb at *
  generalize hobq : w1.heap.size = ob at *
  generalize hmbq : w3.heap.size = mb at *
  clear hlbq hobq hmbq
  go_wp2_with fail
  clear hmk
  go_loopw [9] (fun i wr => ∃ (j : Nat) (N : List Note) (M : ByteArray → Nat), j ≤ nv ∧ i = .int .i64 j ∧ N.length ≤ j ∧ (∀ s, M s = nr C.q 0 s N) ∧ Bt w4 (fun k => k < w.heap.size ∨ k = ob ∨ k = lb ∨ k = mb) mb C N M wr) (fun i _ => nv - (intOf i).toNat)
  case atStart => exact ⟨0, [], _, Nat.zero_le _, rfl, Nat.zero_le _, fun s => rfl, HB.out⟩
  case round =>
    obtain ⟨j, N, M, hj, rfl, hNl, hMn, hBt⟩ := hrel
    have HBt := hid hBt
    have HMn := hid hMn
    have HEnd : Hid (Calls Tryz.prog 18 #[.pointer (some ⟨ch, 0, none⟩), .string ⟨#[120]⟩] wr fun e w' => e = .returned (.int .i64 3) ∧ Below w.heap.size w w') := hid (by
      have h9 := Bt.limit hBt ⟨#[120]⟩ (by unfold maxLen; decide) wr (Below.refl _ _)
      rw [HK.out.2.2.1, HCh.out] at h9
      obtain ⟨z1, z2, z3, z4, z5⟩ := HSz.out
      have h8 : Below w.heap.size w wr := HK.out.2.2.2.2.trans (hBt.wr.below w.heap.size HK.out.2.2.2.2.size (fun k hk => by omega))
      exact h9.mono fun e w' h => ⟨h.1, h8.trans (h.2.mono h8.size)⟩)
    clear hBt hMn HB
    by_cases hlt : j < nv
    · have hji : (j : Int) < nv := by omega
      have hji0 : (0 : Int) ≤ j := by omega
      by_cases h100 : j < 100
      · have h100i : (j : Int) < 100 := by omega
        obtain ⟨vb, vo, rfl, hvb, hvc⟩ := HS.out.2.1 (by omega)
        have hfs := HS.out.1 j hlt
        have HCv : Hid (∀ N M wx, Bt w4 (fun k => k < w.heap.size ∨ k = ob ∨ k = lb ∨ k = mb) mb C N M wx → wx.cell? ⟨vb, vo + j, none⟩ = some (.string (fv j)) ∧ vb < wx.heap.size) := hid fun N M wx hbt => by
          obtain ⟨z1, z2, z3, z4, z5⟩ := HSz.out
          have e1 := Bt.keep hbt (k := vb) (.inl hvb) (by omega) (by omega)
          have e2 := HK.out.2.2.2.2.block vb hvb
          exact ⟨(World.cell?_of_block (a := ⟨vb, vo + j, none⟩) (e1.trans e2)).trans (hvc j hlt), Nat.lt_of_lt_of_le (show vb < w4.heap.size by omega) hbt.wr.size⟩
        have HCl : Hid (∀ N M wx, Bt w4 (fun k => k < w.heap.size ∨ k = ob ∨ k = lb ∨ k = mb) mb C N M wx → (wx.cell? ⟨lb, 0, none⟩ = some (.string ⟨#[97]⟩) ∧ wx.cell? ⟨lb, 1, none⟩ = some (.bool true) ∧ wx.cell? ⟨lb, 2, none⟩ = some (.slice (some ⟨ob, 0, none⟩) 1 1)) ∧ ∀ o, Calls Tryz.prog 24 #[.agg #[.string ⟨#[97]⟩, .bool true, .slice (some ⟨ob, 0, none⟩) 1 1], .string o] wx fun x w' => x = .returned (.bool (gB o)) ∧ Below wx.heap.size wx w') := hid fun N M wx hbt => by
          obtain ⟨z1, z2, z3, z4, z5⟩ := HSz.out
          have e1 := (Bt.keep hbt (k := lb) (.inr (.inr (.inl rfl))) (by omega) (by omega)).trans HK.out.2.1
          have e2 := (Bt.keep hbt (k := ob) (.inr (.inl rfl)) (by omega) (by omega)).trans HK.out.1
          exact ⟨⟨cell_of e1 0 _ rfl, cell_of e1 1 _ rfl, cell_of e1 2 _ rfl⟩, fun o => guard_at ob wx e2 o⟩
        clear hvc hvb
        generalize hsv : fv j = s at *
        clear hsv
        obtain ⟨⟨d0, d1, d2⟩, hG⟩ := HCl.out _ _ _ HBt.out
        by_cases hjo : j < no
        · have hjoi : (j : Int) < no := by omega
          obtain ⟨qb, qo, rfl, hqb, hqc⟩ := HS.out.2.2 (by omega)
          have p0 : wr.cell? ⟨qb, qo + j, none⟩ = some (.string (fo j)) := by
            obtain ⟨z1, z2, z3, z4, z5⟩ := HSz.out
            have e1 := Bt.keep HBt.out (k := qb) (.inl hqb) (by omega) (by omega)
            have e2 := HK.out.2.2.2.2.block qb hqb
            exact (World.cell?_of_block (a := ⟨qb, qo + j, none⟩) (e1.trans e2)).trans (hqc j hjo)
          have HGo := hid (hG (fo j))
          clear hqc hqb hG
          generalize hov : fo j = o at *
          clear hov
          cases hgo : gB o with
          | false =>
            rw [hgo] at HGo
            obtain ⟨n1, n2⟩ := gB_no hgo
            have e0 : o.toList.isEmpty = false := by rw [empty_eq]; exact decide_eq_false n1
            have e1 : ¬ o.toList = [] := fun e => by rw [e] at e0; cases e0
            have e2 : (o.toList == [97, 112, 112, 49]) = false := by
              have h : (o.toList == (⟨#[97, 112, 112, 49]⟩ : ByteArray).toList) = false := by rw [Txt.text_eq]; exact decide_eq_false n2
              rw [show (⟨#[97, 112, 112, 49]⟩ : ByteArray).toList = [97, 112, 112, 49] by rw [ByteArray.toList_eq]] at h
              exact h
            clear n1 n2 hgo
            go_wp2_with fail
            refine HGo.out.mono ?_
            rintro e w5 ⟨rfl, hb5⟩
            have HB5 := hid (HBt.out.below hb5)
            clear hb5 d0 d1 d2 p0
            go_wp2_with fail
            go_roundw
            case rel => exact ⟨j + 1, N, M, hlt, by go_num, by omega, HMn.out, HB5.out⟩
            case measure => simp [intOf]; omega
          | true =>
            rw [hgo] at HGo
            clear hgo
            go_wp2_with fail
            refine HGo.out.mono ?_
            rintro e w5 ⟨rfl, hb5⟩
            have HB5 := hid (HBt.out.below hb5)
            clear hb5 d0 d1 d2 p0
            obtain ⟨c0, hbl⟩ := HCv.out _ _ _ HB5.out
            by_cases hbig : 64 < s.size
            · have hbigi : (64 : Int) < s.size := by omega
              go_wp2_with fail
              go_roundw
              case rel => exact ⟨j + 1, N, M, hlt, by go_num, by omega, HMn.out, HB5.out⟩
              case measure => simp [intOf]; omega
            · have hbigi : ¬ (64 : Int) < s.size := by omega
              have hs64 : s.size ≤ 64 := by omega
              obtain ⟨bb, hTk⟩ := Bt.take HB5.out (.inr (.inr (.inr rfl))) HP.out (fun s => by rw [HK.out.2.2.1]; decide) s hs64 (by omega)
              rw [HCh.out] at hTk
              have HT := hid (hTk w5 (Below.refl _ _))
              clear hTk
              go_wp2_with fail
              refine HT.out.mono ?_
              rintro e w6 ⟨rfl, hb6⟩
              have HB6 := hid hb6
              clear hb6 HT c0 hbl
              cases bb with
              | true =>
                obtain ⟨c0, hbl⟩ := HCv.out _ _ _ HB6.out
                have hM3 : (M s : Int) ≤ 3 := by
                  obtain ⟨u, -, h2, -⟩ := Bt.used HB5.out s hs64
                  rw [HMn.out s]
                  rw [HK.out.2.2.1] at h2
                  exact h2
                have hlk := Bt.look HB6.out s hfs
                obtain ⟨w7, hrun, hB7⟩ := Bt.store HB6.out (.inr (.inr (.inr rfl))) s hfs
                have hB7' : Bt w4 (fun k => k < w.heap.size ∨ k = ob ∨ k = lb ∨ k = mb) mb C (N ++ [⟨0, s, 1⟩]) (fun x => if x = s then M s + 1 else M x) w7 := by simpa using hB7
                have hMn7 : ∀ x, (fun x => if x = s then M s + 1 else M x) x = nr C.q 0 x (N ++ [⟨0, s, 1⟩]) := fun x => by
                  have hq := HK.out.2.2.2.1
                  rw [nr_snoc, ← HMn.out x]
                  dsimp only
                  by_cases e : x = s
                  · subst e; rw [if_pos rfl, if_pos ⟨by omega, rfl⟩]
                  · rw [if_neg e, if_neg (fun h => e h.2.symm)]; rfl
                have hlN : (N ++ [(⟨0, s, 1⟩ : Note)]).length ≤ j + 1 := by simp; omega
                obtain ⟨c1, hbl7⟩ := HCv.out _ _ _ hB7'
                obtain ⟨u, hu1, hu2, hU⟩ := Bt.used hB7' s hs64
                rw [HCh.out] at hU
                rw [HK.out.2.2.1, ← hMn7 s] at hu2
                have hu3 : nr C.q 0 s (N ++ [⟨0, s, 1⟩]) ≤ u := Nat.le_trans (nr_own HK.out.2.2.2.1) hu1
                rw [← hMn7 s] at hu3
                generalize hM2 : (fun x => if x = s then M s + 1 else M x) = M2 at *
                generalize N ++ [(⟨0, s, 1⟩ : Note)] = N2 at *
                have HU := hid (hU _ (Below.refl _ _))
                have HB7 := hid hB7'
                have HMn7 := hid hMn7
                clear hB7 hB7' hMn7 hu1 hU hM2 HB6
                go_wp2_with fail
                refine HU.out.mono ?_
                rintro e w8 ⟨rfl, hb8⟩
                have hB8 := HB7.out.below hb8
                obtain ⟨c8, hbl8⟩ := HCv.out _ _ _ hB8
                have hlk8 := Bt.look hB8 s hfs
                have HB8 := hid hB8
                have hg1 : ¬ (3 : Int) < (M2 s : Int) := by omega
                have hg2 : ¬ (u : Int) < (M2 s : Int) := by omega
                clear hb8 hB8
                go_wp2_with fail
                go_roundw
                case rel => exact ⟨j + 1, N2, M2, hlt, by go_num, hlN, HMn7.out, HB8.out⟩
                case measure => simp [intOf]; omega
              | false =>
                have hB7' : Bt w4 (fun k => k < w.heap.size ∨ k = ob ∨ k = lb ∨ k = mb) mb C N M w6 := by simpa using HB6.out
                have hlN : N.length ≤ j + 1 := by omega
                obtain ⟨c0, hbl⟩ := HCv.out _ _ _ hB7'
                obtain ⟨u, hu1, hu2, hU⟩ := Bt.used hB7' s hs64
                rw [HCh.out] at hU
                rw [HK.out.2.2.1, ← HMn.out s] at hu2
                have hu3 : nr C.q 0 s N ≤ u := Nat.le_trans (nr_own HK.out.2.2.2.1) hu1
                rw [← HMn.out s] at hu3
                have HMn7 := HMn
                generalize M = M2 at *
                generalize N = N2 at *
                have HU := hid (hU _ (Below.refl _ _))
                have HB7 := hid hB7'
                clear hB7' hu1 hU HB6
                go_wp2_with fail
                refine HU.out.mono ?_
                rintro e w8 ⟨rfl, hb8⟩
                have hB8 := HB7.out.below hb8
                obtain ⟨c8, hbl8⟩ := HCv.out _ _ _ hB8
                have hlk8 := Bt.look hB8 s hfs
                have HB8 := hid hB8
                have hg1 : ¬ (3 : Int) < (M2 s : Int) := by omega
                have hg2 : ¬ (u : Int) < (M2 s : Int) := by omega
                clear hb8 hB8
                go_wp2_with fail
                go_roundw
                case rel => exact ⟨j + 1, N2, M2, hlt, by go_num, hlN, HMn7.out, HB8.out⟩
                case measure => simp [intOf]; omega
        · have hjoi : ¬ (j : Int) < no := by omega
          have HGo := hid (hG a1)
          rw [gB1] at HGo
          unfold a1 at HGo
          clear hG
          go_wp2_with fail
          refine HGo.out.mono ?_
          rintro e w5 ⟨rfl, hb5⟩
          have HB5 := hid (HBt.out.below hb5)
          clear hb5 d0 d1 d2
          obtain ⟨c0, hbl⟩ := HCv.out _ _ _ HB5.out
          by_cases hbig : 64 < s.size
          · have hbigi : (64 : Int) < s.size := by omega
            go_wp2_with fail
            go_roundw
            case rel => exact ⟨j + 1, N, M, hlt, by go_num, by omega, HMn.out, HB5.out⟩
            case measure => simp [intOf]; omega
          · have hbigi : ¬ (64 : Int) < s.size := by omega
            have hs64 : s.size ≤ 64 := by omega
            obtain ⟨bb, hTk⟩ := Bt.take HB5.out (.inr (.inr (.inr rfl))) HP.out (fun s => by rw [HK.out.2.2.1]; decide) s hs64 (by omega)
            rw [HCh.out] at hTk
            have HT := hid (hTk w5 (Below.refl _ _))
            clear hTk
            go_wp2_with fail
            refine HT.out.mono ?_
            rintro e w6 ⟨rfl, hb6⟩
            have HB6 := hid hb6
            clear hb6 HT c0 hbl
            cases bb with
            | true =>
              obtain ⟨c0, hbl⟩ := HCv.out _ _ _ HB6.out
              have hM3 : (M s : Int) ≤ 3 := by
                obtain ⟨u, -, h2, -⟩ := Bt.used HB5.out s hs64
                rw [HMn.out s]
                rw [HK.out.2.2.1] at h2
                exact h2
              have hlk := Bt.look HB6.out s hfs
              obtain ⟨w7, hrun, hB7⟩ := Bt.store HB6.out (.inr (.inr (.inr rfl))) s hfs
              have hB7' : Bt w4 (fun k => k < w.heap.size ∨ k = ob ∨ k = lb ∨ k = mb) mb C (N ++ [⟨0, s, 1⟩]) (fun x => if x = s then M s + 1 else M x) w7 := by simpa using hB7
              have hMn7 : ∀ x, (fun x => if x = s then M s + 1 else M x) x = nr C.q 0 x (N ++ [⟨0, s, 1⟩]) := fun x => by
                have hq := HK.out.2.2.2.1
                rw [nr_snoc, ← HMn.out x]
                dsimp only
                by_cases e : x = s
                · subst e; rw [if_pos rfl, if_pos ⟨by omega, rfl⟩]
                · rw [if_neg e, if_neg (fun h => e h.2.symm)]; rfl
              have hlN : (N ++ [(⟨0, s, 1⟩ : Note)]).length ≤ j + 1 := by simp; omega
              obtain ⟨c1, hbl7⟩ := HCv.out _ _ _ hB7'
              obtain ⟨u, hu1, hu2, hU⟩ := Bt.used hB7' s hs64
              rw [HCh.out] at hU
              rw [HK.out.2.2.1, ← hMn7 s] at hu2
              have hu3 : nr C.q 0 s (N ++ [⟨0, s, 1⟩]) ≤ u := Nat.le_trans (nr_own HK.out.2.2.2.1) hu1
              rw [← hMn7 s] at hu3
              generalize hM2 : (fun x => if x = s then M s + 1 else M x) = M2 at *
              generalize N ++ [(⟨0, s, 1⟩ : Note)] = N2 at *
              have HU := hid (hU _ (Below.refl _ _))
              have HB7 := hid hB7'
              have HMn7 := hid hMn7
              clear hB7 hB7' hMn7 hu1 hU hM2 HB6
              go_wp2_with fail
              refine HU.out.mono ?_
              rintro e w8 ⟨rfl, hb8⟩
              have hB8 := HB7.out.below hb8
              obtain ⟨c8, hbl8⟩ := HCv.out _ _ _ hB8
              have hlk8 := Bt.look hB8 s hfs
              have HB8 := hid hB8
              have hg1 : ¬ (3 : Int) < (M2 s : Int) := by omega
              have hg2 : ¬ (u : Int) < (M2 s : Int) := by omega
              clear hb8 hB8
              go_wp2_with fail
              go_roundw
              case rel => exact ⟨j + 1, N2, M2, hlt, by go_num, hlN, HMn7.out, HB8.out⟩
              case measure => simp [intOf]; omega
            | false =>
              have hB7' : Bt w4 (fun k => k < w.heap.size ∨ k = ob ∨ k = lb ∨ k = mb) mb C N M w6 := by simpa using HB6.out
              have hlN : N.length ≤ j + 1 := by omega
              obtain ⟨c0, hbl⟩ := HCv.out _ _ _ hB7'
              obtain ⟨u, hu1, hu2, hU⟩ := Bt.used hB7' s hs64
              rw [HCh.out] at hU
              rw [HK.out.2.2.1, ← HMn.out s] at hu2
              have hu3 : nr C.q 0 s N ≤ u := Nat.le_trans (nr_own HK.out.2.2.2.1) hu1
              rw [← HMn.out s] at hu3
              have HMn7 := HMn
              generalize M = M2 at *
              generalize N = N2 at *
              have HU := hid (hU _ (Below.refl _ _))
              have HB7 := hid hB7'
              clear hB7' hu1 hU HB6
              go_wp2_with fail
              refine HU.out.mono ?_
              rintro e w8 ⟨rfl, hb8⟩
              have hB8 := HB7.out.below hb8
              obtain ⟨c8, hbl8⟩ := HCv.out _ _ _ hB8
              have hlk8 := Bt.look hB8 s hfs
              have HB8 := hid hB8
              have hg1 : ¬ (3 : Int) < (M2 s : Int) := by omega
              have hg2 : ¬ (u : Int) < (M2 s : Int) := by omega
              clear hb8 hB8
              go_wp2_with fail
              go_roundw
              case rel => exact ⟨j + 1, N2, M2, hlt, by go_num, hlN, HMn7.out, HB8.out⟩
              case measure => simp [intOf]; omega
      · have h100i : ¬ (j : Int) < 100 := by omega
        go_wp2_with fail
        refine HEnd.out.mono ?_
        rintro e w5 ⟨rfl, hb5⟩
        have HB5 := hid hb5
        clear hb5
        go_wp2_with fail
        go_ret
        exact ⟨rfl, HB5.out⟩
    · obtain rfl : j = nv := by omega
      go_wp2_with fail
      refine HEnd.out.mono ?_
      rintro e w5 ⟨rfl, hb5⟩
      have HB5 := hid hb5
      clear hb5
      go_wp2_with fail
      go_ret
      exact ⟨rfl, HB5.out⟩

/-- the law's main, of TopTwice -/
theorem main {H : Type} {enc : TypeId × Value → H} {W : World} {base : Nat} {spare : Nat → Bool} {held : Bool} {d1 d2 : DataW H} {p1 p2 : List MemPlace} (b1 : Option Addr) (len1 cap1 : Nat)
    (h1 : DataW.Trod enc Tryz.prog W base spare held 43 (.slice b1 len1 cap1) d1 p1) (b2 : Option Addr) (len2 cap2 : Nat) (h2 : DataW.Trod enc Tryz.prog W base spare held 43 (.slice b2 len2 cap2) d2 p2) :
    Calls Tryz.prog 8 #[.slice b1 len1 cap1, .slice b2 len2 cap2] W fun e w' => e = .returned (.bool true) ∧ Below W.heap.size W w' := by
  obtain ⟨fuel, hf⟩ := h1
  obtain ⟨fuel2, hf2⟩ := h2
  obtain ⟨a, l, c, f, he, hl, hs, hc⟩ := OpnS.strs_of Tryz.underlying43 Tryz.underlying9 (by kernel_rfl) (by simpa [Value.cells] using hf)
  cases he
  obtain ⟨a, l, c, g, he, hl2, hs2, hc2⟩ := OpnS.strs_of Tryz.underlying43 Tryz.underlying9 (by kernel_rfl) (by simpa [Value.cells] using hf2)
  cases he
  exact twice_core b1 len1 cap1 f b2 len2 cap2 g W hs hc hc2

end Go.Proofs.YtbihelpnojjacaaGreat.HotU

namespace Go.Proofs.YtbihelpnojjacaaGreat.topTwice
open Go.ChangeShapes Go.WideShapes Go.ChangeAt Go.RowKit Go.Deep
open Go.ChangeMaps (open_string shut_string)
set_option linter.unusedVariables false

theorem own : ownKnob Tryz.prog.godebug = none := by kernel_rfl
theorem laidOut : laidOutB Tryz.prog = true := by kernel_rfl

set_option maxRecDepth 100000 in
theorem lifted (os : Os) (started : os.Started) (H : Type) (enc : TypeId × Value → H) :
    ReturnsInHanded {} Tryz.checked os 8 .any (Rows.topTwiceSpec.pre6 enc Tryz.prog Tryz.f8 Rows.topTwiceRow.domain false) (Rows.topTwiceSpec.post enc Tryz.prog Tryz.f8 false true false false) := by
  refine returnsInHanded_of_change_sized (C := Tryz.checked) own started (by kernel_rfl) Tryz.func8
    (ChangeSpec.witness6 (enc := enc) (C := Tryz.checked) false ⟨#[], #[.slice none 0 0, .slice none 0 0], []⟩ 8 (by kernel_rfl) (by kernel_rfl) (by kernel_rfl) (by kernel_rfl)) ?_
  intro W base args ds gs before hval0 hW hcnd hsz0 _
  have hval : ∀ (j : Nat) t v, Tryz.f8.params[j]? = some t → args[j]? = some v → Value.okWide Tryz.prog W .any base t v := hval0
  have hW' := hW
  obtain ⟨p, q, hA0, hV, rfl, hfz, hnd⟩ := hW
  have hA : DataW.TrodAll enc Tryz.prog W 0 (fun _ => true) true Tryz.f8.params.toList args.toList ds p := hA0
  rw [Tryz.params8] at hA hval
  obtain ⟨v0, vs0, d0, ds0, p0, q0, hargs, rfl, rfl, h0, r0⟩ := trodAll_cons hA
  obtain ⟨v1, vs1, d1, ds1, p1, q1, rfl, rfl, rfl, h1, r1⟩ := trodAll_cons r0
  obtain ⟨rfl, rfl, rfl⟩ := trodAll_nil r1
  obtain rfl : args = #[v0, v1] := by cases args; simp_all
  obtain ⟨rfl, rfl⟩ := trodVars_none hV
  obtain ⟨a0, len0, cap0, rfl⟩ := okWide_slice Tryz.underlying43 (hval 0 43 v0 rfl rfl)
  obtain ⟨a1, len1, cap1, rfl⟩ := okWide_slice Tryz.underlying43 (hval 1 43 v1 rfl rfl)
  have k0 := h0
  have lt0 : ∀ x ∈ p0, x.block < W.heap.size := by obtain ⟨m, hm⟩ := k0; exact DataW.trod_lt m _ _ _ hm
  have k1 := h1
  have lt1 : ∀ x ∈ p1, x.block < W.heap.size := by obtain ⟨m, hm⟩ := k1; exact DataW.trod_lt m _ _ _ hm
  clear hA0 hval0
  refine (HotU.main a0 len0 cap0 h0 a1 len1 cap1 h1).mono fun e W' ⟨he, bel⟩ => ?_
  subst he
  exact ⟨_, rfl, _, _, _, [], _, [], hW', trodAll_mk1 (shut_bool Tryz.underlying4 _), (trodAll_cons_mk (Below.trod laidOut (by kernel_rfl) (of_decide_eq_true (by kernel_rfl)) k0 bel lt0) (trodAll_cons_mk (Below.trod laidOut (by kernel_rfl) (of_decide_eq_true (by kernel_rfl)) k1 bel lt1) trodAll_mk0)), rfl, bel.frame _, fun h => by cases h⟩

theorem over : Rows.topTwiceRow.holds Tryz.pinned (OpenSpec.ofChange Rows.topTwiceSpec) :=
  OpenClaim.holds_of_wide 8 Tryz.f8 rfl rfl rfl rfl rfl rfl rfl ⟨rfl, rfl, rfl, rfl, rfl⟩ rfl rfl rfl rfl rfl (by kernel_rfl) Tryz.func8 (by kernel_rfl)
    (of_decide_eq_true (by kernel_rfl)) (by unfold Func.isWrapper; first | (rw [if_pos (by decide +kernel)]; kernel_rfl) | (rw [if_neg (by decide +kernel)]; exact ⟨rfl, rfl⟩))
    (fun os started H enc _ => lifted os started H enc)

theorem proved : Rows.TopTwiceSaid := over
#print axioms proved
end Go.Proofs.YtbihelpnojjacaaGreat.topTwice
