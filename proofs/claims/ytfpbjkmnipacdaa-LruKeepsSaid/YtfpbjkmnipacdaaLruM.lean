/- The walk of LruKeeps. -/
import Derived.Test.YtfpbjkmnipacdaaLruK
import Derived.Test.YtfpbjkmnipacdaaLruL
import Derived.Test.YtfpbjkmnipacdaaStr
import Derived.Deep.QuietTactic
namespace Go.Proofs.Ytfpbjkmnipacdaa.LruM
open Go.ChangeShapes Go.WideShapes Go.ChangeAt Go.RowKit Base Wri Map LruA LruB LruC LruD LruE LruF LruK LruL Str

theorem infoStr : (Try.prog.info? 9).map (fun i => (i.zero, i.size, i.bytes)) = some (some (.string ⟨#[]⟩), 1, 16) := by kernel_rfl

/-- is a text in a list? -/
def hasB (s : ByteArray) (l : List ByteArray) : Bool := l.any fun x => decide (x = s)
theorem hasB_iff (s : ByteArray) (l : List ByteArray) : hasB s l = true ↔ s ∈ l := by
  unfold hasB
  rw [List.any_eq_true]
  exact ⟨fun ⟨x, hx, e⟩ => of_decide_eq_true e ▸ hx, fun h => ⟨s, h, by simp⟩⟩
theorem hasB_snoc (s x : ByteArray) (l : List ByteArray) : hasB s (l ++ [x]) = (hasB s l || decide (x = s)) := by simp [hasB]

/-- one more key -/
theorem put_step {w0 w : World} {S : Spot} {L : List Ent} {f : Nat → ByteArray} {i : Nat} (h : Own w0 S L w) (hk : Kept f S.most i L) (hs : (f i).size ≤ maxLen) :
    Calls Try.prog 37 #[ptr S.mb, .string (f i), .int .i64 i] w fun e w' => ∃ (s : ByteArray) (b : Bool) (L' : List Ent), e = .returned (.tuple #[.string s, .bool b, .int .i64 0]) ∧ Own w0 S L' w' ∧ Kept f S.most (i + 1) L' := by
  by_cases hin : ∃ x ∈ L, x.k = f i
  · obtain ⟨x, hx, hxk⟩ := hin
    obtain ⟨A, B, rfl⟩ := List.append_of_mem hx
    rw [← hxk]
    refine (own_put_there h i).mono ?_
    rintro e w' ⟨he, h1⟩
    exact ⟨_, _, _, he, h1, hk.there h.lru.rest.keys hxk⟩
  · have hn : ∀ x ∈ L, x.k ≠ f i := fun x hx e => hin ⟨x, hx, e⟩
    rcases Nat.lt_or_ge L.length S.most with hl | hl
    · refine (own_put_room h hs hn hl i).mono ?_
      rintro e w' ⟨he, nb, h1⟩
      exact ⟨_, _, _, he, h1, hk.room hn hl nb⟩
    · have hl2 : L.length = S.most := Nat.le_antisymm h.lru.len hl
      cases L with
      | nil => have := h.lru.rest.m1; simp at hl2; omega
      | cons y r =>
        refine (own_put_full h hs hn hl2 i).mono ?_
        rintro e w' ⟨he, nb, h1⟩
        exact ⟨_, _, _, he, h1, hk.full hn hl2 nb⟩

theorem own_grown {w0 w w' : World} {S : Spot} {L : List Ent} {row : Option Nat} (h : Own w0 S L w) (hg : w.grownBy w' row) (hr : ∀ g, row = some g → ¬ Has S L g ∧ w0.heap.size ≤ g) : Own w0 S L w' :=
  ⟨h.lru.wr (Wr.ofGrown (R := fun k => row = some k) hg (fun _ e => e)) (fun k hk e => (hr k e).1 hk), h.above, h.bel.grown hg h.bel.size (fun k e => (hr k e).2)⟩

def Rel1 (w : World) (S : Spot) (f : Nat → ByteArray) (len : Nat) (i : Value) (wr : World) : Prop :=
  ∃ (k : Nat) (L : List Ent), k ≤ len ∧ k ≤ 200 ∧ i = .int .i64 k ∧ Own w S L wr ∧ Kept f S.most k L

def Rel2 (w : World) (S : Spot) (f : Nat → ByteArray) (L : List Ent) (i : Nat) (seen q : Value) (wr : World) : Prop :=
  ∃ (m : Int) (ss : List ByteArray) (v : Value), v = seen ∧ q = .int .i64 m ∧ -1 ≤ m ∧ m ≤ i ∧ Own w S L wr ∧ wr.ownsRow w.heap.size 9 1 v ss.length (ss.map Value.string) ∧ (∀ g, v.ownBlock = some g → ¬ Has S L g) ∧ (∀ j : Nat, m < j → j < i + 1 → f j ∈ ss) ∧ ss.length ≤ 4096

set_option maxRecDepth 100000 in
set_option maxHeartbeats 4000000 in
theorem keeps_core (m0 : Nat) (hm0 : m0 ≤ 255) (a : Option Addr) (len cap : Nat) (f : Nat → ByteArray) (sv : Value) (hsv : sv = .slice a len cap) (w : World) (hlen : len ≤ 9223372036854775807) (HS : Hid (Strs w a len f)) (HZ : Hid (∀ i, i < len → (f i).size ≤ maxLen)) :
    Calls Try.prog 6 #[.int .u8 m0, sv] w fun e w' => e = .returned (.bool true) ∧ Below w.heap.size w w' := by
  subst hsv
  obtain ⟨i0, hi, hz0, hz1, hz2⟩ := info_parts infoStr
  go_enter Try.func6, Try.ntmps6
  obtain ⟨n, hn⟩ : ∃ n : Nat, m0 % 6 + 1 = n := ⟨_, rfl⟩
  have hn1 : 1 ≤ n := by omega
  have hn2 : n ≤ 6 := by omega
  have hni : ((m0 : Int) % 6 + 1) = (n : Int) := by omega
  go_wp2_with fail
  refine (own_new n w hn1 (by omega)).mono ?_
  rintro e w1 ⟨S, rfl, hm, h1⟩
  have HM := hid hm
  have H1 := hid h1
  clear h1 hm hn hni
  unfold ptr at *
  go_wp2_with fail
  go_loopw [8] (fun i wr => Rel1 w S f len i wr) (fun i _ => len - (intOf i).toNat)
  case atStart => exact ⟨0, [], Nat.zero_le _, by omega, rfl, H1.out, kept_zero⟩
  case round =>
    obtain ⟨k, L, hk, hk2, rfl, hO, hK⟩ := hrel
    have HO := hid hO
    have HK := hid hK
    clear hO hK
    by_cases hlt : k < len
    · by_cases hl2 : k < 200
      · obtain ⟨g, o, rfl, hg, hc⟩ := HS.out (by omega)
        have HC : Hid (∀ wx, Below w.heap.size w wx → g < wx.heap.size ∧ ∀ j, j < len → wx.cell? ⟨g, o + j, none⟩ = some (.string (f j))) := hid (fun wx hb => ⟨Nat.lt_of_lt_of_le hg hb.size, fun j hj => (hb.cell (p := ⟨g, o + j, none⟩) hg).trans (hc j hj)⟩)
        clear hc
        have c0 := (HC.out wr HO.out.bel).2 k hlt
        have hgs := (HC.out wr HO.out.bel).1
        have HP := hid (put_step HO.out HK.out (HZ.out k hlt))
        unfold ptr at *
        go_wp2_with fail
        refine HP.out.mono ?_
        rintro e w2 ⟨s, b, L', rfl, h2, hk3⟩
        have HO2 := hid h2
        have HK2 := hid hk3
        have HLn := hid (len_any h2.lru.rest)
        have hle : L'.length ≤ n := by have := h2.lru.len; rw [HM.out] at this; exact this
        clear HP HO HK h2 hk3 c0 hgs
        obtain ⟨ll, hll⟩ : ∃ ll, L'.length = ll := ⟨_, rfl⟩
        rw [hll] at HLn hle
        have hle2 : decide (n < ll) = false := by simp; omega
        clear hll hle
        unfold ptr at *
        go_wp2_with fail
        refine HLn.out.mono ?_
        rintro e w3 ⟨rfl, rfl⟩
        clear HLn
        go_wp2_with fail
        go_loopw [9, 10] (fun seen q wr => Rel2 w S f L' k seen q wr) (fun _ q _ => (intOf q + 1).toNat)
        case atStart => exact ⟨k, [], _, rfl, rfl, by omega, by omega, HO2.out, ⟨rfl, .inl ⟨rfl, rfl⟩⟩, by simp [Value.ownBlock], fun j h1 h2 => by omega, by simp⟩
        case round =>
          obtain ⟨m, ss, v, rfl, rfl, hm1, hm2, hO, hrow, hfar, hss, hsl⟩ := hrel
          obtain ⟨va, vc, rfl⟩ := owns_shape hrow
          have HO3 := hid hO
          have HR := hid hrow
          have HF := hid hfar
          have HSS := hid hss
          clear hO hrow hfar hss
          by_cases hm0 : 0 ≤ m
          · obtain ⟨q, rfl⟩ : ∃ q : Nat, m = q := ⟨m.toNat, by omega⟩
            by_cases hsn : ss.length < n
            · have hqk : q < len := by omega
              go_wp2_with fail
              go_loopw [11, 12] (fun old j wx => ∃ (j0 mm : Nat), j = .int .i64 j0 ∧ j0 ≤ ss.length ∧ old = .bool (hasB (f q) (ss.take j0)) ∧ wr.drewN mm = wx) (fun _ j _ => ss.length - (intOf j).toNat)
              case atStart => exact ⟨0, 0, rfl, Nat.zero_le _, rfl, rfl⟩
              case round =>
                obtain ⟨j, mm, rfl, hj, rfl, hwx⟩ := hrel
                have HWX := hid hwx
                by_cases hjl : j < ss.length
                · obtain ⟨sj, hsj⟩ : ∃ s, ss[j]? = some s := ⟨ss[j], List.getElem?_eq_getElem hjl⟩
                  obtain ⟨g1, q1, hv1, _, hg1, hr1⟩ := owns_at HR.out (by omega)
                  have y1 : wr.cell? ⟨g1, j, none⟩ = some (.string sj) := by rw [← hwx]; exact hr1 j _ hjl (by rw [List.getElem?_map, hsj]; rfl)
                  have y2 : wr.cell? ⟨g, o + q, none⟩ = some (.string (f q)) := by rw [← hwx]; exact (HC.out _ HO3.out.bel).2 q hqk
                  have hzg1 : g1 < wr.heap.size := by rw [← hwx]; exact hg1
                  have hzg : g < wr.heap.size := by rw [← hwx]; exact (HC.out _ HO3.out.bel).1
                  have HT : Hid (ss.take (j + 1) = ss.take j ++ [sj]) := hid (by rw [List.take_add_one, hsj]; rfl)
                  injection hv1 with e1 e2 e3
                  subst e1
                  clear hwx hr1 e2 e3 hsj hg1
                  have HB : Hid (hasB (f q) (ss.take (j + 1)) = (hasB (f q) (ss.take j) || decide (sj = f q))) := hid (by rw [HT.out, hasB_snoc])
                  rcases hold : hasB (f q) (ss.take j) with _ | _
                  · rw [hold, Bool.false_or] at HB
                    clear hold
                    go_wp2_with fail
                    go_quiet (fail)
                    go_wp2_with fail
                    go_roundw
                    case rel => exact ⟨j + 1, mm + nq, by go_num, by omega, by rw [HB.out, text_eq], by rw [← HWX.out, World.drewN_drewN]⟩
                    case measure => simp [intOf]; omega
                  · rw [hold, Bool.true_or] at HB
                    clear hold
                    go_wp2_with fail
                    go_quiet (fail)
                    go_wp2_with fail
                    go_roundw
                    case rel => exact ⟨j + 1, mm + nq, by go_num, by omega, by rw [HB.out], by rw [← HWX.out, World.drewN_drewN]⟩
                    case measure => simp [intOf]; omega
                · obtain rfl : j = ss.length := by omega
                  rw [List.take_length]
                  have HO4 := hid (show Own w S L' wr by rw [← hwx]; exact HO3.out.below ⟨rfl, rfl, rfl, Nat.le_refl _, fun _ _ => rfl⟩)
                  have HR4 := hid (show wr.ownsRow w.heap.size 9 1 (.slice va ss.length vc) ss.length (ss.map Value.string) by rw [← hwx]; exact owns_keep HR.out (fun g hg => rfl))
                  clear hwx HWX HO3 HR
                  rcases hold : hasB (f q) ss with _ | _
                  · have hnew : f q ∉ ss := fun hm => by rw [(hasB_iff _ _).2 hm] at hold; cases hold
                    have HNew := hid hnew
                    clear hold hnew
                    have y2 : wr.cell? ⟨g, o + q, none⟩ = some (.string (f q)) := (HC.out _ HO4.out.bel).2 q hqk
                    have hzg : g < wr.heap.size := (HC.out _ HO4.out.bel).1
                    have hown1 : (wr.alloc (.cells #[.string (f q)] 9)).ownsRow w.heap.size 9 1 (.slice va ss.length vc) ss.length (ss.map Value.string) := World.ownsRow.alloc HR4.out _
                    go_wp2_with (at_builtin; (first
                      | (refine wpList_append_own_at _ rfl _ _ 50 rfl w.heap.size 9 i0 (.string ⟨#[]⟩) 1 16 Try.underlying50 hi hz0 hz1 hz2 rfl (by decide) _ _ _ rfl hown1 ⟨wr.heap.size, 0, none⟩ 1 1 [.string (f q)] rfl (by rfl) (cell_one_new _ _ _) (by intro u hu; obtain rfl := List.mem_singleton.1 hu; rfl) (by unfold maxLen; omega) (by omega) (by have := HO4.out.bel.size; simp; omega) ?_; intro v5 w5 hown5 hgr5 hnil5 hat5
                         have HO5 := hid (own_grown (HO4.out.below ((Below.refl wr.heap.size wr).alloc (Nat.le_refl _) (.cells #[.string (f q)] 9))) hgr5 (fun g hg => ⟨HF.out g hg, (HR4.out.lt g hg).1⟩))
                         have HR5 : Hid (w5.ownsRow w.heap.size 9 1 v5 (ss ++ [f q]).length ((ss ++ [f q]).map Value.string)) := hid (by rw [List.length_append, List.map_append]; exact hown5)
                         have HF5 : Hid (∀ g, v5.ownBlock = some g → ¬ Has S L' g) := hid (fun g hg hh => by
                           rcases hat5 with e | e
                           · exact HF.out g (e ▸ hg) hh
                           · rw [e] at hg
                             have e2 := Option.some.inj hg
                             have := HO4.out.lru.rest.lt g hh
                             simp at e2; omega)
                         have y5 := (HC.out w5 HO5.out.bel).2 q hqk
                         have hz5 := (HC.out w5 HO5.out.bel).1
                         clear hown5 hgr5 hnil5 hat5 HO4 HR4 y2 hzg hown1)))
                    obtain ⟨x, hx, hxk, hxv⟩ := HK2.out.here HO5.out.lru.rest.keys (k := q) (by omega) (seen := ss) (fun j h1 h2 => HSS.out j (by omega) h2) (by rw [HM.out]; exact hsn) HNew.out
                    have HP := hid (peek_yes HO5.out.lru.rest hx)
                    rw [hxk, hxv] at HP
                    clear hx hxk hxv y5 hz5
                    unfold ptr at *
                    refine HP.out.mono ?_
                    rintro e w6 ⟨rfl, rfl⟩
                    clear HP
                    go_wp2_with fail
                    go_roundw
                    case rel => exact ⟨(q : Int) - 1, ss ++ [f q], v5, rfl, by go_num, by omega, by omega, HO5.out, HR5.out, HF5.out, fun j h1 h2 => by
                      by_cases hjq : j = q
                      · subst hjq; simp
                      · exact List.mem_append.2 (.inl (HSS.out j (by omega) h2)), by simp; omega⟩
                    case measure => first | (simp [intOf]; done) | (simp [intOf]; omega)
                  · have hm : f q ∈ ss := (hasB_iff _ _).1 hold
                    have HMem := hid hm
                    clear hold hm
                    go_wp2_with fail
                    go_roundw
                    case rel => exact ⟨(q : Int) - 1, ss, _, rfl, by go_num, by omega, by omega, HO4.out, HR4.out, HF.out, fun j h1 h2 => by
                      by_cases hjq : j = q
                      · subst hjq; exact HMem.out
                      · exact HSS.out j (by omega) h2, hsl⟩
                    case measure => first | (simp [intOf]; done) | (simp [intOf]; omega)
            · go_wp2_with fail
              go_roundw
              case rel => exact ⟨k + 1, L', by omega, by omega, by go_num, HO3.out, HK2.out⟩
              case measure => simp [intOf]; omega
          · obtain rfl : m = -1 := by omega
            go_wp2_with fail
            go_roundw
            case rel => exact ⟨k + 1, L', by omega, by omega, by go_num, HO3.out, HK2.out⟩
            case measure => simp [intOf]; omega
      · obtain rfl : k = 200 := by omega
        go_wp2_with fail
        refine (live_look _).mono ?_
        rintro e w2 ⟨rfl, hb⟩
        have HB := hid (HO.out.bel.trans (hb.mono HO.out.bel.size))
        clear hb
        go_wp2_with fail
        go_ret
        exact ⟨rfl, HB.out⟩
    · obtain rfl : k = len := by omega
      go_wp2_with fail
      refine (live_look _).mono ?_
      rintro e w2 ⟨rfl, hb⟩
      have HB := hid (HO.out.bel.trans (hb.mono HO.out.bel.size))
      clear hb
      go_wp2_with fail
      go_ret
      exact ⟨rfl, HB.out⟩

end Go.Proofs.Ytfpbjkmnipacdaa.LruM
