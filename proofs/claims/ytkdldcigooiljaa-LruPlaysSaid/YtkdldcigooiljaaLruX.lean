/- LruNone. -/
import Derived.Test.YtkdldcigooiljaaLruW
import Derived.Test.YtkdldcigooiljaaOpnS
namespace Go.Proofs.Ytkdldcigooiljaa.LruX
open Go.ChangeShapes Go.WideShapes Go.ChangeAt Go.RowKit Go.Deep Base Wri LruA LruB LruC LruD LruE LruF LruL LruR LruU LruV LruW RefL RefM RefN RefO RefP Opn

structure Deed where
  kind : Int
  key : ByteArray
  val : Int
  a : Option Addr
  n : Nat
  cap : Nat
  f : Nat → ByteArray

def dw (d : Deed) : Array Value := dv d.kind d.key d.val (.slice d.a d.n d.cap)

def Deeds (w : World) (a : Option Addr) (len : Nat) (D : Nat → Deed) : Prop :=
  len ≤ 9223372036854775807 ∧ (0 < len → ∃ p q, a = some ⟨p, q, none⟩ ∧ p < w.heap.size ∧ ∀ i, i < len → ∀ (j : Nat) v, (dw (D i))[j]? = some v → w.cell? ⟨p, q + i * 4 + j, none⟩ = some v) ∧
  ∀ i, i < len → (D i).key.size ≤ maxLen ∧ (D i).n ≤ 9223372036854775807 ∧ (∀ j, j < (D i).n → ((D i).f j).size ≤ maxLen) ∧ Strs w (D i).a (D i).n (D i).f

theorem underD : ∃ fs, Try.prog.underlying 37 = some (.struct fs) ∧ oneCellFields Try.prog fs = true ∧ Try.prog.cellsOf 37 = fs.size ∧ fs.size = 4 ∧
    (fs.toList.map (·.type)) = [3, 9, 3, 35] := ⟨_, Try.underlying37, by kernel_rfl, by kernel_rfl, by kernel_rfl, by kernel_rfl⟩

theorem deeds_of {H : Type} {enc : TypeId × Value → H} {W : World} {base : Nat} {spare : Nat → Bool} {held : Bool} {a0 : Option Addr} {len0 cap0 : Nat} {d : DataW H} {p : List MemPlace}
    (h : DataW.Trod enc Try.prog W base spare held 22 (.slice a0 len0 cap0) d p) : ∃ D, Deeds W a0 len0 D := by
  obtain ⟨fuel, hf⟩ := h
  obtain ⟨fs, hu, h1, h2, h5, ht⟩ := underD
  rcases row_at Try.underlying22 hu h1 h2 (by simpa [Value.cells] using hf) with ⟨rfl, rfl⟩ | ⟨a, rfl, hl, hm, hi⟩
  · exact ⟨fun _ => ⟨0, ⟨#[]⟩, 0, none, 0, 0, fun _ => ⟨#[]⟩⟩, by omega, fun h => by omega, fun i h => by omega⟩
  · have each : ∀ i, i < len0 → ∃ D : Deed, (∀ (j : Nat) v, (dw D)[j]? = some v → W.cell? (a.add (i * 4 + j)) = some v) ∧ D.key.size ≤ maxLen ∧ D.n ≤ 9223372036854775807 ∧ (∀ j, j < D.n → (D.f j).size ≤ maxLen) ∧ Strs W D.a D.n D.f := by
      intro i hil
      have hi := hi i hil
      rw [h5] at hi
      have hfl : fs.toList.length = 4 := by simpa using h5
      have hty : ∀ j (hj : j < 4), ∃ f, fs[j]? = some f ∧ some f.type = ([3, 9, 3, 35] : List TypeId)[j]? := fun j hj => by
        refine ⟨fs[j]'(by omega), Array.getElem?_eq_getElem (by omega), ?_⟩
        rw [← ht]
        simp [h5, hj]
      obtain ⟨f0, g0, t0⟩ := hty 0 (by omega)
      obtain ⟨f1, g1, t1⟩ := hty 1 (by omega)
      obtain ⟨f2, g2, t2⟩ := hty 2 (by omega)
      obtain ⟨f3, g3, t3⟩ := hty 3 (by omega)
      obtain ⟨v0, z0, k0, c0, r0⟩ := hi 0 f0 g0
      obtain ⟨v1, z1, k1, c1, r1⟩ := hi 1 f1 g1
      obtain ⟨v2, z2, k2, c2, r2⟩ := hi 2 f2 g2
      obtain ⟨v3, z3, k3, c3, r3⟩ := hi 3 f3 g3
      simp only [List.getElem?_cons_zero, List.getElem?_cons_succ, Option.some.injEq] at t0 t1 t2 t3
      rw [t0] at r0; rw [t1] at r1; rw [t2] at r2; rw [t3] at r3
      obtain ⟨n0, e0, _, _⟩ := DataW.trod_int Try.underlying3 r0
      obtain ⟨n1, e1, _, hs1⟩ := DataW.trod_string Try.underlying9 r1
      obtain ⟨n2, e2, _, _⟩ := DataW.trod_int Try.underlying3 r2
      obtain ⟨ca, cn, cc, cf, e3, hn, hs, hc⟩ := OpnS.strs_of Try.underlying35 Try.underlying9 (by kernel_rfl) r3
      simp only [List.cons.injEq, and_true] at e0 e1 e2
      subst e0 e1 e2 e3
      refine ⟨⟨n0, n1, n2, ca, cn, cc, cf⟩, fun j v hv => ?_, hs1, hn, hs, hc⟩
      match j, hv with
      | 0, hv => simp [dw, dv] at hv; rw [← hv]; exact c0
      | 1, hv => simp [dw, dv] at hv; rw [← hv]; exact c1
      | 2, hv => simp [dw, dv] at hv; rw [← hv]; exact c2
      | 3, hv => simp [dw, dv] at hv; rw [← hv]; exact c3
      | j + 4, hv => simp [dw, dv] at hv
    obtain ⟨D, hD⟩ := choose2 ⟨0, ⟨#[]⟩, 0, none, 0, 0, fun _ => ⟨#[]⟩⟩ each
    refine ⟨D, by unfold maxLen at hm; omega, fun h0 => ?_, fun i hil => (hD i hil).2⟩
    obtain ⟨b, off, spot⟩ := a
    have h00 := (hD 0 h0).1 0 _ rfl
    have hspot : spot = none := by simpa [Addr.add] using World.cell?_spot h00
    subst hspot
    refine ⟨b, off, rfl, World.block_lt_of_cell? _ _ h00, fun i hil j v hv => ?_⟩
    have h1 := (hD i hil).1 j v hv
    rw [Go.WideShapes.add_plain] at h1
    rw [show off + i * 4 + j = off + (i * 4 + j) by omega]
    exact h1

/-- both of them, made since w -/
theorem two_new (most : Nat) (w w1 : World) (S : Spot) (hm : S.most = most) (h1 : IsLru w1 S []) (hb : Below w.heap.size w w1) (hab : ∀ k, Has S [] k → w.heap.size ≤ k) :
    Two w (w1.alloc (.cells #[.int .i64 most, .slice none 0 0] 121)) S [] w1.heap.size (.slice none 0 0) := by
  subst hm
  refine ⟨h1.below ((Below.refl _ _).alloc (Nat.le_refl _) _), ⟨heap_alloc_new _ _, ⟨rfl, .inl ⟨rfl, rfl⟩⟩, (fun g e => by cases e), hb.size⟩, hab, fun k hk => ⟨fun e => ?_, fun e => by cases e⟩⟩
  have := h1.rest.lt k hk
  omega

/-- what a loop over both keeps -/
def St (w : World) (S : Spot) (rb : Nat) (wr : World) : Prop := ∃ L v, Two w wr S L rb v ∧ Below w.heap.size w wr
theorem St.thn {w wr w2 : World} {S : Spot} {rb : Nat} {L : List Ent} {v : Value} (hb : Below w.heap.size w wr) (h0 : Two w wr S L rb v) (h : Then w wr S L rb v w2) : St w S rb w2 := by
  obtain ⟨L', v', h1, h2, h3⟩ := h
  exact ⟨L', v', h1, hb.trans (h2.below _ hb.size (fun k hk => h0.up hk))⟩

theorem cell_new_of (w : World) (s : ByteArray) : (w.alloc (.cells #[.string s] 9)).cell? ⟨w.heap.size, 0 + 0, none⟩ = some (.string s) := by
  have := heap_alloc_new w (.cells #[.string s] 9)
  unfold World.cell?
  rw [this]
  rfl

/-- texts that a call owns -/
theorem strs_own {w : World} {B n m : Nat} {v : Value} {xs : List Value} {ss : List ByteArray} (h : w.ownsRow B 9 1 v n xs) (hn : n = m) (hm : ss.length = m) (hx : xs = ss.map Value.string) :
    ∃ a c, v = .slice a m c ∧ Strs w a m (fun i => ss[i]?.getD ⟨#[]⟩) := by
  subst hx
  subst hn
  by_cases h0 : 0 < n
  · obtain ⟨g, c, rfl, _, hg, hc⟩ := owns_at h h0
    refine ⟨_, _, rfl, fun _ => ⟨g, 0, rfl, hg, fun i hi => ?_⟩⟩
    rw [Nat.zero_add]
    refine hc i _ hi ?_
    have hs : ss[i]? = some (ss[i]'(by omega)) := List.getElem?_eq_getElem (by omega)
    show (ss.map Value.string)[i]? = some (Value.string (ss[i]?.getD ⟨#[]⟩))
    rw [List.getElem?_map, hs]
    rfl
  · obtain ⟨va, vc, rfl⟩ := owns_shape h
    exact ⟨_, _, rfl, fun h => absurd h h0⟩

set_option maxRecDepth 100000 in
set_option maxHeartbeats 4000000 in
theorem none_core (a : Option Addr) (len cap : Nat) (D : Nat → Deed) (sv : Value) (hsv : sv = .slice a len cap) (w : World) (HC : Hid (Deeds w a len D)) :
    Calls Try.prog 3 #[sv] w fun e w' => e = .returned (.bool true) ∧ Below w.heap.size w w' := by
  have HSV := hid hsv
  clear hsv
  go_enter Try.func3, Try.ntmps3
  go_wp2_with fail
  refine (put_nil _ _ w).mono ?_
  rintro e w1 ⟨rfl, rfl⟩
  go_wp2_with fail
  refine (get_nil _ w).mono ?_
  rintro e w1 ⟨rfl, rfl⟩
  go_wp2_with fail
  refine (peek_nil _ w).mono ?_
  rintro e w1 ⟨rfl, rfl⟩
  go_wp2_with fail
  refine (new_yes 3 w (by omega) (by omega)).mono ?_
  rintro e w1 ⟨S, rfl, hm, hl, hb, hab⟩
  have HT := hid (two_new 3 w w1 S hm hl hb hab)
  have HB : Hid (Below w.heap.size w (w1.alloc (.cells #[.int .i64 3, .slice none 0 0] 121))) := hid (hb.alloc hb.size _)
  have HN := hid (rnew_yes 3 w1 (by omega) (by omega))
  clear hm hl hb hab
  unfold ptr at *
  go_wp2_with fail
  refine HN.out.mono ?_
  rintro e w2 ⟨rfl, rfl⟩
  clear HN
  have hst : St w S w1.heap.size (w1.alloc (.cells #[.int .i64 3, .slice none 0 0] 121)) := ⟨_, _, HT.out, HB.out⟩
  have HST := hid hst
  clear HT HB hst
  generalize w1.heap.size = rb at *
  generalize w1.alloc (.cells #[.int .i64 3, .slice none 0 0] 121) = wa at *
  go_wp2_with fail
  go_loopw [15] (fun i wr => ∃ k : Nat, k ≤ len ∧ k ≤ 100 ∧ i = .int .i64 k ∧ St w S rb wr) (fun i _ => len - (intOf i).toNat)
  case atStart => exact ⟨0, Nat.zero_le _, by omega, rfl, HST.out⟩
  case round =>
    obtain ⟨k, hk, hk1, rfl, L, v, h2, hB⟩ := hrel
    have hlen := HC.out.1
    have H2 := hid h2
    have HB := hid hB
    have hsz := hB.size
    clear h2 hB
    by_cases hlt : k < len
    · by_cases hlt1 : k < 100
      · obtain ⟨p, q, rfl, hp, hc⟩ := HC.out.2.1 (by omega)
        have hck := hc k hlt
        obtain ⟨hks, hDn, hDs, hDf⟩ := HC.out.2.2 k hlt
        have c0 : wr.cell? ⟨p, q + k * 4, none⟩ = some (.int .i64 (D k).kind) := (HB.out.cell (p := ⟨p, q + k * 4, none⟩) hp).trans (hck 0 _ rfl)
        have c1 : wr.cell? ⟨p, q + k * 4 + 1, none⟩ = some (.string (D k).key) := (HB.out.cell (p := ⟨p, q + k * 4 + 1, none⟩) hp).trans (hck 1 _ rfl)
        have c2 : wr.cell? ⟨p, q + k * 4 + 2, none⟩ = some (.int .i64 (D k).val) := (HB.out.cell (p := ⟨p, q + k * 4 + 2, none⟩) hp).trans (hck 2 _ rfl)
        have c3 : wr.cell? ⟨p, q + k * 4 + 3, none⟩ = some (.slice (D k).a (D k).n (D k).cap) := (HB.out.cell (p := ⟨p, q + k * 4 + 3, none⟩) hp).trans (hck 3 _ rfl)
        have HDO := hid (do_two H2.out hsz (D k).kind (D k).key hks (D k).val (D k).a (D k).n (D k).cap (D k).f hDn hDs (fun h0 => by
          obtain ⟨g, o, e, hg, hcc⟩ := hDf h0
          exact ⟨g, o, e, Nat.lt_of_lt_of_le hg hsz, fun i hi => (HB.out.cell (p := ⟨g, o + i, none⟩) hg).trans (hcc i hi)⟩) (fun h0 g o e => by
          obtain ⟨g2, o2, e2, hg, _⟩ := hDf h0
          rw [e] at e2; cases e2; exact hg))
        have hsv2 := HSV.out
        clear hc hck hks hDn hDs hDf
        subst hsv2
        unfold ptr dv at *
        go_wp2_with fail
        refine HDO.out.mono ?_
        rintro e w3 ⟨rfl, hth⟩
        have hst := St.thn HB.out H2.out hth
        obtain ⟨L3, v3, h3, hB3⟩ := hst
        have HK := hid (LruQ.keys_any h3.lru)
        have H3 := hid h3
        have HB3 := hid hB3
        clear hth h3 hB3 c0 c1 c2 c3
        unfold ptr at *
        go_wp2_with fail
        refine HK.out.mono ?_
        rintro e w4 ⟨⟨x, rfl, hown⟩, hb4⟩
        rcases hown.2 with ⟨rfl, h0⟩ | ⟨g, c, cur, rfl, hg, hh, hc1, hc2, hc3, hc4⟩
        · have HST4 : Hid (St w S rb w4) := hid ⟨L3, v3, H3.out.below hb4, HB3.out.trans (hb4.mono HB3.out.size)⟩
          clear hown hb4 h0
          go_wp2_with fail
          go_loop [17] (fun i => i = .int .i64 0) (fun _ => 0)
          case atStart => rfl
          case round =>
            obtain rfl := hrel
            go_wp2_with fail
            go_roundw
            case rel => exact ⟨k + 1, by omega, by omega, by go_num, HST4.out⟩
            case measure => simp [intOf]; omega
        · have HF4 := hid (Two.below H3.out hb4)
          have HB4 := hid (HB3.out.trans (hb4.mono HB3.out.size))
          have hL4 := H3.out.len
          have hg2 : g < w4.heap.size := (Array.getElem?_eq_some_iff.1 hh).1
          have hgw := HB3.out.size
          have HG : Hid (∀ j, Ft S L3 rb v3 j → j ≠ g) := hid fun j hj => by have := H3.out.lt hj; omega
          obtain ⟨nk, hnk⟩ : ∃ nk, L3.length = nk := ⟨_, rfl⟩
          rw [hnk] at hc1 hL4 ⊢
          have HH := hid hh
          have HZ := hid hc3
          clear hown hb4 hc4 hnk hh hc3
          go_wp2_with fail
          go_loopw [17] (fun i wx => ∃ (y : Nat) (cu : Array Value), y ≤ nk ∧ i = .int .i64 y ∧ wx.heap[g]? = some (.cells cu 9) ∧ cu.size = c * 1 ∧ Wr (fun j => j = g) w4 wx) (fun i _ => nk - (intOf i).toNat)
          case atStart => exact ⟨0, cur, Nat.zero_le _, rfl, HH.out, HZ.out, Wr.refl _ _⟩
          case round =>
            obtain ⟨y, cu, hy, rfl, hcu, hcz, hwx⟩ := hrel
            have HWX := hid hwx
            have HCU := hid hcu
            clear hwx
            by_cases hyl : y < nk
            · obtain ⟨cy, hget⟩ : ∃ cy, wr.cell? ⟨g, y, none⟩ = some cy := ⟨cu[y]'(by omega), by simp [World.cell?, hcu]⟩
              have hfz : wr.frozen? ⟨g, y, none⟩ = false := by simp [World.frozen?, hcu]
              have hsz3 : Hid (cu.size = c * 1) := hid hcz
              have hgl : g < wr.heap.size := (Array.getElem?_eq_some_iff.1 hcu).1
              clear hcu hcz
              go_wp2_with fail
              go_roundw
              case rel => exact ⟨y + 1, _, by omega, by go_num, by have := heap_setCell_same _ g y _ _ (.string ⟨#[63]⟩) HCU.out; exact this, by simpa using hsz3.out, HWX.out.trans (Wr.set ⟨g, y, none⟩ _ rfl)⟩
              case measure => simp [intOf]; omega
            · obtain rfl : y = nk := by omega
              have HST5 : Hid (St w S rb wr) := hid ⟨L3, v3, Two.wr HF4.out HWX.out (fun j hj => HG.out j hj), HB4.out.trans (HWX.out.below w.heap.size HB4.out.size (fun j e => by subst e; omega))⟩
              clear hcu hcz
              go_wp2_with fail
              go_roundw
              case rel => exact ⟨k + 1, by omega, by omega, by go_num, HST5.out⟩
              case measure => simp [intOf]; omega
      · have hsv2 := HSV.out
        have HLv := hid (live_look wr)
        subst hsv2
        unfold ptr at *
        go_wp2_with fail
        refine HLv.out.mono ?_
        rintro e w3 ⟨rfl, hb3⟩
        have HL3 := hid hb3
        have HDN := hid (drop_nil (some ⟨w3.heap.size, 0, none⟩) 1 1 (fun _ => ⟨#[97]⟩) (w3.alloc (.cells #[.string ⟨#[97]⟩] 9)) (by omega) (fun _ => ⟨w3.heap.size, 0, rfl, by simp, fun i hi => (by cases (show i = 0 by omega); exact cell_new_of _ _)⟩))
        clear HLv hb3
        go_wp2_with fail
        refine HDN.out.mono ?_
        rintro e w4 ⟨rfl, m4, hw4⟩
        have hb4 : Below wr.heap.size wr w4 := by rw [← hw4]; exact below_drewN (HL3.out.alloc HL3.out.size _) _
        have h4 := H2.out.below hb4
        have HB4 := hid (HB.out.trans (hb4.mono HB.out.size))
        have HK := hid (LruQ.keys_any h4.lru)
        have H4 := hid h4
        clear HDN hw4 hb4 h4
        go_wp2_with fail
        refine (keys_nil w4).mono ?_
        rintro e w5 ⟨rfl, rfl⟩
        go_wp2_with fail
        refine (len_nil w4).mono ?_
        rintro e w5 ⟨rfl, rfl⟩
        go_wp2_with fail
        refine (most_nil w4).mono ?_
        rintro e w5 ⟨rfl, rfl⟩
        go_wp2_with fail
        refine (LruT.fork_nil w4).mono ?_
        rintro e w5 ⟨rfl, rfl⟩
        go_wp2_with fail
        unfold ptr at *
        refine HK.out.mono ?_
        rintro e w5 ⟨⟨x, rfl, hown⟩, hb5⟩
        have HO5 := hid hown
        have HB5 := hid hb5
        have h5 := H4.out.below hb5
        have HR := hid (rkeys_any h5.ref (by rw [kvs_len]; exact h5.len))
        have hll := h5.len
        obtain ⟨nk, hnk⟩ : ∃ nk, L.length = nk := ⟨_, rfl⟩
        rw [hnk] at hll
        have HNK := hid hnk
        clear hnk
        clear HK hown hb5 h5
        unfold ptr at *
        go_wp2_with fail
        refine HR.out.mono ?_
        rintro e w6 ⟨⟨y, rfl, hown6⟩, hb6⟩
        obtain ⟨ax, cx, rfl, hsx⟩ := strs_own (m := nk) (ss := L.map Ent.k) (owns_keep HO5.out (fun g hg => hb6.block g (HO5.out.lt g hg).2)) HNK.out (by rw [List.length_map]; exact HNK.out) (by simp [LruQ.ks, Function.comp_def])
        obtain ⟨ay, cy, rfl, hsy⟩ := strs_own (m := nk) (ss := L.map Ent.k) hown6 (by rw [List.length_map, kvs_len]; exact HNK.out) (by rw [List.length_map]; exact HNK.out) (by simp [kvs, kv, Function.comp_def])
        have HS := hid (Sam.same_any ax ay nk cx cy _ w6 (by omega) hsx hsy)
        have HB6 := hid (HB4.out.trans ((HB5.out.trans (hb6.mono HB5.out.size)).mono HB4.out.size))
        clear HR hown6 hb6 hsx hsy
        go_wp2_with fail
        refine HS.out.mono ?_
        rintro e w7 ⟨rfl, m7, rfl⟩
        go_wp2_with fail
        go_ret
        exact ⟨rfl, below_drewN HB6.out _⟩
    · have hsv2 := HSV.out
      have HLv := hid (live_look wr)
      subst hsv2
      unfold ptr at *
      go_wp2_with fail
      refine HLv.out.mono ?_
      rintro e w3 ⟨rfl, hb3⟩
      have HL3 := hid hb3
      have HDN := hid (drop_nil (some ⟨w3.heap.size, 0, none⟩) 1 1 (fun _ => ⟨#[97]⟩) (w3.alloc (.cells #[.string ⟨#[97]⟩] 9)) (by omega) (fun _ => ⟨w3.heap.size, 0, rfl, by simp, fun i hi => (by cases (show i = 0 by omega); exact cell_new_of _ _)⟩))
      clear HLv hb3
      go_wp2_with fail
      refine HDN.out.mono ?_
      rintro e w4 ⟨rfl, m4, hw4⟩
      have hb4 : Below wr.heap.size wr w4 := by rw [← hw4]; exact below_drewN (HL3.out.alloc HL3.out.size _) _
      have h4 := H2.out.below hb4
      have HB4 := hid (HB.out.trans (hb4.mono HB.out.size))
      have HK := hid (LruQ.keys_any h4.lru)
      have H4 := hid h4
      clear HDN hw4 hb4 h4
      go_wp2_with fail
      refine (keys_nil w4).mono ?_
      rintro e w5 ⟨rfl, rfl⟩
      go_wp2_with fail
      refine (len_nil w4).mono ?_
      rintro e w5 ⟨rfl, rfl⟩
      go_wp2_with fail
      refine (most_nil w4).mono ?_
      rintro e w5 ⟨rfl, rfl⟩
      go_wp2_with fail
      refine (LruT.fork_nil w4).mono ?_
      rintro e w5 ⟨rfl, rfl⟩
      go_wp2_with fail
      unfold ptr at *
      refine HK.out.mono ?_
      rintro e w5 ⟨⟨x, rfl, hown⟩, hb5⟩
      have HO5 := hid hown
      have HB5 := hid hb5
      have h5 := H4.out.below hb5
      have HR := hid (rkeys_any h5.ref (by rw [kvs_len]; exact h5.len))
      have hll := h5.len
      obtain ⟨nk, hnk⟩ : ∃ nk, L.length = nk := ⟨_, rfl⟩
      rw [hnk] at hll
      have HNK := hid hnk
      clear hnk
      clear HK hown hb5 h5
      unfold ptr at *
      go_wp2_with fail
      refine HR.out.mono ?_
      rintro e w6 ⟨⟨y, rfl, hown6⟩, hb6⟩
      obtain ⟨ax, cx, rfl, hsx⟩ := strs_own (m := nk) (ss := L.map Ent.k) (owns_keep HO5.out (fun g hg => hb6.block g (HO5.out.lt g hg).2)) HNK.out (by rw [List.length_map]; exact HNK.out) (by simp [LruQ.ks, Function.comp_def])
      obtain ⟨ay, cy, rfl, hsy⟩ := strs_own (m := nk) (ss := L.map Ent.k) hown6 (by rw [List.length_map, kvs_len]; exact HNK.out) (by rw [List.length_map]; exact HNK.out) (by simp [kvs, kv, Function.comp_def])
      have HS := hid (Sam.same_any ax ay nk cx cy _ w6 (by omega) hsx hsy)
      have HB6 := hid (HB4.out.trans ((HB5.out.trans (hb6.mono HB5.out.size)).mono HB4.out.size))
      clear HR hown6 hb6 hsx hsy
      go_wp2_with fail
      refine HS.out.mono ?_
      rintro e w7 ⟨rfl, m7, rfl⟩
      go_wp2_with fail
      go_ret
      exact ⟨rfl, below_drewN HB6.out _⟩

theorem main {H : Type} {enc : TypeId × Value → H} {W : World} {base : Nat} {spare : Nat → Bool} {held : Bool} {d : DataW H} {p : List MemPlace} (a0 : Option Addr) (len0 cap0 : Nat)
    (h0 : DataW.Trod enc Try.prog W base spare held 22 (.slice a0 len0 cap0) d p) :
    Calls Try.prog 3 #[.slice a0 len0 cap0] W fun e w' => e = .returned (.bool true) ∧ Below W.heap.size W w' := by
  obtain ⟨D, hD⟩ := deeds_of h0
  exact none_core a0 len0 cap0 D _ rfl W (hid hD)

end Go.Proofs.Ytkdldcigooiljaa.LruX
