/- The lists of bytes of a book are filled, grown, looked at: none shows in another. -/
import Derived.Test.YtbpajgkhajheaaaAlbG
namespace Go.Proofs.Ytbpajgkhajheaaa.AlbH
open Go.ChangeShapes Go.WideShapes Go.ChangeAt Go.RowKit Base AloA WldF Wri AlbC AlbD AlbE AlbG
set_option linter.unusedVariables false

theorem wpList_oneB (w : World) {ops : Array Oper} {rest : List Oper} {o : Oper} {act : Act} {Q : Exit → Act → World → Prop} (hgd : o.guard = none) (s x : Operand)
    (ho : o.op = .call { callee := .builtin .append, args := #[s, x], argTypes := #[23, 23] }) (hty : o.type = 23)
    (B : Nat) (v : Value) (n : Nat) (xs : List Value) (hs : act.eval s = v) (hp : Pb w B v n xs)
    (a : Addr) (c : Nat) (u : Value) (hx : act.eval x = .slice (some a) 1 c) (hu : w.cell? a = some u) (h1 : u.oneCell' = true) (hn : n ≤ 17592186044416) (hbase : B ≤ w.heap.size)
    (h : ∀ v' w', w'.ownsRow B 5 1 v' (n + 1) (xs ++ [u]) → w.grownBy w' v.ownBlock → (v'.ownBlock = v.ownBlock ∨ v'.ownBlock = some w.heap.size) → (∀ g o c' o' c'', v = .slice (some ⟨g, o, none⟩) n c' → v' = .slice (some ⟨g, o', none⟩) (n + 1) c'' → o' = o) →
      (∀ g o c', v = .slice (some ⟨g, o, none⟩) n c' → ∀ q, q < n → w'.cell? ⟨g, o + q, none⟩ = w.cell? ⟨g, o + q, none⟩) → wpList Try.prog ops Q rest (act.put o.dst v') w') :
    wpList Try.prog ops Q (o :: rest) act w := by
  refine wpList_plain hgd fun K hK => ?_
  obtain ⟨v', w', hr, h2, h3, h4, h5, h6⟩ := one_run hp hbase a c hu h1 hn
  unfold Oper.wp execOp
  simp only [ho, hty, resolve, invoke, builtin, Sem.run_bind, Sem.run_pure, Result.andThen_ok, List.map_toArray, List.map_cons, List.map_nil, hs, hx, hr]
  exact hK _ _ (h v' w' h2 h3 h4 h5 h6)

set_option maxRecDepth 100000 in
set_option maxHeartbeats 2000000 in
theorem alone_bytes (b B bb N bc : Nat) (L : Nat → Value) (l : Nat → Nat) (w : World) (HL : Hid (Lists w B b bb N bc L l)) :
    Calls Try.prog 55 #[.pointer (some ⟨b, 0, none⟩)] w fun e w' => e = .returned (.bool true) ∧ Wr (Mine N L) w w' := by
  have HT := hid HL.out.top
  obtain ⟨i0, hi, hz0, hz1, hz2⟩ := info_parts infoU8
  obtain ⟨j0, hj, hy0, hy1, hy2⟩ := info_parts infoBytes
  go_enter Try.func55, Try.ntmps55
  go_wp2
  go_loopw [3, 4] (fun i k wr => ∃ m : Nat, m ≤ N ∧ i = .int .i64 m ∧ Fill w B N L l m 0 wr) (fun i _ _ => N - (intOf i).toNat)
  case atStart => exact ⟨0, Nat.zero_le _, rfl, Fill.start HL.out⟩
  case round =>
    obtain ⟨m, hm, rfl, hF⟩ := hrel
    have hbk := Fill.book HL.out hF.wrote
    have hmt : m ≤ 1099511627776 := by have := HT.out; omega
    have HF := hid hF
    clear hF
    by_cases hlt : m < N
    · have hd : decide ((m : Int) < N) = true := by simp; omega
      go_wp2_with fail
      clear hbk hd
      go_loopw [4] (fun k wr => ∃ y : Nat, y ≤ l m ∧ k = .int .i64 y ∧ Fill w B N L l m y wr) (fun k _ => l m - (intOf k).toNat)
      case atStart => exact ⟨0, Nat.zero_le _, rfl, HF.out⟩
      case round =>
        obtain ⟨y, hy, rfl, hF⟩ := hrel
        have hbk := Fill.book HL.out hF.wrote
        have hrw := Fill.row HL.out hF.wrote hlt
        obtain ⟨La, Lc, hLm⟩ := shapeL HL.out hlt
        have hfew := HL.out.few m hlt
        by_cases hly : y < l m
        · obtain ⟨xs, hx, _⟩ := hF.own m hlt
          obtain ⟨g, fo, c, u, hg, hu, hfr⟩ := place hx hly
          rw [hg] at hrw
          have HS := hid (Fill.step HL.out hF hlt hly hg)
          have hd2 : decide ((y : Int) < l m) = true := by simp; omega
          clear hx hLm HF hF hg
          go_wp2_with fail
          go_roundw
          case rel => exact ⟨y + 1, by omega, by go_num, HS.out⟩
          case measure => simp [intOf]; omega
        · obtain rfl : y = l m := by omega
          rw [hLm] at hrw
          have HN := hid hF.next
          clear hF hLm
          go_wp2_with fail
          go_roundw
          case rel => exact ⟨m + 1, by omega, by go_num, HN.out⟩
          case measure => simp [intOf]; omega
    · obtain rfl : m = N := by omega
      have HD := hid (Fill.done HF.out)
      have HW := hid HF.out.wrote
      have HOFF : Hid (∀ j g, j < m → (L j).ownBlock = some g → g < wr.heap.size) := hid (fun j g hj hg => by have := (HL.out.off j g hj hg).2.2.1; have := HW.out.size; omega)
      clear HF
      go_wp2_with fail
      clear hbk
      generalize wr = w1 at *
      go_loopw [5, 6, 7, 8] (fun a i g k wr => ∃ (n : Nat) (va : Value) (ys : List Value), va = a ∧ n ≤ m ∧ i = .int .i64 n ∧ Al w1 B m L l n va ys wr) (fun _ i _ _ _ => m - (intOf i).toNat)
      case atStart => exact ⟨0, .slice none 0 0, [], rfl, Nat.zero_le _, rfl, Al.start HD.out⟩
      case round =>
        obtain ⟨n, va, ys, rfl, hn, rfl, hA⟩ := hrel
        have HA := hid hA
        clear hA
        have hW := HW.out.trans HA.out.wrote
        have hbk := Fill.book HL.out hW
        have hnt : n ≤ 1099511627776 := by omega
        by_cases hlt : n < m
        · have hrw := Fill.row HL.out hW hlt
          obtain ⟨La, Lc, hLm⟩ := shapeL HL.out hlt
          rw [hLm] at hrw
          have HLm := hid hLm
          have hfew := HL.out.few n hlt
          have HAS := hid (App.start (HA.out.own n (Nat.le_refl _) hlt))
          have HZ0 : Hid (l n = 0 → ∀ g o c, L n = .slice (some ⟨g, o, none⟩) (l n) c → o = 0) := hid (fun h0 g o c e => by
            rcases HA.out.own n (Nat.le_refl _) hlt with h1 | ⟨g', o', cur, e1, h2, _⟩
            · rw [e] at h1
              rcases h1.2 with ⟨e1, _⟩ | ⟨_, _, _, e1, _⟩
              · cases e1
              · cases e1; rfl
            · omega)
          have hd : decide ((n : Int) < m) = true := by simp; omega
          clear hW hLm
          obtain ⟨vaa, vac, rfl⟩ := owns_shape HA.out.all
          go_wp2_with fail
          clear hbk hrw hd
          generalize wr = wq at *
          go_loopw [7, 8] (fun g k wr => ∃ (y : Nat) (gv : Value), gv = g ∧ y ≤ 20 ∧ k = .int .i64 y ∧ App wq B (L n) (l n) (mkB n) y gv wr) (fun _ k _ => 20 - (intOf k).toNat)
          case atStart => exact ⟨0, .slice La (l n) Lc, rfl, Nat.zero_le _, rfl, by rw [← HLm.out]; exact HAS.out⟩
          case round =>
            obtain ⟨y, gv, rfl, hy, rfl, hAp⟩ := hrel
            have HAp := hid hAp
            clear hAp
            obtain ⟨ga, gc, rfl⟩ := HAp.out.own.shape
            have hbase : B ≤ wr.heap.size := by have := HL.out.low; have := HL.out.lt; have := HW.out.size; have := HA.out.wrote.size; have := HAp.out.wrote.size; omega
            by_cases hly : y < 20
            · have hown1 : Pb (wr.alloc (.cells #[mkB n] 5)) B (.slice ga (l n + y) gc) (l n + y) (List.replicate (l n + y) (mkB n)) := HAp.out.own.keep (fun g hg => Below.heap_alloc wr _ g (HAp.out.own.lt g hg).2)
              go_wp2_with (at_builtin; (refine wpList_oneB _ rfl _ _ rfl rfl B (Value.slice ga (l n + y) gc) _ _ rfl hown1 ⟨wr.heap.size, 0, none⟩ 1 (mkB n) rfl ?c1 rfl ?c3 ?c5 ?_); rotate_left 3; intro v6 w6 hown6 hgr6 hat6 hsm6 hk6)
              case c1 => exact cell_one_new _ _ _ 0 _ rfl
              case c3 => omega
              case c5 => simp; omega
              exact ⟨⟨y + 1, v6, rfl, by omega, by go_num, App.step HAp.out (fun g hg => by have := HOFF.out n g hlt hg; have := HA.out.wrote.size; omega) (fun h0 g o c e => HZ0.out (by omega) g o c e) hown6 hgr6 hat6 hsm6 hk6⟩, by simp [intOf]; omega⟩
            · obtain rfl : y = 20 := by omega
              have hown2 := World.ownsRow.alloc (owns_wr HA.out.all HAp.out.wrote (fun g hg e => by have := (HA.out.all.lt g hg).1; have := HOFF.out n g hlt e; omega)) (.cells #[.slice ga (l n + 20) gc] 23)
              have hs9 : w1.heap.size ≤ wr.heap.size := by have := HA.out.wrote.size; have := HAp.out.wrote.size; omega
              go_wp2_with (at_builtin; (refine wpList_append_own_at _ rfl _ _ 22 rfl w1.heap.size 23 j0 (.slice none 0 0) 1 24 Try.underlying22 hj hy0 hy1 hy2 rfl (by decide) (Value.slice vaa n vac) _ _ rfl hown2 ⟨wr.heap.size, 0, none⟩ 1 1 [.slice ga (l n + 20) gc] rfl ?c1 ?c2 ?c3 ?c4 ?c5 ?c6 ?_); rotate_left 6; intro v6 w6 hown6 hgr6 hnil6 hat6)
              case c1 => rfl
              case c2 => exact cell_one _ _ _
              case c3 => intro u hu; obtain rfl := List.mem_singleton.1 hu; rfl
              case c4 => unfold maxLen; omega
              case c5 => omega
              case c6 => simp; omega
              exact ⟨⟨n + 1, v6, _, rfl, by omega, by go_num, Al.step HOFF.out HL.out.apart HA.out hlt HAp.out hown6 hgr6 hat6⟩, by simp [intOf]; omega⟩
        · obtain rfl : n = m := by omega
          obtain ⟨g0, c0, rfl, _, _, hcell⟩ := owns_at HA.out.all HL.out.pos
          have HC := hid hcell
          have HWW := hid hW
          clear hcell hW
          go_wp2_with fail
          clear hbk
          go_loop [9, 10, 11] (fun i _ _ => ∃ m : Nat, m ≤ n ∧ i = .int .i64 m) (fun i _ _ => n - (intOf i).toNat)
          case atStart => exact ⟨0, Nat.zero_le _, rfl⟩
          case round =>
            obtain ⟨q, hq, rfl⟩ := hrel
            have hqt : q ≤ 1099511627776 := by omega
            by_cases hlt : q < n
            · obtain ⟨g, fo, c, hy, _, _, _, hc⟩ := HA.out.seen q hlt
              have hc0 := HC.out q _ hlt hy
              have HCC := hid hc
              have hfew := HL.out.few q hlt
              have hd : decide ((q : Int) < n) = true := by simp; omega
              clear hc hy
              go_wp2_with fail
              clear hd
              go_loop [10] (fun k => ∃ y : Nat, y ≤ l q + 20 ∧ k = .int .i64 y) (fun k => l q + 20 - (intOf k).toNat)
              case atStart => exact ⟨0, Nat.zero_le _, rfl⟩
              case round =>
                obtain ⟨y, hy, rfl⟩ := hrel
                by_cases hly : y < l q + 20
                · have hcy : wr.cell? ⟨g, fo + y, none⟩ = some (.int .u8 (48 + (q : Int) % 200)) := HCC.out y hly
                  go_wp2_with fail
                  go_round
                  case rel => exact ⟨y + 1, by omega, by go_num⟩
                  case measure => simp [intOf]; omega
                · obtain rfl : y = l q + 20 := by omega
                  have hbk := Fill.book HL.out HWW.out
                  have hrw := Fill.row HL.out HWW.out hlt
                  obtain ⟨La, Lc, hLm⟩ := shapeL HL.out hlt
                  rw [hLm] at hrw
                  have HLm := hid hLm
                  clear hLm hly
                  go_wp2_with fail
                  clear hc0
                  go_loop [11] (fun k => ∃ y : Nat, y ≤ l q ∧ k = .int .i64 y) (fun k => l q - (intOf k).toNat)
                  case atStart => exact ⟨0, Nat.zero_le _, rfl⟩
                  case round =>
                    obtain ⟨y, hy, rfl⟩ := hrel
                    by_cases hly : y < l q
                    · have ho := HA.out.orig q hlt
                      obtain ⟨xs, hx⟩ := HL.out.own q hlt
                      obtain ⟨g2, f2, c2, e2, _⟩ := hx.at_ (by omega)
                      have ho2 := ho g2 f2 c2 e2
                      rw [HLm.out] at e2
                      cases e2
                      have hcy : wr.cell? ⟨g2, f2 + y, none⟩ = some (.int .u8 (48 + (q : Int) % 200)) := ho2 y hly
                      have hd2 : decide ((y : Int) < l q) = true := by simp; omega
                      clear ho ho2 hx
                      go_wp2_with fail
                      go_round
                      case rel => exact ⟨y + 1, by omega, by go_num⟩
                      case measure => simp [intOf]; omega
                    · obtain rfl : y = l q := by omega
                      go_wp2_with fail
                      go_round
                      case rel => exact ⟨q + 1, by omega, by go_num⟩
                      case measure => simp [intOf]; omega
            · obtain rfl : q = n := by omega
              go_wp2_with fail
              go_ret
              exact ⟨rfl, HWW.out⟩

end Go.Proofs.Ytbpajgkhajheaaa.AlbH
