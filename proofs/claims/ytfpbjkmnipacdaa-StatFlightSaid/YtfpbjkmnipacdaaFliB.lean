/- The walk of StatFlight. -/
import Derived.Test.YtfpbjkmnipacdaaFliA
namespace Go.Proofs.Ytfpbjkmnipacdaa.FliB
open Go.ChangeShapes Go.WideShapes Go.ChangeAt Go.RowKit Base WinM WinA WinB WinC WinD WinE WinF WinG WinH WinI WinJ WinK WinL WinN StaA StaB StaC StaD StaH StaI SecB FliA WldF WldG

theorem flight_n {w0 w : World} {S : Spots} {N : Nd} (h : Sn w0 S N w) :
    Calls Try.prog 21 #[.pointer (some ⟨S.n, 0, none⟩)] w fun e w' => e = .returned (.int .i64 N.entries) ∧ w = w' := flight_any _ _ _ h.node.cells.1

theorem last_n {w0 w : World} {S : Spots} {N : Nd} {last : Nat} (h : Sn w0 S N w) (hg : FGood N last) :
    Calls Try.prog 22 #[.pointer (some ⟨S.n, 0, none⟩)] w fun e w' => e = .returned (.int .i64 (last : Int)) ∧ w = w' := by
  have h1 := h.node.2.1.cells.2.2.1
  rw [hg.ok.l1] at h1
  exact last_any _ _ _ _ h.node.cells.2.1 h1

def FRel (w : World) (len nb : Nat) (fl la i : Value) (wr : World) : Prop :=
  ∃ (k : Nat) (S : Spots) (N : Nd) (last : Nat), k ≤ len ∧ i = .int .i64 k ∧ fl = .int .i64 N.entries ∧ la = .int .i64 last ∧ S.n = nb ∧ Sn w S N wr ∧ FGood N last

set_option maxRecDepth 100000 in
set_option maxHeartbeats 4000000 in
theorem fli_core (a : Option Addr) (len cap : Nat) (D : Nat → Deed) (sv : Value) (hsv : sv = .slice a len cap) (w : World) (HC : Hid (Deeds w a len D)) :
    Calls Try.prog 3 #[sv] w fun e w' => e = .returned (.bool true) ∧ Below w.heap.size w w' := by
  subst hsv
  go_enter Try.func3, Try.ntmps3
  go_wp2_with fail
  refine (StaE.live_look _).mono ?_
  rintro e w1 ⟨rfl, hb1⟩
  have HB1 := hid hb1
  have hs1 := hb1.size
  clear hb1
  go_wp2_with fail
  refine (new_any _).mono ?_
  rintro e w2 ⟨rfl, hn2, hb2, hs2⟩
  have HSt : Hid (Sn w ⟨w1.heap.size + 2, w1.heap.size, none, w1.heap.size + 1, none⟩ Nd.new w2) := hid
    { node := hn2, above := by (rintro k (e | e | e | e | e) <;> simp at e <;> omega), bel := HB1.out.trans (hb2.mono hs1) }
  clear hn2 hb2 HB1
  obtain ⟨nb, hnb⟩ : ∃ nb, w1.heap.size + 2 = nb := ⟨_, rfl⟩
  rw [hnb]
  have hnb2 : nb < w2.heap.size := by omega
  go_wp2_with fail
  go_loopw [4, 5, 6] (fun fl la i wr => FRel w len nb fl la i wr) (fun _ _ i _ => len - (intOf i).toNat)
  case atStart => exact ⟨0, _, Nd.new, 0, Nat.zero_le _, rfl, rfl, rfl, hnb, HSt.out, fgood_new⟩
  case round =>
    obtain ⟨k, S, N, last, hk, rfl, rfl, rfl, hSn, hSw, hG⟩ := hrel
    have HSw := hid hSw
    have HG := hid hG
    by_cases hlt : k < len
    · obtain ⟨hlen, hcs, hds⟩ := HC.out
      obtain ⟨p, q, rfl, hp, hcp⟩ := hcs (by omega)
      obtain ⟨hdn, hdi, hdg⟩ := hds k hlt
      have hcp := hcp k hlt
      obtain ⟨⟨dk, da, dr, db, ca, cl, cc, cf⟩, hD⟩ : ∃ d, D k = d := ⟨_, rfl⟩
      rw [hD] at hcp hdn hdi hdg
      dsimp only at hcp hdn hdi hdg
      have c0 : wr.cell? ⟨p, q + k * 5, none⟩ = some (.int .i64 dk) := (hSw.bel.cell (p := ⟨p, q + k * 5, none⟩) hp).trans (hcp 0 _ rfl)
      have c1 : wr.cell? ⟨p, q + k * 5 + 1, none⟩ = some (.int .i64 da) := (hSw.bel.cell (p := ⟨p, q + k * 5 + 1, none⟩) hp).trans (hcp 1 _ rfl)
      have c2 : wr.cell? ⟨p, q + k * 5 + 2, none⟩ = some (.int .i64 dr) := (hSw.bel.cell (p := ⟨p, q + k * 5 + 2, none⟩) hp).trans (hcp 2 _ rfl)
      have c3 : wr.cell? ⟨p, q + k * 5 + 3, none⟩ = some (.bool db) := (hSw.bel.cell (p := ⟨p, q + k * 5 + 3, none⟩) hp).trans (hcp 3 _ rfl)
      have c4 : wr.cell? ⟨p, q + k * 5 + 4, none⟩ = some (.slice ca cl cc) := (hSw.bel.cell (p := ⟨p, q + k * 5 + 4, none⟩) hp).trans (hcp 4 _ rfl)
      have hz : p < wr.heap.size := by have := hSw.bel.size; omega
      have HDI := hid (And.intro hdi hdg)
      obtain ⟨⟨a1, a2, a3, a4, a5, a6⟩, hsm⟩ : ∃ sm, sumN N last = sm := ⟨_, rfl⟩
      have hlast := hG.lt
      clear hSw hG hcs hds hcp hD hdi hdg
      have HN := hid (nsum_yes S N last last (wr.alloc (.cells #[.int .i64 dk, .int .i64 da, .int .i64 dr, .bool db, .slice ca cl cc] 28)) (HSw.out.alloc _).node HG.out.ok hlast (Nat.le_refl _))
      rw [hSn, hsm] at HN
      unfold cv at HN
      go_wp2_with fail
      refine HN.out.mono ?_
      rintro e w3 ⟨rfl, hb3⟩
      have HS3 := hid ((HSw.out.alloc (.cells #[.int .i64 dk, .int .i64 da, .int .i64 dr, .bool db, .slice ca cl cc] 28)).below hb3)
      have HD3 : Hid (w3.heap[wr.heap.size]? = some (.cells #[.int .i64 dk, .int .i64 da, .int .i64 dr, .bool db, .slice ca cl cc] 28)) := hid ((hb3.block _ (by simp)).trans (heap_alloc_new wr _))
      have hz3 : wr.heap.size < w3.heap.size := by have := hb3.size; simp only [World.size_alloc] at this; omega
      have hnd : ∀ j, S.Has j → j ≠ wr.heap.size := fun j hj e => by have := HSw.out.node.hasLt j hj; omega
      have HF := hid hnd
      have HSM := hid hsm
      clear HN hb3 hsm c0 c1 c2 c3 c4 hnd HSw
      obtain ⟨dd, hdd⟩ : ∃ d, wr.heap.size = d := ⟨_, rfl⟩
      rw [hdd] at HD3 hz3 HF ⊢
      clear hdd
      have k0 : w3.cell? ⟨dd, 0, none⟩ = some (.int .i64 dk) := by simp [World.cell?, HD3.out]
      have k1 : w3.cell? ⟨dd, 1, none⟩ = some (.int .i64 da) := by simp [World.cell?, HD3.out]
      have k2 : w3.cell? ⟨dd, 2, none⟩ = some (.int .i64 dr) := by simp [World.cell?, HD3.out]
      have k3 : w3.cell? ⟨dd, 3, none⟩ = some (.bool db) := by simp [World.cell?, HD3.out]
      have k4 : w3.cell? ⟨dd, 4, none⟩ = some (.slice ca cl cc) := by simp [World.cell?, HD3.out]
      by_cases hk0 : dk = 0
      · subst hk0
        have HP := hid (pass_f last da ca cl cc cf (HS3.out.alloc (.cells #[.int .i64 a1, .int .i64 a2, .int .i64 a3, .int .i64 a4, .int .i64 a5, .int .i64 a6] 30)) HG.out hdn (ints_below HDI.out.1 (HS3.out.alloc (.cells #[.int .i64 a1, .int .i64 a2, .int .i64 a3, .int .i64 a4, .int .i64 a5, .int .i64 a6] 30)).bel) HDI.out.2)
        rw [hSn] at HP
        go_wp2_with fail
        refine HP.out.mono ?_
        rintro e w4 ⟨r, rfl, hl4, hpost⟩
        have HD4 : Hid (w4.heap[dd]? = some (.cells #[.int .i64 0, .int .i64 da, .int .i64 dr, .bool db, .slice ca cl cc] 28)) := hid ((hl4.block dd (by simp; omega) (fun hh => HF.out _ hh rfl)).trans ((Below.heap_alloc w3 _ dd hz3).trans HD3.out))
        have HA4 : Hid (w4.heap[w3.heap.size]? = some (.cells #[.int .i64 a1, .int .i64 a2, .int .i64 a3, .int .i64 a4, .int .i64 a5, .int .i64 a6] 30)) := hid ((hl4.block _ (by simp) (fun hh => by have := HS3.out.node.hasLt _ hh; omega)).trans (heap_alloc_new w3 _))
        have hz4 : w3.heap.size < w4.heap.size := by have := hl4.size; simp only [World.size_alloc] at this; omega
        have k1 : w4.cell? ⟨dd, 1, none⟩ = some (.int .i64 da) := by simp [World.cell?, HD4.out]
        have k4 : w4.cell? ⟨dd, 4, none⟩ = some (.slice ca cl cc) := by simp [World.cell?, HD4.out]
        clear HP hl4
        rcases hpost with ⟨hr, hw4⟩ | ⟨rfl, t, S', N', rfl, hS', hst', hg', he'⟩
        · have HS4 := hid (hw4 ▸ HS3.out.alloc (.cells #[.int .i64 a1, .int .i64 a2, .int .i64 a3, .int .i64 a4, .int .i64 a5, .int .i64 a6] 30))
          clear hw4 HS3
          have HN4 := hid (nsum_yes S N last last w4 HS4.out.node HG.out.ok hlast (Nat.le_refl _))
          rw [hSn, HSM.out] at HN4
          unfold cv at HN4
          go_wp2_with fail
          refine HN4.out.mono ?_
          rintro e w5 ⟨rfl, hb5⟩
          have HS5 := hid ((HS4.out.below hb5).alloc (.cells #[.int .i64 a1, .int .i64 a2, .int .i64 a3, .int .i64 a4, .int .i64 a5, .int .i64 a6] 30))
          have HA5 := hid ((hb5.block _ hz4).trans HA4.out)
          have h45 := hb5.size
          clear HN4 hb5 HS4
          have hz5 : w3.heap.size < w5.heap.size := by omega
          have u0 : w5.cell? ⟨w3.heap.size, 0, none⟩ = some (.int .i64 a1) := by simp [World.cell?, HA5.out]
          have u1 : w5.cell? ⟨w3.heap.size, 1, none⟩ = some (.int .i64 a2) := by simp [World.cell?, HA5.out]
          have u2 : w5.cell? ⟨w3.heap.size, 2, none⟩ = some (.int .i64 a3) := by simp [World.cell?, HA5.out]
          have u3 : w5.cell? ⟨w3.heap.size, 3, none⟩ = some (.int .i64 a4) := by simp [World.cell?, HA5.out]
          have u4 : w5.cell? ⟨w3.heap.size, 4, none⟩ = some (.int .i64 a5) := by simp [World.cell?, HA5.out]
          have u5 : w5.cell? ⟨w3.heap.size, 5, none⟩ = some (.int .i64 a6) := by simp [World.cell?, HA5.out]
          have hfl1 := HG.out.ok.e1
          have hfl2 := HG.out.ok.e2
          have HFl := hid (flight_n HS5.out)
          have HLa := hid (last_n HS5.out HG.out)
          rw [hSn] at HFl
          rw [hSn] at HLa
          go_wp2_with fail
          refine HFl.out.mono ?_
          rintro e w6 ⟨rfl, rfl⟩
          clear HFl
          go_wp2_with fail
          refine HLa.out.mono ?_
          rintro e w6 ⟨rfl, rfl⟩
          clear HLa
          go_wp2_with fail
          go_roundw
          case rel => exact ⟨k + 1, S, N, last, by omega, by go_num, rfl, rfl, hSn, HS5.out, HG.out⟩
          case measure => simp [intOf]; omega
        · have HS4 := hid hst'
          have HG' := hid hg'
          have hlast' := hg'.lt
          have hent := hg'.ok.e1
          have hent2 := hg'.ok.e2
          clear hst' hg' HS3 HG
          obtain ⟨⟨b1, b2, b3, b4, b5, b6⟩, hsm'⟩ : ∃ sm, sumN N' t = sm := ⟨_, rfl⟩
          have HN4 := hid (nsum_yes S' N' t t w4 HS4.out.node HG'.out.ok hlast' (Nat.le_refl _))
          rw [hS', hsm'] at HN4
          unfold cv at HN4
          go_wp2_with fail
          refine HN4.out.mono ?_
          rintro e w5 ⟨rfl, hb5⟩
          have HS5 := hid ((HS4.out.below hb5).alloc (.cells #[.int .i64 b1, .int .i64 b2, .int .i64 b3, .int .i64 b4, .int .i64 b5, .int .i64 b6] 30))
          have HA5 := hid ((hb5.block _ hz4).trans HA4.out)
          have h45 := hb5.size
          clear HN4 hb5 HS4
          rw [he'] at hent hent2
          have HFl := hid (flight_n HS5.out)
          have HLa := hid (last_n HS5.out HG'.out)
          rw [hS', he'] at HFl
          rw [hS'] at HLa
          go_wp2_with fail
          refine HFl.out.mono ?_
          rintro e w6 ⟨rfl, rfl⟩
          clear HFl
          go_wp2_with fail
          refine HLa.out.mono ?_
          rintro e w6 ⟨rfl, rfl⟩
          clear HLa
          go_wp2_with fail
          go_roundw
          case rel => exact ⟨k + 1, S', N', t, by omega, by go_num, by rw [he'], rfl, hS', HS5.out, HG'.out⟩
          case measure => simp [intOf]; omega
      · by_cases hk1 : dk = 1
        · subst hk1
          have HP := hid (block_f last da ca cl cc cf (HS3.out.alloc (.cells #[.int .i64 a1, .int .i64 a2, .int .i64 a3, .int .i64 a4, .int .i64 a5, .int .i64 a6] 30)) HG.out hdn (ints_below HDI.out.1 (HS3.out.alloc (.cells #[.int .i64 a1, .int .i64 a2, .int .i64 a3, .int .i64 a4, .int .i64 a5, .int .i64 a6] 30)).bel))
          rw [hSn] at HP
          go_wp2_with fail
          refine HP.out.mono ?_
          rintro e w4 ⟨r, rfl, hl4, hpost⟩
          have HD4 : Hid (w4.heap[dd]? = some (.cells #[.int .i64 1, .int .i64 da, .int .i64 dr, .bool db, .slice ca cl cc] 28)) := hid ((hl4.block dd (by simp; omega) (fun hh => HF.out _ hh rfl)).trans ((Below.heap_alloc w3 _ dd hz3).trans HD3.out))
          have HA4 : Hid (w4.heap[w3.heap.size]? = some (.cells #[.int .i64 a1, .int .i64 a2, .int .i64 a3, .int .i64 a4, .int .i64 a5, .int .i64 a6] 30)) := hid ((hl4.block _ (by simp) (fun hh => by have := HS3.out.node.hasLt _ hh; omega)).trans (heap_alloc_new w3 _))
          have hz4 : w3.heap.size < w4.heap.size := by have := hl4.size; simp only [World.size_alloc] at this; omega
          have k1 : w4.cell? ⟨dd, 1, none⟩ = some (.int .i64 da) := by simp [World.cell?, HD4.out]
          have k4 : w4.cell? ⟨dd, 4, none⟩ = some (.slice ca cl cc) := by simp [World.cell?, HD4.out]
          clear HP hl4
          rcases hpost with ⟨hr, hw4⟩ | ⟨rfl, t, S', N', rfl, hS', hst', hg', he'⟩
          · have HS4 := hid (hw4 ▸ HS3.out.alloc (.cells #[.int .i64 a1, .int .i64 a2, .int .i64 a3, .int .i64 a4, .int .i64 a5, .int .i64 a6] 30))
            clear hw4 HS3
            have HN4 := hid (nsum_yes S N last last w4 HS4.out.node HG.out.ok hlast (Nat.le_refl _))
            rw [hSn, HSM.out] at HN4
            unfold cv at HN4
            go_wp2_with fail
            refine HN4.out.mono ?_
            rintro e w5 ⟨rfl, hb5⟩
            have HS5 := hid ((HS4.out.below hb5).alloc (.cells #[.int .i64 a1, .int .i64 a2, .int .i64 a3, .int .i64 a4, .int .i64 a5, .int .i64 a6] 30))
            have HA5 := hid ((hb5.block _ hz4).trans HA4.out)
            have h45 := hb5.size
            clear HN4 hb5 HS4
            have hz5 : w3.heap.size < w5.heap.size := by omega
            have u0 : w5.cell? ⟨w3.heap.size, 0, none⟩ = some (.int .i64 a1) := by simp [World.cell?, HA5.out]
            have u1 : w5.cell? ⟨w3.heap.size, 1, none⟩ = some (.int .i64 a2) := by simp [World.cell?, HA5.out]
            have u2 : w5.cell? ⟨w3.heap.size, 2, none⟩ = some (.int .i64 a3) := by simp [World.cell?, HA5.out]
            have u3 : w5.cell? ⟨w3.heap.size, 3, none⟩ = some (.int .i64 a4) := by simp [World.cell?, HA5.out]
            have u4 : w5.cell? ⟨w3.heap.size, 4, none⟩ = some (.int .i64 a5) := by simp [World.cell?, HA5.out]
            have u5 : w5.cell? ⟨w3.heap.size, 5, none⟩ = some (.int .i64 a6) := by simp [World.cell?, HA5.out]
            have hfl1 := HG.out.ok.e1
            have hfl2 := HG.out.ok.e2
            have HFl := hid (flight_n HS5.out)
            have HLa := hid (last_n HS5.out HG.out)
            rw [hSn] at HFl
            rw [hSn] at HLa
            go_wp2_with fail
            refine HFl.out.mono ?_
            rintro e w6 ⟨rfl, rfl⟩
            clear HFl
            go_wp2_with fail
            refine HLa.out.mono ?_
            rintro e w6 ⟨rfl, rfl⟩
            clear HLa
            go_wp2_with fail
            go_roundw
            case rel => exact ⟨k + 1, S, N, last, by omega, by go_num, rfl, rfl, hSn, HS5.out, HG.out⟩
            case measure => simp [intOf]; omega
          · have HS4 := hid hst'
            have HG' := hid hg'
            have hlast' := hg'.lt
            have hent := hg'.ok.e1
            have hent2 := hg'.ok.e2
            clear hst' hg' HS3 HG
            obtain ⟨⟨b1, b2, b3, b4, b5, b6⟩, hsm'⟩ : ∃ sm, sumN N' t = sm := ⟨_, rfl⟩
            have HN4 := hid (nsum_yes S' N' t t w4 HS4.out.node HG'.out.ok hlast' (Nat.le_refl _))
            rw [hS', hsm'] at HN4
            unfold cv at HN4
            go_wp2_with fail
            refine HN4.out.mono ?_
            rintro e w5 ⟨rfl, hb5⟩
            have HS5 := hid ((HS4.out.below hb5).alloc (.cells #[.int .i64 b1, .int .i64 b2, .int .i64 b3, .int .i64 b4, .int .i64 b5, .int .i64 b6] 30))
            have HA5 := hid ((hb5.block _ hz4).trans HA4.out)
            have h45 := hb5.size
            clear HN4 hb5 HS4
            rw [he'] at hent hent2
            have HFl := hid (flight_n HS5.out)
            have HLa := hid (last_n HS5.out HG'.out)
            rw [hS', he'] at HFl
            rw [hS'] at HLa
            go_wp2_with fail
            refine HFl.out.mono ?_
            rintro e w6 ⟨rfl, rfl⟩
            clear HFl
            go_wp2_with fail
            refine HLa.out.mono ?_
            rintro e w6 ⟨rfl, rfl⟩
            clear HLa
            go_wp2_with fail
            go_roundw
            case rel => exact ⟨k + 1, S', N', t, by omega, by go_num, by rw [he'], rfl, hS', HS5.out, HG'.out⟩
            case measure => simp [intOf]; omega
        · by_cases hk2 : dk = 2
          · subst hk2
            have HP := hid (done_f last da dr db (HS3.out.alloc (.cells #[.int .i64 a1, .int .i64 a2, .int .i64 a3, .int .i64 a4, .int .i64 a5, .int .i64 a6] 30)) HG.out)
            rw [hSn] at HP
            go_wp2_with fail
            refine HP.out.mono ?_
            rintro e w4 ⟨r, rfl, hl4, hpost⟩
            have HD4 : Hid (w4.heap[dd]? = some (.cells #[.int .i64 2, .int .i64 da, .int .i64 dr, .bool db, .slice ca cl cc] 28)) := hid ((hl4.block dd (by simp; omega) (fun hh => HF.out _ hh rfl)).trans ((Below.heap_alloc w3 _ dd hz3).trans HD3.out))
            have HA4 : Hid (w4.heap[w3.heap.size]? = some (.cells #[.int .i64 a1, .int .i64 a2, .int .i64 a3, .int .i64 a4, .int .i64 a5, .int .i64 a6] 30)) := hid ((hl4.block _ (by simp) (fun hh => by have := HS3.out.node.hasLt _ hh; omega)).trans (heap_alloc_new w3 _))
            have hz4 : w3.heap.size < w4.heap.size := by have := hl4.size; simp only [World.size_alloc] at this; omega
            have k1 : w4.cell? ⟨dd, 1, none⟩ = some (.int .i64 da) := by simp [World.cell?, HD4.out]
            have k4 : w4.cell? ⟨dd, 4, none⟩ = some (.slice ca cl cc) := by simp [World.cell?, HD4.out]
            clear HP hl4
            rcases hpost with ⟨hr, hw4⟩ | ⟨rfl, t, S', N', rfl, hS', hst', hg', he'⟩
            · have HS4 := hid (hw4 ▸ HS3.out.alloc (.cells #[.int .i64 a1, .int .i64 a2, .int .i64 a3, .int .i64 a4, .int .i64 a5, .int .i64 a6] 30))
              clear hw4 HS3
              have HN4 := hid (nsum_yes S N last last w4 HS4.out.node HG.out.ok hlast (Nat.le_refl _))
              rw [hSn, HSM.out] at HN4
              unfold cv at HN4
              go_wp2_with fail
              refine HN4.out.mono ?_
              rintro e w5 ⟨rfl, hb5⟩
              have HS5 := hid ((HS4.out.below hb5).alloc (.cells #[.int .i64 a1, .int .i64 a2, .int .i64 a3, .int .i64 a4, .int .i64 a5, .int .i64 a6] 30))
              have HA5 := hid ((hb5.block _ hz4).trans HA4.out)
              have h45 := hb5.size
              clear HN4 hb5 HS4
              have hz5 : w3.heap.size < w5.heap.size := by omega
              have u0 : w5.cell? ⟨w3.heap.size, 0, none⟩ = some (.int .i64 a1) := by simp [World.cell?, HA5.out]
              have u1 : w5.cell? ⟨w3.heap.size, 1, none⟩ = some (.int .i64 a2) := by simp [World.cell?, HA5.out]
              have u2 : w5.cell? ⟨w3.heap.size, 2, none⟩ = some (.int .i64 a3) := by simp [World.cell?, HA5.out]
              have u3 : w5.cell? ⟨w3.heap.size, 3, none⟩ = some (.int .i64 a4) := by simp [World.cell?, HA5.out]
              have u4 : w5.cell? ⟨w3.heap.size, 4, none⟩ = some (.int .i64 a5) := by simp [World.cell?, HA5.out]
              have u5 : w5.cell? ⟨w3.heap.size, 5, none⟩ = some (.int .i64 a6) := by simp [World.cell?, HA5.out]
              have hfl1 := HG.out.ok.e1
              have hfl2 := HG.out.ok.e2
              have HFl := hid (flight_n HS5.out)
              have HLa := hid (last_n HS5.out HG.out)
              rw [hSn] at HFl
              rw [hSn] at HLa
              go_wp2_with fail
              refine HFl.out.mono ?_
              rintro e w6 ⟨rfl, rfl⟩
              clear HFl
              go_wp2_with fail
              refine HLa.out.mono ?_
              rintro e w6 ⟨rfl, rfl⟩
              clear HLa
              go_wp2_with fail
              go_roundw
              case rel => exact ⟨k + 1, S, N, last, by omega, by go_num, rfl, rfl, hSn, HS5.out, HG.out⟩
              case measure => simp [intOf]; omega
            · have HS4 := hid hst'
              have HG' := hid hg'
              have hlast' := hg'.lt
              have hent := hg'.ok.e1
              have hent2 := hg'.ok.e2
              clear hst' hg' HS3 HG
              obtain ⟨⟨b1, b2, b3, b4, b5, b6⟩, hsm'⟩ : ∃ sm, sumN N' t = sm := ⟨_, rfl⟩
              have HN4 := hid (nsum_yes S' N' t t w4 HS4.out.node HG'.out.ok hlast' (Nat.le_refl _))
              rw [hS', hsm'] at HN4
              unfold cv at HN4
              go_wp2_with fail
              refine HN4.out.mono ?_
              rintro e w5 ⟨rfl, hb5⟩
              have HS5 := hid ((HS4.out.below hb5).alloc (.cells #[.int .i64 b1, .int .i64 b2, .int .i64 b3, .int .i64 b4, .int .i64 b5, .int .i64 b6] 30))
              have HA5 := hid ((hb5.block _ hz4).trans HA4.out)
              have h45 := hb5.size
              clear HN4 hb5 HS4
              rw [he'] at hent hent2
              have HFl := hid (flight_n HS5.out)
              have HLa := hid (last_n HS5.out HG'.out)
              rw [hS', he'] at HFl
              rw [hS'] at HLa
              go_wp2_with fail
              refine HFl.out.mono ?_
              rintro e w6 ⟨rfl, rfl⟩
              clear HFl
              go_wp2_with fail
              refine HLa.out.mono ?_
              rintro e w6 ⟨rfl, rfl⟩
              clear HLa
              go_wp2_with fail
              go_roundw
              case rel => exact ⟨k + 1, S', N', t, by omega, by go_num, by rw [he'], rfl, hS', HS5.out, HG'.out⟩
              case measure => simp [intOf]; omega
          · go_wp2_with fail
            go_roundw
            case rel => exact ⟨k + 1, S, N, last, by omega, by go_num, rfl, rfl, hSn, HS3.out.alloc _, HG.out⟩
            case measure => simp [intOf]; omega
    · obtain rfl : k = len := by omega
      clear hSw hG
      go_wp2_with fail
      go_ret
      exact ⟨rfl, HSw.out.bel⟩

end Go.Proofs.Ytfpbjkmnipacdaa.FliB
