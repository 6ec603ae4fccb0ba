/- The document's numbers of the rules that look at a call; rows of numbers. -/
import Derived.Test.YtakmfcnmcjbbgaaRejO
import Derived.Test.YtakmfcnmcjbbgaaRejK
import Derived.Deep.DeepCutAuto
namespace Go.Proofs.Ytakmfcnmcjbbgaa.RejP
set_option linter.unusedVariables false
open Go.ChangeShapes Go.WideShapes Go.ChangeAt Go.RowKit Go.Deep Base RejA RejB RejC RejD RejE RejF RejI RejK RejM RejN RejO Txt

theorem cell_one (w : World) (x : Value) (ty : TypeId) (j : Nat) (u : Value) (hu : [x][j]? = some u) : (w.alloc (.cells #[x] ty)).cell? (Addr.add ⟨w.heap.size, 0, none⟩ j) = some u := by
  rw [Go.WideShapes.add_plain, Nat.zero_add]
  unfold World.cell?
  rw [heap_alloc_new]
  simpa using hu
theorem owns_keep {w w' : World} {base n size : Nat} {e : TypeId} {v : Value} {xs : List Value} (h : w.ownsRow base e size v n xs) (hb : Below w.heap.size w w') : w'.ownsRow base e size v n xs := by
  have hl := World.ownsRow.lt h
  refine ⟨h.1, ?_⟩
  rcases h.2 with hn | ⟨g, cap, cur, rfl, hb2, hgg, rest⟩
  · exact .inl hn
  · exact .inr ⟨g, cap, cur, rfl, hb2, (hb.block g (hl g rfl).2).trans hgg, rest⟩

/-- in a round -/
structure In (w w1 wr : World) (v : Value) (l : List Nat) : Prop where
  own : wr.ownsRow w.heap.size 3 1 v l.length (vals l)
  far : ∀ g, v.ownBlock = some g → w1.heap.size ≤ g
  bel : Below w1.heap.size w1 wr
theorem In.below {w w1 wr w' : World} {v : Value} {l : List Nat} (h : In w w1 wr v l) (hb : Below wr.heap.size wr w') : In w w1 w' v l :=
  ⟨owns_keep h.own hb, h.far, h.bel.trans (hb.mono h.bel.size)⟩
theorem In.push {w w1 wr w' : World} {v v' : Value} {l : List Nat} {i : Nat} {o : Obj} (h : In w w1 wr v l) (hown : w'.ownsRow w.heap.size 3 1 v' (l.length + 1) (vals l ++ [.int .i64 (i : Nat)])) (hgr : (wr.alloc o).grownBy w' v.ownBlock)
    (hat : v'.ownBlock = v.ownBlock ∨ v'.ownBlock = some (wr.alloc o).heap.size) : In w w1 w' v' (l ++ [i]) := by
  have hal : Below w1.heap.size w1 (wr.alloc o) := h.bel.alloc h.bel.size o
  refine ⟨?_, fun g hg => ?_, hal.grown hgr hal.size (fun j e => h.far j e)⟩
  · rw [vals_snoc, List.length_append]; exact hown
  · rcases hat with e | e
    · exact h.far g (e ▸ hg)
    · rw [e] at hg
      have h2 := Option.some.inj hg
      have := hal.size
      omega

theorem look_shape (f : Flow) (c : Cal) : ∃ a1 a2 a3, lookV f c = .agg #[.string a1, .string a2, .string a3, .bool (skips f c)] := by
  unfold lookV skips
  by_cases h1 : f.strat = 1
  · rw [if_pos h1, h1]; exact ⟨_, _, _, rfl⟩
  · rw [if_neg h1]
    by_cases h2 : f.strat = 2
    · rw [if_pos h2, h2]
      by_cases h3 : f.ref = c.ctx
      · rw [if_pos h3, decide_eq_true h3]; exact ⟨_, _, _, rfl⟩
      · rw [if_neg h3, decide_eq_false h3]; exact ⟨_, _, _, rfl⟩
    · rw [if_neg h2, decide_eq_false h2]
      by_cases h4 : f.org = dft
      · rw [if_pos h4]; exact ⟨_, _, _, rfl⟩
      · rw [if_neg h4]; exact ⟨_, _, _, rfl⟩

set_option maxRecDepth 100000 in
set_option maxHeartbeats 8000000 in
theorem RMine_any (a : Option Addr) (n cap : Nat) (L : Nat → Flow) (c : Cal) (w : World) (hn : n ≤ 4000000000000) (HF : Hid (Flows w a n L)) :
    Calls Try.prog 17 #[.slice a n cap, .agg (cv c)] w fun e w' => (∃ x, e = .returned x ∧ w'.ownsRow w.heap.size 3 1 x (mines n L c n).length (vals (mines n L c n))) ∧ Below w.heap.size w w' := by
  obtain ⟨i0, hi, hz0, hz1, hz2⟩ := info_parts infoInt2
  have HI0 := hid (And.intro hi (And.intro hz0 (And.intro hz1 hz2)))
  clear hi hz0 hz1 hz2
  have HB0 := hid ((Below.refl w.heap.size w).alloc (Nat.le_refl _) (.cells (cv c) 28))
  have HQ := hid (heap_alloc_new w (.cells (cv c) 28))
  have hzb : w.heap.size < (w.alloc (.cells (cv c) 28)).heap.size := by simp
  have HST : Hid (In w (w.alloc (.cells (cv c) 28)) (w.alloc (.cells (cv c) 28)) (.slice none 0 0) (mines n L c 0)) := hid ⟨⟨rfl, .inl ⟨rfl, rfl⟩⟩, (fun g e => (by cases e)), Below.refl _ _⟩
  have HCV := hid (show cv c = #[.int .i64 c.at_, .string c.res, .string c.ctx, .string c.org, .bool c.inb, .int .i64 c.cnt, .slice c.a c.n c.cap] from rfl)
  rw [HCV.out]
  rw [HCV.out] at HB0 HQ hzb HST
  go_enter Try.func17, Try.ntmps17
  go_wp2_with fail
  generalize w.alloc (.cells #[.int .i64 c.at_, .string c.res, .string c.ctx, .string c.org, .bool c.inb, .int .i64 c.cnt, .slice c.a c.n c.cap] 28) = w1 at *
  go_loopw [5, 6] (fun v i wr => ∃ k : Nat, k ≤ n ∧ i = .int .i64 k ∧ In w w1 wr v (mines n L c k)) (fun _ i _ => n - (intOf i).toNat)
  case atStart => exact ⟨0, Nat.zero_le _, rfl, HST.out⟩
  case round =>
    obtain ⟨k, hk, rfl, hI⟩ := hrel
    obtain ⟨va, vc, rfl⟩ := Wri.owns_shape hI.own
    have HI := hid hI
    have hbw := bl HB0.out hI.bel
    have HQr := (hI.bel.block _ hzb).trans HQ.out
    have hzr : w.heap.size < wr.heap.size := Nat.lt_of_lt_of_le hzb hI.bel.size
    have HFr := hid (HF.out.below hbw)
    clear hI HST hbw
    by_cases hlt : k < n
    · obtain ⟨g, o, rfl, hg, hc⟩ := HFr.out.at_ (by omega)
      have hc := hc k hlt
      obtain ⟨f, hf⟩ : ∃ f, L k = f := ⟨_, rfl⟩
      have HLf := hid hf
      rw [hf] at hc
      have c0 : wr.cell? ⟨g, o + k * 12, none⟩ = some (.string f.res) := hc 0 _ rfl
      have c1 : wr.cell? ⟨g, o + k * 12 + 1, none⟩ = some (.string f.org) := hc 1 _ rfl
      have c2 : wr.cell? ⟨g, o + k * 12 + 2, none⟩ = some (.bool f.thr) := hc 2 _ rfl
      have c3 : wr.cell? ⟨g, o + k * 12 + 3, none⟩ = some (.int .i64 f.cnt) := hc 3 _ rfl
      have c4 : wr.cell? ⟨g, o + k * 12 + 4, none⟩ = some (.int .u8 f.strat) := hc 4 _ rfl
      have c5 : wr.cell? ⟨g, o + k * 12 + 5, none⟩ = some (.string f.ref) := hc 5 _ rfl
      have c6 : wr.cell? ⟨g, o + k * 12 + 6, none⟩ = some (.int .u8 f.shape) := hc 6 _ rfl
      have c7 : wr.cell? ⟨g, o + k * 12 + 7, none⟩ = some (.int .i64 f.warm) := hc 7 _ rfl
      have c8 : wr.cell? ⟨g, o + k * 12 + 8, none⟩ = some (.int .i64 f.queue) := hc 8 _ rfl
      have c9 : wr.cell? ⟨g, o + k * 12 + 9, none⟩ = some (.bool f.clus) := hc 9 _ rfl
      have c10 : wr.cell? ⟨g, o + k * 12 + 10, none⟩ = some (.int .i64 f.id_) := hc 10 _ rfl
      have c11 : wr.cell? ⟨g, o + k * 12 + 11, none⟩ = some (.bool f.fall) := hc 11 _ rfl
      have y0 : wr.cell? ⟨w.heap.size, 0, none⟩ = some (.int .i64 c.at_) := cell_of HQr 0 _ rfl
      have y1 : wr.cell? ⟨w.heap.size, 1, none⟩ = some (.string c.res) := cell_of HQr 1 _ rfl
      have y2 : wr.cell? ⟨w.heap.size, 2, none⟩ = some (.string c.ctx) := cell_of HQr 2 _ rfl
      have y3 : wr.cell? ⟨w.heap.size, 3, none⟩ = some (.string c.org) := cell_of HQr 3 _ rfl
      have y4 : wr.cell? ⟨w.heap.size, 4, none⟩ = some (.bool c.inb) := cell_of HQr 4 _ rfl
      have y5 : wr.cell? ⟨w.heap.size, 5, none⟩ = some (.int .i64 c.cnt) := cell_of HQr 5 _ rfl
      have y6 : wr.cell? ⟨w.heap.size, 6, none⟩ = some (.slice c.a c.n c.cap) := cell_of HQr 6 _ rfl
      have hki : (k : Int) < n := by omega
      have hpl := mines_len n L c k
      clear hc hf HQr
      cases d1 : decide (f.res = c.res) with
      | false =>
        have e1 : (f.res.toList == c.res.toList) = false := by rw [text_eq]; exact d1
        have HM : Hid (mines n L c (k + 1) = mines n L c k) := hid (mines_no (by unfold mineB; rw [HLf.out, d1]; rfl))
        clear d1
        go_wp2_with fail
        go_quiet (fail)
        have HI3 := hid (HI.out.below (drewN_below wr nq _))
        clear c0 c1 c2 c3 c4 c5 c6 c7 c8 c9 c10 c11 y0 y1 y2 y3 y4 y5 y6 HI
        generalize wr.drewN nq = wd at *
        go_wp2_with fail
        go_roundw
        case rel => exact ⟨k + 1, by omega, by go_num, by rw [HM.out]; exact HI3.out⟩
        case measure => simp [intOf]; omega
      | true =>
        have e1 : (f.res.toList == c.res.toList) = true := by rw [text_eq]; exact d1
        obtain ⟨b2, hb2⟩ : ∃ b2, conc n L k c.org = b2 := ⟨_, rfl⟩
        have HC : Hid (∀ wx, Below wr.heap.size wr wx → Calls Try.prog 23 #[.slice (some ⟨g, o, none⟩) n cap, .int .i64 k, .string c.org] wx fun e w' => e = .returned (.bool b2) ∧ Below wx.heap.size wx w') := hid fun wx hx => by
          have := RefCon_any (some ⟨g, o, none⟩) n cap L k c.org wx (by omega) (HFr.out.below hx)
          rwa [hb2] at this
        have kb : Below wr.heap.size wr wr.drew := (Below.refl wr.heap.size wr).drew
        cases b2 with
        | false =>
          have HM : Hid (mines n L c (k + 1) = mines n L c k) := hid (mines_no (by unfold mineB; rw [hb2]; simp))
          clear d1 hb2
          go_wp2_with fail
          first
            | (go_region_with
                (first
                  | (go_at_call 23; refine (HC.out _ (by first | assumption | exact (Below.drew (by assumption)))).mono ?_; rintro e w3 ⟨rfl, hb3⟩
                     have c0 : w3.cell? ⟨g, o + k * 12, none⟩ = some (.string f.res) := kc hb3 (by first | assumption | go_cell)
                     have c1 : w3.cell? ⟨g, o + k * 12 + 1, none⟩ = some (.string f.org) := kc hb3 (by first | assumption | go_cell)
                     have c2 : w3.cell? ⟨g, o + k * 12 + 2, none⟩ = some (.bool f.thr) := kc hb3 (by first | assumption | go_cell)
                     have c3 : w3.cell? ⟨g, o + k * 12 + 3, none⟩ = some (.int .i64 f.cnt) := kc hb3 (by first | assumption | go_cell)
                     have c4 : w3.cell? ⟨g, o + k * 12 + 4, none⟩ = some (.int .u8 f.strat) := kc hb3 (by first | assumption | go_cell)
                     have c5 : w3.cell? ⟨g, o + k * 12 + 5, none⟩ = some (.string f.ref) := kc hb3 (by first | assumption | go_cell)
                     have c6 : w3.cell? ⟨g, o + k * 12 + 6, none⟩ = some (.int .u8 f.shape) := kc hb3 (by first | assumption | go_cell)
                     have c7 : w3.cell? ⟨g, o + k * 12 + 7, none⟩ = some (.int .i64 f.warm) := kc hb3 (by first | assumption | go_cell)
                     have c8 : w3.cell? ⟨g, o + k * 12 + 8, none⟩ = some (.int .i64 f.queue) := kc hb3 (by first | assumption | go_cell)
                     have c9 : w3.cell? ⟨g, o + k * 12 + 9, none⟩ = some (.bool f.clus) := kc hb3 (by first | assumption | go_cell)
                     have c10 : w3.cell? ⟨g, o + k * 12 + 10, none⟩ = some (.int .i64 f.id_) := kc hb3 (by first | assumption | go_cell)
                     have c11 : w3.cell? ⟨g, o + k * 12 + 11, none⟩ = some (.bool f.fall) := kc hb3 (by first | assumption | go_cell)
                     have y0 : w3.cell? ⟨w.heap.size, 0, none⟩ = some (.int .i64 c.at_) := kc hb3 (by first | assumption | go_cell)
                     have y1 : w3.cell? ⟨w.heap.size, 1, none⟩ = some (.string c.res) := kc hb3 (by first | assumption | go_cell)
                     have y2 : w3.cell? ⟨w.heap.size, 2, none⟩ = some (.string c.ctx) := kc hb3 (by first | assumption | go_cell)
                     have y3 : w3.cell? ⟨w.heap.size, 3, none⟩ = some (.string c.org) := kc hb3 (by first | assumption | go_cell)
                     have y4 : w3.cell? ⟨w.heap.size, 4, none⟩ = some (.bool c.inb) := kc hb3 (by first | assumption | go_cell)
                     have y5 : w3.cell? ⟨w.heap.size, 5, none⟩ = some (.int .i64 c.cnt) := kc hb3 (by first | assumption | go_cell)
                     have y6 : w3.cell? ⟨w.heap.size, 6, none⟩ = some (.slice c.a c.n c.cap) := kc hb3 (by first | assumption | go_cell)
                     have kb : Below wr.heap.size wr w3 := bl (by first | assumption | exact (Below.drew (by assumption))) hb3)))
            | fail
          all_goals
            have HI3 := hid (HI.out.below kb)
            clear kb c0 c1 c2 c3 c4 c5 c6 c7 c8 c9 c10 c11 y0 y1 y2 y3 y4 y5 y6 HI
            go_wp2_with fail
            go_roundw
            case rel => exact ⟨k + 1, by omega, by go_num, by rw [HM.out]; exact HI3.out⟩
            case measure => simp [intOf]; omega
        | true =>
          obtain ⟨a1, a2, a3, hls⟩ := look_shape f c
          have HW0 := hid (fun wx => RWhere_any f c wx)
          have HW := HW0
          rw [hls] at HW
          unfold fv cv at HW
          have HMM : Hid (mineB n L c k = !(skips f c)) := hid (by unfold mineB; rw [HLf.out, d1, hb2]; rfl)
          clear HW0 hls d1 hb2
          generalize skips f c = sk at *
          have hfd : ∀ wx, Sem.run Try.prog (Instr.field 32 (.agg #[.string a1, .string a2, .string a3, .bool sk]) 3) wx = .ok (.bool sk) wx := fun _ => rfl
          go_wp2_with fail
          go_region_held3 (fun w' => w'.cell? ⟨g, o + k * 12, none⟩ = some (.string f.res) ∧ w'.cell? ⟨g, o + k * 12 + 1, none⟩ = some (.string f.org) ∧ w'.cell? ⟨g, o + k * 12 + 2, none⟩ = some (.bool f.thr) ∧ w'.cell? ⟨g, o + k * 12 + 3, none⟩ = some (.int .i64 f.cnt) ∧ w'.cell? ⟨g, o + k * 12 + 4, none⟩ = some (.int .u8 f.strat) ∧ w'.cell? ⟨g, o + k * 12 + 5, none⟩ = some (.string f.ref) ∧ w'.cell? ⟨g, o + k * 12 + 6, none⟩ = some (.int .u8 f.shape) ∧ w'.cell? ⟨g, o + k * 12 + 7, none⟩ = some (.int .i64 f.warm) ∧ w'.cell? ⟨g, o + k * 12 + 8, none⟩ = some (.int .i64 f.queue) ∧ w'.cell? ⟨g, o + k * 12 + 9, none⟩ = some (.bool f.clus) ∧ w'.cell? ⟨g, o + k * 12 + 10, none⟩ = some (.int .i64 f.id_) ∧ w'.cell? ⟨g, o + k * 12 + 11, none⟩ = some (.bool f.fall) ∧ w'.cell? ⟨w.heap.size, 0, none⟩ = some (.int .i64 c.at_) ∧ w'.cell? ⟨w.heap.size, 1, none⟩ = some (.string c.res) ∧ w'.cell? ⟨w.heap.size, 2, none⟩ = some (.string c.ctx) ∧ w'.cell? ⟨w.heap.size, 3, none⟩ = some (.string c.org) ∧ w'.cell? ⟨w.heap.size, 4, none⟩ = some (.bool c.inb) ∧ w'.cell? ⟨w.heap.size, 5, none⟩ = some (.int .i64 c.cnt) ∧ w'.cell? ⟨w.heap.size, 6, none⟩ = some (.slice c.a c.n c.cap)) (first | assumption | go_keep)
            (first
              | (go_at_call 23; refine (HC.out _ (by first | assumption | exact (Below.drew (by assumption)))).mono ?_; rintro e w3 ⟨rfl, hb3⟩
                 have c0 : w3.cell? ⟨g, o + k * 12, none⟩ = some (.string f.res) := kc hb3 (by first | assumption | go_cell)
                 have c1 : w3.cell? ⟨g, o + k * 12 + 1, none⟩ = some (.string f.org) := kc hb3 (by first | assumption | go_cell)
                 have c2 : w3.cell? ⟨g, o + k * 12 + 2, none⟩ = some (.bool f.thr) := kc hb3 (by first | assumption | go_cell)
                 have c3 : w3.cell? ⟨g, o + k * 12 + 3, none⟩ = some (.int .i64 f.cnt) := kc hb3 (by first | assumption | go_cell)
                 have c4 : w3.cell? ⟨g, o + k * 12 + 4, none⟩ = some (.int .u8 f.strat) := kc hb3 (by first | assumption | go_cell)
                 have c5 : w3.cell? ⟨g, o + k * 12 + 5, none⟩ = some (.string f.ref) := kc hb3 (by first | assumption | go_cell)
                 have c6 : w3.cell? ⟨g, o + k * 12 + 6, none⟩ = some (.int .u8 f.shape) := kc hb3 (by first | assumption | go_cell)
                 have c7 : w3.cell? ⟨g, o + k * 12 + 7, none⟩ = some (.int .i64 f.warm) := kc hb3 (by first | assumption | go_cell)
                 have c8 : w3.cell? ⟨g, o + k * 12 + 8, none⟩ = some (.int .i64 f.queue) := kc hb3 (by first | assumption | go_cell)
                 have c9 : w3.cell? ⟨g, o + k * 12 + 9, none⟩ = some (.bool f.clus) := kc hb3 (by first | assumption | go_cell)
                 have c10 : w3.cell? ⟨g, o + k * 12 + 10, none⟩ = some (.int .i64 f.id_) := kc hb3 (by first | assumption | go_cell)
                 have c11 : w3.cell? ⟨g, o + k * 12 + 11, none⟩ = some (.bool f.fall) := kc hb3 (by first | assumption | go_cell)
                 have y0 : w3.cell? ⟨w.heap.size, 0, none⟩ = some (.int .i64 c.at_) := kc hb3 (by first | assumption | go_cell)
                 have y1 : w3.cell? ⟨w.heap.size, 1, none⟩ = some (.string c.res) := kc hb3 (by first | assumption | go_cell)
                 have y2 : w3.cell? ⟨w.heap.size, 2, none⟩ = some (.string c.ctx) := kc hb3 (by first | assumption | go_cell)
                 have y3 : w3.cell? ⟨w.heap.size, 3, none⟩ = some (.string c.org) := kc hb3 (by first | assumption | go_cell)
                 have y4 : w3.cell? ⟨w.heap.size, 4, none⟩ = some (.bool c.inb) := kc hb3 (by first | assumption | go_cell)
                 have y5 : w3.cell? ⟨w.heap.size, 5, none⟩ = some (.int .i64 c.cnt) := kc hb3 (by first | assumption | go_cell)
                 have y6 : w3.cell? ⟨w.heap.size, 6, none⟩ = some (.slice c.a c.n c.cap) := kc hb3 (by first | assumption | go_cell)
                 have kb : Below wr.heap.size wr w3 := bl (by first | assumption | exact (Below.drew (by assumption))) hb3)
              | (go_at_call 9; refine (HW.out _).mono ?_; rintro e w3 ⟨rfl, hb3⟩
                 have c0 : w3.cell? ⟨g, o + k * 12, none⟩ = some (.string f.res) := kc hb3 (by first | assumption | go_cell)
                 have c1 : w3.cell? ⟨g, o + k * 12 + 1, none⟩ = some (.string f.org) := kc hb3 (by first | assumption | go_cell)
                 have c2 : w3.cell? ⟨g, o + k * 12 + 2, none⟩ = some (.bool f.thr) := kc hb3 (by first | assumption | go_cell)
                 have c3 : w3.cell? ⟨g, o + k * 12 + 3, none⟩ = some (.int .i64 f.cnt) := kc hb3 (by first | assumption | go_cell)
                 have c4 : w3.cell? ⟨g, o + k * 12 + 4, none⟩ = some (.int .u8 f.strat) := kc hb3 (by first | assumption | go_cell)
                 have c5 : w3.cell? ⟨g, o + k * 12 + 5, none⟩ = some (.string f.ref) := kc hb3 (by first | assumption | go_cell)
                 have c6 : w3.cell? ⟨g, o + k * 12 + 6, none⟩ = some (.int .u8 f.shape) := kc hb3 (by first | assumption | go_cell)
                 have c7 : w3.cell? ⟨g, o + k * 12 + 7, none⟩ = some (.int .i64 f.warm) := kc hb3 (by first | assumption | go_cell)
                 have c8 : w3.cell? ⟨g, o + k * 12 + 8, none⟩ = some (.int .i64 f.queue) := kc hb3 (by first | assumption | go_cell)
                 have c9 : w3.cell? ⟨g, o + k * 12 + 9, none⟩ = some (.bool f.clus) := kc hb3 (by first | assumption | go_cell)
                 have c10 : w3.cell? ⟨g, o + k * 12 + 10, none⟩ = some (.int .i64 f.id_) := kc hb3 (by first | assumption | go_cell)
                 have c11 : w3.cell? ⟨g, o + k * 12 + 11, none⟩ = some (.bool f.fall) := kc hb3 (by first | assumption | go_cell)
                 have y0 : w3.cell? ⟨w.heap.size, 0, none⟩ = some (.int .i64 c.at_) := kc hb3 (by first | assumption | go_cell)
                 have y1 : w3.cell? ⟨w.heap.size, 1, none⟩ = some (.string c.res) := kc hb3 (by first | assumption | go_cell)
                 have y2 : w3.cell? ⟨w.heap.size, 2, none⟩ = some (.string c.ctx) := kc hb3 (by first | assumption | go_cell)
                 have y3 : w3.cell? ⟨w.heap.size, 3, none⟩ = some (.string c.org) := kc hb3 (by first | assumption | go_cell)
                 have y4 : w3.cell? ⟨w.heap.size, 4, none⟩ = some (.bool c.inb) := kc hb3 (by first | assumption | go_cell)
                 have y5 : w3.cell? ⟨w.heap.size, 5, none⟩ = some (.int .i64 c.cnt) := kc hb3 (by first | assumption | go_cell)
                 have y6 : w3.cell? ⟨w.heap.size, 6, none⟩ = some (.slice c.a c.n c.cap) := kc hb3 (by first | assumption | go_cell)
                 have kb : Below wr.heap.size wr w3 := bl (by first | assumption | exact (Below.drew (by assumption))) hb3))
          all_goals
            have HI3 := hid (HI.out.below kb)
            clear kb c0 c1 c2 c3 c4 c5 c6 c7 c8 c9 c10 c11 y0 y1 y2 y3 y4 y5 y6 HI HW hfd
            cases sk with
            | true =>
              have HM : Hid (mines n L c (k + 1) = mines n L c k) := hid (mines_no HMM.out)
              go_wp2_with fail
              go_roundw
              case rel => exact ⟨k + 1, by omega, by go_num, by rw [HM.out]; exact HI3.out⟩
              case measure => simp [intOf]; omega
            | false =>
              have HM : Hid (mines n L c (k + 1) = mines n L c k ++ [k]) := hid (mines_yes HMM.out)
              obtain ⟨hi, hz0, hz1, hz2⟩ := HI0.out
              have hown1 : (w3.alloc (.cells #[.int .i64 k] 3)).ownsRow w.heap.size 3 1 (.slice va (mines n L c k).length vc) (mines n L c k).length (vals (mines n L c k)) := World.ownsRow.alloc HI3.out.own _
              have hsz : w.heap.size ≤ w3.heap.size := Nat.le_trans HB0.out.size HI3.out.bel.size
              go_wp2_with (at_builtin; (refine wpList_append_own_at _ rfl _ _ 41 rfl w.heap.size 3 i0 (.int .i64 0) 1 8 Try.underlying41 hi hz0 hz1 hz2 rfl (by decide) (Value.slice va (mines n L c k).length vc) _ _ rfl hown1 ⟨w3.heap.size, 0, none⟩ 1 1 [.int .i64 k] rfl ?d1 ?d2 ?d3 ?d4 ?d5 ?d6 ?_); rotate_left 6; intro v6 w6 hown6 hgr6 hnil6 hat6)
              case d1 => rfl
              case d2 => exact cell_one _ _ _
              case d3 => intro u hu; obtain rfl := List.mem_singleton.1 hu; rfl
              case d4 => unfold maxLen; omega
              case d5 => omega
              case d6 => simp; omega
              have HI6 := hid (HI3.out.push hown6 hgr6 hat6)
              clear hown1 hown6 hgr6 hnil6 hat6 hi hz0 hz1 hz2 hsz
              go_wp2_with fail
              go_roundw
              case rel => exact ⟨k + 1, by omega, by go_num, by rw [HM.out]; exact HI6.out⟩
              case measure => simp [intOf]; omega
    · obtain rfl : k = n := by omega
      clear HQr
      go_wp2_with fail
      go_ret
      exact ⟨⟨_, rfl, HI.out.own⟩, bl HB0.out HI.out.bel⟩

end Go.Proofs.Ytakmfcnmcjbbgaa.RejP
