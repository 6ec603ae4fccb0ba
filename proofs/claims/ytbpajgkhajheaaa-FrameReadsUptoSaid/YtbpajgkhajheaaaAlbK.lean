/- A book that took payloads: alone. -/
import Derived.Test.YtbpajgkhajheaaaAlbH
import Derived.Test.YtbpajgkhajheaaaAlbT
import Derived.Test.YtbpajgkhajheaaaFrmC2
namespace Go.Proofs.Ytbpajgkhajheaaa.AlbK
open Go.ChangeShapes Go.WideShapes Go.ChangeAt Go.RowKit Base AloA WldF Wri FrmP FrmA FrmE FrmC2 AlbC AlbD AlbE AlbG AlbH AlbT
set_option linter.unusedVariables false

theorem payb_pb {W : World} {B : Nat} {v : Value} {p : Bs} (h : PayB W B v p) (h0 : 0 < p.length) : Pb W B v p.length (p.map bv) := by
  obtain ⟨g, o, cap, cur, rfl, h1, h2, h3, h4, h5, h6, h7⟩ := h
  rcases h6 with ⟨rfl, h6⟩ | h6
  · refine .inl ⟨by simp, .inr ⟨g, cap, cur, rfl, h1, h2, h3, h4, by omega, ?_⟩⟩
    refine List.ext_getElem? (fun i => ?_)
    rw [List.getElem?_take, List.getElem?_map]
    split
    · rename_i hi
      have hp : p[i]? = some p[i] := List.getElem?_eq_getElem (by omega)
      have := h7 i _ hp
      rw [Nat.zero_add] at this
      rw [hp, Array.getElem?_toList, this]
      rfl
    · rw [List.getElem?_eq_none (by omega)]; rfl
  · subst h6
    refine .inr ⟨g, o, cur, rfl, h0, h4, h1, h2, h5, by simp, fun j u hj => ?_⟩
    rw [List.getElem?_map] at hj
    cases hx : p[j]? with
    | none => rw [hx] at hj; cases hj
    | some x =>
      rw [hx] at hj
      have : bv x = u := by simpa using hj
      rw [← this]
      exact h7 j x hx

theorem alone_some (b B bb N bc : Nat) (L : Nat → Value) (l : Nat → Nat) (w : World) (HL : Hid (Lists w B b bb N bc L l)) (hf : ∀ j, j < 8 → w.frozen? ⟨b, j, none⟩ = false) (hn : ∀ j, j < 8 → j ≠ 0 → w.cell? ⟨b, j, none⟩ = some (.slice none 0 0)) :
    Calls Try.prog 22 #[.pointer (some ⟨b, 0, none⟩)] w fun e w' => e = .returned (.bool true) ∧ Wr (fun k => k = b ∨ Mine N L k) w w' := by
  refine alone_of b (fun k => k = b ∨ Mine N L k) w (.inl rfl) (hid hn) (hid ((alone_bytes b B bb N bc L l w HL).mono ?_))
  rintro e w' ⟨rfl, hw⟩
  have hoff : ¬ Mine N L b := fun h => (HL.out.mine_off h).1 rfl
  have hlt := HL.out.lt
  have hlow := HL.out.low
  refine ⟨rfl, hw.mono (fun k hk => .inr hk), fun j hj => ⟨?_, fun h0 => (hw.cell j hlt.1 hoff).trans (hn j hj h0)⟩⟩
  by_cases h0 : j = 0
  · subst h0
    exact ⟨_, (hw.cell 0 hlt.1 hoff).trans HL.out.book, (hw.frozen 0 hlt.1 hoff).trans (hf 0 hj)⟩
  · exact ⟨_, (hw.cell j hlt.1 hoff).trans (hn j hj h0), (hw.frozen j hlt.1 hoff).trans (hf j hj)⟩

theorem alone_none (b : Nat) (w : World) (hf : ∀ j, j < 8 → w.frozen? ⟨b, j, none⟩ = false) (hn : ∀ j, j < 8 → w.cell? ⟨b, j, none⟩ = some (.slice none 0 0)) :
    Calls Try.prog 22 #[.pointer (some ⟨b, 0, none⟩)] w fun e w' => e = .returned (.bool true) ∧ Wr (fun k => k = b) w w' := by
  refine alone_of b (fun k => k = b) w rfl (hid (fun j hj _ => hn j hj)) (hid ((aloneBytes_none b w (hn 0 (by omega))).mono ?_))
  rintro e w' ⟨rfl, rfl⟩
  exact ⟨rfl, Wr.refl _ _, fun j hj => ⟨⟨_, hn j hj, hf j hj⟩, fun _ => hn j hj⟩⟩

/-- the lists of a book that took them -/
theorem lists_of {w0 W : World} {B b N : Nat} {blk0 : Option Nat} {vs : List Value} {ps : List Bs} (hbk : Bk w0 B b N blk0 vs W) (hN : 0 < N) (hN2 : N ≤ 1099511627776) (hlv : vs.length = N) (hlp : ps.length = N) (hB : B ≤ b) (hb : b < W.heap.size)
    (hp : ∀ (i : Nat) v p, vs[i]? = some v → ps[i]? = some p → PayB W B v p ∧ 0 < p.length ∧ p.length ≤ 4398046511104) (hap : ∀ (i j : Nat) v v', i < j → vs[i]? = some v → vs[j]? = some v' → v.ownBlock ≠ v'.ownBlock) (hoff : ∀ v ∈ vs, v.ownBlock ≠ some b) :
    ∃ bb bc, Lists W B b bb N bc (fun i => vs.getD i (.slice none 0 0)) (fun i => (ps.getD i []).length) := by
  obtain ⟨va, vc, h1, h2, hown, h4⟩ := hbk.row
  have hL : ∀ i, i < N → ∃ v p, vs[i]? = some v ∧ ps[i]? = some p ∧ vs.getD i (.slice none 0 0) = v ∧ ps.getD i [] = p := fun i hi => by
    obtain ⟨v, hv⟩ : ∃ v, vs[i]? = some v := ⟨_, List.getElem?_eq_getElem (by omega)⟩
    obtain ⟨p, hq⟩ : ∃ p, ps[i]? = some p := ⟨_, List.getElem?_eq_getElem (by omega)⟩
    exact ⟨v, p, hv, hq, by simp [List.getD, hv], by simp [List.getD, hq]⟩
  have hlt := hown.lt
  obtain ⟨bb, bc, e, hbb, hbl, hc⟩ := owns_at hown hN
  cases e
  have hrb := owns_kind hown (g := bb) rfl
  refine ⟨bb, vc, ⟨hN, hN2, fun i hi => ?_, ⟨hB, hbb⟩, ⟨hb, hbl⟩, h1, fun i hi => ?_, fun i hi => ?_, fun i k g hi hk e1 e2 => ?_, fun i g hi e1 => ?_⟩⟩
  · obtain ⟨v, p, hv, hq, ev, ep⟩ := hL i hi
    rw [ep]; exact (hp i v p hv hq).2.2
  · obtain ⟨v, p, hv, hq, ev, ep⟩ := hL i hi
    rw [ev]; exact hc i v hi hv
  · obtain ⟨v, p, hv, hq, ev, ep⟩ := hL i hi
    rw [ev, ep]; exact ⟨_, payb_pb (hp i v p hv hq).1 (hp i v p hv hq).2.1⟩
  · obtain ⟨v, p, hv, hq, ev, ep⟩ := hL i hi
    obtain ⟨v', p', hv', hq', ev', ep'⟩ := hL k hk
    rw [ev] at e1
    rw [ev'] at e2
    rcases Nat.lt_trichotomy i k with h | h | h
    · exact absurd (e1.trans e2.symm) (hap i k v v' h hv hv')
    · exact h
    · exact absurd (e2.trans e1.symm) (hap k i v' v h hv' hv)
  · obtain ⟨v, p, hv, hq, ev, ep⟩ := hL i hi
    rw [ev] at e1
    obtain ⟨g', cur, e3, hg1, hg2, hg3⟩ := (hp i v p hv hq).1.block
    rw [e1] at e3
    cases e3
    refine ⟨fun h => hoff v (List.mem_of_getElem? hv) (by rw [e1, h]), fun h => ?_, hg3, hg1⟩
    subst h
    obtain ⟨cur2, hh⟩ := hrb
    rw [hg2] at hh
    have := Option.some.inj hh
    injection this with _ e5 _
    exact absurd e5 (by decide)

end Go.Proofs.Ytbpajgkhajheaaa.AlbK
