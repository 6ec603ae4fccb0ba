/- WorldLoads: its arguments opened. -/
import Derived.Test.YthkpfjjcpifkcaaLoaH
import Derived.Test.YthkpfjjcpifkcaaOpn
import Derived.Test.YthkpfjjcpifkcaaRoom
namespace Go.Proofs.Ythkpfjjcpifkcaa.LoaI
open Go.ChangeShapes Go.WideShapes Go.ChangeAt Go.RowKit Go.Deep Base WldF Mem LoaA LoaH Opn
set_option linter.unusedVariables false

theorem underSam : ∃ fs, Try.prog.underlying 66 = some (.struct fs) ∧ oneCellFields Try.prog fs = true ∧ Try.prog.cellsOf 66 = fs.size ∧ fs.size = 3 ∧ fs[0]?.map (·.type) = some 3 ∧ fs[1]?.map (·.type) = some 3 ∧ fs[2]?.map (·.type) = some 3 := ⟨_, Try.underlying66, by kernel_rfl, by kernel_rfl, by kernel_rfl, by kernel_rfl, by kernel_rfl, by kernel_rfl⟩

theorem samples_arg {H : Type} {enc : TypeId × Value → H} {W : World} {base : Nat} {spare : Nat → Bool} {held : Bool} {fuel : Nat} {a : Option Addr} {n c : Nat} {x : DataW H × List MemPlace}
    (h : DataW.trod enc Try.prog W base spare held fuel 47 [.slice a n c] = some x) (hw : ∀ m ∈ x.1.weights Try.prog 47, m ≤ reachBytes) :
    n ≤ 5864062014805 ∧ ∃ F, Sm W a n F := by
  obtain ⟨fs, hu, h1, h2, h3, f0, f1, f2⟩ := underSam
  have hr := Room.rows_room Try.underlying47 h hw
  rw [show Try.prog.bytesOf 66 = 24 by kernel_rfl] at hr
  unfold reachBytes at hr
  refine ⟨by omega, ?_⟩
  rcases row_at Try.underlying47 hu h1 h2 h with ⟨rfl, rfl⟩ | ⟨p, rfl, hl, hm, hi⟩
  · exact ⟨fun _ _ => 0, fun h0 => by omega⟩
  · rw [h3] at hi
    have hint : ∀ i, i < n → ∀ j, j < 3 → ∃ y, W.cell? (p.add (i * 3 + j)) = some (.int .i64 y) := fun i hin j hj => by
      have hf : ∃ f, fs[j]? = some f ∧ f.type = 3 := by
        rcases (by omega : j = 0 ∨ j = 1 ∨ j = 2) with rfl | rfl | rfl
        · exact Option.map_eq_some_iff.1 f0
        · exact Option.map_eq_some_iff.1 f1
        · exact Option.map_eq_some_iff.1 f2
      obtain ⟨f, hf, ht⟩ := hf
      obtain ⟨v, z, k, hc, hz⟩ := hi i hin j f hf
      rw [ht] at hz
      obtain ⟨y, e0, _, _⟩ := DataW.trod_int Try.underlying3 hz
      simp only [List.cons.injEq, and_true] at e0
      exact ⟨y, by rw [hc, e0]⟩
    refine ⟨fun i j => match W.cell? (p.add (i * 3 + j)) with | some (.int _ y) => y | _ => 0, fun h0 => ?_⟩
    obtain ⟨b, off, spot⟩ := p
    obtain ⟨y0, hc0⟩ := hint 0 h0 0 (by omega)
    have hspot : spot = none := by simpa [Addr.add] using World.cell?_spot hc0
    subst hspot
    refine ⟨b, off, rfl, by have := World.block_lt_of_cell? _ _ hc0; simpa [Addr.add] using this, fun i hin j hj => ?_⟩
    obtain ⟨y, hc⟩ := hint i hin j hj
    have e : W.cell? ⟨b, off + i * 3 + j, none⟩ = some (.int .i64 y) := by
      rw [Go.WideShapes.add_plain] at hc
      rw [Nat.add_assoc]
      exact hc
    rw [e]
    simp only [hc]

theorem main {H : Type} {enc : TypeId × Value → H} {W : World} {base0 base1 base2 : Nat} {sp0 sp1 sp2 : Nat → Bool} {hd0 hd1 hd2 : Bool} {d0 d1 d2 : DataW H} {p0 p1 p2 : List MemPlace}
    (a0 : Option Addr) (len0 cap0 : Nat) (h0 : ∃ fuel, DataW.trod enc Try.prog W base0 sp0 hd0 fuel 47 [.slice a0 len0 cap0] = some (d0, p0)) (z0 : ∀ m ∈ d0.weights Try.prog 47, m ≤ reachBytes)
    (a1 : Option Addr) (len1 cap1 : Nat) (h1 : ∃ fuel, DataW.trod enc Try.prog W base1 sp1 hd1 fuel 47 [.slice a1 len1 cap1] = some (d1, p1)) (z1 : ∀ m ∈ d1.weights Try.prog 47, m ≤ reachBytes)
    (a2 : Option Addr) (len2 cap2 : Nat) (h2 : ∃ fuel, DataW.trod enc Try.prog W base2 sp2 hd2 fuel 26 [.slice a2 len2 cap2] = some (d2, p2)) (z2 : ∀ m ∈ d2.weights Try.prog 26, m ≤ reachBytes) :
    Calls Try.prog 4 #[.slice a0 len0 cap0, .slice a1 len1 cap1, .slice a2 len2 cap2] W fun e w' => e = .returned (.bool true) ∧ Below W.heap.size W w' := by
  obtain ⟨k0, h0⟩ := h0
  obtain ⟨k1, h1⟩ := h1
  obtain ⟨k2, h2⟩ := h2
  obtain ⟨b0, F0, S0⟩ := samples_arg h0 z0
  obtain ⟨b1, F1, S1⟩ := samples_arg h1 z1
  obtain ⟨a, n, c, f, e, hn, hf, _⟩ := ints_sized Try.underlying26 Try.underlying3 (by kernel_rfl) (by kernel_rfl) h2
  cases e
  exact loads_core len0 cap0 len1 cap1 len2 cap2 a0 a1 a2 F0 F1 f W b0 b1 hn (hid S0) (hid S1) (hid hf)

end Go.Proofs.Ythkpfjjcpifkcaa.LoaI
