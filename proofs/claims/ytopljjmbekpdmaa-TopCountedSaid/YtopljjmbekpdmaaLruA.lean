/- A bounded map in memory: elements in a ring, and a map to them. -/
import Derived.Test.YtopljjmbekpdmaaMap
import Derived.StringKeys
namespace Go.Proofs.Ytopljjmbekpdmaa.LruA
open Go.ChangeShapes Go.WideShapes Go.ChangeAt Go.RowKit Base Wri Map

def ptr (b : Nat) : Value := .pointer (some ⟨b, 0, none⟩)

/-- x stands ahead of y -/
def link (w : World) (x y : Nat) : Prop := w.cell? ⟨x, 3, none⟩ = some (ptr y) ∧ w.cell? ⟨y, 2, none⟩ = some (ptr x)

def Pre (w : World) : Nat → List Nat → Prop
  | _, [] => True
  | p, x :: r => link w p x ∧ Pre w x r
def lst : Nat → List Nat → Nat
  | p, [] => p
  | _, x :: r => lst x r
/-- those of p and A that stand ahead of one of A -/
def srcs : Nat → List Nat → List Nat
  | _, [] => []
  | p, x :: r => p :: srcs x r

theorem lst_app (p : Nat) (A : List Nat) (e : Nat) (B : List Nat) : lst p (A ++ e :: B) = lst e B := by
  induction A generalizing p with
  | nil => rfl
  | cons x r ih => exact ih x
theorem lst_mem (p : Nat) (A : List Nat) : lst p A ∈ p :: A := by
  induction A generalizing p with
  | nil => exact List.mem_cons_self
  | cons x r ih => exact List.mem_cons_of_mem _ (ih x)
theorem srcs_sub (p : Nat) (A : List Nat) : ∀ x ∈ srcs p A, x ∈ p :: A := by
  induction A generalizing p with
  | nil => intro x h; cases h
  | cons y r ih =>
    intro x h
    rcases List.mem_cons.1 h with rfl | h
    · exact List.mem_cons_self
    · exact List.mem_cons_of_mem _ (ih y x h)
theorem lst_not (p : Nat) (A : List Nat) (h : (p :: A).Nodup) : lst p A ∉ srcs p A := by
  induction A generalizing p with
  | nil => intro h; cases h
  | cons y r ih =>
    obtain ⟨h1, h2⟩ := List.nodup_cons.1 h
    intro hm
    rcases List.mem_cons.1 hm with hm | hm
    · exact h1 (hm ▸ lst_mem y r)
    · exact ih y h2 hm

theorem Pre.app {w : World} {p : Nat} {A : List Nat} {e : Nat} {B : List Nat} : Pre w p (A ++ e :: B) ↔ Pre w p A ∧ link w (lst p A) e ∧ Pre w e B := by
  induction A generalizing p with
  | nil => simp [Pre, lst]
  | cons x r ih =>
    show link w p x ∧ Pre w x (r ++ e :: B) ↔ (link w p x ∧ Pre w x r) ∧ link w (lst x r) e ∧ Pre w e B
    rw [ih, and_assoc]
theorem Pre.keep {w w' : World} {p : Nat} {A : List Nat} (h : Pre w p A) (h3 : ∀ x ∈ srcs p A, w'.cell? ⟨x, 3, none⟩ = w.cell? ⟨x, 3, none⟩) (h2 : ∀ y ∈ A, w'.cell? ⟨y, 2, none⟩ = w.cell? ⟨y, 2, none⟩) : Pre w' p A := by
  induction A generalizing p with
  | nil => trivial
  | cons x r ih => exact ⟨⟨(h3 p List.mem_cons_self).trans h.1.1, (h2 x List.mem_cons_self).trans h.1.2⟩, ih h.2 (fun y hy => h3 y (List.mem_cons_of_mem _ hy)) (fun y hy => h2 y (List.mem_cons_of_mem _ hy))⟩

def Ring (w : World) (kn : Nat) (L : List Nat) : Prop := Pre w kn L ∧ link w (lst kn L) kn

/-- the one behind -/
def nxt (kn : Nat) : List Nat → Nat
  | [] => kn
  | b :: _ => b

theorem Ring.around {w : World} {kn e : Nat} {A B : List Nat} (h : Ring w kn (A ++ e :: B)) : link w (lst kn A) e ∧ link w e (nxt kn B) := by
  obtain ⟨h1, h2⟩ := h
  rw [lst_app] at h2
  obtain ⟨_, h4, h5⟩ := Pre.app.1 h1
  refine ⟨h4, ?_⟩
  cases B with
  | nil => exact h2
  | cons b r => exact h5.1

theorem Ring.first {w : World} {kn : Nat} {L : List Nat} (h : Ring w kn L) : link w kn (nxt kn L) := by
  cases L with
  | nil => exact h.2
  | cons b r => exact h.1.1

theorem cell_other {w : World} {x y i j : Nat} {v : Value} (h : ¬ (x = y ∧ i = j)) : (w.setCell ⟨y, j, none⟩ v).cell? ⟨x, i, none⟩ = w.cell? ⟨x, i, none⟩ :=
  World.cell?_setCell_other _ _ _ _ (by intro e; cases e; exact h ⟨rfl, rfl⟩)

theorem Ring.leave {w : World} {kn e : Nat} {A B : List Nat} (h : Ring w kn (A ++ e :: B)) (hn : (kn :: (A ++ e :: B)).Nodup) (u : ∃ u, w.cell? ⟨lst kn A, 3, none⟩ = some u) (u2 : ∃ u, w.cell? ⟨nxt kn B, 2, none⟩ = some u) :
    Ring ((w.setCell ⟨lst kn A, 3, none⟩ (ptr (nxt kn B))).setCell ⟨nxt kn B, 2, none⟩ (ptr (lst kn A))) kn (A ++ B) := by
  obtain ⟨h1, h2⟩ := h
  rw [lst_app] at h2
  obtain ⟨h3, h4, h5⟩ := Pre.app.1 h1
  obtain ⟨pa, hpa⟩ : ∃ pa, lst kn A = pa := ⟨_, rfl⟩
  obtain ⟨pb, hpb⟩ : ∃ pb, nxt kn B = pb := ⟨_, rfl⟩
  rw [hpa] at h4 u ⊢
  rw [hpb] at u2 ⊢
  have c3 : ∀ x, x ≠ pa → ((w.setCell ⟨pa, 3, none⟩ (ptr pb)).setCell ⟨pb, 2, none⟩ (ptr pa)).cell? ⟨x, 3, none⟩ = w.cell? ⟨x, 3, none⟩ := fun x hx => by
    rw [cell_other (by omega), cell_other (fun e => hx e.1)]
  have c2 : ∀ y, y ≠ pb → ((w.setCell ⟨pa, 3, none⟩ (ptr pb)).setCell ⟨pb, 2, none⟩ (ptr pa)).cell? ⟨y, 2, none⟩ = w.cell? ⟨y, 2, none⟩ := fun y hy => by
    rw [cell_other (fun e => hy e.1), cell_other (by omega)]
  have hl : link ((w.setCell ⟨pa, 3, none⟩ (ptr pb)).setCell ⟨pb, 2, none⟩ (ptr pa)) pa pb := by
    obtain ⟨u, hu⟩ := u
    obtain ⟨u2, hu2⟩ := u2
    exact ⟨by rw [cell_other (by omega)]; exact World.cell?_setCell_same _ _ _ hu, World.cell?_setCell_same _ _ _ (by rw [cell_other (by omega)]; exact hu2)⟩
  have hA : (kn :: A).Nodup := by
    refine hn.sublist ?_
    rw [← List.cons_append]
    exact List.sublist_append_left _ _
  have hmem : ∀ x ∈ kn :: A, x ∉ e :: B := by
    rw [← List.cons_append] at hn
    exact fun x hx hy => (List.nodup_append.1 hn).2.2 x hx x hy rfl
  have hpam : pa ∈ kn :: A := hpa ▸ lst_mem kn A
  have hpn : pa ∉ srcs kn A := hpa ▸ lst_not kn A hA
  have hk : kn ∉ A := (List.nodup_cons.1 hA).1
  have hB : (e :: B).Nodup := by
    rw [← List.cons_append] at hn
    exact (List.nodup_append.1 hn).2.1
  cases B with
  | nil =>
    obtain rfl : kn = pb := hpb
    rw [List.append_nil]
    exact ⟨h3.keep (fun x hx => c3 x (fun e1 => hpn (e1 ▸ hx))) (fun y hy => c2 y (fun e1 => hk (e1 ▸ hy))), by rw [hpa]; exact hl⟩
  | cons b r =>
    obtain rfl : b = pb := hpb
    have hbA : b ∉ kn :: A := fun hm => hmem b hm (by simp)
    have hbr : b ∉ r := (List.nodup_cons.1 (List.nodup_cons.1 hB).2).1
    refine ⟨Pre.app.2 ⟨h3.keep (fun x hx => c3 x (fun e1 => hpn (e1 ▸ hx))) (fun y hy => c2 y (fun e1 => hbA (List.mem_cons_of_mem _ (e1 ▸ hy)))), by rw [hpa]; exact hl, h5.2.keep (fun x hx => c3 x (fun e1 => ?_)) (fun y hy => c2 y (fun e1 => hbr (e1 ▸ hy)))⟩, ?_⟩
    · have := srcs_sub b r x hx
      exact hmem pa hpam (List.mem_cons_of_mem _ (e1 ▸ this))
    · rw [lst_app]
      have hm := lst_mem b r
      exact ⟨(c3 _ (fun e1 => hmem pa hpam (List.mem_cons_of_mem _ (e1 ▸ hm)))).trans h2.1, (c2 kn (fun e1 => hbA (e1 ▸ List.mem_cons_self))).trans h2.2⟩

theorem Ring.push {w : World} {kn e : Nat} {L : List Nat} (h : Ring w kn L) (hn : (kn :: L).Nodup) (he : e ∉ kn :: L) (u2 : ∃ u, w.cell? ⟨e, 2, none⟩ = some u) (u3 : ∃ u, w.cell? ⟨e, 3, none⟩ = some u) :
    Ring ((((w.setCell ⟨e, 2, none⟩ (ptr (lst kn L))).setCell ⟨e, 3, none⟩ (ptr kn)).setCell ⟨lst kn L, 3, none⟩ (ptr e)).setCell ⟨kn, 2, none⟩ (ptr e)) kn (L ++ [e]) := by
  obtain ⟨h1, h2⟩ := h
  have hlm := lst_mem kn L
  have hln := lst_not kn L hn
  obtain ⟨la, hla⟩ : ∃ la, lst kn L = la := ⟨_, rfl⟩
  rw [hla] at h2 hlm hln ⊢
  have hel : e ≠ la := fun e1 => he (e1 ▸ hlm)
  have hek : e ≠ kn := fun e1 => he (e1 ▸ List.mem_cons_self)
  obtain ⟨v2, hv2⟩ := u2
  obtain ⟨v3, hv3⟩ := u3
  have c3 : ∀ x, x ≠ la → x ≠ e → ((((w.setCell ⟨e, 2, none⟩ (ptr la)).setCell ⟨e, 3, none⟩ (ptr kn)).setCell ⟨la, 3, none⟩ (ptr e)).setCell ⟨kn, 2, none⟩ (ptr e)).cell? ⟨x, 3, none⟩ = w.cell? ⟨x, 3, none⟩ := fun x h3 h4 => by
    rw [cell_other (by omega), cell_other (by omega), cell_other (by omega), cell_other (by omega)]
  have c2 : ∀ y, y ≠ kn → y ≠ e → ((((w.setCell ⟨e, 2, none⟩ (ptr la)).setCell ⟨e, 3, none⟩ (ptr kn)).setCell ⟨la, 3, none⟩ (ptr e)).setCell ⟨kn, 2, none⟩ (ptr e)).cell? ⟨y, 2, none⟩ = w.cell? ⟨y, 2, none⟩ := fun y h3 h4 => by
    rw [cell_other (by omega), cell_other (by omega), cell_other (by omega), cell_other (by omega)]
  refine ⟨Pre.app.2 ⟨h1.keep (fun x hx => c3 x (fun e1 => hln (e1 ▸ hx)) (fun e1 => he (srcs_sub kn L e (e1 ▸ hx)))) (fun y hy => c2 y (fun e1 => (List.nodup_cons.1 hn).1 (e1 ▸ hy)) (fun e1 => he (List.mem_cons_of_mem _ (e1 ▸ hy)))), ?_, trivial⟩, ?_⟩
  · rw [hla]
    refine ⟨?_, ?_⟩
    · rw [cell_other (by omega)]
      exact World.cell?_setCell_same _ _ _ (by rw [cell_other (by omega), cell_other (by omega)]; exact h2.1)
    · rw [cell_other (by omega), cell_other (by omega), cell_other (by omega)]
      exact World.cell?_setCell_same _ _ _ hv2
  · rw [lst_app]
    show link _ e kn
    refine ⟨?_, ?_⟩
    · rw [cell_other (by omega), cell_other (by omega)]
      exact World.cell?_setCell_same _ _ _ (by rw [cell_other (by omega)]; exact hv3)
    · exact World.cell?_setCell_same _ _ _ (by rw [cell_other (by omega), cell_other (by omega), cell_other (by omega)]; exact h2.2)

end Go.Proofs.Ytopljjmbekpdmaa.LruA
