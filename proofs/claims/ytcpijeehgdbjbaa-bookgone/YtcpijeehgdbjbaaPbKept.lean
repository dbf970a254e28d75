/-
  Who came and went left nothing, over plain lists: sides without the orders that were added behind them. Conditions stand in each theorem.
-/
import Derived.Test.YtcpijeehgdbjbaaPbBest
namespace Go.Proofs.Ytcpijeehgdbjbaa
open Go.RowKit

def notIn (A : List Int) (y : Ly) : Bool := decide (y.o.id ∉ A)
/-- S' is S and orders of these ids besides -/
structure Kept (S S' : Nat → List Ly) (A : List Int) : Prop where
  same : ∀ s, s < 2 → (S' s).filter (notIn A) = S s
  lie : ∀ i ∈ A, Lies_ S' i
theorem Kept.start (S : Nat → List Ly) : Kept S S [] := ⟨fun s _ => by rw [List.filter_eq_self]; intro y _; simp [notIn], fun i hi => by cases hi⟩
theorem Kept.done {S S' : Nat → List Ly} (h : Kept S S' []) {s : Nat} (hs : s < 2) : S' s = S s := by
  have := h.same s hs
  rwa [List.filter_eq_self.2 (fun y _ => by simp [notIn])] at this
theorem Kept.add {S S' : Nat → List Ly} {A : List Int} {s n : Nat} {x : Ly} (h : Kept S S' A) (hs : s < 2) (hno : ∀ t, t < 2 → ∀ y ∈ S' t, y.o.id ≠ x.o.id) : Kept S (upS S' s (insAt n x (S' s))) (A ++ [x.o.id]) := by
  have hf : ∀ t, t < 2 → ∀ l : List Ly, (∀ y ∈ l, y ∈ S' t) → l.filter (notIn (A ++ [x.o.id])) = l.filter (notIn A) := fun t ht l hl => List.filter_congr fun y hy => by
    have := hno t ht y (hl y hy)
    simp [notIn, this]
  refine ⟨fun t ht => ?_, fun i hi => ?_⟩
  · by_cases e : t = s
    · subst e
      rw [upS_same, ← h.same t ht]
      unfold insAt
      have hx : notIn (A ++ [x.o.id]) x = false := by simp [notIn]
      rw [List.filter_append, List.filter_cons, hx, hf t ht _ (fun y hy => List.mem_of_mem_take hy)]
      simp only [Bool.false_eq_true, if_false]
      rw [hf t ht _ (fun y hy => List.mem_of_mem_drop hy), ← List.filter_append, List.take_append_drop]
    · rw [upS_other _ e, hf t ht _ (fun y hy => hy)]
      exact h.same t ht
  · rcases List.mem_append.1 hi with hi | hi
    · obtain ⟨t, ht, y, hy, he⟩ := h.lie i hi
      exact ⟨t, ht, y, (put_mem t y).2 (Or.inr hy), he⟩
    · simp only [List.mem_singleton] at hi
      exact ⟨s, hs, x, (put_mem s x).2 (Or.inl ⟨rfl, rfl⟩), hi.symm⟩
theorem Kept.gone {S S' : Nat → List Ly} {A A' : List Int} {m s i : Nat} {rs : List Sot} {fr : List Nat} {x : Ly} (h : Kept S S' A) (hp : Pb m rs fr S') (hs : s < 2) (hi : i < (S' s).length) (hx : lyAt (S' s) i = x) (hA : x.o.id ∈ A) (hA' : ∀ j, j ∈ A' ↔ (j ∈ A ∧ j ≠ x.o.id)) :
    Kept S (upS S' s (outAt i (S' s))) A' := by
  have hm := gone_mem hp hs hi hx
  have hf : ∀ t, t < 2 → ∀ y ∈ upS S' s (outAt i (S' s)) t, notIn A' y = notIn A y := fun t ht y hy => by
    have := ((hm t ht y).1 hy).2
    simp [notIn, hA', this]
  refine ⟨fun t ht => ?_, fun j hj => ?_⟩
  · rw [List.filter_congr (hf t ht), ← h.same t ht]
    by_cases e : t = s
    · subst e
      rw [upS_same]
      have h1 : S' t = (S' t).take i ++ x :: (S' t).drop (i + 1) := by rw [← hx, lyAt_eq hi, ← List.drop_eq_getElem_cons hi, List.take_append_drop]
      have hx0 : notIn A x = false := by simp [notIn, hA]
      conv => rhs; rw [h1]
      unfold outAt
      rw [List.filter_append, List.filter_append, List.filter_cons, hx0]
      simp
    · rw [upS_other _ e]
  · obtain ⟨hj1, hj2⟩ := (hA' j).1 hj
    obtain ⟨t, ht, y, hy, he⟩ := h.lie j hj1
    exact ⟨t, ht, y, (hm t ht y).2 ⟨hy, by rw [he]; exact hj2⟩, he⟩
end Go.Proofs.Ytcpijeehgdbjbaa
