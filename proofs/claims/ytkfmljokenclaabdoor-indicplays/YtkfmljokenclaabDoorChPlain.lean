/-
  Which point of a curve an auction chooses, as plain lists: step by step as the document's Choose goes, and that there is always one to be chosen where something is traded. No program is named here.
-/
import Derived.Test.YtkfmljokenclaabDoorCuPlain
namespace Go.Proofs.YtkfmljokenclaabDoor
open Go.RowKit

/-- how much is traded at a point, and how much is left -/
def trB (x : Pt) : Int := min x.dem x.sup
def absI (n : Int) : Int := if n < 0 then -n else n
def lfB (x : Pt) : Int := absI (x.dem - x.sup)
def mostL (l : List Pt) : Int := l.foldl (fun m x => max m (trB x)) 0
def leastStep (m : Int) (s : Int × Bool) (x : Pt) : Int × Bool := if trB x = m ∧ (s.2 = false ∨ lfB x < s.1) then (lfB x, true) else s
def leastL (m : Int) (l : List Pt) : Int × Bool := l.foldl (leastStep m) (0, false)
def bestB (m n : Int) (x : Pt) : Bool := (trB x == m) && (lfB x == n)
def bestL (m n : Int) (l : List Pt) : List Pt := l.filter (bestB m n)
def buysA (l : List Pt) : Bool := l.all fun x => decide (x.sup < x.dem)
def sellsA (l : List Pt) : Bool := l.all fun x => decide (x.dem < x.sup)
def betterB (b s : Bool) (around : Int) (p x : Pt) : Bool :=
  if b = true then decide (x.price < p.price) else if s = true then decide (p.price < x.price)
  else decide (absI (p.price - around) < absI (x.price - around)) || ((absI (p.price - around) == absI (x.price - around)) && decide (p.price < x.price))
def takeB (b s : Bool) (around : Int) (x p : Pt) : Pt := if betterB b s around p x = true then p else x
def pickL (b s : Bool) (around : Int) (l : List Pt) : Pt := l.foldl (takeB b s around) (ptAt l 0)
def pickK (b s : Bool) (around : Int) (l : List Pt) (k : Nat) : Pt := (l.take k).foldl (takeB b s around) (ptAt l 0)
/-- the point that is chosen -/
def chosenP (l : List Pt) (around : Int) : Pt :=
  let best := bestL (mostL l) (leastL (mostL l) l).1 l
  pickL (buysA best) (sellsA best) around best
/-- 6.2: its price, what is traded, and what is left over -/
structure Quo where
  price : Int
  qty : Int
  sur : Int
def quoP (x : Pt) : Quo := ⟨x.price, trB x, x.dem - x.sup⟩
def chooseL (l : List Pt) (around : Int) : Quo := if mostL l < 1 then ⟨0, 0, 0⟩ else quoP (chosenP l around)

theorem foldl_take {α : Type} (f : α → Pt → α) (a : α) {l : List Pt} {k : Nat} (h : k < l.length) : (l.take (k + 1)).foldl f a = f ((l.take k).foldl f a) (ptAt l k) := by
  rw [List.take_succ_eq_append_getElem h, List.foldl_append, ptAt_eq h]; rfl
theorem mostL_take {l : List Pt} {k : Nat} (h : k < l.length) : mostL (l.take (k + 1)) = max (mostL (l.take k)) (trB (ptAt l k)) := foldl_take _ _ h
theorem leastL_take {l : List Pt} {k : Nat} (m : Int) (h : k < l.length) : leastL m (l.take (k + 1)) = leastStep m (leastL m (l.take k)) (ptAt l k) := foldl_take _ _ h
theorem bestL_take {l : List Pt} {k : Nat} (m n : Int) (h : k < l.length) : bestL m n (l.take (k + 1)) = if bestB m n (ptAt l k) = true then bestL m n (l.take k) ++ [ptAt l k] else bestL m n (l.take k) := by
  unfold bestL
  rw [List.take_succ_eq_append_getElem h, List.filter_append, ptAt_eq h]
  by_cases hb : bestB m n l[k] = true
  · rw [if_pos hb]; simp [hb]
  · rw [if_neg hb]; simp [hb]
theorem pickK_step {b s : Bool} {around : Int} {l : List Pt} {k : Nat} (h : k < l.length) : pickK b s around l (k + 1) = takeB b s around (pickK b s around l k) (ptAt l k) := foldl_take _ _ h
theorem pickK_all (b s : Bool) (around : Int) (l : List Pt) : pickK b s around l l.length = pickL b s around l := by unfold pickK pickL; rw [List.take_length]
theorem buysA_snoc (l : List Pt) (x : Pt) : buysA (l ++ [x]) = (buysA l && decide (x.sup < x.dem)) := by simp [buysA, List.all_append]
theorem sellsA_snoc (l : List Pt) (x : Pt) : sellsA (l ++ [x]) = (sellsA l && decide (x.dem < x.sup)) := by simp [sellsA, List.all_append]

/-- numbers that can be reckoned with -/
structure Pt.Small (x : Pt) : Prop where
  p : -1099511627776 ≤ x.price ∧ x.price ≤ 1099511627776
  d : -1099511627776 ≤ x.dem ∧ x.dem ≤ 1099511627776
  s : -1099511627776 ≤ x.sup ∧ x.sup ≤ 1099511627776
theorem absI_in (n : Int) : 0 ≤ absI n ∧ n ≤ absI n ∧ -n ≤ absI n ∧ (absI n = n ∨ absI n = -n) := by
  unfold absI; split <;> omega
theorem trB_in {x : Pt} (h : x.Small) : -1099511627776 ≤ trB x ∧ trB x ≤ 1099511627776 := by
  have := h.d; have := h.s; unfold trB; omega
theorem mostL_zero (l : List Pt) : 0 ≤ mostL l := by
  have : ∀ (l : List Pt) (a : Int), 0 ≤ a → 0 ≤ l.foldl (fun m x => max m (trB x)) a := by
    intro l
    induction l with
    | nil => intro a h; exact h
    | cons x l ih => intro a h; exact ih (max a (trB x)) (by omega)
  exact this l 0 (Int.le_refl _)
theorem mostL_max {l : List Pt} {x : Pt} (h : x ∈ l) : trB x ≤ mostL l := by
  have mono : ∀ (l : List Pt) (a : Int), a ≤ l.foldl (fun m x => max m (trB x)) a := by
    intro l
    induction l with
    | nil => intro a; exact Int.le_refl _
    | cons y l ih => intro a; exact Int.le_trans (by omega) (ih (max a (trB y)))
  have key : ∀ (l : List Pt) (a : Int), x ∈ l → trB x ≤ l.foldl (fun m x => max m (trB x)) a := by
    intro l
    induction l with
    | nil => intro a h; cases h
    | cons y l ih =>
      intro a h
      rw [List.mem_cons] at h
      rcases h with rfl | h
      · exact Int.le_trans (by omega) (mono l (max a (trB x)))
      · exact ih _ h
  exact key l 0 h
theorem mostL_is (l : List Pt) : mostL l = 0 ∨ ∃ x ∈ l, trB x = mostL l := by
  have key : ∀ (l : List Pt) (a : Int), l.foldl (fun m x => max m (trB x)) a = a ∨ ∃ x ∈ l, trB x = l.foldl (fun m x => max m (trB x)) a := by
    intro l
    induction l with
    | nil => intro a; exact Or.inl rfl
    | cons y l ih =>
      intro a
      rw [List.foldl_cons]
      rcases ih (max a (trB y)) with h | ⟨x, hx, h⟩
      · rw [h]
        by_cases hm : trB y ≤ a
        · exact Or.inl (by omega)
        · exact Or.inr ⟨y, List.mem_cons_self .., by omega⟩
      · exact Or.inr ⟨x, List.mem_cons_of_mem _ hx, h⟩
  exact key l 0
theorem mostL_in {l : List Pt} (h : ∀ x ∈ l, x.Small) : 0 ≤ mostL l ∧ mostL l ≤ 1099511627776 := by
  refine ⟨mostL_zero l, ?_⟩
  rcases mostL_is l with h1 | ⟨x, hx, h1⟩
  · omega
  · rw [← h1]; exact (trB_in (h x hx)).2
/-- what has been found as the least is some point's, and no point has less -/
theorem leastL_spec (m : Int) : ∀ l : List Pt, ((leastL m l).2 = false ∧ ∀ x ∈ l, trB x ≠ m) ∨ ((leastL m l).2 = true ∧ (∃ x ∈ l, trB x = m ∧ lfB x = (leastL m l).1) ∧ ∀ x ∈ l, trB x = m → (leastL m l).1 ≤ lfB x) := by
  have key : ∀ (l pre : List Pt) (s : Int × Bool), ((s.2 = false ∧ ∀ x ∈ pre, trB x ≠ m) ∨ (s.2 = true ∧ (∃ x ∈ pre, trB x = m ∧ lfB x = s.1) ∧ ∀ x ∈ pre, trB x = m → s.1 ≤ lfB x)) →
      (((l.foldl (leastStep m) s).2 = false ∧ ∀ x ∈ pre ++ l, trB x ≠ m) ∨ ((l.foldl (leastStep m) s).2 = true ∧ (∃ x ∈ pre ++ l, trB x = m ∧ lfB x = (l.foldl (leastStep m) s).1) ∧ ∀ x ∈ pre ++ l, trB x = m → (l.foldl (leastStep m) s).1 ≤ lfB x)) := by
    intro l
    induction l with
    | nil => intro pre s h; simpa using h
    | cons y l ih =>
      intro pre s h
      rw [List.foldl_cons, show pre ++ y :: l = (pre ++ [y]) ++ l by simp]
      refine ih (pre ++ [y]) _ ?_
      unfold leastStep
      by_cases hy : trB y = m ∧ (s.2 = false ∨ lfB y < s.1)
      · rw [if_pos hy]
        right
        refine ⟨rfl, ⟨y, by simp, hy.1, rfl⟩, fun x hx hm => ?_⟩
        rw [List.mem_append, List.mem_singleton] at hx
        rcases hx with hx | rfl
        · rcases h with ⟨_, h2⟩ | ⟨h1, _, h3⟩
          · exact absurd hm (h2 x hx)
          · have := h3 x hx hm
            rcases hy.2 with h4 | h4
            · rw [h1] at h4; cases h4
            · show lfB y ≤ lfB x; omega
        · exact Int.le_refl _
      · rw [if_neg hy]
        rcases h with ⟨h1, h2⟩ | ⟨h1, ⟨z, hz, hz1, hz2⟩, h3⟩
        · left
          refine ⟨h1, fun x hx hm => ?_⟩
          rw [List.mem_append, List.mem_singleton] at hx
          rcases hx with hx | rfl
          · exact h2 x hx hm
          · exact hy ⟨hm, Or.inl h1⟩
        · right
          refine ⟨h1, ⟨z, by simp [hz], hz1, hz2⟩, fun x hx hm => ?_⟩
          rw [List.mem_append, List.mem_singleton] at hx
          rcases hx with hx | rfl
          · exact h3 x hx hm
          · have : ¬ lfB x < s.1 := fun e => hy ⟨hm, Or.inr e⟩
            omega
  intro l
  have := key l [] (0, false) (Or.inl ⟨rfl, fun x hx => by cases hx⟩)
  simpa [leastL] using this
theorem best_some {l : List Pt} (h : 1 ≤ mostL l) : 0 < (bestL (mostL l) (leastL (mostL l) l).1 l).length := by
  rcases mostL_is l with h1 | ⟨x, hx, h1⟩
  · omega
  · rcases leastL_spec (mostL l) l with ⟨_, h2⟩ | ⟨_, ⟨z, hz, hz1, hz2⟩, _⟩
    · exact absurd h1 (h2 x hx)
    · exact List.length_pos_of_mem (a := z) (List.mem_filter.2 ⟨hz, by unfold bestB; simp [hz1, hz2]⟩)
theorem pickK_mem (b s : Bool) (around : Int) {l : List Pt} (h : 0 < l.length) : ∀ k, k ≤ l.length → pickK b s around l k ∈ l
  | 0, _ => by unfold pickK; simpa using ptAt_mem h
  | k + 1, hk => by
    rw [pickK_step (by omega)]
    unfold takeB
    split
    · exact ptAt_mem (by omega)
    · exact pickK_mem b s around h k (by omega)
theorem chosen_mem {l : List Pt} (around : Int) (h : 1 ≤ mostL l) : chosenP l around ∈ l ∧ trB (chosenP l around) = mostL l := by
  have h0 := best_some h
  have h1 := pickK_mem (buysA (bestL (mostL l) (leastL (mostL l) l).1 l)) (sellsA (bestL (mostL l) (leastL (mostL l) l).1 l)) around h0 _ (Nat.le_refl _)
  rw [pickK_all] at h1
  have h2 : chosenP l around ∈ bestL (mostL l) (leastL (mostL l) l).1 l := h1
  have h3 := List.mem_filter.1 h2
  refine ⟨h3.1, ?_⟩
  have h4 := h3.2
  unfold bestB at h4
  rw [Bool.and_eq_true] at h4
  simpa using h4.1
end Go.Proofs.YtkfmljokenclaabDoor
