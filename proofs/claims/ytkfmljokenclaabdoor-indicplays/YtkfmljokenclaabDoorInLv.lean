/-
  Levels: a price, and how many lots are bought and sold there; lists of them as they lie in memory (four cells each: the price, and the lots of no side, of Buy, of Sell); rising lists, where a price stands in one, and what becomes of it when a price comes, changes, or goes. No program is named here.
-/
import Derived.Test.YtkfmljokenclaabDoorBlk
namespace Go.Proofs.YtkfmljokenclaabDoor
open Go.RowKit

structure Lv where
  price : Int
  buy : Int
  sell : Int
def Lv.none_ : Lv := ⟨0, 0, 0⟩
def lvV : List Lv → List Value
  | [] => []
  | x :: l => .int .i64 x.price :: .int .i64 0 :: .int .i64 x.buy :: .int .i64 x.sell :: lvV l
def lvAt (l : List Lv) (k : Nat) : Lv := l.getD k Lv.none_
theorem lvV_length (l : List Lv) : (lvV l).length = l.length * 4 := by
  induction l with
  | nil => rfl
  | cons o l ih => simp [lvV, ih]; omega
theorem lvV_append (a b : List Lv) : lvV (a ++ b) = lvV a ++ lvV b := by
  induction a with
  | nil => rfl
  | cons o a ih => simp [lvV, ih]
theorem lvV_one (l : List Lv) : ∀ u ∈ lvV l, u.oneCell' = true := by
  induction l with
  | nil => simp [lvV]
  | cons o l ih =>
    intro u hu
    simp only [lvV, List.mem_cons] at hu
    rcases hu with rfl | rfl | rfl | rfl | hu
    · rfl
    · rfl
    · rfl
    · rfl
    · exact ih u hu
theorem lvV_at {l : List Lv} {k : Nat} (h : k < l.length) : (lvV l)[k * 4]? = some (.int .i64 (lvAt l k).price) ∧ (lvV l)[k * 4 + 1]? = some (.int .i64 0) ∧ (lvV l)[k * 4 + 2]? = some (.int .i64 (lvAt l k).buy) ∧ (lvV l)[k * 4 + 3]? = some (.int .i64 (lvAt l k).sell) := by
  induction l generalizing k with
  | nil => simp at h
  | cons o l ih =>
    cases k with
    | zero => exact ⟨rfl, rfl, rfl, rfl⟩
    | succ k =>
      have := ih (k := k) (by simpa using h)
      rw [show (k + 1) * 4 = k * 4 + 1 + 1 + 1 + 1 by omega]
      have e : lvAt (o :: l) (k + 1) = lvAt l k := by simp [lvAt]
      rw [e]
      simpa [lvV] using this
theorem lvAt_eq {l : List Lv} {k : Nat} (h : k < l.length) : lvAt l k = l[k] := by simp [lvAt, h]
theorem lvAt_mem {l : List Lv} {k : Nat} (h : k < l.length) : lvAt l k ∈ l := by rw [lvAt_eq h]; exact List.getElem_mem h
theorem lvV_setB {l : List Lv} {k : Nat} (b : Int) (h : k < l.length) : (lvV l).set (k * 4 + 2) (.int .i64 b) = lvV (l.set k ⟨(lvAt l k).price, b, (lvAt l k).sell⟩) := by
  induction l generalizing k with
  | nil => simp at h
  | cons o l ih =>
    cases k with
    | zero => rfl
    | succ k =>
      have := ih (k := k) (by simpa using h)
      have e : lvAt (o :: l) (k + 1) = lvAt l k := by simp [lvAt]
      rw [e, show (k + 1) * 4 + 2 = k * 4 + 2 + 1 + 1 + 1 + 1 by omega]
      simp only [lvV, List.set_cons_succ]
      rw [← this]
theorem lvV_setS {l : List Lv} {k : Nat} (s : Int) (h : k < l.length) : (lvV l).set (k * 4 + 3) (.int .i64 s) = lvV (l.set k ⟨(lvAt l k).price, (lvAt l k).buy, s⟩) := by
  induction l generalizing k with
  | nil => simp at h
  | cons o l ih =>
    cases k with
    | zero => rfl
    | succ k =>
      have := ih (k := k) (by simpa using h)
      have e : lvAt (o :: l) (k + 1) = lvAt l k := by simp [lvAt]
      rw [e, show (k + 1) * 4 + 3 = k * 4 + 3 + 1 + 1 + 1 + 1 by omega]
      simp only [lvV, List.set_cons_succ]
      rw [← this]
theorem lvV_split (i : Nat) (l : List Lv) : lvV l = lvV (l.take i) ++ lvV (l.drop i) := by rw [← lvV_append, List.take_append_drop]

/-- one level more at a place -/
def insLv (i : Nat) (x : Lv) (l : List Lv) : List Lv := l.take i ++ x :: l.drop i
theorem insLv_length {i : Nat} (x : Lv) {l : List Lv} (h : i ≤ l.length) : (insLv i x l).length = l.length + 1 := by simp [insLv]; omega
theorem insLv_lvV (i : Nat) (x : Lv) (l : List Lv) : lvV (insLv i x l) = lvV (l.take i) ++ (.int .i64 x.price :: .int .i64 0 :: .int .i64 x.buy :: .int .i64 x.sell :: lvV (l.drop i)) := by unfold insLv; rw [lvV_append]; rfl
theorem insLv_end (x : Lv) (l : List Lv) : insLv l.length x l = l ++ [x] := by simp [insLv]

/-- prices rise -/
def RiseL (l : List Lv) : Prop := l.Pairwise fun x y => x.price < y.price
theorem RiseL.at {l : List Lv} (h : RiseL l) {i j : Nat} (hij : i < j) (hj : j < l.length) : (lvAt l i).price < (lvAt l j).price := by
  rw [lvAt_eq (show i < l.length by omega), lvAt_eq hj]
  exact List.pairwise_iff_getElem.1 h i j (by omega) hj hij
/-- where a price stands, or would stand -/
def posL (p : Int) : List Lv → Nat
  | [] => 0
  | x :: l => if x.price < p then posL p l + 1 else 0
theorem posL_le (p : Int) : ∀ l : List Lv, posL p l ≤ l.length
  | [] => Nat.le_refl _
  | x :: l => by
    have := posL_le p l
    unfold posL
    split <;> simp <;> omega
theorem posL_below {p : Int} : ∀ {l : List Lv} {j : Nat}, j < posL p l → (lvAt l j).price < p
  | [], j, h => by simp [posL] at h
  | x :: l, j, h => by
    unfold posL at h
    split at h
    · rename_i hx
      cases j with
      | zero => simpa [lvAt] using hx
      | succ j =>
        have e : lvAt (x :: l) (j + 1) = lvAt l j := by simp [lvAt]
        rw [e]
        exact posL_below (l := l) (by omega)
    · omega
theorem posL_at {p : Int} : ∀ {l : List Lv}, posL p l < l.length → p ≤ (lvAt l (posL p l)).price
  | [], h => by simp [posL] at h
  | x :: l, h => by
    unfold posL at h ⊢
    split at h
    · rename_i hx
      rw [if_pos hx]
      have e : lvAt (x :: l) (posL p l + 1) = lvAt l (posL p l) := by simp [lvAt]
      rw [e]
      exact posL_at (l := l) (by simpa using h)
    · rename_i hx
      rw [if_neg hx]
      simp [lvAt]; omega
/-- whoever stands between the lesser and the others has found it -/
theorem posL_is {p : Int} {l : List Lv} (h : RiseL l) {k : Nat} (hk : k ≤ l.length) (h1 : k = 0 ∨ (lvAt l (k - 1)).price < p) (h2 : k = l.length ∨ p ≤ (lvAt l k).price) : posL p l = k := by
  have hle := posL_le p l
  rcases Nat.lt_trichotomy (posL p l) k with hlt | he | hgt
  · have a1 := posL_at (p := p) (l := l) (by omega)
    rcases h1 with rfl | h1
    · omega
    · rcases Nat.lt_or_eq_of_le (show posL p l ≤ k - 1 by omega) with h3 | h3
      · have := h.at h3 (by omega); omega
      · rw [h3] at a1; omega
  · exact he
  · have a1 := posL_below (p := p) (l := l) hgt
    rcases h2 with rfl | h2
    · omega
    · omega
def hasL (p : Int) (l : List Lv) : Bool := decide (posL p l < l.length) && ((lvAt l (posL p l)).price == p)
theorem hasL_no {p : Int} {l : List Lv} (h : ¬ posL p l < l.length) : hasL p l = false := by unfold hasL; simp [h]
theorem hasL_at {p : Int} {l : List Lv} (h : posL p l < l.length) : hasL p l = ((lvAt l (posL p l)).price == p) := by unfold hasL; simp [h]
theorem hasL_iff {p : Int} {l : List Lv} (h : RiseL l) : hasL p l = true ↔ ∃ x ∈ l, x.price = p := by
  unfold hasL
  rw [Bool.and_eq_true, decide_eq_true_iff, beq_iff_eq]
  constructor
  · rintro ⟨h1, h2⟩; exact ⟨_, lvAt_mem h1, h2⟩
  · rintro ⟨x, hx, rfl⟩
    obtain ⟨i, hi, rfl⟩ := List.mem_iff_getElem.1 hx
    have e : posL l[i].price l = i := posL_is h (by omega) (by
      by_cases h0 : i = 0
      · exact Or.inl h0
      · have := h.at (i := i - 1) (j := i) (by omega) hi
        rw [lvAt_eq hi] at this
        exact Or.inr this) (Or.inr (by rw [lvAt_eq hi]; exact Int.le_refl _))
    rw [e]
    exact ⟨hi, by rw [lvAt_eq hi]⟩
/-- a price among them -/
def withL (p : Int) (l : List Lv) : List Lv := if hasL p l = true then l else insLv (posL p l) ⟨p, 0, 0⟩ l
theorem insLv_mem {i : Nat} {x y : Lv} {l : List Lv} : y ∈ insLv i x l ↔ y = x ∨ y ∈ l := by
  unfold insLv
  rw [List.mem_append, List.mem_cons]
  constructor
  · rintro (h | h | h)
    · exact Or.inr (List.mem_of_mem_take h)
    · exact Or.inl h
    · exact Or.inr (List.mem_of_mem_drop h)
  · rintro (h | h)
    · exact Or.inr (Or.inl h)
    · rw [← List.take_append_drop i l, List.mem_append] at h
      rcases h with h | h
      · exact Or.inl h
      · exact Or.inr (Or.inr h)
theorem take_price {p : Int} {l : List Lv} {y : Lv} (h : y ∈ l.take (posL p l)) : y.price < p := by
  obtain ⟨i, hi, rfl⟩ := List.mem_iff_getElem.1 h
  rw [List.length_take] at hi
  have := posL_below (p := p) (l := l) (j := i) (by omega)
  rw [lvAt_eq (by omega)] at this
  rw [List.getElem_take]
  exact this
theorem drop_price {p : Int} {l : List Lv} (hr : RiseL l) {y : Lv} (h : y ∈ l.drop (posL p l)) : p ≤ y.price := by
  obtain ⟨i, hi, rfl⟩ := List.mem_iff_getElem.1 h
  rw [List.length_drop] at hi
  rw [List.getElem_drop]
  have h1 := posL_at (p := p) (l := l) (by omega)
  rcases Nat.eq_zero_or_pos i with rfl | h0
  · rw [lvAt_eq (by omega)] at h1; exact h1
  · have := hr.at (i := posL p l) (j := posL p l + i) (by omega) (by omega)
    rw [lvAt_eq (show posL p l + i < l.length by omega)] at this
    omega
theorem insLv_rises {p : Int} {l : List Lv} {x : Lv} (hr : RiseL l) (hx : x.price = p) (hn : hasL p l = false) : RiseL (insLv (posL p l) x l) := by
  have hno : ∀ y ∈ l, y.price ≠ p := fun y hy e => by
    have := (hasL_iff hr).2 ⟨y, hy, e⟩
    rw [hn] at this; cases this
  unfold RiseL insLv
  rw [List.pairwise_append, List.pairwise_cons]
  refine ⟨hr.sublist (List.take_sublist ..), ⟨fun y hy => ?_, hr.sublist (List.drop_sublist ..)⟩, fun a ha b hb => ?_⟩
  · have := drop_price hr hy
    have := hno y (List.mem_of_mem_drop hy)
    omega
  · have h1 := take_price ha
    rw [List.mem_cons] at hb
    rcases hb with rfl | hb
    · omega
    · have := drop_price hr hb; omega
theorem withL_rises {p : Int} {l : List Lv} (hr : RiseL l) : RiseL (withL p l) := by
  unfold withL
  split
  · exact hr
  · rename_i h; exact insLv_rises hr rfl (by simpa using h)
theorem withL_len (p : Int) (l : List Lv) : (withL p l).length ≤ l.length + 1 := by
  unfold withL
  split
  · omega
  · rw [insLv_length _ (posL_le p l)]; omega
theorem withL_mem {p : Int} {l : List Lv} (hr : RiseL l) {q : Int} : (∃ x ∈ withL p l, x.price = q) ↔ (q = p ∨ ∃ x ∈ l, x.price = q) := by
  unfold withL
  split
  · rename_i h
    constructor
    · exact Or.inr
    · rintro (rfl | h1)
      · exact (hasL_iff hr).1 h
      · exact h1
  · constructor
    · rintro ⟨x, hx, rfl⟩
      rw [insLv_mem] at hx
      rcases hx with rfl | hx
      · exact Or.inl rfl
      · exact Or.inr ⟨x, hx, rfl⟩
    · rintro (rfl | ⟨x, hx, e⟩)
      · exact ⟨_, insLv_mem.2 (Or.inl rfl), rfl⟩
      · exact ⟨x, insLv_mem.2 (Or.inr hx), e⟩
theorem withL_has {p : Int} {l : List Lv} (hr : RiseL l) : hasL p (withL p l) = true := (hasL_iff (withL_rises hr)).2 ((withL_mem hr).2 (Or.inl rfl))
end Go.Proofs.YtkfmljokenclaabDoor
