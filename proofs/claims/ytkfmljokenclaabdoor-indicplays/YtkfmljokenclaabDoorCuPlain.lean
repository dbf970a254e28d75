/-
  Orders' curve, as plain lists: at which prices there are points, how much is bought and sold at each, and that a rising list is told by its elements alone. No program is named here.
-/
import Derived.Test.YtkfmljokenclaabDoorBkOrd
namespace Go.Proofs.YtkfmljokenclaabDoor
open Go.RowKit

def inC (lo hi z : Int) : Bool := decide (lo ≤ z) && decide (z ≤ hi)
theorem inC_iff {lo hi z : Int} : inC lo hi z = true ↔ (lo ≤ z ∧ z ≤ hi) := by unfold inC; simp
theorem inC_not {lo hi z : Int} : inC lo hi z = false ↔ (z < lo ∨ hi < z) := by
  rw [Bool.eq_false_iff, Ne, inC_iff]; omega

/-- a point of a curve -/
structure Pt where
  price : Int
  dem : Int
  sup : Int
def Pt.none_ : Pt := ⟨0, 0, 0⟩
def ptV : List Pt → List Value
  | [] => []
  | x :: l => .int .i64 x.price :: .int .i64 x.dem :: .int .i64 x.sup :: ptV l
def ptAt (l : List Pt) (k : Nat) : Pt := l.getD k Pt.none_
theorem ptV_length (l : List Pt) : (ptV l).length = l.length * 3 := by
  induction l with
  | nil => rfl
  | cons o l ih => simp [ptV, ih]; omega
theorem ptV_append (a b : List Pt) : ptV (a ++ b) = ptV a ++ ptV b := by
  induction a with
  | nil => rfl
  | cons o a ih => simp [ptV, ih]
theorem ptV_snoc (a : List Pt) (x : Pt) : ptV (a ++ [x]) = ptV a ++ [.int .i64 x.price, .int .i64 x.dem, .int .i64 x.sup] := by rw [ptV_append]; rfl
theorem ptV_at {l : List Pt} {k : Nat} (h : k < l.length) : (ptV l)[k * 3]? = some (.int .i64 (ptAt l k).price) ∧ (ptV l)[k * 3 + 1]? = some (.int .i64 (ptAt l k).dem) ∧ (ptV l)[k * 3 + 2]? = some (.int .i64 (ptAt l k).sup) := by
  induction l generalizing k with
  | nil => simp at h
  | cons o l ih =>
    cases k with
    | zero => exact ⟨rfl, rfl, rfl⟩
    | succ k =>
      have := ih (k := k) (by simpa using h)
      rw [show (k + 1) * 3 = k * 3 + 1 + 1 + 1 by omega]
      have e : ptAt (o :: l) (k + 1) = ptAt l k := by simp [ptAt]
      rw [e]
      simpa [ptV] using this
theorem ptAt_eq {l : List Pt} {k : Nat} (h : k < l.length) : ptAt l k = l[k] := by simp [ptAt, h]
theorem ptAt_mem {l : List Pt} {k : Nat} (h : k < l.length) : ptAt l k ∈ l := by rw [ptAt_eq h]; exact List.getElem_mem h
theorem row_pt {w : World} {base : Nat} {t : TypeId} {v : Value} {l : List Pt} (h : w.ownsRow base t 3 v l.length (ptV l)) {k : Nat} (hk : k < l.length) :
    ∃ g cap, v = .slice (some ⟨g, 0, none⟩) l.length cap ∧ w.cell? ⟨g, k * 3, none⟩ = some (.int .i64 (ptAt l k).price) ∧ w.cell? ⟨g, k * 3 + 1, none⟩ = some (.int .i64 (ptAt l k).dem) ∧ w.cell? ⟨g, k * 3 + 2, none⟩ = some (.int .i64 (ptAt l k).sup) := by
  obtain ⟨g, cap, rfl, _, _⟩ := h.form (by omega)
  obtain ⟨h1, h2, h3⟩ := ptV_at hk
  exact ⟨g, cap, rfl, (h.cellAt _ (by omega)).trans h1, (h.cellAt _ (by omega)).trans h2, (h.cellAt _ (by omega)).trans h3⟩

/-- 6.1: is an order something? -/
def okO (o : Ord) : Bool := inC 1 2 o.side && inC 1 1000000 o.qty
/-- has it a price of its own? -/
def namesO (o : Ord) : Bool := okO o && !(o.kind == 2)
/-- the prices that there are, as they come -/
def pricesO (l : List Ord) (more : Int) : List Int := (if 0 < more then [more] else []) ++ (l.filter namesO).map Ord.price
def buysB (p : Int) (o : Ord) : Bool := okO o && ((o.side == 1) && ((o.kind == 2) || decide (p ≤ o.price)))
def sellsB (p : Int) (o : Ord) : Bool := okO o && ((o.side == 2) && ((o.kind == 2) || decide (o.price ≤ p)))
/-- how much is bought at a price, and sold -/
def demO (p : Int) (l : List Ord) : Int := (l.map fun o => if buysB p o = true then o.qty else 0).sum
def supO (p : Int) (l : List Ord) : Int := (l.map fun o => if sellsB p o = true then o.qty else 0).sum

theorem sum_snoc (a : List Int) (x : Int) : (a ++ [x]).sum = a.sum + x := by simp
theorem demO_take {l : List Ord} {k : Nat} (p : Int) (h : k < l.length) : demO p (l.take (k + 1)) = demO p (l.take k) + (if buysB p (oAt l k) = true then (oAt l k).qty else 0) := by
  unfold demO
  rw [List.take_succ_eq_append_getElem h, List.map_append, List.map_singleton, sum_snoc, oAt_eq h]
theorem supO_take {l : List Ord} {k : Nat} (p : Int) (h : k < l.length) : supO p (l.take (k + 1)) = supO p (l.take k) + (if sellsB p (oAt l k) = true then (oAt l k).qty else 0) := by
  unfold supO
  rw [List.take_succ_eq_append_getElem h, List.map_append, List.map_singleton, sum_snoc, oAt_eq h]
theorem okO_qty {o : Ord} (h : okO o = true) : (1 ≤ o.side ∧ o.side ≤ 2) ∧ 1 ≤ o.qty ∧ o.qty ≤ 1000000 := by
  unfold okO at h
  rw [Bool.and_eq_true] at h
  exact ⟨inC_iff.1 h.1, inC_iff.1 h.2⟩
theorem buysB_ok {p : Int} {o : Ord} (h : buysB p o = true) : okO o = true := by unfold buysB at h; rw [Bool.and_eq_true] at h; exact h.1
theorem sellsB_ok {p : Int} {o : Ord} (h : sellsB p o = true) : okO o = true := by unfold sellsB at h; rw [Bool.and_eq_true] at h; exact h.1
theorem demO_in (p : Int) : ∀ l : List Ord, 0 ≤ demO p l ∧ demO p l ≤ 1000000 * (l.length : Int)
  | [] => by simp [demO]
  | o :: l => by
    have ih := demO_in p l
    have e : demO p (o :: l) = (if buysB p o = true then o.qty else 0) + demO p l := by simp [demO]
    rw [e, List.length_cons]
    split
    · rename_i hx
      have := (okO_qty (buysB_ok hx)).2
      omega
    · omega
theorem supO_in (p : Int) : ∀ l : List Ord, 0 ≤ supO p l ∧ supO p l ≤ 1000000 * (l.length : Int)
  | [] => by simp [supO]
  | o :: l => by
    have ih := supO_in p l
    have e : supO p (o :: l) = (if sellsB p o = true then o.qty else 0) + supO p l := by simp [supO]
    rw [e, List.length_cons]
    split
    · rename_i hx
      have := (okO_qty (sellsB_ok hx)).2
      omega
    · omega

/-- prices in the order in which sort.Ints lays them -/
def sortI (xs : List Int) : List Int := xs.mergeSort fun x y => decide (x ≤ y)
theorem sortI_length (xs : List Int) : (sortI xs).length = xs.length := List.length_mergeSort _
theorem sortI_mem {xs : List Int} {p : Int} : p ∈ sortI xs ↔ p ∈ xs := List.mem_mergeSort
theorem sortI_sorted (xs : List Int) : (sortI xs).Pairwise (· ≤ ·) := by
  have h := List.pairwise_mergeSort (le := fun x y : Int => decide (x ≤ y)) (fun a b c h1 h2 => by simp at *; omega) (fun a b => by simp; omega) xs
  exact h.imp (fun h => by simpa using h)
/-- is it the first of its kind? -/
def fstB (xs : List Int) (i : Nat) : Bool := (i == 0) || !(xs.getD (i - 1) 0 == xs.getD i 0)
/-- each of the first k once, where they rise -/
def uniqK (xs : List Int) (k : Nat) : List Int := ((List.range k).filter (fstB xs)).map fun i => xs.getD i 0
def uniqL (xs : List Int) : List Int := uniqK xs xs.length
theorem uniqK_step (xs : List Int) (k : Nat) : uniqK xs (k + 1) = if fstB xs k = true then uniqK xs k ++ [xs.getD k 0] else uniqK xs k := by
  unfold uniqK
  rw [List.range_succ, List.filter_append, List.map_append]
  by_cases h : fstB xs k = true
  · rw [if_pos h]; simp [h]
  · rw [if_neg h]; simp [h]
theorem uniqK_len (xs : List Int) : ∀ k, (uniqK xs k).length ≤ k
  | 0 => by simp [uniqK]
  | k + 1 => by
    rw [uniqK_step]
    have := uniqK_len xs k
    split
    · simp; omega
    · omega
/-- the points of orders -/
def curveL (l : List Ord) (more : Int) : List Pt := (uniqL (sortI (pricesO l more))).map fun p => ⟨p, demO p l, supO p l⟩

theorem getD_mono {xs : List Int} (h : xs.Pairwise (· ≤ ·)) {i j : Nat} (hij : i ≤ j) (hj : j < xs.length) : xs.getD i 0 ≤ xs.getD j 0 := by
  rw [List.getD_eq_getElem?_getD, List.getD_eq_getElem?_getD, List.getElem?_eq_getElem (by omega), List.getElem?_eq_getElem hj, Option.getD_some, Option.getD_some]
  rcases Nat.lt_or_eq_of_le hij with h1 | rfl
  · exact List.pairwise_iff_getElem.1 h i j (by omega) hj h1
  · exact Int.le_refl _
theorem uniqK_spec {xs : List Int} (h : xs.Pairwise (· ≤ ·)) : ∀ k, k ≤ xs.length → (uniqK xs k).Pairwise (· < ·) ∧ ∀ p, p ∈ uniqK xs k ↔ ∃ i, i < k ∧ xs.getD i 0 = p
  | 0, _ => ⟨by simp [uniqK], fun p => by simp [uniqK]⟩
  | k + 1, hk => by
    obtain ⟨h1, h2⟩ := uniqK_spec h k (by omega)
    rw [uniqK_step]
    by_cases hf : fstB xs k = true
    · rw [if_pos hf]
      refine ⟨?_, fun p => ?_⟩
      · rw [List.pairwise_append]
        refine ⟨h1, by simp, fun a ha b hb => ?_⟩
        rw [List.mem_singleton] at hb
        subst hb
        obtain ⟨i, hi, rfl⟩ := (h2 a).1 ha
        have hk0 : k ≠ 0 := by omega
        have hne : xs.getD (k - 1) 0 ≠ xs.getD k 0 := by
          unfold fstB at hf
          simpa [hk0] using hf
        have a1 := getD_mono h (i := i) (j := k - 1) (by omega) (by omega)
        have a2 := getD_mono h (i := k - 1) (j := k) (by omega) (by omega)
        omega
      · rw [List.mem_append, List.mem_singleton, h2]
        constructor
        · rintro (⟨i, hi, e⟩ | e)
          · exact ⟨i, by omega, e⟩
          · exact ⟨k, by omega, e.symm⟩
        · rintro ⟨i, hi, e⟩
          by_cases hik : i = k
          · subst hik; exact Or.inr e.symm
          · exact Or.inl ⟨i, by omega, e⟩
    · rw [if_neg hf]
      refine ⟨h1, fun p => ?_⟩
      rw [h2]
      constructor
      · rintro ⟨i, hi, e⟩; exact ⟨i, by omega, e⟩
      · rintro ⟨i, hi, e⟩
        by_cases hik : i = k
        · subst hik
          have hf' : fstB xs i = false := by simpa using hf
          unfold fstB at hf'
          rw [Bool.or_eq_false_iff] at hf'
          have hi0 : i ≠ 0 := by simpa using hf'.1
          have he : xs.getD (i - 1) 0 = xs.getD i 0 := by simpa using hf'.2
          exact ⟨i - 1, by omega, he.trans e⟩
        · exact ⟨i, by omega, e⟩
theorem uniqL_rises {xs : List Int} (h : xs.Pairwise (· ≤ ·)) : (uniqL xs).Pairwise (· < ·) := (uniqK_spec h _ (Nat.le_refl _)).1
theorem uniqL_mem {xs : List Int} (h : xs.Pairwise (· ≤ ·)) {p : Int} : p ∈ uniqL xs ↔ p ∈ xs := by
  rw [uniqL, (uniqK_spec h _ (Nat.le_refl _)).2, List.mem_iff_getElem]
  constructor
  · rintro ⟨i, hi, e⟩; exact ⟨i, hi, by simpa [List.getD_eq_getElem?_getD, hi] using e⟩
  · rintro ⟨i, hi, e⟩; exact ⟨i, hi, by simpa [List.getD_eq_getElem?_getD, hi] using e⟩
/-- a rising list is told by its elements -/
theorem rises_eq : ∀ {a b : List Int}, a.Pairwise (· < ·) → b.Pairwise (· < ·) → (∀ p, p ∈ a ↔ p ∈ b) → a = b
  | [], [], _, _, _ => rfl
  | [], y :: b, _, _, h => absurd ((h y).2 (List.mem_cons_self ..)) (by simp)
  | x :: a, [], _, _, h => absurd ((h x).1 (List.mem_cons_self ..)) (by simp)
  | x :: a, y :: b, ha, hb, h => by
    rw [List.pairwise_cons] at ha hb
    have hxy : x = y := by
      have h1 := (h x).1 (List.mem_cons_self ..)
      have h2 := (h y).2 (List.mem_cons_self ..)
      rw [List.mem_cons] at h1 h2
      rcases h1 with h1 | h1
      · exact h1
      · rcases h2 with h2 | h2
        · exact h2.symm
        · have := ha.1 y h2; have := hb.1 x h1; omega
    subst hxy
    rw [rises_eq ha.2 hb.2 (fun p => ?_)]
    constructor
    · intro hp
      have := (h p).1 (List.mem_cons_of_mem _ hp)
      rw [List.mem_cons] at this
      rcases this with rfl | h1
      · exact absurd (ha.1 p hp) (by omega)
      · exact h1
    · intro hp
      have := (h p).2 (List.mem_cons_of_mem _ hp)
      rw [List.mem_cons] at this
      rcases this with rfl | h1
      · exact absurd (hb.1 p hp) (by omega)
      · exact h1
/-- whoever finds a rising list of just those prices has the curve's -/
theorem curve_prices {l : List Ord} {more : Int} {xs : List Int} (h : xs.Pairwise (· < ·)) (hm : ∀ p, p ∈ xs ↔ p ∈ pricesO l more) : uniqL (sortI (pricesO l more)) = xs :=
  rises_eq (uniqL_rises (sortI_sorted _)) h (fun p => by rw [uniqL_mem (sortI_sorted _), sortI_mem, hm])
theorem pricesO_mem {l : List Ord} {more p : Int} : p ∈ pricesO l more ↔ ((0 < more ∧ p = more) ∨ ∃ o ∈ l, namesO o = true ∧ o.price = p) := by
  unfold pricesO
  rw [List.mem_append, List.mem_map]
  constructor
  · rintro (h | ⟨o, ho, e⟩)
    · split at h
      · rw [List.mem_singleton] at h; exact Or.inl ⟨by assumption, h⟩
      · simp at h
    · rw [List.mem_filter] at ho; exact Or.inr ⟨o, ho.1, ho.2, e⟩
  · rintro (⟨h, rfl⟩ | ⟨o, ho, h1, e⟩)
    · exact Or.inl (by rw [if_pos h]; simp)
    · exact Or.inr ⟨o, List.mem_filter.2 ⟨ho, h1⟩, e⟩
theorem pricesO_len (l : List Ord) (more : Int) : (pricesO l more).length ≤ l.length + 1 := by
  unfold pricesO
  rw [List.length_append, List.length_map]
  have := List.length_filter_le namesO l
  split <;> simp <;> omega
/-- the first k orders' prices -/
def pricesK (l : List Ord) (more : Int) (k : Nat) : List Int := pricesO (l.take k) more
theorem pricesK_step {l : List Ord} {k : Nat} (more : Int) (h : k < l.length) : pricesK l more (k + 1) = if namesO (oAt l k) = true then pricesK l more k ++ [(oAt l k).price] else pricesK l more k := by
  unfold pricesK pricesO
  rw [List.take_succ_eq_append_getElem h, List.filter_append, List.map_append, oAt_eq h, ← List.append_assoc]
  by_cases hn : namesO l[k] = true
  · rw [if_pos hn]; simp [hn]
  · rw [if_neg hn]; simp [hn]
end Go.Proofs.YtkfmljokenclaabDoor
