/-
  How the program's Of counts, as plain lists: the lots that any price suits, and those of each price by itself, summed up from one end of the prices and from the other; and that it is how much is bought and sold at each. No program is named here.
-/
import Derived.Test.YtkfmljokenclaabDoorCuPlain
namespace Go.Proofs.YtkfmljokenclaabDoor
open Go.RowKit

def sumQ (q : Ord → Bool) (l : List Ord) : Int := (l.map fun o => if q o = true then o.qty else 0).sum
def mkBB (o : Ord) : Bool := (o.kind == 2) && (o.side == 1)
def mkSB (o : Ord) : Bool := (o.kind == 2) && !(o.side == 1)
def limBB (p : Int) (o : Ord) : Bool := !(o.kind == 2) && ((o.price == p) && (o.side == 1))
def limSB (p : Int) (o : Ord) : Bool := !(o.kind == 2) && ((o.price == p) && !(o.side == 1))
/-- the same, at each of several prices -/
def sumX (q : Int → Ord → Bool) (xs : List Int) (l : List Ord) : Int := (xs.map fun p => sumQ (q p) l).sum

theorem sumQ_nil (q : Ord → Bool) : sumQ q [] = 0 := rfl
theorem sumQ_cons (q : Ord → Bool) (o : Ord) (l : List Ord) : sumQ q (o :: l) = (if q o = true then o.qty else 0) + sumQ q l := by simp [sumQ]
theorem sumQ_take {l : List Ord} {k : Nat} (q : Ord → Bool) (h : k < l.length) : sumQ q (l.take (k + 1)) = sumQ q (l.take k) + (if q (oAt l k) = true then (oAt l k).qty else 0) := by
  unfold sumQ
  rw [List.take_succ_eq_append_getElem h, List.map_append, List.map_singleton, sum_snoc, oAt_eq h]
theorem sumQ_yes {l : List Ord} {k : Nat} {q : Ord → Bool} (h : k < l.length) (hq : q (oAt l k) = true) : sumQ q (l.take (k + 1)) = sumQ q (l.take k) + (oAt l k).qty := by rw [sumQ_take q h, if_pos hq]
theorem sumQ_no {l : List Ord} {k : Nat} {q : Ord → Bool} (h : k < l.length) (hq : q (oAt l k) = false) : sumQ q (l.take (k + 1)) = sumQ q (l.take k) := by rw [sumQ_take q h, if_neg (by rw [hq]; decide)]; omega
theorem sumQ_congr {q q' : Ord → Bool} : ∀ {l : List Ord}, (∀ o ∈ l, q o = q' o) → sumQ q l = sumQ q' l
  | [], _ => rfl
  | o :: l, h => by
    rw [sumQ_cons, sumQ_cons, h o (List.mem_cons_self ..), sumQ_congr (fun x hx => h x (List.mem_cons_of_mem _ hx))]
theorem sumQ_add {q q' : Ord → Bool} : ∀ {l : List Ord}, (∀ o ∈ l, q o = true → q' o = false) → sumQ q l + sumQ q' l = sumQ (fun o => q o || q' o) l
  | [], _ => rfl
  | o :: l, h => by
    have ih := sumQ_add (l := l) (fun x hx => h x (List.mem_cons_of_mem _ hx))
    have ho := h o (List.mem_cons_self ..)
    rw [sumQ_cons, sumQ_cons, sumQ_cons, ← ih]
    cases h1 : q o with
    | true => rw [ho h1]; simp; omega
    | false => cases h2 : q' o <;> simp <;> omega
theorem sumQ_in {q : Ord → Bool} : ∀ {l : List Ord}, (∀ o ∈ l, okO o = true) → 0 ≤ sumQ q l ∧ sumQ q l ≤ 1000000 * (l.length : Int)
  | [], _ => by simp [sumQ]
  | o :: l, h => by
    have ih := sumQ_in (q := q) (l := l) (fun x hx => h x (List.mem_cons_of_mem _ hx))
    have ho := (okO_qty (h o (List.mem_cons_self ..))).2
    rw [sumQ_cons, List.length_cons]
    split <;> omega
theorem sumQ_small {q : Ord → Bool} {l : List Ord} (h : ∀ o ∈ l, okO o = true) (hl : l.length ≤ 1000) : 0 ≤ sumQ q l ∧ sumQ q l ≤ 1000000000 := by
  have := sumQ_in (q := q) h; omega
theorem ok_take {l : List Ord} (h : ∀ o ∈ l, okO o = true) (k : Nat) : ∀ o ∈ l.take k, okO o = true := fun o ho => h o (List.mem_of_mem_take ho)

theorem sumX_nil (q : Int → Ord → Bool) (l : List Ord) : sumX q [] l = 0 := rfl
theorem sumX_none (q : Int → Ord → Bool) : ∀ xs : List Int, sumX q xs [] = 0
  | [] => rfl
  | x :: xs => by
    have e : sumX q (x :: xs) [] = sumQ (q x) [] + sumX q xs [] := by simp [sumX]
    rw [e, sumX_none q xs]; rfl
theorem sumX_one (q : Int → Ord → Bool) (x : Int) (xs : List Int) (l : List Ord) : sumX q (x :: xs) l = sumQ (q x) l + sumX q xs l := by simp [sumX]
theorem sumX_snoc (q : Int → Ord → Bool) (xs : List Int) (x : Int) (l : List Ord) : sumX q (xs ++ [x]) l = sumX q xs l + sumQ (q x) l := by
  unfold sumX; rw [List.map_append, List.map_singleton, sum_snoc]
theorem sumX_drop {q : Int → Ord → Bool} {xs : List Int} {k : Nat} (l : List Ord) (h : k < xs.length) : sumX q (xs.drop k) l = sumQ (q (xs.getD k 0)) l + sumX q (xs.drop (k + 1)) l := by
  rw [List.drop_eq_getElem_cons h, sumX_one]; simp [h]
theorem sumX_take {q : Int → Ord → Bool} {xs : List Int} {k : Nat} (l : List Ord) (h : k < xs.length) : sumX q (xs.take (k + 1)) l = sumX q (xs.take k) l + sumQ (q (xs.getD k 0)) l := by
  rw [List.take_succ_eq_append_getElem h, sumX_snoc]; simp [h]
/-- one order lies at one price alone -/
theorem one_price (c : Bool) (p v : Int) : ∀ {xs : List Int}, xs.Nodup → (xs.map fun x => if ((p == x) && c) = true then v else 0).sum = if (c && decide (p ∈ xs)) = true then v else 0
  | [], _ => by simp
  | x :: xs, h => by
    rw [List.nodup_cons] at h
    rw [List.map_cons, List.sum_cons, one_price c p v h.2]
    cases c with
    | false => simp
    | true =>
      by_cases e : p = x
      · subst e
        simp [h.1]
      · simp [e]
theorem sumX_cons (q : Int → Ord → Bool) (o : Ord) (l : List Ord) : ∀ xs : List Int, sumX q xs (o :: l) = (xs.map fun p => if q p o = true then o.qty else 0).sum + sumX q xs l
  | [] => rfl
  | x :: xs => by
    rw [sumX_one, sumX_one, sumX_cons q o l xs, sumQ_cons, List.map_cons, List.sum_cons]; omega
theorem sumX_is (c : Ord → Bool) {q : Int → Ord → Bool} (hq : ∀ p o, q p o = (!(o.kind == 2) && ((o.price == p) && c o))) {xs : List Int} (h : xs.Nodup) : ∀ l : List Ord, sumX q xs l = sumQ (fun o => !(o.kind == 2) && (c o && decide (o.price ∈ xs))) l
  | [] => sumX_none _ _
  | o :: l => by
    rw [sumX_cons, sumX_is c hq h l, sumQ_cons]
    congr 1
    have e := one_price (c o) o.price o.qty h
    cases hk : (o.kind == 2) with
    | true =>
      have : (xs.map fun p => if q p o = true then o.qty else 0) = xs.map fun _ => 0 := by
        congr 1; funext p; rw [hq, hk]; simp
      rw [this]
      have z : ∀ ys : List Int, (ys.map fun _ => (0 : Int)).sum = 0 := fun ys => by induction ys with
        | nil => rfl
        | cons y ys ih => rw [List.map_cons, List.sum_cons, ih]; rfl
      rw [z]; simp
    | false =>
      have : (xs.map fun p => if q p o = true then o.qty else 0) = xs.map fun p => if ((o.price == p) && c o) = true then o.qty else 0 := by
        congr 1; funext p; rw [hq, hk]; simp
      rw [this, e]; simp
theorem sumB_is {xs : List Int} (h : xs.Nodup) (l : List Ord) : sumX limBB xs l = sumQ (fun o => !(o.kind == 2) && ((o.side == 1) && decide (o.price ∈ xs))) l := sumX_is (fun o => o.side == 1) (fun _ _ => rfl) h l
theorem sumS_is {xs : List Int} (h : xs.Nodup) (l : List Ord) : sumX limSB xs l = sumQ (fun o => !(o.kind == 2) && (!(o.side == 1) && decide (o.price ∈ xs))) l := sumX_is (fun o => !(o.side == 1)) (fun _ _ => rfl) h l
/-- the order in which prices are summed up is nothing -/
theorem sumB_same {xs ys : List Int} (h : xs.Nodup) (h' : ys.Nodup) (hm : ∀ p, p ∈ xs ↔ p ∈ ys) (l : List Ord) : sumX limBB xs l = sumX limBB ys l := by
  rw [sumB_is h, sumB_is h']; exact sumQ_congr (fun o _ => by simp [hm])
theorem rises_nodup {xs : List Int} (h : xs.Pairwise (· < ·)) : xs.Nodup := h.imp (fun e => by omega)
theorem rises_getD {xs : List Int} (h : xs.Pairwise (· < ·)) {i j : Nat} (hij : i < j) (hj : j < xs.length) : xs.getD i 0 < xs.getD j 0 := by
  rw [List.getD_eq_getElem?_getD, List.getD_eq_getElem?_getD, List.getElem?_eq_getElem (by omega), List.getElem?_eq_getElem hj, Option.getD_some, Option.getD_some]
  exact List.pairwise_iff_getElem.1 h i j (by omega) hj hij
theorem mem_getD {xs : List Int} {q : Int} (h : q ∈ xs) : ∃ i, i < xs.length ∧ xs.getD i 0 = q := by
  obtain ⟨i, hi, e⟩ := List.mem_iff_getElem.1 h
  exact ⟨i, hi, by simpa [hi] using e⟩
theorem drop_mem {xs : List Int} {k : Nat} {q : Int} : q ∈ xs.drop k ↔ ∃ i, k ≤ i ∧ i < xs.length ∧ xs.getD i 0 = q := by
  rw [List.mem_iff_getElem]
  constructor
  · rintro ⟨i, hi, e⟩
    rw [List.length_drop] at hi
    refine ⟨k + i, by omega, by omega, ?_⟩
    rw [List.getElem_drop] at e
    simpa [List.getD_eq_getElem?_getD, show k + i < xs.length by omega] using e
  · rintro ⟨i, h1, h2, e⟩
    refine ⟨i - k, by rw [List.length_drop]; omega, ?_⟩
    rw [List.getElem_drop]
    simp only [show k + (i - k) = i by omega]
    simpa [List.getD_eq_getElem?_getD, h2] using e
theorem take_mem {xs : List Int} {k : Nat} {q : Int} : q ∈ xs.take k ↔ ∃ i, i < k ∧ i < xs.length ∧ xs.getD i 0 = q := by
  rw [List.mem_iff_getElem]
  constructor
  · rintro ⟨i, hi, e⟩
    rw [List.length_take] at hi
    rw [List.getElem_take] at e
    exact ⟨i, by omega, by omega, by simpa [List.getD_eq_getElem?_getD, show i < xs.length by omega] using e⟩
  · rintro ⟨i, h1, h2, e⟩
    refine ⟨i, by rw [List.length_take]; omega, ?_⟩
    rw [List.getElem_take]
    simpa [List.getD_eq_getElem?_getD, h2] using e
theorem rises_drop {xs : List Int} (h : xs.Pairwise (· < ·)) {k : Nat} (hk : k < xs.length) {q : Int} (hq : q ∈ xs) : q ∈ xs.drop k ↔ xs.getD k 0 ≤ q := by
  rw [drop_mem]
  obtain ⟨i, hi, rfl⟩ := mem_getD hq
  constructor
  · rintro ⟨j, h1, h2, e⟩
    rw [← e]
    rcases Nat.lt_or_eq_of_le h1 with h3 | rfl
    · exact Int.le_of_lt (rises_getD h h3 h2)
    · exact Int.le_refl _
  · intro hle
    refine ⟨i, ?_, hi, rfl⟩
    by_cases hik : i < k
    · have := rises_getD h hik hk; omega
    · omega
theorem rises_take {xs : List Int} (h : xs.Pairwise (· < ·)) {k : Nat} (hk : k < xs.length) {q : Int} (hq : q ∈ xs) : q ∈ xs.take (k + 1) ↔ q ≤ xs.getD k 0 := by
  rw [take_mem]
  obtain ⟨i, hi, rfl⟩ := mem_getD hq
  constructor
  · rintro ⟨j, h1, h2, e⟩
    rw [← e]
    rcases Nat.lt_or_eq_of_le (Nat.le_of_lt_succ h1) with h3 | rfl
    · exact Int.le_of_lt (rises_getD h h3 hk)
    · exact Int.le_refl _
  · intro hle
    refine ⟨i, ?_, hi, rfl⟩
    by_cases hik : k < i
    · have := rises_getD h hik hi; omega
    · omega
/-- at a price as much is bought as any price suits, and is named from there on -/
theorem dem_at {F : List Ord} {xs : List Int} {k : Nat} (hF : ∀ o ∈ F, okO o = true) (h : xs.Pairwise (· < ·)) (hm : ∀ o ∈ F, namesO o = true → o.price ∈ xs) (hk : k < xs.length) :
    sumQ mkBB F + sumX limBB (xs.drop k) F = demO (xs.getD k 0) F := by
  rw [sumB_is ((rises_nodup h).sublist (List.drop_sublist ..)), sumQ_add (fun o _ h1 => by unfold mkBB at h1; rw [Bool.and_eq_true] at h1; simp [h1.1])]
  refine sumQ_congr (q' := buysB (xs.getD k 0)) (fun o ho => ?_)
  have h1 := hF o ho
  unfold mkBB buysB
  rw [h1]
  cases hk2 : (o.kind == 2) with
  | true => simp
  | false =>
    have hn : namesO o = true := by unfold namesO; rw [h1, hk2]; rfl
    have := rises_drop h hk (hm o ho hn)
    simp only [Bool.false_and, Bool.false_or, Bool.not_false, Bool.true_and]
    congr 1
    rw [Bool.eq_iff_iff, decide_eq_true_iff, decide_eq_true_iff]
    exact this
theorem sup_at {F : List Ord} {xs : List Int} {k : Nat} (hF : ∀ o ∈ F, okO o = true) (h : xs.Pairwise (· < ·)) (hm : ∀ o ∈ F, namesO o = true → o.price ∈ xs) (hk : k < xs.length) :
    sumQ mkSB F + sumX limSB (xs.take (k + 1)) F = supO (xs.getD k 0) F := by
  rw [sumS_is ((rises_nodup h).sublist (List.take_sublist ..)), sumQ_add (fun o _ h1 => by unfold mkSB at h1; rw [Bool.and_eq_true] at h1; simp [h1.1])]
  refine sumQ_congr (q' := sellsB (xs.getD k 0)) (fun o ho => ?_)
  have h1 := hF o ho
  have h2 := (okO_qty h1).1
  have hs : (o.side == 2) = !(o.side == 1) := by
    rw [Bool.eq_iff_iff]; simp; omega
  unfold mkSB sellsB
  rw [h1, hs]
  cases hk2 : (o.kind == 2) with
  | true => simp
  | false =>
    have hn : namesO o = true := by unfold namesO; rw [h1, hk2]; rfl
    have := rises_take h hk (hm o ho hn)
    simp only [Bool.false_and, Bool.false_or, Bool.not_false, Bool.true_and]
    congr 1
    rw [Bool.eq_iff_iff, decide_eq_true_iff, decide_eq_true_iff]
    exact this
/-- orders that are nothing count for nothing -/
theorem dem_ok (p : Int) : ∀ l : List Ord, demO p (l.filter okO) = demO p l
  | [] => rfl
  | o :: l => by
    have e : demO p (o :: l) = (if buysB p o = true then o.qty else 0) + demO p l := by simp [demO]
    have ih := dem_ok p l
    rw [e]
    by_cases h : okO o = true
    · rw [List.filter_cons, if_pos h]
      have e2 : demO p (o :: l.filter okO) = (if buysB p o = true then o.qty else 0) + demO p (l.filter okO) := by simp [demO]
      rw [e2, ih]
    · rw [List.filter_cons, if_neg h, ih]
      have : buysB p o = false := by unfold buysB; simp [h]
      rw [this]; simp
theorem sup_ok (p : Int) : ∀ l : List Ord, supO p (l.filter okO) = supO p l
  | [] => rfl
  | o :: l => by
    have e : supO p (o :: l) = (if sellsB p o = true then o.qty else 0) + supO p l := by simp [supO]
    have ih := sup_ok p l
    rw [e]
    by_cases h : okO o = true
    · rw [List.filter_cons, if_pos h]
      have e2 : supO p (o :: l.filter okO) = (if sellsB p o = true then o.qty else 0) + supO p (l.filter okO) := by simp [supO]
      rw [e2, ih]
    · rw [List.filter_cons, if_neg h, ih]
      have : sellsB p o = false := by unfold sellsB; simp [h]
      rw [this]; simp
theorem prices_ok (l : List Ord) (more : Int) : pricesO (l.filter okO) more = pricesO l more := by
  unfold pricesO
  rw [List.filter_filter]
  congr 2
  refine List.filter_congr (fun o _ => ?_)
  unfold namesO
  cases okO o <;> simp
/-- the points, at a rising list of just the prices -/
def ptsX (xs : List Int) (l : List Ord) : List Pt := xs.map fun p => ⟨p, demO p l, supO p l⟩
theorem ptsX_take {xs : List Int} {k : Nat} (l : List Ord) (h : k < xs.length) : ptsX (xs.take (k + 1)) l = ptsX (xs.take k) l ++ [⟨xs.getD k 0, demO (xs.getD k 0) l, supO (xs.getD k 0) l⟩] := by
  unfold ptsX
  rw [List.take_succ_eq_append_getElem h, List.map_append, List.map_singleton]
  simp [h]
theorem ptsX_curve {l : List Ord} {more : Int} {xs : List Int} (h : xs.Pairwise (· < ·)) (hm : ∀ p, p ∈ xs ↔ p ∈ pricesO (l.filter okO) more) : ptsX xs (l.filter okO) = curveL l more := by
  unfold ptsX curveL
  rw [curve_prices h (fun p => by rw [hm, prices_ok])]
  refine List.map_congr_left (fun p _ => ?_)
  rw [dem_ok, sup_ok]
/-- sorted, and none twice: rising -/
theorem sorted_rises {xs : List Int} (h : xs.Nodup) : (sortI xs).Pairwise (· < ·) := by
  have h1 := sortI_sorted xs
  have h2 : (sortI xs).Nodup := (List.mergeSort_perm xs _).nodup_iff.2 h
  refine (h1.and h2).imp (fun ⟨a, b⟩ => by omega)
end Go.Proofs.YtkfmljokenclaabDoor
