/-
  Which point the program's Choose chooses, as plain lists: those of the greatest number, step by step, and the first of them; and that it is the document's. No program is named here.
-/
import Derived.Test.YtkfmljokenclaabDoorChPlain
namespace Go.Proofs.YtkfmljokenclaabDoor
open Go.RowKit

/-- the greatest of numbers, from one on -/
def topF (f : Pt → Int) (a : Int) (l : List Pt) : Int := l.foldl (fun m x => max m (f x)) a
/-- those of the greatest number, as they stood -/
def mostF (f : Pt → Int) (l : List Pt) : List Pt := l.filter fun x => f x == topF f (f (ptAt l 0)) l
def leastF (f : Pt → Int) (l : List Pt) : List Pt := mostF (fun x => -f x) l
def surB (x : Pt) : Int := x.dem - x.sup
def apB (a b : Int) : Int := max a b - min a b
def lfP (x : Pt) : Int := apB x.dem x.sup
def nearP (around : Int) (x : Pt) : Int := apB x.price around
def upB (x : Pt) : Bool := decide (surB x > 0)
def downB (x : Pt) : Bool := decide (surB x < 0)
def allP (q : Pt → Bool) (l : List Pt) : Bool := (((l.filter q).length : Int) == (l.length : Int))
def lastP (around : Int) (l : List Pt) : List Pt :=
  if allP upB l = true then mostF Pt.price l else if allP downB l = true then leastF Pt.price l else leastF Pt.price (leastF (nearP around) l)
def nothP (l : List Pt) : Bool := ((l.length : Int) == 0) || decide (trB (ptAt l 0) < 1)
def chooseP (l : List Pt) (around : Int) : Quo :=
  if nothP (mostF trB l) = true then ⟨0, 0, 0⟩ else quoP (ptAt (lastP around (leastF lfP (mostF trB l))) 0)

theorem apB_abs (a b : Int) : apB a b = absI (a - b) := by unfold apB absI; split <;> omega
theorem lfP_is (x : Pt) : lfP x = lfB x := apB_abs _ _
theorem topF_take {f : Pt → Int} {a : Int} {l : List Pt} {k : Nat} (h : k < l.length) : topF f a (l.take (k + 1)) = max (topF f a (l.take k)) (f (ptAt l k)) := foldl_take _ _ h
theorem topF_ge (f : Pt → Int) : ∀ (l : List Pt) (a : Int), a ≤ topF f a l
  | [], a => Int.le_refl _
  | x :: l, a => Int.le_trans (by omega) (topF_ge f l (max a (f x)))
theorem topF_max (f : Pt → Int) : ∀ (l : List Pt) (a : Int) {x : Pt}, x ∈ l → f x ≤ topF f a l
  | y :: l, a, x, h => by
    rw [List.mem_cons] at h
    rcases h with rfl | h
    · exact Int.le_trans (by omega) (topF_ge f l (max a (f x)))
    · exact topF_max f l _ h
theorem topF_is (f : Pt → Int) : ∀ (l : List Pt) (a : Int), topF f a l = a ∨ ∃ x ∈ l, f x = topF f a l
  | [], a => Or.inl rfl
  | y :: l, a => by
    have e : topF f a (y :: l) = topF f (max a (f y)) l := rfl
    rw [e]
    rcases topF_is f l (max a (f y)) with h | ⟨x, hx, h⟩
    · rw [h]
      by_cases hm : f y ≤ a
      · exact Or.inl (by omega)
      · exact Or.inr ⟨y, List.mem_cons_self .., by omega⟩
    · exact Or.inr ⟨x, List.mem_cons_of_mem _ hx, h⟩
theorem mostF_spec (f : Pt → Int) {l : List Pt} (h : 0 < l.length) : ∃ top, mostF f l = l.filter (fun x => f x == top) ∧ (∀ x ∈ l, f x ≤ top) ∧ ∃ x ∈ l, f x = top := by
  refine ⟨topF f (f (ptAt l 0)) l, rfl, fun x hx => topF_max f l _ hx, ?_⟩
  rcases topF_is f l (f (ptAt l 0)) with e | e
  · exact ⟨ptAt l 0, ptAt_mem h, e.symm⟩
  · exact e
theorem mostF_len (f : Pt → Int) (l : List Pt) : (mostF f l).length ≤ l.length := List.length_filter_le _ _
theorem leastF_len (f : Pt → Int) (l : List Pt) : (leastF f l).length ≤ l.length := mostF_len _ _
theorem mostF_mem {f : Pt → Int} {l : List Pt} {x : Pt} (h : x ∈ mostF f l) : x ∈ l := (List.mem_filter.1 h).1
theorem leastF_mem {f : Pt → Int} {l : List Pt} {x : Pt} (h : x ∈ leastF f l) : x ∈ l := mostF_mem h
theorem mostF_pos (f : Pt → Int) {l : List Pt} (h : 0 < l.length) : 0 < (mostF f l).length := by
  obtain ⟨t, e, _, x, hx, h1⟩ := mostF_spec f h
  rw [e]
  exact List.length_pos_of_mem (a := x) (List.mem_filter.2 ⟨hx, by simp [h1]⟩)
theorem lastP_pos (around : Int) {l : List Pt} (h : 0 < l.length) : 0 < (lastP around l).length := by
  unfold lastP
  split
  · exact mostF_pos _ h
  · split
    · exact mostF_pos _ h
    · exact mostF_pos _ (mostF_pos _ h)
theorem lastP_mem {around : Int} {l : List Pt} {x : Pt} (h : x ∈ lastP around l) : x ∈ l := by
  unfold lastP at h
  split at h
  · exact mostF_mem h
  · split at h
    · exact leastF_mem h
    · exact leastF_mem (leastF_mem h)
theorem allP_is (q : Pt → Bool) (l : List Pt) : allP q l = l.all q := by
  induction l with
  | nil => rfl
  | cons x l ih =>
    have hl := List.length_filter_le q l
    by_cases h : q x = true
    · have e : allP q (x :: l) = allP q l := by
        unfold allP; simp only [List.filter_cons, h, if_true, List.length_cons]
        rw [Bool.eq_iff_iff]; simp
      rw [e, ih]; simp [h]
    · have e : allP q (x :: l) = false := by
        unfold allP; simp only [List.filter_cons, h, List.length_cons]
        simp; omega
      rw [e]; simp [h]

/-- the first of those that are asked for -/
theorem head_filter {q : Pt → Bool} : ∀ {l : List Pt}, (∃ x ∈ l, q x = true) → ∃ i, i < l.length ∧ ptAt (l.filter q) 0 = ptAt l i ∧ q (ptAt l i) = true ∧ ∀ j, j < i → q (ptAt l j) = false
  | [], h => by obtain ⟨x, hx, _⟩ := h; cases hx
  | y :: l, h => by
    by_cases hy : q y = true
    · refine ⟨0, by simp, ?_, ?_, fun j hj => by omega⟩
      · simp [ptAt, hy]
      · simpa [ptAt] using hy
    · obtain ⟨x, hx, hq⟩ := h
      rw [List.mem_cons] at hx
      rcases hx with rfl | hx
      · exact absurd hq hy
      · obtain ⟨i, h1, h2, h3, h4⟩ := head_filter (l := l) ⟨x, hx, hq⟩
        refine ⟨i + 1, by simpa using h1, ?_, ?_, fun j hj => ?_⟩
        · rw [List.filter_cons, if_neg hy, h2]; simp [ptAt]
        · simpa [ptAt] using h3
        · cases j with
          | zero => simpa [ptAt] using hy
          | succ j => have := h4 j (by omega); simpa [ptAt] using this

/-- by what one is better than another: two numbers, the first one first -/
def k1P (b s : Bool) (around : Int) (x : Pt) : Int := if b = true then 0 else if s = true then 0 else absI (x.price - around)
def k2P (b : Bool) (x : Pt) : Int := if b = true then -x.price else x.price
theorem better_iff (b s : Bool) (around : Int) (p x : Pt) : betterB b s around p x = true ↔ (k1P b s around p < k1P b s around x ∨ (k1P b s around p = k1P b s around x ∧ k2P b p < k2P b x)) := by
  unfold betterB k1P k2P
  cases b <;> cases s <;> simp
def IsFirst (b s : Bool) (around : Int) (l : List Pt) (k i : Nat) : Prop :=
  (∀ j, j < k → betterB b s around (ptAt l j) (ptAt l i) = false) ∧ ∀ j, j < i → betterB b s around (ptAt l i) (ptAt l j) = true
theorem pickK_first (b s : Bool) (around : Int) {l : List Pt} (h : 0 < l.length) : ∀ k, k ≤ l.length → ∃ i, i < l.length ∧ pickK b s around l k = ptAt l i ∧ IsFirst b s around l k i ∧ (i < k ∨ i = 0)
  | 0, _ => ⟨0, h, rfl, ⟨fun j hj => by omega, fun j hj => by omega⟩, Or.inr rfl⟩
  | k + 1, hk => by
    obtain ⟨i, h1, h2, ⟨h3, h4⟩, h5⟩ := pickK_first b s around h k (by omega)
    rw [pickK_step (by omega), h2]
    unfold takeB
    by_cases hb : betterB b s around (ptAt l k) (ptAt l i) = true
    · rw [if_pos hb]
      have hb' := (better_iff ..).1 hb
      refine ⟨k, by omega, rfl, ⟨fun j hj => ?_, fun j hj => ?_⟩, Or.inl (by omega)⟩
      · rw [Bool.eq_false_iff]
        intro hc
        have hc' := (better_iff ..).1 hc
        by_cases e : j = k
        · subst e; omega
        · have := h3 j (by omega)
          rw [Bool.eq_false_iff] at this
          exact this ((better_iff ..).2 (by omega))
      · have := h3 j hj
        rw [Bool.eq_false_iff] at this
        have h6 : ¬ _ := fun e => this ((better_iff ..).2 e)
        exact (better_iff ..).2 (by omega)
    · rw [if_neg hb]
      refine ⟨i, h1, rfl, ⟨fun j hj => ?_, h4⟩, h5.imp (fun e => by omega) id⟩
      by_cases e : j = k
      · subst e; simpa using hb
      · exact h3 j (by omega)
theorem first_one {b s : Bool} {around : Int} {l : List Pt} {i i' : Nat} (hi : i < l.length) (hi' : i' < l.length) (h : IsFirst b s around l l.length i) (h' : IsFirst b s around l l.length i') : i = i' := by
  rcases Nat.lt_trichotomy i i' with e | e | e
  · have h1 := h'.2 i e
    rw [h.1 i' hi'] at h1; cases h1
  · exact e
  · have h1 := h.2 i' e
    rw [h'.1 i hi] at h1; cases h1
theorem lastP_first {around : Int} {l : List Pt} (h : 0 < l.length) : ∃ i, i < l.length ∧ ptAt (lastP around l) 0 = ptAt l i ∧ IsFirst (buysA l) (sellsA l) around l l.length i := by
  have eu : allP upB l = buysA l := by
    rw [allP_is]; unfold buysA upB surB; congr 1; funext x; first | (simp; done) | (simp; omega)
  have ed : allP downB l = sellsA l := by
    rw [allP_is]; unfold sellsA downB surB; congr 1; funext x; first | (simp; done) | (simp; omega)
  unfold lastP
  rw [eu, ed]
  cases hb : buysA l with
  | true =>
    rw [if_pos rfl]
    obtain ⟨t, e, ht, z, hz, hz1⟩ := mostF_spec Pt.price h
    rw [e]
    obtain ⟨i, h1, h2, h3, h4⟩ := head_filter (q := fun x => x.price == t) ⟨z, hz, by simp [hz1]⟩
    refine ⟨i, h1, h2, fun j hj => ?_, fun j hj => ?_⟩
    · rw [Bool.eq_false_iff]
      intro hc
      have hc' := (better_iff ..).1 hc
      have := ht _ (ptAt_mem hj)
      have h3' : (ptAt l i).price = t := by simpa using h3
      simp [k1P, k2P] at hc'
      omega
    · have h5 := h4 j hj
      have h5' : (ptAt l j).price ≠ t := by simpa using h5
      have := ht _ (ptAt_mem (Nat.lt_trans hj h1))
      have h3' : (ptAt l i).price = t := by simpa using h3
      exact (better_iff ..).2 (by simp [k1P, k2P]; omega)
  | false =>
    rw [if_neg (by decide)]
    cases hs : sellsA l with
    | true =>
      rw [if_pos rfl]
      obtain ⟨t, e, ht, z, hz, hz1⟩ := mostF_spec (fun x => -x.price) h
      rw [leastF, e]
      obtain ⟨i, h1, h2, h3, h4⟩ := head_filter (q := fun x => -x.price == t) ⟨z, hz, by simp [hz1]⟩
      refine ⟨i, h1, h2, fun j hj => ?_, fun j hj => ?_⟩
      · rw [Bool.eq_false_iff]
        intro hc
        have hc' := (better_iff ..).1 hc
        have := ht _ (ptAt_mem hj)
        have h3' : -(ptAt l i).price = t := by simpa using h3
        simp [k1P, k2P] at hc'
        omega
      · have h5 := h4 j hj
        have h5' : -(ptAt l j).price ≠ t := by simpa using h5
        have := ht _ (ptAt_mem (Nat.lt_trans hj h1))
        have h3' : -(ptAt l i).price = t := by simpa using h3
        exact (better_iff ..).2 (by simp [k1P, k2P]; omega)
    | false =>
      rw [if_neg (by decide)]
      obtain ⟨t, e, ht, z, hz, hz1⟩ := mostF_spec (fun x => -nearP around x) h
      have e' : leastF (nearP around) l = l.filter (fun x => -nearP around x == t) := e
      have hp : 0 < (leastF (nearP around) l).length := mostF_pos _ h
      obtain ⟨t2, e2, ht2, z2, hz2, hz3⟩ := mostF_spec (fun x => -x.price) hp
      rw [show leastF Pt.price (leastF (nearP around) l) = (leastF (nearP around) l).filter (fun x => -x.price == t2) from e2]
      rw [e'] at hz2 ht2 ⊢
      rw [List.filter_filter]
      have hz2' := List.mem_filter.1 hz2
      obtain ⟨i, h1, h2, h3, h4⟩ := head_filter (l := l) (q := fun x => (-x.price == t2) && (-nearP around x == t)) ⟨z2, hz2'.1, by rw [hz2'.2]; simp [hz3]⟩
      have h3' : -(ptAt l i).price = t2 ∧ -nearP around (ptAt l i) = t := by simpa using h3
      have hn : ∀ x : Pt, nearP around x = absI (x.price - around) := fun x => apB_abs _ _
      refine ⟨i, h1, h2, fun j hj => ?_, fun j hj => ?_⟩
      · rw [Bool.eq_false_iff]
        intro hc
        have hc' := (better_iff ..).1 hc
        simp only [k1P, k2P, Bool.false_eq_true, if_false, ← hn] at hc'
        have h6 := ht _ (ptAt_mem hj)
        by_cases e : -nearP around (ptAt l j) = t
        · have := ht2 _ (List.mem_filter.2 ⟨ptAt_mem hj, by simp [e]⟩)
          omega
        · omega
      · have h5 := h4 j hj
        have h6 := ht _ (ptAt_mem (Nat.lt_trans hj h1))
        refine (better_iff ..).2 ?_
        simp only [k1P, k2P, Bool.false_eq_true, if_false, ← hn]
        by_cases e : -nearP around (ptAt l j) = t
        · have h7 := ht2 _ (List.mem_filter.2 ⟨ptAt_mem (Nat.lt_trans hj h1), by simp [e]⟩)
          have h8 : ¬ -(ptAt l j).price = t2 := by simpa [e] using h5
          omega
        · omega
theorem lastP_pick {around : Int} {l : List Pt} (h : 0 < l.length) : ptAt (lastP around l) 0 = pickL (buysA l) (sellsA l) around l := by
  obtain ⟨i, h1, h2, h3⟩ := lastP_first (around := around) h
  obtain ⟨i', h1', h2', h3', _⟩ := pickK_first (buysA l) (sellsA l) around h l.length (Nat.le_refl _)
  rw [pickK_all] at h2'
  rw [h2, h2', first_one h1 h1' h3 h3']
/-- the program's choice is the document's -/
theorem chooseP_is (l : List Pt) (around : Int) : chooseP l around = chooseL l around := by
  unfold chooseP chooseL
  by_cases hm : mostL l < 1
  · rw [if_pos hm]
    have hn : nothP (mostF trB l) = true := by
      by_cases hl : 0 < l.length
      · obtain ⟨t, e, _, z, hz, hz1⟩ := mostF_spec trB hl
        have h2 := ptAt_mem (mostF_pos trB hl)
        rw [e] at h2
        have h3 := List.mem_filter.1 h2
        have h4 := mostL_max h3.1
        rw [← e] at h4
        unfold nothP
        rw [Bool.or_eq_true]
        exact Or.inr (decide_eq_true (by omega))
      · have : (mostF trB l).length = 0 := by have := mostF_len trB l; omega
        unfold nothP; simp [this]
    rw [if_pos hn]
  · rw [if_neg hm]
    have hl : 0 < l.length := by
      rcases mostL_is l with h | ⟨x, hx, _⟩
      · omega
      · exact List.length_pos_of_mem hx
    obtain ⟨t, e, ht, z, hz, hz1⟩ := mostF_spec trB hl
    have hp1 := mostF_pos trB hl
    have et : t = mostL l := by
      rcases mostL_is l with h | ⟨x, hx, h⟩
      · omega
      · have h1 := ht x hx
        have h2 := mostL_max hz
        omega
    subst et
    have h3 := List.mem_filter.1 (e ▸ ptAt_mem hp1)
    have hn : nothP (mostF trB l) = false := by
      unfold nothP
      rw [Bool.or_eq_false_iff]
      refine ⟨by simp; intro h0; rw [h0] at hp1; simp at hp1, decide_eq_false ?_⟩
      have : trB (ptAt (mostF trB l) 0) = mostL l := by rw [← e] at h3; simpa using h3.2
      omega
    rw [if_neg (by rw [hn]; decide)]
    have eb : leastF lfP (mostF trB l) = bestL (mostL l) (leastL (mostL l) l).1 l := by
      obtain ⟨t2, e2, ht2, z2, hz2, hz3⟩ := mostF_spec (fun x => -lfP x) hp1
      rw [show leastF lfP (mostF trB l) = (mostF trB l).filter (fun x => -lfP x == t2) from e2]
      rcases leastL_spec (mostL l) l with ⟨_, h4⟩ | ⟨_, ⟨y, hy, hy1, hy2⟩, h5⟩
      · exact absurd hz1 (h4 z hz)
      · have e3 : t2 = -(leastL (mostL l) l).1 := by
          rw [e] at hz2 ht2
          have a1 := ht2 y (List.mem_filter.2 ⟨hy, by simp [hy1]⟩)
          have b1 := List.mem_filter.1 hz2
          have a2 := h5 z2 b1.1 (by simpa using b1.2)
          rw [lfP_is] at a1 hz3
          omega
        rw [e, List.filter_filter, bestL]
        congr 1
        funext x
        unfold bestB
        rw [e3, lfP_is, Bool.and_comm]
        congr 1
        rw [Bool.eq_iff_iff]; first | (simp; done) | (simp; omega)
    rw [eb, lastP_pick (best_some (by omega))]
    rfl
theorem quo_in {l : List Pt} {around : Int} (h : 0 < l.length) : ptAt (lastP around l) 0 ∈ l := lastP_mem (ptAt_mem (lastP_pos around h))
end Go.Proofs.YtkfmljokenclaabDoor
