/-
  Slots for orders as plain lists: each slot has its order (or none) and how often it was freed; beside them the slots that are free, the one that was freed last at the end. Beside them the two sides of a book, each a list of handles with their orders. What Put, Set and Take do to them, and what stays true. No program is named here.
-/
import Derived.Test.YtcpijeehgdbjbaaBkOrd
import Derived.Test.YtcpijeehgdbjbaaArSl
namespace Go.Proofs.Ytcpijeehgdbjbaa
open Go.RowKit

abbrev Sot := Option Ord × Int
def soAt (rs : List Sot) (k : Nat) : Sot := rs.getD k (none, 0)
def cntO : List Sot → Nat
  | [] => 0
  | r :: rs => (if r.1.isSome then 1 else 0) + cntO rs
def thO (t : Option Ord) : Ord := t.getD Ord.none_
theorem soAt_eq {rs : List Sot} {k : Nat} (h : k < rs.length) : soAt rs k = rs[k] := by simp [soAt, h]
theorem soAt_set_same {rs : List Sot} {k : Nat} (p : Sot) (h : k < rs.length) : soAt (rs.set k p) k = p := by simp [soAt, h]
theorem soAt_set_other {rs : List Sot} {k j : Nat} (p : Sot) (h : k ≠ j) : soAt (rs.set k p) j = soAt rs j := by simp [soAt, h]
theorem soAt_push {rs : List Sot} {k : Nat} (p : Sot) (h : k < rs.length) : soAt (rs ++ [p]) k = soAt rs k := by simp [soAt, List.getElem?_append, h]
theorem soAt_pushed (rs : List Sot) (p : Sot) : soAt (rs ++ [p]) rs.length = p := by simp [soAt]
theorem soAt_beyond {rs : List Sot} {k : Nat} (h : rs.length ≤ k) : soAt rs k = (none, 0) := by simp [soAt, h]
theorem soAt_some {rs : List Sot} {k : Nat} {o : Ord} {a : Int} (h : soAt rs k = (some o, a)) : k < rs.length := by
  rcases Nat.lt_or_ge k rs.length with h1 | h1
  · exact h1
  · rw [soAt_beyond h1] at h; cases h

theorem cntO_append (a b : List Sot) : cntO (a ++ b) = cntO a + cntO b := by
  induction a with
  | nil => simp [cntO]
  | cons r a ih => simp [cntO, ih]; omega
theorem cntO_le (rs : List Sot) : cntO rs ≤ rs.length := by
  induction rs with
  | nil => simp [cntO]
  | cons r a ih => simp only [cntO, List.length_cons]; split <;> omega
theorem cntO_set {rs : List Sot} {k : Nat} (p : Sot) (h : k < rs.length) : cntO (rs.set k p) + (if (soAt rs k).1.isSome then 1 else 0) = cntO rs + (if p.1.isSome then 1 else 0) := by
  induction rs generalizing k with
  | nil => simp at h
  | cons r rs ih =>
    cases k with
    | zero => simp [cntO, soAt]; omega
    | succ k =>
      have := ih (k := k) (by simpa using h)
      simp only [List.set_cons_succ, cntO]
      have e : soAt (r :: rs) (k + 1) = soAt rs k := by simp [soAt]
      rw [e]; omega

/-- what stays true of the slots; m: how many steps there were -/
structure So (m : Nat) (rs : List Sot) (fr : List Nat) : Prop where
  nd : fr.Nodup
  free : ∀ k ∈ fr, k < rs.length ∧ (soAt rs k).1 = none
  cnt : cntO rs + fr.length = rs.length
  small : rs.length ≤ m
  ages : ∀ k, 0 ≤ (soAt rs k).2 ∧ (soAt rs k).2 ≤ m
theorem So.start (m : Nat) : So m [] [] := ⟨List.nodup_nil, fun _ h => (by cases h), rfl, Nat.zero_le _, fun k => by simp [soAt]⟩
theorem So.more {m m' : Nat} {rs : List Sot} {fr : List Nat} (h : So m rs fr) (hm : m ≤ m') : So m' rs fr := ⟨h.nd, h.free, h.cnt, by have := h.small; omega, fun k => by have := h.ages k; omega⟩
theorem So.putFree {m k : Nat} {rs : List Sot} {fs : List Nat} {x : Ord} (h : So m rs (fs ++ [k])) : So (m + 1) (rs.set k (some x, (soAt rs k).2)) fs := by
  have hk := h.free k (by simp)
  have hnd := List.nodup_append.1 h.nd
  refine ⟨hnd.1, fun j hj => ?_, ?_, by simpa using Nat.le_succ_of_le h.small, fun j => ?_⟩
  · have hne : k ≠ j := fun e => hnd.2.2 j hj k (by simp) e.symm
    rw [soAt_set_other _ hne]
    simpa using h.free j (by simp [hj])
  · have h1 := cntO_set (some x, (soAt rs k).2) hk.1
    have h2 := h.cnt
    rw [hk.2] at h1
    simp only [List.length_append, List.length_singleton] at h2
    simp at h1
    simp; omega
  · by_cases e : k = j
    · subst e; rw [soAt_set_same _ hk.1]; have := h.ages k; simp; omega
    · rw [soAt_set_other _ e]; have := h.ages j; omega
theorem So.putNew {m : Nat} {rs : List Sot} {x : Ord} (h : So m rs []) : So (m + 1) (rs ++ [(some x, 0)]) [] := by
  have each : ∀ k, soAt (rs ++ [(some x, 0)]) k = soAt rs k ∨ soAt (rs ++ [(some x, 0)]) k = (some x, 0) := fun k => by
    rcases Nat.lt_trichotomy k rs.length with h1 | h1 | h1
    · exact Or.inl (soAt_push _ h1)
    · subst h1; exact Or.inr (soAt_pushed _ _)
    · left; rw [soAt_beyond (by simp; omega), soAt_beyond (by omega)]
  refine ⟨List.nodup_nil, fun _ h => (by cases h), ?_, by have := h.small; simp; omega, fun k => ?_⟩
  · have := h.cnt
    simp [cntO_append, cntO] at this ⊢; omega
  · rcases each k with e | e
    · rw [e]; have := h.ages k; omega
    · rw [e]; simp; omega
theorem So.set {m k : Nat} {rs : List Sot} {fr : List Nat} {x : Ord} (h : So m rs fr) (hk : k < rs.length) (hf : (soAt rs k).1.isSome = true) : So (m + 1) (rs.set k (some x, (soAt rs k).2)) fr := by
  refine ⟨h.nd, fun j hj => ?_, ?_, by simpa using Nat.le_succ_of_le h.small, fun j => ?_⟩
  · have hj' := h.free j hj
    have hne : k ≠ j := fun e => by subst e; rw [hj'.2] at hf; cases hf
    rw [soAt_set_other _ hne]
    simpa using hj'
  · have h1 := cntO_set (some x, (soAt rs k).2) hk
    have h2 := h.cnt
    rw [hf] at h1
    simp at h1
    simp; omega
  · by_cases e : k = j
    · subst e; rw [soAt_set_same _ hk]; have := h.ages k; simp; omega
    · rw [soAt_set_other _ e]; have := h.ages j; omega
theorem So.take {m k : Nat} {rs : List Sot} {fr : List Nat} (h : So m rs fr) (hk : k < rs.length) (hf : (soAt rs k).1.isSome = true) : So (m + 1) (rs.set k (none, (soAt rs k).2 + 1)) (fr ++ [k]) := by
  have hn : k ∉ fr := fun hm => by have := h.free k hm; rw [this.2] at hf; cases hf
  refine ⟨?_, fun j hj => ?_, ?_, by simpa using Nat.le_succ_of_le h.small, fun j => ?_⟩
  · rw [List.nodup_append]
    exact ⟨h.nd, by simp, fun a ha b hb e => by simp at hb; subst e; subst hb; exact hn ha⟩
  · by_cases e : k = j
    · subst e; rw [soAt_set_same _ hk]; exact ⟨by simpa using hk, rfl⟩
    · rw [soAt_set_other _ e]
      rcases List.mem_append.1 hj with h1 | h1
      · simpa using h.free j h1
      · simp at h1; omega
  · have h1 := cntO_set (none, (soAt rs k).2 + 1) hk
    have h2 := h.cnt
    rw [hf] at h1
    simp at h1
    simp; omega
  · by_cases e : k = j
    · subst e; rw [soAt_set_same _ hk]; have := h.ages k; simp; omega
    · rw [soAt_set_other _ e]; have := h.ages j; omega

/-! how the slots lie in memory: an order's five cells, the Age, is there one -/
def soV : List Sot → List Value
  | [] => []
  | r :: rs => .int .i64 (thO r.1).id :: .int .i64 (thO r.1).side :: .int .i64 (thO r.1).kind :: .int .i64 (thO r.1).price :: .int .i64 (thO r.1).qty :: .int .i64 r.2 :: .bool r.1.isSome :: soV rs
theorem soV_length (rs : List Sot) : (soV rs).length = rs.length * 7 := by
  induction rs with
  | nil => rfl
  | cons r rs ih => simp [soV, ih]; omega
theorem soV_append (a b : List Sot) : soV (a ++ b) = soV a ++ soV b := by
  induction a with
  | nil => rfl
  | cons r a ih => simp [soV, ih]
theorem soV_at {rs : List Sot} {k : Nat} (h : k < rs.length) : (soV rs)[k * 7]? = some (.int .i64 (thO (soAt rs k).1).id) ∧ (soV rs)[k * 7 + 1]? = some (.int .i64 (thO (soAt rs k).1).side) ∧ (soV rs)[k * 7 + 2]? = some (.int .i64 (thO (soAt rs k).1).kind) ∧ (soV rs)[k * 7 + 3]? = some (.int .i64 (thO (soAt rs k).1).price) ∧ (soV rs)[k * 7 + 4]? = some (.int .i64 (thO (soAt rs k).1).qty) ∧ (soV rs)[k * 7 + 5]? = some (.int .i64 (soAt rs k).2) ∧ (soV rs)[k * 7 + 6]? = some (.bool (soAt rs k).1.isSome) := by
  induction rs generalizing k with
  | nil => simp at h
  | cons r rs ih =>
    cases k with
    | zero => exact ⟨rfl, rfl, rfl, rfl, rfl, rfl, rfl⟩
    | succ k =>
      have := ih (k := k) (by simpa using h)
      rw [show (k + 1) * 7 = k * 7 + 1 + 1 + 1 + 1 + 1 + 1 + 1 by omega]
      have e : soAt (r :: rs) (k + 1) = soAt rs k := by simp [soAt]
      rw [e]
      simpa [soV] using this
theorem soV_set {rs : List Sot} {k : Nat} (p : Sot) (h : k < rs.length) : (((((((soV rs).set (k * 7) (.int .i64 (thO p.1).id)).set (k * 7 + 1) (.int .i64 (thO p.1).side)).set (k * 7 + 2) (.int .i64 (thO p.1).kind)).set (k * 7 + 3) (.int .i64 (thO p.1).price)).set (k * 7 + 4) (.int .i64 (thO p.1).qty)).set (k * 7 + 5) (.int .i64 p.2)).set (k * 7 + 6) (.bool p.1.isSome) = soV (rs.set k p) := by
  induction rs generalizing k with
  | nil => simp at h
  | cons r rs ih =>
    cases k with
    | zero => rfl
    | succ k =>
      have := ih (k := k) (by simpa using h)
      rw [show (k + 1) * 7 = k * 7 + 1 + 1 + 1 + 1 + 1 + 1 + 1 by omega]
      simp only [soV, List.set_cons_succ]
      rw [← this]

/-- which slot is given next, and what the slots are then -/
def RoomO (rs : List Sot) (fr : List Nat) (k : Nat) (rs1 : List Sot) (fr1 : List Nat) : Prop := (fr = fr1 ++ [k] ∧ rs1 = rs) ∨ (fr = [] ∧ fr1 = [] ∧ k = rs.length ∧ rs1 = rs ++ [(none, 0)])

/-! a side: handles, best first, each with its order -/
structure Ly where
  slot : Nat
  age : Int
  o : Ord
def hV : List Ly → List Value
  | [] => []
  | x :: l => .int .i64 (x.slot : Int) :: .int .i64 x.age :: hV l
def lyNone : Ly := ⟨0, 0, Ord.none_⟩
def lyAt (l : List Ly) (k : Nat) : Ly := l.getD k lyNone
theorem lyAt_eq {l : List Ly} {k : Nat} (h : k < l.length) : lyAt l k = l[k] := by simp [lyAt, h]
theorem lyAt_mem {l : List Ly} {k : Nat} (h : k < l.length) : lyAt l k ∈ l := by rw [lyAt_eq h]; exact List.getElem_mem h
theorem hV_length (l : List Ly) : (hV l).length = l.length * 2 := by
  induction l with
  | nil => rfl
  | cons r rs ih => simp [hV, ih]; omega
theorem hV_append (a b : List Ly) : hV (a ++ b) = hV a ++ hV b := by
  induction a with
  | nil => rfl
  | cons r a ih => simp [hV, ih]
theorem hV_at {l : List Ly} {k : Nat} (h : k < l.length) : (hV l)[k * 2]? = some (.int .i64 ((lyAt l k).slot : Int)) ∧ (hV l)[k * 2 + 1]? = some (.int .i64 (lyAt l k).age) := by
  induction l generalizing k with
  | nil => simp at h
  | cons r rs ih =>
    cases k with
    | zero => exact ⟨rfl, rfl⟩
    | succ k =>
      have := ih (k := k) (by simpa using h)
      rw [show (k + 1) * 2 = k * 2 + 1 + 1 by omega]
      have e : lyAt (r :: rs) (k + 1) = lyAt rs k := by simp [lyAt]
      rw [e]
      simpa [hV] using this
theorem hV_one (l : List Ly) : ∀ u ∈ hV l, u.oneCell' = true := by
  induction l with
  | nil => simp [hV]
  | cons o l ih =>
    intro u hu
    simp only [hV, List.mem_cons] at hu
    rcases hu with rfl | rfl | hu
    · rfl
    · rfl
    · exact ih u hu

/-- what stays true of a book: its slots, and its two sides -/
structure Pb (m : Nat) (rs : List Sot) (fr : List Nat) (S : Nat → List Ly) : Prop where
  so : So m rs fr
  there : ∀ s, s < 2 → ∀ x ∈ S s, soAt rs x.slot = (some x.o, x.age)
  nd : ((S 0 ++ S 1).map Ly.slot).Nodup
  ids : ((S 0 ++ S 1).map fun x => x.o.id).Nodup
  cnt : cntO rs = (S 0).length + (S 1).length
  side : ∀ s, s < 2 → ∀ x ∈ S s, x.o.side = (s : Int) + 1
  ok : ∀ s, s < 2 → ∀ x ∈ S s, 1 ≤ x.o.id ∧ (Lit.int .i64 x.o.id).wf = true ∧ 1 ≤ x.o.price ∧ x.o.price ≤ 1000000 ∧ 1 ≤ x.o.qty ∧ x.o.qty ≤ 1000000
  most : (S 0).length + (S 1).length ≤ 100
def upS (S : Nat → List Ly) (s : Nat) (l : List Ly) : Nat → List Ly := fun k => if k = s then l else S k
theorem upS_same (S : Nat → List Ly) (s : Nat) (l : List Ly) : upS S s l s = l := if_pos rfl
theorem upS_other {S : Nat → List Ly} {s k : Nat} (l : List Ly) (h : k ≠ s) : upS S s l k = S k := if_neg h
end Go.Proofs.Ytcpijeehgdbjbaa
