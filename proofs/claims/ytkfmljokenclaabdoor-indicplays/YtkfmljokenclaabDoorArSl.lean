/-
  Slots for things, as plain lists: each slot has its thing (below 0: none) and how often it was freed; beside them the slots that are free, the one that was freed last at the end. What Put, Set and Take do to them, and what stays true. No program is named here.
-/
import Derived.Test.YtkfmljokenclaabDoorRows
import Derived.WalkKit
namespace Go.Proofs.YtkfmljokenclaabDoor
open Go.RowKit

def slAt (rs : List (Int × Int)) (k : Nat) : Int × Int := rs.getD k (-1, 0)
/-- how many things there are -/
def cntS : List (Int × Int) → Nat
  | [] => 0
  | r :: rs => (if 0 ≤ r.1 then 1 else 0) + cntS rs
def thingV (t : Int) : Int := if 0 ≤ t then t else 0
def fullB (t : Int) : Bool := decide (0 ≤ t)
/-- 3.1: is a thing in that slot, of that Age? -/
def hasS (rs : List (Int × Int)) (i a : Int) : Bool := decide (0 ≤ i) && decide (i < rs.length) && fullB (slAt rs i.toNat).1 && ((slAt rs i.toNat).2 == a)

theorem slAt_eq {rs : List (Int × Int)} {k : Nat} (h : k < rs.length) : slAt rs k = rs[k] := by simp [slAt, h]
theorem slAt_set_same {rs : List (Int × Int)} {k : Nat} (p : Int × Int) (h : k < rs.length) : slAt (rs.set k p) k = p := by simp [slAt, h]
theorem slAt_set_other {rs : List (Int × Int)} {k j : Nat} (p : Int × Int) (h : k ≠ j) : slAt (rs.set k p) j = slAt rs j := by simp [slAt, h]
theorem slAt_push {rs : List (Int × Int)} {k : Nat} (p : Int × Int) (h : k < rs.length) : slAt (rs ++ [p]) k = slAt rs k := by simp [slAt, List.getElem?_append, h]
theorem slAt_pushed (rs : List (Int × Int)) (p : Int × Int) : slAt (rs ++ [p]) rs.length = p := by simp [slAt]
theorem slAt_beyond {rs : List (Int × Int)} {k : Nat} (h : rs.length ≤ k) : slAt rs k = (-1, 0) := by simp [slAt, h]

theorem cntS_append (a b : List (Int × Int)) : cntS (a ++ b) = cntS a + cntS b := by
  induction a with
  | nil => simp [cntS]
  | cons r a ih => simp [cntS, ih]; omega
theorem cntS_le (rs : List (Int × Int)) : cntS rs ≤ rs.length := by
  induction rs with
  | nil => simp [cntS]
  | cons r a ih => simp [cntS]; split <;> omega
theorem cntS_set {rs : List (Int × Int)} {k : Nat} (p : Int × Int) (h : k < rs.length) : cntS (rs.set k p) + (if 0 ≤ (slAt rs k).1 then 1 else 0) = cntS rs + (if 0 ≤ p.1 then 1 else 0) := by
  induction rs generalizing k with
  | nil => simp at h
  | cons r rs ih =>
    cases k with
    | zero => simp [cntS, slAt]; omega
    | succ k =>
      have := ih (k := k) (by simpa using h)
      simp only [List.set_cons_succ, cntS]
      have e : slAt (r :: rs) (k + 1) = slAt rs k := by simp [slAt]
      rw [e]; omega
theorem cntS_take {rs : List (Int × Int)} {k : Nat} (h : k < rs.length) : cntS (rs.take (k + 1)) = cntS (rs.take k) + (if 0 ≤ (slAt rs k).1 then 1 else 0) := by
  rw [List.take_succ_eq_append_getElem h, cntS_append, slAt_eq h]; simp [cntS]

theorem hasS_iff {rs : List (Int × Int)} {i a : Int} : hasS rs i a = true ↔ ∃ k : Nat, i = k ∧ k < rs.length ∧ 0 ≤ (slAt rs k).1 ∧ (slAt rs k).2 = a := by
  unfold hasS fullB
  constructor
  · intro h
    simp only [Bool.and_eq_true, decide_eq_true_eq, beq_iff_eq] at h
    obtain ⟨⟨⟨h1, h2⟩, h3⟩, h4⟩ := h
    exact ⟨i.toNat, by omega, by omega, h3, h4⟩
  · rintro ⟨k, rfl, h1, h2, h3⟩
    simp [h1, h2, h3]

/-- what stays true of the slots: the free ones are slots without a thing, each once; all others have one; m: how many steps there were -/
structure Sl (m : Nat) (rs : List (Int × Int)) (fr : List Nat) : Prop where
  nd : fr.Nodup
  free : ∀ k ∈ fr, k < rs.length ∧ (slAt rs k).1 = -1
  cnt : cntS rs + fr.length = rs.length
  small : rs.length ≤ m
  ages : ∀ k, 0 ≤ (slAt rs k).2 ∧ (slAt rs k).2 ≤ m
  things : ∀ k, -1 ≤ (slAt rs k).1

theorem Sl.start (m : Nat) : Sl m [] [] := ⟨List.nodup_nil, fun _ h => (by cases h), rfl, Nat.zero_le _, fun k => by simp [slAt], fun k => by simp [slAt]⟩
theorem Sl.more {m m' : Nat} {rs : List (Int × Int)} {fr : List Nat} (h : Sl m rs fr) (hm : m ≤ m') : Sl m' rs fr := ⟨h.nd, h.free, h.cnt, by have := h.small; omega, fun k => by have := h.ages k; omega, h.things⟩

theorem Sl.putFree {m k : Nat} {rs : List (Int × Int)} {fs : List Nat} {x : Int} (h : Sl m rs (fs ++ [k])) (hx : 0 ≤ x) : Sl (m + 1) (rs.set k (x, (slAt rs k).2)) fs := by
  have hk := h.free k (by simp)
  have hnd := List.nodup_append.1 h.nd
  refine ⟨hnd.1, fun j hj => ?_, ?_, by simpa using Nat.le_succ_of_le h.small, fun j => ?_, fun j => ?_⟩
  · have hne : k ≠ j := fun e => hnd.2.2 j hj k (by simp) e.symm
    rw [slAt_set_other _ hne]
    simpa using h.free j (by simp [hj])
  · have h1 := cntS_set (x, (slAt rs k).2) hk.1
    have h2 := h.cnt
    rw [hk.2] at h1
    simp only [List.length_append, List.length_singleton] at h2
    simp [hx] at h1
    simp; omega
  · by_cases e : k = j
    · subst e; rw [slAt_set_same _ hk.1]; have := h.ages k; simp; omega
    · rw [slAt_set_other _ e]; have := h.ages j; omega
  · by_cases e : k = j
    · subst e; rw [slAt_set_same _ hk.1]; simp; omega
    · rw [slAt_set_other _ e]; exact h.things j
theorem Sl.putNew {m : Nat} {rs : List (Int × Int)} {x : Int} (h : Sl m rs []) (hx : 0 ≤ x) : Sl (m + 1) (rs ++ [(x, 0)]) [] := by
  have each : ∀ k, slAt (rs ++ [(x, 0)]) k = slAt rs k ∨ slAt (rs ++ [(x, 0)]) k = (x, 0) := fun k => by
    rcases Nat.lt_trichotomy k rs.length with h1 | h1 | h1
    · exact Or.inl (slAt_push _ h1)
    · subst h1; exact Or.inr (slAt_pushed _ _)
    · left; rw [slAt_beyond (by simp; omega), slAt_beyond (by omega)]
  refine ⟨List.nodup_nil, fun _ h => (by cases h), ?_, by have := h.small; simp; omega, fun k => ?_, fun k => ?_⟩
  · have := h.cnt
    simp [cntS_append, cntS, hx] at this ⊢; omega
  · rcases each k with e | e
    · rw [e]; have := h.ages k; omega
    · rw [e]; simp; omega
  · rcases each k with e | e
    · rw [e]; exact h.things k
    · rw [e]; simp; omega
theorem Sl.set {m k : Nat} {rs : List (Int × Int)} {fr : List Nat} {x : Int} (h : Sl m rs fr) (hk : k < rs.length) (hf : 0 ≤ (slAt rs k).1) (hx : 0 ≤ x) : Sl (m + 1) (rs.set k (x, (slAt rs k).2)) fr := by
  refine ⟨h.nd, fun j hj => ?_, ?_, by simpa using Nat.le_succ_of_le h.small, fun j => ?_, fun j => ?_⟩
  · have hj' := h.free j hj
    have hne : k ≠ j := fun e => by subst e; omega
    rw [slAt_set_other _ hne]
    simpa using hj'
  · have h1 := cntS_set (x, (slAt rs k).2) hk
    have h2 := h.cnt
    simp [hx, hf] at h1
    simp; omega
  · by_cases e : k = j
    · subst e; rw [slAt_set_same _ hk]; have := h.ages k; simp; omega
    · rw [slAt_set_other _ e]; have := h.ages j; omega
  · by_cases e : k = j
    · subst e; rw [slAt_set_same _ hk]; simp; omega
    · rw [slAt_set_other _ e]; exact h.things j
theorem Sl.take {m k : Nat} {rs : List (Int × Int)} {fr : List Nat} (h : Sl m rs fr) (hk : k < rs.length) (hf : 0 ≤ (slAt rs k).1) : Sl (m + 1) (rs.set k (-1, (slAt rs k).2 + 1)) (fr ++ [k]) := by
  have hn : k ∉ fr := fun hm => by have := h.free k hm; omega
  refine ⟨?_, fun j hj => ?_, ?_, by simpa using Nat.le_succ_of_le h.small, fun j => ?_, fun j => ?_⟩
  · rw [List.nodup_append]
    exact ⟨h.nd, by simp, fun a ha b hb e => by simp at hb; subst e; subst hb; exact hn ha⟩
  · by_cases e : k = j
    · subst e; rw [slAt_set_same _ hk]; exact ⟨by simpa using hk, rfl⟩
    · rw [slAt_set_other _ e]
      rcases List.mem_append.1 hj with h1 | h1
      · simpa using h.free j h1
      · simp at h1; omega
  · have h1 := cntS_set (-1, (slAt rs k).2 + 1) hk
    have h2 := h.cnt
    simp [hf] at h1
    simp; omega
  · by_cases e : k = j
    · subst e; rw [slAt_set_same _ hk]; have := h.ages k; simp; omega
    · rw [slAt_set_other _ e]; have := h.ages j; omega
  · by_cases e : k = j
    · subst e; rw [slAt_set_same _ hk]; simp
    · rw [slAt_set_other _ e]; exact h.things j

/-! how the lists lie in memory -/
/-- the program's slots: thing, Age, is there a thing -/
def slV : List (Int × Int) → List Value
  | [] => []
  | r :: rs => .int .i64 (thingV r.1) :: .int .i64 r.2 :: .bool (fullB r.1) :: slV rs
def thV (rs : List (Int × Int)) : List Value := rs.map fun r => .int .i64 r.1
def agV (rs : List (Int × Int)) : List Value := rs.map fun r => .int .i64 r.2
def frV (fr : List Nat) : List Value := fr.map fun k : Nat => .int .i64 (k : Int)

theorem slV_length (rs : List (Int × Int)) : (slV rs).length = rs.length * 3 := by
  induction rs with
  | nil => rfl
  | cons r rs ih => simp [slV, ih]; omega
theorem slV_append (a b : List (Int × Int)) : slV (a ++ b) = slV a ++ slV b := by
  induction a with
  | nil => rfl
  | cons r a ih => simp [slV, ih]
theorem slV_at {rs : List (Int × Int)} {k : Nat} (h : k < rs.length) : (slV rs)[k * 3]? = some (.int .i64 (thingV (slAt rs k).1)) ∧ (slV rs)[k * 3 + 1]? = some (.int .i64 (slAt rs k).2) ∧ (slV rs)[k * 3 + 2]? = some (.bool (fullB (slAt rs k).1)) := by
  induction rs generalizing k with
  | nil => simp at h
  | cons r rs ih =>
    cases k with
    | zero => exact ⟨rfl, rfl, rfl⟩
    | succ k =>
      have := ih (k := k) (by simpa using h)
      rw [show (k + 1) * 3 = k * 3 + 1 + 1 + 1 by omega]
      have e : slAt (r :: rs) (k + 1) = slAt rs k := by simp [slAt]
      rw [e]
      simpa [slV] using this
theorem slV_set {rs : List (Int × Int)} {k : Nat} (p : Int × Int) (h : k < rs.length) : (((slV rs).set (k * 3) (.int .i64 (thingV p.1))).set (k * 3 + 1) (.int .i64 p.2)).set (k * 3 + 2) (.bool (fullB p.1)) = slV (rs.set k p) := by
  induction rs generalizing k with
  | nil => simp at h
  | cons r rs ih =>
    cases k with
    | zero => rfl
    | succ k =>
      have := ih (k := k) (by simpa using h)
      rw [show (k + 1) * 3 = k * 3 + 1 + 1 + 1 by omega]
      simp only [slV, List.set_cons_succ]
      rw [← this]
theorem set_self {l : List Value} {k : Nat} {v : Value} (h : l[k]? = some v) : l.set k v = l := by
  obtain ⟨h1, rfl⟩ := List.getElem?_eq_some_iff.1 h
  exact List.set_getElem_self h1
theorem thV_length (rs : List (Int × Int)) : (thV rs).length = rs.length := by simp [thV]
theorem agV_length (rs : List (Int × Int)) : (agV rs).length = rs.length := by simp [agV]
theorem frV_length (fr : List Nat) : (frV fr).length = fr.length := by simp [frV]
theorem thV_at {rs : List (Int × Int)} {k : Nat} (h : k < rs.length) : (thV rs)[k]? = some (.int .i64 (slAt rs k).1) := by simp [thV, slAt, h]
theorem agV_at {rs : List (Int × Int)} {k : Nat} (h : k < rs.length) : (agV rs)[k]? = some (.int .i64 (slAt rs k).2) := by simp [agV, slAt, h]
theorem thV_set (rs : List (Int × Int)) (k : Nat) (p : Int × Int) : thV (rs.set k p) = (thV rs).set k (.int .i64 p.1) := by simp [thV, List.map_set]
theorem agV_set (rs : List (Int × Int)) (k : Nat) (p : Int × Int) : agV (rs.set k p) = (agV rs).set k (.int .i64 p.2) := by simp [agV, List.map_set]
theorem agV_keep {rs : List (Int × Int)} {k : Nat} (x : Int) (h : k < rs.length) : agV (rs.set k (x, (slAt rs k).2)) = agV rs := by rw [agV_set, set_self (agV_at h)]
theorem thV_push (rs : List (Int × Int)) (p : Int × Int) : thV (rs ++ [p]) = thV rs ++ [.int .i64 p.1] := by simp [thV]
theorem agV_push (rs : List (Int × Int)) (p : Int × Int) : agV (rs ++ [p]) = agV rs ++ [.int .i64 p.2] := by simp [agV]
theorem frV_push (fr : List Nat) (k : Nat) : frV (fr ++ [k]) = frV fr ++ [.int .i64 (k : Int)] := by simp [frV]
theorem frV_top (fs : List Nat) (k : Nat) : (frV (fs ++ [k]))[fs.length]? = some (.int .i64 (k : Int)) := by simp [frV]

/-! worlds: what stays outside of some blocks -/
/-- Outside of the blocks S the world w' is as w was. -/
structure Out (S : Nat → Prop) (w w' : World) : Prop where
  os : w'.os = w.os
  tape : w'.tape = w.tape
  output : w'.output = w.output
  size : w.heap.size ≤ w'.heap.size
  block : ∀ k, k < w.heap.size → ¬ S k → w'.heap[k]? = w.heap[k]?
theorem Out.refl (S : Nat → Prop) (w : World) : Out S w w := ⟨rfl, rfl, rfl, Nat.le_refl _, fun _ _ _ => rfl⟩
/-- S' lies in S and in what is newer than w. -/
def Went (w : World) (S S' : Nat → Prop) : Prop := ∀ k, S' k → S k ∨ w.heap.size ≤ k
theorem Went.refl (w : World) (S : Nat → Prop) : Went w S S := fun _ h => Or.inl h
theorem Went.trans {w w1 : World} {S S1 S2 : Nat → Prop} (h : Went w S S1) (h1 : Went w1 S1 S2) (hs : w.heap.size ≤ w1.heap.size) : Went w S S2 := fun k hk => by
  rcases h1 k hk with h2 | h2
  · exact h k h2
  · exact Or.inr (by omega)
theorem Out.trans {S S1 : Nat → Prop} {w w1 w2 : World} (h : Out S w w1) (h1 : Out S1 w1 w2) (hw : Went w S S1) : Out S w w2 :=
  ⟨h1.os.trans h.os, h1.tape.trans h.tape, h1.output.trans h.output, Nat.le_trans h.size h1.size, fun k hk hS => (h1.block k (by have := h.size; omega) (fun hk1 => by
    rcases hw k hk1 with h2 | h2
    · exact hS h2
    · omega)).trans (h.block k hk hS)⟩
theorem Out.of_below {S : Nat → Prop} {w w' : World} {B : Nat} (h : Below B w w') (hB : w.heap.size ≤ B) : Out S w w' := ⟨h.os, h.tape, h.output, h.size, fun k hk _ => h.block k (by omega)⟩
theorem Out.of_grown {S : Nat → Prop} {w w' : World} {row : Option Nat} (h : w.grownBy w' row) (hr : ∀ k, row = some k → S k) : Out S w w' := ⟨h.os, h.tape, h.output, h.size, fun k hk hS => h.block k hk (fun e => hS (hr k e.symm))⟩
theorem Out.below {S : Nat → Prop} {w w' : World} {B : Nat} (h : Out S w w') (hS : ∀ k, S k → B ≤ k) (hB : B ≤ w.heap.size) : Below B w w' := ⟨h.os, h.tape, h.output, h.size, fun k hk => h.block k (by omega) (fun hk' => by have := hS k hk'; omega)⟩
theorem Out.mono {S S' : Nat → Prop} {w w' : World} (h : Out S w w') (hS : ∀ k, S k → S' k) : Out S' w w' := ⟨h.os, h.tape, h.output, h.size, fun k hk hk' => h.block k hk (fun e => hk' (hS k e))⟩
end Go.Proofs.YtkfmljokenclaabDoor
