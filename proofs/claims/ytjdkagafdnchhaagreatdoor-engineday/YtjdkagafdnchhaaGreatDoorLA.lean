/-
  Orders as plain records, and how lists of them lie in memory. Conditions stand in each theorem.
-/
import Derived.Test.YtjdkagafdnchhaaGreatDoorRows
import Derived.WalkKit
import Derived.WalkSpells
import Derived.WalkLawsBesides
import Derived.Handy
import Derived.BigQuiet
import Derived.OwnWalk
import Derived.OneCell
import Derived.Deep.QuietTactic
import Derived.Deep.AppendLies
import Derived.Deep.RegionHeld3
import Derived.Deep.DrawnRows
namespace Go.Proofs.YtjdkagafdnchhaaGreatDoor
open Go.RowKit

structure Ord where
  id : Int
  side : Int
  kind : Int
  price : Int
  qty : Int
def Ord.vals (o : Ord) : List Value := [.int .i64 o.id, .int .i64 o.side, .int .i64 o.kind, .int .i64 o.price, .int .i64 o.qty]
def Ord.none_ : Ord := ⟨0, 0, 0, 0, 0⟩
def Ord.agg (o : Ord) : Value := .agg #[.int .i64 o.id, .int .i64 o.side, .int .i64 o.kind, .int .i64 o.price, .int .i64 o.qty]
def oV : List Ord → List Value
  | [] => []
  | o :: l => .int .i64 o.id :: .int .i64 o.side :: .int .i64 o.kind :: .int .i64 o.price :: .int .i64 o.qty :: oV l
def oAt (l : List Ord) (k : Nat) : Ord := l.getD k Ord.none_
theorem oV_length (l : List Ord) : (oV l).length = l.length * 5 := by
  induction l with
  | nil => rfl
  | cons o l ih => simp [oV, ih]; omega
theorem oV_append (a b : List Ord) : oV (a ++ b) = oV a ++ oV b := by
  induction a with
  | nil => rfl
  | cons o a ih => simp [oV, ih]
theorem oV_one (l : List Ord) : ∀ u ∈ oV l, u.oneCell' = true := by
  induction l with
  | nil => simp [oV]
  | cons o l ih =>
    intro u hu
    simp only [oV, List.mem_cons] at hu
    rcases hu with rfl | rfl | rfl | rfl | rfl | hu
    · rfl
    · rfl
    · rfl
    · rfl
    · rfl
    · exact ih u hu
theorem oV_at {l : List Ord} {k : Nat} (h : k < l.length) : (oV l)[k * 5]? = some (.int .i64 (oAt l k).id) ∧ (oV l)[k * 5 + 1]? = some (.int .i64 (oAt l k).side) ∧ (oV l)[k * 5 + 2]? = some (.int .i64 (oAt l k).kind) ∧ (oV l)[k * 5 + 3]? = some (.int .i64 (oAt l k).price) ∧ (oV l)[k * 5 + 4]? = some (.int .i64 (oAt l k).qty) := by
  induction l generalizing k with
  | nil => simp at h
  | cons o l ih =>
    cases k with
    | zero => exact ⟨rfl, rfl, rfl, rfl, rfl⟩
    | succ k =>
      have := ih (k := k) (by simpa using h)
      rw [show (k + 1) * 5 = k * 5 + 1 + 1 + 1 + 1 + 1 by omega]
      have e : oAt (o :: l) (k + 1) = oAt l k := by simp [oAt]
      rw [e]
      simpa [oV] using this
theorem oAt_push {l : List Ord} {k : Nat} (o : Ord) (h : k < l.length) : oAt (l ++ [o]) k = oAt l k := by simp [oAt, List.getElem?_append, h]
theorem oAt_eq {l : List Ord} {k : Nat} (h : k < l.length) : oAt l k = l[k] := by simp [oAt, h]

/-- the number of the first order of that Id from place i on, or -1 -/
def idxF (id : Int) : Nat → List Ord → Int
  | _, [] => -1
  | i, o :: l => if o.id = id then (i : Int) else idxF id (i + 1) l
def idxO (id : Int) (l : List Ord) : Int := idxF id 0 l
theorem idxF_step {id : Int} {l : List Ord} {k : Nat} (h : k < l.length) (hx : ¬ (oAt l k).id = id) : idxF id (k + 1) (l.drop (k + 1)) = idxF id k (l.drop k) := by
  rw [List.drop_eq_getElem_cons h]
  unfold idxF
  rw [if_neg (by rw [← oAt_eq h]; exact hx)]
  cases l.drop (k + 1) <;> rfl
theorem idxF_hit {id : Int} {l : List Ord} {k : Nat} (h : k < l.length) (hx : (oAt l k).id = id) : idxF id k (l.drop k) = k := by
  rw [List.drop_eq_getElem_cons h]
  unfold idxF
  rw [if_pos (by rw [← oAt_eq h]; exact hx)]
theorem idxF_end {id : Int} {l : List Ord} {k : Nat} (h : l.length ≤ k) : idxF id k (l.drop k) = -1 := by
  rw [List.drop_eq_nil_of_le h]; rfl
theorem idxF_in (id : Int) : ∀ (l : List Ord) (i : Nat), idxF id i l = -1 ∨ ∃ k, k < l.length ∧ idxF id i l = ((i + k : Nat) : Int) ∧ (oAt l k).id = id
  | [], _ => Or.inl rfl
  | o :: l, i => by
    by_cases e : o.id = id
    · right; refine ⟨0, by simp, ?_, e⟩
      unfold idxF; rw [if_pos e]; simp
    · have hs : idxF id i (o :: l) = idxF id (i + 1) l := by
        show (if o.id = id then (i : Int) else idxF id (i + 1) l) = _
        rw [if_neg e]
      rw [hs]
      rcases idxF_in id l (i + 1) with h | ⟨k, hk, h, h'⟩
      · exact Or.inl h
      · right; refine ⟨k + 1, by simpa using hk, by rw [h]; congr 1; omega, ?_⟩
        have : oAt (o :: l) (k + 1) = oAt l k := by simp [oAt]
        rw [this]; exact h'

theorem bk_below {w w' : World} {base : Nat} {e : TypeId} {size : Nat} {v : Value} {n B : Nat} {xs : List Value} (h : w.ownsRow base e size v n xs) (hb : Below B w w') (hB : w.heap.size ≤ B) : w'.ownsRow base e size v n xs := by
  refine ⟨h.1, ?_⟩
  rcases h.2 with hn | ⟨g, cap, cur, rfl, hg, hh, r⟩
  · exact .inl hn
  · exact .inr ⟨g, cap, cur, rfl, hg, (hb.block g (Nat.lt_of_lt_of_le (lt_of_block hh) hB)).trans hh, r⟩
theorem bk_shape {w : World} {base : Nat} {e : TypeId} {size : Nat} {v : Value} {n : Nat} {xs : List Value} (h : w.ownsRow base e size v n xs) : ∃ (ao : Option Addr) (cap : Nat), v = .slice ao n cap ∧ n ≤ cap ∧ cap ≤ maxLen := by
  rcases h.2 with ⟨rfl, rfl⟩ | ⟨g, cap, cur, rfl, _, _, h1, h2, _⟩
  · exact ⟨none, 0, rfl, Nat.le_refl _, Nat.zero_le _⟩
  · exact ⟨some ⟨g, 0, none⟩, cap, rfl, h1, h2⟩
/-- one order's cells -/
theorem row_order {w : World} {base : Nat} {v : Value} {l : List Ord} (h : w.ownsRow base 41 5 v l.length (oV l)) {k : Nat} (hk : k < l.length) :
    ∃ g cap, v = .slice (some ⟨g, 0, none⟩) l.length cap ∧ w.cell? ⟨g, k * 5, none⟩ = some (.int .i64 (oAt l k).id) ∧ w.cell? ⟨g, k * 5 + 1, none⟩ = some (.int .i64 (oAt l k).side) ∧ w.cell? ⟨g, k * 5 + 2, none⟩ = some (.int .i64 (oAt l k).kind) ∧ w.cell? ⟨g, k * 5 + 3, none⟩ = some (.int .i64 (oAt l k).price) ∧ w.cell? ⟨g, k * 5 + 4, none⟩ = some (.int .i64 (oAt l k).qty) := by
  obtain ⟨g, cap, rfl, _, _⟩ := h.form (by omega)
  obtain ⟨h1, h2, h3, h4, h5⟩ := oV_at hk
  exact ⟨g, cap, rfl, (h.cellAt _ (by omega)).trans h1, (h.cellAt _ (by omega)).trans h2, (h.cellAt _ (by omega)).trans h3, (h.cellAt _ (by omega)).trans h4, (h.cellAt _ (by omega)).trans h5⟩
end Go.Proofs.YtjdkagafdnchhaaGreatDoor

/-
  Slots for things, as plain lists: each slot has its thing (below 0: none) and how often it was freed; beside them the slots that are free, the one that was freed last at the end. What Put, Set and Take do to them, and what stays true. No program is named here.
-/
namespace Go.Proofs.YtjdkagafdnchhaaGreatDoor
open Go.RowKit

def slAt (rs : List (Int × Int)) (k : Nat) : Int × Int := rs.getD k (-1, 0)
/-- how many things there are -/
def cntS : List (Int × Int) → Nat
  | [] => 0
  | r :: rs => (if 0 ≤ r.1 then 1 else 0) + cntS rs
def thingV (t : Int) : Int := if 0 ≤ t then t else 0
def fullB (t : Int) : Bool := decide (0 ≤ t)
/-- 3.1: is a thing in that slot, of that Age? -/
def hasS (rs : List (Int × Int)) (i a : Int) : Bool := decide (0 ≤ i) && decide (i < rs.length) && fullB (slAt rs i.toNat).1 && ((slAt rs i.toNat).2 == a)

theorem slAt_eq {rs : List (Int × Int)} {k : Nat} (h : k < rs.length) : slAt rs k = rs[k] := by simp [slAt, h]
theorem slAt_set_same {rs : List (Int × Int)} {k : Nat} (p : Int × Int) (h : k < rs.length) : slAt (rs.set k p) k = p := by simp [slAt, h]
theorem slAt_set_other {rs : List (Int × Int)} {k j : Nat} (p : Int × Int) (h : k ≠ j) : slAt (rs.set k p) j = slAt rs j := by simp [slAt, h]
theorem slAt_push {rs : List (Int × Int)} {k : Nat} (p : Int × Int) (h : k < rs.length) : slAt (rs ++ [p]) k = slAt rs k := by simp [slAt, List.getElem?_append, h]
theorem slAt_pushed (rs : List (Int × Int)) (p : Int × Int) : slAt (rs ++ [p]) rs.length = p := by simp [slAt]
theorem slAt_beyond {rs : List (Int × Int)} {k : Nat} (h : rs.length ≤ k) : slAt rs k = (-1, 0) := by simp [slAt, h]

theorem cntS_append (a b : List (Int × Int)) : cntS (a ++ b) = cntS a + cntS b := by
  induction a with
  | nil => simp [cntS]
  | cons r a ih => simp [cntS, ih]; omega
theorem cntS_le (rs : List (Int × Int)) : cntS rs ≤ rs.length := by
  induction rs with
  | nil => simp [cntS]
  | cons r a ih => simp [cntS]; split <;> omega
theorem cntS_set {rs : List (Int × Int)} {k : Nat} (p : Int × Int) (h : k < rs.length) : cntS (rs.set k p) + (if 0 ≤ (slAt rs k).1 then 1 else 0) = cntS rs + (if 0 ≤ p.1 then 1 else 0) := by
  induction rs generalizing k with
  | nil => simp at h
  | cons r rs ih =>
    cases k with
    | zero => simp [cntS, slAt]; omega
    | succ k =>
      have := ih (k := k) (by simpa using h)
      simp only [List.set_cons_succ, cntS]
      have e : slAt (r :: rs) (k + 1) = slAt rs k := by simp [slAt]
      rw [e]; omega
theorem cntS_take {rs : List (Int × Int)} {k : Nat} (h : k < rs.length) : cntS (rs.take (k + 1)) = cntS (rs.take k) + (if 0 ≤ (slAt rs k).1 then 1 else 0) := by
  rw [List.take_succ_eq_append_getElem h, cntS_append, slAt_eq h]; simp [cntS]

theorem hasS_iff {rs : List (Int × Int)} {i a : Int} : hasS rs i a = true ↔ ∃ k : Nat, i = k ∧ k < rs.length ∧ 0 ≤ (slAt rs k).1 ∧ (slAt rs k).2 = a := by
  unfold hasS fullB
  constructor
  · intro h
    simp only [Bool.and_eq_true, decide_eq_true_eq, beq_iff_eq] at h
    obtain ⟨⟨⟨h1, h2⟩, h3⟩, h4⟩ := h
    exact ⟨i.toNat, by omega, by omega, h3, h4⟩
  · rintro ⟨k, rfl, h1, h2, h3⟩
    simp [h1, h2, h3]

/-- what stays true of the slots: the free ones are slots without a thing, each once; all others have one; m: how many steps there were -/
structure Sl (m : Nat) (rs : List (Int × Int)) (fr : List Nat) : Prop where
  nd : fr.Nodup
  free : ∀ k ∈ fr, k < rs.length ∧ (slAt rs k).1 = -1
  cnt : cntS rs + fr.length = rs.length
  small : rs.length ≤ m
  ages : ∀ k, 0 ≤ (slAt rs k).2 ∧ (slAt rs k).2 ≤ m
  things : ∀ k, -1 ≤ (slAt rs k).1

theorem Sl.start (m : Nat) : Sl m [] [] := ⟨List.nodup_nil, fun _ h => (by cases h), rfl, Nat.zero_le _, fun k => by simp [slAt], fun k => by simp [slAt]⟩
theorem Sl.more {m m' : Nat} {rs : List (Int × Int)} {fr : List Nat} (h : Sl m rs fr) (hm : m ≤ m') : Sl m' rs fr := ⟨h.nd, h.free, h.cnt, by have := h.small; omega, fun k => by have := h.ages k; omega, h.things⟩

theorem Sl.putFree {m k : Nat} {rs : List (Int × Int)} {fs : List Nat} {x : Int} (h : Sl m rs (fs ++ [k])) (hx : 0 ≤ x) : Sl (m + 1) (rs.set k (x, (slAt rs k).2)) fs := by
  have hk := h.free k (by simp)
  have hnd := List.nodup_append.1 h.nd
  refine ⟨hnd.1, fun j hj => ?_, ?_, by simpa using Nat.le_succ_of_le h.small, fun j => ?_, fun j => ?_⟩
  · have hne : k ≠ j := fun e => hnd.2.2 j hj k (by simp) e.symm
    rw [slAt_set_other _ hne]
    simpa using h.free j (by simp [hj])
  · have h1 := cntS_set (x, (slAt rs k).2) hk.1
    have h2 := h.cnt
    rw [hk.2] at h1
    simp only [List.length_append, List.length_singleton] at h2
    simp [hx] at h1
    simp; omega
  · by_cases e : k = j
    · subst e; rw [slAt_set_same _ hk.1]; have := h.ages k; simp; omega
    · rw [slAt_set_other _ e]; have := h.ages j; omega
  · by_cases e : k = j
    · subst e; rw [slAt_set_same _ hk.1]; simp; omega
    · rw [slAt_set_other _ e]; exact h.things j
theorem Sl.putNew {m : Nat} {rs : List (Int × Int)} {x : Int} (h : Sl m rs []) (hx : 0 ≤ x) : Sl (m + 1) (rs ++ [(x, 0)]) [] := by
  have each : ∀ k, slAt (rs ++ [(x, 0)]) k = slAt rs k ∨ slAt (rs ++ [(x, 0)]) k = (x, 0) := fun k => by
    rcases Nat.lt_trichotomy k rs.length with h1 | h1 | h1
    · exact Or.inl (slAt_push _ h1)
    · subst h1; exact Or.inr (slAt_pushed _ _)
    · left; rw [slAt_beyond (by simp; omega), slAt_beyond (by omega)]
  refine ⟨List.nodup_nil, fun _ h => (by cases h), ?_, by have := h.small; simp; omega, fun k => ?_, fun k => ?_⟩
  · have := h.cnt
    simp [cntS_append, cntS, hx] at this ⊢; omega
  · rcases each k with e | e
    · rw [e]; have := h.ages k; omega
    · rw [e]; simp; omega
  · rcases each k with e | e
    · rw [e]; exact h.things k
    · rw [e]; simp; omega
theorem Sl.set {m k : Nat} {rs : List (Int × Int)} {fr : List Nat} {x : Int} (h : Sl m rs fr) (hk : k < rs.length) (hf : 0 ≤ (slAt rs k).1) (hx : 0 ≤ x) : Sl (m + 1) (rs.set k (x, (slAt rs k).2)) fr := by
  refine ⟨h.nd, fun j hj => ?_, ?_, by simpa using Nat.le_succ_of_le h.small, fun j => ?_, fun j => ?_⟩
  · have hj' := h.free j hj
    have hne : k ≠ j := fun e => by subst e; omega
    rw [slAt_set_other _ hne]
    simpa using hj'
  · have h1 := cntS_set (x, (slAt rs k).2) hk
    have h2 := h.cnt
    simp [hx, hf] at h1
    simp; omega
  · by_cases e : k = j
    · subst e; rw [slAt_set_same _ hk]; have := h.ages k; simp; omega
    · rw [slAt_set_other _ e]; have := h.ages j; omega
  · by_cases e : k = j
    · subst e; rw [slAt_set_same _ hk]; simp; omega
    · rw [slAt_set_other _ e]; exact h.things j
theorem Sl.take {m k : Nat} {rs : List (Int × Int)} {fr : List Nat} (h : Sl m rs fr) (hk : k < rs.length) (hf : 0 ≤ (slAt rs k).1) : Sl (m + 1) (rs.set k (-1, (slAt rs k).2 + 1)) (fr ++ [k]) := by
  have hn : k ∉ fr := fun hm => by have := h.free k hm; omega
  refine ⟨?_, fun j hj => ?_, ?_, by simpa using Nat.le_succ_of_le h.small, fun j => ?_, fun j => ?_⟩
  · rw [List.nodup_append]
    exact ⟨h.nd, by simp, fun a ha b hb e => by simp at hb; subst e; subst hb; exact hn ha⟩
  · by_cases e : k = j
    · subst e; rw [slAt_set_same _ hk]; exact ⟨by simpa using hk, rfl⟩
    · rw [slAt_set_other _ e]
      rcases List.mem_append.1 hj with h1 | h1
      · simpa using h.free j h1
      · simp at h1; omega
  · have h1 := cntS_set (-1, (slAt rs k).2 + 1) hk
    have h2 := h.cnt
    simp [hf] at h1
    simp; omega
  · by_cases e : k = j
    · subst e; rw [slAt_set_same _ hk]; have := h.ages k; simp; omega
    · rw [slAt_set_other _ e]; have := h.ages j; omega
  · by_cases e : k = j
    · subst e; rw [slAt_set_same _ hk]; simp
    · rw [slAt_set_other _ e]; exact h.things j

/-! how the lists lie in memory -/
/-- the program's slots: thing, Age, is there a thing -/
def slV : List (Int × Int) → List Value
  | [] => []
  | r :: rs => .int .i64 (thingV r.1) :: .int .i64 r.2 :: .bool (fullB r.1) :: slV rs
def thV (rs : List (Int × Int)) : List Value := rs.map fun r => .int .i64 r.1
def agV (rs : List (Int × Int)) : List Value := rs.map fun r => .int .i64 r.2
def frV (fr : List Nat) : List Value := fr.map fun k : Nat => .int .i64 (k : Int)

theorem slV_length (rs : List (Int × Int)) : (slV rs).length = rs.length * 3 := by
  induction rs with
  | nil => rfl
  | cons r rs ih => simp [slV, ih]; omega
theorem slV_append (a b : List (Int × Int)) : slV (a ++ b) = slV a ++ slV b := by
  induction a with
  | nil => rfl
  | cons r a ih => simp [slV, ih]
theorem slV_at {rs : List (Int × Int)} {k : Nat} (h : k < rs.length) : (slV rs)[k * 3]? = some (.int .i64 (thingV (slAt rs k).1)) ∧ (slV rs)[k * 3 + 1]? = some (.int .i64 (slAt rs k).2) ∧ (slV rs)[k * 3 + 2]? = some (.bool (fullB (slAt rs k).1)) := by
  induction rs generalizing k with
  | nil => simp at h
  | cons r rs ih =>
    cases k with
    | zero => exact ⟨rfl, rfl, rfl⟩
    | succ k =>
      have := ih (k := k) (by simpa using h)
      rw [show (k + 1) * 3 = k * 3 + 1 + 1 + 1 by omega]
      have e : slAt (r :: rs) (k + 1) = slAt rs k := by simp [slAt]
      rw [e]
      simpa [slV] using this
theorem slV_set {rs : List (Int × Int)} {k : Nat} (p : Int × Int) (h : k < rs.length) : (((slV rs).set (k * 3) (.int .i64 (thingV p.1))).set (k * 3 + 1) (.int .i64 p.2)).set (k * 3 + 2) (.bool (fullB p.1)) = slV (rs.set k p) := by
  induction rs generalizing k with
  | nil => simp at h
  | cons r rs ih =>
    cases k with
    | zero => rfl
    | succ k =>
      have := ih (k := k) (by simpa using h)
      rw [show (k + 1) * 3 = k * 3 + 1 + 1 + 1 by omega]
      simp only [slV, List.set_cons_succ]
      rw [← this]
theorem set_self {l : List Value} {k : Nat} {v : Value} (h : l[k]? = some v) : l.set k v = l := by
  obtain ⟨h1, rfl⟩ := List.getElem?_eq_some_iff.1 h
  exact List.set_getElem_self h1
theorem thV_length (rs : List (Int × Int)) : (thV rs).length = rs.length := by simp [thV]
theorem agV_length (rs : List (Int × Int)) : (agV rs).length = rs.length := by simp [agV]
theorem frV_length (fr : List Nat) : (frV fr).length = fr.length := by simp [frV]
theorem thV_at {rs : List (Int × Int)} {k : Nat} (h : k < rs.length) : (thV rs)[k]? = some (.int .i64 (slAt rs k).1) := by simp [thV, slAt, h]
theorem agV_at {rs : List (Int × Int)} {k : Nat} (h : k < rs.length) : (agV rs)[k]? = some (.int .i64 (slAt rs k).2) := by simp [agV, slAt, h]
theorem thV_set (rs : List (Int × Int)) (k : Nat) (p : Int × Int) : thV (rs.set k p) = (thV rs).set k (.int .i64 p.1) := by simp [thV, List.map_set]
theorem agV_set (rs : List (Int × Int)) (k : Nat) (p : Int × Int) : agV (rs.set k p) = (agV rs).set k (.int .i64 p.2) := by simp [agV, List.map_set]
theorem agV_keep {rs : List (Int × Int)} {k : Nat} (x : Int) (h : k < rs.length) : agV (rs.set k (x, (slAt rs k).2)) = agV rs := by rw [agV_set, set_self (agV_at h)]
theorem thV_push (rs : List (Int × Int)) (p : Int × Int) : thV (rs ++ [p]) = thV rs ++ [.int .i64 p.1] := by simp [thV]
theorem agV_push (rs : List (Int × Int)) (p : Int × Int) : agV (rs ++ [p]) = agV rs ++ [.int .i64 p.2] := by simp [agV]
theorem frV_push (fr : List Nat) (k : Nat) : frV (fr ++ [k]) = frV fr ++ [.int .i64 (k : Int)] := by simp [frV]
theorem frV_top (fs : List Nat) (k : Nat) : (frV (fs ++ [k]))[fs.length]? = some (.int .i64 (k : Int)) := by simp [frV]

/-! worlds: what stays outside of some blocks -/
/-- Outside of the blocks S the world w' is as w was. -/
structure Out (S : Nat → Prop) (w w' : World) : Prop where
  os : w'.os = w.os
  tape : w'.tape = w.tape
  output : w'.output = w.output
  size : w.heap.size ≤ w'.heap.size
  block : ∀ k, k < w.heap.size → ¬ S k → w'.heap[k]? = w.heap[k]?
theorem Out.refl (S : Nat → Prop) (w : World) : Out S w w := ⟨rfl, rfl, rfl, Nat.le_refl _, fun _ _ _ => rfl⟩
/-- S' lies in S and in what is newer than w. -/
def Went (w : World) (S S' : Nat → Prop) : Prop := ∀ k, S' k → S k ∨ w.heap.size ≤ k
theorem Went.refl (w : World) (S : Nat → Prop) : Went w S S := fun _ h => Or.inl h
theorem Went.trans {w w1 : World} {S S1 S2 : Nat → Prop} (h : Went w S S1) (h1 : Went w1 S1 S2) (hs : w.heap.size ≤ w1.heap.size) : Went w S S2 := fun k hk => by
  rcases h1 k hk with h2 | h2
  · exact h k h2
  · exact Or.inr (by omega)
theorem Out.trans {S S1 : Nat → Prop} {w w1 w2 : World} (h : Out S w w1) (h1 : Out S1 w1 w2) (hw : Went w S S1) : Out S w w2 :=
  ⟨h1.os.trans h.os, h1.tape.trans h.tape, h1.output.trans h.output, Nat.le_trans h.size h1.size, fun k hk hS => (h1.block k (by have := h.size; omega) (fun hk1 => by
    rcases hw k hk1 with h2 | h2
    · exact hS h2
    · omega)).trans (h.block k hk hS)⟩
theorem Out.of_below {S : Nat → Prop} {w w' : World} {B : Nat} (h : Below B w w') (hB : w.heap.size ≤ B) : Out S w w' := ⟨h.os, h.tape, h.output, h.size, fun k hk _ => h.block k (by omega)⟩
theorem Out.of_grown {S : Nat → Prop} {w w' : World} {row : Option Nat} (h : w.grownBy w' row) (hr : ∀ k, row = some k → S k) : Out S w w' := ⟨h.os, h.tape, h.output, h.size, fun k hk hS => h.block k hk (fun e => hS (hr k e.symm))⟩
theorem Out.below {S : Nat → Prop} {w w' : World} {B : Nat} (h : Out S w w') (hS : ∀ k, S k → B ≤ k) (hB : B ≤ w.heap.size) : Below B w w' := ⟨h.os, h.tape, h.output, h.size, fun k hk => h.block k (by omega) (fun hk' => by have := hS k hk'; omega)⟩
theorem Out.mono {S S' : Nat → Prop} {w w' : World} (h : Out S w w') (hS : ∀ k, S k → S' k) : Out S' w w' := ⟨h.os, h.tape, h.output, h.size, fun k hk hk' => h.block k hk (fun e => hk' (hS k e))⟩
end Go.Proofs.YtjdkagafdnchhaaGreatDoor

/-
  Slots for orders as plain lists: each slot has its order (or none) and how often it was freed; beside them the slots that are free, the one that was freed last at the end. Beside them the two sides of a book, each a list of handles with their orders. What Put, Set and Take do to them, and what stays true. No program is named here.
-/
namespace Go.Proofs.YtjdkagafdnchhaaGreatDoor
open Go.RowKit

abbrev Sot := Option Ord × Int
def soAt (rs : List Sot) (k : Nat) : Sot := rs.getD k (none, 0)
def cntO : List Sot → Nat
  | [] => 0
  | r :: rs => (if r.1.isSome then 1 else 0) + cntO rs
def thO (t : Option Ord) : Ord := t.getD Ord.none_
theorem soAt_eq {rs : List Sot} {k : Nat} (h : k < rs.length) : soAt rs k = rs[k] := by simp [soAt, h]
theorem soAt_set_same {rs : List Sot} {k : Nat} (p : Sot) (h : k < rs.length) : soAt (rs.set k p) k = p := by simp [soAt, h]
theorem soAt_set_other {rs : List Sot} {k j : Nat} (p : Sot) (h : k ≠ j) : soAt (rs.set k p) j = soAt rs j := by simp [soAt, h]
theorem soAt_push {rs : List Sot} {k : Nat} (p : Sot) (h : k < rs.length) : soAt (rs ++ [p]) k = soAt rs k := by simp [soAt, List.getElem?_append, h]
theorem soAt_pushed (rs : List Sot) (p : Sot) : soAt (rs ++ [p]) rs.length = p := by simp [soAt]
theorem soAt_beyond {rs : List Sot} {k : Nat} (h : rs.length ≤ k) : soAt rs k = (none, 0) := by simp [soAt, h]
theorem soAt_some {rs : List Sot} {k : Nat} {o : Ord} {a : Int} (h : soAt rs k = (some o, a)) : k < rs.length := by
  rcases Nat.lt_or_ge k rs.length with h1 | h1
  · exact h1
  · rw [soAt_beyond h1] at h; cases h

theorem cntO_append (a b : List Sot) : cntO (a ++ b) = cntO a + cntO b := by
  induction a with
  | nil => simp [cntO]
  | cons r a ih => simp [cntO, ih]; omega
theorem cntO_le (rs : List Sot) : cntO rs ≤ rs.length := by
  induction rs with
  | nil => simp [cntO]
  | cons r a ih => simp only [cntO, List.length_cons]; split <;> omega
theorem cntO_set {rs : List Sot} {k : Nat} (p : Sot) (h : k < rs.length) : cntO (rs.set k p) + (if (soAt rs k).1.isSome then 1 else 0) = cntO rs + (if p.1.isSome then 1 else 0) := by
  induction rs generalizing k with
  | nil => simp at h
  | cons r rs ih =>
    cases k with
    | zero => simp [cntO, soAt]; omega
    | succ k =>
      have := ih (k := k) (by simpa using h)
      simp only [List.set_cons_succ, cntO]
      have e : soAt (r :: rs) (k + 1) = soAt rs k := by simp [soAt]
      rw [e]; omega

/-- what stays true of the slots; m: how many steps there were -/
structure So (m : Nat) (rs : List Sot) (fr : List Nat) : Prop where
  nd : fr.Nodup
  free : ∀ k ∈ fr, k < rs.length ∧ (soAt rs k).1 = none
  cnt : cntO rs + fr.length = rs.length
  small : rs.length ≤ m
  ages : ∀ k, 0 ≤ (soAt rs k).2 ∧ (soAt rs k).2 ≤ m
theorem So.start (m : Nat) : So m [] [] := ⟨List.nodup_nil, fun _ h => (by cases h), rfl, Nat.zero_le _, fun k => by simp [soAt]⟩
theorem So.more {m m' : Nat} {rs : List Sot} {fr : List Nat} (h : So m rs fr) (hm : m ≤ m') : So m' rs fr := ⟨h.nd, h.free, h.cnt, by have := h.small; omega, fun k => by have := h.ages k; omega⟩
theorem So.putFree {m k : Nat} {rs : List Sot} {fs : List Nat} {x : Ord} (h : So m rs (fs ++ [k])) : So (m + 1) (rs.set k (some x, (soAt rs k).2)) fs := by
  have hk := h.free k (by simp)
  have hnd := List.nodup_append.1 h.nd
  refine ⟨hnd.1, fun j hj => ?_, ?_, by simpa using Nat.le_succ_of_le h.small, fun j => ?_⟩
  · have hne : k ≠ j := fun e => hnd.2.2 j hj k (by simp) e.symm
    rw [soAt_set_other _ hne]
    simpa using h.free j (by simp [hj])
  · have h1 := cntO_set (some x, (soAt rs k).2) hk.1
    have h2 := h.cnt
    rw [hk.2] at h1
    simp only [List.length_append, List.length_singleton] at h2
    simp at h1
    simp; omega
  · by_cases e : k = j
    · subst e; rw [soAt_set_same _ hk.1]; have := h.ages k; simp; omega
    · rw [soAt_set_other _ e]; have := h.ages j; omega
theorem So.putNew {m : Nat} {rs : List Sot} {x : Ord} (h : So m rs []) : So (m + 1) (rs ++ [(some x, 0)]) [] := by
  have each : ∀ k, soAt (rs ++ [(some x, 0)]) k = soAt rs k ∨ soAt (rs ++ [(some x, 0)]) k = (some x, 0) := fun k => by
    rcases Nat.lt_trichotomy k rs.length with h1 | h1 | h1
    · exact Or.inl (soAt_push _ h1)
    · subst h1; exact Or.inr (soAt_pushed _ _)
    · left; rw [soAt_beyond (by simp; omega), soAt_beyond (by omega)]
  refine ⟨List.nodup_nil, fun _ h => (by cases h), ?_, by have := h.small; simp; omega, fun k => ?_⟩
  · have := h.cnt
    simp [cntO_append, cntO] at this ⊢; omega
  · rcases each k with e | e
    · rw [e]; have := h.ages k; omega
    · rw [e]; simp; omega
theorem So.set {m k : Nat} {rs : List Sot} {fr : List Nat} {x : Ord} (h : So m rs fr) (hk : k < rs.length) (hf : (soAt rs k).1.isSome = true) : So (m + 1) (rs.set k (some x, (soAt rs k).2)) fr := by
  refine ⟨h.nd, fun j hj => ?_, ?_, by simpa using Nat.le_succ_of_le h.small, fun j => ?_⟩
  · have hj' := h.free j hj
    have hne : k ≠ j := fun e => by subst e; rw [hj'.2] at hf; cases hf
    rw [soAt_set_other _ hne]
    simpa using hj'
  · have h1 := cntO_set (some x, (soAt rs k).2) hk
    have h2 := h.cnt
    rw [hf] at h1
    simp at h1
    simp; omega
  · by_cases e : k = j
    · subst e; rw [soAt_set_same _ hk]; have := h.ages k; simp; omega
    · rw [soAt_set_other _ e]; have := h.ages j; omega
theorem So.take {m k : Nat} {rs : List Sot} {fr : List Nat} (h : So m rs fr) (hk : k < rs.length) (hf : (soAt rs k).1.isSome = true) : So (m + 1) (rs.set k (none, (soAt rs k).2 + 1)) (fr ++ [k]) := by
  have hn : k ∉ fr := fun hm => by have := h.free k hm; rw [this.2] at hf; cases hf
  refine ⟨?_, fun j hj => ?_, ?_, by simpa using Nat.le_succ_of_le h.small, fun j => ?_⟩
  · rw [List.nodup_append]
    exact ⟨h.nd, by simp, fun a ha b hb e => by simp at hb; subst e; subst hb; exact hn ha⟩
  · by_cases e : k = j
    · subst e; rw [soAt_set_same _ hk]; exact ⟨by simpa using hk, rfl⟩
    · rw [soAt_set_other _ e]
      rcases List.mem_append.1 hj with h1 | h1
      · simpa using h.free j h1
      · simp at h1; omega
  · have h1 := cntO_set (none, (soAt rs k).2 + 1) hk
    have h2 := h.cnt
    rw [hf] at h1
    simp at h1
    simp; omega
  · by_cases e : k = j
    · subst e; rw [soAt_set_same _ hk]; have := h.ages k; simp; omega
    · rw [soAt_set_other _ e]; have := h.ages j; omega

/-! how the slots lie in memory: an order's five cells, the Age, is there one -/
def soV : List Sot → List Value
  | [] => []
  | r :: rs => .int .i64 (thO r.1).id :: .int .i64 (thO r.1).side :: .int .i64 (thO r.1).kind :: .int .i64 (thO r.1).price :: .int .i64 (thO r.1).qty :: .int .i64 r.2 :: .bool r.1.isSome :: soV rs
theorem soV_length (rs : List Sot) : (soV rs).length = rs.length * 7 := by
  induction rs with
  | nil => rfl
  | cons r rs ih => simp [soV, ih]; omega
theorem soV_append (a b : List Sot) : soV (a ++ b) = soV a ++ soV b := by
  induction a with
  | nil => rfl
  | cons r a ih => simp [soV, ih]
theorem soV_at {rs : List Sot} {k : Nat} (h : k < rs.length) : (soV rs)[k * 7]? = some (.int .i64 (thO (soAt rs k).1).id) ∧ (soV rs)[k * 7 + 1]? = some (.int .i64 (thO (soAt rs k).1).side) ∧ (soV rs)[k * 7 + 2]? = some (.int .i64 (thO (soAt rs k).1).kind) ∧ (soV rs)[k * 7 + 3]? = some (.int .i64 (thO (soAt rs k).1).price) ∧ (soV rs)[k * 7 + 4]? = some (.int .i64 (thO (soAt rs k).1).qty) ∧ (soV rs)[k * 7 + 5]? = some (.int .i64 (soAt rs k).2) ∧ (soV rs)[k * 7 + 6]? = some (.bool (soAt rs k).1.isSome) := by
  induction rs generalizing k with
  | nil => simp at h
  | cons r rs ih =>
    cases k with
    | zero => exact ⟨rfl, rfl, rfl, rfl, rfl, rfl, rfl⟩
    | succ k =>
      have := ih (k := k) (by simpa using h)
      rw [show (k + 1) * 7 = k * 7 + 1 + 1 + 1 + 1 + 1 + 1 + 1 by omega]
      have e : soAt (r :: rs) (k + 1) = soAt rs k := by simp [soAt]
      rw [e]
      simpa [soV] using this
theorem soV_set {rs : List Sot} {k : Nat} (p : Sot) (h : k < rs.length) : (((((((soV rs).set (k * 7) (.int .i64 (thO p.1).id)).set (k * 7 + 1) (.int .i64 (thO p.1).side)).set (k * 7 + 2) (.int .i64 (thO p.1).kind)).set (k * 7 + 3) (.int .i64 (thO p.1).price)).set (k * 7 + 4) (.int .i64 (thO p.1).qty)).set (k * 7 + 5) (.int .i64 p.2)).set (k * 7 + 6) (.bool p.1.isSome) = soV (rs.set k p) := by
  induction rs generalizing k with
  | nil => simp at h
  | cons r rs ih =>
    cases k with
    | zero => rfl
    | succ k =>
      have := ih (k := k) (by simpa using h)
      rw [show (k + 1) * 7 = k * 7 + 1 + 1 + 1 + 1 + 1 + 1 + 1 by omega]
      simp only [soV, List.set_cons_succ]
      rw [← this]

/-- which slot is given next, and what the slots are then -/
def RoomO (rs : List Sot) (fr : List Nat) (k : Nat) (rs1 : List Sot) (fr1 : List Nat) : Prop := (fr = fr1 ++ [k] ∧ rs1 = rs) ∨ (fr = [] ∧ fr1 = [] ∧ k = rs.length ∧ rs1 = rs ++ [(none, 0)])

/-! a side: handles, best first, each with its order -/
structure Ly where
  slot : Nat
  age : Int
  o : Ord
def hV : List Ly → List Value
  | [] => []
  | x :: l => .int .i64 (x.slot : Int) :: .int .i64 x.age :: hV l
def lyNone : Ly := ⟨0, 0, Ord.none_⟩
def lyAt (l : List Ly) (k : Nat) : Ly := l.getD k lyNone
theorem lyAt_eq {l : List Ly} {k : Nat} (h : k < l.length) : lyAt l k = l[k] := by simp [lyAt, h]
theorem lyAt_mem {l : List Ly} {k : Nat} (h : k < l.length) : lyAt l k ∈ l := by rw [lyAt_eq h]; exact List.getElem_mem h
theorem hV_length (l : List Ly) : (hV l).length = l.length * 2 := by
  induction l with
  | nil => rfl
  | cons r rs ih => simp [hV, ih]; omega
theorem hV_append (a b : List Ly) : hV (a ++ b) = hV a ++ hV b := by
  induction a with
  | nil => rfl
  | cons r a ih => simp [hV, ih]
theorem hV_at {l : List Ly} {k : Nat} (h : k < l.length) : (hV l)[k * 2]? = some (.int .i64 ((lyAt l k).slot : Int)) ∧ (hV l)[k * 2 + 1]? = some (.int .i64 (lyAt l k).age) := by
  induction l generalizing k with
  | nil => simp at h
  | cons r rs ih =>
    cases k with
    | zero => exact ⟨rfl, rfl⟩
    | succ k =>
      have := ih (k := k) (by simpa using h)
      rw [show (k + 1) * 2 = k * 2 + 1 + 1 by omega]
      have e : lyAt (r :: rs) (k + 1) = lyAt rs k := by simp [lyAt]
      rw [e]
      simpa [hV] using this
theorem hV_one (l : List Ly) : ∀ u ∈ hV l, u.oneCell' = true := by
  induction l with
  | nil => simp [hV]
  | cons o l ih =>
    intro u hu
    simp only [hV, List.mem_cons] at hu
    rcases hu with rfl | rfl | hu
    · rfl
    · rfl
    · exact ih u hu

/-- what stays true of a book: its slots, and its two sides -/
structure Pb (m : Nat) (rs : List Sot) (fr : List Nat) (S : Nat → List Ly) : Prop where
  so : So m rs fr
  there : ∀ s, s < 2 → ∀ x ∈ S s, soAt rs x.slot = (some x.o, x.age)
  nd : ((S 0 ++ S 1).map Ly.slot).Nodup
  ids : ((S 0 ++ S 1).map fun x => x.o.id).Nodup
  cnt : cntO rs = (S 0).length + (S 1).length
  side : ∀ s, s < 2 → ∀ x ∈ S s, x.o.side = (s : Int) + 1
  ok : ∀ s, s < 2 → ∀ x ∈ S s, 1 ≤ x.o.id ∧ (Lit.int .i64 x.o.id).wf = true ∧ 1 ≤ x.o.price ∧ x.o.price ≤ 1000000 ∧ 1 ≤ x.o.qty ∧ x.o.qty ≤ 1000000
  most : (S 0).length + (S 1).length ≤ 100
def upS (S : Nat → List Ly) (s : Nat) (l : List Ly) : Nat → List Ly := fun k => if k = s then l else S k
theorem upS_same (S : Nat → List Ly) (s : Nat) (l : List Ly) : upS S s l s = l := if_pos rfl
theorem upS_other {S : Nat → List Ly} {s k : Nat} (l : List Ly) (h : k ≠ s) : upS S s l k = S k := if_neg h
end Go.Proofs.YtjdkagafdnchhaaGreatDoor

/-
  What becomes of a book's slots and sides (PbSl) when an order is put in, taken out, or cut; and the plain lists of orders behind that. No program is named here.
-/
namespace Go.Proofs.YtjdkagafdnchhaaGreatDoor
open Go.RowKit

theorem pb_all (S : Nat → List Ly) {s : Nat} (hs : s < 2) : (S 0 ++ S 1).Perm (S s ++ S (1 - s)) := by
  match s, hs with
  | 0, _ => exact List.Perm.refl _
  | 1, _ => exact List.perm_append_comm
theorem pb_up (S : Nat → List Ly) (l : List Ly) {s : Nat} (hs : s < 2) : (upS S s l 0 ++ upS S s l 1).Perm (l ++ S (1 - s)) := by
  match s, hs with
  | 0, _ => exact List.Perm.refl _
  | 1, _ => exact List.perm_append_comm
theorem pb_len (S : Nat → List Ly) (l : List Ly) {s : Nat} (hs : s < 2) : (upS S s l 0).length + (upS S s l 1).length = l.length + (S (1 - s)).length ∧ (S 0).length + (S 1).length = (S s).length + (S (1 - s)).length := by
  match s, hs with
  | 0, _ => exact ⟨rfl, rfl⟩
  | 1, _ => exact ⟨Nat.add_comm _ _, Nat.add_comm _ _⟩
theorem mem_up {S : Nat → List Ly} {l : List Ly} {s t : Nat} {y : Ly} (h : y ∈ upS S s l t) : (t = s ∧ y ∈ l) ∨ (t ≠ s ∧ y ∈ S t) := by
  by_cases e : t = s
  · subst e; rw [upS_same] at h; exact Or.inl ⟨rfl, h⟩
  · rw [upS_other _ e] at h; exact Or.inr ⟨e, h⟩

/-- two that lie have one slot, or one number, only if they are one -/
theorem Pb.one_slot {m : Nat} {rs : List Sot} {fr : List Nat} {S : Nat → List Ly} (h : Pb m rs fr S) {s t : Nat} (hs : s < 2) (ht : t < 2) {x y : Ly} (hx : x ∈ S s) (hy : y ∈ S t) (e : x.slot = y.slot) : x = y := by
  have h1 := h.there s hs x hx
  have h2 := h.there t ht y hy
  rw [e, h2] at h1
  injection h1 with h1 h3
  injection h1 with h1
  obtain ⟨a, b, c⟩ := x
  obtain ⟨a', b', c'⟩ := y
  simp only at e h1 h3
  rw [e, h1, h3]
theorem pair_of_nodup {α : Type} {f : Ly → α} {l : List Ly} (h : (l.map f).Nodup) {x y : Ly} (hx : x ∈ l) (hy : y ∈ l) (e : f x = f y) : x = y := by
  induction l with
  | nil => cases hx
  | cons a l ih =>
    simp only [List.map_cons, List.nodup_cons] at h
    rcases List.mem_cons.1 hx with rfl | hx' <;> rcases List.mem_cons.1 hy with rfl | hy'
    · rfl
    · exact absurd (List.mem_map.2 ⟨y, hy', e.symm⟩) h.1
    · exact absurd (List.mem_map.2 ⟨x, hx', e⟩) h.1
    · exact ih h.2 hx' hy'
theorem Pb.mem {S : Nat → List Ly} {s : Nat} (hs : s < 2) {x : Ly} (hx : x ∈ S s) : x ∈ S 0 ++ S 1 := (pb_all S hs).mem_iff.2 (List.mem_append.2 (Or.inl hx))
theorem Pb.one_id {m : Nat} {rs : List Sot} {fr : List Nat} {S : Nat → List Ly} (h : Pb m rs fr S) {s t : Nat} (hs : s < 2) (ht : t < 2) {x y : Ly} (hx : x ∈ S s) (hy : y ∈ S t) (e : x.o.id = y.o.id) : x = y :=
  pair_of_nodup h.ids (Pb.mem hs hx) (Pb.mem ht hy) e
theorem Pb.one_side {m : Nat} {rs : List Sot} {fr : List Nat} {S : Nat → List Ly} (h : Pb m rs fr S) {s t : Nat} (hs : s < 2) (ht : t < 2) {x : Ly} (hx : x ∈ S s) (hy : x ∈ S t) : s = t := by
  have h1 := h.side s hs x hx
  have h2 := h.side t ht x hy
  omega

theorem Pb.more {m m' : Nat} {rs : List Sot} {fr : List Nat} {S : Nat → List Ly} (h : Pb m rs fr S) (hm : m ≤ m') : Pb m' rs fr S := ⟨h.so.more hm, h.there, h.nd, h.ids, h.cnt, h.side, h.ok, h.most⟩
theorem Pb.start (m : Nat) : Pb m [] [] (fun _ => []) := ⟨So.start m, fun _ _ x hx => (by cases hx), List.nodup_nil, List.nodup_nil, rfl, fun _ _ x hx => (by cases hx), fun _ _ x hx => (by cases hx), by simp⟩

theorem room_none {m k : Nat} {rs rs1 : List Sot} {fr fr1 : List Nat} (h : So m rs fr) (hR : RoomO rs fr k rs1 fr1) : k < rs1.length ∧ (soAt rs1 k).1 = none ∧ (∀ j o a, soAt rs j = (some o, a) → j ≠ k ∧ soAt rs1 j = (some o, a)) ∧ cntO rs1 = cntO rs ∧ rs1.length ≤ rs.length + 1 := by
  rcases hR with ⟨rfl, rfl⟩ | ⟨rfl, rfl, rfl, rfl⟩
  · have hk := h.free k (by simp)
    refine ⟨hk.1, hk.2, fun j o a hj => ⟨fun e => ?_, hj⟩, rfl, by omega⟩
    subst e; rw [hj] at hk; cases hk.2
  · refine ⟨by simp, by rw [soAt_pushed], fun j o a hj => ?_, by simp [cntO_append, cntO], by simp⟩
    have hlt := soAt_some hj
    exact ⟨by omega, by rw [soAt_push _ hlt]; exact hj⟩
theorem room_set (rs : List Sot) (p q : Sot) : (rs ++ [p]).set rs.length q = rs ++ [q] := by simp
theorem room_so {m k : Nat} {rs rs1 : List Sot} {fr fr1 : List Nat} {o : Ord} (h : So m rs fr) (hR : RoomO rs fr k rs1 fr1) : So (m + 1) (rs1.set k (some o, (soAt rs1 k).2)) fr1 := by
  rcases hR with ⟨rfl, rfl⟩ | ⟨rfl, rfl, rfl, rfl⟩
  · exact h.putFree
  · rw [soAt_pushed, room_set]; exact h.putNew
theorem room_is {m : Nat} {rs : List Sot} {fr : List Nat} (_h : So m rs fr) : ∃ k rs1 fr1, RoomO rs fr k rs1 fr1 := by
  rcases List.eq_nil_or_concat fr with rfl | ⟨fs, k, rfl⟩
  · exact ⟨rs.length, _, [], Or.inr ⟨rfl, rfl, rfl, rfl⟩⟩
  · rw [List.concat_eq_append]
    exact ⟨k, rs, fs, Or.inl ⟨rfl, rfl⟩⟩

theorem Pb.put {m k s : Nat} {rs rs1 : List Sot} {fr fr1 : List Nat} {S : Nat → List Ly} {o : Ord} {l' : List Ly} (h : Pb m rs fr S) (hR : RoomO rs fr k rs1 fr1) (hs : s < 2) (hp : l'.Perm (⟨k, (soAt rs1 k).2, o⟩ :: S s)) (hside : o.side = (s : Int) + 1)
    (hok : 1 ≤ o.id ∧ (Lit.int .i64 o.id).wf = true ∧ 1 ≤ o.price ∧ o.price ≤ 1000000 ∧ 1 ≤ o.qty ∧ o.qty ≤ 1000000) (hid : ∀ t, t < 2 → ∀ x ∈ S t, x.o.id ≠ o.id) (hm : (S 0).length + (S 1).length < 100) :
    Pb (m + 1) (rs1.set k (some o, (soAt rs1 k).2)) fr1 (upS S s l') := by
  obtain ⟨hk, hn, ho, hc, _⟩ := room_none h.so hR
  have hall := (pb_up S l' hs).trans ((hp.append_right _).trans ((pb_all S hs).symm.cons _))
  have hl := pb_len S l' hs
  have hpl := hp.length_eq
  simp only [List.length_cons] at hpl
  refine ⟨room_so h.so hR, fun t ht y hy => ?_, ?_, ?_, ?_, fun t ht y hy => ?_, fun t ht y hy => ?_, by omega⟩
  · have old : ∀ u, u < 2 → y ∈ S u → soAt (rs1.set k (some o, (soAt rs1 k).2)) y.slot = (some y.o, y.age) := fun u hu hy' => by
      obtain ⟨h1, h2⟩ := ho _ _ _ (h.there u hu y hy')
      rw [soAt_set_other _ (Ne.symm h1)]; exact h2
    rcases mem_up hy with ⟨rfl, h5⟩ | ⟨_, h5⟩
    · rcases List.mem_cons.1 (hp.mem_iff.1 h5) with rfl | h6
      · exact soAt_set_same _ hk
      · exact old _ ht h6
    · exact old _ ht h5
  · rw [(hall.map _).nodup_iff]
    simp only [List.map_cons, List.nodup_cons]
    refine ⟨fun hmem => ?_, h.nd⟩
    obtain ⟨y, hy, e⟩ := List.mem_map.1 hmem
    rcases List.mem_append.1 hy with hy | hy
    · exact (ho _ _ _ (h.there 0 (by decide) y hy)).1 e
    · exact (ho _ _ _ (h.there 1 (by decide) y hy)).1 e
  · rw [(hall.map _).nodup_iff]
    simp only [List.map_cons, List.nodup_cons]
    refine ⟨fun hmem => ?_, h.ids⟩
    obtain ⟨y, hy, e⟩ := List.mem_map.1 hmem
    rcases List.mem_append.1 hy with hy | hy
    · exact hid 0 (by decide) y hy e
    · exact hid 1 (by decide) y hy e
  · have h1 := cntO_set (some o, (soAt rs1 k).2) hk
    rw [hn] at h1
    have h2 := h.cnt
    simp at h1
    omega
  · rcases mem_up hy with ⟨rfl, h5⟩ | ⟨_, h5⟩
    · rcases List.mem_cons.1 (hp.mem_iff.1 h5) with rfl | h6
      · exact hside
      · exact h.side _ ht _ h6
    · exact h.side _ ht _ h5
  · rcases mem_up hy with ⟨rfl, h5⟩ | ⟨_, h5⟩
    · rcases List.mem_cons.1 (hp.mem_iff.1 h5) with rfl | h6
      · exact hok
      · exact h.ok _ ht _ h6
    · exact h.ok _ ht _ h5

theorem Pb.gone {m s : Nat} {rs : List Sot} {fr : List Nat} {S : Nat → List Ly} {x : Ly} {l' : List Ly} (h : Pb m rs fr S) (hs : s < 2) (hx : x ∈ S s) (hp : (S s).Perm (x :: l')) :
    Pb (m + 1) (rs.set x.slot (none, x.age + 1)) (fr ++ [x.slot]) (upS S s l') := by
  have hat := h.there s hs x hx
  have hk := soAt_some hat
  have hf : (soAt rs x.slot).1.isSome = true := by rw [hat]; rfl
  have hall : (S 0 ++ S 1).Perm (x :: (upS S s l' 0 ++ upS S s l' 1)) := (pb_all S hs).trans ((hp.append_right _).trans ((pb_up S l' hs).symm.cons _))
  have hnd := (hall.map Ly.slot).nodup_iff.1 h.nd
  have hid := (hall.map fun x => x.o.id).nodup_iff.1 h.ids
  simp only [List.map_cons, List.nodup_cons] at hnd hid
  have hl := pb_len S l' hs
  have hpl := hp.length_eq
  simp only [List.length_cons] at hpl
  have old : ∀ t, t < 2 → ∀ y ∈ upS S s l' t, y ∈ S t := fun t ht y hy => by
    rcases mem_up hy with ⟨rfl, h5⟩ | ⟨_, h5⟩
    · exact hp.mem_iff.2 (List.mem_cons_of_mem _ h5)
    · exact h5
  refine ⟨?_, fun t ht y hy => ?_, hnd.2, hid.2, ?_, fun t ht y hy => h.side t ht y (old t ht y hy), fun t ht y hy => h.ok t ht y (old t ht y hy), by have := h.most; omega⟩
  · have := h.so.take hk hf
    rw [hat] at this; exact this
  · have hne : x.slot ≠ y.slot := fun e => hnd.1 (List.mem_map.2 ⟨y, Pb.mem ht hy, e.symm⟩)
    rw [soAt_set_other _ hne]
    exact h.there t ht y (old t ht y hy)
  · have h1 := cntO_set (none, x.age + 1) hk
    rw [hat] at h1
    have h2 := h.cnt
    simp at h1
    omega

/-- one order is changed in its place -/
def cutL (x : Ly) (o' : Ord) (l : List Ly) : List Ly := l.map fun y => if y.slot = x.slot then { y with o := o' } else y
theorem cutL_slots (x : Ly) (o' : Ord) (l : List Ly) : (cutL x o' l).map Ly.slot = l.map Ly.slot := by
  unfold cutL
  rw [List.map_map]
  apply List.map_congr_left
  intro y _
  simp only [Function.comp]
  split <;> rfl
theorem cutL_length (x : Ly) (o' : Ord) (l : List Ly) : (cutL x o' l).length = l.length := by simp [cutL]
theorem cutL_hV (x : Ly) (o' : Ord) (l : List Ly) : hV (cutL x o' l) = hV l := by
  induction l with
  | nil => rfl
  | cons y l ih =>
    have : cutL x o' (y :: l) = (if y.slot = x.slot then { y with o := o' } else y) :: cutL x o' l := rfl
    rw [this]
    unfold hV
    rw [ih]
    split <;> rfl
theorem Pb.cut {m s : Nat} {rs : List Sot} {fr : List Nat} {S : Nat → List Ly} {x : Ly} {o' : Ord} (h : Pb m rs fr S) (hs : s < 2) (hx : x ∈ S s) (h1 : o'.id = x.o.id) (h2 : o'.side = x.o.side) (h3 : 1 ≤ o'.price ∧ o'.price ≤ 1000000 ∧ 1 ≤ o'.qty ∧ o'.qty ≤ 1000000) :
    Pb (m + 1) (rs.set x.slot (some o', x.age)) fr (upS S s (cutL x o' (S s))) := by
  have hat := h.there s hs x hx
  have hk := soAt_some hat
  have hf : (soAt rs x.slot).1.isSome = true := by rw [hat]; rfl
  have hl := pb_len S (cutL x o' (S s)) hs
  have each : ∀ t, t < 2 → ∀ y ∈ upS S s (cutL x o' (S s)) t, (y ∈ S t ∧ y.slot ≠ x.slot) ∨ (t = s ∧ y = { x with o := o' }) := fun t ht y hy => by
    rcases mem_up hy with ⟨rfl, h5⟩ | ⟨hne, h5⟩
    · obtain ⟨z, hz, rfl⟩ := List.mem_map.1 h5
      by_cases e : z.slot = x.slot
      · obtain rfl := h.one_slot ht hs hz hx e
        right; rw [if_pos rfl]; exact ⟨rfl, rfl⟩
      · left; rw [if_neg e]; exact ⟨hz, e⟩
    · left
      refine ⟨h5, fun e => ?_⟩
      have e2 := h.one_slot ht hs h5 hx e
      exact hne (h.one_side ht hs h5 (e2 ▸ hx))
  have hcl := cutL_length x o' (S s)
  have hm := h.most
  have hids : ((cutL x o' (S s)).map fun y => y.o.id) = (S s).map fun y => y.o.id := by
    unfold cutL
    rw [List.map_map]
    apply List.map_congr_left
    intro y hy
    simp only [Function.comp]
    split
    · rename_i e
      obtain rfl := h.one_slot hs hs hy hx e
      exact h1
    · rfl
  refine ⟨?_, fun t ht y hy => ?_, ?_, ?_, ?_, fun t ht y hy => ?_, fun t ht y hy => ?_, by omega⟩
  · have := h.so.set (x := o') hk hf
    rw [hat] at this; exact this
  · rcases each t ht y hy with ⟨hy, hne⟩ | ⟨_, rfl⟩
    · rw [soAt_set_other _ (Ne.symm hne)]; exact h.there t ht y hy
    · exact soAt_set_same _ hk
  · rw [((pb_up S _ hs).map _).nodup_iff, List.map_append, cutL_slots, ← List.map_append, ← ((pb_all S hs).map _).nodup_iff]; exact h.nd
  · rw [((pb_up S _ hs).map _).nodup_iff, List.map_append, hids, ← List.map_append, ← ((pb_all S hs).map _).nodup_iff]; exact h.ids
  · have h4 := cntO_set (some o', x.age) hk
    rw [hat] at h4
    have h5 := h.cnt
    simp at h4
    omega
  · rcases each t ht y hy with ⟨hy, _⟩ | ⟨rfl, rfl⟩
    · exact h.side t ht y hy
    · show o'.side = _
      rw [h2]; exact h.side _ hs x hx
  · rcases each t ht y hy with ⟨hy, _⟩ | ⟨rfl, rfl⟩
    · exact h.ok t ht y hy
    · have := h.ok _ hs x hx
      show 1 ≤ o'.id ∧ (Lit.int .i64 o'.id).wf = true ∧ _
      rw [h1]
      exact ⟨this.1, this.2.1, h3⟩
end Go.Proofs.YtjdkagafdnchhaaGreatDoor

/-
  Small laws on blocks of memory and on rows that are owned, over any program. Conditions stand in each theorem.
-/
namespace Go.Proofs.YtjdkagafdnchhaaGreatDoor
open Go.RowKit

theorem blk_cell {w : World} {b j : Nat} {vs : Array Value} {t : TypeId} {v : Value} (h : w.heap[b]? = some (.cells vs t (0, 0))) (hj : vs[j]? = some v) : w.cell? ⟨b, j, none⟩ = some v := (cell_of_row w b j vs t (0, 0) h).trans hj
theorem blk_free {w : World} {b j : Nat} {vs : Array Value} {t : TypeId} (h : w.heap[b]? = some (.cells vs t (0, 0))) : w.frozen? ⟨b, j, none⟩ = false := frozen_of_row w b j vs t h
theorem blk_set {w : World} {b j : Nat} {vs : Array Value} {t : TypeId} (u : Value) (h : w.heap[b]? = some (.cells vs t (0, 0))) : (w.setCell ⟨b, j, none⟩ u).heap[b]? = some (.cells (vs.setIfInBounds j u) t (0, 0)) := heap_setCell_same w b j vs t u h
theorem blk_ne {w : World} {b g : Nat} {vs us : Array Value} {t s : TypeId} {f f' : Nat × Nat} (h : w.heap[b]? = some (.cells vs t f)) (h' : w.heap[g]? = some (.cells us s f')) (hn : t ≠ s) : b ≠ g := fun e => by
  subst e; rw [h] at h'; injection h' with h'; injection h' with _ h' _; exact hn h'
theorem owns_shape {w : World} {base : Nat} {e : TypeId} {size : Nat} {v : Value} {n : Nat} {xs : List Value} (h : w.ownsRow base e size v n xs) : ∃ (ao : Option Addr) (cap : Nat), v = .slice ao n cap ∧ n ≤ cap ∧ cap ≤ maxLen := by
  rcases h.2 with ⟨rfl, rfl⟩ | ⟨g, cap, cur, rfl, _, _, h1, h2, _⟩
  · exact ⟨none, 0, rfl, Nat.le_refl _, Nat.zero_le _⟩
  · exact ⟨some ⟨g, 0, none⟩, cap, rfl, h1, h2⟩
theorem owns_below {w w' : World} {base : Nat} {e : TypeId} {size : Nat} {v : Value} {n B : Nat} {xs : List Value} (h : w.ownsRow base e size v n xs) (hb : Below B w w') (hB : w.heap.size ≤ B) : w'.ownsRow base e size v n xs := by
  refine ⟨h.1, ?_⟩
  rcases h.2 with hn | ⟨g, cap, cur, rfl, hg, hh, r⟩
  · exact .inl hn
  · exact .inr ⟨g, cap, cur, rfl, hg, (hb.block g (Nat.lt_of_lt_of_le (lt_of_block hh) hB)).trans hh, r⟩
theorem owns_out {S : Nat → Prop} {w w' : World} {base : Nat} {e : TypeId} {size : Nat} {v : Value} {n : Nat} {xs : List Value} (h : w.ownsRow base e size v n xs) (hb : Out S w w') (hS : ∀ k, v.ownBlock = some k → ¬ S k) : w'.ownsRow base e size v n xs := by
  refine ⟨h.1, ?_⟩
  rcases h.2 with hn | ⟨g, cap, cur, rfl, hg, hh, r⟩
  · exact .inl hn
  · exact .inr ⟨g, cap, cur, rfl, hg, (hb.block g (lt_of_block hh) (hS g rfl)).trans hh, r⟩
theorem owns_type {w : World} {base b : Nat} {e t : TypeId} {size : Nat} {v : Value} {n : Nat} {xs : List Value} {vs : Array Value} {f : Nat × Nat} (h : w.ownsRow base e size v n xs) (hb : w.heap[b]? = some (.cells vs t f)) (ht : t ≠ e) : v.ownBlock ≠ some b := fun hv => by
  rcases h.2 with ⟨rfl, _⟩ | ⟨g, cap, cur, rfl, _, hh, _⟩
  · cases hv
  · simp [Value.ownBlock] at hv; subst hv; exact blk_ne hb hh ht rfl
theorem owns_types {w : World} {base base' : Nat} {e e' : TypeId} {size size' : Nat} {v v' : Value} {n n' : Nat} {xs xs' : List Value} (h : w.ownsRow base e size v n xs) (h' : w.ownsRow base' e' size' v' n' xs') (ht : e ≠ e') {k : Nat} (hv : v.ownBlock = some k) : v'.ownBlock ≠ some k := fun hv' => by
  rcases h.2 with ⟨rfl, _⟩ | ⟨g, cap, cur, rfl, _, hh, _⟩
  · cases hv
  · simp [Value.ownBlock] at hv; subst hv; exact owns_type h' hh ht hv'
theorem owns_len {w : World} {base : Nat} {e : TypeId} {size : Nat} {a : Option Addr} {n' cap n : Nat} {xs : List Value} (h : w.ownsRow base e size (.slice a n' cap) n xs) : n' = n := by
  rcases h.2 with ⟨h', h0⟩ | ⟨g, cap', cur, h', _⟩
  · injection h' with _ h1 _; omega
  · injection h' with _ h1 _
theorem owns_less {w : World} {base : Nat} {e : TypeId} {g n cap : Nat} {xs : List Value} {x : Value} (h : w.ownsRow base e 1 (.slice (some ⟨g, 0, none⟩) (n + 1) cap) (n + 1) (xs ++ [x])) (hn : xs.length = n) : w.ownsRow base e 1 (.slice (some ⟨g, 0, none⟩) n cap) n xs := by
  rcases h.2 with ⟨h', _⟩ | ⟨g', cap', cur, h', hb, hg, hnc, hcm, hcs, ht⟩
  · simp at h'
  · simp only [Value.slice.injEq, Option.some.injEq, Addr.mk.injEq, and_true, true_and] at h'
    obtain ⟨rfl, rfl⟩ := h'
    refine ⟨by omega, .inr ⟨g, cap, cur, rfl, hb, hg, by omega, hcm, hcs, ?_⟩⟩
    have := congrArg (List.take n) ht
    rw [List.take_take, ← hn, List.take_left] at this
    rw [← hn]
    simpa using this
theorem out_set (w : World) (a : Addr) (u : Value) : Out (fun j => j = a.block) w (w.setCell a u) := ⟨rfl, rfl, rfl, by simp, fun j _ hj => Below.heap_setCell _ _ _ _ (fun e => hj e)⟩
theorem heap_drewN (w : World) : ∀ n, (w.drewN n).heap = w.heap := fun n => by
  have : ∀ n (w' : World), (w'.drewN n).heap = w'.heap := fun n => by
    induction n with
    | zero => intro w'; rfl
    | succ n ih => intro w'; exact ih _
  exact this n w
theorem blk_drewN {w : World} {b : Nat} {o : Obj} (n : Nat) (h : w.heap[b]? = some o) : (w.drewN n).heap[b]? = some o := by rw [heap_drewN]; exact h
theorem blk_below {w w' : World} {b B : Nat} {o : Obj} (h : w.heap[b]? = some o) (hb : Below B w w') (hB : w.heap.size ≤ B) : w'.heap[b]? = some o := (hb.block b (Nat.lt_of_lt_of_le (lt_of_block h) hB)).trans h
theorem blk_out {S : Nat → Prop} {w w' : World} {b : Nat} {o : Obj} (h : w.heap[b]? = some o) (hb : Out S w w') (hS : ¬ S b) : w'.heap[b]? = some o := (hb.block b (lt_of_block h) hS).trans h
theorem bel1 (w : World) (o : Obj) : Below w.heap.size w (w.alloc o) := (Below.refl _ _).alloc (Nat.le_refl _) o
theorem bel2 (w : World) (o o' : Obj) : Below w.heap.size w ((w.alloc o).alloc o') := ((Below.refl _ _).alloc (Nat.le_refl _) o).alloc (by simp) o'
theorem bel_then {w w1 w2 : World} (h : Below w.heap.size w w1) (h1 : Below w1.heap.size w1 w2) : Below w.heap.size w w2 := h.trans (h1.mono h.size)
theorem two_old (w : World) (o o' : Obj) : ((w.alloc o).alloc o').heap[w.heap.size]? = some o := (Below.heap_alloc (w.alloc o) o' w.heap.size (by simp)).trans (heap_alloc_new w o)
theorem two_new (w : World) (o o' : Obj) : ((w.alloc o).alloc o').heap[w.heap.size + 1]? = some o' := by
  have := heap_alloc_new (w.alloc o) o'
  rwa [show (w.alloc o).heap.size = w.heap.size + 1 by simp] at this
theorem drew_heap (w : World) : w.drew.heap = w.heap := rfl
theorem out_drew {S : Nat → Prop} {w w' : World} (h : Out S w w') : Out S w w'.drew := ⟨h.os, h.tape, h.output, h.size, h.block⟩
theorem out_alloc {S : Nat → Prop} {w w' : World} (h : Out S w w') (o : Obj) : Out S w (w'.alloc o) := h.trans (Out.of_below (bel1 w' o) (Nat.le_refl _)) (Went.refl _ _)
theorem out_then {S : Nat → Prop} {w w1 w2 : World} (h : Out S w w1) (h1 : Out S w1 w2) : Out S w w2 := h.trans h1 (Went.refl _ _)
theorem out_setNew {S : Nat → Prop} {w w' : World} {p : Addr} {u : Value} (h : Out S w w') (hp : w.heap.size ≤ p.block) : Out S w (w'.setCell p u) := h.trans (out_set w' p u) (fun k hk => Or.inr (by rw [show k = p.block from hk]; exact hp))
theorem out_setIn {S : Nat → Prop} {w w' : World} {p : Addr} {u : Value} (h : Out S w w') (hp : S p.block) : Out S w (w'.setCell p u) := h.trans (out_set w' p u) (fun k hk => Or.inl (by rw [show k = p.block from hk]; exact hp))
end Go.Proofs.YtjdkagafdnchhaaGreatDoor

/-
  Small laws on blocks of memory, and what becomes of a book's slots: both in one text.
-/

/-
  An arena of orders in memory, and what Many, find, Get, Set return at a handle whose order is there, over this seat's translation, told by the plain lists of PbSl. Conditions stand in each theorem.
-/
namespace Go.Proofs.YtjdkagafdnchhaaGreatDoor
open Go.RowKit

/-- In w block ab is an arena of at most 'most' orders: its slots, and those of them that are free. -/
structure ArOr (w : World) (ab : Nat) (most : Int) (vs vf : Value) (rs : List Sot) (fr : List Nat) : Prop where
  box : w.heap[ab]? = some (.cells #[.int .i64 most, vs, vf] 221 (0, 0))
  slots : w.ownsRow 0 237 7 vs rs.length (soV rs)
  free : w.ownsRow 0 3 1 vf fr.length (frV fr)
/-- the blocks of an arena -/
def aoB (ab : Nat) (vs vf : Value) (k : Nat) : Prop := k = ab ∨ vs.ownBlock = some k ∨ vf.ownBlock = some k
theorem ArOr.below {w w' : World} {ab : Nat} {most : Int} {vs vf : Value} {rs : List Sot} {fr : List Nat} {B : Nat} (h : ArOr w ab most vs vf rs fr) (hb : Below B w w') (hB : w.heap.size ≤ B) : ArOr w' ab most vs vf rs fr :=
  ⟨blk_below h.box hb hB, owns_below h.slots hb hB, owns_below h.free hb hB⟩
theorem ArOr.out {S : Nat → Prop} {w w' : World} {ab : Nat} {most : Int} {vs vf : Value} {rs : List Sot} {fr : List Nat} (h : ArOr w ab most vs vf rs fr) (hb : Out S w w') (hS : ∀ k, aoB ab vs vf k → ¬ S k) : ArOr w' ab most vs vf rs fr :=
  ⟨blk_out h.box hb (hS ab (Or.inl rfl)), owns_out h.slots hb (fun k hk => hS k (Or.inr (Or.inl hk))), owns_out h.free hb (fun k hk => hS k (Or.inr (Or.inr hk)))⟩
theorem ArOr.lt {w : World} {ab : Nat} {most : Int} {vs vf : Value} {rs : List Sot} {fr : List Nat} (h : ArOr w ab most vs vf rs fr) {k : Nat} (hk : aoB ab vs vf k) : k < w.heap.size := by
  rcases hk with rfl | hk | hk
  · exact lt_of_block h.box
  · exact (h.slots.lt k hk).2
  · exact (h.free.lt k hk).2
/-- one slot's cells -/
theorem ArOr.slot {w : World} {ab : Nat} {most : Int} {vs vf : Value} {rs : List Sot} {fr : List Nat} (h : ArOr w ab most vs vf rs fr) {k : Nat} {o : Ord} {a : Int} {f : Bool} (hk : k < rs.length) (ho : thO (soAt rs k).1 = o) (ha : (soAt rs k).2 = a) (hf : (soAt rs k).1.isSome = f) :
    ∃ g cap, vs = .slice (some ⟨g, 0, none⟩) rs.length cap ∧ w.cell? ⟨g, k * 7, none⟩ = some (.int .i64 o.id) ∧ w.cell? ⟨g, k * 7 + 1, none⟩ = some (.int .i64 o.side) ∧ w.cell? ⟨g, k * 7 + 2, none⟩ = some (.int .i64 o.kind) ∧ w.cell? ⟨g, k * 7 + 3, none⟩ = some (.int .i64 o.price) ∧ w.cell? ⟨g, k * 7 + 4, none⟩ = some (.int .i64 o.qty) ∧ w.cell? ⟨g, k * 7 + 5, none⟩ = some (.int .i64 a) ∧ w.cell? ⟨g, k * 7 + 6, none⟩ = some (.bool f) := by
  subst ho ha hf
  obtain ⟨g, cap, rfl, _, _⟩ := h.slots.form (by omega)
  obtain ⟨h1, h2, h3, h4, h5, h6, h7⟩ := soV_at hk
  exact ⟨g, cap, rfl, (h.slots.cellAt _ (by omega)).trans h1, (h.slots.cellAt _ (by omega)).trans h2, (h.slots.cellAt _ (by omega)).trans h3, (h.slots.cellAt _ (by omega)).trans h4, (h.slots.cellAt _ (by omega)).trans h5, (h.slots.cellAt _ (by omega)).trans h6, (h.slots.cellAt _ (by omega)).trans h7⟩
theorem ArOr.has {w : World} {ab : Nat} {most : Int} {vs vf : Value} {rs : List Sot} {fr : List Nat} (h : ArOr w ab most vs vf rs fr) {k : Nat} {o : Ord} {a : Int} (hk : soAt rs k = (some o, a)) :
    k < rs.length ∧ ∃ g cap, vs = .slice (some ⟨g, 0, none⟩) rs.length cap ∧ w.cell? ⟨g, k * 7, none⟩ = some (.int .i64 o.id) ∧ w.cell? ⟨g, k * 7 + 1, none⟩ = some (.int .i64 o.side) ∧ w.cell? ⟨g, k * 7 + 2, none⟩ = some (.int .i64 o.kind) ∧ w.cell? ⟨g, k * 7 + 3, none⟩ = some (.int .i64 o.price) ∧ w.cell? ⟨g, k * 7 + 4, none⟩ = some (.int .i64 o.qty) ∧ w.cell? ⟨g, k * 7 + 5, none⟩ = some (.int .i64 a) ∧ w.cell? ⟨g, k * 7 + 6, none⟩ = some (.bool true) :=
  ⟨soAt_some hk, h.slot (soAt_some hk) (by rw [hk]; rfl) (by rw [hk]) (by rw [hk]; rfl)⟩

set_option maxHeartbeats 400000 in
theorem oaNew (w : World) : Calls Tryz.prog 86 #[.int .i64 100] w
    fun e w' => e = .returned (.tuple #[.pointer (some ⟨w.heap.size, 0, none⟩), .nilIface]) ∧ w' = w.alloc (.cells #[.int .i64 100, .slice none 0 0, .slice none 0 0] 221) := by
  go_enter Tryz.func86, Tryz.ntmps86
  go_wp2
  go_ret2
  exact ⟨rfl, rfl⟩
theorem oaNew_is (w : World) (most : Int) : ArOr (w.alloc (.cells #[.int .i64 most, .slice none 0 0, .slice none 0 0] 221)) w.heap.size most (.slice none 0 0) (.slice none 0 0) [] [] :=
  ⟨heap_alloc_new w _, World.ownsRow_nil _ _ _ _, World.ownsRow_nil _ _ _ _⟩

set_option maxHeartbeats 400000 in
theorem oaMany (ab : Nat) (most : Int) (vs vf : Value) (rs : List Sot) (fr : List Nat) (c : Int) (w : World) (h : ArOr w ab most vs vf rs fr) (hl : rs.length ≤ 1000000) (hc : (cntO rs : Int) = c) (hs : cntO rs + fr.length = rs.length) :
    Calls Tryz.prog 139 #[.pointer (some ⟨ab, 0, none⟩)] w fun e w' => e = .returned (.int .i64 c) ∧ ∃ n, w' = w.drewN n := by
  have c1 := blk_cell (j := 1) h.box rfl
  have c2 := blk_cell (j := 2) h.box rfl
  obtain ⟨ao, cap, rfl, _, _⟩ := owns_shape h.slots
  obtain ⟨ao', cap', rfl, _, _⟩ := owns_shape h.free
  have HC : Hid (c = (rs.length : Int) - fr.length) := by show _ = _; omega
  have hf : fr.length ≤ rs.length := by omega
  clear h hc hs
  go_enter Tryz.func139, Tryz.ntmps139
  go_wp2_with fail
  go_quiet (fail)
  go_wp2
  go_ret
  exact ⟨by rw [HC.out]; first | rfl | (rw [IntWalk.i64_in _ (by omega)]), ⟨_, rfl⟩⟩

set_option maxRecDepth 4000 in
set_option maxHeartbeats 1000000 in
theorem oaFind (ab : Nat) (most : Int) (vs vf : Value) (rs : List Sot) (fr : List Nat) (k : Nat) (o : Ord) (a : Int) (w : World) (h : ArOr w ab most vs vf rs fr) (hk : soAt rs k = (some o, a)) :
    Calls Tryz.prog 192 #[.pointer (some ⟨ab, 0, none⟩), .agg #[.int .i64 k, .int .i64 a]] w
      fun e w' => Below w.heap.size w w' ∧ ∃ (g cap : Nat), vs = .slice (some ⟨g, 0, none⟩) rs.length cap ∧ e = .returned (.pointer (some ⟨g, k * 7, none⟩)) := by
  have c1 := blk_cell (j := 1) h.box rfl
  have lb : ab < w.heap.size := lt_of_block h.box
  obtain ⟨hk1, g, cap, rfl, _, _, _, _, _, d1, d2⟩ := h.has hk
  have lg : g < w.heap.size := World.block_lt_of_cell? w _ d1
  clear h hk
  have hd : decide ((k : Int) < 0) = false := decide_eq_false (by omega)
  have q1 : (0 : Int) ≤ (k : Int) := by omega
  have q2 : (k : Int) < rs.length := by omega
  have q3 : decide ((rs.length : Int) ≤ (k : Int)) = false := decide_eq_false (by omega)
  go_enter Tryz.func192, Tryz.ntmps192
  go_wp2_with fail
  go_quiet (fail)
  go_wp2_with fail
  go_quiet (fail)
  go_wp2_with fail
  go_quiet (fail)
  go_wp2
  go_ret
  exact ⟨below_drewN (below_drewN (below_drewN (bel1 _ _) _) _) _, g, cap, rfl, rfl⟩

set_option maxRecDepth 4000 in
set_option maxHeartbeats 1000000 in
theorem oaGet (ab : Nat) (most : Int) (vs vf : Value) (rs : List Sot) (fr : List Nat) (k : Nat) (o : Ord) (a : Int) (w : World) (h : ArOr w ab most vs vf rs fr) (hk : soAt rs k = (some o, a)) :
    Calls Tryz.prog 152 #[.pointer (some ⟨ab, 0, none⟩), .agg #[.int .i64 k, .int .i64 a]] w
      fun e w' => Below w.heap.size w w' ∧ e = .returned (.tuple #[o.agg, .nilIface]) := by
  have HA : Hid (ArOr w ab most vs vf rs fr) := h
  have HK : Hid (soAt rs k = (some o, a)) := hk
  clear h hk
  go_enter Tryz.func152, Tryz.ntmps152
  go_wp2_with fail
  refine (oaFind ab most vs vf rs fr k o a _ (HA.out.below (bel2 _ _ _) (Nat.le_refl _)) HK.out).mono ?_
  rintro e w1 ⟨hb, g, cap, rfl, rfl⟩
  have hx := (hb.block (w.heap.size + 1) (by simp)).trans (two_new w _ _)
  have x0 := blk_cell (j := 0) hx rfl
  have x1 := blk_cell (j := 1) hx rfl
  have x2 := blk_cell (j := 2) hx rfl
  have x3 := blk_cell (j := 3) hx rfl
  have x4 := blk_cell (j := 4) hx rfl
  have y0 := blk_free (j := 0) hx
  have y1 := blk_free (j := 1) hx
  have y2 := blk_free (j := 2) hx
  have y3 := blk_free (j := 3) hx
  have y4 := blk_free (j := 4) hx
  have HB : Hid (Below w.heap.size w w1) := bel_then (bel2 w _ _) hb
  obtain ⟨hk1, g', cap', hv, d0, d1, d2, d3, d4, _, _⟩ := (HA.out.below HB.out (Nat.le_refl _)).has HK.out
  simp only [Value.slice.injEq, Option.some.injEq, Addr.mk.injEq, and_true, true_and] at hv
  obtain ⟨rfl, rfl⟩ := hv
  have hne : g ≠ w.heap.size + 1 := fun e => owns_type (HA.out.below HB.out (Nat.le_refl _)).slots hx (by decide) (by rw [e]; rfl)
  clear hb hx
  go_wp2
  refine bodyPost_ret (by simp [results, Tryz.results152, go_sem, x0, x1, x2, x3, x4]; try rfl) rfl ?_
  refine ⟨?_, rfl⟩
  have s : Below w.heap.size w1 w1 := Below.refl _ _
  exact HB.out.trans (((((s.setCell (p := ⟨w.heap.size + 1, 0, none⟩) (by simp) _).setCell (p := ⟨w.heap.size + 1, 1, none⟩) (by simp) _).setCell (p := ⟨w.heap.size + 1, 2, none⟩) (by simp) _).setCell (p := ⟨w.heap.size + 1, 3, none⟩) (by simp) _).setCell (p := ⟨w.heap.size + 1, 4, none⟩) (by simp) _)
end Go.Proofs.YtjdkagafdnchhaaGreatDoor
