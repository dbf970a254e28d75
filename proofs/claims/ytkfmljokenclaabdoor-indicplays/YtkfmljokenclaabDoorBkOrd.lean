/-
  Orders as plain records, and how lists of them lie in memory. Conditions stand in each theorem.
-/
import Derived.Test.YtkfmljokenclaabDoorRows
import Derived.WalkKit
import Derived.WalkSpells
import Derived.WalkLawsBesides
import Derived.Handy
import Derived.BigQuiet
import Derived.OwnWalk
import Derived.OneCell
import Derived.Deep.QuietTactic
import Derived.Deep.AppendLies
namespace Go.Proofs.YtkfmljokenclaabDoor
open Go.RowKit

structure Ord where
  id : Int
  side : Int
  kind : Int
  price : Int
  qty : Int
def Ord.vals (o : Ord) : List Value := [.int .i64 o.id, .int .i64 o.side, .int .i64 o.kind, .int .i64 o.price, .int .i64 o.qty]
def Ord.none_ : Ord := ⟨0, 0, 0, 0, 0⟩
def Ord.agg (o : Ord) : Value := .agg #[.int .i64 o.id, .int .i64 o.side, .int .i64 o.kind, .int .i64 o.price, .int .i64 o.qty]
def oV : List Ord → List Value
  | [] => []
  | o :: l => .int .i64 o.id :: .int .i64 o.side :: .int .i64 o.kind :: .int .i64 o.price :: .int .i64 o.qty :: oV l
def oAt (l : List Ord) (k : Nat) : Ord := l.getD k Ord.none_
theorem oV_length (l : List Ord) : (oV l).length = l.length * 5 := by
  induction l with
  | nil => rfl
  | cons o l ih => simp [oV, ih]; omega
theorem oV_append (a b : List Ord) : oV (a ++ b) = oV a ++ oV b := by
  induction a with
  | nil => rfl
  | cons o a ih => simp [oV, ih]
theorem oV_one (l : List Ord) : ∀ u ∈ oV l, u.oneCell' = true := by
  induction l with
  | nil => simp [oV]
  | cons o l ih =>
    intro u hu
    simp only [oV, List.mem_cons] at hu
    rcases hu with rfl | rfl | rfl | rfl | rfl | hu
    · rfl
    · rfl
    · rfl
    · rfl
    · rfl
    · exact ih u hu
theorem oV_at {l : List Ord} {k : Nat} (h : k < l.length) : (oV l)[k * 5]? = some (.int .i64 (oAt l k).id) ∧ (oV l)[k * 5 + 1]? = some (.int .i64 (oAt l k).side) ∧ (oV l)[k * 5 + 2]? = some (.int .i64 (oAt l k).kind) ∧ (oV l)[k * 5 + 3]? = some (.int .i64 (oAt l k).price) ∧ (oV l)[k * 5 + 4]? = some (.int .i64 (oAt l k).qty) := by
  induction l generalizing k with
  | nil => simp at h
  | cons o l ih =>
    cases k with
    | zero => exact ⟨rfl, rfl, rfl, rfl, rfl⟩
    | succ k =>
      have := ih (k := k) (by simpa using h)
      rw [show (k + 1) * 5 = k * 5 + 1 + 1 + 1 + 1 + 1 by omega]
      have e : oAt (o :: l) (k + 1) = oAt l k := by simp [oAt]
      rw [e]
      simpa [oV] using this
theorem oAt_push {l : List Ord} {k : Nat} (o : Ord) (h : k < l.length) : oAt (l ++ [o]) k = oAt l k := by simp [oAt, List.getElem?_append, h]
theorem oAt_eq {l : List Ord} {k : Nat} (h : k < l.length) : oAt l k = l[k] := by simp [oAt, h]

/-- the number of the first order of that Id from place i on, or -1 -/
def idxF (id : Int) : Nat → List Ord → Int
  | _, [] => -1
  | i, o :: l => if o.id = id then (i : Int) else idxF id (i + 1) l
def idxO (id : Int) (l : List Ord) : Int := idxF id 0 l
theorem idxF_step {id : Int} {l : List Ord} {k : Nat} (h : k < l.length) (hx : ¬ (oAt l k).id = id) : idxF id (k + 1) (l.drop (k + 1)) = idxF id k (l.drop k) := by
  rw [List.drop_eq_getElem_cons h]
  unfold idxF
  rw [if_neg (by rw [← oAt_eq h]; exact hx)]
  cases l.drop (k + 1) <;> rfl
theorem idxF_hit {id : Int} {l : List Ord} {k : Nat} (h : k < l.length) (hx : (oAt l k).id = id) : idxF id k (l.drop k) = k := by
  rw [List.drop_eq_getElem_cons h]
  unfold idxF
  rw [if_pos (by rw [← oAt_eq h]; exact hx)]
theorem idxF_end {id : Int} {l : List Ord} {k : Nat} (h : l.length ≤ k) : idxF id k (l.drop k) = -1 := by
  rw [List.drop_eq_nil_of_le h]; rfl
theorem idxF_in (id : Int) : ∀ (l : List Ord) (i : Nat), idxF id i l = -1 ∨ ∃ k, k < l.length ∧ idxF id i l = ((i + k : Nat) : Int) ∧ (oAt l k).id = id
  | [], _ => Or.inl rfl
  | o :: l, i => by
    by_cases e : o.id = id
    · right; refine ⟨0, by simp, ?_, e⟩
      unfold idxF; rw [if_pos e]; simp
    · have hs : idxF id i (o :: l) = idxF id (i + 1) l := by
        show (if o.id = id then (i : Int) else idxF id (i + 1) l) = _
        rw [if_neg e]
      rw [hs]
      rcases idxF_in id l (i + 1) with h | ⟨k, hk, h, h'⟩
      · exact Or.inl h
      · right; refine ⟨k + 1, by simpa using hk, by rw [h]; congr 1; omega, ?_⟩
        have : oAt (o :: l) (k + 1) = oAt l k := by simp [oAt]
        rw [this]; exact h'

theorem bk_below {w w' : World} {base : Nat} {e : TypeId} {size : Nat} {v : Value} {n B : Nat} {xs : List Value} (h : w.ownsRow base e size v n xs) (hb : Below B w w') (hB : w.heap.size ≤ B) : w'.ownsRow base e size v n xs := by
  refine ⟨h.1, ?_⟩
  rcases h.2 with hn | ⟨g, cap, cur, rfl, hg, hh, r⟩
  · exact .inl hn
  · exact .inr ⟨g, cap, cur, rfl, hg, (hb.block g (Nat.lt_of_lt_of_le (lt_of_block hh) hB)).trans hh, r⟩
theorem bk_shape {w : World} {base : Nat} {e : TypeId} {size : Nat} {v : Value} {n : Nat} {xs : List Value} (h : w.ownsRow base e size v n xs) : ∃ (ao : Option Addr) (cap : Nat), v = .slice ao n cap ∧ n ≤ cap ∧ cap ≤ maxLen := by
  rcases h.2 with ⟨rfl, rfl⟩ | ⟨g, cap, cur, rfl, _, _, h1, h2, _⟩
  · exact ⟨none, 0, rfl, Nat.le_refl _, Nat.zero_le _⟩
  · exact ⟨some ⟨g, 0, none⟩, cap, rfl, h1, h2⟩
/-- one order's cells -/
theorem row_order {w : World} {base : Nat} {v : Value} {l : List Ord} (h : w.ownsRow base 30 5 v l.length (oV l)) {k : Nat} (hk : k < l.length) :
    ∃ g cap, v = .slice (some ⟨g, 0, none⟩) l.length cap ∧ w.cell? ⟨g, k * 5, none⟩ = some (.int .i64 (oAt l k).id) ∧ w.cell? ⟨g, k * 5 + 1, none⟩ = some (.int .i64 (oAt l k).side) ∧ w.cell? ⟨g, k * 5 + 2, none⟩ = some (.int .i64 (oAt l k).kind) ∧ w.cell? ⟨g, k * 5 + 3, none⟩ = some (.int .i64 (oAt l k).price) ∧ w.cell? ⟨g, k * 5 + 4, none⟩ = some (.int .i64 (oAt l k).qty) := by
  obtain ⟨g, cap, rfl, _, _⟩ := h.form (by omega)
  obtain ⟨h1, h2, h3, h4, h5⟩ := oV_at hk
  exact ⟨g, cap, rfl, (h.cellAt _ (by omega)).trans h1, (h.cellAt _ (by omega)).trans h2, (h.cellAt _ (by omega)).trans h3, (h.cellAt _ (by omega)).trans h4, (h.cellAt _ (by omega)).trans h5⟩
end Go.Proofs.YtkfmljokenclaabDoor
