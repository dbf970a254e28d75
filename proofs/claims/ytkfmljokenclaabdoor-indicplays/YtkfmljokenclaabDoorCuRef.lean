/-
  What the document's 'in', its Curve's own test, and its loops over orders return, over this seat's translation. Conditions stand in each theorem.
-/
import Derived.Test.YtkfmljokenclaabDoorCuIn
import Derived.Test.YtkfmljokenclaabDoorCuSort
namespace Go.Proofs.YtkfmljokenclaabDoor
open Go.RowKit

theorem Tryd.infoPt : (Tryd.prog.info? 63).map (fun i => (i.zero, i.size, i.bytes)) = some (some (.agg #[.int .i64 0, .int .i64 0, .int .i64 0]), 3, 24) := by kernel_rfl

set_option maxHeartbeats 400000 in
theorem cuIn (n lo hi : Int) (w : World) :
    Calls Tryd.prog 13 #[.int .i64 n, .int .i64 lo, .int .i64 hi] w fun e w' => e = .returned (.bool (inC lo hi n)) ∧ w' = w := by
  go_enter Tryd.func13, Tryd.ntmps13
  go_wp2
  all_goals
    go_ret
    refine ⟨?_, rfl⟩
    have e : ∀ {a b : Bool}, a = b → Ending.returned (.bool a) = .returned (.bool b) := fun h => by rw [h]
    exact e (by unfold inC; first | (simp [*]; done) | (simp [*]; omega))

set_option maxHeartbeats 400000 in
theorem cuOk (o : Ord) (w : World) :
    Calls Tryd.prog 21 #[.agg #[.int .i64 o.id, .int .i64 o.side, .int .i64 o.kind, .int .i64 o.price, .int .i64 o.qty]] w fun e w' => e = .returned (.bool (okO o)) ∧ Below w.heap.size w w' := by
  go_enter Tryd.func21, Tryd.ntmps21
  go_wp2_with fail
  refine (cuIn _ _ _ _).mono ?_
  rintro e w1 ⟨rfl, hw⟩
  subst hw
  cases h : inC 1 2 o.side with
  | false =>
    have HO : Hid (okO o = false) := by unfold okO; rw [h]; rfl
    clear h
    go_wp2_with fail
    go_ret
    exact ⟨by rw [HO.out]; rfl, cu_bel1 w _⟩
  | true =>
    have HO : Hid (okO o = inC 1 1000000 o.qty) := by unfold okO; rw [h]; rfl
    clear h
    go_wp2_with fail
    refine (cuIn _ _ _ _).mono ?_
    rintro e w1 ⟨rfl, hw⟩
    subst hw
    go_wp2_with fail
    go_ret
    exact ⟨by rw [HO.out]; rfl, cu_bel1 w _⟩
/-- sort.Ints, at a row that the call owns -/
theorem cuSort {base : Nat} {v : Value} {xs : List Int} {w : World} (h : w.ownsRow base 3 1 v xs.length (ints xs)) (hl : xs.length ≤ 100000) :
    Calls Tryd.prog 22 #[v] w fun e w' => e = .returned (.tuple #[]) ∧ w'.ownsRow base 3 1 v xs.length (ints (sortI xs)) ∧ w.grownBy w' v.ownBlock := by
  rcases h.2 with ⟨rfl, hx⟩ | ⟨g, cap, cur, rfl, hg, hh, h1, h2, h3, h4⟩
  · have e0 : xs = [] := by
      cases xs with
      | nil => rfl
      | cons x xs => cases hx
    subst e0
    refine (sort_Ints_none none 0 w).mono fun e w' ⟨he, hw⟩ => ⟨he, ?_, ?_⟩
    · rw [hw, show ints (sortI []) = [] by simp [sortI, ints]]; exact World.ownsRow_nil _ _ _ _
    · rw [hw]; exact ⟨rfl, rfl, rfl, Nat.le_refl _, fun _ _ _ => rfl⟩
  · have ht : cur.toList.take xs.length = xs.map (Value.int .i64) := by simpa [ints] using h4
    refine (sort_Ints g 0 cap xs w (holds_of_blockI hh ht) (lt_of_block hh) (by omega)).mono fun e w' ⟨he, n, os, hw⟩ => ⟨he, ?_, ?_⟩
    · rw [hw]
      exact ownsRow_sortedI (ts := sortI xs) (sortI_length xs) hg hh h1 h2 h3
    · rw [hw]
      exact grownBy_sortedI _
end Go.Proofs.YtkfmljokenclaabDoor
