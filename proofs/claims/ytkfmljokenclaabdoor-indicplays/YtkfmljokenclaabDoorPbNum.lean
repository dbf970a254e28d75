/-
  What num.Right returns, over this seat's translation. Conditions stand in each theorem.
-/
import Derived.Test.YtkfmljokenclaabDoorBlk
namespace Go.Proofs.YtkfmljokenclaabDoor
open Go.RowKit
def inB (lo hi z : Int) : Bool := decide (lo ≤ z) && decide (z ≤ hi)
def allIn (lo hi : Int) : List Int → Bool
  | [] => true
  | z :: r => inB lo hi z && allIn lo hi r
theorem inB_true {lo hi z : Int} (h : inB lo hi z = true) : lo ≤ z ∧ z ≤ hi := by
  unfold inB at h; simpa using h
theorem inB_false {lo hi z : Int} (h : inB lo hi z = false) : z < lo ∨ hi < z := by
  unfold inB at h
  by_cases h1 : lo ≤ z
  · by_cases h2 : z ≤ hi
    · simp [h1, h2] at h
    · exact Or.inr (by omega)
  · exact Or.inl (by omega)
theorem inB_yes {lo hi z : Int} (h : lo ≤ z ∧ z ≤ hi) : inB lo hi z = true := by unfold inB; simp [h.1, h.2]
theorem inB_no {lo hi z : Int} (h : z < lo ∨ hi < z) : inB lo hi z = false := by
  cases e : inB lo hi z with
  | false => rfl
  | true => have := inB_true e; omega
theorem allIn_one (lo hi z : Int) : allIn lo hi [z] = inB lo hi z := by simp [allIn]
theorem allIn_two (lo hi z y : Int) : allIn lo hi [z, y] = (inB lo hi z && inB lo hi y) := by simp [allIn]
theorem allIn_step (lo hi : Int) (zs : List Int) (k : Nat) (h : k < zs.length) (h1 : lo ≤ zs[k]) (h2 : zs[k] ≤ hi) : allIn lo hi (zs.drop (k + 1)) = allIn lo hi (zs.drop k) := by
  rw [List.drop_eq_getElem_cons h]; simp [allIn, inB, h1, h2]
theorem allIn_stop (lo hi : Int) (zs : List Int) (k : Nat) (h : k < zs.length) (h1 : zs[k] < lo ∨ hi < zs[k]) : allIn lo hi (zs.drop k) = false := by
  rw [List.drop_eq_getElem_cons h]; simp only [allIn]; rw [inB_no h1]; rfl
theorem allIn_end (lo hi : Int) (zs : List Int) (k : Nat) (h : ¬ k < zs.length) : allIn lo hi (zs.drop k) = true := by
  rw [List.drop_eq_nil_of_le (by omega)]; rfl
theorem ret_bool {a b : Bool} (h : a = b) : Ending.returned (.bool a) = .returned (.bool b) := by rw [h]
def rightB (p q : Int) : Bool := inB 1 1000000 p && inB 1 1000000 q

set_option maxHeartbeats 400000 in
theorem within_any (lo hi : Int) (b : Nat) (zs : List Int) (w : World) (hbig : zs.length ≤ 1000)
    (hc : ∀ j, j < zs.length → w.cell? ⟨b, j, none⟩ = some (.int .i64 (zs.getD j 0))) :
    Calls Tryd.prog 45 #[.int .i64 lo, .int .i64 hi, .slice (some ⟨b, 0, none⟩) zs.length zs.length] w fun e w' => e = .returned (.bool (allIn lo hi zs)) ∧ w' = w := by
  go_enter Tryd.func45, Tryd.ntmps45
  go_wp2
  go_loop [8, 11] (fun _ i => ∃ k : Nat, k ≤ zs.length ∧ i = .int .i64 k ∧ allIn lo hi (zs.drop k) = allIn lo hi zs) (fun _ i => zs.length - (intOf i).toNat)
  case atStart => exact ⟨0, Nat.zero_le _, rfl, rfl⟩
  case round =>
    obtain ⟨k, hk, rfl, hq⟩ := hrel
    have HQ : Hid (allIn lo hi (zs.drop k) = allIn lo hi zs) := hq
    clear hq
    have hcell : k < zs.length → w.cell? ⟨b, k, none⟩ = some (.int .i64 (zs.getD k 0)) := fun h => hc k h
    go_wp2
    · go_ret
      exact ⟨ret_bool (by rw [← HQ.out]; exact (allIn_stop lo hi zs k (by assumption) (by assumption)).symm), rfl⟩
    · go_round
      case rel => exact ⟨k + 1, by omega, by go_num, by rw [← HQ.out]; exact allIn_step lo hi zs k (by assumption) (by omega) (by omega)⟩
      case measure => simp [intOf]; omega
    · go_ret
      exact ⟨ret_bool (by rw [← HQ.out]; exact (allIn_stop lo hi zs k (by assumption) (Or.inl (by assumption))).symm), rfl⟩
    · go_ret
      exact ⟨ret_bool (by rw [← HQ.out]; exact (allIn_end lo hi zs k (by assumption)).symm), rfl⟩

set_option maxHeartbeats 400000 in
theorem prices_any (b : Nat) (zs : List Int) (w : World) (hbig : zs.length ≤ 1000)
    (hc : ∀ j, j < zs.length → w.cell? ⟨b, j, none⟩ = some (.int .i64 (zs.getD j 0))) :
    Calls Tryd.prog 44 #[.slice (some ⟨b, 0, none⟩) zs.length zs.length] w fun e w' => e = .returned (.bool (allIn 1 1000000 zs)) ∧ w' = w := by
  go_enter Tryd.func44, Tryd.ntmps44
  go_wp2_with fail
  refine (within_any _ _ _ zs _ hbig hc).mono ?_
  rintro e w' ⟨rfl, rfl⟩
  go_wp2
  go_ret
  exact ⟨rfl, rfl⟩

theorem within_one (lo hi z : Int) (b : Nat) (w : World) (hc : w.cell? ⟨b, 0, none⟩ = some (.int .i64 z)) :
    Calls Tryd.prog 45 #[.int .i64 lo, .int .i64 hi, .slice (some ⟨b, 0, none⟩) 1 1] w fun e w' => e = .returned (.bool (inB lo hi z)) ∧ w' = w := by
  rw [← allIn_one]
  exact within_any lo hi b [z] w (by simp) (fun j hj => by
    have : j = 0 := by simp at hj; exact hj
    subst this; exact hc)
theorem prices_one (z : Int) (b : Nat) (w : World) (hc : w.cell? ⟨b, 0, none⟩ = some (.int .i64 z)) :
    Calls Tryd.prog 44 #[.slice (some ⟨b, 0, none⟩) 1 1] w fun e w' => e = .returned (.bool (inB 1 1000000 z)) ∧ w' = w := by
  rw [← allIn_one]
  exact prices_any b [z] w (by simp) (fun j hj => by
    have : j = 0 := by simp at hj; exact hj
    subst this; exact hc)

set_option maxHeartbeats 400000 in
/-- num.Right, whatever the two are. -/
theorem Right_any (p q : Int) (w : World) :
    Calls Tryd.prog 27 #[.int .i64 p, .int .i64 q] w fun e w' => e = .returned (.bool (rightB p q)) ∧ Below w.heap.size w w' := by
  cases hp : inB 1 1000000 p with
  | false =>
    have HR : Hid (rightB p q = false) := by unfold rightB; rw [hp]; rfl
    have HP : Hid (inB 1 1000000 p = false) := hp
    clear hp
    go_enter Tryd.func27, Tryd.ntmps27
    go_wp2_with fail
    refine (prices_one p _ _ (by simp [go_sem])).mono ?_
    rintro e w' ⟨rfl, rfl⟩
    rw [HP.out]
    go_wp2_with fail
    go_ret
    exact ⟨by rw [HR.out]; rfl, by go_grown⟩
  | true =>
    have HR : Hid (rightB p q = inB 1 1000000 q) := by unfold rightB; rw [hp]; rfl
    have HP : Hid (inB 1 1000000 p = true) := hp
    clear hp
    go_enter Tryd.func27, Tryd.ntmps27
    go_wp2_with fail
    refine (prices_one p _ _ (by simp [go_sem])).mono ?_
    rintro e w' ⟨rfl, rfl⟩
    rw [HP.out]
    go_wp2_with fail
    refine (within_one 1 1000000 q _ _ (by simp [go_sem])).mono ?_
    rintro e w' ⟨rfl, rfl⟩
    go_wp2_with fail
    go_ret
    exact ⟨by rw [HR.out]; rfl, by go_grown⟩
end Go.Proofs.YtkfmljokenclaabDoor
