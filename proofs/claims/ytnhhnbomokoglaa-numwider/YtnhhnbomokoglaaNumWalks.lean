/-
  What package num's functions and the law's small helpers return when they are called: within, prices, Band (where price and share may be), pick, banded; conditions stand in each theorem. Used by the proof of NumWider.
-/
import Derived.Test.YtnhhnbomokoglaaRows
import Derived.WalkKit
import Derived.WalkSpells
import Derived.WalkLawsBesides
import Derived.Handy
namespace Go.Proofs.Ytnhhnbomokoglaa
open Go.RowKit

def allIn (lo hi : Int) : List Int → Bool
  | [] => true
  | z :: r => decide (lo ≤ z) && decide (z ≤ hi) && allIn lo hi r

theorem allIn_drop (lo hi : Int) (zs : List Int) (k : Nat) (h : k < zs.length) :
    allIn lo hi (zs.drop k) = (decide (lo ≤ zs[k]?.getD 0) && decide (zs[k]?.getD 0 ≤ hi) && allIn lo hi (zs.drop (k + 1))) := by
  rw [List.drop_eq_getElem_cons h]
  simp [allIn, List.getElem?_eq_getElem h]

theorem allIn_step (lo hi : Int) (zs : List Int) (k : Nat) (h : k < zs.length) (h1 : lo ≤ zs[k]) (h2 : zs[k] ≤ hi) : allIn lo hi (zs.drop (k + 1)) = allIn lo hi (zs.drop k) := by
  rw [List.drop_eq_getElem_cons h]; simp [allIn, h1, h2]

theorem allIn_stop (lo hi : Int) (zs : List Int) (k : Nat) (h : k < zs.length) (h1 : zs[k] < lo ∨ hi < zs[k]) : allIn lo hi (zs.drop k) = false := by
  rw [List.drop_eq_getElem_cons h]
  simp only [allIn]
  rcases h1 with h1 | h1
  · rw [decide_eq_false (by omega : ¬ lo ≤ zs[k])]; rfl
  · rw [decide_eq_false (by omega : ¬ zs[k] ≤ hi)]; simp

theorem allIn_end (lo hi : Int) (zs : List Int) (k : Nat) (h : ¬ k < zs.length) : allIn lo hi (zs.drop k) = true := by
  rw [List.drop_eq_nil_of_le (by omega)]; rfl

theorem ret_bool {a b : Bool} (h : a = b) : Ending.returned (.bool a) = .returned (.bool b) := by rw [h]

set_option maxHeartbeats 400000 in
theorem within_any (lo hi : Int) (b : Nat) (zs : List Int) (w : World) (hbig : zs.length ≤ 1000)
    (hc : ∀ j, j < zs.length → w.cell? ⟨b, j, none⟩ = some (.int .i64 (zs.getD j 0))) :
    Calls Try.prog 17 #[.int .i64 lo, .int .i64 hi, .slice (some ⟨b, 0, none⟩) zs.length zs.length] w fun e w' => e = .returned (.bool (allIn lo hi zs)) ∧ w' = w := by
  go_enter Try.func17, Try.ntmps17
  go_wp2
  go_loop [8, 11] (fun _ i => ∃ k : Nat, k ≤ zs.length ∧ i = .int .i64 k ∧ allIn lo hi (zs.drop k) = allIn lo hi zs) (fun _ i => zs.length - (intOf i).toNat)
  case atStart => exact ⟨0, Nat.zero_le _, rfl, rfl⟩
  case round =>
    obtain ⟨k, hk, rfl, hq⟩ := hrel
    have HQ : Hid (allIn lo hi (zs.drop k) = allIn lo hi zs) := hq
    clear hq
    have hcell : k < zs.length → w.cell? ⟨b, k, none⟩ = some (.int .i64 (zs.getD k 0)) := fun h => hc k h
    go_wp2
    · go_ret
      exact ⟨ret_bool (by rw [← HQ.out]; exact (allIn_stop lo hi zs k (by assumption) (by assumption)).symm), rfl⟩
    · go_round
      case rel => exact ⟨k + 1, by omega, by go_num, by rw [← HQ.out]; exact allIn_step lo hi zs k (by assumption) (by omega) (by omega)⟩
      case measure => simp [intOf]; omega
    · go_ret
      exact ⟨ret_bool (by rw [← HQ.out]; exact (allIn_stop lo hi zs k (by assumption) (Or.inl (by assumption))).symm), rfl⟩
    · go_ret
      exact ⟨ret_bool (by rw [← HQ.out]; exact (allIn_end lo hi zs k (by assumption)).symm), rfl⟩

set_option maxHeartbeats 400000 in
theorem prices_any (b : Nat) (zs : List Int) (w : World) (hbig : zs.length ≤ 1000)
    (hc : ∀ j, j < zs.length → w.cell? ⟨b, j, none⟩ = some (.int .i64 (zs.getD j 0))) :
    Calls Try.prog 16 #[.slice (some ⟨b, 0, none⟩) zs.length zs.length] w fun e w' => e = .returned (.bool (allIn 1 1000000 zs)) ∧ w' = w := by
  go_enter Try.func16, Try.ntmps16
  go_wp2_with (go_at_call 17; refine (within_any _ _ _ zs _ hbig hc).mono ?_; rintro e w' ⟨rfl, rfl⟩)
  go_ret
  exact ⟨rfl, rfl⟩

theorem within_one (lo hi z : Int) (b : Nat) (w : World) (hc : w.cell? ⟨b, 0, none⟩ = some (.int .i64 z)) :
    Calls Try.prog 17 #[.int .i64 lo, .int .i64 hi, .slice (some ⟨b, 0, none⟩) 1 1] w fun e w' => e = .returned (.bool (allIn lo hi [z])) ∧ w' = w :=
  within_any lo hi b [z] w (by simp) (fun j hj => by
    have : j = 0 := by simp at hj; exact hj
    subst this; exact hc)

theorem prices_one (z : Int) (b : Nat) (w : World) (hc : w.cell? ⟨b, 0, none⟩ = some (.int .i64 z)) :
    Calls Try.prog 16 #[.slice (some ⟨b, 0, none⟩) 1 1] w fun e w' => e = .returned (.bool (allIn 1 1000000 [z])) ∧ w' = w :=
  prices_any b [z] w (by simp) (fun j hj => by
    have : j = 0 := by simp at hj; exact hj
    subst this; exact hc)

theorem allIn_yes {lo hi z : Int} (h1 : lo ≤ z) (h2 : z ≤ hi) : allIn lo hi [z] = true := by simp [allIn, h1, h2]
theorem allIn_no {lo hi z : Int} (h : z < lo ∨ hi < z) : allIn lo hi [z] = false := by
  simp only [allIn]
  rcases h with h | h
  · rw [decide_eq_false (by omega : ¬ lo ≤ z)]; rfl
  · rw [decide_eq_false (by omega : ¬ z ≤ hi)]; simp

theorem mul_bound {p s : Int} (hp : 1 ≤ p ∧ p ≤ 1000000) (hs : 0 ≤ s ∧ s ≤ 10000) : 0 ≤ p * s ∧ p * s ≤ 10000000000 := by
  have h1 : 0 ≤ p * s := Int.mul_nonneg (by omega) hs.1
  have h2 : p * s ≤ 1000000 * 10000 := Int.mul_le_mul hp.2 hs.2 hs.1 (by omega)
  exact ⟨h1, by omega⟩

theorem ret_band {a b c d : Int} (h1 : a = c) (h2 : b = d) : Ending.returned (.tuple #[.int .i64 a, .int .i64 b, .nilIface]) = .returned (.tuple #[.int .i64 c, .int .i64 d, .nilIface]) := by rw [h1, h2]

set_option maxHeartbeats 400000 in
theorem band_ok (p s : Int) (w : World) (hp : 1 ≤ p ∧ p ≤ 1000000) (hs : 0 ≤ s ∧ s ≤ 10000) :
    Calls Try.prog 8 #[.int .i64 p, .int .i64 s] w fun e w' => e = .returned (.tuple #[.int .i64 (max 1 (p - p * s / 10000)), .int .i64 (min 1000000 (p + p * s / 10000)), .nilIface]) ∧ Grown w w' := by
  have hm := mul_bound hp hs
  go_enter Try.func8, Try.ntmps8
  go_wp2_with fail
  refine (prices_one p _ _ (by simp [go_sem])).mono ?_
  rintro e w' ⟨rfl, rfl⟩
  rw [allIn_yes hp.1 hp.2]
  go_wp2_with fail
  refine (within_one 0 10000 s _ _ (by simp [go_sem])).mono ?_
  rintro e w' ⟨rfl, rfl⟩
  rw [allIn_yes hs.1 hs.2]
  go_wp2_with fail
  all_goals
    go_ret3
    exact ⟨ret_band (by omega) (by omega), by go_grown⟩

set_option maxHeartbeats 400000 in
theorem banded_yes (w : World) : Calls Try.prog 6 #[] w fun e w' => e = .returned (.bool true) ∧ Grown w w' := by
  go_enter Try.func6, Try.ntmps6
  go_wp2_with fail
  refine (band_ok 50 1000 _ (by omega) (by omega)).mono ?_
  rintro e w' ⟨rfl, hg⟩
  go_wp2_with fail
  go_ret
  exact ⟨rfl, hg⟩

theorem pick_in (a n : Int) (hn : 1 ≤ n ∧ n ≤ 1000000) : 0 ≤ wrap64 ((IntKind.u64.wrap a).tmod n) ∧ wrap64 ((IntKind.u64.wrap a).tmod n) < n := by
  have h0 : 0 ≤ IntKind.u64.wrap a := by rw [IntKind.wrap_u64]; omega
  have h1 := Int.tmod_nonneg n h0
  have h2 := Int.tmod_lt_of_pos (IntKind.u64.wrap a) (by omega : 0 < n)
  rw [IntWalk.wrap64_in ((IntKind.u64.wrap a).tmod n) (by omega)]
  exact ⟨h1, h2⟩

set_option maxHeartbeats 400000 in
theorem pick_any (a n : Int) (w : World) (hn : 1 ≤ n ∧ n ≤ 1000000) : Calls Try.prog 7 #[.int .i64 a, .int .i64 n] w fun e w' => (∃ r : Int, 0 ≤ r ∧ r < n ∧ e = .returned (.int .i64 r)) ∧ w' = w := by
  go_enter Try.func7, Try.ntmps7
  go_wp2_with fail
  go_ret
  exact ⟨⟨_, (pick_in a n hn).1, (pick_in a n hn).2, rfl⟩, rfl⟩

theorem grown_trans {a b c : World} (h1 : Grown a b) (h2 : Grown b c) : Grown a c :=
  ⟨World.keptBut_trans h1.1 h2.1, fun x => (h2.2.1 x).trans (h1.2.1 x), Nat.le_trans h1.2.2 h2.2.2⟩

theorem band_named (p s : Int) (w : World) (hp : 1 ≤ p ∧ p ≤ 1000000) (hs : 0 ≤ s ∧ s ≤ 10000) :
    Calls Try.prog 8 #[.int .i64 p, .int .i64 s] w fun e w' => ∃ l h : Int, e = .returned (.tuple #[.int .i64 l, .int .i64 h, .nilIface]) ∧ Hid (l = max 1 (p - p * s / 10000)) ∧ Hid (h = min 1000000 (p + p * s / 10000)) ∧ Grown w w' :=
  (band_ok p s w hp hs).mono fun _ _ ⟨he, hg⟩ => ⟨_, _, he, rfl, rfl, hg⟩

/-- A greater share is a wider band: the plain arithmetic. -/
theorem wider {p s t l h lo hi : Int} (hp : 1 ≤ p ∧ p ≤ 1000000) (hs : 0 ≤ s) (hst : s ≤ t) (ht : t ≤ 10000)
    (el : Hid (l = max 1 (p - p * s / 10000))) (eh : Hid (h = min 1000000 (p + p * s / 10000))) (elo : Hid (lo = max 1 (p - p * t / 10000))) (ehi : Hid (hi = min 1000000 (p + p * t / 10000))) :
    lo ≤ l ∧ l ≤ p ∧ p ≤ h ∧ h ≤ hi ∧ 1 ≤ lo ∧ hi ≤ 1000000 := by
  have h1 := mul_bound hp ⟨hs, by omega⟩
  have h2 : p * s ≤ p * t := Int.mul_le_mul_of_nonneg_left hst (by omega)
  have e1 := el.out
  have e2 := eh.out
  have e3 := elo.out
  have e4 := ehi.out
  omega
end Go.Proofs.Ytnhhnbomokoglaa
