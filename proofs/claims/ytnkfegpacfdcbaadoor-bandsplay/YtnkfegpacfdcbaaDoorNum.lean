/-
  What package num's functions and the document's own Band, Right and 'in' return, over this seat's translation, at every argument that an int can be: both are told by the same plain functions bandL, bandH, bandE, midV, midE, rightB. Conditions stand in each theorem.
-/
import Derived.Test.YtnkfegpacfdcbaaDoorErr
namespace Go.Proofs.YtnkfegpacfdcbaaDoor
open Go.RowKit

def inB (lo hi z : Int) : Bool := decide (lo ≤ z) && decide (z ≤ hi)
def allIn (lo hi : Int) : List Int → Bool
  | [] => true
  | z :: r => inB lo hi z && allIn lo hi r
theorem inB_true {lo hi z : Int} (h : inB lo hi z = true) : lo ≤ z ∧ z ≤ hi := by
  unfold inB at h; simpa using h
theorem inB_false {lo hi z : Int} (h : inB lo hi z = false) : z < lo ∨ hi < z := by
  unfold inB at h
  by_cases h1 : lo ≤ z
  · by_cases h2 : z ≤ hi
    · simp [h1, h2] at h
    · exact Or.inr (by omega)
  · exact Or.inl (by omega)
theorem inB_yes {lo hi z : Int} (h : lo ≤ z ∧ z ≤ hi) : inB lo hi z = true := by unfold inB; simp [h.1, h.2]
theorem inB_no {lo hi z : Int} (h : z < lo ∨ hi < z) : inB lo hi z = false := by
  cases e : inB lo hi z with
  | false => rfl
  | true => have := inB_true e; omega
theorem allIn_one (lo hi z : Int) : allIn lo hi [z] = inB lo hi z := by simp [allIn]
theorem allIn_two (lo hi z y : Int) : allIn lo hi [z, y] = (inB lo hi z && inB lo hi y) := by simp [allIn]
theorem allIn_step (lo hi : Int) (zs : List Int) (k : Nat) (h : k < zs.length) (h1 : lo ≤ zs[k]) (h2 : zs[k] ≤ hi) : allIn lo hi (zs.drop (k + 1)) = allIn lo hi (zs.drop k) := by
  rw [List.drop_eq_getElem_cons h]; simp [allIn, inB, h1, h2]
theorem allIn_stop (lo hi : Int) (zs : List Int) (k : Nat) (h : k < zs.length) (h1 : zs[k] < lo ∨ hi < zs[k]) : allIn lo hi (zs.drop k) = false := by
  rw [List.drop_eq_getElem_cons h]; simp only [allIn]; rw [inB_no h1]; rfl
theorem allIn_end (lo hi : Int) (zs : List Int) (k : Nat) (h : ¬ k < zs.length) : allIn lo hi (zs.drop k) = true := by
  rw [List.drop_eq_nil_of_le (by omega)]; rfl
theorem ret_bool {a b : Bool} (h : a = b) : Ending.returned (.bool a) = .returned (.bool b) := by rw [h]

/-- 1.1: Band's least price, its greatest, and its error's number. -/
def bandOk (p s : Int) : Bool := inB 1 1000000 p && inB 0 10000 s
def bandL (p s : Int) : Int := if bandOk p s = true then max 1 (p - p * s / 10000) else 0
def bandH (p s : Int) : Int := if bandOk p s = true then min 1000000 (p + p * s / 10000) else 0
def bandE (p s : Int) : Int := if bandOk p s = true then 0 else 2
def midOk (a b : Int) : Bool := inB 1 1000000 a && inB 1 1000000 b
def midV (a b : Int) : Int := if midOk a b = true then (a + b) / 2 else 0
def midE (a b : Int) : Int := if midOk a b = true then 0 else 2
def rightB (p q : Int) : Bool := inB 1 1000000 p && inB 1 1000000 q
theorem mul_bound {p s : Int} (hp : 1 ≤ p ∧ p ≤ 1000000) (hs : 0 ≤ s ∧ s ≤ 10000) : 0 ≤ p * s ∧ p * s ≤ 10000000000 := by
  have h1 : 0 ≤ p * s := Int.mul_nonneg (by omega) hs.1
  have h2 : p * s ≤ 1000000 * 10000 := Int.mul_le_mul hp.2 hs.2 hs.1 (by omega)
  exact ⟨h1, by omega⟩

set_option maxHeartbeats 400000 in
theorem within_any (lo hi : Int) (b : Nat) (zs : List Int) (w : World) (hbig : zs.length ≤ 1000)
    (hc : ∀ j, j < zs.length → w.cell? ⟨b, j, none⟩ = some (.int .i64 (zs.getD j 0))) :
    Calls Tryd.prog 58 #[.int .i64 lo, .int .i64 hi, .slice (some ⟨b, 0, none⟩) zs.length zs.length] w fun e w' => e = .returned (.bool (allIn lo hi zs)) ∧ w' = w := by
  go_enter Tryd.func58, Tryd.ntmps58
  go_wp2
  go_loop [8, 11] (fun _ i => ∃ k : Nat, k ≤ zs.length ∧ i = .int .i64 k ∧ allIn lo hi (zs.drop k) = allIn lo hi zs) (fun _ i => zs.length - (intOf i).toNat)
  case atStart => exact ⟨0, Nat.zero_le _, rfl, rfl⟩
  case round =>
    obtain ⟨k, hk, rfl, hq⟩ := hrel
    have HQ : Hid (allIn lo hi (zs.drop k) = allIn lo hi zs) := hq
    clear hq
    have hcell : k < zs.length → w.cell? ⟨b, k, none⟩ = some (.int .i64 (zs.getD k 0)) := fun h => hc k h
    go_wp2
    · go_ret
      exact ⟨ret_bool (by rw [← HQ.out]; exact (allIn_stop lo hi zs k (by assumption) (by assumption)).symm), rfl⟩
    · go_round
      case rel => exact ⟨k + 1, by omega, by go_num, by rw [← HQ.out]; exact allIn_step lo hi zs k (by assumption) (by omega) (by omega)⟩
      case measure => simp [intOf]; omega
    · go_ret
      exact ⟨ret_bool (by rw [← HQ.out]; exact (allIn_stop lo hi zs k (by assumption) (Or.inl (by assumption))).symm), rfl⟩
    · go_ret
      exact ⟨ret_bool (by rw [← HQ.out]; exact (allIn_end lo hi zs k (by assumption)).symm), rfl⟩

set_option maxHeartbeats 400000 in
theorem prices_any (b : Nat) (zs : List Int) (w : World) (hbig : zs.length ≤ 1000)
    (hc : ∀ j, j < zs.length → w.cell? ⟨b, j, none⟩ = some (.int .i64 (zs.getD j 0))) :
    Calls Tryd.prog 57 #[.slice (some ⟨b, 0, none⟩) zs.length zs.length] w fun e w' => e = .returned (.bool (allIn 1 1000000 zs)) ∧ w' = w := by
  go_enter Tryd.func57, Tryd.ntmps57
  go_wp2_with fail
  refine (within_any _ _ _ zs _ hbig hc).mono ?_
  rintro e w' ⟨rfl, rfl⟩
  go_wp2
  go_ret
  exact ⟨rfl, rfl⟩

theorem within_one (lo hi z : Int) (b : Nat) (w : World) (hc : w.cell? ⟨b, 0, none⟩ = some (.int .i64 z)) :
    Calls Tryd.prog 58 #[.int .i64 lo, .int .i64 hi, .slice (some ⟨b, 0, none⟩) 1 1] w fun e w' => e = .returned (.bool (inB lo hi z)) ∧ w' = w := by
  rw [← allIn_one]
  exact within_any lo hi b [z] w (by simp) (fun j hj => by
    have : j = 0 := by simp at hj; exact hj
    subst this; exact hc)
theorem prices_one (z : Int) (b : Nat) (w : World) (hc : w.cell? ⟨b, 0, none⟩ = some (.int .i64 z)) :
    Calls Tryd.prog 57 #[.slice (some ⟨b, 0, none⟩) 1 1] w fun e w' => e = .returned (.bool (inB 1 1000000 z)) ∧ w' = w := by
  rw [← allIn_one]
  exact prices_any b [z] w (by simp) (fun j hj => by
    have : j = 0 := by simp at hj; exact hj
    subst this; exact hc)
theorem prices_two (z y : Int) (b : Nat) (w : World) (hc : w.cell? ⟨b, 0, none⟩ = some (.int .i64 z)) (hc1 : w.cell? ⟨b, 1, none⟩ = some (.int .i64 y)) :
    Calls Tryd.prog 57 #[.slice (some ⟨b, 0, none⟩) 2 2] w fun e w' => e = .returned (.bool (midOk z y)) ∧ w' = w := by
  unfold midOk
  rw [← allIn_two]
  exact prices_any b [z, y] w (by simp) (fun j hj => by
    have hj' : j < 2 := hj
    have : j = 0 ∨ j = 1 := by omega
    rcases this with rfl | rfl
    · exact hc
    · exact hc1)

theorem ret_band {a b c d : Int} {v : Value} (h1 : a = c) (h2 : b = d) : Ending.returned (.tuple #[.int .i64 a, .int .i64 b, v]) = .returned (.tuple #[.int .i64 c, .int .i64 d, v]) := by rw [h1, h2]
theorem bandL_ok {p s : Int} (h : bandOk p s = true) : bandL p s = max 1 (p - p * s / 10000) := if_pos h
theorem bandH_ok {p s : Int} (h : bandOk p s = true) : bandH p s = min 1000000 (p + p * s / 10000) := if_pos h
theorem bandE_ok {p s : Int} (h : bandOk p s = true) : bandE p s = 0 := if_pos h
theorem bandL_no {p s : Int} (h : bandOk p s = false) : bandL p s = 0 := if_neg (by rw [h]; decide)
theorem bandH_no {p s : Int} (h : bandOk p s = false) : bandH p s = 0 := if_neg (by rw [h]; decide)
theorem bandE_no {p s : Int} (h : bandOk p s = false) : bandE p s = 2 := if_neg (by rw [h]; decide)

set_option maxHeartbeats 400000 in
theorem Band_ok (p s : Int) (w : World) (hp : 1 ≤ p ∧ p ≤ 1000000) (hs : 0 ≤ s ∧ s ≤ 10000) :
    Calls Tryd.prog 10 #[.int .i64 p, .int .i64 s] w fun e w' => e = .returned (.tuple #[.int .i64 (max 1 (p - p * s / 10000)), .int .i64 (min 1000000 (p + p * s / 10000)), .nilIface]) ∧ Below w.heap.size w w' := by
  have hm := mul_bound hp hs
  go_enter Tryd.func10, Tryd.ntmps10
  go_wp2_with fail
  refine (prices_one p _ _ (by simp [go_sem])).mono ?_
  rintro e w' ⟨rfl, rfl⟩
  rw [inB_yes hp]
  go_wp2_with fail
  refine (within_one 0 10000 s _ _ (by simp [go_sem])).mono ?_
  rintro e w' ⟨rfl, rfl⟩
  rw [inB_yes hs]
  go_wp2_with fail
  all_goals
    go_ret3
    exact ⟨ret_band (by omega) (by omega), by go_grown⟩

set_option maxHeartbeats 400000 in
theorem Band_no (p s : Int) (w : World) (h : bandOk p s = false) :
    Calls Tryd.prog 10 #[.int .i64 p, .int .i64 s] w fun e w' => e = .returned (.tuple #[.int .i64 0, .int .i64 0, .iface 22 (.int .i64 2)]) ∧ Below w.heap.size w w' := by
  cases hp : inB 1 1000000 p with
  | false =>
    have HP : Hid (inB 1 1000000 p = false) := hp
    clear hp h
    go_enter Tryd.func10, Tryd.ntmps10
    go_wp2_with fail
    refine (prices_one p _ _ (by simp [go_sem])).mono ?_
    rintro e w' ⟨rfl, rfl⟩
    rw [HP.out]
    go_wp2_with fail
    go_ret3
    exact ⟨rfl, by go_grown⟩
  | true =>
    have hs : inB 0 10000 s = false := by unfold bandOk at h; rw [hp] at h; simpa using h
    have HP : Hid (inB 1 1000000 p = true) := hp
    have HS : Hid (inB 0 10000 s = false) := hs
    clear hp hs h
    go_enter Tryd.func10, Tryd.ntmps10
    go_wp2_with fail
    refine (prices_one p _ _ (by simp [go_sem])).mono ?_
    rintro e w' ⟨rfl, rfl⟩
    rw [HP.out]
    go_wp2_with fail
    refine (within_one 0 10000 s _ _ (by simp [go_sem])).mono ?_
    rintro e w' ⟨rfl, rfl⟩
    rw [HS.out]
    go_wp2_with fail
    go_ret3
    exact ⟨rfl, by go_grown⟩

theorem bandOk_true {p s : Int} (h : bandOk p s = true) : (1 ≤ p ∧ p ≤ 1000000) ∧ (0 ≤ s ∧ s ≤ 10000) := by
  unfold bandOk at h
  rw [Bool.and_eq_true] at h
  exact ⟨inB_true h.1, inB_true h.2⟩

/-- num.Band, whatever the price and the share. -/
theorem Band_any (p s : Int) (w : World) :
    Calls Tryd.prog 10 #[.int .i64 p, .int .i64 s] w fun e w' => ∃ err, e = .returned (.tuple #[.int .i64 (bandL p s), .int .i64 (bandH p s), err]) ∧ ErrIs w' err (bandE p s) (-1) ∧ Below w.heap.size w w' := by
  cases h : bandOk p s with
  | true =>
    obtain ⟨hp, hs⟩ := bandOk_true h
    exact (Band_ok p s w hp hs).mono fun _ _ ⟨he, hb⟩ => ⟨.nilIface, by rw [he, bandL_ok h, bandH_ok h], Or.inl ⟨rfl, bandE_ok h, rfl⟩, hb⟩
  | false => exact (Band_no p s w h).mono fun _ _ ⟨he, hb⟩ => ⟨.iface 22 (.int .i64 2), by rw [he, bandL_no h, bandH_no h], Or.inr (Or.inl ⟨by rw [bandE_no h], rfl⟩), hb⟩

theorem midOk_true {a b : Int} (h : midOk a b = true) : (1 ≤ a ∧ a ≤ 1000000) ∧ (1 ≤ b ∧ b ≤ 1000000) := by
  unfold midOk at h
  rw [Bool.and_eq_true] at h
  exact ⟨inB_true h.1, inB_true h.2⟩
set_option maxHeartbeats 400000 in
/-- num.Mid, whatever the two are. -/
theorem Mid_any (a b : Int) (w : World) :
    Calls Tryd.prog 11 #[.int .i64 a, .int .i64 b] w fun e w' => ∃ err, e = .returned (.tuple #[.int .i64 (midV a b), err]) ∧ ErrIs w' err (midE a b) (-1) ∧ Below w.heap.size w w' := by
  cases h : midOk a b with
  | true =>
    obtain ⟨ha, hb⟩ := midOk_true h
    have hv : Hid (midV a b = (a + b) / 2) := if_pos h
    have he : Hid (midE a b = 0) := if_pos h
    have HM : Hid (midOk a b = true) := h
    clear h
    go_enter Tryd.func11, Tryd.ntmps11
    go_wp2_with fail
    refine (prices_two a b _ _ (by simp [go_sem]) (by simp [go_sem])).mono ?_
    rintro e w' ⟨rfl, rfl⟩
    rw [HM.out]
    go_wp2_with fail
    go_ret2
    exact ⟨.nilIface, by rw [hv.out]; rfl, Or.inl ⟨rfl, he.out, rfl⟩, by go_grown⟩
  | false =>
    have hv : Hid (midV a b = 0) := if_neg (by rw [h]; decide)
    have he : Hid (midE a b = 2) := if_neg (by rw [h]; decide)
    have HM : Hid (midOk a b = false) := h
    clear h
    go_enter Tryd.func11, Tryd.ntmps11
    go_wp2_with fail
    refine (prices_two a b _ _ (by simp [go_sem]) (by simp [go_sem])).mono ?_
    rintro e w' ⟨rfl, rfl⟩
    rw [HM.out]
    go_wp2_with fail
    go_ret2
    exact ⟨.iface 22 (.int .i64 2), by rw [hv.out]; rfl, Or.inr (Or.inl ⟨by rw [he.out], rfl⟩), by go_grown⟩

set_option maxHeartbeats 400000 in
/-- num.Right, whatever the two are. -/
theorem Right_any (p q : Int) (w : World) :
    Calls Tryd.prog 14 #[.int .i64 p, .int .i64 q] w fun e w' => e = .returned (.bool (rightB p q)) ∧ Below w.heap.size w w' := by
  cases hp : inB 1 1000000 p with
  | false =>
    have HR : Hid (rightB p q = false) := by unfold rightB; rw [hp]; rfl
    have HP : Hid (inB 1 1000000 p = false) := hp
    clear hp
    go_enter Tryd.func14, Tryd.ntmps14
    go_wp2_with fail
    refine (prices_one p _ _ (by simp [go_sem])).mono ?_
    rintro e w' ⟨rfl, rfl⟩
    rw [HP.out]
    go_wp2_with fail
    go_ret
    exact ⟨by rw [HR.out]; rfl, by go_grown⟩
  | true =>
    have HR : Hid (rightB p q = inB 1 1000000 q) := by unfold rightB; rw [hp]; rfl
    have HP : Hid (inB 1 1000000 p = true) := hp
    clear hp
    go_enter Tryd.func14, Tryd.ntmps14
    go_wp2_with fail
    refine (prices_one p _ _ (by simp [go_sem])).mono ?_
    rintro e w' ⟨rfl, rfl⟩
    rw [HP.out]
    go_wp2_with fail
    refine (within_one 1 1000000 q _ _ (by simp [go_sem])).mono ?_
    rintro e w' ⟨rfl, rfl⟩
    go_wp2_with fail
    go_ret
    exact ⟨by rw [HR.out]; rfl, by go_grown⟩

set_option maxHeartbeats 400000 in
theorem in_any (n lo hi : Int) (w : World) :
    Calls Tryd.prog 56 #[.int .i64 n, .int .i64 lo, .int .i64 hi] w fun e w' => e = .returned (.bool (inB lo hi n)) ∧ w' = w := by
  go_enter Tryd.func56, Tryd.ntmps56
  go_wp2
  all_goals
    go_ret
    exact ⟨ret_bool (by unfold inB; first | (simp [*]; done) | (simp [*]; omega)), rfl⟩

set_option maxHeartbeats 400000 in
theorem refRight_any (p q : Int) (w : World) :
    Calls Tryd.prog 12 #[.int .i64 p, .int .i64 q] w fun e w' => e = .returned (.bool (rightB p q)) ∧ w' = w := by
  cases hp : inB 1 1000000 p with
  | false =>
    have HR : Hid (rightB p q = false) := by unfold rightB; rw [hp]; rfl
    have HP : Hid (inB 1 1000000 p = false) := hp
    clear hp
    go_enter Tryd.func12, Tryd.ntmps12
    go_wp2_with fail
    refine (in_any p 1 1000000 _).mono ?_
    rintro e w' ⟨rfl, rfl⟩
    rw [HP.out]
    go_wp2_with fail
    go_ret
    exact ⟨by rw [HR.out]; rfl, rfl⟩
  | true =>
    have HR : Hid (rightB p q = inB 1 1000000 q) := by unfold rightB; rw [hp]; rfl
    have HP : Hid (inB 1 1000000 p = true) := hp
    clear hp
    go_enter Tryd.func12, Tryd.ntmps12
    go_wp2_with fail
    refine (in_any p 1 1000000 _).mono ?_
    rintro e w' ⟨rfl, rfl⟩
    rw [HP.out]
    go_wp2_with fail
    refine (in_any q 1 1000000 _).mono ?_
    rintro e w' ⟨rfl, rfl⟩
    go_wp2_with fail
    go_ret
    exact ⟨by rw [HR.out]; rfl, rfl⟩

theorem rightB_one (p : Int) : rightB p 1 = inB 1 1000000 p := by
  unfold rightB; rw [inB_yes (show (1 : Int) ≤ 1 ∧ (1 : Int) ≤ 1000000 by omega), Bool.and_true]

set_option maxHeartbeats 400000 in
/-- The document's Band, whatever the price and the share. -/
theorem refBand_any (p s : Int) (w : World) :
    Calls Tryd.prog 9 #[.int .i64 p, .int .i64 s] w fun e w' => e = .returned (.tuple #[.int .i64 (bandL p s), .int .i64 (bandH p s), .int .i64 (bandE p s)]) ∧ w' = w := by
  cases hp : inB 1 1000000 p with
  | false =>
    have hk : bandOk p s = false := by unfold bandOk; rw [hp]; rfl
    have HR : Hid (bandL p s = 0 ∧ bandH p s = 0 ∧ bandE p s = 2) := ⟨bandL_no hk, bandH_no hk, bandE_no hk⟩
    have HP : Hid (inB 1 1000000 p = false) := hp
    clear hp hk
    go_enter Tryd.func9, Tryd.ntmps9
    go_wp2_with fail
    refine (refRight_any p 1 _).mono ?_
    rintro e w' ⟨rfl, rfl⟩
    rw [rightB_one, HP.out]
    go_wp2_with fail
    go_ret3
    exact ⟨by rw [HR.out.1, HR.out.2.1, HR.out.2.2]; rfl, rfl⟩
  | true =>
    cases hs : inB 0 10000 s with
    | false =>
      have hk : bandOk p s = false := by unfold bandOk; rw [hp, hs]; rfl
      have HR : Hid (bandL p s = 0 ∧ bandH p s = 0 ∧ bandE p s = 2) := ⟨bandL_no hk, bandH_no hk, bandE_no hk⟩
      have HP : Hid (inB 1 1000000 p = true) := hp
      have HS : Hid (inB 0 10000 s = false) := hs
      clear hp hk hs
      go_enter Tryd.func9, Tryd.ntmps9
      go_wp2_with fail
      refine (refRight_any p 1 _).mono ?_
      rintro e w' ⟨rfl, rfl⟩
      rw [rightB_one, HP.out]
      go_wp2_with fail
      refine (in_any s 0 10000 _).mono ?_
      rintro e w' ⟨rfl, rfl⟩
      rw [HS.out]
      go_wp2_with fail
      go_ret3
      exact ⟨by rw [HR.out.1, HR.out.2.1, HR.out.2.2]; rfl, rfl⟩
    | true =>
      have hk : bandOk p s = true := by unfold bandOk; rw [hp, hs]; rfl
      have HR : Hid (bandL p s = max 1 (p - p * s / 10000) ∧ bandH p s = min 1000000 (p + p * s / 10000) ∧ bandE p s = 0) := ⟨bandL_ok hk, bandH_ok hk, bandE_ok hk⟩
      have HP : Hid (inB 1 1000000 p = true) := hp
      have HS : Hid (inB 0 10000 s = true) := hs
      have hp' := inB_true hp
      have hs' := inB_true hs
      have hm := mul_bound hp' hs'
      clear hp hk hs
      go_enter Tryd.func9, Tryd.ntmps9
      go_wp2_with fail
      refine (refRight_any p 1 _).mono ?_
      rintro e w' ⟨rfl, rfl⟩
      rw [rightB_one, HP.out]
      go_wp2_with fail
      refine (in_any s 0 10000 _).mono ?_
      rintro e w' ⟨rfl, rfl⟩
      rw [HS.out]
      go_wp2_with fail
      all_goals
        go_ret3
        exact ⟨by rw [HR.out.1, HR.out.2.1, HR.out.2.2]; exact ret_band (by omega) (by omega), rfl⟩
end Go.Proofs.YtnkfegpacfdcbaaDoor
