/-
  What the document's own Put (3.1) does, over this seat's translation, told by the plain lists of ArSl. Conditions stand in each theorem: where the slots lie, that there are at most 1000.
-/
import Derived.Test.YtgocmaijpihakaaDoorArRef
import Derived.Deep.RegionLaw
import Derived.BigRegion
namespace Go.Proofs.YtgocmaijpihakaaDoor
open Go.RowKit

theorem tup3_is {a b c a' b' c' : Int} (h : a = a') (h1 : b = b') (h2 : c = c') : Ending.returned (.tuple #[.int .i64 a, .int .i64 b, .int .i64 c]) = .returned (.tuple #[.int .i64 a', .int .i64 b', .int .i64 c']) := by rw [h, h1, h2]

set_option maxRecDepth 4000 in
set_option maxHeartbeats 1000000 in
theorem refPut_full (sb : Nat) (most : Int) (vt va vf : Value) (rs : List (Int × Int)) (fr : List Nat) (x : Int) (w : World) (h : SlotsIs w sb most vt va vf rs fr) (hl : rs.length ≤ 1000) (hm : most ≤ cntS rs) :
    Calls Tryd.prog 21 #[.pointer (some ⟨sb, 0, none⟩), .int .i64 x] w fun e w' => e = .returned (.tuple #[.int .i64 0, .int .i64 0, .int .i64 12]) ∧ w' = w := by
  have c0 := blk_cell (j := 0) h.box rfl
  have c3 := blk_cell (j := 3) h.box rfl
  have HA : Hid (SlotsIs w sb most vt va vf rs fr) := h
  obtain ⟨ao, cap, rfl, _, _⟩ := owns_shape h.things
  clear h
  go_enter Tryd.func21, Tryd.ntmps21
  go_wp2_with fail
  go_loop [7, 17] (fun n i => ∃ k : Nat, k ≤ rs.length ∧ i = .int .i64 k ∧ n = .int .i64 (cntS (rs.take k))) (fun _ i => rs.length - (intOf i).toNat)
  case atStart => exact ⟨0, Nat.zero_le _, rfl, rfl⟩
  case round =>
    obtain ⟨k, hk, rfl, rfl⟩ := hrel
    have hcb := cntS_le (rs.take k)
    simp only [List.length_take] at hcb
    by_cases hk1 : k < rs.length
    · obtain ⟨g, cap', hv, _, _⟩ := HA.out.things.form (by omega)
      simp only [Value.slice.injEq, true_and] at hv
      obtain ⟨rfl, rfl⟩ := hv
      have d0 := (HA.out.things.cellAt k (by omega)).trans (thV_at hk1)
      have HC : Hid (cntS (rs.take (k + 1)) = cntS (rs.take k) + (if 0 ≤ (slAt rs k).1 then 1 else 0)) := cntS_take hk1
      go_wp2
      · go_round
        case rel => exact ⟨k + 1, hk1, by go_num, by rw [HC.out, if_pos (by assumption)]; go_num⟩
        case measure => simp [intOf]; omega
      · go_round
        case rel => exact ⟨k + 1, hk1, by go_num, by rw [HC.out, if_neg (by omega)]; go_num⟩
        case measure => simp [intOf]; omega
    · obtain rfl : k = rs.length := by omega
      rw [List.take_length]
      rw [List.take_length] at hcb
      go_wp2
      go_returns
      exact ⟨rfl, rfl⟩

/-- the slot that was freed last is given: the free ones behind it -/
theorem SlotsIs.pop {w : World} {sb g n cap k : Nat} {most : Int} {vt va : Value} {rs : List (Int × Int)} {fs : List Nat} (h : SlotsIs w sb most vt va (.slice (some ⟨g, 0, none⟩) n cap) rs (fs ++ [k])) :
    SlotsIs (w.setCell ⟨sb, 2, none⟩ (.slice (some ⟨g, 0, none⟩) fs.length cap)) sb most vt va (.slice (some ⟨g, 0, none⟩) fs.length cap) rs fs ∧ Out (fun j => j = sb) w (w.setCell ⟨sb, 2, none⟩ (.slice (some ⟨g, 0, none⟩) fs.length cap)) := by
  have hf := h.free
  obtain rfl := owns_len h.free
  rw [List.length_append, List.length_singleton, frV_push] at hf
  have h1 := owns_less hf (frV_length fs)
  exact ⟨⟨by simpa using blk_set (j := 2) (.slice (some ⟨g, 0, none⟩) fs.length cap) h.box, ownsRow_setCell_other h.things (owns_type h.things h.box (by decide)) _, ownsRow_setCell_other h.ages (owns_type h.ages h.box (by decide)) _, ownsRow_setCell_other h1 (owns_type h1 h.box (by decide)) _, h.ta, h.tf, h.af⟩, out_set w ⟨sb, 2, none⟩ _⟩

set_option maxRecDepth 4000 in
set_option maxHeartbeats 1000000 in
theorem refPut_free (sb : Nat) (most : Int) (vt va vf : Value) (rs : List (Int × Int)) (fs : List Nat) (k : Nat) (x : Int) (w : World) (h : SlotsIs w sb most vt va vf rs (fs ++ [k])) (hl : rs.length ≤ 1000) (hf : fs.length ≤ 1000) (hm : ¬ most ≤ cntS rs) (hk : k < rs.length) :
    Calls Tryd.prog 21 #[.pointer (some ⟨sb, 0, none⟩), .int .i64 x] w
      fun e w' => e = .returned (.tuple #[.int .i64 k, .int .i64 (slAt rs k).2, .int .i64 0]) ∧ ∃ vf', SlotsIs w' sb most vt va vf' (rs.set k (x, (slAt rs k).2)) fs ∧ Out (slB sb vt va vf) w w' ∧ vf'.ownBlock = vf.ownBlock := by
  obtain ⟨f, fc, rfl, _, _⟩ := h.free.form (by simp)
  obtain ⟨g, cap, g', cap', rfl, rfl, d0, d1⟩ := h.slot hk
  have c0 := blk_cell (j := 0) h.box rfl
  have c1 := blk_cell (j := 1) h.box rfl
  have c2 := blk_cell (j := 2) h.box rfl
  have c3 := blk_cell (j := 3) h.box rfl
  have f2 := blk_free (j := 2) h.box
  have f0 := h.things.frozenAt k
  have d2 := (h.free.cellAt fs.length (by simp)).trans (frV_top fs k)
  have hcap : fs.length + 1 ≤ fc := by
    obtain ⟨_, _, e, h1, _⟩ := owns_shape h.free
    simp at e h1; omega
  have hgg : g ≠ g' := fun e => h.ta g rfl (by rw [e]; rfl)
  have hbg : sb ≠ g := fun e => owns_type h.things h.box (by decide) (by rw [e]; rfl)
  have hbg' : sb ≠ g' := fun e => owns_type h.ages h.box (by decide) (by rw [e]; rfl)
  rw [List.length_append, List.length_singleton] at c2
  have HA : Hid (SlotsIs w sb most (.slice (some ⟨g, 0, none⟩) rs.length cap) (.slice (some ⟨g', 0, none⟩) rs.length cap') (.slice (some ⟨f, 0, none⟩) (fs ++ [k]).length fc) rs (fs ++ [k])) := h
  clear h
  have HD : Hid _ := d0
  have HD1 : Hid _ := d1
  clear d0 d1
  go_enter Tryd.func21, Tryd.ntmps21
  go_wp2_with fail
  go_loop [7, 17] (fun n i => ∃ k : Nat, k ≤ rs.length ∧ i = .int .i64 k ∧ n = .int .i64 (cntS (rs.take k))) (fun _ i => rs.length - (intOf i).toNat)
  case atStart => exact ⟨0, Nat.zero_le _, rfl, rfl⟩
  case round =>
    obtain ⟨j, hj, rfl, rfl⟩ := hrel
    have hcb := cntS_le (rs.take j)
    simp only [List.length_take] at hcb
    by_cases hj1 : j < rs.length
    · have d0 := (HA.out.things.cellAt j (by omega)).trans (thV_at hj1)
      have HC : Hid (cntS (rs.take (j + 1)) = cntS (rs.take j) + (if 0 ≤ (slAt rs j).1 then 1 else 0)) := cntS_take hj1
      go_wp2
      · go_round
        case rel => exact ⟨j + 1, hj1, by go_num, by rw [HC.out, if_pos (by assumption)]; go_num⟩
        case measure => simp [intOf]; omega
      · go_round
        case rel => exact ⟨j + 1, hj1, by go_num, by rw [HC.out, if_neg (by omega)]; go_num⟩
        case measure => simp [intOf]; omega
    · obtain rfl : j = rs.length := by omega
      rw [List.take_length]
      rw [List.take_length] at hcb
      have d0 := HD.out
      have d1 := HD1.out
      have q1 : (0 : Int) ≤ (k : Int) := by omega
      have q2 : (k : Int) < rs.length := by omega
      go_wp2_with fail
      go_quiet (fail)
      go_wp2
      go_returns
      obtain ⟨r1, r2⟩ := HA.out.pop
      obtain ⟨s1, s2⟩ := r1.setThing (x := x) hk
      exact ⟨rfl, _, s1.below (below_drewN (Below.refl _ _) _) (Nat.le_refl _), ((r2.mono (fun j hj => Or.inl hj)).trans (s2.mono (fun j hj => Or.inr (Or.inl (by rw [hj]; rfl)))) (Went.refl _ _)).trans (Out.of_below (below_drewN (Below.refl _ _) _) (Nat.le_refl _)) (Went.refl _ _), rfl⟩
end Go.Proofs.YtgocmaijpihakaaDoor
