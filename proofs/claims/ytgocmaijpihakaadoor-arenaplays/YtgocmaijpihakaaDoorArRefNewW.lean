/-
  What the document's own Put (3.1) does where no slot is free, and in all cases, over this seat's translation. Conditions stand in the theorem: where the slots lie, that there are at most 1000.
-/
import Derived.Test.YtgocmaijpihakaaDoorArRefNew
import Derived.Deep.DeepCutAuto
namespace Go.Proofs.YtgocmaijpihakaaDoor
open Go.RowKit
attribute [local go_sem ↓] Go.wp_at_zero Go.wp_at_succ

theorem row_far {w : World} {base : Nat} {e : TypeId} {size n b : Nat} {v : Value} {xs : List Value} (h : w.ownsRow base e size v n xs) (hb : w.heap.size ≤ b) : some b ≠ v.ownBlock := fun e' => by
  have := (h.lt b e'.symm).2; omega

set_option maxRecDepth 100000 in
set_option maxHeartbeats 16000000 in
theorem refPut_new (sb : Nat) (most : Int) (vt va vf : Value) (rs : List (Int × Int)) (x : Int) (w : World) (h : SlotsIs w sb most vt va vf rs []) (hl : rs.length ≤ 1000) (hm : ¬ most ≤ cntS rs) :
    Calls Tryd.prog 21 #[.pointer (some ⟨sb, 0, none⟩), .int .i64 x] w
      fun e w' => e = .returned (.tuple #[.int .i64 rs.length, .int .i64 0, .int .i64 0]) ∧ ∃ vt' va', SlotsIs w' sb most vt' va' vf (rs ++ [(x, 0)]) [] ∧ Out (slB sb vt va vf) w w' ∧ Went w (slB sb vt va vf) (slB sb vt' va' vf) := by
  obtain ⟨i0, hi, hz0, hz1, hz2⟩ := info_parts Tryd.infoNum
  have c0 := blk_cell (j := 0) h.box rfl
  have c1 := blk_cell (j := 1) h.box rfl
  have c2 := blk_cell (j := 2) h.box rfl
  have c3 := blk_cell (j := 3) h.box rfl
  have lb : sb < w.heap.size := lt_of_block h.box
  have HA : Hid (SlotsIs w sb most vt va vf rs []) := h
  obtain ⟨fo, fc, rfl, _, _⟩ := owns_shape h.free
  simp only [List.length_nil] at c2 HA
  obtain ⟨ao, cap, rfl, _, _⟩ := owns_shape h.things
  obtain ⟨ao', cap', rfl, _, _⟩ := owns_shape h.ages
  have M0 : Hid (Mid w w sb most (.slice ao rs.length cap) (.slice ao' rs.length cap') (.slice fo 0 fc) (.slice ao rs.length cap) rs.length (thV rs) (.slice ao' rs.length cap') rs.length (agV rs) []) := Mid.start h
  clear h
  go_enter Tryd.func21, Tryd.ntmps21
  go_wp2_with fail
  go_loop [7, 17] (fun n i => ∃ k : Nat, k ≤ rs.length ∧ i = .int .i64 k ∧ n = .int .i64 (cntS (rs.take k))) (fun _ i => rs.length - (intOf i).toNat)
  case atStart => exact ⟨0, Nat.zero_le _, rfl, rfl⟩
  case round =>
    obtain ⟨j, hj, rfl, rfl⟩ := hrel
    have hcb := cntS_le (rs.take j)
    simp only [List.length_take] at hcb
    by_cases hj1 : j < rs.length
    · obtain ⟨g, cap', hv, _, _⟩ := HA.out.things.form (by omega)
      simp only [Value.slice.injEq, true_and] at hv
      obtain ⟨rfl, rfl⟩ := hv
      have d0 := (HA.out.things.cellAt j (by omega)).trans (thV_at hj1)
      have HC : Hid (cntS (rs.take (j + 1)) = cntS (rs.take j) + (if 0 ≤ (slAt rs j).1 then 1 else 0)) := cntS_take hj1
      go_wp2
      · go_round
        case rel => exact ⟨j + 1, hj1, by go_num, by rw [HC.out, if_pos (by assumption)]; go_num⟩
        case measure => simp [intOf]; omega
      · go_round
        case rel => exact ⟨j + 1, hj1, by go_num, by rw [HC.out, if_neg (by omega)]; go_num⟩
        case measure => simp [intOf]; omega
    · obtain rfl : j = rs.length := by omega
      rw [List.take_length]
      rw [List.take_length] at hcb
      go_wp2_with fail
      have q63 : rs.length + 1 ≤ maxLen := by unfold maxLen; omega
      go_cut [10] (fun k wc => k = .int .i64 rs.length ∧ ∃ vt' va', SlotsIs wc sb most vt' va' (.slice fo 0 fc) (rs ++ [(x, 0)]) [] ∧ Out (slB sb (.slice ao rs.length cap) (.slice ao' rs.length cap') (.slice fo 0 fc)) w wc ∧ Went w (slB sb (.slice ao rs.length cap) (.slice ao' rs.length cap') (.slice fo 0 fc)) (slB sb vt' va' (.slice fo 0 fc)))
      case first =>
        go_region_law (first | (refine step_append_lies _ (by rfl) (.tmp 74) (.tmp 76) 52 (by rfl) 0 3 i0 (.int .i64 0) 1 8 Tryd.underlying52 hi hz0 hz1 hz2 rfl (by omega) (.slice ao rs.length cap) rs.length (thV rs) (by rfl) (by first | exact (M0.out.alloc _).drew.a | exact ((M0.out.alloc _).alloc _).drew.a | exact (MB.out.alloc _).a | exact MB.out.a) _ 1 1 [.int .i64 x] (by rfl) (by rfl) (by first | exact World.news_of_block (cs := #[.int .i64 x]) (heap_alloc_new _ _) | exact World.news_of_block (cs := #[.int .i64 x]) (two_old w _ _) | exact World.news_of_block (cs := #[.int .i64 x]) (two_new w _ _) | exact World.news_of_block (cs := #[.int .i64 x]) ((hgB.block _ (by simp <;> omega) (row_far M0.out.b (Nat.le_refl _))).trans (two_old w _ _)) | exact World.news_of_block (cs := #[.int .i64 x]) ((hgB.block _ (by simp <;> omega) (row_far M0.out.b (by simp))).trans (two_new w _ _))) (by simp [Value.oneCell']) (by omega) q63 (by omega) (Nat.zero_le _) _ (by rfl) ?_; intro gA cA wA hoA hgA hatA hltA; have mA := Mid.app (by first | exact (M0.out.alloc _).drew | exact ((M0.out.alloc _).alloc _).drew | exact MB.out.alloc _ | exact MB.out) hoA hgA hatA; have lA := lt_of_block mA.box; have zA0 := blk_cell (j := 0) mA.box rfl; have zA1 := blk_cell (j := 1) mA.box rfl; have zA2 := blk_free (j := 0) mA.box; have zA3 := blk_free (j := 1) mA.box; have MA : Hid _ := mA; clear mA hoA hatA hltA) | (refine step_append_lies _ (by rfl) (.tmp 81) (.tmp 82) 52 (by rfl) 0 3 i0 (.int .i64 0) 1 8 Tryd.underlying52 hi hz0 hz1 hz2 rfl (by omega) (.slice ao' rs.length cap') rs.length (agV rs) (by rfl) (by first | exact (M0.out.alloc _).drew.b | exact ((M0.out.alloc _).alloc _).drew.b | exact (MA.out.alloc _).b | exact MA.out.b) _ 1 1 [.int .i64 0] (by rfl) (by rfl) (by first | exact World.news_of_block (cs := #[.int .i64 0]) (heap_alloc_new _ _) | exact World.news_of_block (cs := #[.int .i64 0]) (two_old w _ _) | exact World.news_of_block (cs := #[.int .i64 0]) (two_new w _ _) | exact World.news_of_block (cs := #[.int .i64 0]) ((hgA.block _ (by simp <;> omega) (row_far M0.out.a (Nat.le_refl _))).trans (two_old w _ _)) | exact World.news_of_block (cs := #[.int .i64 0]) ((hgA.block _ (by simp <;> omega) (row_far M0.out.a (by simp))).trans (two_new w _ _))) (by simp [Value.oneCell']) (by omega) q63 (by omega) (Nat.zero_le _) _ (by rfl) ?_; intro gB cB wB hoB hgB hatB hltB; have mB := (Mid.app (Mid.swap (by first | exact (M0.out.alloc _).drew | exact ((M0.out.alloc _).alloc _).drew | exact MA.out.alloc _ | exact MA.out)) hoB hgB hatB).swap; have lB := lt_of_block mB.box; have zB0 := blk_cell (j := 0) mB.box rfl; have zB1 := blk_cell (j := 1) mB.box rfl; have zB2 := blk_free (j := 0) mB.box; have zB3 := blk_free (j := 1) mB.box; have MB : Hid _ := mB; clear mB hoB hatB hltB))
        all_goals go_wp2_with fail
        all_goals go_meet
        all_goals first | exact ⟨rfl, _, _, MA.out.done⟩ | exact ⟨rfl, _, _, MB.out.done⟩
      case rest =>
        obtain ⟨rfl, vt', va', h1, h2, h3⟩ := hcut
        have e1 : (rs ++ [(x, (0 : Int))]).length = rs.length + 1 := by simp
        obtain ⟨g, cg, g', cg', rfl, rfl, d0, d1⟩ := h1.slot (k := rs.length) (by omega)
        rw [slAt_pushed] at d1
        have y1 := blk_cell (j := 1) h1.box rfl
        have q1 : (0 : Int) ≤ (rs.length : Int) := by omega
        have q2 : (rs.length : Int) < ((rs.length + 1 : Nat) : Int) := by omega
        rw [e1] at y1
        have H1 : Hid _ := h1
        have H2 : Hid _ := h2
        have H3 : Hid _ := h3
        clear h1 h2 h3 d0 e1
        go_wp2_with fail
        go_quiet (fail)
        go_wp2
        go_returns
        exact ⟨rfl, _, _, H1.out.below (below_drewN (Below.refl _ _) _) (Nat.le_refl _), H2.out.trans (Out.of_below (below_drewN (Below.refl _ _) _) (Nat.le_refl _)) (Went.refl _ _), H3.out⟩
end Go.Proofs.YtgocmaijpihakaaDoor
