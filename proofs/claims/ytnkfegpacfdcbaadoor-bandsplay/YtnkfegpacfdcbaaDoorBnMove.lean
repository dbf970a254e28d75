/-
  What Trade and Fix of package bands return, and change, over this seat's translation. Conditions stand in each theorem: where the bands lie.
-/
import Derived.Test.YtnkfegpacfdcbaaDoorBnTell
namespace Go.Proofs.YtnkfegpacfdcbaaDoor
open Go.RowKit

theorem bn_cell_out {S : Nat → Prop} {w w' : World} {p : Addr} (h : Out S w w') (hl : p.block < w.heap.size) (hS : ¬ S p.block) : w'.cell? p = w.cell? p := by
  have := h.block p.block hl hS
  unfold World.cell?
  rw [this]

set_option maxRecDepth 4000 in
set_option maxHeartbeats 4000000 in
theorem bnMove_no (bb : Nat) (p : Int) (v : Value) (w : World) (h : inB 1 1000000 p = false) :
    Calls Tryd.prog 84 #[.pointer (some ⟨bb, 0, none⟩), .int .i64 p, v] w fun e w' => e = .returned (.iface 22 (.int .i64 2)) ∧ Below w.heap.size w w' := by
  have HP : Hid (inB 1 1000000 p = false) := h
  clear h
  go_enter Tryd.func84, Tryd.ntmps84
  go_wp2_with fail
  refine (Right_any p 1 _).mono ?_
  rintro e w' ⟨rfl, hb⟩
  rw [rightB_one, HP.out]
  go_wp2
  go_ret
  exact ⟨rfl, hb⟩

set_option maxRecDepth 4000 in
set_option maxHeartbeats 4000000 in
theorem bnMove1 (bb g : Nat) (s d a l p : Int) (w : World) (h : BnAt w bb s d a l) (hp : inB 1 1000000 p = true) (hg : w.cell? ⟨g, 0, none⟩ = some (.int .i64 1)) (hne : g ≠ bb) :
    Calls Tryd.prog 84 #[.pointer (some ⟨bb, 0, none⟩), .int .i64 p, .slice (some ⟨g, 0, none⟩) 1 1] w fun e w' => e = .returned .nilIface ∧ Out (fun j => j = bb) w w' ∧ BnAt w' bb s d a p := by
  have HA : Hid (BnAt w bb s d a l) := h
  have HG : Hid (w.cell? ⟨g, 0, none⟩ = some (.int .i64 1)) := hg
  have HN : Hid (g ≠ bb) := hne
  have HP : Hid (inB 1 1000000 p = true) := hp
  clear h hg hne hp
  go_enter Tryd.func84, Tryd.ntmps84
  go_wp2_with fail
  refine (Right_any p 1 _).mono ?_
  rintro e w1 ⟨rfl, hb⟩
  have HO : Hid (Out (fun j => j = bb) w w1) := Out.of_below hb (Nat.le_refl _)
  have HA1 : Hid (BnAt w1 bb s d a l) := HA.out.below hb
  rw [rightB_one, HP.out]
  clear hb
  go_wp2
  go_loopw [15] (fun v wr => ∃ k : Nat, k ≤ 1 ∧ v = .int .i64 k ∧ Out (fun j => j = bb) w wr ∧ (k = 0 → BnAt wr bb s d a l) ∧ (k = 1 → BnAt wr bb s d a p)) (fun v _ => 1 - (intOf v).toNat)
  case atStart => exact ⟨0, by omega, rfl, HO.out, fun _ => HA1.out, fun h => absurd h (by decide)⟩
  case round =>
    obtain ⟨k, hk, rfl, ho, hq0, hq1⟩ := hrel
    have HO2 : Hid (Out (fun j => j = bb) w wr) := ho
    have HQ0 : Hid (k = 0 → BnAt wr bb s d a l) := hq0
    have HQ1 : Hid (k = 1 → BnAt wr bb s d a p) := hq1
    clear ho hq0 hq1
    have hk01 : k = 0 ∨ k = 1 := by omega
    rcases hk01 with rfl | rfl
    · have HB0 : Hid (BnAt wr bb s d a l) := HQ0.out rfl
      have c0 := (bn_cell_out (p := ⟨g, 0, none⟩) HO2.out (World.block_lt_of_cell? w _ HG.out) HN.out).trans HG.out
      have c3 := bn_cell (j := 3) HB0.out rfl
      have f3 := bn_free (j := 3) HB0.out
      go_wp2
      go_roundw
      case rel => exact ⟨1, by omega, rfl, bn_out_then HO2.out (bn_out_set wr ⟨bb, 3, none⟩ _), fun h => absurd h (by decide), fun _ => bn_set (j := 3) (.int .i64 p) HB0.out⟩
      case measure => simp [intOf]
    · go_wp2
      go_ret
      exact ⟨rfl, HO2.out, HQ1.out (by trivial)⟩

set_option maxRecDepth 4000 in
set_option maxHeartbeats 4000000 in
theorem bnMove2 (bb g : Nat) (s d a l p : Int) (w : World) (h : BnAt w bb s d a l) (hp : inB 1 1000000 p = true) (hg : w.cell? ⟨g, 0, none⟩ = some (.int .i64 0)) (hg1 : w.cell? ⟨g, 1, none⟩ = some (.int .i64 1)) (hne : g ≠ bb) :
    Calls Tryd.prog 84 #[.pointer (some ⟨bb, 0, none⟩), .int .i64 p, .slice (some ⟨g, 0, none⟩) 2 2] w fun e w' => e = .returned .nilIface ∧ Out (fun j => j = bb) w w' ∧ BnAt w' bb s d p p := by
  have HA : Hid (BnAt w bb s d a l) := h
  have HG : Hid (w.cell? ⟨g, 0, none⟩ = some (.int .i64 0)) := hg
  have HG1 : Hid (w.cell? ⟨g, 1, none⟩ = some (.int .i64 1)) := hg1
  have HN : Hid (g ≠ bb) := hne
  have HP : Hid (inB 1 1000000 p = true) := hp
  clear h hg hne hp hg1
  go_enter Tryd.func84, Tryd.ntmps84
  go_wp2_with fail
  refine (Right_any p 1 _).mono ?_
  rintro e w1 ⟨rfl, hb⟩
  have HO : Hid (Out (fun j => j = bb) w w1) := Out.of_below hb (Nat.le_refl _)
  have HA1 : Hid (BnAt w1 bb s d a l) := HA.out.below hb
  rw [rightB_one, HP.out]
  clear hb
  go_wp2
  go_loopw [15] (fun v wr => ∃ k : Nat, k ≤ 2 ∧ v = .int .i64 k ∧ Out (fun j => j = bb) w wr ∧ (k = 0 → BnAt wr bb s d a l) ∧ (k = 1 → BnAt wr bb s d p l) ∧ (k = 2 → BnAt wr bb s d p p)) (fun v _ => 2 - (intOf v).toNat)
  case atStart => exact ⟨0, by omega, rfl, HO.out, fun _ => HA1.out, fun h => absurd h (by decide), fun h => absurd h (by decide)⟩
  case round =>
    obtain ⟨k, hk, rfl, ho, hq0, hq1, hq2⟩ := hrel
    have HO2 : Hid (Out (fun j => j = bb) w wr) := ho
    have HQ0 : Hid (k = 0 → BnAt wr bb s d a l) := hq0
    have HQ1 : Hid (k = 1 → BnAt wr bb s d p l) := hq1
    have HQ2 : Hid (k = 2 → BnAt wr bb s d p p) := hq2
    clear ho hq0 hq1 hq2
    have hk01 : k = 0 ∨ k = 1 ∨ k = 2 := by omega
    rcases hk01 with rfl | rfl | rfl
    · have HB0 : Hid (BnAt wr bb s d a l) := HQ0.out rfl
      have c0 := (bn_cell_out (p := ⟨g, 0, none⟩) HO2.out (World.block_lt_of_cell? w _ HG.out) HN.out).trans HG.out
      have c2 := bn_cell (j := 2) HB0.out rfl
      have f2 := bn_free (j := 2) HB0.out
      go_wp2
      go_roundw
      case rel => exact ⟨1, by omega, rfl, bn_out_then HO2.out (bn_out_set wr ⟨bb, 2, none⟩ _), fun h => absurd h (by decide), fun _ => bn_set (j := 2) (.int .i64 p) HB0.out, fun h => absurd h (by decide)⟩
      case measure => simp [intOf]
    · have HB0 : Hid (BnAt wr bb s d p l) := HQ1.out rfl
      have c0 := (bn_cell_out (p := ⟨g, 1, none⟩) HO2.out (World.block_lt_of_cell? w _ HG1.out) HN.out).trans HG1.out
      have c3 := bn_cell (j := 3) HB0.out rfl
      have f3 := bn_free (j := 3) HB0.out
      go_wp2
      go_roundw
      case rel => exact ⟨2, by omega, rfl, bn_out_then HO2.out (bn_out_set wr ⟨bb, 3, none⟩ _), fun h => absurd h (by decide), fun h => absurd h (by decide), fun _ => bn_set (j := 3) (.int .i64 p) HB0.out⟩
      case measure => simp [intOf]
    · go_wp2
      go_ret
      exact ⟨rfl, HO2.out, HQ2.out (by trivial)⟩

theorem bnTrade_no (bb : Nat) (p : Int) (w : World) (h : inB 1 1000000 p = false) :
    Calls Tryd.prog 46 #[.pointer (some ⟨bb, 0, none⟩), .int .i64 p] w fun e w' => e = .returned (.iface 22 (.int .i64 2)) ∧ Below w.heap.size w w' := by
  have HP : Hid (inB 1 1000000 p = false) := h
  clear h
  go_enter Tryd.func46, Tryd.ntmps46
  go_wp2_with fail
  refine (bnMove_no bb p _ _ HP.out).mono ?_
  rintro e w' ⟨rfl, hb⟩
  have HB : Hid (Below w.heap.size w w') := bn_then (bn_bel1 w _) hb
  clear hb
  go_wp2
  go_ret
  exact ⟨rfl, HB.out⟩
theorem bnFix_no (bb : Nat) (p : Int) (w : World) (h : inB 1 1000000 p = false) :
    Calls Tryd.prog 47 #[.pointer (some ⟨bb, 0, none⟩), .int .i64 p] w fun e w' => e = .returned (.iface 22 (.int .i64 2)) ∧ Below w.heap.size w w' := by
  have HP : Hid (inB 1 1000000 p = false) := h
  clear h
  go_enter Tryd.func47, Tryd.ntmps47
  go_wp2_with fail
  refine (bnMove_no bb p _ _ HP.out).mono ?_
  rintro e w' ⟨rfl, hb⟩
  have HB : Hid (Below w.heap.size w w') := bn_then (bn_bel1 w _) hb
  clear hb
  go_wp2
  go_ret
  exact ⟨rfl, HB.out⟩
theorem bnTrade (bb : Nat) (s d a l p : Int) (w : World) (h : BnAt w bb s d a l) (hp : inB 1 1000000 p = true) :
    Calls Tryd.prog 46 #[.pointer (some ⟨bb, 0, none⟩), .int .i64 p] w fun e w' => e = .returned .nilIface ∧ Out (fun j => j = bb) w w' ∧ BnAt w' bb s d a p := by
  have HA : Hid (BnAt w bb s d a l) := h
  have HP : Hid (inB 1 1000000 p = true) := hp
  have HL : Hid (bb < w.heap.size) := lt_of_block h
  clear h hp
  go_enter Tryd.func46, Tryd.ntmps46
  go_wp2_with fail
  refine (bnMove1 bb _ s d a l p _ (HA.out.below (bn_bel1 w _)) HP.out (by simp [go_sem]) (by have := HL.out; omega)).mono ?_
  rintro e w' ⟨rfl, ho, hn⟩
  have HO : Hid (Out (fun j => j = bb) w w') := bn_out_then (Out.of_below (bn_bel1 w _) (Nat.le_refl _)) ho
  have HA2 : Hid (BnAt w' bb s d a p) := hn
  clear ho hn
  go_wp2
  go_ret
  exact ⟨rfl, HO.out, HA2.out⟩
theorem bnFix (bb : Nat) (s d a l p : Int) (w : World) (h : BnAt w bb s d a l) (hp : inB 1 1000000 p = true) :
    Calls Tryd.prog 47 #[.pointer (some ⟨bb, 0, none⟩), .int .i64 p] w fun e w' => e = .returned .nilIface ∧ Out (fun j => j = bb) w w' ∧ BnAt w' bb s d p p := by
  have HA : Hid (BnAt w bb s d a l) := h
  have HP : Hid (inB 1 1000000 p = true) := hp
  have HL : Hid (bb < w.heap.size) := lt_of_block h
  clear h hp
  go_enter Tryd.func47, Tryd.ntmps47
  go_wp2_with fail
  refine (bnMove2 bb _ s d a l p _ (HA.out.below (bn_bel1 w _)) HP.out (by simp [go_sem]) (by simp [go_sem]) (by have := HL.out; omega)).mono ?_
  rintro e w' ⟨rfl, ho, hn⟩
  have HO : Hid (Out (fun j => j = bb) w w') := bn_out_then (Out.of_below (bn_bel1 w _) (Nat.le_refl _)) ho
  have HA2 : Hid (BnAt w' bb s d p p) := hn
  clear ho hn
  go_wp2
  go_ret
  exact ⟨rfl, HO.out, HA2.out⟩
end Go.Proofs.YtnkfegpacfdcbaaDoor
