/-
  What Calm and Allows of package bands, and the document's, return, over this seat's translation, and what Trade and Fix change. Conditions stand in each theorem: where the bands, or the market, lie.
-/
import Derived.Test.YtnkfegpacfdcbaaDoorBnOps
namespace Go.Proofs.YtnkfegpacfdcbaaDoor
open Go.RowKit

/-- 5.1: does a price lie in the static band? -/
def calmB (s a p : Int) : Bool := inB (bandL a s) (bandH a s) p
/-- 5.1: in both? -/
def allowsB (s d a l p : Int) : Bool := calmB s a p && calmB d l p

set_option maxRecDepth 4000 in
set_option maxHeartbeats 4000000 in
theorem bnWithin1 (bb g : Nat) (s d a l p : Int) (w : World) (h : BnAt w bb s d a l) (hg : w.cell? ⟨g, 0, none⟩ = some (.int .i64 0)) :
    Calls Tryd.prog 86 #[.pointer (some ⟨bb, 0, none⟩), .int .i64 p, .slice (some ⟨g, 0, none⟩) 1 1] w fun e w' => e = .returned (.bool (calmB s a p)) ∧ Below w.heap.size w w' := by
  have HA : Hid (BnAt w bb s d a l) := h
  have HG : Hid (w.cell? ⟨g, 0, none⟩ = some (.int .i64 0)) := hg
  clear h hg
  go_enter Tryd.func86, Tryd.ntmps86
  go_wp2
  go_loopw [13] (fun v wr => ∃ k : Nat, k ≤ 1 ∧ v = .int .i64 k ∧ Below w.heap.size w wr ∧ (k = 1 → calmB s a p = true)) (fun v _ => 1 - (intOf v).toNat)
  case atStart => exact ⟨0, by omega, rfl, Below.refl _ _, fun h => absurd h (by decide)⟩
  case round =>
    obtain ⟨k, hk, rfl, hb, hq⟩ := hrel
    have HB : Hid (Below w.heap.size w wr) := hb
    have HQ : Hid (k = 1 → calmB s a p = true) := hq
    clear hb hq
    have hk01 : k = 0 ∨ k = 1 := by omega
    rcases hk01 with rfl | rfl
    · have c0 := (HB.out.cell (p := ⟨g, 0, none⟩) (World.block_lt_of_cell? w _ HG.out)).trans HG.out
      go_wp2_with fail
      refine (bnBand0 bb s d a l _ (HA.out.below HB.out)).mono ?_
      rintro e w1 ⟨rfl, hb1⟩
      have HB1 : Hid (Below w.heap.size w w1) := bn_then HB.out hb1
      clear hb1 c0
      cases hc : calmB s a p with
      | true =>
        obtain ⟨h1, h2⟩ := inB_true (lo := bandL a s) (hi := bandH a s) (z := p) hc
        have HC : Hid (calmB s a p = true) := hc
        clear hc
        go_wp2
        go_roundw
        case rel => exact ⟨1, by omega, rfl, HB1.out, fun _ => HC.out⟩
        case measure => simp [intOf]
      | false =>
        have h1 := inB_false (lo := bandL a s) (hi := bandH a s) (z := p) hc
        have HC : Hid (calmB s a p = false) := hc
        clear hc
        by_cases h2 : p < bandL a s
        · go_wp2
          go_ret
          exact ⟨by rw [HC.out]; rfl, HB1.out⟩
        · have h3 : bandH a s < p := by omega
          go_wp2
          go_ret
          exact ⟨by rw [HC.out]; rfl, HB1.out⟩
    · go_wp2
      go_ret
      exact ⟨by rw [HQ.out (by trivial)]; rfl, HB.out⟩

set_option maxRecDepth 4000 in
set_option maxHeartbeats 4000000 in
theorem bnWithin2 (bb g : Nat) (s d a l p : Int) (w : World) (h : BnAt w bb s d a l) (hg : w.cell? ⟨g, 0, none⟩ = some (.int .i64 0)) (hg1 : w.cell? ⟨g, 1, none⟩ = some (.int .i64 1)) :
    Calls Tryd.prog 86 #[.pointer (some ⟨bb, 0, none⟩), .int .i64 p, .slice (some ⟨g, 0, none⟩) 2 2] w fun e w' => e = .returned (.bool (allowsB s d a l p)) ∧ Below w.heap.size w w' := by
  have HA : Hid (BnAt w bb s d a l) := h
  have HG : Hid (w.cell? ⟨g, 0, none⟩ = some (.int .i64 0)) := hg
  have HG1 : Hid (w.cell? ⟨g, 1, none⟩ = some (.int .i64 1)) := hg1
  clear h hg hg1
  go_enter Tryd.func86, Tryd.ntmps86
  go_wp2
  go_loopw [13] (fun v wr => ∃ k : Nat, k ≤ 2 ∧ v = .int .i64 k ∧ Below w.heap.size w wr ∧ (1 ≤ k → calmB s a p = true) ∧ (k = 2 → calmB d l p = true)) (fun v _ => 2 - (intOf v).toNat)
  case atStart => exact ⟨0, by omega, rfl, Below.refl _ _, fun h => absurd h (by decide), fun h => absurd h (by decide)⟩
  case round =>
    obtain ⟨k, hk, rfl, hb, hq, hq2⟩ := hrel
    have HB : Hid (Below w.heap.size w wr) := hb
    have HQ : Hid (1 ≤ k → calmB s a p = true) := hq
    have HQ2 : Hid (k = 2 → calmB d l p = true) := hq2
    clear hb hq hq2
    have hk01 : k = 0 ∨ k = 1 ∨ k = 2 := by omega
    rcases hk01 with rfl | rfl | rfl
    · have c0 := (HB.out.cell (p := ⟨g, 0, none⟩) (World.block_lt_of_cell? w _ HG.out)).trans HG.out
      go_wp2_with fail
      refine (bnBand0 bb s d a l _ (HA.out.below HB.out)).mono ?_
      rintro e w1 ⟨rfl, hb1⟩
      have HB1 : Hid (Below w.heap.size w w1) := bn_then HB.out hb1
      clear hb1 c0
      cases hc : calmB s a p with
      | true =>
        obtain ⟨h1, h2⟩ := inB_true (lo := bandL a s) (hi := bandH a s) (z := p) hc
        have HC : Hid (calmB s a p = true) := hc
        clear hc
        go_wp2
        go_roundw
        case rel => exact ⟨1, by omega, rfl, HB1.out, fun _ => HC.out, fun h => absurd h (by decide)⟩
        case measure => simp [intOf]
      | false =>
        have h1 := inB_false (lo := bandL a s) (hi := bandH a s) (z := p) hc
        have HC : Hid (allowsB s d a l p = false) := by unfold allowsB; rw [hc]; rfl
        clear hc
        by_cases h2 : p < bandL a s
        · go_wp2
          go_ret
          exact ⟨by rw [HC.out]; rfl, HB1.out⟩
        · have h3 : bandH a s < p := by omega
          go_wp2
          go_ret
          exact ⟨by rw [HC.out]; rfl, HB1.out⟩
    · have c1 := (HB.out.cell (p := ⟨g, 1, none⟩) (World.block_lt_of_cell? w _ HG1.out)).trans HG1.out
      have HC0 : Hid (calmB s a p = true) := HQ.out (Nat.le_refl _)
      go_wp2_with fail
      refine (bnBand1 bb s d a l _ (HA.out.below HB.out)).mono ?_
      rintro e w1 ⟨rfl, hb1⟩
      have HB1 : Hid (Below w.heap.size w w1) := bn_then HB.out hb1
      clear hb1 c1
      cases hc : calmB d l p with
      | true =>
        obtain ⟨h1, h2⟩ := inB_true (lo := bandL l d) (hi := bandH l d) (z := p) hc
        have HC : Hid (calmB d l p = true) := hc
        clear hc
        go_wp2
        go_roundw
        case rel => exact ⟨2, by omega, rfl, HB1.out, fun _ => HC0.out, fun _ => HC.out⟩
        case measure => simp [intOf]
      | false =>
        have h1 := inB_false (lo := bandL l d) (hi := bandH l d) (z := p) hc
        have HC : Hid (allowsB s d a l p = false) := by unfold allowsB; rw [HC0.out, hc]; rfl
        clear hc
        by_cases h2 : p < bandL l d
        · go_wp2
          go_ret
          exact ⟨by rw [HC.out]; rfl, HB1.out⟩
        · have h3 : bandH l d < p := by omega
          go_wp2
          go_ret
          exact ⟨by rw [HC.out]; rfl, HB1.out⟩
    · have HC : Hid (allowsB s d a l p = true) := by unfold allowsB; rw [HQ.out (by decide), HQ2.out rfl]; rfl
      go_wp2
      go_ret
      exact ⟨by rw [HC.out]; rfl, HB.out⟩

theorem bnCalm (bb : Nat) (s d a l p : Int) (w : World) (h : BnAt w bb s d a l) :
    Calls Tryd.prog 52 #[.pointer (some ⟨bb, 0, none⟩), .int .i64 p] w fun e w' => e = .returned (.bool (calmB s a p)) ∧ Below w.heap.size w w' := by
  have HA : Hid (BnAt w bb s d a l) := h
  clear h
  go_enter Tryd.func52, Tryd.ntmps52
  go_wp2_with fail
  refine (bnWithin1 bb _ s d a l p _ (HA.out.below (bn_bel1 w _)) (by simp [go_sem])).mono ?_
  rintro e w' ⟨rfl, hb⟩
  have HB : Hid (Below w.heap.size w w') := bn_then (bn_bel1 w _) hb
  clear hb
  go_wp2
  go_ret
  exact ⟨rfl, HB.out⟩
theorem bnAllows (bb : Nat) (s d a l p : Int) (w : World) (h : BnAt w bb s d a l) :
    Calls Tryd.prog 54 #[.pointer (some ⟨bb, 0, none⟩), .int .i64 p] w fun e w' => e = .returned (.bool (allowsB s d a l p)) ∧ Below w.heap.size w w' := by
  have HA : Hid (BnAt w bb s d a l) := h
  clear h
  go_enter Tryd.func54, Tryd.ntmps54
  go_wp2_with fail
  refine (bnWithin2 bb _ s d a l p _ (HA.out.below (bn_bel1 w _)) (by simp [go_sem]) (by simp [go_sem])).mono ?_
  rintro e w' ⟨rfl, hb⟩
  have HB : Hid (Below w.heap.size w w') := bn_then (bn_bel1 w _) hb
  clear hb
  go_wp2
  go_ret
  exact ⟨rfl, HB.out⟩
end Go.Proofs.YtnkfegpacfdcbaaDoor
