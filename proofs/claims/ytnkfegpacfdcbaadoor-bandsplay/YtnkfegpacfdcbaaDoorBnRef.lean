/-
  What the document's own Calm and Allows return, over this seat's translation. Conditions stand in each theorem: where the market lies.
-/
import Derived.Test.YtnkfegpacfdcbaaDoorBnMove
namespace Go.Proofs.YtnkfegpacfdcbaaDoor
open Go.RowKit

/-- In w block mb is the document's market, of which the bands alone are told. -/
def MkAt (w : World) (mb : Nat) (s d a l : Int) : Prop := w.heap[mb]? = some (.cells #[.slice none 0 0, .int .i64 s, .int .i64 d, .int .i64 a, .int .i64 l, .int .i64 0, .int .i64 0, .slice none 0 0, .slice none 0 0, .slice none 0 0, .int .i64 0, .int .i64 0, .int .i64 0, .int .i64 0] 105 (0, 0))
theorem MkAt.below {w w' : World} {mb : Nat} {s d a l : Int} (h : MkAt w mb s d a l) (hb : Below w.heap.size w w') : MkAt w' mb s d a l := bn_below h hb (Nat.le_refl _)

set_option maxRecDepth 4000 in
set_option maxHeartbeats 1000000 in
theorem mkCalm (mb : Nat) (s d a l p : Int) (w : World) (h : MkAt w mb s d a l) :
    Calls Tryd.prog 53 #[.pointer (some ⟨mb, 0, none⟩), .int .i64 p] w fun e w' => e = .returned (.bool (calmB s a p)) ∧ Below w.heap.size w w' := by
  have k1 := cell_regrown (bn_cell (j := 1) h rfl)
  have k3 := cell_regrown (bn_cell (j := 3) h rfl)
  have cB : ∀ dq os, Calls Tryd.prog 9 #[.int .i64 a, .int .i64 s] (Go.Sort.grow (redrawn w dq) os) fun e w'' => e = .returned (.tuple #[.int .i64 (bandL a s), .int .i64 (bandH a s), .int .i64 (bandE a s)]) ∧ ∃ p : Regrown, w'' = Go.Sort.grow (redrawn w p.d) p.os := fun dq os => Calls.regrown_of ((refBand_any a s _).mono fun e w' ⟨he, hw⟩ => ⟨he, by rw [hw]; exact Below.refl _ _⟩)
  clear h
  go_enter Tryd.func53, Tryd.ntmps53
  go_wp2_with fail
  refine wp_region_quiet_below (by kernel_rfl) (by kernel_rfl) ?_
  repeat (go_big_quiet_step (exact cB _ _))
  refine wpQuiet_nil ?_
  intro _ hw'
  obtain ⟨⟨dq, osq⟩, hw''⟩ := hw'
  subst hw''
  have hbw := below_regrown w dq osq
  generalize Go.Sort.grow (redrawn w dq) osq = w5 at hbw ⊢
  clear k1 k3 cB
  go_wp2_with fail
  refine (in_any p _ _ _).mono ?_
  rintro e w' ⟨rfl, rfl⟩
  go_wp2
  go_ret
  exact ⟨rfl, hbw⟩
set_option maxRecDepth 4000 in
set_option maxHeartbeats 1000000 in
theorem mkAllows (mb : Nat) (s d a l p : Int) (w : World) (h : MkAt w mb s d a l) :
    Calls Tryd.prog 55 #[.pointer (some ⟨mb, 0, none⟩), .int .i64 p] w fun e w' => e = .returned (.bool (allowsB s d a l p)) ∧ Below w.heap.size w w' := by
  have k2 := cell_regrown (bn_cell (j := 2) h rfl)
  have k4 := cell_regrown (bn_cell (j := 4) h rfl)
  have cB : ∀ dq os, Calls Tryd.prog 9 #[.int .i64 l, .int .i64 d] (Go.Sort.grow (redrawn w dq) os) fun e w'' => e = .returned (.tuple #[.int .i64 (bandL l d), .int .i64 (bandH l d), .int .i64 (bandE l d)]) ∧ ∃ p : Regrown, w'' = Go.Sort.grow (redrawn w p.d) p.os := fun dq os => Calls.regrown_of ((refBand_any l d _).mono fun e w' ⟨he, hw⟩ => ⟨he, by rw [hw]; exact Below.refl _ _⟩)
  have HA : Hid (MkAt w mb s d a l) := h
  clear h
  go_enter Tryd.func55, Tryd.ntmps55
  go_wp2_with fail
  refine wp_region_quiet_below (by kernel_rfl) (by kernel_rfl) ?_
  repeat (go_big_quiet_step (exact cB _ _))
  refine wpQuiet_nil ?_
  intro _ hw'
  obtain ⟨⟨dq, osq⟩, hw''⟩ := hw'
  subst hw''
  have hbw := below_regrown w dq osq
  generalize Go.Sort.grow (redrawn w dq) osq = w5 at hbw ⊢
  have HB : Hid (Below w.heap.size w w5) := hbw
  clear k2 k4 cB hbw
  go_wp2_with fail
  refine (mkCalm mb s d a l p _ (HA.out.below HB.out)).mono ?_
  rintro e w6 ⟨rfl, hb6⟩
  have HB6 : Hid (Below w.heap.size w w6) := bn_then HB.out hb6
  clear hb6
  cases hc : calmB s a p with
  | true =>
    have HC : Hid (allowsB s d a l p = calmB d l p) := by unfold allowsB; rw [hc]; rfl
    clear hc
    go_wp2_with fail
    refine (in_any p _ _ _).mono ?_
    rintro e w' ⟨rfl, rfl⟩
    go_wp2
    go_ret
    exact ⟨by rw [HC.out]; rfl, HB6.out⟩
  | false =>
    have HC : Hid (allowsB s d a l p = false) := by unfold allowsB; rw [hc]; rfl
    clear hc
    go_wp2_with fail
    go_ret
    exact ⟨by rw [HC.out]; rfl, HB6.out⟩
end Go.Proofs.YtnkfegpacfdcbaaDoor
