/-
  What package bands' functions, and the document's own Calm and Allows, return over this seat's translation, told by the plain functions of Num. Conditions stand in each theorem: where the bands, or the market, lie.
-/
import Derived.Test.YtnkfegpacfdcbaaDoorNum
import Derived.Test.YtnkfegpacfdcbaaDoorArSl
import Derived.WalkSpells
import Derived.WalkLawsBesides
import Derived.Handy
import Derived.BigQuiet
import Derived.OwnWalk
import Derived.OneCell
import Derived.Deep.QuietTactic
import Derived.Lib.QuietBelow
namespace Go.Proofs.YtnkfegpacfdcbaaDoor
open Go.RowKit

theorem bn_cell {w : World} {b j : Nat} {vs : Array Value} {t : TypeId} {v : Value} (h : w.heap[b]? = some (.cells vs t (0, 0))) (hj : vs[j]? = some v) : w.cell? ⟨b, j, none⟩ = some v := (cell_of_row w b j vs t (0, 0) h).trans hj
theorem bn_free {w : World} {b j : Nat} {vs : Array Value} {t : TypeId} (h : w.heap[b]? = some (.cells vs t (0, 0))) : w.frozen? ⟨b, j, none⟩ = false := frozen_of_row w b j vs t h
theorem bn_set {w : World} {b j : Nat} {vs : Array Value} {t : TypeId} (u : Value) (h : w.heap[b]? = some (.cells vs t (0, 0))) : (w.setCell ⟨b, j, none⟩ u).heap[b]? = some (.cells (vs.setIfInBounds j u) t (0, 0)) := heap_setCell_same w b j vs t u h
theorem bn_below {w w' : World} {b B : Nat} {o : Obj} (h : w.heap[b]? = some o) (hb : Below B w w') (hB : w.heap.size ≤ B) : w'.heap[b]? = some o := (hb.block b (Nat.lt_of_lt_of_le (lt_of_block h) hB)).trans h
theorem bn_out {S : Nat → Prop} {w w' : World} {b : Nat} {o : Obj} (h : w.heap[b]? = some o) (hb : Out S w w') (hS : ¬ S b) : w'.heap[b]? = some o := (hb.block b (lt_of_block h) hS).trans h
theorem bn_out_set (w : World) (a : Addr) (u : Value) : Out (fun j => j = a.block) w (w.setCell a u) := ⟨rfl, rfl, rfl, by simp, fun j _ hj => Below.heap_setCell _ _ _ _ (fun e => hj e)⟩
theorem bn_bel1 (w : World) (o : Obj) : Below w.heap.size w (w.alloc o) := (Below.refl _ _).alloc (Nat.le_refl _) o
theorem bn_then {w w1 w2 : World} (h : Below w.heap.size w w1) (h1 : Below w1.heap.size w1 w2) : Below w.heap.size w w2 := h.trans (h1.mono h.size)
theorem bn_out_then {S : Nat → Prop} {w w1 w2 : World} (h : Out S w w1) (h1 : Out S w1 w2) : Out S w w2 := h.trans h1 (Went.refl _ _)

/-- In w block bb is bands: their shares, and the prices around which they lie. -/
def BnAt (w : World) (bb : Nat) (s d a l : Int) : Prop := w.heap[bb]? = some (.cells #[.int .i64 s, .int .i64 d, .int .i64 a, .int .i64 l] 168 (0, 0))
theorem BnAt.below {w w' : World} {bb : Nat} {s d a l : Int} (h : BnAt w bb s d a l) (hb : Below w.heap.size w w') : BnAt w' bb s d a l := bn_below h hb (Nat.le_refl _)

/-- the error that Band makes -/
def bandEV (p s : Int) : Value := if bandOk p s = true then .nilIface else .iface 22 (.int .i64 2)
theorem Band_is (p s : Int) (w : World) :
    Calls Tryd.prog 10 #[.int .i64 p, .int .i64 s] w fun e w' => e = .returned (.tuple #[.int .i64 (bandL p s), .int .i64 (bandH p s), bandEV p s]) ∧ Below w.heap.size w w' := by
  cases h : bandOk p s with
  | true =>
    obtain ⟨hp, hs⟩ := bandOk_true h
    exact (Band_ok p s w hp hs).mono fun _ _ ⟨he, hb⟩ => ⟨by rw [he, bandL_ok h, bandH_ok h, show bandEV p s = .nilIface from if_pos h], hb⟩
  | false => exact (Band_no p s w h).mono fun _ _ ⟨he, hb⟩ => ⟨by rw [he, bandL_no h, bandH_no h, show bandEV p s = .iface 22 (.int .i64 2) from if_neg (by rw [h]; decide)], hb⟩

set_option maxRecDepth 4000 in
set_option maxHeartbeats 1000000 in
theorem bnBand0 (bb : Nat) (s d a l : Int) (w : World) (h : BnAt w bb s d a l) :
    Calls Tryd.prog 85 #[.pointer (some ⟨bb, 0, none⟩), .int .i64 0] w fun e w' => e = .returned (.tuple #[.int .i64 (bandL a s), .int .i64 (bandH a s)]) ∧ Below w.heap.size w w' := by
  have k0 := cell_regrown (bn_cell (j := 0) h rfl)
  have k2 := cell_regrown (bn_cell (j := 2) h rfl)
  have cB : ∀ dq os, Calls Tryd.prog 10 #[.int .i64 a, .int .i64 s] (Go.Sort.grow (redrawn w dq) os) fun e w'' => e = .returned (.tuple #[.int .i64 (bandL a s), .int .i64 (bandH a s), bandEV a s]) ∧ ∃ p : Regrown, w'' = Go.Sort.grow (redrawn w p.d) p.os := fun dq os => Calls.regrown_of (Band_is a s _)
  clear h
  go_enter Tryd.func85, Tryd.ntmps85
  go_wp2_with fail
  refine wp_region_quiet_below (by kernel_rfl) (by kernel_rfl) ?_
  repeat (go_big_quiet_step (exact cB _ _))
  refine wpQuiet_nil ?_
  intro _ hw'
  obtain ⟨⟨dq, osq⟩, hw''⟩ := hw'
  subst hw''
  go_wp2
  go_ret2
  exact ⟨rfl, below_regrown w dq osq⟩
set_option maxRecDepth 4000 in
set_option maxHeartbeats 1000000 in
theorem bnBand1 (bb : Nat) (s d a l : Int) (w : World) (h : BnAt w bb s d a l) :
    Calls Tryd.prog 85 #[.pointer (some ⟨bb, 0, none⟩), .int .i64 1] w fun e w' => e = .returned (.tuple #[.int .i64 (bandL l d), .int .i64 (bandH l d)]) ∧ Below w.heap.size w w' := by
  have k1 := cell_regrown (bn_cell (j := 1) h rfl)
  have k3 := cell_regrown (bn_cell (j := 3) h rfl)
  have cB : ∀ dq os, Calls Tryd.prog 10 #[.int .i64 l, .int .i64 d] (Go.Sort.grow (redrawn w dq) os) fun e w'' => e = .returned (.tuple #[.int .i64 (bandL l d), .int .i64 (bandH l d), bandEV l d]) ∧ ∃ p : Regrown, w'' = Go.Sort.grow (redrawn w p.d) p.os := fun dq os => Calls.regrown_of (Band_is l d _)
  clear h
  go_enter Tryd.func85, Tryd.ntmps85
  go_wp2_with fail
  refine wp_region_quiet_below (by kernel_rfl) (by kernel_rfl) ?_
  repeat (go_big_quiet_step (exact cB _ _))
  refine wpQuiet_nil ?_
  intro _ hw'
  obtain ⟨⟨dq, osq⟩, hw''⟩ := hw'
  subst hw''
  go_wp2
  go_ret2
  exact ⟨rfl, below_regrown w dq osq⟩
end Go.Proofs.YtnkfegpacfdcbaaDoor
