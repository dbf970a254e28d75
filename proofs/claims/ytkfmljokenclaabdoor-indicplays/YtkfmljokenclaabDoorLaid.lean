/-
  What the row's list of package variables gives: the cell of errors.errorType holds the handle of the type error (ErrT); and the closed facts on the program that every row of this seat asks.
-/
import Derived.Test.YtkfmljokenclaabDoorErrFacts
import Derived.LaidLaws
import Derived.LaidHandle
namespace Go.Proofs.YtkfmljokenclaabDoor
open Go.RowKit

theorem Tryd.own : ownKnob Tryd.prog.godebug = none := by kernel_rfl
theorem Tryd.et : Tryd.prog.globalNamed "errors.errorType" = some 0 := by kernel_rfl
/-- the name of the dynamic type that the row lays in errors.errorType -/
def rtName : String := match (Rows.laid_errors_errorType : DataW Unit) with | .iface n _ => n | _ => default
theorem Tryd.rt : (Tryd.prog.cutTypes.find? (·.1 == rtName)).map (·.2) = some 135 := by kernel_rfl
theorem Tryd.oneRow : ((List.range 178).filter fun t => Tryd.prog.rowNamed t [101, 114, 114, 111, 114]) = [39] := by kernel_rfl
theorem Tryd.size : Tryd.prog.types.size = 178 := by kernel_rfl

def laidList : List (String × DataW Unit) := [("errors.errorType", Rows.laid_errors_errorType)]

theorem errT_of_laid {W : World} (h : laidMetH Tryd.prog laidList W) : ErrT W := by
  have h' : laidMet Tryd.prog [] W ∧ handlesMet Tryd.prog laidList W := h
  obtain ⟨name, u, ty, e1, e2, e3, e4, e5⟩ := h'.2 _ (List.mem_singleton.2 rfl)
  have en : name = [101, 114, 114, 111, 114] := (Option.some.inj e1).symm
  subst en
  obtain rfl := Option.some.inj (Tryd.rt.symm.trans e2)
  have hm : ty ∈ (List.range 178).filter fun t => Tryd.prog.rowNamed t [101, 114, 114, 111, 114] := List.mem_filter.2 ⟨List.mem_range.2 (by rw [← Tryd.size]; exact e3), e4⟩
  rw [Tryd.oneRow] at hm
  obtain rfl := List.mem_singleton.1 hm
  have hh : typeHandle Tryd.prog 39 = .pointer (some ⟨1, 39, none⟩) := by kernel_rfl
  rw [hh] at e5
  simpa [ErrT] using World.var?_cell Tryd.et e5 0

/-- A world, the cell of errors.errorType laid. -/
def withErrT (w : World) : World := { w with heap := w.heap.modify 0 fun
  | .cells _ t frozen => .cells #[.iface 135 (.agg #[.pointer (some ⟨1, 39, none⟩)])] t frozen
  | o => o }
end Go.Proofs.YtkfmljokenclaabDoor
