/-
  Points in memory, wherever they lie, and what the document's Choose returns, over this seat's translation. Conditions stand in each theorem: where the points lie, that they are at most 1000, and that their numbers are within 2^40.
-/
import Derived.Test.YtkfmljokenclaabDoorChPlain
import Derived.Test.YtkfmljokenclaabDoorCuCurve
import Derived.Deep.RegionHeld3
import Derived.Lib.QuietBelow
namespace Go.Proofs.YtkfmljokenclaabDoor
open Go.RowKit

theorem chAbs (n : Int) (w : World) (h : -9000000000000000000 ≤ n) :
    Calls Tryd.prog 25 #[.int .i64 n] w fun e w' => e = .returned (.int .i64 (absI n)) ∧ w' = w := by
  by_cases hn : n < 0
  · have HA : Hid (absI n = -n) := if_pos hn
    go_enter Tryd.func25, Tryd.ntmps25
    go_wp2
    go_ret
    exact ⟨by rw [HA.out]; rfl, rfl⟩
  · have HA : Hid (absI n = n) := if_neg hn
    go_enter Tryd.func25, Tryd.ntmps25
    go_wp2
    go_ret
    exact ⟨by rw [HA.out]; rfl, rfl⟩
theorem chTraded (x : Pt) (w : World) :
    Calls Tryd.prog 24 #[.agg #[.int .i64 x.price, .int .i64 x.dem, .int .i64 x.sup]] w fun e w' => e = .returned (.int .i64 (trB x)) ∧ Below w.heap.size w w' := by
  have HT : Hid (trB x = min x.dem x.sup) := rfl
  go_enter Tryd.func24, Tryd.ntmps24
  go_wp2
  go_ret
  exact ⟨by rw [HT.out]; first | rfl | (congr 2; omega), cu_bel1 w _⟩
end Go.Proofs.YtkfmljokenclaabDoor
