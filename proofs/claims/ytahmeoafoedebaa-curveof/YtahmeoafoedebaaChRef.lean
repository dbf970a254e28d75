/-
  Points in memory, wherever they lie, and what the document's Choose returns, over this seat's translation. Conditions stand in each theorem: where the points lie, that they are at most 1000, and that their numbers are within 2^40.
-/
import Derived.Test.YtahmeoafoedebaaChPlain
import Derived.Test.YtahmeoafoedebaaCuCurve
import Derived.Deep.RegionHeld3
import Derived.Lib.QuietBelow
namespace Go.Proofs.Ytahmeoafoedebaa
open Go.RowKit

/-- points that lie one behind the other, from an address on -/
def PtsIn (w : World) (a : Option Addr) (l : List Pt) : Prop := ∀ k, k < l.length → ∃ b off, a = some ⟨b, off, none⟩ ∧ w.cell? ⟨b, off + k * 3, none⟩ = some (.int .i64 (ptAt l k).price) ∧ w.cell? ⟨b, off + k * 3 + 1, none⟩ = some (.int .i64 (ptAt l k).dem) ∧ w.cell? ⟨b, off + k * 3 + 2, none⟩ = some (.int .i64 (ptAt l k).sup)
theorem PtsIn.below {w w' : World} {a : Option Addr} {l : List Pt} (h : PtsIn w a l) (hb : Below w.heap.size w w') : PtsIn w' a l := fun k hk => by
  obtain ⟨b, off, e, h0, h1, h2⟩ := h k hk
  exact ⟨b, off, e, cu_cell hb h0, cu_cell hb h1, cu_cell hb h2⟩
theorem PtsIn.of_row {w : World} {base : Nat} {t : TypeId} {v : Value} {l : List Pt} (h : w.ownsRow base t 3 v l.length (ptV l)) : ∃ a cap, v = .slice a l.length cap ∧ PtsIn w a l := by
  obtain ⟨a, cap, rfl, _, _⟩ := bk_shape h
  refine ⟨a, cap, rfl, fun k hk => ?_⟩
  obtain ⟨g, cap', e, h0, h1, h2⟩ := row_pt h hk
  simp only [Value.slice.injEq, true_and] at e
  exact ⟨g, 0, e.1, by simpa using h0, by simpa using h1, by simpa using h2⟩

theorem chAbs (n : Int) (w : World) (h : -9000000000000000000 ≤ n) :
    Calls Try.prog 69 #[.int .i64 n] w fun e w' => e = .returned (.int .i64 (absI n)) ∧ w' = w := by
  by_cases hn : n < 0
  · have HA : Hid (absI n = -n) := if_pos hn
    go_enter Try.func69, Try.ntmps69
    go_wp2
    go_ret
    exact ⟨by rw [HA.out]; rfl, rfl⟩
  · have HA : Hid (absI n = n) := if_neg hn
    go_enter Try.func69, Try.ntmps69
    go_wp2
    go_ret
    exact ⟨by rw [HA.out]; rfl, rfl⟩
theorem chTraded (x : Pt) (w : World) :
    Calls Try.prog 68 #[.agg #[.int .i64 x.price, .int .i64 x.dem, .int .i64 x.sup]] w fun e w' => e = .returned (.int .i64 (trB x)) ∧ Below w.heap.size w w' := by
  have HT : Hid (trB x = min x.dem x.sup) := rfl
  go_enter Try.func68, Try.ntmps68
  go_wp2
  go_ret
  exact ⟨by rw [HT.out]; first | rfl | (congr 2; omega), cu_bel1 w _⟩
end Go.Proofs.Ytahmeoafoedebaa
