/-
  Orders in memory, wherever they lie, and what the document's 'in', its Curve's own test, and its loops over orders return, over this seat's translation. Conditions stand in each theorem.
-/
import Derived.Test.YtahmeoafoedebaaCuPlain
import Derived.Test.YtahmeoafoedebaaCuSort
import Derived.Sort.OwnSortedInts
import Derived.Maps.AppendAt
import Derived.Deep.Onto
namespace Go.Proofs.Ytahmeoafoedebaa
open Go.RowKit

/-- orders that lie one behind the other, from an address on -/
def OrdsIn (w : World) (a : Option Addr) (l : List Ord) : Prop := ∀ k, k < l.length → ∃ b off, a = some ⟨b, off, none⟩ ∧ w.cell? ⟨b, off + k * 5, none⟩ = some (.int .i64 (oAt l k).id) ∧ w.cell? ⟨b, off + k * 5 + 1, none⟩ = some (.int .i64 (oAt l k).side) ∧ w.cell? ⟨b, off + k * 5 + 2, none⟩ = some (.int .i64 (oAt l k).kind) ∧ w.cell? ⟨b, off + k * 5 + 3, none⟩ = some (.int .i64 (oAt l k).price) ∧ w.cell? ⟨b, off + k * 5 + 4, none⟩ = some (.int .i64 (oAt l k).qty)
theorem cu_cell {w w' : World} {p : Addr} {v : Value} (hb : Below w.heap.size w w') (h : w.cell? p = some v) : w'.cell? p = some v := (hb.cell (World.block_lt_of_cell? w _ h)).trans h
theorem OrdsIn.below {w w' : World} {a : Option Addr} {l : List Ord} (h : OrdsIn w a l) (hb : Below w.heap.size w w') : OrdsIn w' a l := fun k hk => by
  obtain ⟨b, off, e, h0, h1, h2, h3, h4⟩ := h k hk
  exact ⟨b, off, e, cu_cell hb h0, cu_cell hb h1, cu_cell hb h2, cu_cell hb h3, cu_cell hb h4⟩
theorem OrdsIn.of_row {w : World} {base : Nat} {v : Value} {l : List Ord} (h : w.ownsRow base 43 5 v l.length (oV l)) : ∃ a cap, v = .slice a l.length cap ∧ OrdsIn w a l := by
  obtain ⟨a, cap, rfl, _, _⟩ := bk_shape h
  refine ⟨a, cap, rfl, fun k hk => ?_⟩
  obtain ⟨g, cap', e, h0, h1, h2, h3, h4⟩ := row_order h hk
  simp only [Value.slice.injEq, true_and] at e
  exact ⟨g, 0, e.1, by simpa using h0, by simpa using h1, by simpa using h2, by simpa using h3, by simpa using h4⟩
theorem cu_bel1 (w : World) (o : Obj) : Below w.heap.size w (w.alloc o) := (Below.refl _ _).alloc (Nat.le_refl _) o
theorem cu_then {w w1 w2 : World} (h : Below w.heap.size w w1) (h1 : Below w1.heap.size w1 w2) : Below w.heap.size w w2 := h.trans (h1.mono h.size)
theorem cu_blk {w : World} {b j : Nat} {vs : Array Value} {t : TypeId} {v : Value} (h : w.heap[b]? = some (.cells vs t (0, 0))) (hj : vs[j]? = some v) : w.cell? ⟨b, j, none⟩ = some v := (cell_of_row w b j vs t (0, 0) h).trans hj
theorem cu_free {w : World} {b j : Nat} {vs : Array Value} {t : TypeId} (h : w.heap[b]? = some (.cells vs t (0, 0))) : w.frozen? ⟨b, j, none⟩ = false := frozen_of_row w b j vs t h
theorem cu_set {w : World} {b j : Nat} {vs : Array Value} {t : TypeId} (u : Value) (h : w.heap[b]? = some (.cells vs t (0, 0))) : (w.setCell ⟨b, j, none⟩ u).heap[b]? = some (.cells (vs.setIfInBounds j u) t (0, 0)) := heap_setCell_same w b j vs t u h
theorem cu_keep {w w' : World} {b : Nat} {o : Obj} (h : w.heap[b]? = some o) (hb : Below w.heap.size w w') : w'.heap[b]? = some o := (hb.block b (lt_of_block h)).trans h

theorem Try.infoInt : (Try.prog.info? 3).map (fun i => (i.zero, i.size, i.bytes)) = some (some (.int .i64 0), 1, 8) := by kernel_rfl
theorem Try.infoPt : (Try.prog.info? 60).map (fun i => (i.zero, i.size, i.bytes)) = some (some (.agg #[.int .i64 0, .int .i64 0, .int .i64 0]), 3, 24) := by kernel_rfl

set_option maxHeartbeats 400000 in
theorem cuIn (n lo hi : Int) (w : World) :
    Calls Try.prog 33 #[.int .i64 n, .int .i64 lo, .int .i64 hi] w fun e w' => e = .returned (.bool (inC lo hi n)) ∧ w' = w := by
  go_enter Try.func33, Try.ntmps33
  go_wp2
  all_goals
    go_ret
    refine ⟨?_, rfl⟩
    have e : ∀ {a b : Bool}, a = b → Ending.returned (.bool a) = .returned (.bool b) := fun h => by rw [h]
    exact e (by unfold inC; first | (simp [*]; done) | (simp [*]; omega))

set_option maxHeartbeats 400000 in
theorem cuOk (o : Ord) (w : World) :
    Calls Try.prog 55 #[.agg #[.int .i64 o.id, .int .i64 o.side, .int .i64 o.kind, .int .i64 o.price, .int .i64 o.qty]] w fun e w' => e = .returned (.bool (okO o)) ∧ Below w.heap.size w w' := by
  go_enter Try.func55, Try.ntmps55
  go_wp2_with fail
  refine (cuIn _ _ _ _).mono ?_
  rintro e w1 ⟨rfl, hw⟩
  subst hw
  cases h : inC 1 2 o.side with
  | false =>
    have HO : Hid (okO o = false) := by unfold okO; rw [h]; rfl
    clear h
    go_wp2_with fail
    go_ret
    exact ⟨by rw [HO.out]; rfl, cu_bel1 w _⟩
  | true =>
    have HO : Hid (okO o = inC 1 1000000 o.qty) := by unfold okO; rw [h]; rfl
    clear h
    go_wp2_with fail
    refine (cuIn _ _ _ _).mono ?_
    rintro e w1 ⟨rfl, hw⟩
    subst hw
    go_wp2_with fail
    go_ret
    exact ⟨by rw [HO.out]; rfl, cu_bel1 w _⟩
def ints (l : List Int) : List Value := l.map (Value.int .i64)
theorem ints_snoc (l : List Int) (x : Int) : ints (l ++ [x]) = ints l ++ [.int .i64 x] := by simp [ints]
theorem ints_at {l : List Int} {k : Nat} (h : k < l.length) : (ints l)[k]? = some (.int .i64 (l.getD k 0)) := by simp [ints, h]
/-- sort.Ints, at a row that the call owns -/
theorem cuSort {base : Nat} {v : Value} {xs : List Int} {w : World} (h : w.ownsRow base 3 1 v xs.length (ints xs)) (hl : xs.length ≤ 100000) :
    Calls Try.prog 56 #[v] w fun e w' => e = .returned (.tuple #[]) ∧ w'.ownsRow base 3 1 v xs.length (ints (sortI xs)) ∧ w.grownBy w' v.ownBlock := by
  rcases h.2 with ⟨rfl, hx⟩ | ⟨g, cap, cur, rfl, hg, hh, h1, h2, h3, h4⟩
  · have e0 : xs = [] := by
      cases xs with
      | nil => rfl
      | cons x xs => cases hx
    subst e0
    refine (sort_Ints_none none 0 w).mono fun e w' ⟨he, hw⟩ => ⟨he, ?_, ?_⟩
    · rw [hw, show ints (sortI []) = [] by simp [sortI, ints]]; exact World.ownsRow_nil _ _ _ _
    · rw [hw]; exact ⟨rfl, rfl, rfl, Nat.le_refl _, fun _ _ _ => rfl⟩
  · have ht : cur.toList.take xs.length = xs.map (Value.int .i64) := by simpa [ints] using h4
    refine (sort_Ints g 0 cap xs w (holds_of_blockI hh ht) (lt_of_block hh) (by omega)).mono fun e w' ⟨he, n, os, hw⟩ => ⟨he, ?_, ?_⟩
    · rw [hw]
      exact ownsRow_sortedI (ts := sortI xs) (sortI_length xs) hg hh h1 h2 h3
    · rw [hw]
      exact grownBy_sortedI _
end Go.Proofs.Ytahmeoafoedebaa
