/-
  Orders and points in memory, wherever they lie, and small plain facts on what is bought and sold: what the texts on curves share. Conditions stand in each theorem.
-/
import Derived.Test.YtkfmljokenclaabDoorChPlain
import Derived.Sort.OwnSortedInts
import Derived.Maps.AppendAt
import Derived.Deep.Onto
namespace Go.Proofs.YtkfmljokenclaabDoor
open Go.RowKit

/-- orders that lie one behind the other, from an address on -/
def OrdsIn (w : World) (a : Option Addr) (l : List Ord) : Prop := ∀ k, k < l.length → ∃ b off, a = some ⟨b, off, none⟩ ∧ w.cell? ⟨b, off + k * 5, none⟩ = some (.int .i64 (oAt l k).id) ∧ w.cell? ⟨b, off + k * 5 + 1, none⟩ = some (.int .i64 (oAt l k).side) ∧ w.cell? ⟨b, off + k * 5 + 2, none⟩ = some (.int .i64 (oAt l k).kind) ∧ w.cell? ⟨b, off + k * 5 + 3, none⟩ = some (.int .i64 (oAt l k).price) ∧ w.cell? ⟨b, off + k * 5 + 4, none⟩ = some (.int .i64 (oAt l k).qty)
theorem cu_cell {w w' : World} {p : Addr} {v : Value} (hb : Below w.heap.size w w') (h : w.cell? p = some v) : w'.cell? p = some v := (hb.cell (World.block_lt_of_cell? w _ h)).trans h
theorem OrdsIn.below {w w' : World} {a : Option Addr} {l : List Ord} (h : OrdsIn w a l) (hb : Below w.heap.size w w') : OrdsIn w' a l := fun k hk => by
  obtain ⟨b, off, e, h0, h1, h2, h3, h4⟩ := h k hk
  exact ⟨b, off, e, cu_cell hb h0, cu_cell hb h1, cu_cell hb h2, cu_cell hb h3, cu_cell hb h4⟩
theorem OrdsIn.of_row {w : World} {base : Nat} {v : Value} {l : List Ord} (h : w.ownsRow base 30 5 v l.length (oV l)) : ∃ a cap, v = .slice a l.length cap ∧ OrdsIn w a l := by
  obtain ⟨a, cap, rfl, _, _⟩ := bk_shape h
  refine ⟨a, cap, rfl, fun k hk => ?_⟩
  obtain ⟨g, cap', e, h0, h1, h2, h3, h4⟩ := row_order h hk
  simp only [Value.slice.injEq, true_and] at e
  exact ⟨g, 0, e.1, by simpa using h0, by simpa using h1, by simpa using h2, by simpa using h3, by simpa using h4⟩
theorem cu_bel1 (w : World) (o : Obj) : Below w.heap.size w (w.alloc o) := (Below.refl _ _).alloc (Nat.le_refl _) o
theorem cu_then {w w1 w2 : World} (h : Below w.heap.size w w1) (h1 : Below w1.heap.size w1 w2) : Below w.heap.size w w2 := h.trans (h1.mono h.size)
theorem cu_blk {w : World} {b j : Nat} {vs : Array Value} {t : TypeId} {v : Value} (h : w.heap[b]? = some (.cells vs t (0, 0))) (hj : vs[j]? = some v) : w.cell? ⟨b, j, none⟩ = some v := (cell_of_row w b j vs t (0, 0) h).trans hj
theorem cu_free {w : World} {b j : Nat} {vs : Array Value} {t : TypeId} (h : w.heap[b]? = some (.cells vs t (0, 0))) : w.frozen? ⟨b, j, none⟩ = false := frozen_of_row w b j vs t h
theorem cu_set {w : World} {b j : Nat} {vs : Array Value} {t : TypeId} (u : Value) (h : w.heap[b]? = some (.cells vs t (0, 0))) : (w.setCell ⟨b, j, none⟩ u).heap[b]? = some (.cells (vs.setIfInBounds j u) t (0, 0)) := heap_setCell_same w b j vs t u h
theorem cu_keep {w w' : World} {b : Nat} {o : Obj} (h : w.heap[b]? = some o) (hb : Below w.heap.size w w') : w'.heap[b]? = some o := (hb.block b (lt_of_block h)).trans h

theorem Tryd.infoInt : (Tryd.prog.info? 3).map (fun i => (i.zero, i.size, i.bytes)) = some (some (.int .i64 0), 1, 8) := by kernel_rfl
def ints (l : List Int) : List Value := l.map (Value.int .i64)
theorem ints_snoc (l : List Int) (x : Int) : ints (l ++ [x]) = ints l ++ [.int .i64 x] := by simp [ints]
theorem ints_at {l : List Int} {k : Nat} (h : k < l.length) : (ints l)[k]? = some (.int .i64 (l.getD k 0)) := by simp [ints, h]
theorem pricesK_pos {l : List Ord} {more : Int} (h : 0 < more) : pricesK l more 0 = [more] := by simp [pricesK, pricesO, h]
theorem pricesK_neg {l : List Ord} {more : Int} (h : ¬ 0 < more) : pricesK l more 0 = [] := by simp [pricesK, pricesO, h]
theorem pricesK_len (l : List Ord) (more : Int) (k : Nat) (hk : k ≤ l.length) : (pricesK l more k).length ≤ k + 1 := by
  have := pricesO_len (l.take k) more
  rw [List.length_take] at this
  unfold pricesK
  omega
theorem uniqK_no {ys : List Int} {k : Nat} (h : fstB ys k = false) : uniqK ys (k + 1) = uniqK ys k := by rw [uniqK_step, if_neg (by rw [h]; decide)]
theorem uniqK_yes {ys : List Int} {k : Nat} (h : fstB ys k = true) : uniqK ys (k + 1) = uniqK ys k ++ [ys.getD k 0] := by rw [uniqK_step, if_pos h]
theorem fstB_zero (ys : List Int) : fstB ys 0 = true := rfl
theorem fstB_succ (ys : List Int) (k : Nat) : fstB ys (k + 1) = !(ys.getD k 0 == ys.getD (k + 1) 0) := by simp [fstB]
theorem dem_no {l : List Ord} {j : Nat} {p : Int} (h : j < l.length) (hb : buysB p (oAt l j) = false) : demO p (l.take (j + 1)) = demO p (l.take j) := by rw [demO_take p h, hb]; simp
theorem dem_yes {l : List Ord} {j : Nat} {p : Int} (h : j < l.length) (hb : buysB p (oAt l j) = true) : demO p (l.take (j + 1)) = demO p (l.take j) + (oAt l j).qty := by rw [demO_take p h, hb]; simp
theorem sup_no {l : List Ord} {j : Nat} {p : Int} (h : j < l.length) (hb : sellsB p (oAt l j) = false) : supO p (l.take (j + 1)) = supO p (l.take j) := by rw [supO_take p h, hb]; simp
theorem sup_yes {l : List Ord} {j : Nat} {p : Int} (h : j < l.length) (hb : sellsB p (oAt l j) = true) : supO p (l.take (j + 1)) = supO p (l.take j) + (oAt l j).qty := by rw [supO_take p h, hb]; simp
theorem buys_out {p : Int} {o : Ord} (h : okO o = false) : buysB p o = false := by unfold buysB; rw [h]; rfl
theorem sells_out {p : Int} {o : Ord} (h : okO o = false) : sellsB p o = false := by unfold sellsB; rw [h]; rfl
theorem buys_side {p : Int} {o : Ord} (h : o.side = 2) : buysB p o = false := by unfold buysB; rw [h]; simp
theorem sells_side {p : Int} {o : Ord} (h : o.side = 1) : sellsB p o = false := by unfold sellsB; rw [h]; simp
theorem buys_mk {p : Int} {o : Ord} (h : okO o = true) (h1 : o.side = 1) (h2 : o.kind = 2) : buysB p o = true := by unfold buysB; rw [h, h1, h2]; simp
theorem sells_mk {p : Int} {o : Ord} (h : okO o = true) (h1 : o.side = 2) (h2 : o.kind = 2) : sellsB p o = true := by unfold sellsB; rw [h, h1, h2]; simp
theorem buys_lim {p : Int} {o : Ord} (h : okO o = true) (h1 : o.side = 1) (h2 : p ≤ o.price) : buysB p o = true := by unfold buysB; rw [h, h1]; simp [h2]
theorem sells_lim {p : Int} {o : Ord} (h : okO o = true) (h1 : o.side = 2) (h2 : o.price ≤ p) : sellsB p o = true := by unfold sellsB; rw [h, h1]; simp [h2]
theorem buys_not {p : Int} {o : Ord} (h1 : ¬ o.kind = 2) (h2 : ¬ p ≤ o.price) : buysB p o = false := by unfold buysB; simp [h1, h2]
theorem sells_not {p : Int} {o : Ord} (h1 : ¬ o.kind = 2) (h2 : ¬ o.price ≤ p) : sellsB p o = false := by unfold sellsB; simp [h1, h2]
theorem owns_base {w : World} {base base' : Nat} {e : TypeId} {size : Nat} {v : Value} {n : Nat} {xs : List Value} (h : w.ownsRow base e size v n xs) (hb : base' ≤ base) : w.ownsRow base' e size v n xs :=
  ⟨h.1, h.2.imp id (fun ⟨g, cap, cur, e, hg, r⟩ => ⟨g, cap, cur, e, Nat.le_trans hb hg, r⟩)⟩
def ptOf (l : List Ord) (p : Int) : Pt := ⟨p, demO p l, supO p l⟩

/-- points that lie one behind the other, from an address on -/
def PtsIn (w : World) (a : Option Addr) (l : List Pt) : Prop := ∀ k, k < l.length → ∃ b off, a = some ⟨b, off, none⟩ ∧ w.cell? ⟨b, off + k * 3, none⟩ = some (.int .i64 (ptAt l k).price) ∧ w.cell? ⟨b, off + k * 3 + 1, none⟩ = some (.int .i64 (ptAt l k).dem) ∧ w.cell? ⟨b, off + k * 3 + 2, none⟩ = some (.int .i64 (ptAt l k).sup)
theorem PtsIn.below {w w' : World} {a : Option Addr} {l : List Pt} (h : PtsIn w a l) (hb : Below w.heap.size w w') : PtsIn w' a l := fun k hk => by
  obtain ⟨b, off, e, h0, h1, h2⟩ := h k hk
  exact ⟨b, off, e, cu_cell hb h0, cu_cell hb h1, cu_cell hb h2⟩
theorem PtsIn.of_row {w : World} {base : Nat} {t : TypeId} {v : Value} {l : List Pt} (h : w.ownsRow base t 3 v l.length (ptV l)) : ∃ a cap, v = .slice a l.length cap ∧ PtsIn w a l := by
  obtain ⟨a, cap, rfl, _, _⟩ := bk_shape h
  refine ⟨a, cap, rfl, fun k hk => ?_⟩
  obtain ⟨g, cap', e, h0, h1, h2⟩ := row_pt h hk
  simp only [Value.slice.injEq, true_and] at e
  exact ⟨g, 0, e.1, by simpa using h0, by simpa using h1, by simpa using h2⟩

def QuoAt (w : World) (qb : Nat) : Prop := w.heap[qb]? = some (.cells #[.int .i64 0, .int .i64 0, .int .i64 0] 48 (0, 0))
theorem QuoAt.below {w w' : World} {qb : Nat} (h : QuoAt w qb) (hb : Below w.heap.size w w') : QuoAt w' qb := cu_keep h hb
end Go.Proofs.YtkfmljokenclaabDoor
