/-
  No price does more, as plain lists: at no price at all would more be traded than at the point that is chosen of a curve; and what is told of that point is what would be bought and sold there. No program is named here.
-/
import Derived.Test.YtcoijhofliilmabHI
import Derived.Sort.OwnSortedInts
import Derived.Maps.AppendAt
import Derived.Deep.Onto
import Derived.Deep.CutRange
import Derived.Deep.RegionWith
import Derived.Test.YtcoijhofliilmabHH
namespace Go.Proofs.Ytcoijhofliilmab
open Go.RowKit

theorem sum_le {l : List Ord} {f g : Ord → Bool} (h : ∀ o ∈ l, f o = true → g o = true) (hq : ∀ o ∈ l, g o = true → 0 ≤ o.qty) : (l.map fun o => if f o = true then o.qty else 0).sum ≤ (l.map fun o => if g o = true then o.qty else 0).sum := by
  induction l with
  | nil => simp
  | cons o l ih =>
    have ih' := ih (fun o ho => h o (List.mem_cons_of_mem _ ho)) (fun o ho => hq o (List.mem_cons_of_mem _ ho))
    have h1 := h o (List.mem_cons_self ..)
    have h2 := hq o (List.mem_cons_self ..)
    rw [List.map_cons, List.map_cons, List.sum_cons, List.sum_cons]
    by_cases hf : f o = true
    · rw [if_pos hf, if_pos (h1 hf)]; omega
    · rw [if_neg hf]
      by_cases hg : g o = true
      · rw [if_pos hg]; have := h2 hg; omega
      · rw [if_neg hg]; omega
theorem dem_le {l : List Ord} {p q : Int} (h : ∀ o ∈ l, buysB p o = true → buysB q o = true) : demO p l ≤ demO q l :=
  sum_le h (fun o _ hb => by have := (okO_qty (buysB_ok hb)).2; omega)
theorem sup_le {l : List Ord} {p q : Int} (h : ∀ o ∈ l, sellsB p o = true → sellsB q o = true) : supO p l ≤ supO q l :=
  sum_le h (fun o _ hb => by have := (okO_qty (sellsB_ok hb)).2; omega)
/-- the greatest of those that are no greater than p, or none is -/
theorem top_below (p : Int) : ∀ l : List Int, (∀ x ∈ l, p < x) ∨ ∃ q ∈ l, q ≤ p ∧ ∀ x ∈ l, x ≤ p → x ≤ q
  | [] => Or.inl (fun x hx => by cases hx)
  | y :: l => by
    rcases top_below p l with h | ⟨q, hq, h1, h2⟩
    · by_cases hy : y ≤ p
      · refine Or.inr ⟨y, List.mem_cons_self .., hy, fun x hx hxp => ?_⟩
        rw [List.mem_cons] at hx
        rcases hx with rfl | hx
        · exact Int.le_refl _
        · have := h x hx; omega
      · refine Or.inl (fun x hx => ?_)
        rw [List.mem_cons] at hx
        rcases hx with rfl | hx
        · omega
        · exact h x hx
    · by_cases hy : y ≤ p ∧ q ≤ y
      · refine Or.inr ⟨y, List.mem_cons_self .., hy.1, fun x hx hxp => ?_⟩
        rw [List.mem_cons] at hx
        rcases hx with rfl | hx
        · exact Int.le_refl _
        · have := h2 x hx hxp; omega
      · refine Or.inr ⟨q, List.mem_cons_of_mem _ hq, h1, fun x hx hxp => ?_⟩
        rw [List.mem_cons] at hx
        rcases hx with rfl | hx
        · omega
        · exact h2 x hx hxp
theorem least_of : ∀ l : List Int, l ≠ [] → ∃ q ∈ l, ∀ x ∈ l, q ≤ x
  | [], h => absurd rfl h
  | [y], _ => ⟨y, List.mem_cons_self .., fun x hx => by rw [List.mem_singleton] at hx; omega⟩
  | y :: z :: l, _ => by
    obtain ⟨q, hq, h1⟩ := least_of (z :: l) (by simp)
    by_cases hy : y ≤ q
    · refine ⟨y, List.mem_cons_self .., fun x hx => ?_⟩
      rw [List.mem_cons] at hx
      rcases hx with rfl | hx
      · exact Int.le_refl _
      · have := h1 x hx; omega
    · refine ⟨q, List.mem_cons_of_mem _ hq, fun x hx => ?_⟩
      rw [List.mem_cons] at hx
      rcases hx with rfl | hx
      · omega
      · exact h1 x hx
theorem buysB_iff {p : Int} {o : Ord} : buysB p o = true ↔ (okO o = true ∧ o.side = 1 ∧ (o.kind = 2 ∨ p ≤ o.price)) := by unfold buysB; simp
theorem sellsB_iff {p : Int} {o : Ord} : sellsB p o = true ↔ (okO o = true ∧ o.side = 2 ∧ (o.kind = 2 ∨ o.price ≤ p)) := by unfold sellsB; simp
theorem names_mem {l : List Ord} {more : Int} {o : Ord} (ho : o ∈ l) (h : okO o = true) (hk : ¬ o.kind = 2) : o.price ∈ pricesO l more :=
  pricesO_mem.2 (Or.inr ⟨o, ho, by unfold namesO; simp [h, hk], rfl⟩)
/-- beside each price there is one of the curve's at which no less is bought, and no less is sold -/
theorem near_price {l : List Ord} {more : Int} (p : Int) (hne : pricesO l more ≠ []) : ∃ q ∈ pricesO l more, demO p l ≤ demO q l ∧ supO p l ≤ supO q l := by
  rcases top_below p (pricesO l more) with h | ⟨q, hq, h1, h2⟩
  · obtain ⟨q, hq, h1⟩ := least_of _ hne
    refine ⟨q, hq, dem_le fun o ho hb => ?_, sup_le fun o ho hb => ?_⟩
    · obtain ⟨a1, a2, a3⟩ := buysB_iff.1 hb
      refine buysB_iff.2 ⟨a1, a2, ?_⟩
      by_cases hk : o.kind = 2
      · exact Or.inl hk
      · exact Or.inr (h1 _ (names_mem ho a1 hk))
    · obtain ⟨a1, a2, a3⟩ := sellsB_iff.1 hb
      refine sellsB_iff.2 ⟨a1, a2, ?_⟩
      by_cases hk : o.kind = 2
      · exact Or.inl hk
      · have := h _ (names_mem (more := more) ho a1 hk)
        rcases a3 with a3 | a3
        · exact absurd a3 hk
        · omega
  · refine ⟨q, hq, dem_le fun o ho hb => ?_, sup_le fun o ho hb => ?_⟩
    · obtain ⟨a1, a2, a3⟩ := buysB_iff.1 hb
      exact buysB_iff.2 ⟨a1, a2, a3.imp id (fun h => by omega)⟩
    · obtain ⟨a1, a2, a3⟩ := sellsB_iff.1 hb
      refine sellsB_iff.2 ⟨a1, a2, ?_⟩
      by_cases hk : o.kind = 2
      · exact Or.inl hk
      · rcases a3 with a3 | a3
        · exact absurd a3 hk
        · exact Or.inr (h2 _ (names_mem ho a1 hk) a3)
theorem curve_mem {l : List Ord} {more q : Int} (h : q ∈ pricesO l more) : (⟨q, demO q l, supO q l⟩ : Pt) ∈ curveL l more :=
  List.mem_map.2 ⟨q, by rw [uniqL_mem (sortI_sorted _), sortI_mem]; exact h, rfl⟩
theorem curve_pt {l : List Ord} {more : Int} {x : Pt} (h : x ∈ curveL l more) : x.dem = demO x.price l ∧ x.sup = supO x.price l ∧ x.price ∈ pricesO l more := by
  obtain ⟨q, hq, rfl⟩ := List.mem_map.1 h
  rw [uniqL_mem (sortI_sorted _), sortI_mem] at hq
  exact ⟨rfl, rfl, hq⟩
theorem choose_qty (l : List Pt) (around : Int) : (chooseL l around).qty = (if mostL l < 1 then 0 else mostL l) := by
  unfold chooseL
  by_cases h : mostL l < 1
  · rw [if_pos h, if_pos h]
  · rw [if_neg h, if_neg h]
    exact (chosen_mem around (by omega)).2
/-- NO PRICE DOES MORE -/
theorem curve_best {l : List Ord} {more : Int} (around p : Int) (hne : pricesO l more ≠ []) : min (demO p l) (supO p l) ≤ (chooseL (curveL l more) around).qty := by
  obtain ⟨q, hq, h1, h2⟩ := near_price (l := l) (more := more) p hne
  have h3 : trB ⟨q, demO q l, supO q l⟩ ≤ mostL (curveL l more) := mostL_max (curve_mem hq)
  have h4 : trB ⟨q, demO q l, supO q l⟩ = min (demO q l) (supO q l) := rfl
  rw [choose_qty]
  split <;> omega
/-- what is told of the chosen price is what would be bought, and sold, there -/
theorem curve_told {l : List Ord} {more : Int} (around : Int) (h : 0 < (chooseL (curveL l more) around).qty) :
    (chooseL (curveL l more) around).qty = min (demO (chooseL (curveL l more) around).price l) (supO (chooseL (curveL l more) around).price l) ∧ (chooseL (curveL l more) around).sur = demO (chooseL (curveL l more) around).price l - supO (chooseL (curveL l more) around).price l := by
  have hm : ¬ mostL (curveL l more) < 1 := fun e => by
    rw [choose_qty, if_pos e] at h; omega
  have hc : chooseL (curveL l more) around = quoP (chosenP (curveL l more) around) := if_neg hm
  obtain ⟨h1, _⟩ := chosen_mem (l := curveL l more) around (by omega)
  obtain ⟨e1, e2, _⟩ := curve_pt h1
  rw [hc]
  unfold quoP trB
  dsimp only
  rw [e1, e2]
  exact ⟨rfl, rfl⟩
theorem prices_some {l : List Ord} {more : Int} (h : 0 < more) : pricesO l more ≠ [] := fun e => by
  have : more ∈ pricesO l more := pricesO_mem.2 (Or.inl ⟨h, rfl⟩)
  rw [e] at this; cases this
theorem curve_small {l : List Ord} {more : Int} (hl : l.length ≤ 1000) (hp : ∀ o ∈ l, -1099511627776 ≤ o.price ∧ o.price ≤ 1099511627776) (hm : more ≤ 1099511627776) : ∀ x ∈ curveL l more, x.Small := fun x hx => by
  obtain ⟨e1, e2, h3⟩ := curve_pt hx
  have a1 := demO_in x.price l
  have a2 := supO_in x.price l
  refine ⟨?_, by rw [e1]; omega, by rw [e2]; omega⟩
  rcases pricesO_mem.1 h3 with ⟨h4, h5⟩ | ⟨o, ho, _, h5⟩
  · omega
  · rw [← h5]; exact hp o ho
theorem curve_len (l : List Ord) (more : Int) : (curveL l more).length ≤ l.length + 1 := by
  unfold curveL uniqL
  rw [List.length_map]
  have h1 := uniqK_len (sortI (pricesO l more)) (sortI (pricesO l more)).length
  have h2 := sortI_length (pricesO l more)
  have h3 := pricesO_len l more
  omega
end Go.Proofs.Ytcoijhofliilmab

/-
  The price that the curve chooses, and Fills (6, 8.1): what is bought and sold at a price are the lots of the willing; so Fills may trade what is chosen, and behind it nobody lies who could trade. Plain lists; no program is named here.
-/
namespace Go.Proofs.Ytcoijhofliilmab
open Go.RowKit

theorem ok_lies {l : List Ord} (h : LOk l) {o : Ord} (ho : o ∈ l) : okO o = true := by
  have h1 := h.side o ho
  have h2 := h.ok o ho
  unfold okO inC
  simp only [Bool.and_eq_true, decide_eq_true_iff]
  omega
theorem dem_wil {p : Int} {l : List Ord} (h : LOk l) : demO p l = wilL 1 p l := by
  unfold demO wilL
  congr 1
  refine List.map_congr_left (fun o ho => ?_)
  have e : buysB p o = (o.side == 1 && wilB 1 p o) := by
    unfold buysB wilB
    rw [ok_lies h ho]
    rcases h.side o ho with e | e <;> simp [e]
  rw [e]
theorem sup_wil {p : Int} {l : List Ord} (h : LOk l) : supO p l = wilL 2 p l := by
  unfold supO wilL
  congr 1
  refine List.map_congr_left (fun o ho => ?_)
  have e : sellsB p o = (o.side == 2 && wilB 2 p o) := by
    unfold sellsB wilB
    rw [ok_lies h ho]
    rcases h.side o ho with e | e <;> simp [e]
  rw [e]
/-- what is chosen may be traded -/
theorem auction_fits {l : List Ord} {more : Int} (around : Int) (h : LOk l) (hq : 0 < (chooseL (curveL l more) around).qty) : FOk (chooseL (curveL l more) around).price ⟨[], l, (chooseL (curveL l more) around).qty⟩ := by
  obtain ⟨e, _⟩ := curve_told around hq
  rw [dem_wil h, sup_wil h] at e
  exact ⟨h, by show 0 ≤ (chooseL (curveL l more) around).qty; omega, by show (chooseL (curveL l more) around).qty ≤ wilL 1 _ l; omega, by show (chooseL (curveL l more) around).qty ≤ wilL 2 _ l; omega⟩
/-- and then nobody is left who could trade -/
theorem auction_none {l : List Ord} {more : Int} (around : Int) (h : LOk l) (hne : pricesO l more ≠ []) {k : Nat} (hq : 0 < (chooseL (curveL l more) around).qty) (hk : ∀ j, j < k → 0 < (fiter (chooseL (curveL l more) around).price ⟨[], l, (chooseL (curveL l more) around).qty⟩ j).q) (hz : (fiter (chooseL (curveL l more) around).price ⟨[], l, (chooseL (curveL l more) around).qty⟩ k).q = 0) {x y : Ord}
    (hx : x ∈ sideO 1 (fiter (chooseL (curveL l more) around).price ⟨[], l, (chooseL (curveL l more) around).qty⟩ k).L) (hy : y ∈ sideO 2 (fiter (chooseL (curveL l more) around).price ⟨[], l, (chooseL (curveL l more) around).qty⟩ k).L) : ¬ (x.kind = 2 ∨ y.kind = 2 ∨ y.price ≤ x.price) := by
  have hb : ∀ p, min (demO p l) (supO p l) ≤ (chooseL (curveL l more) around).qty := fun p => curve_best around p hne
  have hF := auction_fits around h hq
  generalize chooseL (curveL l more) around = c at *
  obtain ⟨e1, e2⟩ := fiter_eat hF k hk
  rw [hz] at e1 e2
  rw [e1] at hx
  rw [e2] at hy
  have ec : (⟨[], l, c.qty⟩ : FS).q - 0 = c.qty := Int.sub_zero _
  rw [ec] at hx hy
  exact none_left h (by omega) (fun p _ _ => by rw [← dem_wil h, ← sup_wil h]; exact hb p) hx hy
end Go.Proofs.Ytcoijhofliilmab

/-
  Orders and points in memory, wherever they lie, and small plain facts on what is bought and sold: what the texts on curves share. Conditions stand in each theorem.
-/
namespace Go.Proofs.Ytcoijhofliilmab
open Go.RowKit

/-- orders that lie one behind the other, from an address on -/
def OrdsIn (w : World) (a : Option Addr) (l : List Ord) : Prop := ∀ k, k < l.length → ∃ b off, a = some ⟨b, off, none⟩ ∧ w.cell? ⟨b, off + k * 5, none⟩ = some (.int .i64 (oAt l k).id) ∧ w.cell? ⟨b, off + k * 5 + 1, none⟩ = some (.int .i64 (oAt l k).side) ∧ w.cell? ⟨b, off + k * 5 + 2, none⟩ = some (.int .i64 (oAt l k).kind) ∧ w.cell? ⟨b, off + k * 5 + 3, none⟩ = some (.int .i64 (oAt l k).price) ∧ w.cell? ⟨b, off + k * 5 + 4, none⟩ = some (.int .i64 (oAt l k).qty)
theorem cu_cell {w w' : World} {p : Addr} {v : Value} (hb : Below w.heap.size w w') (h : w.cell? p = some v) : w'.cell? p = some v := (hb.cell (World.block_lt_of_cell? w _ h)).trans h
theorem OrdsIn.below {w w' : World} {a : Option Addr} {l : List Ord} (h : OrdsIn w a l) (hb : Below w.heap.size w w') : OrdsIn w' a l := fun k hk => by
  obtain ⟨b, off, e, h0, h1, h2, h3, h4⟩ := h k hk
  exact ⟨b, off, e, cu_cell hb h0, cu_cell hb h1, cu_cell hb h2, cu_cell hb h3, cu_cell hb h4⟩
theorem OrdsIn.of_row {w : World} {base : Nat} {v : Value} {l : List Ord} (h : w.ownsRow base 40 5 v l.length (oV l)) : ∃ a cap, v = .slice a l.length cap ∧ OrdsIn w a l := by
  obtain ⟨a, cap, rfl, _, _⟩ := bk_shape h
  refine ⟨a, cap, rfl, fun k hk => ?_⟩
  obtain ⟨g, cap', e, h0, h1, h2, h3, h4⟩ := row_order h hk
  simp only [Value.slice.injEq, true_and] at e
  exact ⟨g, 0, e.1, by simpa using h0, by simpa using h1, by simpa using h2, by simpa using h3, by simpa using h4⟩
theorem cu_bel1 (w : World) (o : Obj) : Below w.heap.size w (w.alloc o) := (Below.refl _ _).alloc (Nat.le_refl _) o
theorem cu_then {w w1 w2 : World} (h : Below w.heap.size w w1) (h1 : Below w1.heap.size w1 w2) : Below w.heap.size w w2 := h.trans (h1.mono h.size)
theorem cu_blk {w : World} {b j : Nat} {vs : Array Value} {t : TypeId} {v : Value} (h : w.heap[b]? = some (.cells vs t (0, 0))) (hj : vs[j]? = some v) : w.cell? ⟨b, j, none⟩ = some v := (cell_of_row w b j vs t (0, 0) h).trans hj
theorem cu_free {w : World} {b j : Nat} {vs : Array Value} {t : TypeId} (h : w.heap[b]? = some (.cells vs t (0, 0))) : w.frozen? ⟨b, j, none⟩ = false := frozen_of_row w b j vs t h
theorem cu_set {w : World} {b j : Nat} {vs : Array Value} {t : TypeId} (u : Value) (h : w.heap[b]? = some (.cells vs t (0, 0))) : (w.setCell ⟨b, j, none⟩ u).heap[b]? = some (.cells (vs.setIfInBounds j u) t (0, 0)) := heap_setCell_same w b j vs t u h
theorem cu_keep {w w' : World} {b : Nat} {o : Obj} (h : w.heap[b]? = some o) (hb : Below w.heap.size w w') : w'.heap[b]? = some o := (hb.block b (lt_of_block h)).trans h

theorem Try.infoInt : (Try.prog.info? 3).map (fun i => (i.zero, i.size, i.bytes)) = some (some (.int .i64 0), 1, 8) := by kernel_rfl
def ints (l : List Int) : List Value := l.map (Value.int .i64)
theorem ints_snoc (l : List Int) (x : Int) : ints (l ++ [x]) = ints l ++ [.int .i64 x] := by simp [ints]
theorem ints_at {l : List Int} {k : Nat} (h : k < l.length) : (ints l)[k]? = some (.int .i64 (l.getD k 0)) := by simp [ints, h]
theorem pricesK_pos {l : List Ord} {more : Int} (h : 0 < more) : pricesK l more 0 = [more] := by simp [pricesK, pricesO, h]
theorem pricesK_neg {l : List Ord} {more : Int} (h : ¬ 0 < more) : pricesK l more 0 = [] := by simp [pricesK, pricesO, h]
theorem pricesK_len (l : List Ord) (more : Int) (k : Nat) (hk : k ≤ l.length) : (pricesK l more k).length ≤ k + 1 := by
  have := pricesO_len (l.take k) more
  rw [List.length_take] at this
  unfold pricesK
  omega
theorem uniqK_no {ys : List Int} {k : Nat} (h : fstB ys k = false) : uniqK ys (k + 1) = uniqK ys k := by rw [uniqK_step, if_neg (by rw [h]; decide)]
theorem uniqK_yes {ys : List Int} {k : Nat} (h : fstB ys k = true) : uniqK ys (k + 1) = uniqK ys k ++ [ys.getD k 0] := by rw [uniqK_step, if_pos h]
theorem fstB_zero (ys : List Int) : fstB ys 0 = true := rfl
theorem fstB_succ (ys : List Int) (k : Nat) : fstB ys (k + 1) = !(ys.getD k 0 == ys.getD (k + 1) 0) := by simp [fstB]
theorem dem_no {l : List Ord} {j : Nat} {p : Int} (h : j < l.length) (hb : buysB p (oAt l j) = false) : demO p (l.take (j + 1)) = demO p (l.take j) := by rw [demO_take p h, hb]; simp
theorem dem_yes {l : List Ord} {j : Nat} {p : Int} (h : j < l.length) (hb : buysB p (oAt l j) = true) : demO p (l.take (j + 1)) = demO p (l.take j) + (oAt l j).qty := by rw [demO_take p h, hb]; simp
theorem sup_no {l : List Ord} {j : Nat} {p : Int} (h : j < l.length) (hb : sellsB p (oAt l j) = false) : supO p (l.take (j + 1)) = supO p (l.take j) := by rw [supO_take p h, hb]; simp
theorem sup_yes {l : List Ord} {j : Nat} {p : Int} (h : j < l.length) (hb : sellsB p (oAt l j) = true) : supO p (l.take (j + 1)) = supO p (l.take j) + (oAt l j).qty := by rw [supO_take p h, hb]; simp
theorem buys_out {p : Int} {o : Ord} (h : okO o = false) : buysB p o = false := by unfold buysB; rw [h]; rfl
theorem sells_out {p : Int} {o : Ord} (h : okO o = false) : sellsB p o = false := by unfold sellsB; rw [h]; rfl
theorem buys_side {p : Int} {o : Ord} (h : o.side = 2) : buysB p o = false := by unfold buysB; rw [h]; simp
theorem sells_side {p : Int} {o : Ord} (h : o.side = 1) : sellsB p o = false := by unfold sellsB; rw [h]; simp
theorem buys_mk {p : Int} {o : Ord} (h : okO o = true) (h1 : o.side = 1) (h2 : o.kind = 2) : buysB p o = true := by unfold buysB; rw [h, h1, h2]; simp
theorem sells_mk {p : Int} {o : Ord} (h : okO o = true) (h1 : o.side = 2) (h2 : o.kind = 2) : sellsB p o = true := by unfold sellsB; rw [h, h1, h2]; simp
theorem buys_lim {p : Int} {o : Ord} (h : okO o = true) (h1 : o.side = 1) (h2 : p ≤ o.price) : buysB p o = true := by unfold buysB; rw [h, h1]; simp [h2]
theorem sells_lim {p : Int} {o : Ord} (h : okO o = true) (h1 : o.side = 2) (h2 : o.price ≤ p) : sellsB p o = true := by unfold sellsB; rw [h, h1]; simp [h2]
theorem buys_not {p : Int} {o : Ord} (h1 : ¬ o.kind = 2) (h2 : ¬ p ≤ o.price) : buysB p o = false := by unfold buysB; simp [h1, h2]
theorem sells_not {p : Int} {o : Ord} (h1 : ¬ o.kind = 2) (h2 : ¬ o.price ≤ p) : sellsB p o = false := by unfold sellsB; simp [h1, h2]
theorem owns_base {w : World} {base base' : Nat} {e : TypeId} {size : Nat} {v : Value} {n : Nat} {xs : List Value} (h : w.ownsRow base e size v n xs) (hb : base' ≤ base) : w.ownsRow base' e size v n xs :=
  ⟨h.1, h.2.imp id (fun ⟨g, cap, cur, e, hg, r⟩ => ⟨g, cap, cur, e, Nat.le_trans hb hg, r⟩)⟩
def ptOf (l : List Ord) (p : Int) : Pt := ⟨p, demO p l, supO p l⟩

/-- points that lie one behind the other, from an address on -/
def PtsIn (w : World) (a : Option Addr) (l : List Pt) : Prop := ∀ k, k < l.length → ∃ b off, a = some ⟨b, off, none⟩ ∧ w.cell? ⟨b, off + k * 3, none⟩ = some (.int .i64 (ptAt l k).price) ∧ w.cell? ⟨b, off + k * 3 + 1, none⟩ = some (.int .i64 (ptAt l k).dem) ∧ w.cell? ⟨b, off + k * 3 + 2, none⟩ = some (.int .i64 (ptAt l k).sup)
theorem PtsIn.below {w w' : World} {a : Option Addr} {l : List Pt} (h : PtsIn w a l) (hb : Below w.heap.size w w') : PtsIn w' a l := fun k hk => by
  obtain ⟨b, off, e, h0, h1, h2⟩ := h k hk
  exact ⟨b, off, e, cu_cell hb h0, cu_cell hb h1, cu_cell hb h2⟩
theorem PtsIn.of_row {w : World} {base : Nat} {t : TypeId} {v : Value} {l : List Pt} (h : w.ownsRow base t 3 v l.length (ptV l)) : ∃ a cap, v = .slice a l.length cap ∧ PtsIn w a l := by
  obtain ⟨a, cap, rfl, _, _⟩ := bk_shape h
  refine ⟨a, cap, rfl, fun k hk => ?_⟩
  obtain ⟨g, cap', e, h0, h1, h2⟩ := row_pt h hk
  simp only [Value.slice.injEq, true_and] at e
  exact ⟨g, 0, e.1, by simpa using h0, by simpa using h1, by simpa using h2⟩

def QuoAt (w : World) (qb : Nat) : Prop := w.heap[qb]? = some (.cells #[.int .i64 0, .int .i64 0, .int .i64 0] 27 (0, 0))
theorem QuoAt.below {w w' : World} {qb : Nat} (h : QuoAt w qb) (hb : Below w.heap.size w w') : QuoAt w' qb := cu_keep h hb
end Go.Proofs.Ytcoijhofliilmab

/-
  What the keep's own 'pick' and 'some' return, over this seat's translation: orders that may lie, by numbers from 1 on. Conditions stand in each theorem: where the orders that are handed in lie.
-/
namespace Go.Proofs.Ytcoijhofliilmab
open Go.RowKit

def pkV (a n : Int) : Int := wrap64 ((IntKind.u64.wrap a).tmod n)
theorem pkV_in (a n : Int) (hn : 1 ≤ n ∧ n ≤ 1000000) : 0 ≤ pkV a n ∧ pkV a n < n := by
  have h0 : 0 ≤ IntKind.u64.wrap a := by rw [IntKind.wrap_u64]; omega
  have h1 := Int.tmod_nonneg n h0
  have h2 := Int.tmod_lt_of_pos (IntKind.u64.wrap a) (by omega : 0 < n)
  unfold pkV
  rw [IntWalk.wrap64_in ((IntKind.u64.wrap a).tmod n) (by omega)]
  exact ⟨h1, h2⟩
set_option maxHeartbeats 400000 in
theorem kpPick (a n : Int) (w : World) (hn : 1 ≤ n ∧ n ≤ 1000000) : Calls Try.prog 7 #[.int .i64 a, .int .i64 n] w fun e w' => e = .returned (.int .i64 (pkV a n)) ∧ w' = w := by
  go_enter Try.func7, Try.ntmps7
  go_wp2_with fail
  go_ret
  exact ⟨rfl, rfl⟩
theorem Try.infoOrdK : (Try.prog.info? 40).map (fun i => (i.zero, i.size, i.bytes)) = some (some (.agg #[.int .i64 0, .int .i64 0, .int .i64 0, .int .i64 0, .int .i64 0]), 5, 40) := by kernel_rfl

theorem cu_drew (w : World) : w.drew.heap = w.heap := rfl
/-- an order that may lie, the k-th one -/
structure GoodO (k : Nat) (o : Ord) : Prop where
  id : o.id = (k : Int) + 1
  side : 1 ≤ o.side ∧ o.side ≤ 2
  kind : 1 ≤ o.kind ∧ o.kind ≤ 3
  price : 1 ≤ o.price ∧ o.price ≤ 60
  qty : 1 ≤ o.qty ∧ o.qty ≤ 30
/-- orders that may lie, by numbers from 1 on -/
structure SomeOk (X : List Ord) : Prop where
  len : X.length ≤ 60
  good : ∀ k, k < X.length → GoodO k (oAt X k)
theorem SomeOk.push {X : List Ord} {o : Ord} (h : SomeOk X) (ho : GoodO X.length o) (hl : X.length < 60) : SomeOk (X ++ [o]) := by
  refine ⟨by simp; omega, fun k hk => ?_⟩
  rw [List.length_append, List.length_singleton] at hk
  by_cases e : k < X.length
  · rw [oAt_push o e]; exact h.good k e
  · obtain rfl : k = X.length := by omega
    rw [show oAt (X ++ [o]) X.length = o by simp [oAt]]; exact ho
theorem SomeOk.ok {X : List Ord} (h : SomeOk X) : ∀ o ∈ X, okO o = true := fun o ho => by
  obtain ⟨k, hk, rfl⟩ := List.mem_iff_getElem.1 ho
  have g := h.good k hk
  rw [oAt_eq hk] at g
  unfold okO
  rw [inC_iff.2 g.side, inC_iff.2 ⟨g.qty.1, by have := g.qty.2; omega⟩]; rfl

set_option maxRecDepth 4000 in
set_option maxHeartbeats 4000000 in
theorem kpSome (a : Option Addr) (cap : Nat) (l : List Ord) (w : World) (h : OrdsIn w a l) :
    Calls Try.prog 6 #[.slice a l.length cap] w fun e w' => ∃ v X, e = .returned v ∧ SomeOk X ∧ w'.ownsRow w.heap.size 40 5 v X.length (oV X) ∧ Below w.heap.size w w' := by
  obtain ⟨i0, hi, hz0, hz1, hz2⟩ := info_parts Try.infoOrdK
  have HA : Hid (OrdsIn w a l) := h
  clear h
  go_enter Try.func6, Try.ntmps6
  go_wp2_with fail
  go_loopw [3, 4] (fun v i wr => ∃ X : List Ord, X.length ≤ l.length ∧ i = .int .i64 X.length ∧ SomeOk X ∧ wr.ownsRow w.heap.size 40 5 v X.length (oV X) ∧ Below w.heap.size w wr) (fun _ i _ => l.length - (intOf i).toNat)
  case atStart => exact ⟨[], Nat.zero_le _, rfl, ⟨Nat.zero_le _, fun k hk => absurd hk (by simp)⟩, World.ownsRow_nil _ _ _ _, Below.refl _ _⟩
  case round =>
    obtain ⟨X, hk, rfl, hX, hown, hb⟩ := hrel
    have HX : Hid (SomeOk X) := hX
    have hx60 := hX.len
    have HW : Hid (wr.ownsRow w.heap.size 40 5 u3 X.length (oV X)) := hown
    have HB : Hid (Below w.heap.size w wr) := hb
    obtain ⟨vao, vcap, rfl, _, _⟩ := bk_shape hown
    clear hX hown
    by_cases hk1 : X.length < l.length
    · have q0 : (0 : Int) ≤ (X.length : Int) := by omega
      have hlt : (X.length : Int) < (l.length : Int) := by omega
      by_cases hk2 : X.length < 60
      · have hlt2 : (X.length : Int) < 60 := by omega
        obtain ⟨b, off, rfl, d0, d1, d2, d3, d4⟩ := HA.out.below hb X.length hk1
        clear hb
        generalize oAt l X.length = o at d0 d1 d2 d3 d4
        go_wp2_with fail
        have hA := heap_alloc_new wr (.cells #[.int .i64 o.id, .int .i64 o.side, .int .i64 o.kind, .int .i64 o.price, .int .i64 o.qty] 40)
        have hbA := cu_bel1 wr (.cells #[.int .i64 o.id, .int .i64 o.side, .int .i64 o.kind, .int .i64 o.price, .int .i64 o.qty] 40)
        have HLT : Hid (∀ q, (Value.slice vao X.length vcap).ownBlock = some q → q < wr.heap.size) := fun q hq => (HW.out.lt q hq).2
        obtain ⟨wo, hwo⟩ : ∃ wo : World, wo = wr := ⟨_, rfl⟩
        subst hwo
        generalize wo.alloc (.cells #[.int .i64 o.id, .int .i64 o.side, .int .i64 o.kind, .int .i64 o.price, .int .i64 o.qty] 40) = W at hA hbA ⊢
        obtain ⟨yb, hyb⟩ : ∃ yb, wo.heap.size = yb := ⟨_, rfl⟩
        rw [hyb] at hA HLT
        rw [hyb]
        have HY : Hid (wo.heap.size = yb) := hyb
        clear hyb d0 d1 d2 d3 d4
        have HBA : Hid (Below wo.heap.size wo W) := hbA
        have HYA : Hid (W.heap[yb]? = some (.cells #[.int .i64 o.id, .int .i64 o.side, .int .i64 o.kind, .int .i64 o.price, .int .i64 o.qty] 40 (0, 0))) := hA
        clear hA hbA
        have hpk := pkV_in o.side 2 (by omega)
        refine (kpPick _ _ _ (by omega)).mono ?_
        rintro e w1 ⟨rfl, hw1⟩
        subst hw1
        generalize pkV o.side 2 = s at hpk ⊢
        have c0 := cu_blk (j := 0) HYA.out rfl
        have c1 := cu_blk (j := 1) HYA.out rfl
        have f0 := cu_free (j := 0) HYA.out
        have f1 := cu_free (j := 1) HYA.out
        go_upto_region 7 with fail
        have hY6 := cu_set (j := 1) (.int .i64 (1 + s)) (cu_set (j := 0) (.int .i64 ((X.length : Int) + 1)) HYA.out)
        have hB6 : Below wo.heap.size wo ((w1.setCell ⟨yb, 0, none⟩ (.int .i64 ((X.length : Int) + 1))).setCell ⟨yb, 1, none⟩ (.int .i64 (1 + s))) := (HBA.out.setCell (Nat.le_of_eq HY.out) _).setCell (Nat.le_of_eq HY.out) _
        clear c0 c1 f0 f1
        generalize (w1.setCell ⟨yb, 0, none⟩ (.int .i64 ((X.length : Int) + 1))).setCell ⟨yb, 1, none⟩ (.int .i64 (1 + s)) = W6 at hY6 hB6 ⊢
        have HY6 : Hid (W6.heap[yb]? = some (.cells #[.int .i64 ((X.length : Int) + 1), .int .i64 (1 + s), .int .i64 o.kind, .int .i64 o.price, .int .i64 o.qty] 40 (0, 0))) := hY6
        have HB6 : Hid (Below wo.heap.size wo W6) := hB6
        clear hY6 hB6 HYA HBA
        go_cut [] from 28 to 34 (fun wc => ∃ kd : Int, 1 ≤ kd ∧ kd ≤ 3 ∧ wc.heap[yb]? = some (.cells #[.int .i64 ((X.length : Int) + 1), .int .i64 (1 + s), .int .i64 kd, .int .i64 o.price, .int .i64 o.qty] 40 (0, 0)) ∧ Below wo.heap.size wo wc)
        case first =>
          have c2 := cu_blk (j := 2) HY6.out rfl
          have hly : yb < W6.heap.size := lt_of_block HY6.out
          have hne : ¬ yb = W6.heap.size := by omega
          go_wp2_with fail
          have hpk5 := pkV_in o.kind 5 (by omega)
          refine (kpPick _ _ _ (by omega)).mono ?_
          rintro e w2 ⟨rfl, hw2⟩
          subst hw2
          generalize pkV o.kind 5 = r at hpk5 ⊢
          have hI := heap_alloc_new W6 (.cells #[.int .i64 1, .int .i64 1, .int .i64 1, .int .i64 2, .int .i64 3] 3)
          have hYI := (cu_bel1 W6 (.cells #[.int .i64 1, .int .i64 1, .int .i64 1, .int .i64 2, .int .i64 3] 3)).block yb hly |>.trans HY6.out
          have HBI : Hid (Below wo.heap.size wo (W6.alloc (.cells #[.int .i64 1, .int .i64 1, .int .i64 1, .int .i64 2, .int .i64 3] 3))) := HB6.out.alloc HB6.out.size _
          generalize W6.alloc (.cells #[.int .i64 1, .int .i64 1, .int .i64 1, .int .i64 2, .int .i64 3] 3) = W7 at hI hYI HBI ⊢
          have HYI : Hid (W7.heap[yb]? = some (.cells #[.int .i64 ((X.length : Int) + 1), .int .i64 (1 + s), .int .i64 o.kind, .int .i64 o.price, .int .i64 o.qty] 40 (0, 0))) := hYI
          have m0 := cu_blk (j := 0) hI rfl
          have m1 := cu_blk (j := 1) hI rfl
          have m2 := cu_blk (j := 2) hI rfl
          have m3 := cu_blk (j := 3) hI rfl
          have m4 := cu_blk (j := 4) hI rfl
          have y2 := cu_blk (j := 2) hYI rfl
          have g2 := cu_free (j := 2) hYI
          clear hI hYI c2 hly hne
          have hr : r = 0 ∨ r = 1 ∨ r = 2 ∨ r = 3 ∨ r = 4 := by omega
          rcases hr with rfl | rfl | rfl | rfl | rfl
          all_goals
            go_wp2_with fail
            go_meet
            exact ⟨_, by decide, by decide, cu_set (j := 2) _ HYI.out, HBI.out.setCell (Nat.le_of_eq HY.out) _⟩
        case rest =>
          obtain ⟨kd, hkd1, hkd2, hY7, hB7⟩ := hcut
          have HY7 : Hid (wc.heap[yb]? = some (.cells #[.int .i64 ((X.length : Int) + 1), .int .i64 (1 + s), .int .i64 kd, .int .i64 o.price, .int .i64 o.qty] 40 (0, 0))) := hY7
          have HB7 : Hid (Below wo.heap.size wo wc) := hB7
          clear hY7 hB7 HY6 HB6
          go_upto_region 8 with fail
          have hpp := pkV_in o.price 60 (by omega)
          have hpq := pkV_in o.qty 30 (by omega)
          obtain ⟨W7, hW7⟩ : ∃ W7 : World, W7 = wc := ⟨_, rfl⟩
          subst hW7
          go_cut [] from 35 to 44 (fun wc => wc.heap[yb]? = some (.cells #[.int .i64 ((X.length : Int) + 1), .int .i64 (1 + s), .int .i64 kd, .int .i64 (1 + pkV o.price 60), .int .i64 (1 + pkV o.qty 30)] 40 (0, 0)) ∧ Below wo.heap.size wo wc)
          case first =>
            have HP3 : Hid (IntKind.i64.wrap (1 + pkV o.price 60) = 1 + pkV o.price 60) := IntWalk.i64_in _ (by omega)
            have HP4 : Hid (IntKind.i64.wrap (1 + pkV o.qty 30) = 1 + pkV o.qty 30) := IntWalk.i64_in _ (by omega)
            have c3 := cu_blk (j := 3) HY7.out rfl
            have c4 := cu_blk (j := 4) HY7.out rfl
            have f3 := cu_free (j := 3) HY7.out
            have f4 := cu_free (j := 4) HY7.out
            go_region_with (first | (go_at_call 7; refine (kpPick _ _ _ (by omega)).mono ?_; rintro e w2 ⟨rfl, hw2⟩; subst hw2))
            all_goals go_wp2_with fail
            all_goals go_meet
            all_goals rw [HP3.out, HP4.out, cu_drew]
            all_goals exact ⟨cu_set (j := 4) _ (cu_set (j := 3) _ HY7.out), ((HB7.out.setCell (Nat.le_of_eq HY.out) _).setCell (Nat.le_of_eq HY.out) _).drew⟩
          case rest =>
            obtain ⟨hY8, hB8⟩ := hcut
            generalize pkV o.price 60 = pr at hY8 hpp
            generalize pkV o.qty 30 = qr at hY8 hpq
            have c0 := cu_blk (j := 0) hY8 rfl
            have c1 := cu_blk (j := 1) hY8 rfl
            have c2 := cu_blk (j := 2) hY8 rfl
            have c3 := cu_blk (j := 3) hY8 rfl
            have c4 := cu_blk (j := 4) hY8 rfl
            have HW8 : Hid (wc.ownsRow w.heap.size 40 5 (.slice vao X.length vcap) X.length (oV X)) := bk_below HW.out hB8 (Nat.le_refl _)
            have HB8 : Hid (Below w.heap.size w wc) := cu_then HB.out hB8
            have HG : Hid (SomeOk (X ++ [⟨(X.length : Int) + 1, 1 + s, kd, 1 + pr, 1 + qr⟩])) := HX.out.push ⟨rfl, by constructor <;> simp <;> omega, ⟨hkd1, hkd2⟩, by constructor <;> simp <;> omega, by constructor <;> simp <;> omega⟩ hk2
            have HV : Hid (oV (X ++ [⟨(X.length : Int) + 1, 1 + s, kd, 1 + pr, 1 + qr⟩]) = oV X ++ [.int .i64 ((X.length : Int) + 1), .int .i64 (1 + s), .int .i64 kd, .int .i64 (1 + pr), .int .i64 (1 + qr)]) := by rw [oV_append]; rfl
            clear hY8 hB8 HY7 HB7 HX HW HB
            go_wp2_with (at_builtin; refine wpList_append_own_at _ rfl _ _ 22 rfl w.heap.size 40 i0 (.agg #[.int .i64 0, .int .i64 0, .int .i64 0, .int .i64 0, .int .i64 0]) 5 40 Try.underlying22 hi hz0 hz1 hz2 rfl (by decide) _ X.length (oV X) rfl (HW8.out.alloc _) ⟨wc.heap.size, 0, none⟩ 1 1 [.int .i64 ((X.length : Int) + 1), .int .i64 (1 + s), .int .i64 kd, .int .i64 (1 + pr), .int .i64 (1 + qr)] rfl rfl (World.news_of_block (cs := #[.int .i64 ((X.length : Int) + 1), .int .i64 (1 + s), .int .i64 kd, .int .i64 (1 + pr), .int .i64 (1 + qr)]) (t := 40) (fr := (0, 0)) (heap_alloc_new wc _)) (by simp [Value.oneCell']) (by unfold maxLen; omega) (by omega) (by have := HB8.out.size; simp; omega) ?_; intro v' w6 hown6 hgrow6 _ _)
            go_roundw
            case rel =>
              refine ⟨X ++ [⟨(X.length : Int) + 1, 1 + s, kd, 1 + pr, 1 + qr⟩], by simp; omega, by simp, HG.out, ?_, (HB8.out.alloc HB8.out.size _).grown hgrow6 (by have := HB8.out.size; simp; omega) (fun q hq => (HW8.out.lt q hq).1)⟩
              rw [HV.out, List.length_append, List.length_singleton]
              exact hown6
            case measure => simp [intOf]; omega
      · clear hb
        go_wp2_with fail
        go_ret
        exact ⟨_, X, rfl, HX.out, HW.out, HB.out⟩
    · clear hb
      go_wp2_with fail
      go_ret
      exact ⟨_, X, rfl, HX.out, HW.out, HB.out⟩
end Go.Proofs.Ytcoijhofliilmab

/-
  What the keep's own 'willing' and 'at' return, over this seat's translation: how much would be bought, and sold, at a price. Conditions stand in each theorem: where the orders lie, and that each may be.
-/
namespace Go.Proofs.Ytcoijhofliilmab
open Go.RowKit

/-- would an order trade at a price? -/
def willB (p : Int) (o : Ord) : Bool := (o.kind == 2) || ((o.side == 1) && decide (p ≤ o.price)) || ((o.side == 2) && decide (o.price ≤ p))
theorem will_buys {p : Int} {o : Ord} (h : okO o = true) (hs : o.side = 1) : buysB p o = willB p o := by unfold buysB willB; rw [h, hs]; simp
theorem will_sells {p : Int} {o : Ord} (h : okO o = true) (hs : o.side = 2) : sellsB p o = willB p o := by unfold sellsB willB; rw [h, hs]; simp

set_option maxRecDepth 4000 in
set_option maxHeartbeats 1000000 in
theorem kpWilling (o : Ord) (p : Int) (w : World) (hs : o.side = 1 ∨ o.side = 2) :
    Calls Try.prog 16 #[.agg #[.int .i64 o.id, .int .i64 o.side, .int .i64 o.kind, .int .i64 o.price, .int .i64 o.qty], .int .i64 p] w fun e w' => e = .returned (.bool (willB p o)) ∧ Below w.heap.size w w' := by
  by_cases hk : o.kind = 2
  · have HW : Hid (willB p o = true) := by unfold willB; simp [hk]; exact trivial
    rw [hk]
    clear hk
    go_enter Try.func16, Try.ntmps16
    go_wp2
    go_ret
    exact ⟨by rw [HW.out]; rfl, cu_bel1 w _⟩
  · have hkb : (o.kind == 2) = false := beq_eq_false_iff_ne.2 hk
    rcases hs with hs | hs
    · by_cases hp : p ≤ o.price
      · have hw : willB p o = true := by unfold willB; simp [hs, hp]
        have HW : Hid (willB p o = true) := hw
        rw [hs]
        clear hk hs hw
        go_enter Try.func16, Try.ntmps16
        go_wp2
        go_ret
        exact ⟨by rw [HW.out]; rfl, cu_bel1 w _⟩
      · have hw : willB p o = false := by unfold willB; simp [hs, hp, hk]
        have HW : Hid (willB p o = false) := hw
        rw [hs]
        clear hk hs hw
        go_enter Try.func16, Try.ntmps16
        go_wp2
        go_ret
        exact ⟨by rw [HW.out]; rfl, cu_bel1 w _⟩
    · by_cases hp : o.price ≤ p
      · have hw : willB p o = true := by unfold willB; simp [hs, hp]
        have HW : Hid (willB p o = true) := hw
        rw [hs]
        clear hk hs hw
        go_enter Try.func16, Try.ntmps16
        go_wp2
        go_ret
        exact ⟨by rw [HW.out]; rfl, cu_bel1 w _⟩
      · have hw : willB p o = false := by unfold willB; simp [hs, hp, hk]
        have HW : Hid (willB p o = false) := hw
        rw [hs]
        clear hk hs hw
        go_enter Try.func16, Try.ntmps16
        go_wp2
        go_ret
        exact ⟨by rw [HW.out]; rfl, cu_bel1 w _⟩

set_option maxRecDepth 4000 in
set_option maxHeartbeats 4000000 in
theorem kpAt (a : Option Addr) (cap : Nat) (l : List Ord) (p : Int) (w : World) (h : OrdsIn w a l) (hl : l.length ≤ 1000) (hok : ∀ o ∈ l, okO o = true) :
    Calls Try.prog 10 #[.slice a l.length cap, .int .i64 p] w fun e w' => e = .returned (.tuple #[.int .i64 (demO p l), .int .i64 (supO p l)]) ∧ Below w.heap.size w w' := by
  have HA : Hid (OrdsIn w a l) := h
  have HOK : Hid (∀ o ∈ l, okO o = true) := hok
  clear h hok
  go_enter Try.func10, Try.ntmps10
  go_wp2_with fail
  go_loopw [6, 7, 8] (fun vb vs i wr => ∃ k : Nat, k ≤ l.length ∧ i = .int .i64 k ∧ vb = .int .i64 (demO p (l.take k)) ∧ vs = .int .i64 (supO p (l.take k)) ∧ Below w.heap.size w wr) (fun _ _ i _ => l.length - (intOf i).toNat)
  case atStart => exact ⟨0, Nat.zero_le _, rfl, rfl, rfl, Below.refl _ _⟩
  case round =>
    obtain ⟨k, hk, rfl, rfl, rfl, hb⟩ := hrel
    have HB : Hid (Below w.heap.size w wr) := hb
    by_cases hk1 : k < l.length
    · have q0 : (0 : Int) ≤ (k : Int) := by omega
      have hlt : (k : Int) < (l.length : Int) := by omega
      obtain ⟨b, off, rfl, d0, d1, d2, d3, d4⟩ := HA.out.below hb k hk1
      clear hb
      have HDN : Hid (buysB p (oAt l k) = false → demO p (l.take (k + 1)) = demO p (l.take k)) := dem_no hk1
      have HDY : Hid (buysB p (oAt l k) = true → demO p (l.take (k + 1)) = demO p (l.take k) + (oAt l k).qty) := dem_yes hk1
      have HSN : Hid (sellsB p (oAt l k) = false → supO p (l.take (k + 1)) = supO p (l.take k)) := sup_no hk1
      have HSY : Hid (sellsB p (oAt l k) = true → supO p (l.take (k + 1)) = supO p (l.take k) + (oAt l k).qty) := sup_yes hk1
      have hdi := demO_in p (l.take k)
      have hsi := supO_in p (l.take k)
      have htl : (l.take k).length ≤ 1000 := by rw [List.length_take]; omega
      have ho := HOK.out (oAt l k) (by rw [oAt_eq hk1]; exact List.getElem_mem hk1)
      generalize oAt l k = o at d0 d1 d2 d3 d4 HDN HDY HSN HSY ho
      generalize demO p (l.take k) = dd at HDN HDY hdi ⊢
      generalize supO p (l.take k) = ss at HSN HSY hsi ⊢
      generalize (l.take k).length = tl at hdi hsi htl
      obtain ⟨⟨hs1, hs2⟩, hq1, hq2⟩ := okO_qty ho
      have hs : o.side = 1 ∨ o.side = 2 := by omega
      go_wp2_with fail
      refine (kpWilling o p _ hs).mono ?_
      rintro e w3 ⟨rfl, hb3⟩
      have c1 := cu_cell hb3 d1
      have c4 := cu_cell hb3 d4
      have HB3 : Hid (Below w.heap.size w w3) := cu_then HB.out hb3
      clear hb3 HB d0 d1 d2 d3 d4
      rcases hs with hs | hs
      · have HSX : Hid (supO p (l.take (k + 1)) = ss) := HSN.out (sells_side hs)
        have hwb := will_buys (p := p) ho hs
        rw [hs] at c1
        cases hw : willB p o with
        | true =>
          have HDX : Hid (demO p (l.take (k + 1)) = dd + o.qty) := HDY.out (hwb.trans hw)
          clear HDN HDY HSN HSY hw hwb hs ho
          go_wp2_with fail
          go_roundw
          case rel => exact ⟨k + 1, hk1, by go_num, by rw [HDX.out], by rw [HSX.out], HB3.out⟩
          case measure => simp [intOf]; omega
        | false =>
          have HDX : Hid (demO p (l.take (k + 1)) = dd) := HDN.out (hwb.trans hw)
          clear HDN HDY HSN HSY hw hwb hs ho
          go_wp2_with fail
          go_roundw
          case rel => exact ⟨k + 1, hk1, by go_num, by rw [HDX.out], by rw [HSX.out], HB3.out⟩
          case measure => simp [intOf]; omega
      · have HDX : Hid (demO p (l.take (k + 1)) = dd) := HDN.out (buys_side hs)
        have hwb := will_sells (p := p) ho hs
        rw [hs] at c1
        cases hw : willB p o with
        | true =>
          have HSX : Hid (supO p (l.take (k + 1)) = ss + o.qty) := HSY.out (hwb.trans hw)
          clear HDN HDY HSN HSY hw hwb hs ho
          go_wp2_with fail
          go_roundw
          case rel => exact ⟨k + 1, hk1, by go_num, by rw [HDX.out], by rw [HSX.out], HB3.out⟩
          case measure => simp [intOf]; omega
        | false =>
          have HSX : Hid (supO p (l.take (k + 1)) = ss) := HSN.out (hwb.trans hw)
          clear HDN HDY HSN HSY hw hwb hs ho
          go_wp2_with fail
          go_roundw
          case rel => exact ⟨k + 1, hk1, by go_num, by rw [HDX.out], by rw [HSX.out], HB3.out⟩
          case measure => simp [intOf]; omega
    · obtain rfl : k = l.length := by omega
      rw [List.take_length]
      clear hb
      go_wp2_with fail
      go_ret2
      exact ⟨rfl, HB.out⟩
end Go.Proofs.Ytcoijhofliilmab

/-
  What the law CrossFair asks, as plain lists: what an auction trades of orders that are chosen so, who trades, and who lies behind it. Conditions stand in each theorem.
-/
namespace Go.Proofs.Ytcoijhofliilmab
open Go.RowKit

theorem some_lok {X : List Ord} (h : SomeOk X) : LOk X := by
  have each : ∀ o ∈ X, ∃ k, k < X.length ∧ oAt X k = o := fun o ho => by
    obtain ⟨k, hk, rfl⟩ := List.mem_iff_getElem.1 ho
    exact ⟨k, hk, oAt_eq hk⟩
  refine ⟨fun o ho => ?_, ?_, fun o ho => ?_⟩
  · obtain ⟨k, hk, rfl⟩ := each o ho
    have := (h.good k hk).side; omega
  · rw [List.nodup_iff_pairwise_ne, List.pairwise_map]
    refine List.pairwise_iff_getElem.2 (fun i j hi hj hij => ?_)
    have h1 := (h.good i hi).id
    have h2 := (h.good j hj).id
    rw [oAt_eq hi] at h1
    rw [oAt_eq hj] at h2
    omega
  · obtain ⟨k, hk, rfl⟩ := each o ho
    have h1 := (h.good k hk).price
    have h2 := (h.good k hk).qty
    omega
theorem lie_qty (o : Ord) : (lieO o).qty = o.qty := by unfold lieO; split <;> rfl
theorem lie_kind (o : Ord) : (lieO o).kind = o.kind := by unfold lieO; split <;> rfl
theorem lie_wil (s p : Int) (o : Ord) : wilB s p (lieO o) = wilB s p o := by
  unfold wilB
  rw [lie_kind]
  by_cases h : o.kind = 2
  · rw [h]; rfl
  · have e : lieO o = o := if_neg h
    rw [e]
def lieL (X : List Ord) : List Ord := X.map lieO
theorem wil_lie (s p : Int) : ∀ X : List Ord, wilL s p (lieL X) = wilL s p X
  | [] => rfl
  | o :: X => by
    show wilL s p (lieO o :: lieL X) = _
    rw [wilL_cons, wilL_cons, wil_lie s p X, lieO_side, lie_wil, lie_qty]
theorem lie_lok {X : List Ord} (h : LOk X) : LOk (lieL X) := by
  refine ⟨fun o ho => ?_, ?_, fun o ho => ?_⟩
  · obtain ⟨x, hx, rfl⟩ := List.mem_map.1 ho
    rw [lieO_side]; exact h.side x hx
  · have e : (lieL X).map Ord.id = X.map Ord.id := by
      unfold lieL
      rw [List.map_map]
      exact List.map_congr_left (fun o _ => lieO_id o)
    rw [e]; exact h.ids
  · obtain ⟨x, hx, rfl⟩ := List.mem_map.1 ho
    have := h.ok x hx
    rw [lie_qty]
    unfold lieO
    split
    · show 1 ≤ (1 : Int) ∧ (1 : Int) ≤ 1000000 ∧ _; omega
    · exact this
theorem sumO_append : ∀ A B : List Ord, sumO (A ++ B) = sumO A + sumO B
  | [], B => by show sumO B = 0 + sumO B; omega
  | o :: A, B => by
    have := sumO_append A B
    show o.qty + sumO (A ++ B) = o.qty + sumO A + sumO B
    omega

/-- what is chosen of X, and what it comes to -/
structure Auct (X : List Ord) (p q : Int) : Prop where
  ok : SomeOk X
  pos : 0 < q
  fits : q ≤ min (wilL 1 p (lieL X)) (wilL 2 p (lieL X))
  best : ∀ r, min (wilL 1 r (lieL X)) (wilL 2 r (lieL X)) ≤ q
theorem auct_of {X : List Ord} {ar : Int} (h : SomeOk X) (har : 0 < ar) (hq : 0 < (chooseL (curveL X ar) ar).qty) : Auct X (chooseL (curveL X ar) ar).price (chooseL (curveL X ar) ar).qty := by
  have hX := some_lok h
  refine ⟨h, hq, ?_, fun r => ?_⟩
  · have := (curve_told ar hq).1
    rw [dem_wil hX, sup_wil hX] at this
    rw [wil_lie, wil_lie]; omega
  · have := curve_best (l := X) (more := ar) ar r (prices_some har)
    rw [dem_wil hX, sup_wil hX] at this
    rw [wil_lie, wil_lie]; exact this
section
variable {X : List Ord} {p q : Int} {K : Nat}
theorem Auct.lok (h : Auct X p q) : LOk (lieL X) := lie_lok (some_lok h.ok)
theorem Auct.fok (h : Auct X p q) : FOk p ⟨[], lieL X, q⟩ := ⟨h.lok, by have := h.pos; show 0 ≤ q; omega, by have := h.fits; show q ≤ wilL 1 p (lieL X); omega, by have := h.fits; show q ≤ wilL 2 p (lieL X); omega⟩
/-- the whole auction: K trades -/
structure Done (X : List Ord) (p q : Int) (K : Nat) : Prop where
  au : Auct X p q
  all : (fiter p ⟨[], lieL X, q⟩ K).q = 0
  each : ∀ j, j < K → 0 < (fiter p ⟨[], lieL X, q⟩ j).q
def fsK (X : List Ord) (p q : Int) (K : Nat) : List Fil := (fiter p ⟨[], lieL X, q⟩ K).fs
def lsK (X : List Ord) (p q : Int) (K : Nat) : List Ord := (fiter p ⟨[], lieL X, q⟩ K).L
theorem lie_at {x : Ord} (h : SomeOk X) (hx : x ∈ lieL X) : ∃ k : Nat, k < X.length ∧ x.id = (k : Int) + 1 ∧ (oAt X k).side = x.side := by
  obtain ⟨o, ho, rfl⟩ := List.mem_map.1 hx
  obtain ⟨k, hk, rfl⟩ := List.mem_iff_getElem.1 ho
  have := (h.good k hk).id
  rw [oAt_eq hk] at this
  exact ⟨k, hk, by rw [lieO_id]; exact this, by rw [oAt_eq hk, lieO_side]⟩
theorem Done.who (h : Done X p q K) {f : Fil} (hf : f ∈ fsK X p q K) : f.price = p ∧ 1 ≤ f.qty ∧ (∃ i : Nat, i < X.length ∧ f.buyer = (i : Int) + 1 ∧ (oAt X i).side = 1) ∧ ∃ j : Nat, j < X.length ∧ f.seller = (j : Int) + 1 ∧ (oAt X j).side = 2 := by
  obtain ⟨h1, h2, ⟨x, hx, hx1, hx2, _⟩, ⟨y, hy, hy1, hy2, _⟩⟩ := fiter_who h.au.fok K h.each f hf
  obtain ⟨i, hi, hi1, hi2⟩ := lie_at h.au.ok hx
  obtain ⟨j, hj, hj1, hj2⟩ := lie_at h.au.ok hy
  exact ⟨h1, h2, ⟨i, hi, by omega, by rw [hi2]; exact hx2⟩, ⟨j, hj, by omega, by rw [hj2]; exact hy2⟩⟩
theorem Done.sum (h : Done X p q K) : sumF (fsK X p q K) = q := by
  have := fiter_sum (p := p) (L := lieL X) (q := q) K
  rw [h.all] at this
  unfold fsK; omega
theorem Done.most (h : Done X p q K) : q ≤ 60000000 := by
  have h1 := h.au.fits
  have h2 := wilL_in 1 p h.au.lok
  have h3 : (lieL X).length = X.length := List.length_map _
  have := h.au.ok.len
  omega
/-- lots traded by one, of each list of trades: never less than none, never more than all -/
theorem trd_in {id : Int} : ∀ {l : List Fil}, (∀ f ∈ l, 1 ≤ f.qty) → 0 ≤ trdF id l ∧ trdF id l ≤ sumF l := by
  intro l
  have gen : ∀ (l : List Fil) (n : Int), l.foldl (fun n f => n + f.qty) n = n + sumF l := by
    intro l
    induction l with
    | nil => intro n; simp [sumF]
    | cons f l ih =>
      intro n
      have e1 : sumF (f :: l) = l.foldl (fun n f => n + f.qty) (0 + f.qty) := rfl
      rw [List.foldl_cons, ih, e1, ih]; omega
  induction l with
  | nil => intro _; simp [trdF, sumF]
  | cons f l ih =>
    intro h
    have i1 := ih (fun g hg => h g (List.mem_cons_of_mem _ hg))
    have i2 := h f (List.mem_cons_self ..)
    have e1 : sumF (f :: l) = f.qty + sumF l := by
      show l.foldl (fun n f => n + f.qty) (0 + f.qty) = _
      rw [gen]; omega
    have e2 : trdF id (f :: l) = (if f.buyer = id ∨ f.seller = id then f.qty else 0) + trdF id l := rfl
    rw [e1, e2]
    split <;> omega
theorem sumF_split (l : List Fil) (k : Nat) : sumF l = sumF (l.take k) + sumF (l.drop k) := by
  have gen : ∀ (l : List Fil) (n : Int), l.foldl (fun n f => n + f.qty) n = n + sumF l := by
    intro l
    induction l with
    | nil => intro n; simp [sumF]
    | cons f l ih =>
      intro n
      have e1 : sumF (f :: l) = l.foldl (fun n f => n + f.qty) (0 + f.qty) := rfl
      rw [List.foldl_cons, ih, e1, ih]; omega
  have e : sumF l = (l.take k ++ l.drop k).foldl (fun n f => n + f.qty) 0 := by rw [List.take_append_drop]; rfl
  rw [e, List.foldl_append, gen (l.drop k)]
  rfl
theorem sumF_nn {l : List Fil} (h : ∀ f ∈ l, 1 ≤ f.qty) : 0 ≤ sumF l := by
  have := trd_in (id := 0) h
  omega
theorem Done.part (h : Done X p q K) (id : Int) (k : Nat) : 0 ≤ trdF id ((fsK X p q K).take k) ∧ trdF id ((fsK X p q K).take k) ≤ q ∧ 0 ≤ sumF ((fsK X p q K).take k) ∧ sumF ((fsK X p q K).take k) ≤ q := by
  have h1 : ∀ f ∈ fsK X p q K, 1 ≤ f.qty := fun f hf => (h.who hf).2.1
  have h2 : ∀ f ∈ (fsK X p q K).take k, 1 ≤ f.qty := fun f hf => h1 f (List.mem_of_mem_take hf)
  have h3 : ∀ f ∈ (fsK X p q K).drop k, 1 ≤ f.qty := fun f hf => h1 f (List.mem_of_mem_drop hf)
  have i1 := trd_in (id := id) h2
  have i2 := sumF_split (fsK X p q K) k
  have i3 := sumF_nn h3
  have i4 := h.sum
  have i5 := sumF_nn h2
  omega
/-- has somebody ahead lots left? -/
def doneB (fs : List Fil) (A : List Ord) : Bool := A.any fun y => decide (trdF y.id fs < y.qty)
theorem doneB_snoc (fs : List Fil) (A : List Ord) (o : Ord) : doneB fs (A ++ [o]) = (doneB fs A || decide (trdF o.id fs < o.qty)) := by
  unfold doneB; rw [List.any_append]; simp
theorem wil_will {o : Ord} (p : Int) : wilB o.side p o = true → willB p o = true := by
  unfold wilB willB
  intro h
  simp only [Bool.or_eq_true, Bool.and_eq_true] at h ⊢
  rcases h with h | h | h
  · exact Or.inl (Or.inl h)
  · exact Or.inl (Or.inr h)
  · exact Or.inr h
theorem Done.fair (h : Done X p q K) {s : Int} (hs : s = 1 ∨ s = 2) {k : Nat} (hk : k < (sideO s (lieL X)).length) :
    0 ≤ trdF (oAt (sideO s (lieL X)) k).id (fsK X p q K) ∧ trdF (oAt (sideO s (lieL X)) k).id (fsK X p q K) ≤ (oAt (sideO s (lieL X)) k).qty ∧ (0 < trdF (oAt (sideO s (lieL X)) k).id (fsK X p q K) → willB p (oAt (sideO s (lieL X)) k) = true ∧ doneB (fsK X p q K) ((sideO s (lieL X)).take k) = false) := by
  have hz := split_at hk
  have hm : oAt (sideO s (lieL X)) k ∈ sideO s (lieL X) := oAt_in hk
  obtain ⟨a1, a2, a3, _⟩ := fair_side h.au.fok h.each hs hz
  refine ⟨a1, a2, fun ht => ⟨?_, ?_⟩⟩
  · obtain ⟨hmL, hms⟩ := sideO_mem.1 hm
    exact wil_will p (fair_wil h.au.fok h.each hmL ht)
  · have hsum := a3 ht
    rw [h.all] at hsum
    unfold doneB
    rw [List.any_eq_false]
    intro y hy
    rw [decide_eq_true_iff]
    obtain ⟨A1, A2, hA⟩ := List.append_of_mem hy
    have hz2 : sideO s (lieL X) = A1 ++ y :: (A2 ++ oAt (sideO s (lieL X)) k :: (sideO s (lieL X)).drop (k + 1)) := by
      have : sideO s (lieL X) = (sideO s (lieL X)).take k ++ oAt (sideO s (lieL X)) k :: (sideO s (lieL X)).drop (k + 1) := hz
      rw [hA] at this
      rw [List.append_assoc] at this
      exact this
    obtain ⟨_, _, _, b4⟩ := fair_side h.au.fok h.each hs hz2
    have hpos : ∀ o ∈ A2, 1 ≤ o.qty := fun o ho => by
      have : o ∈ sideO s (lieL X) := by rw [hz2]; exact List.mem_append_right _ (List.mem_cons_of_mem _ (List.mem_append_left _ ho))
      exact (h.au.lok.ok o (sideO_mem.1 this).1).2.2.1
    have hnn := sumO_nn hpos
    have hs3 : sumO ((sideO s (lieL X)).take k) = sumO A1 + (y.qty + sumO A2) := by rw [hA, sumO_append]; rfl
    rw [h.all] at b4
    have := b4 (by omega)
    show ¬ trdF y.id (fsK X p q K) < y.qty
    have e : trdF y.id (fsK X p q K) = y.qty := this
    omega
theorem Done.none (h : Done X p q K) {x y : Ord} (hx : x ∈ sideO 1 (lsK X p q K)) (hy : y ∈ sideO 2 (lsK X p q K)) : x.kind ≠ 2 ∧ y.kind ≠ 2 ∧ x.price < y.price := by
  obtain ⟨e1, e2⟩ := fiter_eat h.au.fok K h.each
  rw [h.all] at e1 e2
  have hx' : x ∈ eatL q (sideO 1 (lieL X)) := by
    have : q - 0 = q := by omega
    rw [← this]; exact e1 ▸ hx
  have hy' : y ∈ eatL q (sideO 2 (lieL X)) := by
    have : q - 0 = q := by omega
    rw [← this]; exact e2 ▸ hy
  have := none_left h.au.lok (by have := h.au.pos; omega) (fun r _ _ => h.au.best r) hx' hy'
  refine ⟨fun e => this (Or.inl e), fun e => this (Or.inr (Or.inl e)), ?_⟩
  have h3 : ¬ y.price ≤ x.price := fun e => this (Or.inr (Or.inr e))
  omega
end
end Go.Proofs.Ytcoijhofliilmab

/-
  Add of an order that may lie, in the words of the document's list; the law's own fact 'crossed'. Conditions stand in each theorem.
-/
namespace Go.Proofs.Ytcoijhofliilmab
open Go.RowKit

theorem cxAdd (bb m : Nat) (b : BkS) (L : List Ord) (o : Ord) (w : World) (h : Bk w bb m b) (hm : m + 1 ≤ 900) (hl : Lnk b.S L) (hw : (Lit.int .i64 o.id).wf = true) (hs : o.side = 1 ∨ o.side = 2) (hid : 1 ≤ o.id) (hp : 1 ≤ o.price ∧ o.price ≤ 1000000) (hq : 1 ≤ o.qty ∧ o.qty ≤ 1000000) (hno : ∀ y ∈ L, y.id ≠ o.id) (hc : L.length < 100) :
    Calls Try.prog 13 #[.pointer (some ⟨bb, 0, none⟩), .agg #[.int .i64 o.id, .int .i64 o.side, .int .i64 o.kind, .int .i64 o.price, .int .i64 o.qty]] w fun e W' => e = .returned .nilIface ∧ ∃ b', Lnk b'.S (L ++ [lieO o]) ∧ Goes w W' bb (m + 1) b b' := by
  have hlp : 1 ≤ (lieP o).price ∧ (lieP o).price ≤ 1000000 := by
    unfold lieP
    split
    · show 1 ≤ (1 : Int) ∧ (1 : Int) ≤ 1000000; omega
    · exact hp
  have hlq : (lieP o).qty = o.qty := by unfold lieP; split <;> rfl
  have hnoS : ∀ s, s < 2 → ∀ x ∈ b.S s, x.o.id ≠ o.id := fun s hs x hx => hno x.o (hl.mem.2 ⟨s, hs, x, hx, rfl⟩)
  refine (pbAdd_yes bb m b o w h hm hw (by unfold sideP; rcases hs with e | e <;> rw [e] <;> rfl) (by omega) (by unfold rightB inB; simp [hlq]; omega) hnoS (by rw [← hl.len]; exact hc)).mono ?_
  rintro e W' ⟨rfl, b', s, k, a, hs2, hsd, hS, hg⟩
  refine ⟨rfl, b', ?_, hg⟩
  rw [hS, ← lie_same]
  exact hl.add hs2 (by rw [lieP_side]; exact hsd) hlp (fun y hy => by have := hl.ok h.ok y hy; omega) (by rw [lieP_id]; exact hno)

def twoL : List Ord := [⟨1, 1, 1, 10, 5⟩, ⟨2, 2, 1, 8, 3⟩]
theorem two_one : fiter 9 ⟨[], twoL, 3⟩ 1 = ⟨[⟨1, 2, 9, 3⟩], [⟨1, 1, 1, 10, 2⟩], 0⟩ := by rfl

set_option maxRecDepth 100000 in
set_option maxHeartbeats 2000000 in
theorem crossed_yes (w : World) : Calls Try.prog 11 #[] w fun e W' => e = .returned (.bool true) ∧ Below w.heap.size w W' := by
  go_enter Try.func11, Try.ntmps11
  go_wp2_with fail
  refine (pbNew w).mono ?_
  rintro e w1 ⟨rfl, h1, h2⟩
  have M1 : Hid (MyBk w w1 (w.heap.size + 2) 0 (BkS.none_ w.heap.size)) := MyBk.start h1 h2
  clear h1 h2
  go_wp2_with fail
  refine (cxAdd (w.heap.size + 2) 0 _ [] ⟨1, 1, 1, 10, 5⟩ w1 M1.out.bk (by omega) Lnk.start (by decide) (by decide) (by decide) (by decide) (by decide) (fun y hy => by cases hy) (by decide)).mono ?_
  rintro e w2 ⟨rfl, b2, hl2, hg2⟩
  have M2 : Hid (MyBk w w2 (w.heap.size + 2) 1 b2) := M1.out.goes hg2
  have L2 : Hid (Lnk b2.S [⟨1, 1, 1, 10, 5⟩]) := hl2
  clear hl2 hg2 M1
  go_wp2_with fail
  refine (cxAdd (w.heap.size + 2) 1 b2 [⟨1, 1, 1, 10, 5⟩] ⟨2, 2, 1, 8, 3⟩ w2 M2.out.bk (by omega) L2.out (by decide) (by decide) (by decide) (by decide) (by decide) (by decide) (by decide)).mono ?_
  rintro e w3 ⟨rfl, b3, hl3, hg3⟩
  have M3 : Hid (MyBk w w3 (w.heap.size + 2) 2 b3) := M2.out.goes hg3
  have L3 : Hid (Lnk b3.S twoL) := hl3
  clear hl3 hg3 M2 L2
  go_wp2_with fail
  refine (cpFills (w.heap.size + 2) 2 b3 twoL 9 3 w3 M3.out.bk (by omega) L3.out ⟨by decide, by decide, by decide⟩ (by decide)).mono ?_
  rintro e w4 ⟨K, vf, rfl, hq, hj, b4, hC⟩
  have hK : K = 1 := by
    have h1 : (fiter 9 ⟨[], twoL, 3⟩ 1).q = 0 := by rw [two_one]
    rcases Nat.lt_trichotomy K 1 with e | e | e
    · obtain rfl : K = 0 := by omega
      cases hq
    · exact e
    · have := hj 1 e; omega
  subst hK
  rw [two_one] at hC
  have M4 : Hid (MyBk w w4 (w.heap.size + 2) 4 b4) := M3.out.goes (m' := 4) ⟨hC.bk, hC.since.1, hC.since.2⟩
  have L4 : Hid (Lnk b4.S [⟨1, 1, 1, 10, 2⟩]) := hC.lnk
  have hr : w4.ownsRow w3.heap.size 49 4 vf 1 [.int .i64 1, .int .i64 2, .int .i64 9, .int .i64 3] := hC.fils
  obtain ⟨g, cap, rfl, _, _⟩ := hr.form (by omega)
  have c0 : w4.cell? ⟨g, 0, none⟩ = some (.int .i64 1) := hr.cellAt 0 (by omega)
  have c1 : w4.cell? ⟨g, 1, none⟩ = some (.int .i64 2) := hr.cellAt 1 (by omega)
  have c2 : w4.cell? ⟨g, 2, none⟩ = some (.int .i64 9) := hr.cellAt 2 (by omega)
  have c3 : w4.cell? ⟨g, 3, none⟩ = some (.int .i64 3) := hr.cellAt 3 (by omega)
  clear hC hr hq hj M3 L3
  go_wp2_with fail
  refine (pbMany (w.heap.size + 2) 4 b4 w4 M4.out.bk).mono ?_
  rintro e w5 ⟨rfl, hb5⟩
  have hlen : (b4.S 0).length + (b4.S 1).length = 1 := L4.out.len.symm
  rw [hlen]
  have M5 : Hid _ := M4.out.below hb5
  clear hb5 c0 c1 c2 c3 hlen
  go_wp2_with fail
  go_ret
  exact ⟨rfl, M5.out.bel⟩
end Go.Proofs.Ytcoijhofliilmab
