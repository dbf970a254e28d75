/-
  What lies in memory while the law CrossFair runs: a book of the call's own, the orders, what is chosen; lots traded, in a row of numbers. Conditions stand in each theorem.
-/
import Derived.Test.YtcoijhofliilmabHJ
import Derived.Test.YtcoijhofliilmabHI
import Derived.Maps.OwnSet
import Derived.Maps.RangeWalk
import Derived.Lib.SlKeysI
import Derived.Shelf.Sort.Plain
import Derived.Shelf.Slices.In.SortNone2
import Derived.Test.YtcoijhofliilmabRows
import Derived.Shelf.SlIterI.Sorted
namespace Go.Proofs.Ytcoijhofliilmab
open Go.RowKit

def QBox (w : World) (b : Nat) (q : Quo) : Prop := w.heap[b]? = some (.cells #[.int .i64 q.price, .int .i64 q.qty, .int .i64 q.sur] 27 (0, 0))
structure Cx (w W : World) (bb m : Nat) (b : BkS) (L X : List Ord) (vx : Value) (bx qb : Nat) (q : Quo) : Prop where
  my : MyBk w W bb m b
  lnk : Lnk b.S L
  xs : W.ownsRow bx 40 5 vx X.length (oV X)
  quo : QBox W qb q
section
variable {w W W' : World} {bb m m' bx qb : Nat} {b b' : BkS} {L L' X : List Ord} {vx : Value} {q : Quo} {S : Nat → Prop}
theorem Cx.below (h : Cx w W bb m b L X vx bx qb q) (hb : Below W.heap.size W W') : Cx w W' bb m b L X vx bx qb q :=
  ⟨h.my.below hb, h.lnk, owns_below h.xs hb (Nat.le_refl _), blk_below h.quo hb (Nat.le_refl _)⟩
theorem Cx.goes (h : Cx w W bb m b L X vx bx qb q) (hg : Goes W W' bb m' b b') (hl : Lnk b'.S L') : Cx w W' bb m' b' L' X vx bx qb q :=
  ⟨h.my.goes hg, hl, owns_out h.xs hg.2.1 (h.my.bk.farAny h.xs (by decide) (by decide) (by decide) (by decide) (by decide)), blk_out h.quo hg.2.1 (h.my.bk.farBox h.quo (by decide) (by decide) (by decide) (by decide) (by decide))⟩
/-- a block that is none of these, written -/
theorem Cx.out (h : Cx w W bb m b L X vx bx qb q) (ho : Out S W W') (h1 : ∀ j, S j → w.heap.size ≤ j) (h2 : ∀ j, b.foot bb j → ¬ S j) (h3 : ∀ j, vx.ownBlock = some j → ¬ S j) (h4 : ¬ S qb) : Cx w W' bb m b L X vx bx qb q :=
  ⟨⟨h.my.bk.out ho h2, bel_of_out ho h1 h.my.bel, h.my.mine⟩, h.lnk, owns_out h.xs ho h3, blk_out h.quo ho h4⟩
end
theorem lie_push {X : List Ord} {k : Nat} (h : k < X.length) : lieL (X.take (k + 1)) = lieL (X.take k) ++ [lieO (oAt X k)] := by
  unfold lieL
  rw [List.take_succ_eq_append_getElem h, List.map_append, oAt_eq h]; rfl
/-- the rank of both sides, in a block of its own -/
def RBox (w : World) (b : Nat) (r0 r1 : Value) : Prop := w.heap[b]? = some (.cells #[r0, r1] 41 (0, 0))

section
variable {w W W' : World} {bb m m' bx qb rk : Nat} {b b' : BkS} {L L' X : List Ord} {vx r0 r1 : Value} {q : Quo}
/-- the rank of a side, written -/
theorem Cx.rank (h : Cx w W bb m b L X vx bx qb q) (hR : RBox W rk r0 r1) (hw : w.heap.size ≤ rk) (j : Nat) (u : Value) : Cx w (W.setCell ⟨rk, j, none⟩ u) bb m b L X vx bx qb q := by
  have hf : ¬ b.foot bb rk := h.my.bk.farBox hR (by decide) (by decide) (by decide) (by decide) (by decide)
  exact h.out (out_set W ⟨rk, j, none⟩ u) (fun k e => by rw [show k = rk from e]; exact hw) (fun k hk e => hf (by rw [← show k = rk from e]; exact hk)) (fun k hk e => owns_type h.xs hR (by decide) (hk.trans (congrArg some e))) (blk_ne h.quo hR (by decide))
theorem rank_row {w : World} {base rk j : Nat} {r0 r1 v u : Value} {n : Nat} {xs : List Value} (hr : w.ownsRow base 40 5 v n xs) (hR : RBox w rk r0 r1) : (w.setCell ⟨rk, j, none⟩ u).ownsRow base 40 5 v n xs :=
  owns_out hr (out_set w ⟨rk, j, none⟩ u) (fun _ hk e => owns_type hr hR (by decide) (hk.trans (congrArg some e)))
end

def inV (l : List Int) : List Value := l.map (Value.int .i64)
theorem inV_at {l : List Int} {k : Nat} (h : k < l.length) : (inV l)[k]? = some (.int .i64 (l.getD k 0)) := by simp [inV, h]
/-- lots traded, by the orders' numbers -/
def trdR (n : Nat) (fs : List Fil) : List Int := (List.range (n + 1)).map fun (j : Nat) => trdF (j : Int) fs
theorem trdR_len (n : Nat) (fs : List Fil) : (trdR n fs).length = n + 1 := by simp [trdR]
theorem trdR_at {n k : Nat} (fs : List Fil) (h : k < n + 1) : (trdR n fs).getD k 0 = trdF (k : Int) fs := by simp [trdR, h]
theorem trdR_nil (n : Nat) : inV (trdR n []) = List.replicate (n + 1) (.int .i64 0) := by
  unfold inV trdR
  rw [List.map_map]
  refine List.ext_getElem? (fun k => ?_)
  by_cases hk : k < n + 1
  · simp [hk, trdF]
  · simp [hk]
theorem inV_set (l : List Int) (k : Nat) (z : Int) : (inV l).set k (.int .i64 z) = inV (l.set k z) := by unfold inV; rw [List.map_set]
/-- one trade more -/
theorem trdR_two {n i j : Nat} {fs : List Fil} {f : Fil} (hb : f.buyer = (i : Int) + 1) (hs : f.seller = (j : Int) + 1) :
    ((trdR n fs).set (i + 1) (trdF ((i : Int) + 1) fs + f.qty)).set (j + 1) (trdF ((j : Int) + 1) fs + f.qty) = trdR n (fs ++ [f]) := by
  refine List.ext_getElem? (fun k => ?_)
  by_cases hk : k < n + 1
  · have e0 : (trdR n (fs ++ [f]))[k]? = some (trdF (k : Int) fs + (if f.buyer = (k : Int) ∨ f.seller = (k : Int) then f.qty else 0)) := by
      unfold trdR
      rw [List.getElem?_map, List.getElem?_range hk, Option.map_some, trd_snoc]
    have e1 : (trdR n fs)[k]? = some (trdF (k : Int) fs) := by
      unfold trdR
      rw [List.getElem?_map, List.getElem?_range hk, Option.map_some]
    rw [e0, List.getElem?_set, List.getElem?_set, List.length_set, trdR_len]
    by_cases h1 : j + 1 = k
    · rw [if_pos h1, if_pos (by omega), if_pos (Or.inr (by omega))]
      rw [show ((j : Int) + 1) = (k : Int) by omega]
    · rw [if_neg h1]
      by_cases h2 : i + 1 = k
      · rw [if_pos h2, if_pos (by omega), if_pos (Or.inl (by omega))]
        rw [show ((i : Int) + 1) = (k : Int) by omega]
      · rw [if_neg h2, e1, if_neg (by omega)]; simp
  · rw [List.getElem?_eq_none (by rw [List.length_set, List.length_set, trdR_len]; omega), List.getElem?_eq_none (by rw [trdR_len]; omega)]
theorem fil_take {l : List Fil} {k : Nat} (h : k < l.length) : l.take (k + 1) = l.take k ++ [fAt l k] := by
  rw [List.take_succ_eq_append_getElem h]
  congr 2
  simp [fAt, h]
theorem fAt_in {l : List Fil} {k : Nat} (h : k < l.length) : fAt l k ∈ l := by
  have : fAt l k = l[k] := by simp [fAt, h]
  rw [this]; exact List.getElem_mem h
theorem row_fil {w : World} {base : Nat} {v : Value} {l : List Fil} (h : w.ownsRow base 49 4 v l.length (fV l)) {k : Nat} (hk : k < l.length) :
    ∃ g cap, v = .slice (some ⟨g, 0, none⟩) l.length cap ∧ w.cell? ⟨g, k * 4, none⟩ = some (.int .i64 (fAt l k).buyer) ∧ w.cell? ⟨g, k * 4 + 1, none⟩ = some (.int .i64 (fAt l k).seller) ∧ w.cell? ⟨g, k * 4 + 2, none⟩ = some (.int .i64 (fAt l k).price) ∧ w.cell? ⟨g, k * 4 + 3, none⟩ = some (.int .i64 (fAt l k).qty) := by
  obtain ⟨g, cap, rfl, _, _⟩ := h.form (by omega)
  obtain ⟨h1, h2, h3, h4⟩ := fV_at hk
  exact ⟨g, cap, rfl, (h.cellAt _ (by omega)).trans h1, (h.cellAt _ (by omega)).trans h2, (h.cellAt _ (by omega)).trans h3, (h.cellAt _ (by omega)).trans h4⟩
/-- besides: the rank of both sides, the trades, the lots traded -/
structure Cy (w W : World) (bb m : Nat) (b : BkS) (L X : List Ord) (vx : Value) (bx qb : Nat) (q : Quo) (rk : Nat) (v0 v1 vf : Value) (z0 z1 zf zt : Nat) (Z0 Z1 : List Ord) (fs : List Fil) (tg n : Nat) (ts : List Int) : Prop where
  cx : Cx w W bb m b L X vx bx qb q
  rb : RBox W rk v0 v1
  r0 : W.ownsRow z0 40 5 v0 Z0.length (oV Z0)
  r1 : W.ownsRow z1 40 5 v1 Z1.length (oV Z1)
  fr : W.ownsRow zf 49 4 vf fs.length (fV fs)
  tr : W.ownsRow zt 3 1 (.slice (some ⟨tg, 0, none⟩) (n + 1) (n + 1)) (n + 1) (inV ts)
  ap : ¬ b.foot bb tg
  lo : w.heap.size ≤ tg
section
variable {w W W' : World} {bb m bx qb rk z0 z1 zf zt tg n : Nat} {b : BkS} {L X Z0 Z1 : List Ord} {vx v0 v1 vf : Value} {q : Quo} {fs : List Fil} {ts : List Int}
theorem Cy.below (h : Cy w W bb m b L X vx bx qb q rk v0 v1 vf z0 z1 zf zt Z0 Z1 fs tg n ts) (hb : Below W.heap.size W W') : Cy w W' bb m b L X vx bx qb q rk v0 v1 vf z0 z1 zf zt Z0 Z1 fs tg n ts :=
  ⟨h.cx.below hb, blk_below h.rb hb (Nat.le_refl _), owns_below h.r0 hb (Nat.le_refl _), owns_below h.r1 hb (Nat.le_refl _), owns_below h.fr hb (Nat.le_refl _), owns_below h.tr hb (Nat.le_refl _), h.ap, h.lo⟩
theorem Cy.set (h : Cy w W bb m b L X vx bx qb q rk v0 v1 vf z0 z1 zf zt Z0 Z1 fs tg n ts) (k : Nat) (z : Int) : Cy w (W.setCell ⟨tg, k, none⟩ (.int .i64 z)) bb m b L X vx bx qb q rk v0 v1 vf z0 z1 zf zt Z0 Z1 fs tg n (ts.set k z) := by
  have ho := out_set W ⟨tg, k, none⟩ (.int .i64 z)
  have e : (Value.slice (some ⟨tg, 0, none⟩) (n + 1) (n + 1)).ownBlock = some tg := rfl
  refine ⟨h.cx.out ho (fun j hj => by rw [show j = tg from hj]; exact h.lo) (fun j hj e' => h.ap (by rw [← show j = tg from e']; exact hj)) (fun j hj e' => owns_types h.cx.xs h.tr (by decide) hj (e.trans (congrArg some e'.symm))) (fun e' => owns_type h.tr h.cx.quo (by decide) (e.trans (congrArg some (show tg = qb from e'.symm)))), blk_out h.rb ho (fun e' => owns_type h.tr h.rb (by decide) (e.trans (congrArg some (show tg = rk from e'.symm)))), owns_out h.r0 ho (fun j hj e' => owns_types h.r0 h.tr (by decide) hj (e.trans (congrArg some e'.symm))), owns_out h.r1 ho (fun j hj e' => owns_types h.r1 h.tr (by decide) hj (e.trans (congrArg some e'.symm))), owns_out h.fr ho (fun j hj e' => owns_types h.fr h.tr (by decide) hj (e.trans (congrArg some e'.symm))), ?_, h.ap, h.lo⟩
  rw [← inV_set]
  exact (h.tr.stored k (.int .i64 z)).1
theorem Cy.far (h : Cy w W bb m b L X vx bx qb q rk v0 v1 vf z0 z1 zf zt Z0 Z1 fs tg n ts) {k fb : Nat} {z : Int} {f : Fil} (hf : FBox W fb f) : FBox (W.setCell ⟨tg, k, none⟩ (.int .i64 z)) fb f :=
  blk_out hf (out_set W ⟨tg, k, none⟩ (.int .i64 z)) (fun e' => owns_type h.tr hf (by decide) (congrArg some (show tg = fb from e'.symm)))
theorem Cy.drew (h : Cy w W bb m b L X vx bx qb q rk v0 v1 vf z0 z1 zf zt Z0 Z1 fs tg n ts) : Cy w W.drew bb m b L X vx bx qb q rk v0 v1 vf z0 z1 zf zt Z0 Z1 fs tg n ts := h.below (Below.refl _ _).drew
theorem Cy.trAt (h : Cy w W bb m b L X vx bx qb q rk v0 v1 vf z0 z1 zf zt Z0 Z1 fs tg n ts) (hl : ts.length = n + 1) {k : Nat} (hk : k < n + 1) : W.cell? ⟨tg, k, none⟩ = some (.int .i64 (ts.getD k 0)) :=
  (h.tr.cellAt k (by omega)).trans (inV_at (by omega))
theorem Cy.trFree (h : Cy w W bb m b L X vx bx qb q rk v0 v1 vf z0 z1 zf zt Z0 Z1 fs tg n ts) (k : Nat) : W.frozen? ⟨tg, k, none⟩ = false := h.tr.frozenAt k
end
end Go.Proofs.Ytcoijhofliilmab

/-
  How the program's Of counts, as plain lists: the lots that any price suits, and those of each price by itself, summed up from one end of the prices and from the other; and that it is how much is bought and sold at each. No program is named here.
-/
namespace Go.Proofs.Ytcoijhofliilmab
open Go.RowKit

def sumQ (q : Ord → Bool) (l : List Ord) : Int := (l.map fun o => if q o = true then o.qty else 0).sum
def mkBB (o : Ord) : Bool := (o.kind == 2) && (o.side == 1)
def mkSB (o : Ord) : Bool := (o.kind == 2) && !(o.side == 1)
def limBB (p : Int) (o : Ord) : Bool := !(o.kind == 2) && ((o.price == p) && (o.side == 1))
def limSB (p : Int) (o : Ord) : Bool := !(o.kind == 2) && ((o.price == p) && !(o.side == 1))
/-- the same, at each of several prices -/
def sumX (q : Int → Ord → Bool) (xs : List Int) (l : List Ord) : Int := (xs.map fun p => sumQ (q p) l).sum

theorem sumQ_nil (q : Ord → Bool) : sumQ q [] = 0 := rfl
theorem sumQ_cons (q : Ord → Bool) (o : Ord) (l : List Ord) : sumQ q (o :: l) = (if q o = true then o.qty else 0) + sumQ q l := by simp [sumQ]
theorem sumQ_take {l : List Ord} {k : Nat} (q : Ord → Bool) (h : k < l.length) : sumQ q (l.take (k + 1)) = sumQ q (l.take k) + (if q (oAt l k) = true then (oAt l k).qty else 0) := by
  unfold sumQ
  rw [List.take_succ_eq_append_getElem h, List.map_append, List.map_singleton, sum_snoc, oAt_eq h]
theorem sumQ_yes {l : List Ord} {k : Nat} {q : Ord → Bool} (h : k < l.length) (hq : q (oAt l k) = true) : sumQ q (l.take (k + 1)) = sumQ q (l.take k) + (oAt l k).qty := by rw [sumQ_take q h, if_pos hq]
theorem sumQ_no {l : List Ord} {k : Nat} {q : Ord → Bool} (h : k < l.length) (hq : q (oAt l k) = false) : sumQ q (l.take (k + 1)) = sumQ q (l.take k) := by rw [sumQ_take q h, if_neg (by rw [hq]; decide)]; omega
theorem sumQ_congr {q q' : Ord → Bool} : ∀ {l : List Ord}, (∀ o ∈ l, q o = q' o) → sumQ q l = sumQ q' l
  | [], _ => rfl
  | o :: l, h => by
    rw [sumQ_cons, sumQ_cons, h o (List.mem_cons_self ..), sumQ_congr (fun x hx => h x (List.mem_cons_of_mem _ hx))]
theorem sumQ_add {q q' : Ord → Bool} : ∀ {l : List Ord}, (∀ o ∈ l, q o = true → q' o = false) → sumQ q l + sumQ q' l = sumQ (fun o => q o || q' o) l
  | [], _ => rfl
  | o :: l, h => by
    have ih := sumQ_add (l := l) (fun x hx => h x (List.mem_cons_of_mem _ hx))
    have ho := h o (List.mem_cons_self ..)
    rw [sumQ_cons, sumQ_cons, sumQ_cons, ← ih]
    cases h1 : q o with
    | true => rw [ho h1]; simp; omega
    | false => cases h2 : q' o <;> simp <;> omega
theorem sumQ_in {q : Ord → Bool} : ∀ {l : List Ord}, (∀ o ∈ l, okO o = true) → 0 ≤ sumQ q l ∧ sumQ q l ≤ 1000000 * (l.length : Int)
  | [], _ => by simp [sumQ]
  | o :: l, h => by
    have ih := sumQ_in (q := q) (l := l) (fun x hx => h x (List.mem_cons_of_mem _ hx))
    have ho := (okO_qty (h o (List.mem_cons_self ..))).2
    rw [sumQ_cons, List.length_cons]
    split <;> omega
theorem sumQ_small {q : Ord → Bool} {l : List Ord} (h : ∀ o ∈ l, okO o = true) (hl : l.length ≤ 1000) : 0 ≤ sumQ q l ∧ sumQ q l ≤ 1000000000 := by
  have := sumQ_in (q := q) h; omega
theorem ok_take {l : List Ord} (h : ∀ o ∈ l, okO o = true) (k : Nat) : ∀ o ∈ l.take k, okO o = true := fun o ho => h o (List.mem_of_mem_take ho)

theorem sumX_nil (q : Int → Ord → Bool) (l : List Ord) : sumX q [] l = 0 := rfl
theorem sumX_none (q : Int → Ord → Bool) : ∀ xs : List Int, sumX q xs [] = 0
  | [] => rfl
  | x :: xs => by
    have e : sumX q (x :: xs) [] = sumQ (q x) [] + sumX q xs [] := by simp [sumX]
    rw [e, sumX_none q xs]; rfl
theorem sumX_one (q : Int → Ord → Bool) (x : Int) (xs : List Int) (l : List Ord) : sumX q (x :: xs) l = sumQ (q x) l + sumX q xs l := by simp [sumX]
theorem sumX_snoc (q : Int → Ord → Bool) (xs : List Int) (x : Int) (l : List Ord) : sumX q (xs ++ [x]) l = sumX q xs l + sumQ (q x) l := by
  unfold sumX; rw [List.map_append, List.map_singleton, sum_snoc]
theorem sumX_drop {q : Int → Ord → Bool} {xs : List Int} {k : Nat} (l : List Ord) (h : k < xs.length) : sumX q (xs.drop k) l = sumQ (q (xs.getD k 0)) l + sumX q (xs.drop (k + 1)) l := by
  rw [List.drop_eq_getElem_cons h, sumX_one]; simp [h]
theorem sumX_take {q : Int → Ord → Bool} {xs : List Int} {k : Nat} (l : List Ord) (h : k < xs.length) : sumX q (xs.take (k + 1)) l = sumX q (xs.take k) l + sumQ (q (xs.getD k 0)) l := by
  rw [List.take_succ_eq_append_getElem h, sumX_snoc]; simp [h]
/-- one order lies at one price alone -/
theorem one_price (c : Bool) (p v : Int) : ∀ {xs : List Int}, xs.Nodup → (xs.map fun x => if ((p == x) && c) = true then v else 0).sum = if (c && decide (p ∈ xs)) = true then v else 0
  | [], _ => by simp
  | x :: xs, h => by
    rw [List.nodup_cons] at h
    rw [List.map_cons, List.sum_cons, one_price c p v h.2]
    cases c with
    | false => simp
    | true =>
      by_cases e : p = x
      · subst e
        simp [h.1]
      · simp [e]
theorem sumX_cons (q : Int → Ord → Bool) (o : Ord) (l : List Ord) : ∀ xs : List Int, sumX q xs (o :: l) = (xs.map fun p => if q p o = true then o.qty else 0).sum + sumX q xs l
  | [] => rfl
  | x :: xs => by
    rw [sumX_one, sumX_one, sumX_cons q o l xs, sumQ_cons, List.map_cons, List.sum_cons]; omega
theorem sumX_is (c : Ord → Bool) {q : Int → Ord → Bool} (hq : ∀ p o, q p o = (!(o.kind == 2) && ((o.price == p) && c o))) {xs : List Int} (h : xs.Nodup) : ∀ l : List Ord, sumX q xs l = sumQ (fun o => !(o.kind == 2) && (c o && decide (o.price ∈ xs))) l
  | [] => sumX_none _ _
  | o :: l => by
    rw [sumX_cons, sumX_is c hq h l, sumQ_cons]
    congr 1
    have e := one_price (c o) o.price o.qty h
    cases hk : (o.kind == 2) with
    | true =>
      have : (xs.map fun p => if q p o = true then o.qty else 0) = xs.map fun _ => 0 := by
        congr 1; funext p; rw [hq, hk]; simp
      rw [this]
      have z : ∀ ys : List Int, (ys.map fun _ => (0 : Int)).sum = 0 := fun ys => by induction ys with
        | nil => rfl
        | cons y ys ih => rw [List.map_cons, List.sum_cons, ih]; rfl
      rw [z]; simp
    | false =>
      have : (xs.map fun p => if q p o = true then o.qty else 0) = xs.map fun p => if ((o.price == p) && c o) = true then o.qty else 0 := by
        congr 1; funext p; rw [hq, hk]; simp
      rw [this, e]; simp
theorem sumB_is {xs : List Int} (h : xs.Nodup) (l : List Ord) : sumX limBB xs l = sumQ (fun o => !(o.kind == 2) && ((o.side == 1) && decide (o.price ∈ xs))) l := sumX_is (fun o => o.side == 1) (fun _ _ => rfl) h l
theorem sumS_is {xs : List Int} (h : xs.Nodup) (l : List Ord) : sumX limSB xs l = sumQ (fun o => !(o.kind == 2) && (!(o.side == 1) && decide (o.price ∈ xs))) l := sumX_is (fun o => !(o.side == 1)) (fun _ _ => rfl) h l
/-- the order in which prices are summed up is nothing -/
theorem sumB_same {xs ys : List Int} (h : xs.Nodup) (h' : ys.Nodup) (hm : ∀ p, p ∈ xs ↔ p ∈ ys) (l : List Ord) : sumX limBB xs l = sumX limBB ys l := by
  rw [sumB_is h, sumB_is h']; exact sumQ_congr (fun o _ => by simp [hm])
theorem rises_nodup {xs : List Int} (h : xs.Pairwise (· < ·)) : xs.Nodup := h.imp (fun e => by omega)
theorem rises_getD {xs : List Int} (h : xs.Pairwise (· < ·)) {i j : Nat} (hij : i < j) (hj : j < xs.length) : xs.getD i 0 < xs.getD j 0 := by
  rw [List.getD_eq_getElem?_getD, List.getD_eq_getElem?_getD, List.getElem?_eq_getElem (by omega), List.getElem?_eq_getElem hj, Option.getD_some, Option.getD_some]
  exact List.pairwise_iff_getElem.1 h i j (by omega) hj hij
theorem mem_getD {xs : List Int} {q : Int} (h : q ∈ xs) : ∃ i, i < xs.length ∧ xs.getD i 0 = q := by
  obtain ⟨i, hi, e⟩ := List.mem_iff_getElem.1 h
  exact ⟨i, hi, by simpa [hi] using e⟩
theorem drop_mem {xs : List Int} {k : Nat} {q : Int} : q ∈ xs.drop k ↔ ∃ i, k ≤ i ∧ i < xs.length ∧ xs.getD i 0 = q := by
  rw [List.mem_iff_getElem]
  constructor
  · rintro ⟨i, hi, e⟩
    rw [List.length_drop] at hi
    refine ⟨k + i, by omega, by omega, ?_⟩
    rw [List.getElem_drop] at e
    simpa [List.getD_eq_getElem?_getD, show k + i < xs.length by omega] using e
  · rintro ⟨i, h1, h2, e⟩
    refine ⟨i - k, by rw [List.length_drop]; omega, ?_⟩
    rw [List.getElem_drop]
    simp only [show k + (i - k) = i by omega]
    simpa [List.getD_eq_getElem?_getD, h2] using e
theorem take_mem {xs : List Int} {k : Nat} {q : Int} : q ∈ xs.take k ↔ ∃ i, i < k ∧ i < xs.length ∧ xs.getD i 0 = q := by
  rw [List.mem_iff_getElem]
  constructor
  · rintro ⟨i, hi, e⟩
    rw [List.length_take] at hi
    rw [List.getElem_take] at e
    exact ⟨i, by omega, by omega, by simpa [List.getD_eq_getElem?_getD, show i < xs.length by omega] using e⟩
  · rintro ⟨i, h1, h2, e⟩
    refine ⟨i, by rw [List.length_take]; omega, ?_⟩
    rw [List.getElem_take]
    simpa [List.getD_eq_getElem?_getD, h2] using e
theorem rises_drop {xs : List Int} (h : xs.Pairwise (· < ·)) {k : Nat} (hk : k < xs.length) {q : Int} (hq : q ∈ xs) : q ∈ xs.drop k ↔ xs.getD k 0 ≤ q := by
  rw [drop_mem]
  obtain ⟨i, hi, rfl⟩ := mem_getD hq
  constructor
  · rintro ⟨j, h1, h2, e⟩
    rw [← e]
    rcases Nat.lt_or_eq_of_le h1 with h3 | rfl
    · exact Int.le_of_lt (rises_getD h h3 h2)
    · exact Int.le_refl _
  · intro hle
    refine ⟨i, ?_, hi, rfl⟩
    by_cases hik : i < k
    · have := rises_getD h hik hk; omega
    · omega
theorem rises_take {xs : List Int} (h : xs.Pairwise (· < ·)) {k : Nat} (hk : k < xs.length) {q : Int} (hq : q ∈ xs) : q ∈ xs.take (k + 1) ↔ q ≤ xs.getD k 0 := by
  rw [take_mem]
  obtain ⟨i, hi, rfl⟩ := mem_getD hq
  constructor
  · rintro ⟨j, h1, h2, e⟩
    rw [← e]
    rcases Nat.lt_or_eq_of_le (Nat.le_of_lt_succ h1) with h3 | rfl
    · exact Int.le_of_lt (rises_getD h h3 hk)
    · exact Int.le_refl _
  · intro hle
    refine ⟨i, ?_, hi, rfl⟩
    by_cases hik : k < i
    · have := rises_getD h hik hi; omega
    · omega
/-- at a price as much is bought as any price suits, and is named from there on -/
theorem dem_at {F : List Ord} {xs : List Int} {k : Nat} (hF : ∀ o ∈ F, okO o = true) (h : xs.Pairwise (· < ·)) (hm : ∀ o ∈ F, namesO o = true → o.price ∈ xs) (hk : k < xs.length) :
    sumQ mkBB F + sumX limBB (xs.drop k) F = demO (xs.getD k 0) F := by
  rw [sumB_is ((rises_nodup h).sublist (List.drop_sublist ..)), sumQ_add (fun o _ h1 => by unfold mkBB at h1; rw [Bool.and_eq_true] at h1; simp [h1.1])]
  refine sumQ_congr (q' := buysB (xs.getD k 0)) (fun o ho => ?_)
  have h1 := hF o ho
  unfold mkBB buysB
  rw [h1]
  cases hk2 : (o.kind == 2) with
  | true => simp
  | false =>
    have hn : namesO o = true := by unfold namesO; rw [h1, hk2]; rfl
    have := rises_drop h hk (hm o ho hn)
    simp only [Bool.false_and, Bool.false_or, Bool.not_false, Bool.true_and]
    congr 1
    rw [Bool.eq_iff_iff, decide_eq_true_iff, decide_eq_true_iff]
    exact this
theorem sup_at {F : List Ord} {xs : List Int} {k : Nat} (hF : ∀ o ∈ F, okO o = true) (h : xs.Pairwise (· < ·)) (hm : ∀ o ∈ F, namesO o = true → o.price ∈ xs) (hk : k < xs.length) :
    sumQ mkSB F + sumX limSB (xs.take (k + 1)) F = supO (xs.getD k 0) F := by
  rw [sumS_is ((rises_nodup h).sublist (List.take_sublist ..)), sumQ_add (fun o _ h1 => by unfold mkSB at h1; rw [Bool.and_eq_true] at h1; simp [h1.1])]
  refine sumQ_congr (q' := sellsB (xs.getD k 0)) (fun o ho => ?_)
  have h1 := hF o ho
  have h2 := (okO_qty h1).1
  have hs : (o.side == 2) = !(o.side == 1) := by
    rw [Bool.eq_iff_iff]; simp; omega
  unfold mkSB sellsB
  rw [h1, hs]
  cases hk2 : (o.kind == 2) with
  | true => simp
  | false =>
    have hn : namesO o = true := by unfold namesO; rw [h1, hk2]; rfl
    have := rises_take h hk (hm o ho hn)
    simp only [Bool.false_and, Bool.false_or, Bool.not_false, Bool.true_and]
    congr 1
    rw [Bool.eq_iff_iff, decide_eq_true_iff, decide_eq_true_iff]
    exact this
/-- orders that are nothing count for nothing -/
theorem dem_ok (p : Int) : ∀ l : List Ord, demO p (l.filter okO) = demO p l
  | [] => rfl
  | o :: l => by
    have e : demO p (o :: l) = (if buysB p o = true then o.qty else 0) + demO p l := by simp [demO]
    have ih := dem_ok p l
    rw [e]
    by_cases h : okO o = true
    · rw [List.filter_cons, if_pos h]
      have e2 : demO p (o :: l.filter okO) = (if buysB p o = true then o.qty else 0) + demO p (l.filter okO) := by simp [demO]
      rw [e2, ih]
    · rw [List.filter_cons, if_neg h, ih]
      have : buysB p o = false := by unfold buysB; simp [h]
      rw [this]; simp
theorem sup_ok (p : Int) : ∀ l : List Ord, supO p (l.filter okO) = supO p l
  | [] => rfl
  | o :: l => by
    have e : supO p (o :: l) = (if sellsB p o = true then o.qty else 0) + supO p l := by simp [supO]
    have ih := sup_ok p l
    rw [e]
    by_cases h : okO o = true
    · rw [List.filter_cons, if_pos h]
      have e2 : supO p (o :: l.filter okO) = (if sellsB p o = true then o.qty else 0) + supO p (l.filter okO) := by simp [supO]
      rw [e2, ih]
    · rw [List.filter_cons, if_neg h, ih]
      have : sellsB p o = false := by unfold sellsB; simp [h]
      rw [this]; simp
theorem prices_ok (l : List Ord) (more : Int) : pricesO (l.filter okO) more = pricesO l more := by
  unfold pricesO
  rw [List.filter_filter]
  congr 2
  refine List.filter_congr (fun o _ => ?_)
  unfold namesO
  cases okO o <;> simp
/-- the points, at a rising list of just the prices -/
def ptsX (xs : List Int) (l : List Ord) : List Pt := xs.map fun p => ⟨p, demO p l, supO p l⟩
theorem ptsX_take {xs : List Int} {k : Nat} (l : List Ord) (h : k < xs.length) : ptsX (xs.take (k + 1)) l = ptsX (xs.take k) l ++ [⟨xs.getD k 0, demO (xs.getD k 0) l, supO (xs.getD k 0) l⟩] := by
  unfold ptsX
  rw [List.take_succ_eq_append_getElem h, List.map_append, List.map_singleton]
  simp [h]
theorem ptsX_curve {l : List Ord} {more : Int} {xs : List Int} (h : xs.Pairwise (· < ·)) (hm : ∀ p, p ∈ xs ↔ p ∈ pricesO (l.filter okO) more) : ptsX xs (l.filter okO) = curveL l more := by
  unfold ptsX curveL
  rw [curve_prices h (fun p => by rw [hm, prices_ok])]
  refine List.map_congr_left (fun p _ => ?_)
  rw [dem_ok, sup_ok]
/-- sorted, and none twice: rising -/
theorem sorted_rises {xs : List Int} (h : xs.Nodup) : (sortI xs).Pairwise (· < ·) := by
  have h1 := sortI_sorted xs
  have h2 : (sortI xs).Nodup := (List.mergeSort_perm xs _).nodup_iff.2 h
  refine (h1.and h2).imp (fun ⟨a, b⟩ => by omega)
end Go.Proofs.Ytcoijhofliilmab

/-
  The program's map of the lots of each price, and what it holds behind each order; what counts and and return, over this seat's translation. Conditions stand in each theorem.
-/
namespace Go.Proofs.Ytcoijhofliilmab
open Go.RowKit

theorem Try.keyInt : Maps.Keyed Try.prog 3 := Maps.int_keyed Try.underlying3
theorem Try.keyIs {a : Int} (h : (Lit.int .i64 a).wf = true) : keyOf Try.prog 3 (.int .i64 a) = some (.int .i64 a) := Maps.keyOf_int_mk Try.underlying3 h
theorem Try.zeroLots (w : World) : (zeroValue 59).run Try.prog w = .ok (.agg #[.int .i64 0, .int .i64 0]) w := by kernel_rfl
def lotR (v : Value) : Option (DataW Unit × List MemPlace) :=
  match v with
  | .agg ⟨[.int .i64 a, .int .i64 b]⟩ => some (.agg [.lit (.int .i64 a), .lit (.int .i64 b)], [])
  | _ => none
def lotE (a b : Int) : DataW Unit := .agg [.lit (.int .i64 a), .lit (.int .i64 b)]
theorem lotR_mk (a b : Int) : lotR (.agg #[.int .i64 a, .int .i64 b]) = some (lotE a b, []) := rfl
theorem lotR_shape {v : Value} {y : DataW Unit × List MemPlace} (h : lotR v = some y) : ∃ a b : Int, v = .agg #[.int .i64 a, .int .i64 b] ∧ y = (lotE a b, []) := by
  unfold lotR at h
  split at h
  · rename_i a b
    exact ⟨a, b, rfl, by simpa [lotE] using h.symm⟩
  · cases h
theorem lotE_inj {a b a' b' : Int} (h : lotE a b = lotE a' b') : a = a' ∧ b = b' := by simpa [lotE] using h
theorem lotR_inv {v : Value} {a b : Int} {ps : List MemPlace} (h : lotR v = some (lotE a b, ps)) : v = .agg #[.int .i64 a, .int .i64 b] := by
  obtain ⟨a', b', rfl, e⟩ := lotR_shape h
  obtain ⟨rfl, rfl⟩ := lotE_inj (Prod.mk.injEq .. ▸ e : lotE a b = lotE a' b' ∧ ps = []).1
  rfl
/-- the lots of each price, of some orders; and a price more -/
def LotD (D : DataW Unit) (l : List Ord) (more : Int) : Prop :=
  (∀ p, D.atKey (.int .i64 p) (lotE 0 0) = lotE (sumQ (limBB p) l) (sumQ (limSB p) l)) ∧ ∀ p, Maps.has D (.int .i64 p) = true ↔ p ∈ pricesO l more
theorem key_lit (a : Int) : WideAt.IsKeyLit (Lit.int .i64 a) := trivial
theorem key_ne {a b : Int} (h : a ≠ b) : (Lit.int .i64 a) ≠ Lit.int .i64 b := fun e => h (by injection e)
theorem LotD.start {more : Int} (h : ¬ 0 < more) : LotD (.map []) [] more := by
  refine ⟨fun p => rfl, fun p => ?_⟩
  rw [pricesO_mem]
  constructor
  · intro e; cases e
  · rintro (⟨h1, _⟩ | ⟨o, ho, _⟩)
    · exact absurd h1 h
    · cases ho
theorem LotD.more {more : Int} (h : 0 < more) : LotD ((DataW.map []).put (.int .i64 more) (lotE 0 0)) [] more := by
  refine ⟨fun p => ?_, fun p => ?_⟩
  · by_cases e : p = more
    · subst e; exact Maps.atKey_put_same ⟨_, rfl⟩ (key_lit _) _ _
    · rw [Maps.atKey_put_other (key_ne e)]; rfl
  · rw [pricesO_mem]
    by_cases e : p = more
    · subst e
      rw [Maps.has_put_same ⟨_, rfl⟩ (key_lit _)]
      simp [h]
    · rw [Maps.has_put_other (key_ne e)]
      constructor
      · intro e'; cases e'
      · rintro (⟨_, h1⟩ | ⟨o, ho, _⟩)
        · exact absurd h1 e
        · cases ho
theorem sumQ_snoc (q : Ord → Bool) (l : List Ord) (o : Ord) : sumQ q (l ++ [o]) = sumQ q l + (if q o = true then o.qty else 0) := by
  unfold sumQ; rw [List.map_append, List.map_singleton, sum_snoc]
theorem pricesO_snoc {l : List Ord} {more : Int} {o : Ord} {p : Int} : p ∈ pricesO (l ++ [o]) more ↔ (p ∈ pricesO l more ∨ (namesO o = true ∧ o.price = p)) := by
  rw [pricesO_mem, pricesO_mem]
  constructor
  · rintro (h | ⟨x, hx, h1, h2⟩)
    · exact Or.inl (Or.inl h)
    · rw [List.mem_append, List.mem_singleton] at hx
      rcases hx with hx | rfl
      · exact Or.inl (Or.inr ⟨x, hx, h1, h2⟩)
      · exact Or.inr ⟨h1, h2⟩
  · rintro ((h | ⟨x, hx, h1, h2⟩) | ⟨h1, h2⟩)
    · exact Or.inl h
    · exact Or.inr ⟨x, by simp [hx], h1, h2⟩
    · exact Or.inr ⟨o, by simp, h1, h2⟩
theorem LotD.same {D : DataW Unit} {l : List Ord} {more : Int} {o : Ord} (h : LotD D l more) (hk : o.kind = 2) : LotD D (l ++ [o]) more := by
  have hn : namesO o = false := by unfold namesO; simp [hk]
  refine ⟨fun p => ?_, fun p => ?_⟩
  · have e1 : limBB p o = false := by unfold limBB; simp [hk]
    have e2 : limSB p o = false := by unfold limSB; simp [hk]
    rw [h.1 p, sumQ_snoc, sumQ_snoc, e1, e2]; simp
  · rw [h.2 p, pricesO_snoc, hn]; simp
theorem LotD.put {D : DataW Unit} {l : List Ord} {more : Int} {o : Ord} (h : LotD D l more) (hD : Maps.IsMap D) (hn : namesO o = true) :
    LotD (D.put (.int .i64 o.price) (lotE (sumQ (limBB o.price) (l ++ [o])) (sumQ (limSB o.price) (l ++ [o])))) (l ++ [o]) more := by
  refine ⟨fun p => ?_, fun p => ?_⟩
  · by_cases e : p = o.price
    · subst e; exact Maps.atKey_put_same hD (key_lit _) _ _
    · have e1 : limBB p o = false := by unfold limBB; simp [Ne.symm e]
      have e2 : limSB p o = false := by unfold limSB; simp [Ne.symm e]
      rw [Maps.atKey_put_other (key_ne e), h.1 p, sumQ_snoc, sumQ_snoc, e1, e2]; simp
  · rw [pricesO_snoc]
    by_cases e : p = o.price
    · subst e
      rw [Maps.has_put_same hD (key_lit _)]
      simp [hn]
    · rw [Maps.has_put_other (key_ne e), h.2 p]
      constructor
      · exact Or.inl
      · rintro (h1 | ⟨_, h1⟩)
        · exact h1
        · exact absurd h1.symm e
/-- the map in memory -/
def LotsAt (w : World) (B : Nat) (l : List Ord) (more : Int) : Prop := ∃ D, w.ownsMap Try.prog 3 lotR B (l.length + 1) D ∧ Maps.IsMap D ∧ LotD D l more
theorem LotsAt.lt {w : World} {B : Nat} {l : List Ord} {more : Int} (h : LotsAt w B l more) : B < w.heap.size := by
  obtain ⟨D, ho, _⟩ := h; exact ho.lt
theorem LotsAt.block {w w' : World} {B : Nat} {l : List Ord} {more : Int} (h : LotsAt w B l more) (hb : w'.heap[B]? = w.heap[B]?) : LotsAt w' B l more := by
  obtain ⟨D, ⟨es, clock, e1, e2, e3, e4⟩, h2⟩ := h
  exact ⟨D, ⟨es, clock, hb.trans e1, e2, e3, e4⟩, h2⟩
theorem LotsAt.below {w w' : World} {B : Nat} {l : List Ord} {more : Int} (h : LotsAt w B l more) (hb : Below w.heap.size w w') : LotsAt w' B l more := h.block (hb.block B h.lt)
theorem LotsAt.look {w : World} {B : Nat} {l : List Ord} {more : Int} (h : LotsAt w B l more) {p : Int} (hp : (Lit.int .i64 p).wf = true) :
    (Instr.lookup 60 (.map (some B)) (.int .i64 p) false).run Try.prog w = .ok (.agg #[.int .i64 (sumQ (limBB p) l), .int .i64 (sumQ (limSB p) l)]) w := by
  obtain ⟨D, ho, hD, hL⟩ := h
  obtain ⟨v, ps, hrun, hv⟩ := ho.lookup Try.keyInt Try.underlying60 (Try.zeroLots w) (zd := lotE 0 0) (zp := []) rfl (Try.keyIs hp)
  rw [hL.1 p] at hv
  rw [hrun, lotR_inv hv]
theorem LotsAt.store {w : World} {B : Nat} {l : List Ord} {more : Int} {o : Ord} (h : LotsAt w B l more) (hn : namesO o = true) (hp : (Lit.int .i64 o.price).wf = true) (hl : l.length ≤ 1000) :
    ∃ w', (Instr.mapUpdate 60 (.map (some B)) (.int .i64 o.price) (.agg #[.int .i64 (sumQ (limBB o.price) (l ++ [o])), .int .i64 (sumQ (limSB o.price) (l ++ [o]))])).run Try.prog w = .ok () w' ∧ LotsAt w' B (l ++ [o]) more ∧ w.grownBy w' (some B) := by
  obtain ⟨D, ho, hD, hL⟩ := h
  obtain ⟨w', hr, ho', hg⟩ := ho.update Try.keyInt Try.underlying60 (by unfold maxLen; omega) (Try.keyIs hp) (lotR_mk _ _)
  refine ⟨w', hr, ⟨_, ?_, hD.put _ _, hL.put hD hn⟩, hg⟩
  rw [List.length_append, List.length_singleton]
  exact ho'
theorem LotsAt.same {w : World} {B : Nat} {l : List Ord} {more : Int} {o : Ord} (h : LotsAt w B l more) (hk : o.kind = 2) : LotsAt w B (l ++ [o]) more := by
  obtain ⟨D, ho, hD, hL⟩ := h
  exact ⟨D, ho.mono (by simp), hD, hL.same hk⟩

/-- how many with one order more -/
def andB (o : Ord) (a : Int) : Int := if o.side = 1 then a + o.qty else a
def andS (o : Ord) (b : Int) : Int := if o.side = 1 then b else b + o.qty
set_option maxHeartbeats 1000000 in
theorem cuAnd (a b : Int) (o : Ord) (w : World) (ha : -4000000000000000000 ≤ a ∧ a ≤ 4000000000000000000) (hb : -4000000000000000000 ≤ b ∧ b ≤ 4000000000000000000) (ho : -1000000 ≤ o.qty ∧ o.qty ≤ 1000000) :
    Calls Try.prog 30 #[.agg #[.int .i64 a, .int .i64 b], .agg #[.int .i64 o.id, .int .i64 o.side, .int .i64 o.kind, .int .i64 o.price, .int .i64 o.qty]] w fun e w' => e = .returned (.agg #[.int .i64 (andB o a), .int .i64 (andS o b)]) ∧ Below w.heap.size w w' := by
  obtain ⟨ha1, ha2⟩ := ha
  obtain ⟨hb1, hb2⟩ := hb
  obtain ⟨ho1, ho2⟩ := ho
  by_cases hs : o.side = 1
  · have HA : Hid (andB o a = a + o.qty ∧ andS o b = b) := ⟨if_pos hs, if_pos hs⟩
    go_enter Try.func30, Try.ntmps30
    go_wp2_with fail
    go_returns
    refine ⟨by rw [HA.out.1, HA.out.2], ?_⟩
    go_grown
  · have HA : Hid (andB o a = a ∧ andS o b = b + o.qty) := ⟨if_neg hs, if_neg hs⟩
    go_enter Try.func30, Try.ntmps30
    go_wp2_with fail
    go_returns
    refine ⟨by rw [HA.out.1, HA.out.2], ?_⟩
    go_grown
set_option maxHeartbeats 1000000 in
theorem cuCounts (o : Ord) (w : World) :
    Calls Try.prog 29 #[.agg #[.int .i64 o.id, .int .i64 o.side, .int .i64 o.kind, .int .i64 o.price, .int .i64 o.qty]] w fun e w' => e = .returned (.bool (okO o)) ∧ Below w.heap.size w w' := by
  have HO : Hid (okO o = (((o.side == 1) || (o.side == 2)) && (decide (1 ≤ o.qty) && decide (o.qty ≤ 1000000)))) := by
    show okO o = _
    unfold okO
    congr 1
    rw [Bool.eq_iff_iff, inC_iff]; simp; omega
  go_enter Try.func29, Try.ntmps29
  go_wp2_with fail
  all_goals
    go_ret
    refine ⟨?_, cu_bel1 w _⟩
    rw [HO.out]
    first | (simp [*]; done) | (simp [*]; omega)
end Go.Proofs.Ytcoijhofliilmab

/-
  What the program's keep returns of orders that count, over this seat's translation. Conditions stand in the theorem: where the orders lie, and that they are at most 1000.
-/
namespace Go.Proofs.Ytcoijhofliilmab
open Go.RowKit

theorem ord_filter {q : Ord → Bool} {l : List Ord} {k : Nat} (h : k < l.length) : (l.take (k + 1)).filter q = if q (oAt l k) = true then (l.take k).filter q ++ [oAt l k] else (l.take k).filter q := by
  rw [List.take_succ_eq_append_getElem h, List.filter_append, oAt_eq h]
  by_cases hq : q l[k] = true
  · rw [if_pos hq]; simp [hq]
  · rw [if_neg hq]; simp [hq]
theorem cuO_snoc (a : List Ord) (x : Ord) : oV (a ++ [x]) = oV a ++ [.int .i64 x.id, .int .i64 x.side, .int .i64 x.kind, .int .i64 x.price, .int .i64 x.qty] := by rw [oV_append]; rfl
theorem Try.infoOd : (Try.prog.info? 40).map (fun i => (i.zero, i.size, i.bytes)) = some (some (.agg #[.int .i64 0, .int .i64 0, .int .i64 0, .int .i64 0, .int .i64 0]), 5, 40) := by kernel_rfl
/-- an order in a block of its own -/
def OdBox (w : World) (b : Nat) (o : Ord) : Prop := w.heap[b]? = some (.cells #[.int .i64 o.id, .int .i64 o.side, .int .i64 o.kind, .int .i64 o.price, .int .i64 o.qty] 40 (0, 0))
theorem OdBox.below {w w' : World} {b : Nat} {o : Ord} (h : OdBox w b o) (hb : Below w.heap.size w w') : OdBox w' b o := cu_keep h hb

set_option maxRecDepth 4000 in
set_option maxHeartbeats 4000000 in
theorem cuKeep (a : Option Addr) (cap : Nat) (l : List Ord) (w : World) (h : OrdsIn w a l) (hl : l.length ≤ 1000) :
    Calls Try.prog 28 #[.slice a l.length cap, .func (.func 29) #[] #[]] w fun e w' => ∃ v', e = .returned v' ∧ w'.ownsRow w.heap.size 40 5 v' (l.filter okO).length (oV (l.filter okO)) ∧ Below w.heap.size w w' := by
  obtain ⟨iP, hiP, hP0, hP1, hP2⟩ := info_parts Try.infoOd
  have HA : Hid (OrdsIn w a l) := h
  clear h
  go_enter Try.func28, Try.ntmps28
  go_wp2_with fail
  go_loopw [5, 10] (fun v i wr => ∃ k : Nat, k ≤ l.length ∧ i = .int .i64 k ∧ wr.ownsRow w.heap.size 40 5 v ((l.take k).filter okO).length (oV ((l.take k).filter okO)) ∧ Below w.heap.size w wr) (fun _ i _ => l.length - (RowKit.intOf i).toNat)
  case atStart => exact ⟨0, Nat.zero_le _, rfl, World.ownsRow_nil _ _ _ _, Below.refl _ _⟩
  case round =>
    obtain ⟨k, hk, rfl, hown, hb⟩ := hrel
    have HW : Hid (wr.ownsRow w.heap.size 40 5 u5 ((l.take k).filter okO).length (oV ((l.take k).filter okO))) := hown
    have HB : Hid (Below w.heap.size w wr) := hb
    have hbl : ((l.take k).filter okO).length ≤ 1000 := by
      have := List.length_filter_le okO (l.take k)
      rw [List.length_take] at this
      omega
    obtain ⟨vao, vcap, rfl, _, _⟩ := bk_shape hown
    clear hown
    by_cases hk1 : k < l.length
    · have hlt : (k : Int) < (l.length : Int) := by omega
      obtain ⟨b, off, rfl, d0, d1, d2, d3, d4⟩ := HA.out.below hb k hk1
      have HT : Hid ((l.take (k + 1)).filter okO = if okO (oAt l k) = true then (l.take k).filter okO ++ [oAt l k] else (l.take k).filter okO) := ord_filter hk1
      clear hb
      generalize oAt l k = x at d0 d1 d2 d3 d4 HT
      generalize (l.take k).filter okO = acc at HT HW hbl
      go_wp2_with fail
      have hX : OdBox (wr.alloc (.cells #[.int .i64 x.id, .int .i64 x.side, .int .i64 x.kind, .int .i64 x.price, .int .i64 x.qty] 40)) wr.heap.size x := heap_alloc_new wr _
      have hbA := cu_bel1 wr (.cells #[.int .i64 x.id, .int .i64 x.side, .int .i64 x.kind, .int .i64 x.price, .int .i64 x.qty] 40)
      generalize wr.alloc (.cells #[.int .i64 x.id, .int .i64 x.side, .int .i64 x.kind, .int .i64 x.price, .int .i64 x.qty] 40) = W at hX hbA ⊢
      generalize wr.heap.size = xb at hX ⊢
      refine (cuCounts x W).mono ?_
      rintro e w4 ⟨rfl, hb4⟩
      have hX4 := hX.below hb4
      have HW4 : Hid (w4.ownsRow w.heap.size 40 5 (.slice vao acc.length vcap) acc.length (oV acc)) := bk_below HW.out (cu_then hbA hb4) (Nat.le_refl _)
      have HB4 : Hid (Below w.heap.size w w4) := cu_then HB.out (cu_then hbA hb4)
      clear hX hbA hb4 HW HB d0 d1 d2 d3 d4
      cases hq : okO x with
      | true =>
        have HT2 : Hid ((l.take (k + 1)).filter okO = acc ++ [x]) := by rw [HT.out, if_pos hq]; rfl
        have y0 := cu_blk (j := 0) hX4 rfl
        have y1 := cu_blk (j := 1) hX4 rfl
        have y2 := cu_blk (j := 2) hX4 rfl
        have y3 := cu_blk (j := 3) hX4 rfl
        have y4 := cu_blk (j := 4) hX4 rfl
        clear HT hq hX4
        go_wp2_with (at_builtin; refine wpList_append_own_at _ rfl _ _ 22 rfl w.heap.size 40 iP (.agg #[.int .i64 0, .int .i64 0, .int .i64 0, .int .i64 0, .int .i64 0]) 5 40 Try.underlying22 hiP hP0 hP1 hP2 rfl (by decide) _ acc.length (oV acc) rfl (HW4.out.alloc _) ⟨w4.heap.size, 0, none⟩ 1 1 [.int .i64 x.id, .int .i64 x.side, .int .i64 x.kind, .int .i64 x.price, .int .i64 x.qty] rfl rfl (World.news_of_block (cs := #[.int .i64 x.id, .int .i64 x.side, .int .i64 x.kind, .int .i64 x.price, .int .i64 x.qty]) (t := 40) (fr := (0, 0)) (heap_alloc_new w4 _)) (by simp [Value.oneCell']) (by unfold maxLen; omega) (by omega) (by have := HB4.out.size; simp; omega) ?_; intro v' w6 hown6 hgrow6 _ _)
        go_roundw
        case rel =>
          refine ⟨k + 1, hk1, by go_num, ?_, (HB4.out.alloc HB4.out.size _).grown hgrow6 (by have := HB4.out.size; simp; omega) (fun q hq => (HW4.out.lt q hq).1)⟩
          rw [HT2.out, cuO_snoc, List.length_append, List.length_singleton]
          exact hown6
        case measure => simp [RowKit.intOf]; omega
      | false =>
        have HT2 : Hid ((l.take (k + 1)).filter okO = acc) := by rw [HT.out, if_neg (by rw [hq]; decide)]; rfl
        clear HT hq hX4
        go_wp2_with fail
        go_roundw
        case rel => exact ⟨k + 1, hk1, by go_num, by rw [HT2.out]; exact HW4.out, HB4.out⟩
        case measure => simp [RowKit.intOf]; omega
    · obtain rfl : k = l.length := by omega
      rw [List.take_length] at HW hbl ⊢
      clear hb
      go_wp2_with fail
      go_ret
      exact ⟨_, rfl, HW.out, HB.out⟩
end Go.Proofs.Ytcoijhofliilmab

/-
  What slices.Sort does to a row of whole numbers, over this seat's translation: by the library's own contract, each function's body held against the one of which that is proved. Conditions stand in each theorem.
-/
namespace Go.Proofs.Ytcoijhofliilmab
open Go.Shelf
def lays189_ren : Go.Shelf.Ren := ⟨fun | 189 => 67 | 125 => 76 | 257 => 75 | 128 => 88 | 129 => 89 | 294 => 79 | 295 => 80 | 296 => 81 | 297 => 82 | 298 => 83 | 299 => 84 | 216 => 85 | 300 => 86 | 301 => 87 | 328 => 90 | 329 => 91 | 330 => 92 | 331 => 93 | 332 => 94 | 215 => 95 | 343 => 96 | n => n, fun | 28 => 47 | 0 => 0 | 3 => 3 | 46 => 51 | 51 => 136 | 53 => 138 | 4 => 4 | 183 => 129 | 182 => 128 | 131 => 133 | 5 => 5 | 9 => 9 | 218 => 139 | 222 => 143 | 228 => 145 | 229 => 31 | n => n, fun | n => n⟩
theorem lays189 : Go.Proofs.Lays.n189 Try.prog lays189_ren := {
  mixed := by kernel_rfl
  f125 := Try.func76.trans (congrArg some (by kernel_rfl))
  f128 := Try.func88.trans (congrArg some (by kernel_rfl))
  f129 := Try.func89.trans (congrArg some (by kernel_rfl))
  f189 := Try.func67.trans (congrArg some (by kernel_rfl))
  f215 := Try.func95.trans (congrArg some (by kernel_rfl))
  f216 := Try.func85.trans (congrArg some (by kernel_rfl))
  f257 := Try.func75.trans (congrArg some (by kernel_rfl))
  f294 := Try.func79.trans (congrArg some (by kernel_rfl))
  f295 := Try.func80.trans (congrArg some (by kernel_rfl))
  f296 := Try.func81.trans (congrArg some (by kernel_rfl))
  f297 := Try.func82.trans (congrArg some (by kernel_rfl))
  f298 := Try.func83.trans (congrArg some (by kernel_rfl))
  f299 := Try.func84.trans (congrArg some (by kernel_rfl))
  f300 := Try.func86.trans (congrArg some (by kernel_rfl))
  f301 := Try.func87.trans (congrArg some (by kernel_rfl))
  f328 := Try.func90.trans (congrArg some (by kernel_rfl))
  f329 := Try.func91.trans (congrArg some (by kernel_rfl))
  f330 := Try.func92.trans (congrArg some (by kernel_rfl))
  f331 := Try.func93.trans (congrArg some (by kernel_rfl))
  f332 := Try.func94.trans (congrArg some (by kernel_rfl))
  f343 := Try.func96.trans (congrArg some (by kernel_rfl))
  t0 := Try.underlying0
  a0 := Try.isAgg0
  z0 := Try.sizeOf0
  v0 := Try.zeroValue0
  t3 := Try.underlying3
  a3 := Try.isAgg3
  z3 := Try.sizeOf3
  v3 := Try.zeroValue3
  t4 := Try.underlying4
  a4 := Try.isAgg4
  z4 := Try.sizeOf4
  v4 := Try.zeroValue4
  t5 := Try.underlying5
  a5 := Try.isAgg5
  z5 := Try.sizeOf5
  v5 := Try.zeroValue5
  t9 := Try.underlying9
  a9 := Try.isAgg9
  z9 := Try.sizeOf9
  v9 := Try.zeroValue9
  t28 := Try.underlying47
  a28 := Try.isAgg47
  z28 := Try.sizeOf47
  v28 := Try.zeroValue47
  t46 := Try.underlying51
  a46 := Try.isAgg51
  z46 := Try.sizeOf51
  v46 := Try.zeroValue51
  t51 := Try.underlying136
  a51 := Try.isAgg136
  z51 := Try.sizeOf136
  v51 := Try.zeroValue136
  t53 := Try.underlying138
  a53 := Try.isAgg138
  z53 := Try.sizeOf138
  v53 := Try.zeroValue138
  t131 := Try.underlying133
  a131 := Try.isAgg133
  z131 := Try.sizeOf133
  v131 := Try.zeroValue133
  t182 := Try.underlying128
  a182 := Try.isAgg128
  z182 := Try.sizeOf128
  v182 := Try.zeroValue128
  t183 := Try.underlying129
  a183 := Try.isAgg129
  z183 := Try.sizeOf129
  v183 := Try.zeroValue129
  t218 := Try.underlying139
  a218 := Try.isAgg139
  z218 := Try.sizeOf139
  v218 := Try.zeroValue139
  t222 := Try.underlying143
  a222 := Try.isAgg143
  z222 := Try.sizeOf143
  v222 := Try.zeroValue143
  t228 := Try.underlying145
  a228 := Try.isAgg145
  z228 := Try.sizeOf145
  v228 := Try.zeroValue145
  t229 := Try.underlying31
  a229 := Try.isAgg31
  z229 := Try.sizeOf31
  v229 := Try.zeroValue31 }
end Go.Proofs.Ytcoijhofliilmab

/-
  What maps.Keys and slices.Sorted return of a map of lots, over this seat's translation: by the library's own contracts, each function's body held against the one of which those are proved. Conditions stand in each theorem.
-/
namespace Go.Proofs.Ytcoijhofliilmab
open Go.RowKit Go.Maps Go.Sort Go.Shelf

def laysK_ren : Go.Shelf.Ren := ⟨fun | 7 => 50 | 10 => 68 | n => n, fun | 23 => 60 | 26 => 3 | 3 => 59 | 28 => 99 | 0 => 0 | 27 => 98 | 33 => 74 | 4 => 4 | n => n, fun n => n⟩
theorem laysK : Go.Proofs.SlLaysZI.n7 Try.prog laysK_ren := {
  mixed := by kernel_rfl
  f7 := ⟨Try.f50.name, by kernel_rfl, Try.func50.trans (congrArg some (by kernel_rfl))⟩
  f10 := ⟨Try.f68.name, by kernel_rfl, Try.func68.trans (congrArg some (by kernel_rfl))⟩
  t0 := Try.underlying0
  a0 := Try.isAgg0
  z0 := Try.sizeOf0
  v0 := Try.zeroValue0
  t4 := Try.underlying4
  a4 := Try.isAgg4
  z4 := Try.sizeOf4
  v4 := Try.zeroValue4
  t23 := Try.underlying60
  a23 := Try.isAgg60
  z23 := Try.sizeOf60
  v23 := Try.zeroValue60
  t26 := Try.underlying3
  a26 := Try.isAgg3
  z26 := Try.sizeOf3
  v26 := Try.zeroValue3
  t27 := Try.underlying98
  a27 := Try.isAgg98
  z27 := Try.sizeOf98
  v27 := Try.zeroValue98
  t28 := Try.underlying99
  a28 := Try.isAgg99
  z28 := Try.sizeOf99
  v28 := Try.zeroValue99
  t33 := Try.underlying74
  a33 := Try.isAgg74
  z33 := Try.sizeOf74
  v33 := Try.zeroValue74 }
def laysS_ren : Go.Shelf.Ren := ⟨fun | 6 => 49 | 8 => 66 | 9 => 67 | 11 => 74 | n => n, fun | 26 => 3 | 28 => 99 | 24 => 47 | 0 => 0 | 3 => 3 | 33 => 74 | 4 => 4 | n => n, fun n => n⟩
theorem laysS : Go.Proofs.SlLaysZI.n6 Try.prog laysS_ren := {
  mixed := by kernel_rfl
  f6 := ⟨Try.f49.name, by kernel_rfl, Try.func49.trans (congrArg some (by kernel_rfl))⟩
  f8 := ⟨Try.f66.name, by kernel_rfl, Try.func66.trans (congrArg some (by kernel_rfl))⟩
  f11 := ⟨Try.f74.name, by kernel_rfl, Try.func74.trans (congrArg some (by kernel_rfl))⟩
  t0 := Try.underlying0
  a0 := Try.isAgg0
  z0 := Try.sizeOf0
  v0 := Try.zeroValue0
  t24 := Try.underlying47
  a24 := Try.isAgg47
  z24 := Try.sizeOf47
  v24 := Try.zeroValue47
  t26 := Try.underlying3
  a26 := Try.isAgg3
  z26 := Try.sizeOf3
  v26 := Try.zeroValue3
  t28 := Try.underlying99
  a28 := Try.isAgg99
  z28 := Try.sizeOf99
  v28 := Try.zeroValue99
  i26 := by kernel_rfl }
/-- slices.Sort's two contracts -/
theorem sortsS (m : Nat) : AnyZI.SortsIn Try.prog laysS_ren Fence.wide m :=
  ⟨fun blk off cap ss W hH hblk hsz => callsIn_wide.2 (Any.slices_Sort_int { lays189 with } blk off cap ss W hH hblk hsz),
   fun p cap W => callsIn_wide.2 (Any.slices_Sort_int_none { lays189 with } p cap W)⟩
theorem keysCall (mb : Option Nat) (W : World) : Calls Try.prog 50 #[.map mb] W fun e w' => e = .returned (.func (.func 68) #[] #[.pointer (some ⟨W.heap.size, 0, none⟩)]) ∧ w' = W.alloc (.cells #[.map mb] 60) :=
  (callsIn_wide (n := 5)).1 (AnyZI.keys_in laysK Fence.wide 5 trivial rfl mb W)
theorem sortedCall {R : Value → Option (DataW Unit × List MemPlace)} (b nn : Nat) (D0 : DataW Unit) (w : World) (hown : w.ownsMap Try.prog 3 R b nn D0) (hmax : Maps.size D0 ≤ 100000) :
    Calls Try.prog 49 #[.func (.func 68) #[] #[.pointer (some ⟨w.heap.size, 0, none⟩)]] (w.alloc (.cells #[.map (some b)] 60)) fun e w' => ∃ (v : Value) (ss : List Int), e = .returned v ∧ ss.Perm (intKeys D0) ∧
      w'.ownsRow (w.alloc (.cells #[.map (some b)] 60)).heap.size 3 1 v ss.length ((ss.mergeSort (fun x y => decide (x ≤ y))).map encZ) ∧ (v = .slice none 0 0 ↔ ss = []) ∧ Below (w.alloc (.cells #[.map (some b)] 60)).heap.size (w.alloc (.cells #[.map (some b)] 60)) w' := by
  have hbl := hown.lt
  have hseq : SeqGives Fence.wide 2 Try.prog 68 #[.pointer (some ⟨w.heap.size, 0, none⟩)] encZ (fun ss => ss.Perm (intKeys D0)) (Maps.size D0) (w.alloc (.cells #[.map (some b)] 60)) :=
    AnyZI.keys_gives (ρ := laysK_ren) { laysK with } Fence.wide _ trivial rfl (by omega) w.heap.size b nn D0 _ (by simp) (by simp) (by
      obtain ⟨es, clock, hb, Ft, hs, hD⟩ := hown
      exact ⟨es, clock, (Below.heap_alloc _ _ b hbl).trans hb, Ft, hs, hD⟩)
  have cS := AnyZI.sorted_in laysS Fence.wide 5 trivial trivial trivial trivial rfl (by omega) (sortsS _) (enters_of Try.func67 (by kernel_rfl) rfl) 68 #[.pointer (some ⟨w.heap.size, 0, none⟩)] trivial (enters_of Try.func68 (by kernel_rfl) rfl) _ _ (by unfold maxLen; omega) (by omega) _ hseq
  exact (callsIn_wide (n := 5)).1 cS
end Go.Proofs.Ytcoijhofliilmab
