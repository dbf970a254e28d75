/-
  A book in memory in the midst of a call: its map and its sides may tell of different orders. What becomes of it when a side's row, or the map, has moved. Conditions stand in each theorem.
-/
import Derived.Test.YtcpijeehgdbjbaaPbNew
namespace Go.Proofs.Ytcpijeehgdbjbaa
open Go.RowKit

structure BookG (w : World) (bb ab mb n : Nat) (vs vf v0 v1 : Value) (rs : List Sot) (fr : List Nat) (Sm Sr : Nat → List Ly) : Prop where
  box : w.heap[bb]? = some (.cells #[.pointer (some ⟨ab, 0, none⟩), .map (some mb), v0, v1] 74 (0, 0))
  ar : ArOr w ab 100 vs vf rs fr
  map : PlMap w mb n Sm
  row0 : w.ownsRow 0 76 2 v0 (Sr 0).length (hV (Sr 0))
  row1 : w.ownsRow 0 76 2 v1 (Sr 1).length (hV (Sr 1))
  apart : ∀ k, v0.ownBlock = some k → v1.ownBlock ≠ some k
section
variable {w w' w1 : World} {bb ab mb n s g cap : Nat} {vs vf v0 v1 : Value} {rs : List Sot} {fr : List Nat} {S Sm Sr : Nat → List Ly}
theorem BookAt.mid (h : BookAt w bb ab mb n vs vf v0 v1 rs fr S) : BookG w bb ab mb n vs vf v0 v1 rs fr S S := ⟨h.box, h.ar, h.map, h.row0, h.row1, h.apart⟩
theorem BookG.done (h : BookG w bb ab mb n vs vf v0 v1 rs fr S S) : BookAt w bb ab mb n vs vf v0 v1 rs fr S := ⟨h.box, h.ar, h.map, h.row0, h.row1, h.apart⟩
theorem BookG.lt (h : BookG w bb ab mb n vs vf v0 v1 rs fr Sm Sr) {k : Nat} (hk : pbB bb ab mb vs vf v0 v1 k) : k < w.heap.size := by
  rcases hk with rfl | hk | rfl | hk | hk
  · exact lt_of_block h.box
  · exact h.ar.lt hk
  · exact h.map.lt
  · exact (h.row0.lt k hk).2
  · exact (h.row1.lt k hk).2
theorem BookG.out {T : Nat → Prop} (h : BookG w bb ab mb n vs vf v0 v1 rs fr Sm Sr) (ho : Out T w w') (hT : ∀ k, pbB bb ab mb vs vf v0 v1 k → ¬ T k) : BookG w' bb ab mb n vs vf v0 v1 rs fr Sm Sr :=
  ⟨blk_out h.box ho (hT bb (Or.inl rfl)), h.ar.out ho (fun k hk => hT k (Or.inr (Or.inl hk))), h.map.same (ho.block mb h.map.lt (hT mb (Or.inr (Or.inr (Or.inl rfl))))),
    owns_out h.row0 ho (fun k hk => hT k (Or.inr (Or.inr (Or.inr (Or.inl hk))))), owns_out h.row1 ho (fun k hk => hT k (Or.inr (Or.inr (Or.inr (Or.inr hk))))), h.apart⟩
theorem BookG.below {B : Nat} (h : BookG w bb ab mb n vs vf v0 v1 rs fr Sm Sr) (hb : Below B w w') (hB : w.heap.size ≤ B) : BookG w' bb ab mb n vs vf v0 v1 rs fr Sm Sr :=
  h.out (T := fun _ => False) (Out.of_below hb hB) (fun _ _ e => e)
theorem BookG.rowIs (h : BookG w bb ab mb n vs vf v0 v1 rs fr Sm Sr) (hs : s < 2) : w.ownsRow 0 76 2 (vAt v0 v1 s) (Sr s).length (hV (Sr s)) ∧ w.cell? ⟨bb, 2 + s, none⟩ = some (vAt v0 v1 s) ∧ w.frozen? ⟨bb, 2 + s, none⟩ = false := by
  match s, hs with
  | 0, _ => exact ⟨h.row0, blk_cell (j := 2) h.box rfl, blk_free h.box⟩
  | 1, _ => exact ⟨h.row1, blk_cell (j := 3) h.box rfl, blk_free h.box⟩
theorem BookG.rowNotBox (h : BookG w bb ab mb n vs vf v0 v1 rs fr Sm Sr) (hs : s < 2) : (vAt v0 v1 s).ownBlock ≠ some bb := owns_type (h.rowIs hs).1 h.box (by decide)
theorem BookG.rowNotMap (h : BookG w bb ab mb n vs vf v0 v1 rs fr Sm Sr) (hs : s < 2) : (vAt v0 v1 s).ownBlock ≠ some mb := owns_notMap (h.rowIs hs).1 h.map
theorem BookG.rowNotAr (h : BookG w bb ab mb n vs vf v0 v1 rs fr Sm Sr) (hs : s < 2) {k : Nat} (hk : (vAt v0 v1 s).ownBlock = some k) : ¬ aoB ab vs vf k := fun e => by
  rcases e with e | e | e
  · exact owns_type (h.rowIs hs).1 (e ▸ h.ar.box) (by decide) hk
  · exact owns_types (h.rowIs hs).1 h.ar.slots (by decide) hk e
  · exact owns_types (h.rowIs hs).1 h.ar.free (by decide) hk e
/-- the map has moved -/
theorem BookG.newMap {n' : Nat} {Sm' : Nat → List Ly} (h : BookG w bb ab mb n vs vf v0 v1 rs fr Sm Sr) (ho : Out (fun j => j = mb) w w') (hm : PlMap w' mb n' Sm') : BookG w' bb ab mb n' vs vf v0 v1 rs fr Sm' Sr :=
  ⟨blk_out h.box ho (h.map.ne h.box), h.ar.out ho (fun k hk e => by
      have e' : k = mb := e
      subst e'
      rcases hk with e | e | e
      · exact h.map.ne h.ar.box e.symm
      · exact owns_notMap h.ar.slots h.map e
      · exact owns_notMap h.ar.free h.map e), hm, owns_out h.row0 ho (fun k hk e => owns_notMap h.row0 h.map (by rw [← show k = mb from e]; exact hk)), owns_out h.row1 ho (fun k hk e => owns_notMap h.row1 h.map (by rw [← show k = mb from e]; exact hk)), h.apart⟩
/-- the arena has moved -/
theorem BookG.newAr {vs' vf' : Value} {rs' : List Sot} {fr' : List Nat} (h : BookG w bb ab mb n vs vf v0 v1 rs fr Sm Sr) (ho : Out (aoB ab vs vf) w w') (ha : ArOr w' ab 100 vs' vf' rs' fr') : BookG w' bb ab mb n vs' vf' v0 v1 rs' fr' Sm Sr :=
  ⟨blk_out h.box ho (fun e => by
      rcases e with e | e | e
      · exact blk_ne h.box h.ar.box (by decide) e
      · exact owns_type h.ar.slots h.box (by decide) e
      · exact owns_type h.ar.free h.box (by decide) e), ha, h.map.same (ho.block mb h.map.lt (fun e => by
      rcases e with e | e | e
      · exact h.map.ne h.ar.box e.symm
      · exact owns_notMap h.ar.slots h.map e
      · exact owns_notMap h.ar.free h.map e)), owns_out h.row0 ho (fun _ hk => h.rowNotAr (s := 0) (by decide) hk), owns_out h.row1 ho (fun _ hk => h.rowNotAr (s := 1) (by decide) hk), h.apart⟩

def rowV (v v' : Value) (s t : Nat) : Value := if s = t then v' else v
/-- a side's row has moved, and is told to the box -/
theorem BookG.newRow {l' : List Ly} (h : BookG w bb ab mb n vs vf v0 v1 rs fr Sm Sr) (hs : s < 2) (hr : w1.ownsRow 0 76 2 (.slice (some ⟨g, 0, none⟩) l'.length cap) l'.length (hV l'))
    (ho : Out (fun k => (vAt v0 v1 s).ownBlock = some k) w w1) (hg : (vAt v0 v1 s).ownBlock = some g ∨ w.heap.size ≤ g) :
    BookG (w1.setCell ⟨bb, 2 + s, none⟩ (.slice (some ⟨g, 0, none⟩) l'.length cap)) bb ab mb n vs vf (rowV v0 (.slice (some ⟨g, 0, none⟩) l'.length cap) s 0) (rowV v1 (.slice (some ⟨g, 0, none⟩) l'.length cap) s 1) rs fr Sm (upS Sr s l')
    ∧ Out (fun k => k = bb ∨ (vAt v0 v1 s).ownBlock = some k) w (w1.setCell ⟨bb, 2 + s, none⟩ (.slice (some ⟨g, 0, none⟩) l'.length cap)) := by
  have hbx := blk_out h.box ho (h.rowNotBox hs)
  have o2 := out_set w1 ⟨bb, 2 + s, none⟩ (.slice (some ⟨g, 0, none⟩) l'.length cap)
  have har := h.ar.out ho (fun k hk e => h.rowNotAr hs e hk)
  have hma := h.map.same (ho.block mb h.map.lt (h.rowNotMap hs))
  have har2 := har.out o2 (fun k hk e => by
    have e' : k = bb := e
    subst e'
    rcases hk with e | e | e
    · exact blk_ne hbx har.box (by decide) e
    · exact owns_type har.slots hbx (by decide) e
    · exact owns_type har.free hbx (by decide) e)
  have hma2 := hma.same (o2.block mb hma.lt (fun e => hma.ne hbx (show mb = bb from e).symm))
  have hr2 : (w1.setCell ⟨bb, 2 + s, none⟩ (.slice (some ⟨g, 0, none⟩) l'.length cap)).ownsRow 0 76 2 (.slice (some ⟨g, 0, none⟩) l'.length cap) l'.length (hV l') := owns_out hr o2 (fun k hk e => owns_type hr hbx (by decide) (by rw [← show k = bb from e]; exact hk))
  refine ⟨?_, (ho.mono (fun k hk => Or.inr hk)).trans (o2.mono (fun k hk => Or.inl hk)) (Went.refl _ _)⟩
  match s, hs with
  | 0, _ =>
    have q1 : w1.ownsRow 0 76 2 v1 (Sr 1).length (hV (Sr 1)) := owns_out h.row1 ho (fun k hk e => h.apart k e hk)
    have q2 := owns_out q1 o2 (fun k hk e => owns_type q1 hbx (by decide) (by rw [← show k = bb from e]; exact hk))
    refine ⟨blk_set (j := 2) _ hbx, har2, hma2, hr2, q2, fun k hk => ?_⟩
    have e' : g = k := by simpa [rowV, Value.ownBlock] using hk
    subst e'
    rcases hg with hg | hg
    · exact h.apart _ hg
    · exact fun e => by have := (h.row1.lt _ e).2; omega
  | 1, _ =>
    have q1 : w1.ownsRow 0 76 2 v0 (Sr 0).length (hV (Sr 0)) := owns_out h.row0 ho (fun k hk e => h.apart k hk e)
    have q2 := owns_out q1 o2 (fun k hk e => owns_type q1 hbx (by decide) (by rw [← show k = bb from e]; exact hk))
    refine ⟨blk_set (j := 3) _ hbx, har2, hma2, q2, hr2, fun k hk => ?_⟩
    intro hk'
    have e' : g = k := by simpa [rowV, Value.ownBlock] using hk'
    subst e'
    rcases hg with hg | hg
    · exact h.apart _ hk hg
    · have := (h.row0.lt _ hk).2; omega
theorem rowV_went {v' : Value} (hs : s < 2) (hg : ∀ k, v'.ownBlock = some k → (vAt v0 v1 s).ownBlock = some k ∨ w.heap.size ≤ k) : Went w (fun k => v0.ownBlock = some k ∨ v1.ownBlock = some k) (fun k => (rowV v0 v' s 0).ownBlock = some k ∨ (rowV v1 v' s 1).ownBlock = some k) := by
  match s, hs with
  | 0, _ =>
    rintro k (hk | hk)
    · exact (hg k hk).imp Or.inl id
    · exact Or.inl (Or.inr hk)
  | 1, _ =>
    rintro k (hk | hk)
    · exact Or.inl (Or.inl hk)
    · exact (hg k hk).imp Or.inr id
theorem vAt_own (hs : s < 2) {k : Nat} (h : (vAt v0 v1 s).ownBlock = some k) : v0.ownBlock = some k ∨ v1.ownBlock = some k := by
  match s, hs with
  | 0, _ => exact Or.inl h
  | 1, _ => exact Or.inr h
end

theorem out_setIn {S : Nat → Prop} {w w' : World} {p : Addr} {u : Value} (h : Out S w w') (hp : S p.block) : Out S w (w'.setCell p u) := h.trans (out_set w' p u) (fun k hk => Or.inl (by rw [show k = p.block from hk]; exact hp))
theorem box_cell {w : World} {bb s : Nat} {a m v0 v1 : Value} {t : TypeId} (h : w.heap[bb]? = some (.cells #[a, m, v0, v1] t (0, 0))) (hs : s < 2) : w.cell? ⟨bb, 2 + s, none⟩ = some (vAt v0 v1 s) ∧ w.frozen? ⟨bb, 2 + s, none⟩ = false := by
  match s, hs with
  | 0, _ => exact ⟨blk_cell (j := 2) h rfl, blk_free h⟩
  | 1, _ => exact ⟨blk_cell (j := 3) h rfl, blk_free h⟩

/-- rank, from a world that came of we by what keeps all -/
theorem rank_at (bb ab mb nn s : Nat) (vs vf v0 v1 : Value) (rs : List Sot) (fr : List Nat) (S : Nat → List Ly) (o : Ord) (we W : World) (hs : s < 2) (hlen : (S s).length ≤ 1000)
    (hth : ∀ x ∈ S s, soAt rs x.slot = (some x.o, x.age)) (hB : BookAt we bb ab mb nn vs vf v0 v1 rs fr S) (hb : Below we.heap.size we W) :
    Calls Try.prog 36 #[.pointer (some ⟨bb, 0, none⟩), .int .i64 s, o.agg] W fun e w1 => e = .returned (.int .i64 (rankN o ((S s).map Ly.o))) ∧ Below W.heap.size W w1 ∧ Below we.heap.size we w1 ∧ w1.cell? ⟨bb, 2 + s, none⟩ = some (vAt v0 v1 s) ∧ bb < w1.heap.size :=
  (rank_any bb ab mb nn s vs vf v0 v1 rs fr S o hs hlen hth W (hB.below hb (Nat.le_refl _))).mono fun _ _ ⟨h1, h2⟩ =>
    have h3 := bel_then hb h2
    ⟨h1, h2, h3, (box_cell (hB.below h3 (Nat.le_refl _)).box hs).1, lt_of_block (hB.below h3 (Nat.le_refl _)).box⟩
/-- Insert, likewise -/
theorem insert_at (vb i bb ab mb nn s : Nat) (vs vf v0 v1 : Value) (rs : List Sot) (fr : List Nat) (S : Nat → List Ly) (x : Ly) (we W : World) (hs : s < 2) (hlen : (S s).length ≤ 1000) (hi : i ≤ (S s).length)
    (hB : BookAt we bb ab mb nn vs vf v0 v1 rs fr S) (hb : Below we.heap.size we W) (hvb : W.heap[vb]? = some (.cells #[.int .i64 x.slot, .int .i64 x.age] 76 (0, 0))) (hvl : we.heap.size ≤ vb) :
    Calls Try.prog 35 #[vAt v0 v1 s, .int .i64 i, .slice (some ⟨vb, 0, none⟩) 1 1] W fun e w1 => ∃ g cap, e = .returned (.slice (some ⟨g, 0, none⟩) (insAt i x (S s)).length cap)
      ∧ w1.ownsRow 0 76 2 (.slice (some ⟨g, 0, none⟩) (insAt i x (S s)).length cap) (insAt i x (S s)).length (hV (insAt i x (S s))) ∧ Out (fun k => (vAt v0 v1 s).ownBlock = some k) we w1 ∧ ((vAt v0 v1 s).ownBlock = some g ∨ we.heap.size ≤ g)
      ∧ Out (fun k => k = bb ∨ (vAt v0 v1 s).ownBlock = some k) we w1 ∧ w1.cell? ⟨bb, 2 + s, none⟩ = some (vAt v0 v1 s) ∧ w1.frozen? ⟨bb, 2 + s, none⟩ = false := by
  have hrow := (hB.mid.rowIs hs).1
  refine (insert_any vb i (vAt v0 v1 s) (S s) x W (owns_below hrow hb (Nat.le_refl _)) hlen hi hvb (fun e => by have := (hrow.lt _ e).2; omega)).mono ?_
  rintro e w1 ⟨v', rfl, g, cap, rfl, h1, h2, h3⟩
  have h4 : Out (fun k => (vAt v0 v1 s).ownBlock = some k) we w1 := (Out.of_below hb (Nat.le_refl _)).trans h2 (Went.refl _ _)
  obtain ⟨h5, h6⟩ := box_cell (blk_out hB.box h4 (hB.mid.rowNotBox hs)) hs
  exact ⟨g, cap, rfl, h1, h4, h3.imp id (fun h => Nat.le_trans hb.size h), h4.mono (fun k hk => Or.inr hk), h5, h6⟩
end Go.Proofs.Ytcpijeehgdbjbaa
