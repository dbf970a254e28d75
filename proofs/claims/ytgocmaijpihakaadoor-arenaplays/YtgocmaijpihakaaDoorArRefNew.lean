/-
  What the document's own Put (3.1) does where no slot is free: a new slot at the end, over this seat's translation. Conditions stand in the theorem: where the slots lie, that there are at most 1000.
-/
import Derived.Test.YtgocmaijpihakaaDoorArRefPut
namespace Go.Proofs.YtgocmaijpihakaaDoor
open Go.RowKit

/-- Amid the statement that appends to two rows, in whichever order: the two rows as they are by now, the box as it was. -/
structure Mid (w W : World) (sb : Nat) (most : Int) (vt va vf vA : Value) (nA : Nat) (xsA : List Value) (vB : Value) (nB : Nat) (xsB : List Value) (fr : List Nat) : Prop where
  box : W.heap[sb]? = some (.cells #[vt, va, vf, .int .i64 most] 54 (0, 0))
  a : W.ownsRow 0 3 1 vA nA xsA
  b : W.ownsRow 0 3 1 vB nB xsB
  f : W.ownsRow 0 3 1 vf fr.length (frV fr)
  ab : ∀ k, vA.ownBlock = some k → vB.ownBlock ≠ some k
  af : ∀ k, vA.ownBlock = some k → vf.ownBlock ≠ some k
  bf : ∀ k, vB.ownBlock = some k → vf.ownBlock ≠ some k
  out : Out (slB sb vt va vf) w W
  wa : ∀ k, vA.ownBlock = some k → slB sb vt va vf k ∨ w.heap.size ≤ k
  wb : ∀ k, vB.ownBlock = some k → slB sb vt va vf k ∨ w.heap.size ≤ k

section
variable {w W w1 : World} {sb : Nat} {most : Int} {vt va vf vA vB : Value} {nA nB : Nat} {xsA xsB : List Value} {fr : List Nat}
theorem Mid.start {rs : List (Int × Int)} (h : SlotsIs w sb most vt va vf rs fr) : Mid w w sb most vt va vf vt rs.length (thV rs) va rs.length (agV rs) fr :=
  ⟨h.box, h.things, h.ages, h.free, h.ta, h.tf, h.af, Out.refl _ _, fun _ hk => Or.inl (Or.inr (Or.inl hk)), fun _ hk => Or.inl (Or.inr (Or.inr (Or.inl hk)))⟩
theorem Mid.swap (h : Mid w W sb most vt va vf vA nA xsA vB nB xsB fr) : Mid w W sb most vt va vf vB nB xsB vA nA xsA fr :=
  ⟨h.box, h.b, h.a, h.f, fun k h1 h2 => h.ab k h2 h1, h.bf, h.af, h.out, h.wb, h.wa⟩
theorem Mid.alloc (h : Mid w W sb most vt va vf vA nA xsA vB nB xsB fr) (o : Obj) : Mid w (W.alloc o) sb most vt va vf vA nA xsA vB nB xsB fr :=
  ⟨(Below.heap_alloc _ _ _ (lt_of_block h.box)).trans h.box, h.a.alloc o, h.b.alloc o, h.f.alloc o, h.ab, h.af, h.bf, h.out.trans (Out.of_below ((Below.refl W.heap.size W).alloc (Nat.le_refl _) o) (Nat.le_refl _)) (Went.refl _ _), h.wa, h.wb⟩
theorem Mid.drew (h : Mid w W sb most vt va vf vA nA xsA vB nB xsB fr) : Mid w W.drew sb most vt va vf vA nA xsA vB nB xsB fr :=
  ⟨h.box, h.a, h.b, h.f, h.ab, h.af, h.bf, ⟨h.out.os, h.out.tape, h.out.output, h.out.size, h.out.block⟩, h.wa, h.wb⟩
theorem Mid.app {g n' cap : Nat} {xs' : List Value} (h : Mid w W sb most vt va vf vA nA xsA vB nB xsB fr) (hown : w1.ownsRow 0 3 1 (.slice (some ⟨g, 0, none⟩) n' cap) n' xs') (hg : W.grownBy w1 vA.ownBlock) (hat : vA.ownBlock = some g ∨ g = W.heap.size) :
    Mid w w1 sb most vt va vf (.slice (some ⟨g, 0, none⟩) n' cap) n' xs' vB nB xsB fr := by
  have o1 : Out (fun k => vA.ownBlock = some k) W w1 := Out.of_grown hg (fun k hk => hk)
  have far : ∀ v : Value, (∀ k, v.ownBlock = some k → k < W.heap.size) → (∀ k, vA.ownBlock = some k → v.ownBlock ≠ some k) → ∀ k, (Value.slice (some ⟨g, 0, none⟩) n' cap).ownBlock = some k → v.ownBlock ≠ some k := fun v hv hd k e hk => by
    injection e with e
    change g = k at e
    subst e
    rcases hat with hat | hat
    · exact hd g hat hk
    · have := hv g hk; omega
  refine ⟨(o1.block sb (lt_of_block h.box) (owns_type h.a h.box (by decide))).trans h.box, hown, owns_out h.b o1 (fun k hk e => h.ab k e hk), owns_out h.f o1 (fun k hk e => h.af k e hk), far vB (fun k hk => (h.b.lt k hk).2) h.ab, far vf (fun k hk => (h.f.lt k hk).2) h.af, h.bf, h.out.trans o1 h.wa, fun k e => ?_, h.wb⟩
  injection e with e
  change g = k at e
  subst e
  rcases hat with hat | hat
  · exact h.wa g hat
  · right; have := h.out.size; omega
/-- both rows laid into the box -/
theorem Mid.done {g cap g' cap' : Nat} {rs : List (Int × Int)} {x a : Int} (h : Mid w W sb most vt va vf (.slice (some ⟨g, 0, none⟩) (rs.length + 1) cap) (rs.length + 1) (thV rs ++ [.int .i64 x]) (.slice (some ⟨g', 0, none⟩) (rs.length + 1) cap') (rs.length + 1) (agV rs ++ [.int .i64 a]) fr) :
    SlotsIs ((W.setCell ⟨sb, 0, none⟩ (.slice (some ⟨g, 0, none⟩) (rs.length + 1) cap)).setCell ⟨sb, 1, none⟩ (.slice (some ⟨g', 0, none⟩) (rs.length + 1) cap')) sb most (.slice (some ⟨g, 0, none⟩) (rs.length + 1) cap) (.slice (some ⟨g', 0, none⟩) (rs.length + 1) cap') vf (rs ++ [(x, a)]) fr
    ∧ Out (slB sb vt va vf) w ((W.setCell ⟨sb, 0, none⟩ (.slice (some ⟨g, 0, none⟩) (rs.length + 1) cap)).setCell ⟨sb, 1, none⟩ (.slice (some ⟨g', 0, none⟩) (rs.length + 1) cap'))
    ∧ Went w (slB sb vt va vf) (slB sb (.slice (some ⟨g, 0, none⟩) (rs.length + 1) cap) (.slice (some ⟨g', 0, none⟩) (rs.length + 1) cap') vf) := by
  have b1 := blk_set (j := 0) (.slice (some ⟨g, 0, none⟩) (rs.length + 1) cap) h.box
  have b2 := blk_set (j := 1) (.slice (some ⟨g', 0, none⟩) (rs.length + 1) cap') b1
  have two : ∀ {v : Value} {n : Nat} {xs : List Value}, W.ownsRow 0 3 1 v n xs → ((W.setCell ⟨sb, 0, none⟩ (.slice (some ⟨g, 0, none⟩) (rs.length + 1) cap)).setCell ⟨sb, 1, none⟩ (.slice (some ⟨g', 0, none⟩) (rs.length + 1) cap')).ownsRow 0 3 1 v n xs := fun hv =>
    ownsRow_setCell_other (ownsRow_setCell_other hv (owns_type hv h.box (by decide)) _) (owns_type hv h.box (by decide)) _
  refine ⟨⟨by simpa using b2, ?_, ?_, two h.f, h.ab, h.af, h.bf⟩, ?_, ?_⟩
  · rw [List.length_append, List.length_singleton, thV_push]; exact two h.a
  · rw [List.length_append, List.length_singleton, agV_push]; exact two h.b
  · exact (h.out.trans ((out_set W ⟨sb, 0, none⟩ _).mono (S' := slB sb vt va vf) (fun k hk => Or.inl hk)) (Went.refl _ _)).trans ((out_set _ ⟨sb, 1, none⟩ _).mono (S' := slB sb vt va vf) (fun k hk => Or.inl hk)) (Went.refl _ _)
  · rintro k (rfl | hk | hk | hk)
    · exact Or.inl (Or.inl rfl)
    · exact h.wa k hk
    · exact h.wb k hk
    · exact Or.inl (Or.inr (Or.inr (Or.inr hk)))
end

theorem two_old (w : World) (o o' : Obj) : ((w.alloc o).alloc o').heap[w.heap.size]? = some o := (Below.heap_alloc (w.alloc o) o' w.heap.size (by simp)).trans (heap_alloc_new w o)
theorem two_new (w : World) (o o' : Obj) : ((w.alloc o).alloc o').heap[w.heap.size + 1]? = some o' := by simpa using heap_alloc_new (w.alloc o) o'
end Go.Proofs.YtgocmaijpihakaaDoor
