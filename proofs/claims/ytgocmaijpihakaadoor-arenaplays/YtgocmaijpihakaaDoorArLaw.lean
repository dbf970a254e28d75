/-
  The program's arena and the document's slots side by side: what one step of a script does to both. Conditions stand in each theorem.
-/
import Derived.Test.YtgocmaijpihakaaDoorArTake
import Derived.Test.YtgocmaijpihakaaDoorArRefNewW
import Derived.Test.YtgocmaijpihakaaDoorErr
namespace Go.Proofs.YtgocmaijpihakaaDoor
open Go.RowKit

theorem set_pushed (rs : List (Int × Int)) (p q : Int × Int) : (rs ++ [p]).set rs.length q = rs ++ [q] := by simp

/-- the document's Put, where there is room -/
theorem refPut (sb : Nat) (most : Int) (vt va vf : Value) (rs : List (Int × Int)) (fr : List Nat) (x : Int) (k : Nat) (rs1 : List (Int × Int)) (fr1 : List Nat) (w : World) (h : SlotsIs w sb most vt va vf rs fr) (hl : rs.length ≤ 1000) (hf : fr.length ≤ rs.length) (hm : ¬ most ≤ cntS rs)
    (hR : RoomIs rs fr k rs1 fr1) (hk : k < rs1.length) :
    Calls Tryd.prog 21 #[.pointer (some ⟨sb, 0, none⟩), .int .i64 x] w
      fun e w' => e = .returned (.tuple #[.int .i64 k, .int .i64 (slAt rs1 k).2, .int .i64 0]) ∧ ∃ vt' va' vf', SlotsIs w' sb most vt' va' vf' (rs1.set k (x, (slAt rs1 k).2)) fr1 ∧ Out (slB sb vt va vf) w w' ∧ Went w (slB sb vt va vf) (slB sb vt' va' vf') := by
  rcases hR with ⟨rfl, rfl⟩ | ⟨rfl, rfl, rfl, rfl⟩
  · refine (refPut_free sb most vt va vf _ fr1 k x w h hl (by simp at hf; omega) hm hk).mono ?_
    rintro e w1 ⟨rfl, vf', h1, h2, h3⟩
    refine ⟨rfl, vt, va, vf', h1, h2, ?_⟩
    rintro j (hj | hj | hj | hj)
    · exact Or.inl (Or.inl hj)
    · exact Or.inl (Or.inr (Or.inl hj))
    · exact Or.inl (Or.inr (Or.inr (Or.inl hj)))
    · exact Or.inl (Or.inr (Or.inr (Or.inr (h3 ▸ hj))))
  · refine (refPut_new sb most vt va vf _ x w h hl hm).mono ?_
    rintro e w1 ⟨rfl, vt', va', h1, h2, h3⟩
    rw [slAt_pushed, set_pushed]
    exact ⟨rfl, vt', va', vf, h1, h2, h3⟩

/-- there is always a next slot; what is true of the slots stays true; one thing more -/
theorem room_of {m : Nat} {rs : List (Int × Int)} {fr : List Nat} {x : Int} (h : Sl m rs fr) (hx : 0 ≤ x) :
    ∃ k rs1 fr1, RoomIs rs fr k rs1 fr1 ∧ k < rs1.length ∧ Sl (m + 1) (rs1.set k (x, (slAt rs1 k).2)) fr1 ∧ cntS (rs1.set k (x, (slAt rs1 k).2)) = cntS rs + 1 := by
  rcases List.eq_nil_or_concat fr with rfl | ⟨fs, k, rfl⟩
  · refine ⟨rs.length, _, [], Or.inr ⟨rfl, rfl, rfl, rfl⟩, by simp, ?_, ?_⟩
    · rw [slAt_pushed, set_pushed]; exact h.putNew hx
    · rw [slAt_pushed, set_pushed, cntS_append]; simp [cntS, hx]
  · rw [List.concat_eq_append] at h ⊢
    have hk := h.free k (by simp)
    refine ⟨k, rs, fs, Or.inl ⟨rfl, rfl⟩, hk.1, h.putFree hx, ?_⟩
    have := cntS_set (x, (slAt rs k).2) hk.1
    rw [hk.2] at this
    simpa [hx] using this

theorem arMany_is (ab : Nat) (most : Int) (vs vf : Value) (rs : List (Int × Int)) (fr : List Nat) (c : Int) (w : World) (h : ArenaIs w ab most vs vf rs fr) (hl : rs.length ≤ 1000) (hc : (cntS rs : Int) = c) (hs : cntS rs + fr.length = rs.length) :
    Calls Tryd.prog 27 #[.pointer (some ⟨ab, 0, none⟩)] w fun e w' => e = .returned (.int .i64 c) ∧ Below w.heap.size w w' :=
  (arMany ab most vs vf rs fr w h hl (by omega)).mono fun e w' ⟨h1, n, h2⟩ => ⟨by rw [h1, show (rs.length : Int) - fr.length = c by omega], h2 ▸ below_drewN (Below.refl _ _) n⟩

/-- the program's arena and the document's slots, side by side: both tell the same -/
structure Play (w wr : World) (ab sb : Nat) (most : Int) (m : Nat) (rs : List (Int × Int)) (fr : List Nat) (vs vf vt va vg : Value) : Prop where
  ar : ArenaIs wr ab most vs vf rs fr
  sl : SlotsIs wr sb most vt va vg rs fr
  ok : Sl m rs fr
  cap : (cntS rs : Int) ≤ most
  apart : ∀ j, arB ab vs vf j → ¬ slB sb vt va vg j
  ownA : ∀ j, arB ab vs vf j → w.heap.size ≤ j
  ownS : ∀ j, slB sb vt va vg j → w.heap.size ≤ j
  below : Below w.heap.size w wr

section
variable {w wr w1 w2 w3 w4 : World} {ab sb : Nat} {most : Int} {m m' : Nat} {rs rs' : List (Int × Int)} {fr fr' : List Nat} {vs vf vt va vg vs' vf' vt' va' vg' : Value}
theorem Play.still (h : Play w wr ab sb most m rs fr vs vf vt va vg) (hb : Below wr.heap.size wr w1) (hm : m ≤ m') : Play w w1 ab sb most m' rs fr vs vf vt va vg :=
  ⟨h.ar.below hb (Nat.le_refl _), h.sl.below hb (Nat.le_refl _), h.ok.more hm, h.cap, h.apart, h.ownA, h.ownS, h.below.trans (hb.mono h.below.size)⟩
/-- the document's slots have moved: the arena is as it was -/
theorem Play.arena (h : Play w wr ab sb most m rs fr vs vf vt va vg) (ho : Out (slB sb vt va vg) wr w1) : ArenaIs w1 ab most vs vf rs fr := h.ar.out ho h.apart
/-- both have moved, the document's slots first -/
theorem Play.step (h : Play w wr ab sb most m rs fr vs vf vt va vg) (ho : Out (slB sb vt va vg) wr w1) (hw : Went wr (slB sb vt va vg) (slB sb vt' va' vg')) (hs : SlotsIs w1 sb most vt' va' vg' rs' fr') (hb : Below w1.heap.size w1 w2)
    (ho' : Out (arB ab vs vf) w2 w3) (hw' : Went w2 (arB ab vs vf) (arB ab vs' vf')) (ha : ArenaIs w3 ab most vs' vf' rs' fr') (hok : Sl m' rs' fr') (hcap : (cntS rs' : Int) ≤ most) : Play w w3 ab sb most m' rs' fr' vs' vf' vt' va' vg' := by
  have hS : ∀ j, slB sb vt' va' vg' j → ¬ arB ab vs vf j := fun j hj hj' => by
    rcases hw j hj with h1 | h1
    · exact h.apart j hj' h1
    · have := h.ar.lt hj'; omega
  have hs2 := hs.below hb (Nat.le_refl _)
  have b1 : Below w.heap.size wr w1 := ho.below h.ownS h.below.size
  have b2 : Below w.heap.size w w2 := (h.below.trans b1).trans (hb.mono (h.below.trans b1).size)
  refine ⟨ha, hs2.out ho' hS, hok, hcap, fun j hj hj' => ?_, fun j hj => ?_, fun j hj => ?_, b2.trans (ho'.below h.ownA b2.size)⟩
  · rcases hw' j hj with h1 | h1
    · exact hS j hj' h1
    · have := hs2.lt hj'; omega
  · rcases hw' j hj with h1 | h1
    · exact h.ownA j h1
    · have := b2.size; omega
  · rcases hw j hj with h1 | h1
    · exact h.ownS j h1
    · have := h.below.size; omega
end
end Go.Proofs.YtgocmaijpihakaaDoor
