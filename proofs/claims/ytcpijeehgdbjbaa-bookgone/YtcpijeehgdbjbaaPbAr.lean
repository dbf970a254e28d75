/-
  An arena of orders in memory, and what Many, find, Get, Set return at a handle whose order is there, over this seat's translation, told by the plain lists of PbSl. Conditions stand in each theorem.
-/
import Derived.Test.YtcpijeehgdbjbaaPbBlk
namespace Go.Proofs.Ytcpijeehgdbjbaa
open Go.RowKit

/-- In w block ab is an arena of at most 'most' orders: its slots, and those of them that are free. -/
structure ArOr (w : World) (ab : Nat) (most : Int) (vs vf : Value) (rs : List Sot) (fr : List Nat) : Prop where
  box : w.heap[ab]? = some (.cells #[.int .i64 most, vs, vf] 96 (0, 0))
  slots : w.ownsRow 0 99 7 vs rs.length (soV rs)
  free : w.ownsRow 0 3 1 vf fr.length (frV fr)
/-- the blocks of an arena -/
def aoB (ab : Nat) (vs vf : Value) (k : Nat) : Prop := k = ab ∨ vs.ownBlock = some k ∨ vf.ownBlock = some k
theorem ArOr.below {w w' : World} {ab : Nat} {most : Int} {vs vf : Value} {rs : List Sot} {fr : List Nat} {B : Nat} (h : ArOr w ab most vs vf rs fr) (hb : Below B w w') (hB : w.heap.size ≤ B) : ArOr w' ab most vs vf rs fr :=
  ⟨blk_below h.box hb hB, owns_below h.slots hb hB, owns_below h.free hb hB⟩
theorem ArOr.out {S : Nat → Prop} {w w' : World} {ab : Nat} {most : Int} {vs vf : Value} {rs : List Sot} {fr : List Nat} (h : ArOr w ab most vs vf rs fr) (hb : Out S w w') (hS : ∀ k, aoB ab vs vf k → ¬ S k) : ArOr w' ab most vs vf rs fr :=
  ⟨blk_out h.box hb (hS ab (Or.inl rfl)), owns_out h.slots hb (fun k hk => hS k (Or.inr (Or.inl hk))), owns_out h.free hb (fun k hk => hS k (Or.inr (Or.inr hk)))⟩
theorem ArOr.lt {w : World} {ab : Nat} {most : Int} {vs vf : Value} {rs : List Sot} {fr : List Nat} (h : ArOr w ab most vs vf rs fr) {k : Nat} (hk : aoB ab vs vf k) : k < w.heap.size := by
  rcases hk with rfl | hk | hk
  · exact lt_of_block h.box
  · exact (h.slots.lt k hk).2
  · exact (h.free.lt k hk).2
/-- one slot's cells -/
theorem ArOr.slot {w : World} {ab : Nat} {most : Int} {vs vf : Value} {rs : List Sot} {fr : List Nat} (h : ArOr w ab most vs vf rs fr) {k : Nat} {o : Ord} {a : Int} {f : Bool} (hk : k < rs.length) (ho : thO (soAt rs k).1 = o) (ha : (soAt rs k).2 = a) (hf : (soAt rs k).1.isSome = f) :
    ∃ g cap, vs = .slice (some ⟨g, 0, none⟩) rs.length cap ∧ w.cell? ⟨g, k * 7, none⟩ = some (.int .i64 o.id) ∧ w.cell? ⟨g, k * 7 + 1, none⟩ = some (.int .i64 o.side) ∧ w.cell? ⟨g, k * 7 + 2, none⟩ = some (.int .i64 o.kind) ∧ w.cell? ⟨g, k * 7 + 3, none⟩ = some (.int .i64 o.price) ∧ w.cell? ⟨g, k * 7 + 4, none⟩ = some (.int .i64 o.qty) ∧ w.cell? ⟨g, k * 7 + 5, none⟩ = some (.int .i64 a) ∧ w.cell? ⟨g, k * 7 + 6, none⟩ = some (.bool f) := by
  subst ho ha hf
  obtain ⟨g, cap, rfl, _, _⟩ := h.slots.form (by omega)
  obtain ⟨h1, h2, h3, h4, h5, h6, h7⟩ := soV_at hk
  exact ⟨g, cap, rfl, (h.slots.cellAt _ (by omega)).trans h1, (h.slots.cellAt _ (by omega)).trans h2, (h.slots.cellAt _ (by omega)).trans h3, (h.slots.cellAt _ (by omega)).trans h4, (h.slots.cellAt _ (by omega)).trans h5, (h.slots.cellAt _ (by omega)).trans h6, (h.slots.cellAt _ (by omega)).trans h7⟩
theorem ArOr.has {w : World} {ab : Nat} {most : Int} {vs vf : Value} {rs : List Sot} {fr : List Nat} (h : ArOr w ab most vs vf rs fr) {k : Nat} {o : Ord} {a : Int} (hk : soAt rs k = (some o, a)) :
    k < rs.length ∧ ∃ g cap, vs = .slice (some ⟨g, 0, none⟩) rs.length cap ∧ w.cell? ⟨g, k * 7, none⟩ = some (.int .i64 o.id) ∧ w.cell? ⟨g, k * 7 + 1, none⟩ = some (.int .i64 o.side) ∧ w.cell? ⟨g, k * 7 + 2, none⟩ = some (.int .i64 o.kind) ∧ w.cell? ⟨g, k * 7 + 3, none⟩ = some (.int .i64 o.price) ∧ w.cell? ⟨g, k * 7 + 4, none⟩ = some (.int .i64 o.qty) ∧ w.cell? ⟨g, k * 7 + 5, none⟩ = some (.int .i64 a) ∧ w.cell? ⟨g, k * 7 + 6, none⟩ = some (.bool true) :=
  ⟨soAt_some hk, h.slot (soAt_some hk) (by rw [hk]; rfl) (by rw [hk]) (by rw [hk]; rfl)⟩

set_option maxHeartbeats 400000 in
theorem oaNew (w : World) : Calls Try.prog 30 #[.int .i64 100] w
    fun e w' => e = .returned (.tuple #[.pointer (some ⟨w.heap.size, 0, none⟩), .nilIface]) ∧ w' = w.alloc (.cells #[.int .i64 100, .slice none 0 0, .slice none 0 0] 96) := by
  go_enter Try.func30, Try.ntmps30
  go_wp2
  go_ret2
  exact ⟨rfl, rfl⟩
theorem oaNew_is (w : World) (most : Int) : ArOr (w.alloc (.cells #[.int .i64 most, .slice none 0 0, .slice none 0 0] 96)) w.heap.size most (.slice none 0 0) (.slice none 0 0) [] [] :=
  ⟨heap_alloc_new w _, World.ownsRow_nil _ _ _ _, World.ownsRow_nil _ _ _ _⟩

set_option maxHeartbeats 400000 in
theorem oaMany (ab : Nat) (most : Int) (vs vf : Value) (rs : List Sot) (fr : List Nat) (c : Int) (w : World) (h : ArOr w ab most vs vf rs fr) (hl : rs.length ≤ 1000) (hc : (cntO rs : Int) = c) (hs : cntO rs + fr.length = rs.length) :
    Calls Try.prog 39 #[.pointer (some ⟨ab, 0, none⟩)] w fun e w' => e = .returned (.int .i64 c) ∧ ∃ n, w' = w.drewN n := by
  have c1 := blk_cell (j := 1) h.box rfl
  have c2 := blk_cell (j := 2) h.box rfl
  obtain ⟨ao, cap, rfl, _, _⟩ := owns_shape h.slots
  obtain ⟨ao', cap', rfl, _, _⟩ := owns_shape h.free
  have HC : Hid (c = (rs.length : Int) - fr.length) := by show _ = _; omega
  have hf : fr.length ≤ rs.length := by omega
  clear h hc hs
  go_enter Try.func39, Try.ntmps39
  go_wp2_with fail
  go_quiet (fail)
  go_wp2
  go_ret
  exact ⟨by rw [HC.out]; first | rfl | (rw [IntWalk.i64_in _ (by omega)]), ⟨_, rfl⟩⟩

set_option maxRecDepth 4000 in
set_option maxHeartbeats 1000000 in
theorem oaFind (ab : Nat) (most : Int) (vs vf : Value) (rs : List Sot) (fr : List Nat) (k : Nat) (o : Ord) (a : Int) (w : World) (h : ArOr w ab most vs vf rs fr) (hk : soAt rs k = (some o, a)) :
    Calls Try.prog 55 #[.pointer (some ⟨ab, 0, none⟩), .agg #[.int .i64 k, .int .i64 a]] w
      fun e w' => Below w.heap.size w w' ∧ ∃ (g cap : Nat), vs = .slice (some ⟨g, 0, none⟩) rs.length cap ∧ e = .returned (.pointer (some ⟨g, k * 7, none⟩)) := by
  have c1 := blk_cell (j := 1) h.box rfl
  have lb : ab < w.heap.size := lt_of_block h.box
  obtain ⟨hk1, g, cap, rfl, _, _, _, _, _, d1, d2⟩ := h.has hk
  have lg : g < w.heap.size := World.block_lt_of_cell? w _ d1
  clear h hk
  have hd : decide ((k : Int) < 0) = false := decide_eq_false (by omega)
  have q1 : (0 : Int) ≤ (k : Int) := by omega
  have q2 : (k : Int) < rs.length := by omega
  have q3 : decide ((rs.length : Int) ≤ (k : Int)) = false := decide_eq_false (by omega)
  go_enter Try.func55, Try.ntmps55
  go_wp2_with fail
  go_quiet (fail)
  go_wp2_with fail
  go_quiet (fail)
  go_wp2_with fail
  go_quiet (fail)
  go_wp2
  go_ret
  exact ⟨below_drewN (below_drewN (below_drewN (bel1 _ _) _) _) _, g, cap, rfl, rfl⟩

set_option maxRecDepth 4000 in
set_option maxHeartbeats 1000000 in
theorem oaGet (ab : Nat) (most : Int) (vs vf : Value) (rs : List Sot) (fr : List Nat) (k : Nat) (o : Ord) (a : Int) (w : World) (h : ArOr w ab most vs vf rs fr) (hk : soAt rs k = (some o, a)) :
    Calls Try.prog 51 #[.pointer (some ⟨ab, 0, none⟩), .agg #[.int .i64 k, .int .i64 a]] w
      fun e w' => Below w.heap.size w w' ∧ e = .returned (.tuple #[o.agg, .nilIface]) := by
  have HA : Hid (ArOr w ab most vs vf rs fr) := h
  have HK : Hid (soAt rs k = (some o, a)) := hk
  clear h hk
  go_enter Try.func51, Try.ntmps51
  go_wp2_with fail
  refine (oaFind ab most vs vf rs fr k o a _ (HA.out.below (bel2 _ _ _) (Nat.le_refl _)) HK.out).mono ?_
  rintro e w1 ⟨hb, g, cap, rfl, rfl⟩
  have hx := (hb.block (w.heap.size + 1) (by simp)).trans (two_new w _ _)
  have x0 := blk_cell (j := 0) hx rfl
  have x1 := blk_cell (j := 1) hx rfl
  have x2 := blk_cell (j := 2) hx rfl
  have x3 := blk_cell (j := 3) hx rfl
  have x4 := blk_cell (j := 4) hx rfl
  have y0 := blk_free (j := 0) hx
  have y1 := blk_free (j := 1) hx
  have y2 := blk_free (j := 2) hx
  have y3 := blk_free (j := 3) hx
  have y4 := blk_free (j := 4) hx
  have HB : Hid (Below w.heap.size w w1) := bel_then (bel2 w _ _) hb
  obtain ⟨hk1, g', cap', hv, d0, d1, d2, d3, d4, _, _⟩ := (HA.out.below HB.out (Nat.le_refl _)).has HK.out
  simp only [Value.slice.injEq, Option.some.injEq, Addr.mk.injEq, and_true, true_and] at hv
  obtain ⟨rfl, rfl⟩ := hv
  have hne : g ≠ w.heap.size + 1 := fun e => owns_type (HA.out.below HB.out (Nat.le_refl _)).slots hx (by decide) (by rw [e]; rfl)
  clear hb hx
  go_wp2
  refine bodyPost_ret (by simp [results, Try.results51, go_sem, x0, x1, x2, x3, x4]; try rfl) rfl ?_
  refine ⟨?_, rfl⟩
  have s : Below w.heap.size w1 w1 := Below.refl _ _
  exact HB.out.trans (((((s.setCell (p := ⟨w.heap.size + 1, 0, none⟩) (by simp) _).setCell (p := ⟨w.heap.size + 1, 1, none⟩) (by simp) _).setCell (p := ⟨w.heap.size + 1, 2, none⟩) (by simp) _).setCell (p := ⟨w.heap.size + 1, 3, none⟩) (by simp) _).setCell (p := ⟨w.heap.size + 1, 4, none⟩) (by simp) _)
end Go.Proofs.Ytcpijeehgdbjbaa
