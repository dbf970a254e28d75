/-
  What an arena's Take does, over this seat's translation, told by the plain lists of ArSl. Conditions stand in the theorem: where the arena lies, that its slots are at most 1000 and their Ages from 0 to 1000.
-/
import Derived.Test.YtgocmaijpihakaaDoorArPut
import Derived.StillTailTactics
import Derived.Deep.RegionLaw
import Derived.BigRegion
namespace Go.Proofs.YtgocmaijpihakaaDoor
open Go.RowKit

/-- A region that draws its order, whose first n operations only read and feed the rest, which has one order: in the text's order. -/
theorem ar_tail {P : Program} {id : Nat} {Q : Exit → Act → World → Prop} {a : Act} {w : World} {l : List Oper} (n : Nat) (hm : P.follows .mixedOrders = true) (hB : Region.lexTailB .any l.toArray n = true)
    (h : wpStill P l.toArray w.drew (fun a' => wpList P l.toArray Q (l.drop n) a' w.drew) (l.take n) a) : (Code.region id l.toArray true).wp P Q a w := wp_region_still_tail n hm hB h

/-- a slot is emptied -/
theorem ArenaIs.clear {w : World} {ab g n cap k : Nat} {most a : Int} {vf : Value} {rs : List (Int × Int)} {fr : List Nat} (h : ArenaIs w ab most (.slice (some ⟨g, 0, none⟩) n cap) vf rs fr) (hk : k < rs.length) :
    ArenaIs (((w.setCell ⟨g, k * 3, none⟩ (.int .i64 0)).setCell ⟨g, k * 3 + 1, none⟩ (.int .i64 a)).setCell ⟨g, k * 3 + 2, none⟩ (.bool false)) ab most (.slice (some ⟨g, 0, none⟩) n cap) vf (rs.set k (-1, a)) fr
    ∧ Out (fun j => j = g) w (((w.setCell ⟨g, k * 3, none⟩ (.int .i64 0)).setCell ⟨g, k * 3 + 1, none⟩ (.int .i64 a)).setCell ⟨g, k * 3 + 2, none⟩ (.bool false)) := by
  obtain rfl := owns_len h.slots
  obtain ⟨h1, h2, h3, h4⟩ := raw_store h.box h.slots h.free (k * 3) (.int .i64 0)
  obtain ⟨g1, g2, g3, g4⟩ := raw_store h1 h2 h3 (k * 3 + 1) (.int .i64 a)
  obtain ⟨i1, i2, i3, i4⟩ := raw_store g1 g2 g3 (k * 3 + 2) (.bool false)
  refine ⟨⟨i1, ?_, i3⟩, (h4.trans g4 (Went.refl _ _)).trans i4 (Went.refl _ _)⟩
  have e := slV_set (-1, a) hk
  rw [List.length_set, ← e]
  exact i2

/-- a slot is free from now on -/
theorem ArenaIs.freed {w w1 : World} {ab g cap k H : Nat} {most : Int} {vs vf : Value} {rs : List (Int × Int)} {fr : List Nat} {o : Obj} (h : ArenaIs w ab most vs vf rs fr)
    (hown : w1.ownsRow 0 3 1 (.slice (some ⟨g, 0, none⟩) (fr.length + 1) cap) (fr.length + 1) (frV (fr ++ [k]))) (hg : (w.alloc o).grownBy w1 vf.ownBlock) (hat : vf.ownBlock = some g ∨ g = H) (hH : w.heap.size ≤ H) :
    ArenaIs (w1.setCell ⟨ab, 2, none⟩ (.slice (some ⟨g, 0, none⟩) (fr.length + 1) cap)) ab most vs (.slice (some ⟨g, 0, none⟩) (fr.length + 1) cap) rs (fr ++ [k])
    ∧ Out (arB ab vs vf) w (w1.setCell ⟨ab, 2, none⟩ (.slice (some ⟨g, 0, none⟩) (fr.length + 1) cap)) ∧ Went w (arB ab vs vf) (arB ab vs (.slice (some ⟨g, 0, none⟩) (fr.length + 1) cap)) := by
  have o1 : Out (fun k => vf.ownBlock = some k) w w1 := (Out.of_below ((Below.refl w.heap.size w).alloc (Nat.le_refl _) o) (Nat.le_refl _)).trans (Out.of_grown hg (fun k hk => hk)) (Went.refl _ _)
  have b1 : w1.heap[ab]? = some (.cells #[.int .i64 most, vs, vf] 92 (0, 0)) := (o1.block ab (lt_of_block h.box) (owns_type h.free h.box (by decide))).trans h.box
  have f1 : w1.ownsRow 0 95 3 vs rs.length (slV rs) := owns_out h.slots o1 (fun k hk => owns_types h.slots h.free (by decide) hk)
  have o2 := out_set w1 ⟨ab, 2, none⟩ (.slice (some ⟨g, 0, none⟩) (fr.length + 1) cap)
  refine ⟨⟨by simpa using blk_set (j := 2) (.slice (some ⟨g, 0, none⟩) (fr.length + 1) cap) b1, ownsRow_setCell_other f1 (owns_type f1 b1 (by decide)) _, ?_⟩, ?_, ?_⟩
  · rw [List.length_append, List.length_singleton]
    exact ownsRow_setCell_other hown (owns_type hown b1 (by decide)) _
  · exact (o1.mono (S' := arB ab vs vf) (fun k hk => Or.inr (Or.inr hk))).trans (o2.mono (S' := arB ab vs vf) (fun k hk => Or.inl hk)) (Went.refl _ _)
  · rintro k (rfl | hk | hk)
    · exact Or.inl (Or.inl rfl)
    · exact Or.inl (Or.inr (Or.inl hk))
    · injection hk with hk
      change g = k at hk
      subst hk
      rcases hat with hat | hat
      · exact Or.inl (Or.inr (Or.inr hat))
      · exact Or.inr (by omega)

set_option maxRecDepth 100000 in
set_option maxHeartbeats 2000000 in
theorem arTake (ab : Nat) (most : Int) (vs vf : Value) (rs : List (Int × Int)) (fr : List Nat) (i a : Int) (w : World) (h : ArenaIs w ab most vs vf rs fr) (hl : rs.length ≤ 1000) (hfl : fr.length ≤ rs.length) (hag : ∀ k, 0 ≤ (slAt rs k).2 ∧ (slAt rs k).2 ≤ 1000) :
    Calls Tryd.prog 26 #[.pointer (some ⟨ab, 0, none⟩), .agg #[.int .i64 i, .int .i64 a]] w
      fun e w' => (hasS rs i a = false ∧ e = .returned (.tuple #[.int .i64 0, .iface 22 (.int .i64 7)]) ∧ Below w.heap.size w w')
        ∨ (hasS rs i a = true ∧ ∃ k : Nat, i = k ∧ k < rs.length ∧ 0 ≤ (slAt rs k).1 ∧ (slAt rs k).2 = a ∧ e = .returned (.tuple #[.int .i64 (slAt rs k).1, .nilIface]) ∧ ∃ vf', ArenaIs w' ab most vs vf' (rs.set k (-1, (slAt rs k).2 + 1)) (fr ++ [k]) ∧ Out (arB ab vs vf) w w' ∧ Went w (arB ab vs vf) (arB ab vs vf')) := by
  obtain ⟨i0, hi, hz0, hz1, hz2⟩ := info_parts Tryd.infoNum
  have HA : Hid (ArenaIs w ab most vs vf rs fr) := h
  have HG : Hid (∀ k, 0 ≤ (slAt rs k).2 ∧ (slAt rs k).2 ≤ 1000) := hag
  clear h hag
  go_enter Tryd.func26, Tryd.ntmps26
  go_wp2_with fail
  refine (arGet ab most vs vf rs fr i a _ (HA.out.below ((Below.refl _ _).alloc (Nat.le_refl _) _) (Nat.le_refl _))).mono ?_
  rintro e w1 ⟨hb, ⟨hh, rfl⟩ | ⟨hh, k, rfl, hk, ht, ha, rfl⟩⟩
  · have HB : Hid (Below w.heap.size w w1) := ((Below.refl _ _).alloc (Nat.le_refl _) _).trans (hb.mono (by simp))
    have HH : Hid (hasS rs i a = false) := hh
    clear hb hh
    go_wp2
    go_ret2
    exact Or.inl ⟨HH.out, rfl, HB.out⟩
  · have HB : Hid (Below w.heap.size w w1) := ((Below.refl _ _).alloc (Nat.le_refl _) _).trans (hb.mono (by simp))
    have hbx : w1.heap[w.heap.size]? = some (.cells #[.int .i64 k, .int .i64 a] 58 (0, 0)) := (hb.block _ (by simp)).trans (heap_alloc_new w _)
    have HBX : Hid (w1.heap[w.heap.size]? = some (.cells #[.int .i64 k, .int .i64 a] 58 (0, 0))) := hbx
    have HH : Hid (hasS rs k a = true) := hh
    have HT : Hid (0 ≤ (slAt rs k).1 ∧ (slAt rs k).2 = a) := ⟨ht, ha⟩
    have H1 : Hid (ArenaIs w1 ab most vs vf rs fr) := HA.out.below HB.out (Nat.le_refl _)
    obtain ⟨g, cap, rfl, d0, d1, d2⟩ := H1.out.slot hk
    have x0 := blk_cell (j := 0) hbx rfl
    have x1 := blk_cell (j := 1) hbx rfl
    have c1 := blk_cell (j := 1) H1.out.box rfl
    have f0 := H1.out.slots.frozenAt (k * 3)
    have f1 := H1.out.slots.frozenAt (k * 3 + 1)
    have f2 := H1.out.slots.frozenAt (k * 3 + 2)
    have q0 : IntKind.i64.wrap (a + 1) = a + 1 := IntWalk.i64_in _ (by have := HG.out k; omega)
    have q1 : (0 : Int) ≤ (k : Int) := by omega
    have q2 : (k : Int) < rs.length := by omega
    clear hb hh ht ha hbx
    go_wp2_with fail
    refine ar_tail 11 (by kernel_rfl) (by kernel_rfl) ?_
    simp only [List.take_succ_cons, List.take_zero, List.drop_succ_cons, List.drop_zero]
    repeat still_step
    try refine wpStill_nil ?_
    go_wp2_with fail
    obtain ⟨r1, r2⟩ := H1.out.clear (a := a + 1) hk
    have hbx2 := (r2.block _ (lt_of_block HBX.out) (fun e => owns_type H1.out.slots HBX.out (by decide) (by rw [e]; rfl))).trans HBX.out
    have s2 : (((w1.setCell ⟨g, k * 3, none⟩ (.int .i64 0)).setCell ⟨g, k * 3 + 1, none⟩ (.int .i64 (a + 1))).setCell ⟨g, k * 3 + 2, none⟩ (.bool false)).heap.size = w1.heap.size := by simp
    generalize ((w1.setCell ⟨g, k * 3, none⟩ (.int .i64 0)).setCell ⟨g, k * 3 + 1, none⟩ (.int .i64 (a + 1))).setCell ⟨g, k * 3 + 2, none⟩ (.bool false) = w2 at r1 r2 hbx2 s2 ⊢
    have H2 : Hid (ArenaIs w2.drew ab most (.slice (some ⟨g, 0, none⟩) rs.length cap) vf (rs.set k (-1, a + 1)) fr) := r1.below (Below.refl w2.heap.size w2).drew (Nat.le_refl _)
    have HO2 : Hid (Out (fun j => j = g) w1 w2) := r2
    have y0 : w2.drew.cell? ⟨w.heap.size, 0, none⟩ = some (.int .i64 k) := blk_cell (j := 0) hbx2 rfl
    have ly : w.heap.size < w2.drew.heap.size := lt_of_block hbx2
    have z2 : w2.drew.cell? ⟨ab, 2, none⟩ = some vf := blk_cell (j := 2) H2.out.box rfl
    have lz : ab < w2.drew.heap.size := lt_of_block H2.out.box
    have A1 : vf.ownBlock ≠ some ab := owns_type H2.out.free H2.out.box (by decide)
    have A2 : vf.ownBlock ≠ some w.heap.size := owns_type (w := w2) r1.free hbx2 (by decide)
    obtain ⟨fo, fc, rfl, _, _⟩ := owns_shape H2.out.free
    clear r1 r2 hbx2 d0 d1 d2 x0 x1 c1 f0 f1 f2 q0 q1 q2
    have fz : w2.drew.frozen? ⟨ab, 2, none⟩ = false := blk_free H2.out.box
    generalize hw3 : w2.drew = w3 at H2 y0 ly z2 lz fz ⊢
    have HW3 : Hid (w2.drew = w3) := hw3
    clear hw3
    have fy : (w3.alloc (.cells #[.int .i64 k] 3)).drew.frozen? ⟨ab, 2, none⟩ = false := ((((Below.refl w3.heap.size w3).alloc (Nat.le_refl _) _).drew).frozen (p := ⟨ab, 2, none⟩) lz).trans fz
    go_region_law ((refine step_append_lies _ (by rfl) _ _ _ (by rfl) 0 3 i0 (.int .i64 0) 1 8 Tryd.underlying52 hi hz0 hz1 hz2 rfl (by omega) (.slice fo fr.length fc) fr.length (frV fr) (by rfl) ((H2.out.free.alloc _).drew) ⟨w3.heap.size, 0, none⟩ 1 1 [.int .i64 k] (by rfl) (by rfl) (World.news_of_block (cs := #[.int .i64 k]) (t := 3) (fr := (0, 0)) (heap_alloc_new w3 _)) (by simp [Value.oneCell']) (by omega) (by unfold maxLen; omega) (by omega) (Nat.zero_le _) (w3.heap.size + 1) (by simp) ?_; intro g2 cap2 w4 hown hgrow hat hlt; have hb4 := (hgrow.block ab (by simp; omega) (Ne.symm A1)).trans ((((Below.refl w3.heap.size w3).alloc (Nat.le_refl _) _).drew.block ab lz).trans H2.out.box); have z4 := blk_cell (j := 2) hb4 rfl; have z5 := blk_free (j := 2) hb4))
    all_goals go_wp2
    all_goals go_ret2
    all_goals obtain ⟨r1, r2, r3⟩ := H2.out.freed (k := k) (by rw [frV_push]; exact hown) ⟨hgrow.os, hgrow.tape, hgrow.output, hgrow.size, hgrow.block⟩ hat (by omega)
    all_goals have b23 : Below w2.heap.size w2 w3 := HW3.out ▸ (Below.refl w2.heap.size w2).drew
    all_goals have b13 := (HO2.out.mono (S' := arB ab (.slice (some ⟨g, 0, none⟩) rs.length cap) (.slice fo fr.length fc)) (fun j hj => Or.inr (Or.inl (by rw [hj]; rfl)))).trans (Out.of_below b23 (Nat.le_refl _)) (Went.refl _ _)
    all_goals have b03 := (Out.of_below HB.out (Nat.le_refl _)).trans b13 (Went.refl _ _)
    all_goals exact Or.inr ⟨HH.out, k, rfl, hk, HT.out.1, HT.out.2, rfl, _, by rw [HT.out.2]; exact r1, b03.trans r2 (Went.refl _ _), fun j hj => (r3 j hj).imp id (fun h4 => by have := b03.size; omega)⟩
end Go.Proofs.YtgocmaijpihakaaDoor
