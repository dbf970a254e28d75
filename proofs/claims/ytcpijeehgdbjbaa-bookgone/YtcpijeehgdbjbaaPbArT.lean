/-
  What an arena of orders does at Take of a handle whose order is there, over this seat's translation, told by the plain lists of PbSl. Conditions stand in the theorem.
-/
import Derived.Test.YtcpijeehgdbjbaaPbArP
import Derived.StillTailTactics
import Derived.Deep.RegionLaw
import Derived.BigRegion
namespace Go.Proofs.Ytcpijeehgdbjbaa
open Go.RowKit

/-- A region that draws its order, whose first n operations only read and feed the rest, which has one order: in the text's order. -/
theorem ar_tail {P : Program} {id : Nat} {Q : Exit → Act → World → Prop} {a : Act} {w : World} {l : List Oper} (n : Nat) (hm : P.follows .mixedOrders = true) (hB : Region.lexTailB .any l.toArray n = true)
    (h : wpStill P l.toArray w.drew (fun a' => wpList P l.toArray Q (l.drop n) a' w.drew) (l.take n) a) : (Code.region id l.toArray true).wp P Q a w := wp_region_still_tail n hm hB h

def clearW (w : World) (g k : Nat) (a : Int) : World := ((((((w.setCell ⟨g, k * 7, none⟩ (.int .i64 0)).setCell ⟨g, k * 7 + 1, none⟩ (.int .i64 0)).setCell ⟨g, k * 7 + 2, none⟩ (.int .i64 0)).setCell ⟨g, k * 7 + 3, none⟩ (.int .i64 0)).setCell ⟨g, k * 7 + 4, none⟩ (.int .i64 0)).setCell ⟨g, k * 7 + 5, none⟩ (.int .i64 a)).setCell ⟨g, k * 7 + 6, none⟩ (.bool false)
/-- a slot is emptied -/
theorem ArOr.clear {w : World} {ab g n cap k : Nat} {most a : Int} {vf : Value} {rs : List Sot} {fr : List Nat} (h : ArOr w ab most (.slice (some ⟨g, 0, none⟩) n cap) vf rs fr) (hk : k < rs.length) :
    ArOr (clearW w g k a) ab most (.slice (some ⟨g, 0, none⟩) n cap) vf (rs.set k (none, a)) fr ∧ Out (fun j => j = g) w (clearW w g k a) := by
  obtain rfl := owns_len h.slots
  obtain ⟨h1, h2, h3, h4⟩ := ArOr.raw h.box h.slots h.free (k * 7) (.int .i64 0) (.int .i64 0) (.int .i64 0) (.int .i64 0) (.int .i64 0)
  obtain ⟨g1, g2, g3, g4⟩ := raw_store h1 h2 h3 (k * 7 + 5) (.int .i64 a)
  obtain ⟨i1, i2, i3, i4⟩ := raw_store g1 g2 g3 (k * 7 + 6) (.bool false)
  refine ⟨⟨i1, ?_, i3⟩, (h4.trans g4 (Went.refl _ _)).trans i4 (Went.refl _ _)⟩
  have e := soV_set (none, a) hk
  rw [List.length_set, ← e]
  exact i2

theorem out_five (w : World) (b : Nat) (u0 u1 u2 u3 u4 : Value) : Out (fun j => j = b) w (((((w.setCell ⟨b, 0, none⟩ u0).setCell ⟨b, 1, none⟩ u1).setCell ⟨b, 2, none⟩ u2).setCell ⟨b, 3, none⟩ u3).setCell ⟨b, 4, none⟩ u4) :=
  ((((out_set w ⟨b, 0, none⟩ u0).trans (out_set _ ⟨b, 1, none⟩ u1) (Went.refl _ _)).trans (out_set _ ⟨b, 2, none⟩ u2) (Went.refl _ _)).trans (out_set _ ⟨b, 3, none⟩ u3) (Went.refl _ _)).trans (out_set _ ⟨b, 4, none⟩ u4) (Went.refl _ _)
/-- a slot is free from now on -/
theorem ArOr.freed {w w1 : World} {ab g cap k H : Nat} {most : Int} {vs vf : Value} {rs : List Sot} {fr : List Nat} {o : Obj} (h : ArOr w ab most vs vf rs fr)
    (hown : w1.ownsRow 0 3 1 (.slice (some ⟨g, 0, none⟩) (fr.length + 1) cap) (fr.length + 1) (frV (fr ++ [k]))) (hg : (w.alloc o).grownBy w1 vf.ownBlock) (hat : vf.ownBlock = some g ∨ g = H) (hH : w.heap.size ≤ H) :
    ArOr (w1.setCell ⟨ab, 2, none⟩ (.slice (some ⟨g, 0, none⟩) (fr.length + 1) cap)) ab most vs (.slice (some ⟨g, 0, none⟩) (fr.length + 1) cap) rs (fr ++ [k])
    ∧ Out (aoB ab vs vf) w (w1.setCell ⟨ab, 2, none⟩ (.slice (some ⟨g, 0, none⟩) (fr.length + 1) cap)) ∧ Went w (aoB ab vs vf) (aoB ab vs (.slice (some ⟨g, 0, none⟩) (fr.length + 1) cap)) := by
  have o1 : Out (fun k => vf.ownBlock = some k) w w1 := (Out.of_below (bel1 w o) (Nat.le_refl _)).trans (Out.of_grown hg (fun k hk => hk)) (Went.refl _ _)
  have b1 : w1.heap[ab]? = some (.cells #[.int .i64 most, vs, vf] 96 (0, 0)) := blk_out h.box o1 (owns_type h.free h.box (by decide))
  have f1 : w1.ownsRow 0 99 7 vs rs.length (soV rs) := owns_out h.slots o1 (fun k hk => owns_types h.slots h.free (by decide) hk)
  have o2 := out_set w1 ⟨ab, 2, none⟩ (.slice (some ⟨g, 0, none⟩) (fr.length + 1) cap)
  refine ⟨⟨by simpa using blk_set (j := 2) (.slice (some ⟨g, 0, none⟩) (fr.length + 1) cap) b1, ownsRow_setCell_other f1 (owns_type f1 b1 (by decide)) _, ?_⟩, ?_, ?_⟩
  · rw [List.length_append, List.length_singleton]
    exact ownsRow_setCell_other hown (owns_type hown b1 (by decide)) _
  · exact (o1.mono (S' := aoB ab vs vf) (fun k hk => Or.inr (Or.inr hk))).trans (o2.mono (S' := aoB ab vs vf) (fun k hk => Or.inl hk)) (Went.refl _ _)
  · rintro k (rfl | hk | hk)
    · exact Or.inl (Or.inl rfl)
    · exact Or.inl (Or.inr (Or.inl hk))
    · injection hk with hk
      change g = k at hk
      subst hk
      rcases hat with hat | hat
      · exact Or.inl (Or.inr (Or.inr hat))
      · exact Or.inr (by omega)

set_option maxRecDepth 100000 in
set_option maxHeartbeats 2000000 in
theorem oaTake (ab : Nat) (most : Int) (vs vf : Value) (rs : List Sot) (fr : List Nat) (k : Nat) (o : Ord) (a : Int) (w : World) (h : ArOr w ab most vs vf rs fr) (hk : soAt rs k = (some o, a)) (hl : rs.length ≤ 1000) (hfl : fr.length ≤ rs.length) (hag : 0 ≤ a ∧ a ≤ 1000) :
    Calls Try.prog 43 #[.pointer (some ⟨ab, 0, none⟩), .agg #[.int .i64 k, .int .i64 a]] w
      fun e w' => e = .returned (.tuple #[o.agg, .nilIface]) ∧ ∃ vf', ArOr w' ab most vs vf' (rs.set k (none, a + 1)) (fr ++ [k]) ∧ Out (aoB ab vs vf) w w' ∧ Went w (aoB ab vs vf) (aoB ab vs vf') := by
  obtain ⟨i0, hi, hz0, hz1, hz2⟩ := info_parts Try.infoNumO
  have HA : Hid (ArOr w ab most vs vf rs fr) := h
  have HK : Hid (soAt rs k = (some o, a)) := hk
  have HG : Hid (0 ≤ a ∧ a ≤ 1000) := hag
  clear h hag hk
  go_enter Try.func43, Try.ntmps43
  go_wp2_with fail
  refine (oaGet ab most vs vf rs fr k o a _ (HA.out.below (bel2 _ _ _) (Nat.le_refl _)) HK.out).mono ?_
  rintro e w1 ⟨hb, rfl⟩
  have hh := (hb.block (w.heap.size) (by simp; omega)).trans (two_old w _ _)
  have hr := (hb.block (w.heap.size + 1) (by simp)).trans (two_new w _ _)
  have HR0 : Hid _ := hr
  have HB : Hid (Below w.heap.size w w1) := bel_then (bel2 w _ _) hb
  unfold Ord.agg
  go_upto_region 4 with fail
  have hh := blk_below hh (bel1 w1 (.cells #[.int .i64 o.id, .int .i64 o.side, .int .i64 o.kind, .int .i64 o.price, .int .i64 o.qty] 43)) (Nat.le_refl _)
  have hr := blk_below hr (bel1 w1 (.cells #[.int .i64 o.id, .int .i64 o.side, .int .i64 o.kind, .int .i64 o.price, .int .i64 o.qty] 43)) (Nat.le_refl _)
  have hx := heap_alloc_new w1 (.cells #[.int .i64 o.id, .int .i64 o.side, .int .i64 o.kind, .int .i64 o.price, .int .i64 o.qty] 43)
  have HB1 : Hid (Below w.heap.size w (w1.alloc (.cells #[.int .i64 o.id, .int .i64 o.side, .int .i64 o.kind, .int .i64 o.price, .int .i64 o.qty] 43))) := bel_then HB.out (bel1 _ _)
  generalize w1.alloc (.cells #[.int .i64 o.id, .int .i64 o.side, .int .i64 o.kind, .int .i64 o.price, .int .i64 o.qty] 43) = wa at hh hr hx HB1 ⊢
  have hxb1 : w.heap.size ≤ w1.heap.size := HB.out.size
  have hxb2 : w1.heap.size ≠ w.heap.size + 1 := fun e => by have := lt_of_block HR0.out; omega
  generalize w1.heap.size = xb at hx hxb1 hxb2 ⊢
  have HXB : Hid (w.heap.size ≤ xb) := hxb1
  have HXN : Hid (xb ≠ w.heap.size + 1) := hxb2
  clear hb HB hxb1 hxb2
  have HH : Hid (wa.heap[w.heap.size]? = some (.cells #[.int .i64 k, .int .i64 a] 76 (0, 0))) := hh
  have HR : Hid (wa.heap[w.heap.size + 1]? = some (.cells #[.int .i64 0, .int .i64 0, .int .i64 0, .int .i64 0, .int .i64 0] 43 (0, 0))) := hr
  have HX : Hid (wa.heap[xb]? = some (.cells #[.int .i64 o.id, .int .i64 o.side, .int .i64 o.kind, .int .i64 o.price, .int .i64 o.qty] 43 (0, 0))) := hx
  have H1 : Hid (ArOr wa ab most vs vf rs fr) := HA.out.below HB1.out (Nat.le_refl _)
  obtain ⟨hk1, g, cap, rfl, d0, d1, d2, d3, d4, d5, d6⟩ := H1.out.has HK.out
  have x0 := blk_cell (j := 0) hh rfl
  have x1 := blk_cell (j := 1) hh rfl
  have c1 := blk_cell (j := 1) H1.out.box rfl
  have f0 := H1.out.slots.frozenAt (k * 7)
  have f1 := H1.out.slots.frozenAt (k * 7 + 1)
  have f2 := H1.out.slots.frozenAt (k * 7 + 2)
  have f3 := H1.out.slots.frozenAt (k * 7 + 3)
  have f4 := H1.out.slots.frozenAt (k * 7 + 4)
  have f5 := H1.out.slots.frozenAt (k * 7 + 5)
  have f6 := H1.out.slots.frozenAt (k * 7 + 6)
  have q0 : IntKind.i64.wrap (a + 1) = a + 1 := IntWalk.i64_in _ (by have := HG.out; omega)
  have q1 : (0 : Int) ≤ (k : Int) := by omega
  have q2 : (k : Int) < rs.length := by omega
  clear hh hr hx
  refine ar_tail 11 (by kernel_rfl) (by kernel_rfl) ?_
  simp only [List.take_succ_cons, List.take_zero, List.drop_succ_cons, List.drop_zero]
  repeat still_step
  try refine wpStill_nil ?_
  go_upto_region 5 with fail
  obtain ⟨r1, r2⟩ := H1.out.clear (a := a + 1) hk1
  unfold clearW at r1 r2
  generalize hw2 : ((((((wa.setCell ⟨g, k * 7, none⟩ (.int .i64 0)).setCell ⟨g, k * 7 + 1, none⟩ (.int .i64 0)).setCell ⟨g, k * 7 + 2, none⟩ (.int .i64 0)).setCell ⟨g, k * 7 + 3, none⟩ (.int .i64 0)).setCell ⟨g, k * 7 + 4, none⟩ (.int .i64 0)).setCell ⟨g, k * 7 + 5, none⟩ (.int .i64 (a + 1))).setCell ⟨g, k * 7 + 6, none⟩ (.bool false) = w2 at r1 r2 ⊢
  clear hw2
  have hh2 := blk_out HH.out r2 (fun e => owns_type H1.out.slots HH.out (by decide) (by rw [e]; rfl))
  have hr2 := blk_out HR.out r2 (fun e => owns_type H1.out.slots HR.out (by decide) (by rw [e]; rfl))
  have hx2 := blk_out HX.out r2 (fun e => owns_type H1.out.slots HX.out (by decide) (by rw [e]; rfl))
  have H2 : Hid (ArOr w2.drew ab most (.slice (some ⟨g, 0, none⟩) rs.length cap) vf (rs.set k (none, a + 1)) fr) := r1.below (Below.refl w2.heap.size w2).drew (Nat.le_refl _)
  have HO2 : Hid (Out (aoB ab (.slice (some ⟨g, 0, none⟩) rs.length cap) vf) wa w2.drew) := (r2.mono (S' := aoB ab (.slice (some ⟨g, 0, none⟩) rs.length cap) vf) (fun j hj => Or.inr (Or.inl (by rw [hj]; rfl)))).trans (Out.of_below (Below.refl w2.heap.size w2).drew (Nat.le_refl _)) (Went.refl _ _)
  have HH2 : Hid (w2.drew.heap[w.heap.size]? = some (.cells #[.int .i64 k, .int .i64 a] 76 (0, 0))) := hh2
  have HR2 : Hid (w2.drew.heap[w.heap.size + 1]? = some (.cells #[.int .i64 0, .int .i64 0, .int .i64 0, .int .i64 0, .int .i64 0] 43 (0, 0))) := hr2
  have HX2 : Hid (w2.drew.heap[xb]? = some (.cells #[.int .i64 o.id, .int .i64 o.side, .int .i64 o.kind, .int .i64 o.price, .int .i64 o.qty] 43 (0, 0))) := hx2
  clear r1 r2 hh2 hr2 hx2 d0 d1 d2 d3 d4 d5 d6 x0 x1 c1 f0 f1 f2 f3 f4 f5 f6 q0 q1 q2
  generalize w2.drew = w3 at H2 HO2 HH2 HR2 HX2 ⊢
  have y0 : w3.cell? ⟨w.heap.size, 0, none⟩ = some (.int .i64 k) := blk_cell (j := 0) HH2.out rfl
  have ly : w.heap.size < w3.heap.size := lt_of_block HH2.out
  have z2 : w3.cell? ⟨ab, 2, none⟩ = some vf := blk_cell (j := 2) H2.out.box rfl
  have lz : ab < w3.heap.size := lt_of_block H2.out.box
  have A1 : vf.ownBlock ≠ some ab := owns_type H2.out.free H2.out.box (by decide)
  have A2 : vf.ownBlock ≠ some w.heap.size := owns_type H2.out.free HH2.out (by decide)
  have A3 : vf.ownBlock ≠ some (w.heap.size + 1) := owns_type H2.out.free HR2.out (by decide)
  have A4 : vf.ownBlock ≠ some xb := owns_type H2.out.free HX2.out (by decide)
  have lr : w.heap.size + 1 < w3.heap.size := lt_of_block HR2.out
  have lx : xb < w3.heap.size := lt_of_block HX2.out
  obtain ⟨fo, fc, rfl, _, _⟩ := owns_shape H2.out.free
  have fz : w3.frozen? ⟨ab, 2, none⟩ = false := blk_free H2.out.box
  have fy : (w3.alloc (.cells #[.int .i64 k] 3)).drew.frozen? ⟨ab, 2, none⟩ = false := ((((Below.refl w3.heap.size w3).alloc (Nat.le_refl _) _).drew).frozen (p := ⟨ab, 2, none⟩) lz).trans fz
  go_region_law ((refine step_append_lies _ (by rfl) _ _ _ (by rfl) 0 3 i0 (.int .i64 0) 1 8 Try.underlying48 hi hz0 hz1 hz2 rfl (by omega) (.slice fo fr.length fc) fr.length (frV fr) (by rfl) ((H2.out.free.alloc _).drew) ⟨w3.heap.size, 0, none⟩ 1 1 [.int .i64 k] (by rfl) (by rfl) (World.news_of_block (cs := #[.int .i64 k]) (t := 3) (fr := (0, 0)) (heap_alloc_new w3 _)) (by simp [Value.oneCell']) (by omega) (by unfold maxLen; omega) (by omega) (Nat.zero_le _) (w3.heap.size + 1) (by simp) ?_; intro g2 cap2 w4 hown hgrow hat hlt; have hb4 := (hgrow.block ab (by simp; omega) (Ne.symm A1)).trans ((((Below.refl w3.heap.size w3).alloc (Nat.le_refl _) _).drew.block ab lz).trans H2.out.box); have z4 := blk_cell (j := 2) hb4 rfl; have z5 := blk_free (j := 2) hb4))
  all_goals go_upto_region 6 with fail
  all_goals obtain ⟨r1, r2, r3⟩ := H2.out.freed (k := k) (by rw [frV_push]; exact hown) ⟨hgrow.os, hgrow.tape, hgrow.output, hgrow.size, hgrow.block⟩ hat (by omega)
  all_goals have hne : ∀ j, (w.heap.size ≤ j) → ¬ aoB ab (.slice (some ⟨g, 0, none⟩) rs.length cap) (.slice fo fr.length fc) j := fun j hj e => by have := HA.out.lt e; omega
  all_goals have hr5 := blk_out HR2.out r2 (hne _ (by omega))
  all_goals have hx5 := blk_out HX2.out r2 (hne _ (HXB.out))
  all_goals generalize w4.setCell ⟨ab, 2, none⟩ (.slice (some ⟨g2, 0, none⟩) (fr.length + 1) cap2) = w5 at r1 r2 r3 hr5 hx5 ⊢
  all_goals have R1 : Hid _ := r1
  all_goals have R2 : Hid _ := r2
  all_goals have R3 : Hid _ := r3
  all_goals have hnx : xb ≠ w.heap.size + 1 := HXN.out
  all_goals have e0 := blk_cell (j := 0) hx5 rfl
  all_goals have e1 := blk_cell (j := 1) hx5 rfl
  all_goals have e2 := blk_cell (j := 2) hx5 rfl
  all_goals have e3 := blk_cell (j := 3) hx5 rfl
  all_goals have e4 := blk_cell (j := 4) hx5 rfl
  all_goals have u0 := blk_cell (j := 0) hr5 rfl
  all_goals have u1 := blk_cell (j := 1) hr5 rfl
  all_goals have u2 := blk_cell (j := 2) hr5 rfl
  all_goals have u3 := blk_cell (j := 3) hr5 rfl
  all_goals have u4 := blk_cell (j := 4) hr5 rfl
  all_goals have v0 := blk_free (j := 0) hr5
  all_goals have v1 := blk_free (j := 1) hr5
  all_goals have v2 := blk_free (j := 2) hr5
  all_goals have v3 := blk_free (j := 3) hr5
  all_goals have v4 := blk_free (j := 4) hr5
  all_goals clear r1 r2 r3 hr5 hx5 hown hgrow hat hlt hb4 z4 z5 fy fz z2 y0
  all_goals go_wp2
  all_goals refine bodyPost_ret (by simp [results, Try.results43, go_sem, u0, u1, u2, u3, u4]; try rfl) rfl ?_
  all_goals have s3 := out_five w5 (w.heap.size + 1) (.int .i64 o.id) (.int .i64 o.side) (.int .i64 o.kind) (.int .i64 o.price) (.int .i64 o.qty)
  all_goals have b0a := Out.of_below (S := aoB ab (.slice (some ⟨g, 0, none⟩) rs.length cap) (.slice fo fr.length fc)) HB1.out (Nat.le_refl _)
  all_goals have b03 := b0a.trans HO2.out (Went.refl _ _)
  all_goals have b05 := b03.trans R2.out (Went.refl _ _)
  all_goals have w05 : Went w (aoB ab (.slice (some ⟨g, 0, none⟩) rs.length cap) (.slice fo fr.length fc)) _ := fun j hj => (R3.out j hj).imp id (fun h4 => Nat.le_trans b03.size h4)
  all_goals refine ⟨rfl, _, R1.out.out s3 (fun j hj e => ?_), b05.trans s3 (fun j hj => Or.inr (by omega)), w05⟩
  all_goals rcases R3.out j hj with h4 | h4
  all_goals first | (have := HA.out.lt h4; omega) | omega
end Go.Proofs.Ytcpijeehgdbjbaa
