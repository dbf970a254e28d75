/-
  What an arena of orders does at Put, over this seat's translation, told by the plain lists of PbSl. Conditions stand in each theorem.
-/
import Derived.Test.YtcpijeehgdbjbaaPbArW
import Derived.Deep.Cut
namespace Go.Proofs.Ytcpijeehgdbjbaa
open Go.RowKit

set_option maxRecDepth 4000 in
set_option maxHeartbeats 1000000 in
theorem oaPut_full (ab : Nat) (most : Int) (vs vf : Value) (rs : List Sot) (fr : List Nat) (x : Ord) (w : World) (h : ArOr w ab most vs vf rs fr) (hl : rs.length ≤ 1000) (hs : cntO rs + fr.length = rs.length) (hm : (cntO rs : Int) = most) :
    Calls Try.prog 34 #[.pointer (some ⟨ab, 0, none⟩), x.agg] w
      fun e w' => e = .returned (.tuple #[.agg #[.int .i64 0, .int .i64 0], .iface 55 (.int .i64 12)]) ∧ Below w.heap.size w w' := by
  have HA : Hid (ArOr w ab most vs vf rs fr) := h
  have c0 := blk_cell (j := 0) h.box rfl
  have lb : ab < w.heap.size := lt_of_block h.box
  have HM : Hid ((cntO rs : Int) = most) := hm
  clear h hm
  unfold Ord.agg
  go_enter Try.func34, Try.ntmps34
  go_wp2_with fail
  go_quiet (first | (go_at_call 39; refine Calls.quiet_of (oaMany ab most vs vf rs fr most _ (HA.out.below (below_drewN (bel2 _ _ _) _) (Nat.le_refl _)) hl HM.out hs)))
  go_wp2
  refine bodyPost_ret (by simp [results, Try.results34, go_sem]; try rfl) rfl ?_
  exact ⟨rfl, ((below_drewN (bel2 _ _ _) _).setCell (by simp) _).setCell (by simp) _⟩

/-- an order is put into a slot -/
theorem ArOr.putThing {w : World} {ab g n cap k : Nat} {most : Int} {x : Ord} {vf : Value} {rs : List Sot} {fr : List Nat} (h : ArOr w ab most (.slice (some ⟨g, 0, none⟩) n cap) vf rs fr) (hk : k < rs.length) :
    ArOr ((((((w.setCell ⟨g, k * 7, none⟩ (.int .i64 x.id)).setCell ⟨g, k * 7 + 1, none⟩ (.int .i64 x.side)).setCell ⟨g, k * 7 + 2, none⟩ (.int .i64 x.kind)).setCell ⟨g, k * 7 + 3, none⟩ (.int .i64 x.price)).setCell ⟨g, k * 7 + 4, none⟩ (.int .i64 x.qty)).setCell ⟨g, k * 7 + 6, none⟩ (.bool true)) ab most (.slice (some ⟨g, 0, none⟩) n cap) vf (rs.set k (some x, (soAt rs k).2)) fr
    ∧ Out (fun j => j = g) w ((((((w.setCell ⟨g, k * 7, none⟩ (.int .i64 x.id)).setCell ⟨g, k * 7 + 1, none⟩ (.int .i64 x.side)).setCell ⟨g, k * 7 + 2, none⟩ (.int .i64 x.kind)).setCell ⟨g, k * 7 + 3, none⟩ (.int .i64 x.price)).setCell ⟨g, k * 7 + 4, none⟩ (.int .i64 x.qty)).setCell ⟨g, k * 7 + 6, none⟩ (.bool true)) := by
  obtain rfl := owns_len h.slots
  obtain ⟨h1, h2, h3, h4⟩ := ArOr.raw h.box h.slots h.free (k * 7) (.int .i64 x.id) (.int .i64 x.side) (.int .i64 x.kind) (.int .i64 x.price) (.int .i64 x.qty)
  obtain ⟨g1, g2, g3, g4⟩ := raw_store h1 h2 h3 (k * 7 + 6) (.bool true)
  refine ⟨⟨g1, ?_, g3⟩, h4.trans g4 (Went.refl _ _)⟩
  rw [List.length_set, ← soV_put hk]
  exact g2

set_option maxRecDepth 4000 in
set_option maxHeartbeats 2000000 in
theorem oaPut (ab : Nat) (most : Int) (vs vf : Value) (rs : List Sot) (fr : List Nat) (x : Ord) (k : Nat) (rs1 : List Sot) (fr1 : List Nat) (w : World) (h : ArOr w ab most vs vf rs fr) (hl : rs.length ≤ 1000) (hs : cntO rs + fr.length = rs.length) (hm : ¬ (cntO rs : Int) = most)
    (hR : RoomO rs fr k rs1 fr1) (hk : k < rs1.length) :
    Calls Try.prog 34 #[.pointer (some ⟨ab, 0, none⟩), x.agg] w
      fun e w' => e = .returned (.tuple #[.agg #[.int .i64 k, .int .i64 (soAt rs1 k).2], .nilIface]) ∧ ∃ vs' vf', ArOr w' ab most vs' vf' (rs1.set k (some x, (soAt rs1 k).2)) fr1 ∧ Out (aoB ab vs vf) w w' ∧ Went w (aoB ab vs vf) (aoB ab vs' vf') := by
  have HA : Hid (ArOr w ab most vs vf rs fr) := h
  have HR : Hid (RoomO rs fr k rs1 fr1) := hR
  have c0 := blk_cell (j := 0) h.box rfl
  have lb : ab < w.heap.size := lt_of_block h.box
  have hmb : ((cntO rs : Int) == most) = false := beq_eq_false_iff_ne.2 hm
  clear h hm hR
  unfold Ord.agg
  go_enter Try.func34, Try.ntmps34
  go_wp2_with fail
  go_quiet (first | (go_at_call 39; refine Calls.quiet_of (oaMany ab most vs vf rs fr (cntO rs) _ (HA.out.below (below_drewN (bel2 _ _ _) _) (Nat.le_refl _)) hl rfl hs)))
  go_wp2_with fail
  have hbq := below_drewN (bel2 w (.cells #[.int .i64 x.id, .int .i64 x.side, .int .i64 x.kind, .int .i64 x.price, .int .i64 x.qty] 43) (.cells #[.int .i64 0, .int .i64 0] 76)) nq
  have hxq := blk_drewN nq (two_old w (.cells #[.int .i64 x.id, .int .i64 x.side, .int .i64 x.kind, .int .i64 x.price, .int .i64 x.qty] 43) (.cells #[.int .i64 0, .int .i64 0] 76))
  have hwq := blk_drewN nq (two_new w (.cells #[.int .i64 x.id, .int .i64 x.side, .int .i64 x.kind, .int .i64 x.price, .int .i64 x.qty] 43) (.cells #[.int .i64 0, .int .i64 0] 76))
  generalize ((w.alloc (.cells #[.int .i64 x.id, .int .i64 x.side, .int .i64 x.kind, .int .i64 x.price, .int .i64 x.qty] 43)).alloc (.cells #[.int .i64 0, .int .i64 0] 76)).drewN nq = wq at hbq hxq hwq ⊢
  have HBQ : Hid (Below w.heap.size w wq) := hbq
  have HXQ : Hid (wq.heap[w.heap.size]? = some (.cells #[.int .i64 x.id, .int .i64 x.side, .int .i64 x.kind, .int .i64 x.price, .int .i64 x.qty] 43 (0, 0))) := hxq
  have HWQ : Hid (wq.heap[w.heap.size + 1]? = some (.cells #[.int .i64 0, .int .i64 0] 76 (0, 0))) := hwq
  clear hbq hxq hwq hmb c0
  refine (oaRoom ab most vs vf rs fr k rs1 fr1 wq (HA.out.below HBQ.out (Nat.le_refl _)) HR.out hl (by omega)).mono ?_
  rintro e w1 ⟨rfl, vs', vf', h1, h2, h3⟩
  obtain ⟨g, cap, rfl, d0, d1, d2, d3, d4, d5, d6⟩ := h1.slot hk rfl rfl rfl
  have f0 := h1.slots.frozenAt (k * 7)
  have f1 := h1.slots.frozenAt (k * 7 + 1)
  have f2 := h1.slots.frozenAt (k * 7 + 2)
  have f3 := h1.slots.frozenAt (k * 7 + 3)
  have f4 := h1.slots.frozenAt (k * 7 + 4)
  have f6 := h1.slots.frozenAt (k * 7 + 6)
  have hxx := blk_out HXQ.out h2 (fun e => by have := HA.out.lt e; omega)
  have hbx := blk_out HWQ.out h2 (fun e => by have := HA.out.lt e; omega)
  have hne : w.heap.size + 1 ≠ g := fun e => owns_type h1.slots hbx (by decide) (by rw [e]; rfl)
  have hne2 : w.heap.size ≠ g := fun e => owns_type h1.slots hxx (by decide) (by rw [e]; rfl)
  have z0 := blk_cell (j := 0) hxx rfl
  have z1 := blk_cell (j := 1) hxx rfl
  have z2 := blk_cell (j := 2) hxx rfl
  have z3 := blk_cell (j := 3) hxx rfl
  have z4 := blk_cell (j := 4) hxx rfl
  have c1 := blk_cell (j := 1) h1.box rfl
  have HBX : Hid (w1.heap[w.heap.size + 1]? = some (.cells #[.int .i64 0, .int .i64 0] 76 (0, 0))) := hbx
  have H1 : Hid (ArOr w1 ab most (.slice (some ⟨g, 0, none⟩) rs1.length cap) vf' rs1 fr1) := h1
  have H2 : Hid (Out (aoB ab vs vf) wq w1) := h2
  have H3 : Hid (Went wq (aoB ab vs vf) (aoB ab (.slice (some ⟨g, 0, none⟩) rs1.length cap) vf')) := h3
  clear h1 h2 h3 hbx hxx
  have q1 : (0 : Int) ≤ (k : Int) := by omega
  have q2 : (k : Int) < rs1.length := by omega
  go_upto_region 6 with fail
  obtain ⟨r1, r2⟩ := H1.out.putThing (x := x) hk
  have lq : w.heap.size + 1 < wq.heap.size := lt_of_block HWQ.out
  have hbz := blk_out HBX.out r2 (fun e => hne e)
  generalize ((((((w1.setCell ⟨g, k * 7, none⟩ (.int .i64 x.id)).setCell ⟨g, k * 7 + 1, none⟩ (.int .i64 x.side)).setCell ⟨g, k * 7 + 2, none⟩ (.int .i64 x.kind)).setCell ⟨g, k * 7 + 3, none⟩ (.int .i64 x.price)).setCell ⟨g, k * 7 + 4, none⟩ (.int .i64 x.qty)).setCell ⟨g, k * 7 + 6, none⟩ (.bool true)) = wz at r1 r2 hbz ⊢
  obtain ⟨_, g', cap', hv, _, _, _, _, _, e5, _⟩ := r1.has (soAt_set_same _ hk)
  simp only [Value.slice.injEq, Option.some.injEq, Addr.mk.injEq, and_true] at hv
  obtain ⟨rfl, _, rfl⟩ := hv
  have R1 : Hid _ := r1
  have R2 : Hid _ := r2
  have x0 := blk_cell (j := 0) hbz rfl
  have x1 := blk_cell (j := 1) hbz rfl
  have y0 := blk_free (j := 0) hbz
  have y1 := blk_free (j := 1) hbz
  clear d0 d1 d2 d3 d4 d5 d6 f0 f1 f2 f3 f4 f6 z0 z1 z2 z3 z4 c1 r1 r2 hbz q1 q2
  go_wp2
  refine bodyPost_ret (by simp [results, Try.results34, go_sem, x0, x1]; try rfl) rfl ?_
  have sep : ∀ j, aoB ab (.slice (some ⟨g, 0, none⟩) rs1.length cap) vf' j → ¬ j = w.heap.size + 1 := fun j hj e => by
    rcases H3.out j hj with h4 | h4
    · have := HA.out.lt h4; omega
    · omega
  have s1 := out_set wz ⟨w.heap.size + 1, 0, none⟩ (.int .i64 k)
  have s2 := out_set (wz.setCell ⟨w.heap.size + 1, 0, none⟩ (.int .i64 k)) ⟨w.heap.size + 1, 1, none⟩ (.int .i64 (soAt rs1 k).2)
  have s3 := s1.trans s2 (Went.refl _ _)
  refine ⟨rfl, _, vf', R1.out.out s3 sep, ?_, fun j hj => (H3.out j hj).imp id (fun h4 => by omega)⟩
  refine ((((Out.of_below HBQ.out (Nat.le_refl _)).trans H2.out (Went.refl _ _)).trans R2.out ?_).trans s3 ?_)
  · rintro j rfl
    exact (H3.out j (Or.inr (Or.inl rfl))).imp id (fun h4 => by omega)
  · rintro j rfl
    exact Or.inr (by simp)
end Go.Proofs.Ytcpijeehgdbjbaa
