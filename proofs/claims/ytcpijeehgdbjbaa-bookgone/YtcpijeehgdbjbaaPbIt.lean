/-
  The iterator over a side of the program's book (the closure that lying hands back), over this seat's translation: it hands over the side's orders one by one, for every loop body that keeps the book. Conditions stand in each theorem.
-/
import Derived.Test.YtcpijeehgdbjbaaPbMem
import Derived.RangeFuncNested
import Derived.RangeFuncBound
import Derived.RangeFuncCalls
import Derived.RangeFuncLeaves
import Derived.Shelf.Abstract
import Derived.Shelf.RegionOpen
import Derived.OwnWalkIn
import Derived.TacticsInMore
import Derived.LoopNIn
import Derived.LoopIn
namespace Go.Proofs.Ytcpijeehgdbjbaa
open Go.RowKit Go.Shelf

attribute [local go_sem] Oper.semAt_some
attribute [local go_sem ↓] Go.wp_at_zero Go.wp_at_succ

/-- what a round that goes on keeps: all below m, and the box of the receiver -/
structure KpL (m Bb : Nat) (W W' : World) : Prop where
  below : Below m W W'
  box : ∀ vs t, W.heap[Bb]? = some (.cells vs t (0, 0)) → W'.heap[Bb]? = some (.cells vs t (0, 0))
theorem KpL.refl (m Bb : Nat) (W : World) : KpL m Bb W W := ⟨Below.refl _ _, fun _ _ h => h⟩
theorem KpL.trans {m Bb : Nat} {A B C : World} (h : KpL m Bb A B) (k : KpL m Bb B C) : KpL m Bb A C := ⟨h.below.trans k.below, fun vs t e => k.box vs t (h.box vs t e)⟩
theorem kpl_t {m Bb : Nat} {A B C : World} (h : KpL m Bb A B) (k : KpL m Bb B C) : KpL m Bb A C := h.trans k
theorem kpl_b {m Bb : Nat} {w : World} (hm : m ≤ w.heap.size) (W : World) (l : Nat) (o o' : Obj) (hl : w.heap.size ≤ l) (h : W.heap[l]? = some o) (hc : o.isCells = false) (hw : o.isWalk = false) : KpL m Bb W (W.putObj l o') :=
  ⟨belowK_b hm W l o o' hl h hc hw, fun vs t e => by
    have hne : l ≠ Bb := fun e' => by subst e'; rw [e] at h; injection h with h; subst h; cases hc
    exact (World.putObj_heap_other (Ne.symm hne)).trans e⟩
theorem KpL.of_below {m Bb : Nat} {W W' : World} (h : Below W.heap.size W W') (hm : m ≤ W.heap.size) : KpL m Bb W W' := ⟨h.mono hm, fun _ _ e => blk_below e h (Nat.le_refl _)⟩
theorem grown_of_below {W W' : World} (h : Below W.heap.size W W') : W.grownBy W' none := ⟨h.os, h.tape, h.output, h.size, fun k hk _ => h.block k hk⟩

theorem bel_more {w w1 w2 : World} {n : Nat} (h : Below n w w1) (h1 : Below w1.heap.size w1 w2) (hn : n ≤ w1.heap.size) : Below n w w2 := h.trans (h1.mono hn)
theorem take_snoc {l : List Ly} {k : Nat} (h : k < l.length) : (l.take (k + 1)).map Ly.o = (l.take k).map Ly.o ++ [(lyAt l k).o] := by
  rw [List.take_succ_eq_append_getElem h, List.map_append, lyAt_eq h]; rfl

set_option maxRecDepth 100000 in
set_option maxHeartbeats 4000000 in
theorem lyIt (n : Nat) (hn : 1 ≤ n) (l Bb Bs m bb ab mb nn s : Nat) (vs vf v0 v1 : Value) (rs : List Sot) (fr : List Nat) (S : Nat → List Ly) (J Jx : List Ord → World → Prop) (hs : s < 2) (hlen : (S s).length ≤ 1000)
    (hth : ∀ x ∈ S s, soAt rs x.slot = (some x.o, x.age)) (hm : ∀ k, pbB bb ab mb vs vf v0 v1 k → k < m)
    (W : World) (hmW : m ≤ W.heap.size) (hB : BookAt W bb ab mb nn vs vf v0 v1 rs fr S) (hbb : W.heap[Bb]? = some (.cells #[.pointer (some ⟨bb, 0, none⟩)] 39 (0, 0))) (hbs : W.cell? ⟨Bs, 0, none⟩ = some (.int .i64 s))
    (hJ : AbidesFrom W.heap.size J)
    (hY : ∀ pre x W, J pre W → pre.length < (S s).length → YieldAt Fence.wide (n - 1) Try.prog l #[Ord.agg x] W fun e W' =>
      (e = .returned (.bool true) ∧ J (pre ++ [x]) W' ∧ KpL m Bb W W') ∨ (e = .returned (.bool false) ∧ Jx (pre ++ [x]) W'))
    (h0 : J [] W) :
    CallsIn Fence.wide n Try.prog 50 #[.func (.yield l) #[] #[], .pointer (some ⟨Bb, 0, none⟩), .pointer (some ⟨Bs, 0, none⟩)] W fun e W' => (∃ v, e = .returned v) ∧
      ((∃ ys, ys = (S s).map Ly.o ∧ J ys W') ∨ (∃ pre, pre <+: (S s).map Ly.o ∧ Jx pre W')) := by
  obtain ⟨hrow, hc, _⟩ := hB.row hs
  have HBK : Hid (BookAt W bb ab mb nn vs vf v0 v1 rs fr S) := hB
  have HM : Hid (∀ k, pbB bb ab mb vs vf v0 v1 k → k < m) := hm
  have HTH : Hid (∀ x ∈ S s, soAt rs x.slot = (some x.o, x.age)) := hth
  have HJ : Hid (AbidesFrom W.heap.size J) := hJ
  have HY : Hid _ := hY
  have HBB : Hid (W.heap[Bb]? = some (.cells #[.pointer (some ⟨bb, 0, none⟩)] 39 (0, 0))) := hbb
  have cb := blk_cell (j := 0) hbb rfl
  have HROW : Hid _ := hrow
  obtain ⟨ao, cap, hv, _, _⟩ := owns_shape hrow
  rw [hv] at hc HROW
  have q1 : (0 : Int) ≤ (s : Int) := by omega
  have q2 : (s : Int) < 2 := by omega
  clear hB hm hth hJ hY hbb hrow
  refine callsIn_of_wp Try.func50 rfl trivial ?_ rfl
  simp only [Try.ntmps50, List.size_toArray, List.length_cons, List.length_nil, Nat.reduceAdd, Nat.reduceSub, Array.replicate_succ, Array.replicate_zero, List.push_toArray, List.append_toArray, List.nil_append, List.cons_append]
  gi_wp2_with fail
  refine wpIn_wide.2 ?_
  go_quiet (fail)
  have HJ0 : Hid (J ((([] : List Ly)).map Ly.o) (W.drewN nq)) := HJ.out [] W _ none h0 (grown_of_below (below_drewN (Below.refl _ _) nq)) (fun r e => by cases e)
  have HK0 : Hid (KpL m Bb W (W.drewN nq)) := KpL.of_below (below_drewN (Below.refl _ _) nq) hmW
  generalize W.drewN nq = Wd at HJ0 HK0 ⊢
  clear h0 hbs hc cb
  gi_wp2_with fail
  gi_loopw [15] (fun i wr => ∃ k : Nat, k ≤ (S s).length ∧ i = .int .i64 k ∧ J (((S s).take k).map Ly.o) wr ∧ KpL m Bb W wr)
    (fun i _ => (S s).length - (intOf i).toNat)
  case atStart => exact ⟨0, Nat.zero_le _, rfl, HJ0.out, HK0.out⟩
  case round =>
    obtain ⟨k, hk, rfl, hJs, hkp⟩ := hrel
    have HJS : Hid (J (((S s).take k).map Ly.o) wr) := hJs
    have HKP : Hid (KpL m Bb W wr) := hkp
    have hmr : m ≤ wr.heap.size := Nat.le_trans hmW hkp.below.size
    clear hJs hkp
    by_cases hlt : k < (S s).length
    · have HBR : Hid (BookAt wr bb ab mb nn vs vf v0 v1 rs fr S) := HBK.out.above HKP.out.below HM.out
      have hrr := (HBR.out.row hs).1
      rw [hv] at hrr
      obtain ⟨g, cap', hv', _, _⟩ := hrr.form (by omega)
      simp only [Value.slice.injEq, true_and] at hv'
      obtain ⟨rfl, rfl⟩ := hv'
      have c0 := (hrr.cellAt (k * 2) (by omega)).trans (hV_at hlt).1
      have c1 := (hrr.cellAt (k * 2 + 1) (by omega)).trans (hV_at hlt).2
      have hth := HTH.out _ (lyAt_mem hlt)
      have HO : Hid _ := hth
      generalize hx : lyAt (S s) k = x at c0 c1 hth HO
      have HX : Hid (lyAt (S s) k = x) := hx
      clear hrr hx hth
      gi_wp2_with fail
      refine wpIn_wide.2 ?_
      have hbh := bel1 wr (.cells #[.int .i64 x.slot, .int .i64 x.age] 76)
      have hhh := heap_alloc_new wr (.cells #[.int .i64 x.slot, .int .i64 x.age] 76)
      generalize wr.alloc (.cells #[.int .i64 x.slot, .int .i64 x.age] 76) = wh at hbh hhh ⊢
      generalize wr.heap.size = hb0 at hhh ⊢
      have HBH : Hid (Below wr.heap.size wr wh) := hbh
      have HBW : Hid (BookAt wh bb ab mb nn vs vf v0 v1 rs fr S) := HBR.out.below hbh (Nat.le_refl _)
      have hBb := blk_below (HKP.out.box _ _ HBB.out) hbh (Nat.le_refl _)
      have e0 : wh.cell? ⟨Bb, 0, none⟩ = some (.pointer (some ⟨bb, 0, none⟩)) := blk_cell (j := 0) hBb rfl
      have e1 : wh.cell? ⟨bb, 0, none⟩ = some (.pointer (some ⟨ab, 0, none⟩)) := blk_cell (j := 0) HBW.out.box rfl
      have e2 : wh.cell? ⟨hb0, 0, none⟩ = some (.int .i64 x.slot) := blk_cell (j := 0) hhh rfl
      have e3 : wh.cell? ⟨hb0, 1, none⟩ = some (.int .i64 x.age) := blk_cell (j := 1) hhh rfl
      have HS : Hid (∀ w', Below wh.heap.size wh w' → (w'.cell? ⟨Bb, 0, none⟩ = some (.pointer (some ⟨bb, 0, none⟩)) ∧ w'.cell? ⟨bb, 0, none⟩ = some (.pointer (some ⟨ab, 0, none⟩)) ∧ w'.cell? ⟨hb0, 0, none⟩ = some (.int .i64 x.slot) ∧ w'.cell? ⟨hb0, 1, none⟩ = some (.int .i64 x.age) ∧ Below wh.heap.size wh w')) :=
        fun w' h => ⟨cell_later h e0, cell_later h e1, cell_later h e2, cell_later h e3, h⟩
      clear hbh hhh hBb e0 e1 e2 e3 c0 c1
      have hs0 := HS.out wh (Below.refl _ _)
      go_region_held3 (fun w' => w'.cell? ⟨Bb, 0, none⟩ = some (.pointer (some ⟨bb, 0, none⟩)) ∧ w'.cell? ⟨bb, 0, none⟩ = some (.pointer (some ⟨ab, 0, none⟩)) ∧ w'.cell? ⟨hb0, 0, none⟩ = some (.int .i64 x.slot) ∧ w'.cell? ⟨hb0, 1, none⟩ = some (.int .i64 x.age) ∧ Below wh.heap.size wh w')
        ((refine HS.out _ ?_; (repeat' first | assumption | exact Below.refl _ _ | exact Nat.le_refl _ | refine Below.drew ?_ | refine Below.alloc ?_ ?_ _ | refine bel_then ?_ hb1 | refine Below.setCell ?_ ?_ _ | (simp; done) | (simp; omega) | (have h9 := hb1.size; simp at h9 ⊢; omega))))
        (first | (go_at_call 51; refine (oaGet ab 100 vs vf rs fr x.slot x.o x.age _ (HBW.out.ar.below (B := wh.heap.size) ?_ (Nat.le_refl _)) HO.out).mono ?_; (repeat' first | assumption | exact Below.refl _ _ | exact Nat.le_refl _ | refine Below.drew ?_ | refine Below.alloc ?_ ?_ _ | refine bel_then ?_ hb1 | refine Below.setCell ?_ ?_ _ | (simp; done) | (simp; omega) | (have h9 := hb1.size; simp at h9 ⊢; omega)); rintro e w1 ⟨hb1, rfl⟩; unfold Ord.agg; try (have hxb := (hb1.block wh.heap.size (by simp)).trans (heap_alloc_new wh _); have y0 := blk_cell (j := 0) hxb rfl; have y1 := blk_cell (j := 1) hxb rfl; have y2 := blk_cell (j := 2) hxb rfl; have y3 := blk_cell (j := 3) hxb rfl; have y4 := blk_cell (j := 4) hxb rfl; have z0 := blk_free (j := 0) hxb; have z1 := blk_free (j := 1) hxb; have z2 := blk_free (j := 2) hxb; have z3 := blk_free (j := 3) hxb; have z4 := blk_free (j := 4) hxb)))
      rotate_right
      · have hz := blk_set (j := 4) (.int .i64 x.o.qty) (blk_set (j := 3) (.int .i64 x.o.price) (blk_set (j := 2) (.int .i64 x.o.kind) (blk_set (j := 1) (.int .i64 x.o.side) (blk_set (j := 0) (.int .i64 x.o.id) hxb))))
        replace hz : (((((w1.setCell ⟨wh.heap.size, 0, none⟩ (.int .i64 x.o.id)).setCell ⟨wh.heap.size, 1, none⟩ (.int .i64 x.o.side)).setCell ⟨wh.heap.size, 2, none⟩ (.int .i64 x.o.kind)).setCell ⟨wh.heap.size, 3, none⟩ (.int .i64 x.o.price)).setCell ⟨wh.heap.size, 4, none⟩ (.int .i64 x.o.qty)).heap[wh.heap.size]? = some (.cells #[.int .i64 x.o.id, .int .i64 x.o.side, .int .i64 x.o.kind, .int .i64 x.o.price, .int .i64 x.o.qty] 43 (0, 0)) := hz
        have hbz : Below wr.heap.size wr (((((w1.setCell ⟨wh.heap.size, 0, none⟩ (.int .i64 x.o.id)).setCell ⟨wh.heap.size, 1, none⟩ (.int .i64 x.o.side)).setCell ⟨wh.heap.size, 2, none⟩ (.int .i64 x.o.kind)).setCell ⟨wh.heap.size, 3, none⟩ (.int .i64 x.o.price)).setCell ⟨wh.heap.size, 4, none⟩ (.int .i64 x.o.qty)) := by
          refine bel_then HBH.out ?_
          have h9 := hb1.size
          have h8 : Below wh.heap.size wh w1 := bel_then (bel1 wh _).drew hb1
          exact ((((h8.setCell (p := ⟨wh.heap.size, 0, none⟩) (Nat.le_refl _) _).setCell (p := ⟨wh.heap.size, 1, none⟩) (Nat.le_refl _) _).setCell (p := ⟨wh.heap.size, 2, none⟩) (Nat.le_refl _) _).setCell (p := ⟨wh.heap.size, 3, none⟩) (Nat.le_refl _) _).setCell (p := ⟨wh.heap.size, 4, none⟩) (Nat.le_refl _) _
        generalize ((((w1.setCell ⟨wh.heap.size, 0, none⟩ (.int .i64 x.o.id)).setCell ⟨wh.heap.size, 1, none⟩ (.int .i64 x.o.side)).setCell ⟨wh.heap.size, 2, none⟩ (.int .i64 x.o.kind)).setCell ⟨wh.heap.size, 3, none⟩ (.int .i64 x.o.price)).setCell ⟨wh.heap.size, 4, none⟩ (.int .i64 x.o.qty) = wz at hz hbz ⊢
        generalize wh.heap.size = xb at hz ⊢
        have x0 := blk_cell (j := 0) hz rfl
        have x1 := blk_cell (j := 1) hz rfl
        have x2 := blk_cell (j := 2) hz rfl
        have x3 := blk_cell (j := 3) hz rfl
        have x4 := blk_cell (j := 4) hz rfl
        obtain ⟨fn, tmps, assign, body, hy, hR⟩ := HY.out _ x.o wz (HJ.out _ wr wz none HJS.out (grown_of_below hbz) (fun r e => by cases e)) (by simp; omega)
        unfold Ord.agg at hy
        have HBZ : Hid (Below wr.heap.size wr wz) := hbz
        clear hbz hz hs0
        gi_wp2
        refine hR.mono ?_
        rintro e W3 (⟨rfl, hJ3, hk3⟩ | ⟨rfl, hJx3⟩)
        · have HJ3 : Hid _ := hJ3
          have HK3 : Hid _ := hk3
          clear hJ3 hk3 hy hR x0 x1 x2 x3 x4
          gi_wp2
          go_roundw
          case rel => exact ⟨k + 1, by omega, by simp, by rw [take_snoc hlt, HX.out]; exact HJ3.out, (HKP.out.trans (KpL.of_below HBZ.out hmr)).trans HK3.out⟩
          case measure => simp [intOf]; omega
        · have HJ3 : Hid _ := hJx3
          clear hJx3 hy hR x0 x1 x2 x3 x4
          gi_wp2
          refine bodyPost_ret (results_none rfl _ _ _) rfl ?_
          refine ⟨⟨_, rfl⟩, .inr ⟨_, ?_, HJ3.out⟩⟩
          rw [← HX.out, ← take_snoc hlt]
          exact (List.take_prefix _ _).map _
      · have hz := heap_alloc_new w1 (.cells #[.int .i64 x.o.id, .int .i64 x.o.side, .int .i64 x.o.kind, .int .i64 x.o.price, .int .i64 x.o.qty] 43)
        have hbz : Below wr.heap.size wr (w1.alloc (.cells #[.int .i64 x.o.id, .int .i64 x.o.side, .int .i64 x.o.kind, .int .i64 x.o.price, .int .i64 x.o.qty] 43)) := bel_then HBH.out (bel_then (w1 := w1) (bel_then (w := wh) (w1 := wh.drew) (Below.refl _ _).drew hb1) (bel1 _ _))
        generalize w1.alloc (.cells #[.int .i64 x.o.id, .int .i64 x.o.side, .int .i64 x.o.kind, .int .i64 x.o.price, .int .i64 x.o.qty] 43) = wz at hz hbz ⊢
        generalize w1.heap.size = xb at hz ⊢
        have x0 := blk_cell (j := 0) hz rfl
        have x1 := blk_cell (j := 1) hz rfl
        have x2 := blk_cell (j := 2) hz rfl
        have x3 := blk_cell (j := 3) hz rfl
        have x4 := blk_cell (j := 4) hz rfl
        obtain ⟨fn, tmps, assign, body, hy, hR⟩ := HY.out _ x.o wz (HJ.out _ wr wz none HJS.out (grown_of_below hbz) (fun r e => by cases e)) (by simp; omega)
        unfold Ord.agg at hy
        have HBZ : Hid (Below wr.heap.size wr wz) := hbz
        clear hbz hz hs0
        gi_wp2
        refine hR.mono ?_
        rintro e W3 (⟨rfl, hJ3, hk3⟩ | ⟨rfl, hJx3⟩)
        · have HJ3 : Hid _ := hJ3
          have HK3 : Hid _ := hk3
          clear hJ3 hk3 hy hR x0 x1 x2 x3 x4
          gi_wp2
          go_roundw
          case rel => exact ⟨k + 1, by omega, by simp, by rw [take_snoc hlt, HX.out]; exact HJ3.out, (HKP.out.trans (KpL.of_below HBZ.out hmr)).trans HK3.out⟩
          case measure => simp [intOf]; omega
        · have HJ3 : Hid _ := hJx3
          clear hJx3 hy hR x0 x1 x2 x3 x4
          gi_wp2
          refine bodyPost_ret (results_none rfl _ _ _) rfl ?_
          refine ⟨⟨_, rfl⟩, .inr ⟨_, ?_, HJ3.out⟩⟩
          rw [← HX.out, ← take_snoc hlt]
          exact (List.take_prefix _ _).map _
    · obtain rfl : k = (S s).length := by omega
      gi_wp2_with fail
      go_end0
      refine ⟨⟨_, rfl⟩, .inl ⟨_, rfl, ?_⟩⟩
      have := HJS.out
      rwa [List.take_length] at this

/-- **the iterator that lying hands back** -/
theorem lySeq (n : Nat) (hn : 1 ≤ n) (Bb Bs m bb ab mb nn s : Nat) (vs vf v0 v1 : Value) (rs : List Sot) (fr : List Nat) (S : Nat → List Ly) (hs : s < 2) (hlen : (S s).length ≤ 1000)
    (hth : ∀ x ∈ S s, soAt rs x.slot = (some x.o, x.age)) (hm : ∀ k, pbB bb ab mb vs vf v0 v1 k → k < m)
    (w : World) (hmW : m ≤ w.heap.size) (hB : BookAt w bb ab mb nn vs vf v0 v1 rs fr S) (hbb : w.heap[Bb]? = some (.cells #[.pointer (some ⟨bb, 0, none⟩)] 39 (0, 0))) (hbs : w.heap[Bs]? = some (.cells #[.int .i64 s] 3 (0, 0))) :
    SeqStopsK Fence.wide n Try.prog 50 #[.pointer (some ⟨Bb, 0, none⟩), .pointer (some ⟨Bs, 0, none⟩)] (fun x : Ord => #[Ord.agg x]) (KpL m Bb) (fun ys => ys = (S s).map Ly.o) (fun pre => pre <+: (S s).map Ly.o) (S s).length w :=
  fun l J Jx W hW hJ _ hY h0 => lyIt n hn l Bb Bs m bb ab mb nn s vs vf v0 v1 rs fr S J Jx hs hlen hth hm W (Nat.le_trans hmW hW.size) (hB.below hW (Nat.le_refl _)) (blk_below hbb hW (Nat.le_refl _)) (blk_cell (j := 0) (blk_below hbs hW (Nat.le_refl _)) rfl) hJ hY h0

set_option maxHeartbeats 1000000 in
theorem lying_any (bb : Nat) (s : Int) (w : World) : Calls Try.prog 38 #[.pointer (some ⟨bb, 0, none⟩), .int .i64 s] w fun e w' => e = .returned (.func (.func 50) #[] #[.pointer (some ⟨w.heap.size, 0, none⟩), .pointer (some ⟨w.heap.size + 1, 0, none⟩)])
    ∧ w' = (w.alloc (.cells #[.pointer (some ⟨bb, 0, none⟩)] 39)).alloc (.cells #[.int .i64 s] 3) := by
  go_enter Try.func38, Try.ntmps38
  go_wp2
  go_ret
  exact ⟨rfl, rfl⟩
set_option maxHeartbeats 1000000 in
theorem isSide_any (s : Int) (w : World) : Calls Try.prog 32 #[.int .i64 s] w fun e w' => e = .returned (.bool (s == 1 || s == 2)) ∧ w' = w := by
  cases h1 : (s == 1) with
  | true =>
    go_enter Try.func32, Try.ntmps32
    go_wp2
    go_ret
    exact ⟨rfl, rfl⟩
  | false =>
    cases h2 : (s == 2) with
    | true =>
      go_enter Try.func32, Try.ntmps32
      go_wp2
      go_ret
      exact ⟨rfl, rfl⟩
    | false =>
      go_enter Try.func32, Try.ntmps32
      go_wp2
      go_ret
      exact ⟨rfl, rfl⟩
end Go.Proofs.Ytcpijeehgdbjbaa
