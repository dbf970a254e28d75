/-
  What the program's Best answers, over this seat's translation. Conditions stand in each theorem.
-/
import Derived.Test.YtjdkagafdnchhaaGreatDoorLE
import Derived.Test.YtjdkagafdnchhaaGreatDoorLB
import Derived.Deep.RegionWith
import Derived.Test.YtjdkagafdnchhaaGreatDoorLA
namespace Go.Proofs.YtjdkagafdnchhaaGreatDoor
open Go.RowKit Go.Shelf

attribute [local go_sem] Oper.semAt_some

/-- what Best answers on a side that lies so -/
def bestV (l : List Ord) : Value := match l with
  | [] => .tuple #[Ord.none_.agg, .iface 32 (.int .i64 8)]
  | o :: _ => .tuple #[o.agg, .nilIface]

theorem lt_of_some {w : World} {k : Nat} {o : Obj} (h : w.heap[k]? = some o) : k < w.heap.size := (Array.getElem?_eq_some_iff.1 h).1
/-- Best's end: its results lie in cells, its loop's own block is put away -/
theorem best_end {w W : World} {D : Nat} {x : Ord} {e : Value} {tm : Array Value} (h2 : OrdAt W w.heap.size x) (h3 : W.heap[w.heap.size + 1]? = some (.cells #[e] 28 (0, 0))) (hK : W.heap[D]? = some (.deferred (some []))) (hBW : Below w.heap.size w W) (hD : w.heap.size + 2 ≤ D)
    (t4 : tm.getD 4 undef = .pointer (some ⟨w.heap.size, 0, none⟩) := by rfl) (t5 : tm.getD 5 undef = .pointer (some ⟨w.heap.size + 1, 0, none⟩) := by rfl) :
    bodyPostM Fence.wide 4 Tryz.prog Tryz.f195 (fun e' W' => e' = .returned (.tuple #[x.agg, e]) ∧ Below w.heap.size w W') Exit.ret { tmps := tm, defers := [{ target := Target.collected D, args := #[] }] } W := by
  have hb := belowK_b (n₀ := w.heap.size) (w := w) (Nat.le_refl _) W D _ (.deferred none) (by omega) hK rfl rfl
  have hb2 := belowK_b (n₀ := w.heap.size + 2) (w := (w.alloc (.deferred none)).alloc (.deferred none)) (by simp) W D _ (.deferred none) (by simp; omega) hK rfl rfl
  have q2 : OrdAt (W.putObj D (.deferred none)) w.heap.size x := (hb2.block w.heap.size (by omega)).trans h2
  have q3 : (W.putObj D (.deferred none)).heap[w.heap.size + 1]? = some (.cells #[e] 28 (0, 0)) := (hb2.block (w.heap.size + 1) (by omega)).trans h3
  have t4' : tm[4]?.getD undef = .pointer (some ⟨w.heap.size, 0, none⟩) := by simpa using t4
  have t5' : tm[5]?.getD undef = .pointer (some ⟨w.heap.size + 1, 0, none⟩) := by simpa using t5
  have a0 := blk_cell (j := 0) q2 rfl
  have a1 := blk_cell (j := 1) q2 rfl
  have a2 := blk_cell (j := 2) q2 rfl
  have a3 := blk_cell (j := 3) q2 rfl
  have a4 := blk_cell (j := 4) q2 rfl
  have b0 := blk_cell (j := 0) q3 rfl
  refine ⟨by simp, .inl ⟨_, _, rfl, run_takeDeferred hK, ?_⟩⟩
  refine ⟨.tuple #[x.agg, e], ?_, rfl, hBW.trans hb⟩
  unfold Ord.agg
  simp [results, Tryz.results195, go_sem, t4', t5', a0, a1, a2, a3, a4, b0]
  try rfl

set_option maxRecDepth 100000 in
set_option maxHeartbeats 2000000 in
theorem best_any (bb ab mb nn s : Nat) (vs vf v0 v1 : Value) (rs : List Sot) (fr : List Nat) (S : Nat → List Ly) (hs : s < 2) (hlen : (S s).length ≤ 1000)
    (hth : ∀ x ∈ S s, soAt rs x.slot = (some x.o, x.age)) (w : World) (hB : BookAt w bb ab mb nn vs vf v0 v1 rs fr S) (side : Int) (hsd : side = (s : Int) + 1) :
    Calls Tryz.prog 195 #[.pointer (some ⟨bb, 0, none⟩), .int .i64 side] w fun e W' => e = .returned (bestV ((S s).map Ly.o)) ∧ Below w.heap.size w W' := by
  have hss : (side == 1 || side == 2) = true := by
    subst hsd
    match s, hs with
    | 0, _ => rfl
    | 1, _ => rfl
  have HS : Hid ((side == 1 || side == 2) = true) := hss
  have hsub : IntKind.i64.wrap (side - 1) = (s : Int) := by rw [hsd, show (s : Int) + 1 - 1 = s by omega]; exact IntWalk.i64_in _ (by omega)
  clear hss hsd
  refine (callsIn_wide (n := 4)).1 ?_
  refine callsIn_of_wp_marks Tryz.func195 rfl trivial ?_ rfl
  simp only [Tryz.ntmps195, List.size_toArray, List.length_cons, List.length_nil, Nat.reduceAdd, Nat.reduceSub, Array.replicate_succ, Array.replicate_zero, List.push_toArray, List.append_toArray, List.nil_append, List.cons_append]
  gi_wp2_with fail
  refine ⟨trivial, (callsIn_wide.2 (isSide_any side _)).mono ?_⟩
  rintro e w' ⟨rfl, hw⟩
  replace hw := hw.symm
  subst hw
  rw [HS.out]
  gi_wp2_with fail
  refine ⟨trivial, (callsIn_wide.2 (lying_any bb _ _)).mono ?_⟩
  rintro e w' ⟨rfl, rfl⟩
  gi_wp2_with fail
  have hB1 := bel2 w (.cells #[.int .i64 0, .int .i64 0, .int .i64 0, .int .i64 0, .int .i64 0] 41) (.cells #[.nilIface] 28)
  have bO := two_old w (.cells #[.int .i64 0, .int .i64 0, .int .i64 0, .int .i64 0, .int .i64 0] 41) (.cells #[.nilIface] 28)
  have bN := two_new w (.cells #[.int .i64 0, .int .i64 0, .int .i64 0, .int .i64 0, .int .i64 0] 41) (.cells #[.nilIface] 28)
  obtain ⟨w2, hw2⟩ : ∃ w2, (w.alloc (.cells #[.int .i64 0, .int .i64 0, .int .i64 0, .int .i64 0, .int .i64 0] 41)).alloc (.cells #[.nilIface] 28) = w2 := ⟨_, rfl⟩
  have hz2 : w2.heap.size = w.heap.size + 1 + 1 := by rw [← hw2]; simp
  rw [hw2] at hB1 bO bN ⊢
  clear hw2
  have hB2 := bel2 w2 (.cells #[.pointer (some ⟨bb, 0, none⟩)] 94) (.cells #[.int .i64 s] 3)
  have bB := two_old w2 (.cells #[.pointer (some ⟨bb, 0, none⟩)] 94) (.cells #[.int .i64 s] 3)
  have bS := two_new w2 (.cells #[.pointer (some ⟨bb, 0, none⟩)] 94) (.cells #[.int .i64 s] 3)
  obtain ⟨W0, hW0⟩ : ∃ W0, (w2.alloc (.cells #[.pointer (some ⟨bb, 0, none⟩)] 94)).alloc (.cells #[.int .i64 s] 3) = W0 := ⟨_, rfl⟩
  have hsz : W0.heap.size = w.heap.size + 4 := by rw [← hW0]; simp; omega
  rw [hW0] at hB2 bB bS ⊢
  clear hW0
  have bO := blk_below bO hB2 (Nat.le_refl _)
  have bN := blk_below bN hB2 (Nat.le_refl _)
  have hB0 : Below w.heap.size w W0 := bel_then hB1 hB2
  rw [hz2] at bB bS
  have HK : ∀ k, pbB bb ab mb vs vf v0 v1 k → k < w.heap.size := fun k hk => hB.lt hk
  clear hB1 hB2
  refine wpIn_rangeFunc_ownH (F := Fence.wide) (n := 4) rfl (by decide) (gf := 162) (lb := #[.pointer (some ⟨w.heap.size + 1 + 1, 0, none⟩), .pointer (some ⟨w.heap.size + 1 + 1 + 1, 0, none⟩)]) rfl trivial (enters_of Tryz.func162 (by kernel_rfl) rfl)
    (lySeq 3 (by decide) (w.heap.size + 1 + 1) (w.heap.size + 1 + 1 + 1) w.heap.size bb ab mb nn s vs vf v0 v1 rs fr S hs hlen hth HK W0 (by omega) (hB.below hB0 (Nat.le_refl _)) bB bS) kpl_t (kpl_b (by omega)) (Below.refl _ _) (fun _ => rfl)
    (fun pre W => (pre = [] ∧ OrdAt W w.heap.size Ord.none_ ∧ W.heap[w.heap.size + 1]? = some (.cells #[.nilIface] 28 (0, 0))) ∧ Below w.heap.size w W)
    (fun c pre W => (c = .ret ∧ ∃ x, pre = [x] ∧ OrdAt W w.heap.size x ∧ W.heap[w.heap.size + 1]? = some (.cells #[.nilIface] 28 (0, 0))) ∧ Below w.heap.size w W)
    (OwnFrom.and (Own.from (fun s A B row hs hg hr => ⟨hs.1, blk_kept hs.2.1 hg hr, blk_kept hs.2.2 hg hr⟩) _) (ownFrom_below (Nat.le_refl _) (by omega)))
    (fun c => OwnFrom.and (Own.from (fun s A B row hs hg hr => by obtain ⟨g0, x, g1, g2, g3⟩ := hs; exact ⟨g0, x, g1, blk_kept g2 hg hr, blk_kept g3 hg hr⟩) _) (ownFrom_below (Nat.le_refl _) (by omega)))
    ⟨⟨rfl, bO, bN⟩, hB0⟩
    (fun x a' W => ∃ Bx, OrdAt W Bx x ∧ a' = { tmps := #[.pointer (some ⟨bb, 0, none⟩), .int .i64 side, undef, undef, .pointer (some ⟨w.heap.size, 0, none⟩), .pointer (some ⟨w.heap.size + 1, 0, none⟩), .pointer (some ⟨Bx, 0, none⟩), .int .i64 side, .bool true, .bool false, undef, undef, .pointer (some ⟨bb, 0, none⟩), .int .i64 side, .int .i64 s, .func (.func 162) #[] #[.pointer (some ⟨w.heap.size + 1 + 1, 0, none⟩), .pointer (some ⟨w.heap.size + 1 + 1 + 1, 0, none⟩)], Ord.agg x, undef, undef, undef], defers := [] })
    (fun x a' _ X Y row hs hg hr => by obtain ⟨Bx, h2, h3⟩ := hs; exact ⟨Bx, blk_kept h2 hg (fun r e => (hr r e).2), h3⟩)
    ?assign ?body ?done ?stop
  case assign =>
    rintro l pre x W K ⟨⟨h1, h2, h3⟩, hBW⟩ hK
    have lS := hBW.size
    unfold Ord.agg at hK ⊢
    gi_wp2
    refine hK _ _ ((KeepsOthers.alloc _ _).from _) (KpL.of_below (bel1 _ _) lS) ⟨⟨h1, blk_below h2 (bel1 _ _) (Nat.le_refl _), blk_below h3 (bel1 _ _) (Nat.le_refl _)⟩, hBW.alloc hBW.size _⟩ ⟨W.heap.size, heap_alloc_new _ _, rfl⟩
  case body =>
    rintro l pre x a' W hl ⟨r, hr⟩ ⟨⟨rfl, h2, h3⟩, hBW⟩ ⟨Bx, bX, rfl⟩ hlt
    have c0 := blk_cell (j := 0) bX rfl
    have c1 := blk_cell (j := 1) bX rfl
    have c2 := blk_cell (j := 2) bX rfl
    have c3 := blk_cell (j := 3) bX rfl
    have c4 := blk_cell (j := 4) bX rfl
    have d0 := blk_free (j := 0) h2
    have d1 := blk_free (j := 1) h2
    have d2 := blk_free (j := 2) h2
    have d3 := blk_free (j := 3) h2
    have d4 := blk_free (j := 4) h2
    have e0 := blk_free (j := 0) h3
    have E0 := blk_cell (j := 0) h3 rfl
    have D0 := blk_cell (j := 0) h2 rfl
    have D1 := blk_cell (j := 1) h2 rfl
    have D2 := blk_cell (j := 2) h2 rfl
    have D3 := blk_cell (j := 3) h2 rfl
    have D4 := blk_cell (j := 4) h2 rfl
    have H2 : Hid _ := h2
    have H3 : Hid _ := h3
    have HBW : Hid (Below w.heap.size w W) := hBW
    clear h2 h3 hBW bX hr
    unfold Ord.agg
    gi_wp2_with fail
    have o5 : Out (fun j => j = w.heap.size) W _ := out_setIn (p := ⟨w.heap.size, 4, none⟩) (u := .int .i64 x.qty) (out_setIn (p := ⟨w.heap.size, 3, none⟩) (u := .int .i64 x.price) (out_setIn (p := ⟨w.heap.size, 2, none⟩) (u := .int .i64 x.kind) (out_setIn (p := ⟨w.heap.size, 1, none⟩) (u := .int .i64 x.side) (out_setIn (p := ⟨w.heap.size, 0, none⟩) (u := .int .i64 x.id) (Out.refl _ _) rfl) rfl) rfl) rfl) rfl
    have g2 := blk_set (j := 4) (.int .i64 x.qty) (blk_set (j := 3) (.int .i64 x.price) (blk_set (j := 2) (.int .i64 x.kind) (blk_set (j := 1) (.int .i64 x.side) (blk_set (j := 0) (.int .i64 x.id) H2.out))))
    have g3 := blk_set (j := 0) .nilIface (blk_out H3.out o5 (by simp))
    refine ⟨((((((KeepsOthers.setCell _ _ _).trans (KeepsOthers.setCell _ _ _)).trans (KeepsOthers.setCell _ _ _)).trans (KeepsOthers.setCell _ _ _)).trans (KeepsOthers.setCell _ _ _)).trans (KeepsOthers.setCell _ _ _)).from _, ⟨rfl, x, rfl, blk_out g2 (out_set _ ⟨w.heap.size + 1, 0, none⟩ _) (by simp), g3⟩, ?_⟩
    exact HBW.out.trans (((((((Below.refl _ W).setCell (p := ⟨w.heap.size, 0, none⟩) (by simp) _).setCell (p := ⟨w.heap.size, 1, none⟩) (by simp) _).setCell (p := ⟨w.heap.size, 2, none⟩) (by simp) _).setCell (p := ⟨w.heap.size, 3, none⟩) (by simp) _).setCell (p := ⟨w.heap.size, 4, none⟩) (by simp) _).setCell (p := ⟨w.heap.size + 1, 0, none⟩) (by simp) _)
  case done =>
    rintro D ys W hD rfl ⟨⟨h1, h2, h3⟩, hBW⟩ hK
    have d0 := blk_free (j := 0) h2
    have d1 := blk_free (j := 1) h2
    have d2 := blk_free (j := 2) h2
    have d3 := blk_free (j := 3) h2
    have d4 := blk_free (j := 4) h2
    have e0 := blk_free (j := 0) h3
    have E0 := blk_cell (j := 0) h3 rfl
    have D0 := blk_cell (j := 0) h2 rfl
    have D1 := blk_cell (j := 1) h2 rfl
    have D2 := blk_cell (j := 2) h2 rfl
    have D3 := blk_cell (j := 3) h2 rfl
    have D4 := blk_cell (j := 4) h2 rfl
    gi_wp2
    have o5 : Out (fun j => j = w.heap.size) W _ := out_setIn (p := ⟨w.heap.size, 4, none⟩) (u := .int .i64 0) (out_setIn (p := ⟨w.heap.size, 3, none⟩) (u := .int .i64 0) (out_setIn (p := ⟨w.heap.size, 2, none⟩) (u := .int .i64 0) (out_setIn (p := ⟨w.heap.size, 1, none⟩) (u := .int .i64 0) (out_setIn (p := ⟨w.heap.size, 0, none⟩) (u := .int .i64 0) (Out.refl _ _) rfl) rfl) rfl) rfl) rfl
    have g2 := blk_set (j := 4) (.int .i64 0) (blk_set (j := 3) (.int .i64 0) (blk_set (j := 2) (.int .i64 0) (blk_set (j := 1) (.int .i64 0) (blk_set (j := 0) (.int .i64 0) h2))))
    have g2 := blk_out g2 (out_set _ ⟨w.heap.size + 1, 0, none⟩ (.iface 32 (.int .i64 8))) (by simp)
    have g3 := blk_set (j := 0) (.iface 32 (.int .i64 8)) (blk_out h3 o5 (by simp))
    have hbw := hBW.trans (((((((Below.refl _ W).setCell (p := ⟨w.heap.size, 0, none⟩) (by simp) (.int .i64 0)).setCell (p := ⟨w.heap.size, 1, none⟩) (by simp) (.int .i64 0)).setCell (p := ⟨w.heap.size, 2, none⟩) (by simp) (.int .i64 0)).setCell (p := ⟨w.heap.size, 3, none⟩) (by simp) (.int .i64 0)).setCell (p := ⟨w.heap.size, 4, none⟩) (by simp) (.int .i64 0)).setCell (p := ⟨w.heap.size + 1, 0, none⟩) (by simp) (.iface 32 (.int .i64 8)))
    have lD : D < W.heap.size := lt_of_some hK
    have hK6 := ((out_set _ ⟨w.heap.size + 1, 0, none⟩ (.iface 32 (.int .i64 8))).block D (Nat.lt_of_lt_of_le lD o5.size) (by show ¬ (D = w.heap.size + 1); omega)).trans ((o5.block D lD (by show ¬ (D = w.heap.size); omega)).trans hK)
    clear o5
    have hbe : bestV ((S s).map Ly.o) = .tuple #[Ord.none_.agg, .iface 32 (.int .i64 8)] := by rw [h1]; rfl
    rw [hbe]
    exact best_end g2 g3 hK6 hbw (by omega)
  case stop =>
    rintro D c pre W hD hpre ⟨⟨rfl, x, rfl, h2, h3⟩, hBW⟩ hK
    have hbe : bestV ((S s).map Ly.o) = .tuple #[x.agg, .nilIface] := by
      obtain ⟨r, hr⟩ := hpre
      rw [← hr]; rfl
    gi_wp2
    rw [hbe]
    exact best_end h2 h3 hK hBW (by omega)

set_option maxRecDepth 100000 in
set_option maxHeartbeats 1000000 in
theorem best_arg (bb : Nat) (w : World) (side : Int) (hss : (side == 1 || side == 2) = false) :
    Calls Tryz.prog 195 #[.pointer (some ⟨bb, 0, none⟩), .int .i64 side] w fun e W' => e = .returned (.tuple #[Ord.none_.agg, .iface 32 (.int .i64 1)]) ∧ Below w.heap.size w W' := by
  have HS : Hid ((side == 1 || side == 2) = false) := hss
  clear hss
  unfold Ord.agg Ord.none_
  go_enter Tryz.func195, Tryz.ntmps195
  go_wp2_with fail
  refine (isSide_any side _).mono ?_
  rintro e w1 ⟨rfl, hw⟩
  replace hw := hw.symm
  subst hw
  rw [HS.out]
  go_wp2_with fail
  refine bodyPost_ret (by simp [results, Tryz.results195, go_sem]; try rfl) rfl ?_
  exact ⟨rfl, bel2 _ _ _⟩

/-- 4.2, Best of a book in memory -/
theorem pbBest (bb m s : Nat) (b : BkS) (w : World) (h : Bk w bb m b) (hs : s < 2) (side : Int) (hsd : side = (s : Int) + 1) :
    Calls Tryz.prog 195 #[.pointer (some ⟨bb, 0, none⟩), .int .i64 side] w fun e W' => e = .returned (bestV ((b.S s).map Ly.o)) ∧ Below w.heap.size w W' :=
  best_any bb b.ab b.mb b.n s b.vs b.vf b.v0 b.v1 b.rs b.fr b.S hs (by have h1 := (pb_len b.S [] hs).2; have h2 := h.ok.most; omega) (h.ok.there s hs) w h.at_ side hsd
/-- 4.2, Side of a book in memory -/
theorem pbSideOf (bb m s : Nat) (b : BkS) (w : World) (h : Bk w bb m b) (hs : s < 2) (side : Int) (hsd : side = (s : Int) + 1) :
    Calls Tryz.prog 69 #[.pointer (some ⟨bb, 0, none⟩), .int .i64 side] w
      fun e W' => ∃ v, e = .returned (.tuple #[v, .nilIface]) ∧ W'.ownsRow w.heap.size 41 5 v (b.S s).length (oV ((b.S s).map Ly.o)) ∧ Below w.heap.size w W' :=
  pbSide bb b.ab b.mb b.n s b.vs b.vf b.v0 b.v1 b.rs b.fr b.S hs (by have h1 := (pb_len b.S [] hs).2; have h2 := h.ok.most; omega) (h.ok.there s hs) w h.at_ side hsd
end Go.Proofs.YtjdkagafdnchhaaGreatDoor

/-
  Who came and went left nothing, over plain lists: sides without the orders that were added behind them. Conditions stand in each theorem.
-/
namespace Go.Proofs.YtjdkagafdnchhaaGreatDoor
open Go.RowKit

def notIn (A : List Int) (y : Ly) : Bool := decide (y.o.id ∉ A)
/-- S' is S and orders of these ids besides -/
structure Kept (S S' : Nat → List Ly) (A : List Int) : Prop where
  same : ∀ s, s < 2 → (S' s).filter (notIn A) = S s
  lie : ∀ i ∈ A, Lies_ S' i
theorem Kept.start (S : Nat → List Ly) : Kept S S [] := ⟨fun s _ => by rw [List.filter_eq_self]; intro y _; simp [notIn], fun i hi => by cases hi⟩
theorem Kept.done {S S' : Nat → List Ly} (h : Kept S S' []) {s : Nat} (hs : s < 2) : S' s = S s := by
  have := h.same s hs
  rwa [List.filter_eq_self.2 (fun y _ => by simp [notIn])] at this
theorem Kept.add {S S' : Nat → List Ly} {A : List Int} {s n : Nat} {x : Ly} (h : Kept S S' A) (hs : s < 2) (hno : ∀ t, t < 2 → ∀ y ∈ S' t, y.o.id ≠ x.o.id) : Kept S (upS S' s (insAt n x (S' s))) (A ++ [x.o.id]) := by
  have hf : ∀ t, t < 2 → ∀ l : List Ly, (∀ y ∈ l, y ∈ S' t) → l.filter (notIn (A ++ [x.o.id])) = l.filter (notIn A) := fun t ht l hl => List.filter_congr fun y hy => by
    have := hno t ht y (hl y hy)
    simp [notIn, this]
  refine ⟨fun t ht => ?_, fun i hi => ?_⟩
  · by_cases e : t = s
    · subst e
      rw [upS_same, ← h.same t ht]
      unfold insAt
      have hx : notIn (A ++ [x.o.id]) x = false := by simp [notIn]
      rw [List.filter_append, List.filter_cons, hx, hf t ht _ (fun y hy => List.mem_of_mem_take hy)]
      simp only [Bool.false_eq_true, if_false]
      rw [hf t ht _ (fun y hy => List.mem_of_mem_drop hy), ← List.filter_append, List.take_append_drop]
    · rw [upS_other _ e, hf t ht _ (fun y hy => hy)]
      exact h.same t ht
  · rcases List.mem_append.1 hi with hi | hi
    · obtain ⟨t, ht, y, hy, he⟩ := h.lie i hi
      exact ⟨t, ht, y, (put_mem t y).2 (Or.inr hy), he⟩
    · simp only [List.mem_singleton] at hi
      exact ⟨s, hs, x, (put_mem s x).2 (Or.inl ⟨rfl, rfl⟩), hi.symm⟩
theorem Kept.gone {S S' : Nat → List Ly} {A A' : List Int} {m s i : Nat} {rs : List Sot} {fr : List Nat} {x : Ly} (h : Kept S S' A) (hp : Pb m rs fr S') (hs : s < 2) (hi : i < (S' s).length) (hx : lyAt (S' s) i = x) (hA : x.o.id ∈ A) (hA' : ∀ j, j ∈ A' ↔ (j ∈ A ∧ j ≠ x.o.id)) :
    Kept S (upS S' s (outAt i (S' s))) A' := by
  have hm := gone_mem hp hs hi hx
  have hf : ∀ t, t < 2 → ∀ y ∈ upS S' s (outAt i (S' s)) t, notIn A' y = notIn A y := fun t ht y hy => by
    have := ((hm t ht y).1 hy).2
    simp [notIn, hA', this]
  refine ⟨fun t ht => ?_, fun j hj => ?_⟩
  · rw [List.filter_congr (hf t ht), ← h.same t ht]
    by_cases e : t = s
    · subst e
      rw [upS_same]
      have h1 : S' t = (S' t).take i ++ x :: (S' t).drop (i + 1) := by rw [← hx, lyAt_eq hi, ← List.drop_eq_getElem_cons hi, List.take_append_drop]
      have hx0 : notIn A x = false := by simp [notIn, hA]
      conv => rhs; rw [h1]
      unfold outAt
      rw [List.filter_append, List.filter_append, List.filter_cons, hx0]
      simp
    · rw [upS_other _ e]
  · obtain ⟨hj1, hj2⟩ := (hA' j).1 hj
    obtain ⟨t, ht, y, hy, he⟩ := h.lie j hj1
    exact ⟨t, ht, y, (hm t ht y).2 ⟨hy, by rw [he]; exact hj2⟩, he⟩
end Go.Proofs.YtjdkagafdnchhaaGreatDoor

/-
  A book of a call's own; what Add and Cancel do to it. Conditions stand in each theorem.
-/
namespace Go.Proofs.YtjdkagafdnchhaaGreatDoor
open Go.RowKit

/-- a book that was made behind w0, and nothing of w0 has changed -/
structure MyBk (w0 w : World) (bb m : Nat) (b : BkS) : Prop where
  bk : Bk w bb m b
  bel : Below w0.heap.size w0 w
  mine : ∀ k, b.foot bb k → w0.heap.size ≤ k
theorem bel_of_out {S : Nat → Prop} {w0 w w' : World} (h : Out S w w') (hS : ∀ k, S k → w0.heap.size ≤ k) (hb : Below w0.heap.size w0 w) : Below w0.heap.size w0 w' :=
  hb.trans ⟨h.os, h.tape, h.output, h.size, fun k hk => h.block k (Nat.lt_of_lt_of_le hk hb.size) (fun e => by have := hS k e; omega)⟩
theorem MyBk.goes {w0 w w' : World} {bb m m' : Nat} {b b' : BkS} (h : MyBk w0 w bb m b) (hg : Goes w w' bb m' b b') : MyBk w0 w' bb m' b' :=
  ⟨hg.1, bel_of_out hg.2.1 h.mine h.bel, fun k hk => (hg.2.2 k hk).elim (h.mine k) (fun e => Nat.le_trans h.bel.size e)⟩
theorem MyBk.below {w0 w w' : World} {bb m : Nat} {b : BkS} (h : MyBk w0 w bb m b) (hb : Below w.heap.size w w') : MyBk w0 w' bb m b :=
  ⟨h.bk.below hb (Nat.le_refl _), bel_then h.bel hb, h.mine⟩
theorem MyBk.start {w0 w' : World} (h : Bk w' (w0.heap.size + 2) 0 (BkS.none_ w0.heap.size)) (hb : Below w0.heap.size w0 w') : MyBk w0 w' (w0.heap.size + 2) 0 (BkS.none_ w0.heap.size) :=
  ⟨h, hb, fun _ hk => new_own w0 hk⟩

/-- Add of an order that may lie -/
theorem pbAdd_yes (bb m : Nat) (b : BkS) (o : Ord) (w : World) (h : Bk w bb m b) (hm : m + 1 ≤ 900000) (hw : (Lit.int .i64 o.id).wf = true) (hs : sideP o.side = true) (hid : ¬ o.id < 1) (hr : rightB (lieP o).price (lieP o).qty = true) (hno : ∀ s, s < 2 → ∀ x ∈ b.S s, x.o.id ≠ o.id) (hc : (b.S 0).length + (b.S 1).length < 100) :
    Calls Tryz.prog 98 #[.pointer (some ⟨bb, 0, none⟩), o.agg] w fun e W' => e = .returned .nilIface ∧ ∃ (b' : BkS) (s k : Nat) (a : Int), s < 2 ∧ o.side = (s : Int) + 1 ∧ b'.S = upS b.S s (insAt (rankN (lieP o) ((b.S s).map Ly.o)) ⟨k, a, lieP o⟩ (b.S s)) ∧ Goes w W' bb (m + 1) b b' := by
  refine (pbAdd bb m b o w h hm hw).mono ?_
  rintro e W' (⟨h1, _⟩ | ⟨_, _, h1, _⟩ | ⟨_, _, _, ⟨s, h2, x, hx, he⟩, _⟩ | ⟨_, _, _, _, h1, _⟩ | ⟨_, _, _, _, _, h1, h2⟩)
  · rcases h1 with h1 | h1
    · rw [hs] at h1; cases h1
    · exact absurd h1 hid
  · rw [hr] at h1; cases h1
  · exact absurd he (hno s h2 x hx)
  · omega
  · exact ⟨h1, h2⟩

/-- Add of any order, over a book of the call's own -/
theorem pbAdd_my {w0 w : World} {bb m : Nat} {b : BkS} (h : MyBk w0 w bb m b) (o : Ord) (hm : m + 1 ≤ 900000) (hw : (Lit.int .i64 o.id).wf = true) :
    Calls Tryz.prog 98 #[.pointer (some ⟨bb, 0, none⟩), o.agg] w fun e W' =>
      (∃ n, e = .returned (.iface 32 (.int .i64 n)) ∧ Goes w W' bb (m + 1) b b ∧ MyBk w0 W' bb (m + 1) b)
      ∨ (e = .returned .nilIface ∧ ∃ (b' : BkS) (s n : Nat) (x : Ly), s < 2 ∧ x.o.id = o.id ∧ (∀ t, t < 2 → ∀ y ∈ b.S t, y.o.id ≠ x.o.id) ∧ b'.S = upS b.S s (insAt n x (b.S s)) ∧ Goes w W' bb (m + 1) b b' ∧ MyBk w0 W' bb (m + 1) b') := by
  refine (pbAdd bb m b o w h.bk hm hw).mono ?_
  rintro e W' (⟨_, rfl, hg⟩ | ⟨_, _, _, rfl, hg⟩ | ⟨_, _, _, _, rfl, hg⟩ | ⟨_, _, _, _, _, rfl, hg⟩ | ⟨_, _, _, hno, _, rfl, b', s, k, a, hs, _, hS, hg⟩)
  · exact Or.inl ⟨1, rfl, hg, h.goes hg⟩
  · exact Or.inl ⟨2, rfl, hg, h.goes hg⟩
  · exact Or.inl ⟨9, rfl, hg, h.goes hg⟩
  · exact Or.inl ⟨12, rfl, hg, h.goes hg⟩
  · exact Or.inr ⟨rfl, b', s, _, ⟨k, a, lieP o⟩, hs, lieP_id o, fun t ht y hy e => hno t ht y hy (by rw [e]; exact lieP_id o), hS, hg, h.goes hg⟩
/-- Cancel of an order that was added behind -/
theorem pbCancel_my {w0 w : World} {bb m : Nat} {b : BkS} {S : Nat → List Ly} {A A' : List Int} {id : Int} (h : MyBk w0 w bb m b) (hk : Kept S b.S A) (hm : m + 1 ≤ 900000) (hid : id ∈ A) (hA' : ∀ j, j ∈ A' ↔ (j ∈ A ∧ j ≠ id)) :
    Calls Tryz.prog 54 #[.pointer (some ⟨bb, 0, none⟩), .int .i64 id] w fun e W' => ∃ (o : Ord) (b' : BkS), e = .returned (.tuple #[o.agg, .nilIface]) ∧ Kept S b'.S A' ∧ Goes w W' bb (m + 1) b b' ∧ MyBk w0 W' bb (m + 1) b' := by
  obtain ⟨s, hs, x, hx, rfl⟩ := hk.lie id hid
  refine (cancel_yes bb m s b x w h.bk hm hs hx).mono ?_
  rintro e W' ⟨rfl, b', ⟨i, hi, hix, hS⟩, hg⟩
  exact ⟨x.o, b', rfl, by rw [hS]; exact hk.gone h.bk.ok hs hi hix hid hA', hg, h.goes hg⟩
/-- since w the book b, now b', has changed, and nothing else that was there -/
def Since (w W : World) (bb : Nat) (b b' : BkS) : Prop := Out (b.foot bb) w W ∧ Went w (b.foot bb) (b'.foot bb)
theorem Since.refl (w : World) (bb : Nat) (b : BkS) : Since w w bb b b := ⟨Out.refl _ _, Went.refl _ _⟩
theorem Since.goes {w W W' : World} {bb m : Nat} {b b1 b2 : BkS} (h : Since w W bb b b1) (hg : Goes W W' bb m b1 b2) : Since w W' bb b b2 :=
  ⟨h.1.trans hg.2.1 h.2, fun k hk => (hg.2.2 k hk).elim (h.2 k) (fun e => Or.inr (Nat.le_trans h.1.size e))⟩
theorem Since.below {w W W' : World} {bb : Nat} {b b1 : BkS} (h : Since w W bb b b1) (hb : Below W.heap.size W W') : Since w W' bb b b1 :=
  ⟨h.1.trans (Out.of_below (S := b1.foot bb) hb (Nat.le_refl _)) h.2, h.2⟩
end Go.Proofs.YtjdkagafdnchhaaGreatDoor

/-
  What the program's arena of orders does at Set. Conditions stand in each theorem.
-/
namespace Go.Proofs.YtjdkagafdnchhaaGreatDoor
open Go.RowKit

set_option maxRecDepth 4000 in
set_option maxHeartbeats 1000000 in
theorem oaSet (ab : Nat) (most : Int) (vs vf : Value) (rs : List Sot) (fr : List Nat) (k : Nat) (o x : Ord) (a : Int) (w : World) (h : ArOr w ab most vs vf rs fr) (hk : soAt rs k = (some o, a)) :
    Calls Tryz.prog 185 #[.pointer (some ⟨ab, 0, none⟩), .agg #[.int .i64 k, .int .i64 a], x.agg] w
      fun e w' => e = .returned .nilIface ∧ ArOr w' ab most vs vf (rs.set k (some x, a)) fr ∧ Out (aoB ab vs vf) w w' := by
  have HA : Hid (ArOr w ab most vs vf rs fr) := h
  have HK : Hid (soAt rs k = (some o, a)) := hk
  clear h hk
  unfold Ord.agg
  go_enter Tryz.func185, Tryz.ntmps185
  go_wp2_with fail
  refine (oaFind ab most vs vf rs fr k o a _ (HA.out.below (bel2 _ _ _) (Nat.le_refl _)) HK.out).mono ?_
  rintro e w1 ⟨hb, g, cap, rfl, rfl⟩
  have hx := (hb.block (w.heap.size + 1) (by simp)).trans (two_new w _ _)
  have x0 := blk_cell (j := 0) hx rfl
  have x1 := blk_cell (j := 1) hx rfl
  have x2 := blk_cell (j := 2) hx rfl
  have x3 := blk_cell (j := 3) hx rfl
  have x4 := blk_cell (j := 4) hx rfl
  have HB : Hid (Below w.heap.size w w1) := bel_then (bel2 w _ _) hb
  have HA1 : Hid (ArOr w1 ab most (.slice (some ⟨g, 0, none⟩) rs.length cap) vf rs fr) := HA.out.below HB.out (Nat.le_refl _)
  obtain ⟨hk1, g', cap', hv, d0, d1, d2, d3, d4, _, _⟩ := HA1.out.has HK.out
  simp only [Value.slice.injEq, Option.some.injEq, Addr.mk.injEq, and_true, true_and] at hv
  obtain ⟨rfl, rfl⟩ := hv
  have f0 := HA1.out.slots.frozenAt (k * 7)
  have f1 := HA1.out.slots.frozenAt (k * 7 + 1)
  have f2 := HA1.out.slots.frozenAt (k * 7 + 2)
  have f3 := HA1.out.slots.frozenAt (k * 7 + 3)
  have f4 := HA1.out.slots.frozenAt (k * 7 + 4)
  clear hb hx
  go_wp2
  go_ret
  obtain ⟨r1, r2⟩ := HA1.out.setThing (x := x) hk1 (by rw [HK.out]; rfl)
  rw [HK.out] at r1
  exact ⟨rfl, r1, (Out.of_below HB.out (Nat.le_refl _)).trans (r2.mono (fun j hj => Or.inr (Or.inl (by rw [hj]; rfl)))) (Went.refl _ _)⟩
end Go.Proofs.YtjdkagafdnchhaaGreatDoor

/-
  A book in memory, one of its orders cut. Conditions stand in each theorem.
-/
namespace Go.Proofs.YtjdkagafdnchhaaGreatDoor
open Go.RowKit

/-- the book with an order cut -/
def BkS.cut (b : BkS) (s : Nat) (x : Ly) (o' : Ord) : BkS := { b with rs := b.rs.set x.slot (some o', x.age), S := upS b.S s (cutL x o' (b.S s)) }
theorem Goes.cut {w w' : World} {bb m s : Nat} {b : BkS} {x : Ly} {o' : Ord} (h : Bk w bb m b) (hm : m + 1 ≤ 900000) (hs : s < 2) (hx : x ∈ b.S s) (h1 : o'.id = x.o.id) (h2 : o'.side = x.o.side) (h3 : 1 ≤ o'.price ∧ o'.price ≤ 1000000 ∧ 1 ≤ o'.qty ∧ o'.qty ≤ 1000000)
    (ha : ArOr w' b.ab 100 b.vs b.vf (b.rs.set x.slot (some o', x.age)) b.fr) (ho : Out (aoB b.ab b.vs b.vf) w w') : Goes w w' bb (m + 1) b (b.cut s x o') := by
  have hat := BookAt.newAr h.at_ ho ha
  have hmem : ∀ t, t < 2 → ∀ y, y ∈ upS b.S s (cutL x o' (b.S s)) t → ∃ z ∈ b.S t, z.o.id = y.o.id ∧ z.slot = y.slot ∧ z.age = y.age := fun t ht y hy => by
    rcases mem_up hy with ⟨rfl, h5⟩ | ⟨_, h5⟩
    · obtain ⟨z, hz, rfl⟩ := List.mem_map.1 h5
      refine ⟨z, hz, ?_⟩
      split
      · rename_i e
        obtain rfl := h.ok.one_slot ht ht hz hx e
        exact ⟨h1.symm, rfl, rfl⟩
      · exact ⟨rfl, rfl, rfl⟩
    · exact ⟨y, h5, rfl, rfl, rfl⟩
  have hmem2 : ∀ t, t < 2 → ∀ z, z ∈ b.S t → ∃ y ∈ upS b.S s (cutL x o' (b.S s)) t, y.o.id = z.o.id := fun t ht z hz => by
    by_cases e : t = s
    · subst e
      rw [upS_same]
      refine ⟨_, List.mem_map.2 ⟨z, hz, rfl⟩, ?_⟩
      split
      · rename_i e
        obtain rfl := h.ok.one_slot ht ht hz hx e
        exact h1
      · rfl
    · exact ⟨z, by rw [upS_other _ e]; exact hz, rfl⟩
  have hrow : ∀ t, hV (upS b.S s (cutL x o' (b.S s)) t) = hV (b.S t) ∧ (upS b.S s (cutL x o' (b.S s)) t).length = (b.S t).length := fun t => by
    by_cases e : t = s
    · subst e; rw [upS_same]; exact ⟨cutL_hV _ _ _, cutL_length _ _ _⟩
    · rw [upS_other _ e]; exact ⟨rfl, rfl⟩
  refine ⟨⟨⟨hat.box, hat.ar, hat.map.like (fun t ht y hy => hmem t ht y hy) (fun t ht z hz => hmem2 t ht z hz), ?_, ?_, hat.apart⟩, h.ok.cut hs hx h1 h2 h3, Nat.le_trans h.small (Nat.le_succ _), hm⟩, ho.mono (fun k hk => Or.inr (Or.inl hk)), Went.refl _ _⟩
  · show World.ownsRow _ _ _ _ _ (upS b.S s (cutL x o' (b.S s)) 0).length (hV (upS b.S s (cutL x o' (b.S s)) 0))
    rw [(hrow 0).1, (hrow 0).2]; exact hat.row0
  · show World.ownsRow _ _ _ _ _ (upS b.S s (cutL x o' (b.S s)) 1).length (hV (upS b.S s (cutL x o' (b.S s)) 1))
    rw [(hrow 1).1, (hrow 1).2]; exact hat.row1
end Go.Proofs.YtjdkagafdnchhaaGreatDoor

/-
  What the program's Cut does, over this seat's translation. Conditions stand in each theorem.
-/
namespace Go.Proofs.YtjdkagafdnchhaaGreatDoor
open Go.RowKit

set_option maxRecDepth 100000 in
set_option maxHeartbeats 2000000 in
theorem cut_no (bb m : Nat) (b : BkS) (id q : Int) (w : World) (h : Bk w bb m b) (hw : (Lit.int .i64 id).wf = true) (hno : ∀ s, s < 2 → ∀ x ∈ b.S s, x.o.id ≠ id) :
    Calls Tryz.prog 145 #[.pointer (some ⟨bb, 0, none⟩), .int .i64 id, .int .i64 q] w fun e W' => e = .returned (.iface 32 (.int .i64 7)) ∧ Below w.heap.size w W' := by
  have H : Hid (Bk w bb m b) := h
  have HN : Hid (∀ s, s < 2 → ∀ x ∈ b.S s, x.o.id ≠ id) := hno
  clear h hno
  go_enter Tryz.func145, Tryz.ntmps145
  go_wp2_with fail
  refine (find_no bb m b id _ H.out hw HN.out).mono ?_
  rintro e w1 ⟨rfl, hb1⟩
  unfold Ord.agg Ord.none_
  have HB1 : Hid (Below w.heap.size w w1) := hb1
  clear hb1
  go_wp2_with fail
  go_ret
  exact ⟨rfl, bel_then HB1.out (bel2 _ _ _)⟩

set_option maxRecDepth 100000 in
set_option maxHeartbeats 2000000 in
theorem cut_range (bb m s : Nat) (b : BkS) (x : Ly) (q : Int) (w : World) (h : Bk w bb m b) (hs : s < 2) (hx : x ∈ b.S s) (hq : q < 1 ∨ x.o.qty < q) :
    Calls Tryz.prog 145 #[.pointer (some ⟨bb, 0, none⟩), .int .i64 x.o.id, .int .i64 q] w fun e W' => e = .returned (.iface 32 (.int .i64 2)) ∧ Below w.heap.size w W' := by
  have H : Hid (Bk w bb m b) := h
  have HX : Hid (x ∈ b.S s) := hx
  clear h hx
  go_enter Tryz.func145, Tryz.ntmps145
  go_wp2_with fail
  refine (find_yes bb m s b x _ H.out hs HX.out).mono ?_
  rintro e w1 ⟨rfl, hb1⟩
  unfold Ord.agg plV
  have HB1 : Hid (Below w.heap.size w w1) := hb1
  clear hb1
  have o4 : ((w1.alloc (.cells #[.int .i64 x.o.id, .int .i64 x.o.side, .int .i64 x.o.kind, .int .i64 x.o.price, .int .i64 x.o.qty] 41)).alloc (.cells #[.int .i64 x.slot, .int .i64 x.age, .int .i64 s] 171)).cell? ⟨w1.heap.size, 4, none⟩ = some (.int .i64 x.o.qty) := blk_cell (j := 4) (two_old w1 _ _) rfl
  by_cases hq1 : q < 1
  · have k1 : decide (q < 1) = true := decide_eq_true hq1
    go_wp2_with fail
    go_ret
    exact ⟨rfl, bel_then HB1.out (bel2 _ _ _)⟩
  · have k1 : decide (q < 1) = false := decide_eq_false hq1
    have k2 : decide (q > x.o.qty) = true := decide_eq_true (by omega)
    go_wp2_with fail
    go_ret
    exact ⟨rfl, bel_then HB1.out (bel2 _ _ _)⟩

set_option maxRecDepth 100000 in
set_option maxHeartbeats 2000000 in
theorem cut_all (bb m s : Nat) (b : BkS) (x : Ly) (w : World) (h : Bk w bb m b) (hm : m + 1 ≤ 900000) (hs : s < 2) (hx : x ∈ b.S s) (hq : ¬ x.o.qty < 1) :
    Calls Tryz.prog 145 #[.pointer (some ⟨bb, 0, none⟩), .int .i64 x.o.id, .int .i64 x.o.qty] w fun e W' => e = .returned .nilIface ∧ ∃ b' : BkS, (∃ i, i < (b.S s).length ∧ lyAt (b.S s) i = x ∧ b'.S = upS b.S s (outAt i (b.S s))) ∧ Goes w W' bb (m + 1) b b' := by
  have H : Hid (Bk w bb m b) := h
  have HX : Hid (x ∈ b.S s) := hx
  clear h hx
  go_enter Tryz.func145, Tryz.ntmps145
  go_wp2_with fail
  refine (find_yes bb m s b x _ H.out hs HX.out).mono ?_
  rintro e w1 ⟨rfl, hb1⟩
  unfold Ord.agg plV
  have HB1 : Hid (Below w.heap.size w w1) := hb1
  clear hb1
  have o4 : ((w1.alloc (.cells #[.int .i64 x.o.id, .int .i64 x.o.side, .int .i64 x.o.kind, .int .i64 x.o.price, .int .i64 x.o.qty] 41)).alloc (.cells #[.int .i64 x.slot, .int .i64 x.age, .int .i64 s] 171)).cell? ⟨w1.heap.size, 4, none⟩ = some (.int .i64 x.o.qty) := blk_cell (j := 4) (two_old w1 _ _) rfl
  have k1 : decide (x.o.qty < 1) = false := decide_eq_false (by omega)
  go_wp2_with fail
  have HB2 : Hid (Below w.heap.size w _) := bel_then HB1.out (bel2 w1 (.cells #[.int .i64 x.o.id, .int .i64 x.o.side, .int .i64 x.o.kind, .int .i64 x.o.price, .int .i64 x.o.qty] 41) (.cells #[.int .i64 x.slot, .int .i64 x.age, .int .i64 s] 171))
  clear o4 k1
  generalize (w1.alloc (.cells #[.int .i64 x.o.id, .int .i64 x.o.side, .int .i64 x.o.kind, .int .i64 x.o.price, .int .i64 x.o.qty] 41)).alloc (.cells #[.int .i64 x.slot, .int .i64 x.age, .int .i64 s] 171) = w2 at HB2 ⊢
  refine (cancel_yes bb m s b x w2 (H.out.below HB2.out (Nat.le_refl _)) hm hs HX.out).mono ?_
  rintro e w3 ⟨rfl, b', hb', hg⟩
  have HG : Hid (Goes w2 w3 bb (m + 1) b b') := hg
  have HB' : Hid (∃ i, i < (b.S s).length ∧ lyAt (b.S s) i = x ∧ b'.S = upS b.S s (outAt i (b.S s))) := hb'
  clear hg hb'
  unfold Ord.agg
  go_wp2_with fail
  go_ret
  refine ⟨rfl, b', HB'.out, HG.out.1, (Out.of_below HB2.out (Nat.le_refl _)).trans HG.out.2.1 (Went.refl _ _), fun k hk => (HG.out.2.2 k hk).elim Or.inl (fun e => Or.inr (Nat.le_trans HB2.out.size e))⟩

/-- an order with fewer lots -/
def lessO (q : Int) (o : Ord) : Ord := ⟨o.id, o.side, o.kind, o.price, o.qty - q⟩
set_option maxRecDepth 100000 in
set_option maxHeartbeats 2000000 in
theorem cut_part (bb m s : Nat) (b : BkS) (x : Ly) (q : Int) (w : World) (h : Bk w bb m b) (hm : m + 1 ≤ 900000) (hs : s < 2) (hx : x ∈ b.S s) (hq : ¬ q < 1) (hq2 : q < x.o.qty) :
    Calls Tryz.prog 145 #[.pointer (some ⟨bb, 0, none⟩), .int .i64 x.o.id, .int .i64 q] w fun e W' => e = .returned .nilIface ∧ Goes w W' bb (m + 1) b (b.cut s x (lessO q x.o)) := by
  have H : Hid (Bk w bb m b) := h
  have HX : Hid (x ∈ b.S s) := hx
  have HO : Hid (soAt b.rs x.slot = (some x.o, x.age)) := h.ok.there s hs x hx
  have hrg := h.ok.ok s hs x hx
  clear h hx
  go_enter Tryz.func145, Tryz.ntmps145
  go_wp2_with fail
  refine (find_yes bb m s b x _ H.out hs HX.out).mono ?_
  rintro e w1 ⟨rfl, hb1⟩
  unfold Ord.agg plV
  have HB1 : Hid (Below w.heap.size w w1) := hb1
  clear hb1
  go_upto_region 4 with fail
  have hb2 := bel2 w1 (.cells #[.int .i64 x.o.id, .int .i64 x.o.side, .int .i64 x.o.kind, .int .i64 x.o.price, .int .i64 x.o.qty] 41) (.cells #[.int .i64 x.slot, .int .i64 x.age, .int .i64 s] 171)
  have hr1 := two_old w1 (.cells #[.int .i64 x.o.id, .int .i64 x.o.side, .int .i64 x.o.kind, .int .i64 x.o.price, .int .i64 x.o.qty] 41) (.cells #[.int .i64 x.slot, .int .i64 x.age, .int .i64 s] 171)
  have hr2 := two_new w1 (.cells #[.int .i64 x.o.id, .int .i64 x.o.side, .int .i64 x.o.kind, .int .i64 x.o.price, .int .i64 x.o.qty] 41) (.cells #[.int .i64 x.slot, .int .i64 x.age, .int .i64 s] 171)
  generalize (w1.alloc (.cells #[.int .i64 x.o.id, .int .i64 x.o.side, .int .i64 x.o.kind, .int .i64 x.o.price, .int .i64 x.o.qty] 41)).alloc (.cells #[.int .i64 x.slot, .int .i64 x.age, .int .i64 s] 171) = w2 at hb2 hr1 hr2 ⊢
  have HB2 : Hid (Below w.heap.size w w2) := bel_then HB1.out hb2
  have hz : w.heap.size ≤ w1.heap.size := HB1.out.size
  have k1 : decide (q < 1) = false := decide_eq_false (by omega)
  have k2 : decide (q > x.o.qty) = false := decide_eq_false (by omega)
  have k3 : (q == x.o.qty) = false := beq_eq_false_iff_ne.2 (by omega)
  have c4 := blk_cell (j := 4) hr1 rfl
  have f4 := blk_free (j := 4) hr1
  have HR1 : Hid _ := hr1
  have HR2 : Hid _ := hr2
  clear hb2 hr1 hr2
  go_wp2_with fail
  have hr1 := blk_set (j := 4) (.int .i64 (x.o.qty - q)) HR1.out
  have hr2 := blk_out HR2.out (out_set w2 ⟨w1.heap.size, 4, none⟩ (.int .i64 (x.o.qty - q))) (by simp)
  have hb3 := HB2.out.setCell (p := ⟨w1.heap.size, 4, none⟩) hz (.int .i64 (x.o.qty - q))
  generalize w2.setCell ⟨w1.heap.size, 4, none⟩ (.int .i64 (x.o.qty - q)) = w3 at hr1 hr2 hb3 ⊢
  have HB3 : Hid (Below w.heap.size w w3) := hb3
  have HBK : Hid (Bk w3 bb m b) := H.out.below hb3 (Nat.le_refl _)
  have x0 := blk_cell (j := 0) hr1 rfl
  have x1 := blk_cell (j := 1) hr1 rfl
  have x2 := blk_cell (j := 2) hr1 rfl
  have x3 := blk_cell (j := 3) hr1 rfl
  have x4 := blk_cell (j := 4) hr1 rfl
  have p0 := blk_cell (j := 0) hr2 rfl
  have p1 := blk_cell (j := 1) hr2 rfl
  have b0 := blk_cell (j := 0) HBK.out.at_.box rfl
  clear hr1 hr2 hb3 HR1 HR2 HB2 c4 f4 k1 k2 k3
  go_region_with (go_at_call 185; refine (oaSet b.ab 100 b.vs b.vf b.rs b.fr x.slot x.o (lessO q x.o) x.age _ (HBK.out.at_.ar.below (B := w3.heap.size) ?_ (Nat.le_refl _)) HO.out).mono ?_; (repeat' first | assumption | exact Below.refl _ _ | exact Nat.le_refl _ | refine Below.drew ?_ | refine Below.alloc ?_ ?_ _ | (simp; done) | (simp; omega)); rintro e w4 ⟨rfl, ha, ho⟩)
  all_goals go_wp2_with fail
  all_goals go_ret
  all_goals (
    have hG : Goes w3 w4 bb (m + 1) b (b.cut s x (lessO q x.o)) := Goes.cut HBK.out hm hs HX.out rfl rfl (by have := hrg; simp only [lessO]; omega) ha (by first | exact ho | exact (out_drew (Out.refl _ _)).trans ho (Went.refl _ _))
    exact ⟨rfl, hG.1, (Out.of_below HB3.out (Nat.le_refl _)).trans hG.2.1 (Went.refl _ _), fun k hk => (hG.2.2 k hk).elim Or.inl (fun e => Or.inr (Nat.le_trans HB3.out.size e))⟩)
end Go.Proofs.YtjdkagafdnchhaaGreatDoor

/-
  The document's orders as plain lists (4.1, 4.2): a stable sort, a side, what Add answers, what is left when one goes or is cut. No program is named here.
-/
namespace Go.Proofs.YtjdkagafdnchhaaGreatDoor
open Go.RowKit

/-- a stable sort of a list by what 'rank' tells -/
def insL {α : Type} (rank : α → Int) (o : α) : List α → List α
  | [] => [o]
  | x :: xs => if rank x ≤ rank o then x :: insL rank o xs else o :: x :: xs
def ssort {α : Type} (rank : α → Int) (l : List α) : List α := l.foldl (fun acc o => insL rank o acc) []
theorem ssort_push {α : Type} (rank : α → Int) (l : List α) (o : α) : ssort rank (l ++ [o]) = insL rank o (ssort rank l) := by simp [ssort]
/-- 4.2: what orders of a side are compared by -/
def rankI (side kind price : Int) : Int := if kind = 2 then -2000000 else if side = 1 then -price else price
def onSide (side : Int) (l : List Ord) : List Ord := l.filter fun o => o.side == side
def rankO (side : Int) (o : Ord) : Int := rankI side o.kind o.price
def sideO (side : Int) (l : List Ord) : List Ord := ssort (rankO side) (onSide side l)
theorem onSide_mem {side : Int} {l : List Ord} {o : Ord} (h : o ∈ onSide side l) : o ∈ l := (List.mem_filter.1 h).1
theorem ssort_tiny {α : Type} (rank : α → Int) {l : List α} (h : l.length ≤ 1) : ssort rank l = l := by
  match l, h with
  | [], _ => rfl
  | [a], _ => rfl
/-- 1.1 -/
def rightO (p q : Int) : Bool := (decide (1 ≤ p) && decide (p ≤ 1000000)) && (decide (1 ≤ q) && decide (q ≤ 1000000))
/-- 4.1: an order as it lies, and what is wrong with it (0: nothing) -/
def lieO (o : Ord) : Ord := if o.kind = 2 then { o with price := 1 } else o
def addN (o : Ord) (l : List Ord) : Int :=
  if (decide (1 ≤ o.side) && decide (o.side ≤ 2)) = false ∨ o.id < 1 then 1 else if rightO (lieO o).price (lieO o).qty = false then 2 else if 0 ≤ idxO o.id l then 9 else if 100 ≤ l.length then 12 else 0
theorem lieO_id (o : Ord) : (lieO o).id = o.id := by unfold lieO; split <;> rfl
theorem lieO_side (o : Ord) : (lieO o).side = o.side := by unfold lieO; split <;> rfl
theorem addN_arg {o : Ord} {l : List Ord} (h : (decide (1 ≤ o.side) && decide (o.side ≤ 2)) = false ∨ o.id < 1) : addN o l = 1 := by unfold addN; rw [if_pos h]
theorem addN_range {o : Ord} {l : List Ord} (h : (decide (1 ≤ o.side) && decide (o.side ≤ 2)) = true) (h1 : ¬ o.id < 1) (h2 : rightO (lieO o).price (lieO o).qty = false) : addN o l = 2 := by
  unfold addN; rw [if_neg (by rw [h]; simp; omega), if_pos h2]
theorem addN_rest {o : Ord} {l : List Ord} (h : (decide (1 ≤ o.side) && decide (o.side ≤ 2)) = true) (h1 : ¬ o.id < 1) (h2 : rightO (lieO o).price (lieO o).qty = true) : addN o l = if 0 ≤ idxO o.id l then 9 else if 100 ≤ l.length then 12 else 0 := by
  unfold addN; rw [if_neg (by rw [h]; simp; omega), if_neg (by rw [h2]; simp)]
def addL (o : Ord) (l : List Ord) : List Ord := if addN o l = 0 then l ++ [lieO o] else l
def goneL (k : Nat) (l : List Ord) : List Ord := l.take k ++ l.drop (k + 1)
theorem goneL_set : ∀ (l : List Ord) (k : Nat) (x : Ord), goneL k (l.set k x) = goneL k l
  | [], _, _ => rfl
  | _ :: _, 0, _ => rfl
  | o :: l, k + 1, x => by
    have := goneL_set l k x
    unfold goneL at this ⊢
    simpa using this
theorem idxF_set (id : Int) : ∀ (l : List Ord) (k i : Nat) (x : Ord), x.id = (oAt l k).id → idxF id i (l.set k x) = idxF id i l
  | [], _, _, _, _ => rfl
  | o :: l, 0, i, x, h => by
    have e : x.id = o.id := by simpa [oAt] using h
    show (if x.id = id then (i : Int) else idxF id (i + 1) l) = (if o.id = id then (i : Int) else idxF id (i + 1) l)
    rw [e]
  | o :: l, k + 1, i, x, h => by
    have e : x.id = (oAt l k).id := by simpa [oAt] using h
    show (if o.id = id then (i : Int) else idxF id (i + 1) (l.set k x)) = (if o.id = id then (i : Int) else idxF id (i + 1) l)
    rw [idxF_set id l k (i + 1) x e]
def cutO (q : Int) (o : Ord) : Ord := { o with qty := o.qty - q }
theorem insL_perm {α : Type} (rank : α → Int) (o : α) : ∀ l : List α, (insL rank o l).Perm (o :: l)
  | [] => List.Perm.refl _
  | x :: xs => by
    unfold insL
    split
    · exact ((insL_perm rank o xs).cons x).trans (List.Perm.swap o x xs)
    · exact List.Perm.refl _
theorem foldl_perm {α : Type} (rank : α → Int) : ∀ (l acc : List α), (l.foldl (fun acc o => insL rank o acc) acc).Perm (acc ++ l)
  | [], acc => by simp
  | o :: l, acc => by
    rw [List.foldl_cons]
    exact (foldl_perm rank l _).trans (((insL_perm rank o acc).append_right l).trans List.perm_middle.symm)
theorem ssort_perm {α : Type} (rank : α → Int) (l : List α) : (ssort rank l).Perm l := by have h := foldl_perm rank l []; rw [List.nil_append] at h; exact h
theorem sideO_mem {side : Int} {l : List Ord} {o : Ord} : o ∈ sideO side l ↔ (o ∈ l ∧ o.side = side) := by
  unfold sideO onSide
  rw [(ssort_perm _ _).mem_iff, List.mem_filter]
  simp
theorem sideO_len (side : Int) (l : List Ord) : (sideO side l).length ≤ l.length := by
  unfold sideO onSide
  rw [(ssort_perm _ _).length_eq]
  exact List.length_filter_le _ _
end Go.Proofs.YtjdkagafdnchhaaGreatDoor

/-
  The program's sides and the document's list, as plain lists: they stay of one mind through Add, Cancel and Cut. No program is named here but by the texts that it imports; conditions stand in each theorem.
-/
namespace Go.Proofs.YtjdkagafdnchhaaGreatDoor
open Go.RowKit

theorem snoc_ind {α : Type} {P : List α → Prop} (h0 : P []) (h1 : ∀ l a, P l → P (l ++ [a])) (l : List α) : P l := by
  rw [← List.reverse_reverse l]
  generalize l.reverse = r
  induction r with
  | nil => exact h0
  | cons a r ih => rw [List.reverse_cons]; exact h1 _ _ ih

section
variable {α : Type} {rank : α → Int}
theorem insL_mem {o y : α} {l : List α} : y ∈ insL rank o l ↔ y = o ∨ y ∈ l := by rw [(insL_perm rank o l).mem_iff]; simp
theorem insL_srt {o : α} : ∀ {l : List α}, l.Pairwise (fun a b => rank a ≤ rank b) → (insL rank o l).Pairwise (fun a b => rank a ≤ rank b)
  | [], _ => by simp [insL]
  | x :: xs, hp => by
    obtain ⟨h1, h2⟩ := List.pairwise_cons.1 hp
    unfold insL
    split
    · rename_i hk
      refine List.pairwise_cons.2 ⟨fun y hy => ?_, insL_srt h2⟩
      rcases insL_mem.1 hy with rfl | hy
      · exact hk
      · exact h1 y hy
    · rename_i hk
      refine List.pairwise_cons.2 ⟨fun y hy => ?_, hp⟩
      rcases List.mem_cons.1 hy with rfl | hy
      · omega
      · have := h1 y hy; omega
theorem ssort_srt (l : List α) : (ssort rank l).Pairwise (fun a b => rank a ≤ rank b) := by
  induction l using snoc_ind with
  | h0 => exact List.Pairwise.nil
  | h1 l a ih => rw [ssort_push]; exact insL_srt ih
/-- in a sorted list the new one lies between those that are not greater and the rest -/
theorem insL_eq {o : α} : ∀ {l : List α}, l.Pairwise (fun a b => rank a ≤ rank b) → insL rank o l = l.filter (fun y => decide (rank y ≤ rank o)) ++ o :: l.filter (fun y => !decide (rank y ≤ rank o))
  | [], _ => rfl
  | x :: xs, hp => by
    obtain ⟨h1, h2⟩ := List.pairwise_cons.1 hp
    unfold insL
    split
    · rename_i hk
      rw [List.filter_cons_of_pos (by simpa using hk), List.filter_cons_of_neg (by simpa using hk), insL_eq h2]
      rfl
    · rename_i hk
      have e1 : (x :: xs).filter (fun y => decide (rank y ≤ rank o)) = [] := by
        rw [List.filter_eq_nil_iff]
        intro y hy
        rcases List.mem_cons.1 hy with rfl | hy
        · simpa using hk
        · have := h1 y hy; simp; omega
      have e2 : (x :: xs).filter (fun y => !decide (rank y ≤ rank o)) = x :: xs := by
        rw [List.filter_eq_self]
        intro y hy
        rcases List.mem_cons.1 hy with rfl | hy
        · simpa using hk
        · have := h1 y hy; simp; omega
      rw [e1, e2]
      rfl
theorem ssort_filter (p : α → Bool) (l : List α) : ssort rank (l.filter p) = (ssort rank l).filter p := by
  induction l using snoc_ind with
  | h0 => rfl
  | h1 l a ih =>
    rw [List.filter_append, ssort_push, insL_eq (ssort_srt l), List.filter_append]
    by_cases hp : p a = true
    · have e0 : [a].filter p = [a] := by rw [List.filter_cons_of_pos hp, List.filter_nil]
      rw [e0, List.filter_cons_of_pos hp, ssort_push, ih, insL_eq ((ssort_srt l).sublist List.filter_sublist), List.filter_filter, List.filter_filter, List.filter_filter, List.filter_filter]
      congr 1
      · congr 1; funext y; exact Bool.and_comm _ _
      · congr 2; funext y; exact Bool.and_comm _ _
    · have e0 : [a].filter p = [] := by rw [List.filter_cons_of_neg hp, List.filter_nil]
      rw [e0, List.filter_cons_of_neg hp, List.append_nil, ih, List.filter_filter, List.filter_filter]
      have hs := ssort_srt (rank := rank) l
      clear ih
      generalize ssort rank l = r at hs
      induction r with
      | nil => rfl
      | cons x xs ih2 =>
        obtain ⟨h1, h2⟩ := List.pairwise_cons.1 hs
        have ih3 := ih2 h2
        by_cases hx : rank x ≤ rank a
        · by_cases hpx : p x = true
          · rw [List.filter_cons_of_pos hpx, List.filter_cons_of_pos (by simp [hx, hpx]), List.filter_cons_of_neg (by simp [hx]), ih3]; rfl
          · rw [List.filter_cons_of_neg hpx, List.filter_cons_of_neg (by simp [hpx]), List.filter_cons_of_neg (by simp [hx]), ih3]
        · have e1 : (x :: xs).filter (fun y => p y && decide (rank y ≤ rank a)) = [] := by
            rw [List.filter_eq_nil_iff]
            intro y hy
            rcases List.mem_cons.1 hy with rfl | hy
            · simp [hx]
            · have := h1 y hy
              have hn : ¬ rank y ≤ rank a := by omega
              simp [hn]
          have e2 : (x :: xs).filter (fun y => p y && !decide (rank y ≤ rank a)) = (x :: xs).filter p := by
            apply List.filter_congr
            intro y hy
            have hn : ¬ rank y ≤ rank a := by
              rcases List.mem_cons.1 hy with rfl | hy
              · exact hx
              · have := h1 y hy; omega
            simp [hn]
          rw [e1, e2]; rfl
theorem insL_mapf {f : α → α} (hf : ∀ a, rank (f a) = rank a) (o : α) : ∀ l : List α, insL rank (f o) (l.map f) = (insL rank o l).map f
  | [] => rfl
  | x :: xs => by
    simp only [List.map_cons, insL]
    rw [hf, hf]
    split
    · rw [List.map_cons, insL_mapf hf o xs]
    · rfl
theorem ssort_map {f : α → α} (hf : ∀ a, rank (f a) = rank a) (l : List α) : ssort rank (l.map f) = (ssort rank l).map f := by
  induction l using snoc_ind with
  | h0 => rfl
  | h1 l a ih => rw [List.map_append, List.map_singleton, ssort_push, ssort_push, ih, insL_mapf hf]
theorem insL_take {o : α} : ∀ l : List α, insL rank o l = l.take (l.takeWhile fun y => decide (rank y ≤ rank o)).length ++ o :: l.drop (l.takeWhile fun y => decide (rank y ≤ rank o)).length
  | [] => rfl
  | x :: xs => by
    unfold insL
    split
    · rename_i hk
      rw [List.takeWhile_cons, if_pos (by simpa using hk), List.length_cons, List.take_succ_cons, List.drop_succ_cons, insL_take xs]
      rfl
    · rename_i hk
      rw [List.takeWhile_cons, if_neg (by simpa using hk)]
      rfl
end

/-! sides of lists -/
theorem sideO_filter (side : Int) (p : Ord → Bool) (l : List Ord) : sideO side (l.filter p) = (sideO side l).filter p := by
  unfold sideO onSide
  rw [← ssort_filter, List.filter_filter, List.filter_filter]
  congr 2
  funext y
  exact Bool.and_comm _ _
theorem sideO_map (side : Int) {f : Ord → Ord} (h1 : ∀ o, (f o).side = o.side) (h2 : ∀ o, (f o).kind = o.kind) (h3 : ∀ o, (f o).price = o.price) (l : List Ord) : sideO side (l.map f) = (sideO side l).map f := by
  unfold sideO
  rw [← ssort_map (fun a => by unfold rankO; rw [h2, h3])]
  congr 1
  unfold onSide
  rw [List.filter_map]
  congr 1
  apply List.filter_congr
  intro o _
  simp [h1]
theorem sideO_push_same {side : Int} {l : List Ord} {p : Ord} (h : p.side = side) : sideO side (l ++ [p]) = insL (rankO side) p (sideO side l) := by
  unfold sideO
  rw [← ssort_push]
  congr 1
  unfold onSide
  rw [List.filter_append, List.filter_cons_of_pos (by simpa using h)]
  rfl
theorem sideO_push_other {side : Int} {l : List Ord} {p : Ord} (h : p.side ≠ side) : sideO side (l ++ [p]) = sideO side l := by
  unfold sideO
  congr 1
  unfold onSide
  rw [List.filter_append, List.filter_cons_of_neg (by simpa using h)]
  simp
theorem better_rank {side : Int} {p y : Ord} (hs : side = 1 ∨ side = 2) (hp : p.side = side) (h1 : 1 ≤ p.price ∧ p.price ≤ 1000000) (h2 : 1 ≤ y.price ∧ y.price ≤ 1000000) : (!betterO p y) = decide (rankO side y ≤ rankO side p) := by
  unfold betterO rankO rankI
  by_cases k1 : y.kind = 2
  · rw [if_pos k1, if_pos k1]
    by_cases k2 : p.kind = 2
    · rw [if_pos k2]; rfl
    · rw [if_neg k2]
      rcases hs with rfl | rfl
      · rw [if_pos rfl]; simp; omega
      · rw [if_neg (by decide)]; simp; omega
  · rw [if_neg k1, if_neg k1]
    by_cases k2 : p.kind = 2
    · rw [if_pos k2, if_pos k2]
      rcases hs with rfl | rfl
      · rw [if_pos rfl]; simp; omega
      · rw [if_neg (by decide)]; simp; omega
    · rw [if_neg k2, if_neg k2, hp]
      rcases hs with rfl | rfl
      · rw [if_pos rfl, if_pos rfl, if_pos rfl]; by_cases hlt : y.price < p.price <;> simp [hlt] <;> omega
      · rw [if_neg (by decide), if_neg (by decide), if_neg (by decide)]; by_cases hlt : p.price < y.price <;> simp [hlt] <;> omega
theorem rankN_is {side : Int} {p : Ord} {l : List Ord} (hs : side = 1 ∨ side = 2) (hp : p.side = side) (h1 : 1 ≤ p.price ∧ p.price ≤ 1000000) (h2 : ∀ y ∈ l, 1 ≤ y.price ∧ y.price ≤ 1000000) : rankN p l = (l.takeWhile fun y => decide (rankO side y ≤ rankO side p)).length := by
  unfold rankN
  congr 1
  induction l with
  | nil => rfl
  | cons y l ih => rw [List.takeWhile_cons, List.takeWhile_cons, better_rank hs hp h1 (h2 y (by simp)), ih (fun z hz => h2 z (by simp [hz]))]
end Go.Proofs.YtjdkagafdnchhaaGreatDoor

/-
  The program's book and the document's, side by side, as plain lists: Add, Cancel, Cut. Conditions stand in each theorem.
-/
namespace Go.Proofs.YtjdkagafdnchhaaGreatDoor
open Go.RowKit

theorem id_inj : ∀ {l : List Ord}, (l.map Ord.id).Nodup → ∀ {a b : Ord}, a ∈ l → b ∈ l → a.id = b.id → a = b
  | [], _, _, _, h, _, _ => by cases h
  | x :: l, hn, a, b, ha, hb, e => by
    rw [List.map_cons, List.nodup_cons] at hn
    rcases List.mem_cons.1 ha with e1 | h1
    · rcases List.mem_cons.1 hb with e2 | h2
      · rw [e1, e2]
      · exact (hn.1 (List.mem_map.2 ⟨b, h2, by rw [← e, e1]⟩)).elim
    · rcases List.mem_cons.1 hb with e2 | h2
      · exact (hn.1 (List.mem_map.2 ⟨a, h1, by rw [e, e2]⟩)).elim
      · exact id_inj hn.2 h1 h2 e
theorem oAt_in {l : List Ord} {k : Nat} (h : k < l.length) : oAt l k ∈ l := by rw [oAt_eq h]; exact List.getElem_mem h
theorem idxF_none (id : Int) : ∀ (l : List Ord) (i : Nat), (∀ o ∈ l, o.id ≠ id) → idxF id i l = -1
  | [], _, _ => rfl
  | o :: l, i, h => by
    show (if o.id = id then (i : Int) else idxF id (i + 1) l) = -1
    rw [if_neg (h o (by simp)), idxF_none id l (i + 1) (fun y hy => h y (by simp [hy]))]
theorem idxF_some (id : Int) : ∀ (l : List Ord) (i : Nat), (∃ o ∈ l, o.id = id) → 0 ≤ idxF id i l
  | [], _, h => by obtain ⟨_, h, _⟩ := h; cases h
  | o :: l, i, h => by
    show 0 ≤ (if o.id = id then (i : Int) else idxF id (i + 1) l)
    split
    · omega
    · rename_i hne
      obtain ⟨y, hy, e⟩ := h
      rcases List.mem_cons.1 hy with rfl | hy
      · exact absurd e hne
      · exact idxF_some id l (i + 1) ⟨y, hy, e⟩
theorem split_at {l : List Ord} {k : Nat} (h : k < l.length) : l = l.take k ++ oAt l k :: l.drop (k + 1) := by rw [oAt_eq h, ← List.drop_eq_getElem_cons h, List.take_append_drop]
/-- in a list whose ids are each their own, the others than number k are those of another id -/
theorem others {l : List Ord} {k : Nat} (hn : (l.map Ord.id).Nodup) (hk : k < l.length) : (∀ o ∈ l.take k, o.id ≠ (oAt l k).id) ∧ (∀ o ∈ l.drop (k + 1), o.id ≠ (oAt l k).id) := by
  rw [split_at hk, List.map_append, List.map_cons, List.nodup_append] at hn
  obtain ⟨_, h2, h3⟩ := hn
  rw [List.nodup_cons] at h2
  refine ⟨fun o ho e => ?_, fun o ho e => ?_⟩
  · exact h3 o.id (List.mem_map.2 ⟨o, ho, rfl⟩) (oAt l k).id (by simp) e
  · exact h2.1 (List.mem_map.2 ⟨o, ho, e⟩)
theorem goneL_filter {l : List Ord} {k : Nat} (hn : (l.map Ord.id).Nodup) (hk : k < l.length) : goneL k l = l.filter (fun o => decide (o.id ≠ (oAt l k).id)) := by
  obtain ⟨h1, h2⟩ := others hn hk
  have hsp := split_at hk
  generalize oAt l k = x at h1 h2 hsp ⊢
  conv => rhs; rw [hsp]
  rw [List.filter_append, List.filter_cons_of_neg (by simp), List.filter_eq_self.2 (fun o ho => by simpa using h1 o ho), List.filter_eq_self.2 (fun o ho => by simpa using h2 o ho)]
  rfl
/-- the order of that id with fewer lots -/
def cutF (id q : Int) (o : Ord) : Ord := if o.id = id then cutO q o else o
theorem cutF_id (id q : Int) (o : Ord) : (cutF id q o).id = o.id := by unfold cutF; split <;> rfl
theorem cutF_side (id q : Int) (o : Ord) : (cutF id q o).side = o.side := by unfold cutF; split <;> rfl
theorem cutF_kind (id q : Int) (o : Ord) : (cutF id q o).kind = o.kind := by unfold cutF; split <;> rfl
theorem cutF_price (id q : Int) (o : Ord) : (cutF id q o).price = o.price := by unfold cutF; split <;> rfl
theorem set_map {l : List Ord} {k : Nat} (q : Int) (hn : (l.map Ord.id).Nodup) (hk : k < l.length) : l.set k (cutO q (oAt l k)) = l.map (cutF (oAt l k).id q) := by
  obtain ⟨h1, h2⟩ := others hn hk
  have hsp := split_at hk
  rw [List.set_eq_take_append_cons_drop, if_pos hk]
  generalize oAt l k = x at h1 h2 hsp ⊢
  have e1 : (l.take k).map (cutF x.id q) = l.take k := by
    conv => rhs; rw [← List.map_id (l.take k)]
    apply List.map_congr_left
    intro o ho
    unfold cutF; rw [if_neg (h1 o ho)]; rfl
  have e2 : (l.drop (k + 1)).map (cutF x.id q) = l.drop (k + 1) := by
    conv => rhs; rw [← List.map_id (l.drop (k + 1))]
    apply List.map_congr_left
    intro o ho
    unfold cutF; rw [if_neg (h2 o ho)]; rfl
  have e3 : cutF x.id q x = cutO q x := if_pos rfl
  conv => rhs; rw [hsp]
  rw [List.map_append, List.map_cons, e1, e2, e3]

/-- one mind -/
structure Lnk (S : Nat → List Ly) (L : List Ord) : Prop where
  side : ∀ s, s < 2 → (S s).map Ly.o = sideO ((s : Int) + 1) L
  all : ∀ o ∈ L, o.side = 1 ∨ o.side = 2
  ids : (L.map Ord.id).Nodup
theorem Lnk.start : Lnk (fun _ => []) [] := ⟨fun _ _ => rfl, fun _ h => (by cases h), List.nodup_nil⟩
section
variable {S : Nat → List Ly} {L : List Ord} {m : Nat} {rs : List Sot} {fr : List Nat}
theorem Lnk.mem (h : Lnk S L) {o : Ord} : o ∈ L ↔ ∃ s, s < 2 ∧ ∃ x ∈ S s, x.o = o := by
  constructor
  · intro ho
    have key : ∀ s : Nat, s < 2 → o.side = (s : Int) + 1 → ∃ s, s < 2 ∧ ∃ x ∈ S s, x.o = o := fun s hs e => by
      have h1 : o ∈ sideO ((s : Int) + 1) L := sideO_mem.2 ⟨ho, e⟩
      rw [← h.side s hs] at h1
      obtain ⟨x, hx, rfl⟩ := List.mem_map.1 h1
      exact ⟨s, hs, x, hx, rfl⟩
    rcases h.all o ho with e | e
    · exact key 0 (by decide) (by rw [e]; rfl)
    · exact key 1 (by decide) (by rw [e]; rfl)
  · rintro ⟨s, hs, x, hx, rfl⟩
    have h1 : x.o ∈ (S s).map Ly.o := List.mem_map.2 ⟨x, hx, rfl⟩
    rw [h.side s hs] at h1
    exact (sideO_mem.1 h1).1
theorem Lnk.none (h : Lnk S L) {id : Int} (hn : ∀ s, s < 2 → ∀ x ∈ S s, x.o.id ≠ id) : ∀ o ∈ L, o.id ≠ id := fun o ho => by
  obtain ⟨s, hs, x, hx, rfl⟩ := h.mem.1 ho
  exact hn s hs x hx
theorem Lnk.idx_no (h : Lnk S L) {id : Int} (hn : ∀ s, s < 2 → ∀ x ∈ S s, x.o.id ≠ id) : idxO id L = -1 := idxF_none id L 0 (h.none hn)
theorem Lnk.idx_yes (h : Lnk S L) {s : Nat} (hs : s < 2) {x : Ly} (hx : x ∈ S s) : 0 ≤ idxO x.o.id L := idxF_some _ L 0 ⟨x.o, h.mem.2 ⟨s, hs, x, hx, rfl⟩, rfl⟩
theorem Lnk.at (h : Lnk S L) {s k : Nat} (hs : s < 2) {x : Ly} (hx : x ∈ S s) (hk : k < L.length) (e : (oAt L k).id = x.o.id) : oAt L k = x.o := id_inj h.ids (oAt_in hk) (h.mem.2 ⟨s, hs, x, hx, rfl⟩) e
theorem Lnk.len (h : Lnk S L) : L.length = (S 0).length + (S 1).length := by
  have hl : ∀ s, s < 2 → (S s).length = (onSide ((s : Int) + 1) L).length := fun s hs => by
    have := congrArg List.length (h.side s hs)
    rw [List.length_map] at this
    rw [this]
    exact (ssort_perm _ _).length_eq
  have both : ∀ l : List Ord, (∀ o ∈ l, o.side = 1 ∨ o.side = 2) → l.length = (onSide 1 l).length + (onSide 2 l).length := fun l => by
    induction l with
    | nil => intro _; rfl
    | cons o l ih =>
      intro ha
      have := ih (fun y hy => ha y (by simp [hy]))
      unfold onSide at *
      rcases ha o (by simp) with e | e
      · rw [List.filter_cons_of_pos (by simp [e]), List.filter_cons_of_neg (by simp [e])]; simp; omega
      · rw [List.filter_cons_of_neg (by simp [e]), List.filter_cons_of_pos (by simp [e])]; simp; omega
  rw [hl 0 (by decide), hl 1 (by decide)]
  exact both L h.all
theorem Lnk.ok (h : Lnk S L) (hp : Pb m rs fr S) : ∀ o ∈ L, 1 ≤ o.price ∧ o.price ≤ 1000000 ∧ 1 ≤ o.qty ∧ o.qty ≤ 1000000 := fun o ho => by
  obtain ⟨s, hs, x, hx, rfl⟩ := h.mem.1 ho
  have := hp.ok s hs x hx
  omega
theorem Lnk.add (h : Lnk S L) {s k : Nat} {a : Int} {p : Ord} (hs : s < 2) (hp : p.side = (s : Int) + 1) (h1 : 1 ≤ p.price ∧ p.price ≤ 1000000) (hok : ∀ o ∈ L, 1 ≤ o.price ∧ o.price ≤ 1000000) (hno : ∀ o ∈ L, o.id ≠ p.id) :
    Lnk (upS S s (insAt (rankN p ((S s).map Ly.o)) ⟨k, a, p⟩ (S s))) (L ++ [p]) := by
  have hsd : (s : Int) + 1 = 1 ∨ (s : Int) + 1 = 2 := by omega
  refine ⟨fun t ht => ?_, fun o ho => ?_, ?_⟩
  · by_cases e : t = s
    · subst e
      rw [upS_same, sideO_push_same hp, insL_take]
      unfold insAt
      rw [List.map_append, List.map_cons, List.map_take, List.map_drop, h.side t ht, rankN_is hsd hp h1 (fun y hy => hok y (sideO_mem.1 hy).1)]
    · rw [upS_other _ e, sideO_push_other (by rw [hp]; omega)]
      exact h.side t ht
  · rcases List.mem_append.1 ho with ho | ho
    · exact h.all o ho
    · simp at ho; subst ho; rw [hp]; exact hsd
  · rw [List.map_append, List.nodup_append]
    refine ⟨h.ids, by simp, fun i hi j hj => ?_⟩
    obtain ⟨o, ho, rfl⟩ := List.mem_map.1 hi
    simp at hj
    subst hj
    exact hno o ho
theorem Lnk.gone (h : Lnk S L) (hp : Pb m rs fr S) {s i k : Nat} {x : Ly} (hs : s < 2) (hi : i < (S s).length) (hx : lyAt (S s) i = x) (hk : k < L.length) (hid : (oAt L k).id = x.o.id) : Lnk (upS S s (outAt i (S s))) (goneL k L) := by
  have hxm : x ∈ S s := by rw [← hx]; exact lyAt_mem hi
  rw [goneL_filter h.ids hk, hid]
  refine ⟨fun t ht => ?_, fun o ho => h.all o (List.mem_filter.1 ho).1, ?_⟩
  · rw [sideO_filter, ← h.side t ht]
    by_cases e : t = s
    · subst e
      have hn : (((S t).map Ly.o).map Ord.id).Nodup := by
        rw [List.map_map]
        have h5 := (pb_all S ht).map (fun x => x.o.id)
        have h6 := h5.nodup_iff.1 hp.ids
        rw [List.map_append] at h6
        exact (List.nodup_append.1 h6).1
      have hi' : i < ((S t).map Ly.o).length := by rw [List.length_map]; exact hi
      have hat : oAt ((S t).map Ly.o) i = x.o := by rw [← hx, lyAt_eq hi, oAt_eq hi', List.getElem_map]
      have h7 := goneL_filter hn hi'
      rw [hat] at h7
      rw [upS_same, ← h7]
      unfold outAt goneL
      rw [List.map_append, List.map_take, List.map_drop]
    · rw [upS_other _ e]
      symm
      rw [List.filter_eq_self]
      intro o ho
      obtain ⟨y, hy, rfl⟩ := List.mem_map.1 ho
      simp only [decide_eq_true_eq]
      intro e2
      have e3 := hp.one_id ht hs hy hxm e2
      subst e3
      exact e (hp.one_side ht hs hy hxm)
  · exact h.ids.sublist (List.filter_sublist.map _)
theorem Lnk.cut (h : Lnk S L) (hp : Pb m rs fr S) {s k : Nat} {q : Int} {x : Ly} (hs : s < 2) (hx : x ∈ S s) (hk : k < L.length) (hid : (oAt L k).id = x.o.id) : Lnk (upS S s (cutL x (lessO q x.o) (S s))) (L.set k (cutO q (oAt L k))) := by
  rw [set_map q h.ids hk, hid]
  have hrow : ∀ t, t < 2 → (upS S s (cutL x (lessO q x.o) (S s)) t).map Ly.o = ((S t).map Ly.o).map (cutF x.o.id q) := fun t ht => by
    by_cases e : t = s
    · subst e
      rw [upS_same]
      unfold cutL
      rw [List.map_map, List.map_map]
      apply List.map_congr_left
      intro y hy
      simp only [Function.comp]
      split
      · rename_i e1
        obtain rfl := hp.one_slot ht ht hy hx e1
        unfold cutF; rw [if_pos rfl]; rfl
      · rename_i e1
        unfold cutF
        rw [if_neg (fun e2 => e1 (by rw [hp.one_id ht ht hy hx e2]))]
    · rw [upS_other _ e, List.map_map]
      apply List.map_congr_left
      intro y hy
      simp only [Function.comp]
      unfold cutF
      rw [if_neg (fun e2 => by
        have e3 := hp.one_id ht hs hy hx e2
        subst e3
        exact e (hp.one_side ht hs hy hx))]
  refine ⟨fun t ht => ?_, fun o ho => ?_, ?_⟩
  · rw [hrow t ht, sideO_map _ (cutF_side _ _) (cutF_kind _ _) (cutF_price _ _), h.side t ht]
  · obtain ⟨y, hy, rfl⟩ := List.mem_map.1 ho
    rw [cutF_side]; exact h.all y hy
  · rw [List.map_map]
    have : (Ord.id ∘ cutF x.o.id q) = Ord.id := by funext o; exact cutF_id _ _ _
    rw [this]; exact h.ids
end
theorem lie_same (o : Ord) : lieP o = lieO o := rfl
theorem sideP_is (s : Int) : sideP s = (decide (1 ≤ s) && decide (s ≤ 2)) := by
  unfold sideP
  by_cases h : s = 1
  · subst h; rfl
  by_cases h' : s = 2
  · subst h'; rfl
  have h1 : (s == 1) = false := beq_eq_false_iff_ne.2 h
  have h2 : (s == 2) = false := beq_eq_false_iff_ne.2 h'
  rw [h1, h2]
  by_cases h3 : 1 ≤ s
  · have : ¬ s ≤ 2 := by omega
    simp [this]
  · simp [h3]
end Go.Proofs.YtjdkagafdnchhaaGreatDoor

/-
  What Order, Cancel and Cut are (4.1), as plain functions of the document's list of orders; and what a cut that may be does to each side. No program is named here.
-/
namespace Go.Proofs.YtjdkagafdnchhaaGreatDoor
open Go.RowKit

/-! 4.1, as plain functions of the document's list -/
def canO (id : Int) (L : List Ord) : Ord := if idxO id L = -1 then Ord.none_ else oAt L (idxO id L).toNat
def canN (id : Int) (L : List Ord) : Int := if idxO id L = -1 then 7 else 0
def canL (id : Int) (L : List Ord) : List Ord := if idxO id L = -1 then L else goneL (idxO id L).toNat L
def cutN (id q : Int) (L : List Ord) : Int := if idxO id L = -1 then 7 else if (decide (1 ≤ q) && decide (q ≤ (oAt L (idxO id L).toNat).qty)) = false then 2 else 0
def cutM (id q : Int) (L : List Ord) : List Ord := if idxO id L = -1 then L else if (decide (1 ≤ q) && decide (q ≤ (oAt L (idxO id L).toNat).qty)) = false then L else if (oAt L (idxO id L).toNat).qty = q then goneL (idxO id L).toNat L else L.set (idxO id L).toNat (cutO q (oAt L (idxO id L).toNat))

end Go.Proofs.YtjdkagafdnchhaaGreatDoor
