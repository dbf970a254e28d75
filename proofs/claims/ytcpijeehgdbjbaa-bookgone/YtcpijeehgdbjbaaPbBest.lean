/-
  What the program's Best answers, over this seat's translation. Conditions stand in each theorem.
-/
import Derived.Test.YtcpijeehgdbjbaaPbCan
namespace Go.Proofs.Ytcpijeehgdbjbaa
open Go.RowKit Go.Shelf

attribute [local go_sem] Oper.semAt_some

/-- what Best answers on a side that lies so -/
def bestV (l : List Ord) : Value := match l with
  | [] => .tuple #[Ord.none_.agg, .iface 55 (.int .i64 8)]
  | o :: _ => .tuple #[o.agg, .nilIface]

theorem lt_of_some {w : World} {k : Nat} {o : Obj} (h : w.heap[k]? = some o) : k < w.heap.size := (Array.getElem?_eq_some_iff.1 h).1
/-- Best's end: its results lie in cells, its loop's own block is put away -/
theorem best_end {w W : World} {D : Nat} {x : Ord} {e : Value} {tm : Array Value} (h2 : OrdAt W w.heap.size x) (h3 : W.heap[w.heap.size + 1]? = some (.cells #[e] 25 (0, 0))) (hK : W.heap[D]? = some (.deferred (some []))) (hBW : Below w.heap.size w W) (hD : w.heap.size + 2 ≤ D)
    (t4 : tm.getD 4 undef = .pointer (some ⟨w.heap.size, 0, none⟩) := by rfl) (t5 : tm.getD 5 undef = .pointer (some ⟨w.heap.size + 1, 0, none⟩) := by rfl) :
    bodyPostM Fence.wide 4 Try.prog Try.f31 (fun e' W' => e' = .returned (.tuple #[x.agg, e]) ∧ Below w.heap.size w W') Exit.ret { tmps := tm, defers := [{ target := Target.collected D, args := #[] }] } W := by
  have hb := belowK_b (n₀ := w.heap.size) (w := w) (Nat.le_refl _) W D _ (.deferred none) (by omega) hK rfl rfl
  have hb2 := belowK_b (n₀ := w.heap.size + 2) (w := (w.alloc (.deferred none)).alloc (.deferred none)) (by simp) W D _ (.deferred none) (by simp; omega) hK rfl rfl
  have q2 : OrdAt (W.putObj D (.deferred none)) w.heap.size x := (hb2.block w.heap.size (by omega)).trans h2
  have q3 : (W.putObj D (.deferred none)).heap[w.heap.size + 1]? = some (.cells #[e] 25 (0, 0)) := (hb2.block (w.heap.size + 1) (by omega)).trans h3
  have t4' : tm[4]?.getD undef = .pointer (some ⟨w.heap.size, 0, none⟩) := by simpa using t4
  have t5' : tm[5]?.getD undef = .pointer (some ⟨w.heap.size + 1, 0, none⟩) := by simpa using t5
  have a0 := blk_cell (j := 0) q2 rfl
  have a1 := blk_cell (j := 1) q2 rfl
  have a2 := blk_cell (j := 2) q2 rfl
  have a3 := blk_cell (j := 3) q2 rfl
  have a4 := blk_cell (j := 4) q2 rfl
  have b0 := blk_cell (j := 0) q3 rfl
  refine ⟨by simp, .inl ⟨_, _, rfl, run_takeDeferred hK, ?_⟩⟩
  refine ⟨.tuple #[x.agg, e], ?_, rfl, hBW.trans hb⟩
  unfold Ord.agg
  simp [results, Try.results31, go_sem, t4', t5', a0, a1, a2, a3, a4, b0]
  try rfl

set_option maxRecDepth 100000 in
set_option maxHeartbeats 2000000 in
theorem best_any (bb ab mb nn s : Nat) (vs vf v0 v1 : Value) (rs : List Sot) (fr : List Nat) (S : Nat → List Ly) (hs : s < 2) (hlen : (S s).length ≤ 1000)
    (hth : ∀ x ∈ S s, soAt rs x.slot = (some x.o, x.age)) (w : World) (hB : BookAt w bb ab mb nn vs vf v0 v1 rs fr S) (side : Int) (hsd : side = (s : Int) + 1) :
    Calls Try.prog 31 #[.pointer (some ⟨bb, 0, none⟩), .int .i64 side] w fun e W' => e = .returned (bestV ((S s).map Ly.o)) ∧ Below w.heap.size w W' := by
  have hss : (side == 1 || side == 2) = true := by
    subst hsd
    match s, hs with
    | 0, _ => rfl
    | 1, _ => rfl
  have HS : Hid ((side == 1 || side == 2) = true) := hss
  have hsub : IntKind.i64.wrap (side - 1) = (s : Int) := by rw [hsd, show (s : Int) + 1 - 1 = s by omega]; exact IntWalk.i64_in _ (by omega)
  clear hss hsd
  refine (callsIn_wide (n := 4)).1 ?_
  refine callsIn_of_wp_marks Try.func31 rfl trivial ?_ rfl
  simp only [Try.ntmps31, List.size_toArray, List.length_cons, List.length_nil, Nat.reduceAdd, Nat.reduceSub, Array.replicate_succ, Array.replicate_zero, List.push_toArray, List.append_toArray, List.nil_append, List.cons_append]
  gi_wp2_with fail
  refine ⟨trivial, (callsIn_wide.2 (isSide_any side _)).mono ?_⟩
  rintro e w' ⟨rfl, hw⟩
  replace hw := hw.symm
  subst hw
  rw [HS.out]
  gi_wp2_with fail
  refine ⟨trivial, (callsIn_wide.2 (lying_any bb _ _)).mono ?_⟩
  rintro e w' ⟨rfl, rfl⟩
  gi_wp2_with fail
  have hB1 := bel2 w (.cells #[.int .i64 0, .int .i64 0, .int .i64 0, .int .i64 0, .int .i64 0] 43) (.cells #[.nilIface] 25)
  have bO := two_old w (.cells #[.int .i64 0, .int .i64 0, .int .i64 0, .int .i64 0, .int .i64 0] 43) (.cells #[.nilIface] 25)
  have bN := two_new w (.cells #[.int .i64 0, .int .i64 0, .int .i64 0, .int .i64 0, .int .i64 0] 43) (.cells #[.nilIface] 25)
  obtain ⟨w2, hw2⟩ : ∃ w2, (w.alloc (.cells #[.int .i64 0, .int .i64 0, .int .i64 0, .int .i64 0, .int .i64 0] 43)).alloc (.cells #[.nilIface] 25) = w2 := ⟨_, rfl⟩
  have hz2 : w2.heap.size = w.heap.size + 1 + 1 := by rw [← hw2]; simp
  rw [hw2] at hB1 bO bN ⊢
  clear hw2
  have hB2 := bel2 w2 (.cells #[.pointer (some ⟨bb, 0, none⟩)] 39) (.cells #[.int .i64 s] 3)
  have bB := two_old w2 (.cells #[.pointer (some ⟨bb, 0, none⟩)] 39) (.cells #[.int .i64 s] 3)
  have bS := two_new w2 (.cells #[.pointer (some ⟨bb, 0, none⟩)] 39) (.cells #[.int .i64 s] 3)
  obtain ⟨W0, hW0⟩ : ∃ W0, (w2.alloc (.cells #[.pointer (some ⟨bb, 0, none⟩)] 39)).alloc (.cells #[.int .i64 s] 3) = W0 := ⟨_, rfl⟩
  have hsz : W0.heap.size = w.heap.size + 4 := by rw [← hW0]; simp; omega
  rw [hW0] at hB2 bB bS ⊢
  clear hW0
  have bO := blk_below bO hB2 (Nat.le_refl _)
  have bN := blk_below bN hB2 (Nat.le_refl _)
  have hB0 : Below w.heap.size w W0 := bel_then hB1 hB2
  rw [hz2] at bB bS
  have HK : ∀ k, pbB bb ab mb vs vf v0 v1 k → k < w.heap.size := fun k hk => hB.lt hk
  clear hB1 hB2
  refine wpIn_rangeFunc_ownH (F := Fence.wide) (n := 4) rfl (by decide) (gf := 50) (lb := #[.pointer (some ⟨w.heap.size + 1 + 1, 0, none⟩), .pointer (some ⟨w.heap.size + 1 + 1 + 1, 0, none⟩)]) rfl trivial (enters_of Try.func50 (by kernel_rfl) rfl)
    (lySeq 3 (by decide) (w.heap.size + 1 + 1) (w.heap.size + 1 + 1 + 1) w.heap.size bb ab mb nn s vs vf v0 v1 rs fr S hs hlen hth HK W0 (by omega) (hB.below hB0 (Nat.le_refl _)) bB bS) kpl_t (kpl_b (by omega)) (Below.refl _ _) (fun _ => rfl)
    (fun pre W => (pre = [] ∧ OrdAt W w.heap.size Ord.none_ ∧ W.heap[w.heap.size + 1]? = some (.cells #[.nilIface] 25 (0, 0))) ∧ Below w.heap.size w W)
    (fun c pre W => (c = .ret ∧ ∃ x, pre = [x] ∧ OrdAt W w.heap.size x ∧ W.heap[w.heap.size + 1]? = some (.cells #[.nilIface] 25 (0, 0))) ∧ Below w.heap.size w W)
    (OwnFrom.and (Own.from (fun s A B row hs hg hr => ⟨hs.1, blk_kept hs.2.1 hg hr, blk_kept hs.2.2 hg hr⟩) _) (ownFrom_below (Nat.le_refl _) (by omega)))
    (fun c => OwnFrom.and (Own.from (fun s A B row hs hg hr => by obtain ⟨g0, x, g1, g2, g3⟩ := hs; exact ⟨g0, x, g1, blk_kept g2 hg hr, blk_kept g3 hg hr⟩) _) (ownFrom_below (Nat.le_refl _) (by omega)))
    ⟨⟨rfl, bO, bN⟩, hB0⟩
    (fun x a' W => ∃ Bx, OrdAt W Bx x ∧ a' = { tmps := #[.pointer (some ⟨bb, 0, none⟩), .int .i64 side, undef, undef, .pointer (some ⟨w.heap.size, 0, none⟩), .pointer (some ⟨w.heap.size + 1, 0, none⟩), .pointer (some ⟨Bx, 0, none⟩), .int .i64 side, .bool true, .bool false, undef, undef, .pointer (some ⟨bb, 0, none⟩), .int .i64 side, .int .i64 s, .func (.func 50) #[] #[.pointer (some ⟨w.heap.size + 1 + 1, 0, none⟩), .pointer (some ⟨w.heap.size + 1 + 1 + 1, 0, none⟩)], Ord.agg x, undef, undef, undef], defers := [] })
    (fun x a' _ X Y row hs hg hr => by obtain ⟨Bx, h2, h3⟩ := hs; exact ⟨Bx, blk_kept h2 hg (fun r e => (hr r e).2), h3⟩)
    ?assign ?body ?done ?stop
  case assign =>
    rintro l pre x W K ⟨⟨h1, h2, h3⟩, hBW⟩ hK
    have lS := hBW.size
    unfold Ord.agg at hK ⊢
    gi_wp2
    refine hK _ _ ((KeepsOthers.alloc _ _).from _) (KpL.of_below (bel1 _ _) lS) ⟨⟨h1, blk_below h2 (bel1 _ _) (Nat.le_refl _), blk_below h3 (bel1 _ _) (Nat.le_refl _)⟩, hBW.alloc hBW.size _⟩ ⟨W.heap.size, heap_alloc_new _ _, rfl⟩
  case body =>
    rintro l pre x a' W hl ⟨r, hr⟩ ⟨⟨rfl, h2, h3⟩, hBW⟩ ⟨Bx, bX, rfl⟩ hlt
    have c0 := blk_cell (j := 0) bX rfl
    have c1 := blk_cell (j := 1) bX rfl
    have c2 := blk_cell (j := 2) bX rfl
    have c3 := blk_cell (j := 3) bX rfl
    have c4 := blk_cell (j := 4) bX rfl
    have d0 := blk_free (j := 0) h2
    have d1 := blk_free (j := 1) h2
    have d2 := blk_free (j := 2) h2
    have d3 := blk_free (j := 3) h2
    have d4 := blk_free (j := 4) h2
    have e0 := blk_free (j := 0) h3
    have E0 := blk_cell (j := 0) h3 rfl
    have D0 := blk_cell (j := 0) h2 rfl
    have D1 := blk_cell (j := 1) h2 rfl
    have D2 := blk_cell (j := 2) h2 rfl
    have D3 := blk_cell (j := 3) h2 rfl
    have D4 := blk_cell (j := 4) h2 rfl
    have H2 : Hid _ := h2
    have H3 : Hid _ := h3
    have HBW : Hid (Below w.heap.size w W) := hBW
    clear h2 h3 hBW bX hr
    unfold Ord.agg
    gi_wp2_with fail
    have o5 : Out (fun j => j = w.heap.size) W _ := out_setIn (p := ⟨w.heap.size, 4, none⟩) (u := .int .i64 x.qty) (out_setIn (p := ⟨w.heap.size, 3, none⟩) (u := .int .i64 x.price) (out_setIn (p := ⟨w.heap.size, 2, none⟩) (u := .int .i64 x.kind) (out_setIn (p := ⟨w.heap.size, 1, none⟩) (u := .int .i64 x.side) (out_setIn (p := ⟨w.heap.size, 0, none⟩) (u := .int .i64 x.id) (Out.refl _ _) rfl) rfl) rfl) rfl) rfl
    have g2 := blk_set (j := 4) (.int .i64 x.qty) (blk_set (j := 3) (.int .i64 x.price) (blk_set (j := 2) (.int .i64 x.kind) (blk_set (j := 1) (.int .i64 x.side) (blk_set (j := 0) (.int .i64 x.id) H2.out))))
    have g3 := blk_set (j := 0) .nilIface (blk_out H3.out o5 (by simp))
    refine ⟨((((((KeepsOthers.setCell _ _ _).trans (KeepsOthers.setCell _ _ _)).trans (KeepsOthers.setCell _ _ _)).trans (KeepsOthers.setCell _ _ _)).trans (KeepsOthers.setCell _ _ _)).trans (KeepsOthers.setCell _ _ _)).from _, ⟨rfl, x, rfl, blk_out g2 (out_set _ ⟨w.heap.size + 1, 0, none⟩ _) (by simp), g3⟩, ?_⟩
    exact HBW.out.trans (((((((Below.refl _ W).setCell (p := ⟨w.heap.size, 0, none⟩) (by simp) _).setCell (p := ⟨w.heap.size, 1, none⟩) (by simp) _).setCell (p := ⟨w.heap.size, 2, none⟩) (by simp) _).setCell (p := ⟨w.heap.size, 3, none⟩) (by simp) _).setCell (p := ⟨w.heap.size, 4, none⟩) (by simp) _).setCell (p := ⟨w.heap.size + 1, 0, none⟩) (by simp) _)
  case done =>
    rintro D ys W hD rfl ⟨⟨h1, h2, h3⟩, hBW⟩ hK
    have d0 := blk_free (j := 0) h2
    have d1 := blk_free (j := 1) h2
    have d2 := blk_free (j := 2) h2
    have d3 := blk_free (j := 3) h2
    have d4 := blk_free (j := 4) h2
    have e0 := blk_free (j := 0) h3
    have E0 := blk_cell (j := 0) h3 rfl
    have D0 := blk_cell (j := 0) h2 rfl
    have D1 := blk_cell (j := 1) h2 rfl
    have D2 := blk_cell (j := 2) h2 rfl
    have D3 := blk_cell (j := 3) h2 rfl
    have D4 := blk_cell (j := 4) h2 rfl
    gi_wp2
    have o5 : Out (fun j => j = w.heap.size) W _ := out_setIn (p := ⟨w.heap.size, 4, none⟩) (u := .int .i64 0) (out_setIn (p := ⟨w.heap.size, 3, none⟩) (u := .int .i64 0) (out_setIn (p := ⟨w.heap.size, 2, none⟩) (u := .int .i64 0) (out_setIn (p := ⟨w.heap.size, 1, none⟩) (u := .int .i64 0) (out_setIn (p := ⟨w.heap.size, 0, none⟩) (u := .int .i64 0) (Out.refl _ _) rfl) rfl) rfl) rfl) rfl
    have g2 := blk_set (j := 4) (.int .i64 0) (blk_set (j := 3) (.int .i64 0) (blk_set (j := 2) (.int .i64 0) (blk_set (j := 1) (.int .i64 0) (blk_set (j := 0) (.int .i64 0) h2))))
    have g2 := blk_out g2 (out_set _ ⟨w.heap.size + 1, 0, none⟩ (.iface 55 (.int .i64 8))) (by simp)
    have g3 := blk_set (j := 0) (.iface 55 (.int .i64 8)) (blk_out h3 o5 (by simp))
    have hbw := hBW.trans (((((((Below.refl _ W).setCell (p := ⟨w.heap.size, 0, none⟩) (by simp) (.int .i64 0)).setCell (p := ⟨w.heap.size, 1, none⟩) (by simp) (.int .i64 0)).setCell (p := ⟨w.heap.size, 2, none⟩) (by simp) (.int .i64 0)).setCell (p := ⟨w.heap.size, 3, none⟩) (by simp) (.int .i64 0)).setCell (p := ⟨w.heap.size, 4, none⟩) (by simp) (.int .i64 0)).setCell (p := ⟨w.heap.size + 1, 0, none⟩) (by simp) (.iface 55 (.int .i64 8)))
    have lD : D < W.heap.size := lt_of_some hK
    have hK6 := ((out_set _ ⟨w.heap.size + 1, 0, none⟩ (.iface 55 (.int .i64 8))).block D (Nat.lt_of_lt_of_le lD o5.size) (by show ¬ (D = w.heap.size + 1); omega)).trans ((o5.block D lD (by show ¬ (D = w.heap.size); omega)).trans hK)
    clear o5
    have hbe : bestV ((S s).map Ly.o) = .tuple #[Ord.none_.agg, .iface 55 (.int .i64 8)] := by rw [h1]; rfl
    rw [hbe]
    exact best_end g2 g3 hK6 hbw (by omega)
  case stop =>
    rintro D c pre W hD hpre ⟨⟨rfl, x, rfl, h2, h3⟩, hBW⟩ hK
    have hbe : bestV ((S s).map Ly.o) = .tuple #[x.agg, .nilIface] := by
      obtain ⟨r, hr⟩ := hpre
      rw [← hr]; rfl
    gi_wp2
    rw [hbe]
    exact best_end h2 h3 hK hBW (by omega)

set_option maxRecDepth 100000 in
set_option maxHeartbeats 1000000 in
theorem best_arg (bb : Nat) (w : World) (side : Int) (hss : (side == 1 || side == 2) = false) :
    Calls Try.prog 31 #[.pointer (some ⟨bb, 0, none⟩), .int .i64 side] w fun e W' => e = .returned (.tuple #[Ord.none_.agg, .iface 55 (.int .i64 1)]) ∧ Below w.heap.size w W' := by
  have HS : Hid ((side == 1 || side == 2) = false) := hss
  clear hss
  unfold Ord.agg Ord.none_
  go_enter Try.func31, Try.ntmps31
  go_wp2_with fail
  refine (isSide_any side _).mono ?_
  rintro e w1 ⟨rfl, hw⟩
  replace hw := hw.symm
  subst hw
  rw [HS.out]
  go_wp2_with fail
  refine bodyPost_ret (by simp [results, Try.results31, go_sem]; try rfl) rfl ?_
  exact ⟨rfl, bel2 _ _ _⟩

/-- 4.2, Best of a book in memory -/
theorem pbBest (bb m s : Nat) (b : BkS) (w : World) (h : Bk w bb m b) (hs : s < 2) (side : Int) (hsd : side = (s : Int) + 1) :
    Calls Try.prog 31 #[.pointer (some ⟨bb, 0, none⟩), .int .i64 side] w fun e W' => e = .returned (bestV ((b.S s).map Ly.o)) ∧ Below w.heap.size w W' :=
  best_any bb b.ab b.mb b.n s b.vs b.vf b.v0 b.v1 b.rs b.fr b.S hs (by have h1 := (pb_len b.S [] hs).2; have h2 := h.ok.most; omega) (h.ok.there s hs) w h.at_ side hsd
/-- 4.2, Side of a book in memory -/
theorem pbSideOf (bb m s : Nat) (b : BkS) (w : World) (h : Bk w bb m b) (hs : s < 2) (side : Int) (hsd : side = (s : Int) + 1) :
    Calls Try.prog 20 #[.pointer (some ⟨bb, 0, none⟩), .int .i64 side] w
      fun e W' => ∃ v, e = .returned (.tuple #[v, .nilIface]) ∧ W'.ownsRow w.heap.size 43 5 v (b.S s).length (oV ((b.S s).map Ly.o)) ∧ Below w.heap.size w W' :=
  pbSide bb b.ab b.mb b.n s b.vs b.vf b.v0 b.v1 b.rs b.fr b.S hs (by have h1 := (pb_len b.S [] hs).2; have h2 := h.ok.most; omega) (h.ok.there s hs) w h.at_ side hsd
end Go.Proofs.Ytcpijeehgdbjbaa
