/-
  How many orders of a side a new one lies behind, over this seat's translation: the program's better and rank. Conditions stand in each theorem.
-/
import Derived.Test.YtcpijeehgdbjbaaPbSide
namespace Go.Proofs.Ytcpijeehgdbjbaa
open Go.RowKit Go.Shelf

attribute [local go_sem] Oper.semAt_some

/-- is the order o better than x, of its side, whichever is older -/
def betterO (o x : Ord) : Bool := if x.kind = 2 then false else if o.kind = 2 then true else if o.side = 1 then decide (x.price < o.price) else decide (o.price < x.price)
def rankN (o : Ord) (l : List Ord) : Nat := (l.takeWhile fun y => !betterO o y).length
theorem rankN_le (o : Ord) (l : List Ord) : rankN o l ≤ l.length := (List.takeWhile_prefix _).length_le
theorem rankN_all {o : Ord} {l : List Ord} (h : ∀ y ∈ l, betterO o y = false) : rankN o l = l.length := by
  unfold rankN
  congr 1
  induction l with
  | nil => rfl
  | cons a l ih => rw [List.takeWhile_cons, h a (by simp)]; simp [ih (fun y hy => h y (by simp [hy]))]
theorem rankN_stop {o x : Ord} {p l : List Ord} (hl : p ++ [x] <+: l) (h : ∀ y ∈ p, betterO o y = false) (hx : betterO o x = true) : rankN o l = p.length := by
  obtain ⟨r, rfl⟩ := hl
  unfold rankN
  rw [List.append_assoc]
  induction p with
  | nil => simp [hx]
  | cons a p ih => rw [List.cons_append, List.takeWhile_cons, h a (by simp)]; simp; simpa using ih (fun y hy => h y (by simp [hy]))

theorem keeps_below {W W' : World} (h : Below W.heap.size W W') : KeepsOthers W W' := KeepsOthers.of_grownBy (grown_of_below h) (fun j o e => by cases e)

set_option maxHeartbeats 2000000 in
theorem better_any (o x : Ord) (w : World) : Calls Try.prog 48 #[o.agg, x.agg] w fun e w' => e = .returned (.bool (betterO o x)) ∧ Below w.heap.size w w' := by
  unfold Ord.agg
  by_cases h1 : x.kind = 2
  · have HR : Hid (betterO o x = false) := if_pos h1
    go_enter Try.func48, Try.ntmps48
    go_wp2
    go_ret
    exact ⟨by rw [HR.out]; rfl, bel2 _ _ _⟩
  have b1 : (x.kind == 2) = false := beq_eq_false_iff_ne.2 h1
  by_cases h2 : o.kind = 2
  · have HR : Hid (betterO o x = true) := by show _ = _; unfold betterO; rw [if_neg h1, if_pos h2]
    clear h1
    go_enter Try.func48, Try.ntmps48
    go_wp2
    go_ret
    exact ⟨by rw [HR.out]; rfl, bel2 _ _ _⟩
  have b2 : (o.kind == 2) = false := beq_eq_false_iff_ne.2 h2
  by_cases h3 : o.side = 1
  · have HR : Hid (betterO o x = decide (x.price < o.price)) := by show _ = _; unfold betterO; rw [if_neg h1, if_neg h2, if_pos h3]
    clear h1 h2
    go_enter Try.func48, Try.ntmps48
    go_wp2
    go_ret
    exact ⟨by rw [HR.out]; rfl, bel2 _ _ _⟩
  have b3 : (o.side == 1) = false := beq_eq_false_iff_ne.2 h3
  have HR : Hid (betterO o x = decide (o.price < x.price)) := by show _ = _; unfold betterO; rw [if_neg h1, if_neg h2, if_neg h3]
  clear h1 h2 h3
  go_enter Try.func48, Try.ntmps48
  go_wp2
  go_ret
  exact ⟨by rw [HR.out]; rfl, bel2 _ _ _⟩

set_option maxRecDepth 100000 in
set_option maxHeartbeats 4000000 in
theorem rank_any (bb ab mb nn s : Nat) (vs vf v0 v1 : Value) (rs : List Sot) (fr : List Nat) (S : Nat → List Ly) (o : Ord) (hs : s < 2) (hlen : (S s).length ≤ 1000)
    (hth : ∀ x ∈ S s, soAt rs x.slot = (some x.o, x.age)) (w : World) (hB : BookAt w bb ab mb nn vs vf v0 v1 rs fr S) :
    Calls Try.prog 36 #[.pointer (some ⟨bb, 0, none⟩), .int .i64 s, o.agg] w fun e W' => e = .returned (.int .i64 (rankN o ((S s).map Ly.o))) ∧ Below w.heap.size w W' := by
  refine (callsIn_wide (n := 4)).1 ?_
  unfold Ord.agg
  refine callsIn_of_wp_marks Try.func36 rfl trivial ?_ rfl
  simp only [Try.ntmps36, List.size_toArray, List.length_cons, List.length_nil, Nat.reduceAdd, Nat.reduceSub, Array.replicate_succ, Array.replicate_zero, List.push_toArray, List.append_toArray, List.nil_append, List.cons_append]
  gi_wp2_with fail
  refine ⟨trivial, (callsIn_wide.2 (lying_any bb _ _)).mono ?_⟩
  rintro e w' ⟨rfl, rfl⟩
  gi_wp2_with fail
  have hB1 := bel2 w (.cells #[.int .i64 o.id, .int .i64 o.side, .int .i64 o.kind, .int .i64 o.price, .int .i64 o.qty] 43) (.cells #[.int .i64 0] 3)
  have bO := two_old w (.cells #[.int .i64 o.id, .int .i64 o.side, .int .i64 o.kind, .int .i64 o.price, .int .i64 o.qty] 43) (.cells #[.int .i64 0] 3)
  have bN := two_new w (.cells #[.int .i64 o.id, .int .i64 o.side, .int .i64 o.kind, .int .i64 o.price, .int .i64 o.qty] 43) (.cells #[.int .i64 0] 3)
  obtain ⟨w2, hw2⟩ : ∃ w2, (w.alloc (.cells #[.int .i64 o.id, .int .i64 o.side, .int .i64 o.kind, .int .i64 o.price, .int .i64 o.qty] 43)).alloc (.cells #[.int .i64 0] 3) = w2 := ⟨_, rfl⟩
  have hz2 : w2.heap.size = w.heap.size + 2 := by rw [← hw2]; simp
  rw [hw2] at hB1 bO bN ⊢
  clear hw2
  have hB2 := bel2 w2 (.cells #[.pointer (some ⟨bb, 0, none⟩)] 39) (.cells #[.int .i64 s] 3)
  have bB := two_old w2 (.cells #[.pointer (some ⟨bb, 0, none⟩)] 39) (.cells #[.int .i64 s] 3)
  have bS := two_new w2 (.cells #[.pointer (some ⟨bb, 0, none⟩)] 39) (.cells #[.int .i64 s] 3)
  obtain ⟨W0, hW0⟩ : ∃ W0, (w2.alloc (.cells #[.pointer (some ⟨bb, 0, none⟩)] 39)).alloc (.cells #[.int .i64 s] 3) = W0 := ⟨_, rfl⟩
  have hsz : W0.heap.size = w.heap.size + 4 := by rw [← hW0]; simp; omega
  rw [hW0] at hB2 bB bS ⊢
  clear hW0
  have bO := blk_below bO hB2 (Nat.le_refl _)
  have bN := blk_below bN hB2 (Nat.le_refl _)
  have hB0 : Below w.heap.size w W0 := bel_then hB1 hB2
  rw [hz2] at bB bS
  have HK : ∀ k, pbB bb ab mb vs vf v0 v1 k → k < w.heap.size := fun k hk => hB.lt hk
  clear hB1 hB2
  refine wpIn_rangeFunc_ownH (F := Fence.wide) (n := 4) rfl (by decide) (gf := 50) (lb := #[.pointer (some ⟨w.heap.size + 2, 0, none⟩), .pointer (some ⟨w.heap.size + 2 + 1, 0, none⟩)]) rfl trivial (enters_of Try.func50 (by kernel_rfl) rfl)
    (lySeq 3 (by decide) (w.heap.size + 2) (w.heap.size + 2 + 1) w.heap.size bb ab mb nn s vs vf v0 v1 rs fr S hs hlen hth HK W0 (by omega) (hB.below hB0 (Nat.le_refl _)) bB bS) kpl_t (kpl_b (by omega)) (Below.refl _ _) (fun _ => rfl)
    (fun pre W => (OrdAt W w.heap.size o ∧ W.heap[w.heap.size + 1]? = some (.cells #[.int .i64 pre.length] 3 (0, 0)) ∧ (∀ y ∈ pre, betterO o y = false)) ∧ Below w.heap.size w W)
    (fun c pre W => (c = .exit 0 ∧ ∃ p x, pre = p ++ [x] ∧ (∀ y ∈ p, betterO o y = false) ∧ betterO o x = true ∧ W.heap[w.heap.size + 1]? = some (.cells #[.int .i64 p.length] 3 (0, 0))) ∧ Below w.heap.size w W)
    (OwnFrom.and (Own.from (fun s A B row hs hg hr => ⟨blk_kept hs.1 hg hr, blk_kept hs.2.1 hg hr, hs.2.2⟩) _) (ownFrom_below (Nat.le_refl _) (by omega)))
    (fun c => OwnFrom.and (Own.from (fun s A B row hs hg hr => by obtain ⟨g0, p, x, g1, g2, g3, g4⟩ := hs; exact ⟨g0, p, x, g1, g2, g3, blk_kept g4 hg hr⟩) _) (ownFrom_below (Nat.le_refl _) (by omega)))
    ⟨⟨bO, bN, fun y hy => by cases hy⟩, hB0⟩
    (fun x a' W => ∃ Bx, OrdAt W Bx x ∧ a' = { tmps := #[.pointer (some ⟨bb, 0, none⟩), .int .i64 s, Ord.agg o, undef, undef, .pointer (some ⟨w.heap.size, 0, none⟩), .int .i64 0, .pointer (some ⟨w.heap.size + 1, 0, none⟩), .pointer (some ⟨Bx, 0, none⟩), .pointer (some ⟨bb, 0, none⟩), .int .i64 s, .func (.func 50) #[] #[.pointer (some ⟨w.heap.size + 2, 0, none⟩), .pointer (some ⟨w.heap.size + 2 + 1, 0, none⟩)], Ord.agg x, undef, undef, undef, undef, undef, undef], defers := [] })
    (fun x a' _ X Y row hs hg hr => by obtain ⟨Bx, h2, h3⟩ := hs; exact ⟨Bx, blk_kept h2 hg (fun r e => (hr r e).2), h3⟩)
    ?assign ?body ?done ?stop
  case assign =>
    rintro l pre x W K ⟨⟨h1, h2, h3⟩, hBW⟩ hK
    have lS := hBW.size
    unfold Ord.agg at hK ⊢
    gi_wp2
    refine hK _ _ ((KeepsOthers.alloc _ _).from _) (KpL.of_below (bel1 _ _) lS) ⟨⟨blk_below h1 (bel1 _ _) (Nat.le_refl _), blk_below h2 (bel1 _ _) (Nat.le_refl _), h3⟩, hBW.alloc hBW.size _⟩ ⟨W.heap.size, heap_alloc_new _ _, rfl⟩
  case body =>
    rintro l pre x a' W hl ⟨r, hr⟩ ⟨⟨h1, h2, h3⟩, hBW⟩ ⟨Bx, bX, rfl⟩ hlt
    have c0 := blk_cell (j := 0) bX rfl
    have c1 := blk_cell (j := 1) bX rfl
    have c2 := blk_cell (j := 2) bX rfl
    have c3 := blk_cell (j := 3) bX rfl
    have c4 := blk_cell (j := 4) bX rfl
    have d0 := blk_cell (j := 0) h1 rfl
    have d1 := blk_cell (j := 1) h1 rfl
    have d2 := blk_cell (j := 2) h1 rfl
    have d3 := blk_cell (j := 3) h1 rfl
    have d4 := blk_cell (j := 4) h1 rfl
    have H1 : Hid _ := h1
    have H2 : Hid _ := h2
    have HBW : Hid (Below w.heap.size w W) := hBW
    clear h1 h2 hBW bX hr
    unfold Ord.agg
    gi_wp2_with fail
    refine ⟨trivial, (CallsIn.inRound l (callsIn_wide.2 (better_any o x _))).mono ?_⟩
    rintro e W1 ⟨rfl, hb1⟩
    have hn1 := blk_below H2.out hb1 (Nat.le_refl _)
    have e0 := blk_cell (j := 0) hn1 rfl
    have e1 := blk_free (j := 0) hn1
    cases hbt : betterO o x with
    | true =>
      gi_wp2_with fail
      exact ⟨(keeps_below hb1).from _, ⟨rfl, pre, x, rfl, h3, hbt, hn1⟩, HBW.out.trans (hb1.mono HBW.out.size)⟩
    | false =>
      gi_wp2_with fail
      have ho1 := blk_below H1.out hb1 (Nat.le_refl _)
      refine ⟨((keeps_below hb1).trans (KeepsOthers.setCell _ _ _)).from _, ⟨(hb1.mono HBW.out.size).setCell (p := ⟨w.heap.size + 1, 0, none⟩) (by simp) _, fun vs t e => ?_⟩, ⟨blk_out ho1 (out_set _ ⟨w.heap.size + 1, 0, none⟩ _) (by simp), ?_, fun y hy => ?_⟩, (HBW.out.trans (hb1.mono HBW.out.size)).setCell (p := ⟨w.heap.size + 1, 0, none⟩) (by simp) _⟩
      · exact blk_out (blk_below e hb1 (Nat.le_refl _)) (out_set _ ⟨w.heap.size + 1, 0, none⟩ _) (by simp)
      · rw [List.length_append]; exact blk_set (j := 0) _ hn1
      · rcases List.mem_append.1 hy with hy | hy
        · exact h3 y hy
        · simp at hy; subst hy; exact hbt
  case done =>
    rintro D ys W hD rfl ⟨⟨h1, h2, h3⟩, hBW⟩ hK
    have hc := blk_cell (j := 0) h2 rfl
    gi_wp2
    refine ⟨by simp, .inl ⟨_, _, rfl, run_takeDeferred hK, ?_⟩⟩
    exact ⟨_, results_tmp rfl _ _ _, by rw [rankN_all h3, List.length_map]; rfl, hBW.trans (belowK_b (w := w) (Nat.le_refl _) W D _ _ (by omega) hK rfl rfl)⟩
  case stop =>
    rintro D c pre W hD hpre ⟨⟨rfl, p, x, rfl, h1, h2, h3⟩, hBW⟩ hK
    have hc := blk_cell (j := 0) h3 rfl
    gi_wp2
    refine ⟨by simp, .inl ⟨_, _, rfl, run_takeDeferred hK, ?_⟩⟩
    exact ⟨_, results_tmp rfl _ _ _, by rw [rankN_stop hpre h1 h2]; rfl, hBW.trans (belowK_b (w := w) (Nat.le_refl _) W D _ _ (by omega) hK rfl rfl)⟩
end Go.Proofs.Ytcpijeehgdbjbaa
