/-
  What the program's Side returns (by slices.Collect and slices.AppendSeq over the iterator), over this seat's translation. Conditions stand in each theorem.
-/
import Derived.Test.YtjdkagafdnchhaaGreatDoorLB
import Derived.Maps.AppendAt
import Derived.Shelf.Spec.SlicesInsert
import Derived.Lib.AppendZerosOnto
import Derived.Deep.RegionLaw
import Derived.Laws.CopyRow
import Derived.Test.YtjdkagafdnchhaaGreatDoorRows
import Derived.WalkKit
import Derived.WalkSpells
import Derived.WalkLawsBesides
import Derived.Handy
import Derived.BigQuiet
import Derived.OwnWalk
import Derived.OneCell
import Derived.Deep.QuietTactic
import Derived.Deep.AppendLies
import Derived.Test.YtjdkagafdnchhaaGreatDoorLA
namespace Go.Proofs.YtjdkagafdnchhaaGreatDoor
open Go.RowKit Go.Shelf

attribute [local go_sem] Oper.semAt_some

theorem blk_kept {W W' : World} {row : Option Nat} {b : Nat} {vs : Array Value} {t : TypeId} {f : Nat × Nat} (h : W.heap[b]? = some (.cells vs t f)) (hg : W.grownBy W' row) (hr : ∀ r, row = some r → ∃ o : Obj, W.heap[r]? = some o ∧ o.isCells = false) : W'.heap[b]? = some (.cells vs t f) :=
  (hg.block b (lt_of_block h) (fun e => by
    obtain ⟨o, ho, hc⟩ := hr b e.symm
    rw [h] at ho; injection ho with ho; subst ho; cases hc)).trans h
/-- an order's cells in a block of their own -/
def OrdAt (W : World) (b : Nat) (x : Ord) : Prop := W.heap[b]? = some (.cells #[.int .i64 x.id, .int .i64 x.side, .int .i64 x.kind, .int .i64 x.price, .int .i64 x.qty] 41 (0, 0))

theorem Tryz.infoO : (Tryz.prog.info? 41).map (fun i => (i.zero, i.size, i.bytes)) = some (some (.agg #[.int .i64 0, .int .i64 0, .int .i64 0, .int .i64 0, .int .i64 0]), 5, 40) := by kernel_rfl
theorem oV_snoc (l : List Ord) (x : Ord) : oV (l ++ [x]) = oV l ++ [.int .i64 x.id, .int .i64 x.side, .int .i64 x.kind, .int .i64 x.price, .int .i64 x.qty] := by rw [oV_append]; rfl

set_option maxRecDepth 100000 in
set_option maxHeartbeats 4000000 in
theorem appendSeq_any (Bb Bs bb ab mb nn s : Nat) (vs vf v0 v1 : Value) (rs : List Sot) (fr : List Nat) (S : Nat → List Ly) (hs : s < 2) (hlen : (S s).length ≤ 1000)
    (hth : ∀ x ∈ S s, soAt rs x.slot = (some x.o, x.age)) (w : World) (hB : BookAt w bb ab mb nn vs vf v0 v1 rs fr S) (hbb : w.heap[Bb]? = some (.cells #[.pointer (some ⟨bb, 0, none⟩)] 94 (0, 0))) (hbs : w.heap[Bs]? = some (.cells #[.int .i64 s] 3 (0, 0))) :
    Calls Tryz.prog 161 #[.slice none 0 0, .func (.func 162) #[] #[.pointer (some ⟨Bb, 0, none⟩), .pointer (some ⟨Bs, 0, none⟩)]] w
      fun e W' => ∃ v, e = .returned v ∧ W'.ownsRow w.heap.size 41 5 v (S s).length (oV ((S s).map Ly.o)) ∧ Below w.heap.size w W' := by
  obtain ⟨i0, hi, hz0, hz1, hz2⟩ := info_parts Tryz.infoO
  refine (callsIn_wide (n := 4)).1 ?_
  refine callsIn_of_wp_marks Tryz.func161 rfl trivial ?_ rfl
  simp only [Tryz.ntmps161, List.size_toArray, List.length_cons, List.length_nil, Nat.reduceAdd, Nat.reduceSub, Array.replicate_succ, Array.replicate_zero, List.push_toArray, List.append_toArray, List.nil_append, List.cons_append]
  gi_wp2_with fail
  have bO := Boxed.new w 59 (.slice none 0 0)
  have hB0 := bel1 w (.cells #[.slice none 0 0] 59)
  have HK : ∀ k, pbB bb ab mb vs vf v0 v1 k → k < w.heap.size := fun k hk => hB.lt hk
  have lBb := lt_of_block hbb
  obtain ⟨W0, hW0⟩ : ∃ W0, w.alloc (.cells #[.slice none 0 0] 59) = W0 := ⟨_, rfl⟩
  have hsz : W0.heap.size = w.heap.size + 1 := by rw [← hW0]; simp
  rw [hW0] at bO hB0 ⊢
  clear hW0
  refine wpIn_rangeFunc_ownH (F := Fence.wide) (n := 4) rfl (by decide) (gf := 162) (lb := #[.pointer (some ⟨Bb, 0, none⟩), .pointer (some ⟨Bs, 0, none⟩)]) rfl trivial (enters_of Tryz.func162 (by kernel_rfl) rfl)
    (lySeq 3 (by decide) Bb Bs w.heap.size bb ab mb nn s vs vf v0 v1 rs fr S hs hlen hth HK W0 (by omega) (hB.below hB0 (Nat.le_refl _)) (blk_below hbb hB0 (Nat.le_refl _)) (blk_below hbs hB0 (Nat.le_refl _))) kpl_t (kpl_b (by omega)) (Below.refl _ _) (fun _ => rfl)
    (fun pre W => (∃ v, Boxed W w.heap.size 59 v ∧ W.ownsRow w.heap.size 41 5 v pre.length (oV pre) ∧ True) ∧ Below w.heap.size w W)
    (fun _ _ _ => False)
    (OwnFrom.and (Own.from (holdsRow_own w.heap.size w.heap.size 59 41 5 (fun pre => pre.length) (fun pre => oV pre) (fun _ _ => True)) _) (ownFrom_below (Nat.le_refl _) (by omega)))
    (fun _ _ _ _ _ hs _ _ => hs)
    ⟨⟨_, bO, World.ownsRow_nil _ _ _ _, trivial⟩, hB0⟩
    (fun x a' W => ∃ Bx, w.heap.size < Bx ∧ OrdAt W Bx x ∧ a' = { tmps := #[.slice none 0 0, .func (.func 162) #[] #[.pointer (some ⟨Bb, 0, none⟩), .pointer (some ⟨Bs, 0, none⟩)], .pointer (some ⟨w.heap.size, 0, none⟩), undef, .slice none 0 0, .pointer (some ⟨Bx, 0, none⟩), .func (.func 162) #[] #[.pointer (some ⟨Bb, 0, none⟩), .pointer (some ⟨Bs, 0, none⟩)], Ord.agg x, undef, undef, undef, undef, undef], defers := [] })
    (fun x a' _ X Y row hs hg hr => by obtain ⟨Bx, h1, h2, h3⟩ := hs; exact ⟨Bx, h1, blk_kept h2 hg (fun r e => (hr r e).2), h3⟩)
    ?assign ?body ?done ?stop
  case assign =>
    rintro l pre x W K ⟨⟨v, hv, hrow, _⟩, hBW⟩ hK
    unfold Ord.agg at hK ⊢
    gi_wp2
    refine hK _ _ ((KeepsOthers.alloc _ _).from _) (KpL.of_below (bel1 _ _) hBW.size) ⟨⟨v, hv.alloc _, hrow.alloc _, trivial⟩, hBW.alloc hBW.size _⟩ ⟨W.heap.size, hv.lt, heap_alloc_new _ _, rfl⟩
  case body =>
    rintro l pre x a' W hl ⟨r, hr⟩ ⟨⟨v, hv, hrow, _⟩, hBW⟩ ⟨Bx, hBx, bX, rfl⟩ hlt
    have hc := hv.cell
    have c0 := blk_cell (j := 0) bX rfl
    have c1 := blk_cell (j := 1) bX rfl
    have c2 := blk_cell (j := 2) bX rfl
    have c3 := blk_cell (j := 3) bX rfl
    have c4 := blk_cell (j := 4) bX rfl
    have HBS := hBW.size
    unfold Ord.agg
    gi_wp2_with (gi_at_builtin; refine wpListIn_append_own _ rfl _ _ 59 rfl w.heap.size 41 i0 (.agg #[.int .i64 0, .int .i64 0, .int .i64 0, .int .i64 0, .int .i64 0]) 5 40 Tryz.underlying59 hi hz0 hz1 hz2 rfl (by decide) _ _ _ rfl (hrow.alloc _) ⟨W.heap.size, 0, none⟩ 1 1 [.int .i64 x.id, .int .i64 x.side, .int .i64 x.kind, .int .i64 x.price, .int .i64 x.qty] rfl rfl (World.news_of_block (cs := #[.int .i64 x.id, .int .i64 x.side, .int .i64 x.kind, .int .i64 x.price, .int .i64 x.qty]) (t := 41) (fr := (0, 0)) (heap_alloc_new W _)) (by simp [Value.oneCell']) (by unfold maxLen; omega) (by omega) (by simp; omega) ?_; intro v' w1 hown' hgrow _; obtain ⟨g', cap', rfl⟩ := ownsRow_succ hown'; obtain ⟨hv1, hv2, hr2, hk2, hb2⟩ := hv.appended (by decide) hrow hBW.size (Nat.le_refl _) hown' hgrow; have hc1 := hv1.cell; have hf1 := hv1.frozen)
    exact ⟨hk2.from _, ⟨hb2, fun _ _ e => (hb2.block Bb lBb).trans e⟩, ⟨_, hv2, by rw [oV_snoc, List.length_append]; exact hr2, trivial⟩, hBW.trans hb2⟩
  case done =>
    rintro D ys W hD rfl ⟨⟨v, hv, hrow, _⟩, hBW⟩ hK
    have hc := hv.cell
    gi_wp2
    refine ⟨by simp, .inl ⟨_, _, rfl, run_takeDeferred hK, ?_⟩⟩
    exact ⟨_, results_tmp rfl _ _ _, v, rfl, by simpa using ownsRow_putObj hrow _ hK rfl, hBW.trans (belowK_b (w := w) (Nat.le_refl _) W D _ _ (by omega) hK rfl rfl)⟩
  case stop =>
    rintro D c pre W _ _ h _
    exact h.elim

set_option maxHeartbeats 1000000 in
theorem collect_any (Bb Bs bb ab mb nn s : Nat) (vs vf v0 v1 : Value) (rs : List Sot) (fr : List Nat) (S : Nat → List Ly) (hs : s < 2) (hlen : (S s).length ≤ 1000)
    (hth : ∀ x ∈ S s, soAt rs x.slot = (some x.o, x.age)) (w : World) (hB : BookAt w bb ab mb nn vs vf v0 v1 rs fr S) (hbb : w.heap[Bb]? = some (.cells #[.pointer (some ⟨bb, 0, none⟩)] 94 (0, 0))) (hbs : w.heap[Bs]? = some (.cells #[.int .i64 s] 3 (0, 0))) :
    Calls Tryz.prog 111 #[.func (.func 162) #[] #[.pointer (some ⟨Bb, 0, none⟩), .pointer (some ⟨Bs, 0, none⟩)]] w
      fun e W' => ∃ v, e = .returned v ∧ W'.ownsRow w.heap.size 41 5 v (S s).length (oV ((S s).map Ly.o)) ∧ Below w.heap.size w W' := by
  have H : Hid (BookAt w bb ab mb nn vs vf v0 v1 rs fr S) := hB
  have HT : Hid (∀ x ∈ S s, soAt rs x.slot = (some x.o, x.age)) := hth
  have H3 : Hid _ := hbb
  have H4 : Hid _ := hbs
  clear hB hbb hbs hth
  go_enter Tryz.func111, Tryz.ntmps111
  go_wp2_with fail
  refine (appendSeq_any Bb Bs bb ab mb nn s vs vf v0 v1 rs fr S hs hlen HT.out w H.out H3.out H4.out).mono ?_
  rintro e w1 ⟨v, rfl, h1, h2⟩
  have H1 : Hid _ := h1
  have H2 : Hid _ := h2
  clear h1 h2
  go_wp2
  go_ret
  exact ⟨v, rfl, H1.out, H2.out⟩

/-- 4.2, Side: its orders, the best first -/
theorem pbSide (bb ab mb nn s : Nat) (vs vf v0 v1 : Value) (rs : List Sot) (fr : List Nat) (S : Nat → List Ly) (hs : s < 2) (hlen : (S s).length ≤ 1000)
    (hth : ∀ x ∈ S s, soAt rs x.slot = (some x.o, x.age)) (w : World) (hB : BookAt w bb ab mb nn vs vf v0 v1 rs fr S) (side : Int) (hsd : side = (s : Int) + 1) :
    Calls Tryz.prog 69 #[.pointer (some ⟨bb, 0, none⟩), .int .i64 side] w
      fun e W' => ∃ v, e = .returned (.tuple #[v, .nilIface]) ∧ W'.ownsRow w.heap.size 41 5 v (S s).length (oV ((S s).map Ly.o)) ∧ Below w.heap.size w W' := by
  have hss : (side == 1 || side == 2) = true := by
    subst hsd
    match s, hs with
    | 0, _ => rfl
    | 1, _ => rfl
  have HS : Hid ((side == 1 || side == 2) = true) := hss
  have hsub : IntKind.i64.wrap (side - 1) = (s : Int) := by rw [hsd, show (s : Int) + 1 - 1 = s by omega]; exact IntWalk.i64_in _ (by omega)
  have H : Hid (BookAt w bb ab mb nn vs vf v0 v1 rs fr S) := hB
  have HT : Hid (∀ x ∈ S s, soAt rs x.slot = (some x.o, x.age)) := hth
  have HSD : Hid (side = (s : Int) + 1) := hsd
  clear hB hss hth hsd
  go_enter Tryz.func69, Tryz.ntmps69
  go_wp2_with fail
  refine (isSide_any side _).mono ?_
  rintro e w1 ⟨rfl, hw⟩
  replace hw := hw.symm
  subst hw
  rw [HS.out]
  go_wp2_with fail
  refine (lying_any bb _ _).mono ?_
  rintro e w1 ⟨rfl, rfl⟩
  go_wp2_with fail
  have hb := bel2 w (.cells #[.pointer (some ⟨bb, 0, none⟩)] 94) (.cells #[.int .i64 s] 3)
  refine (collect_any w.heap.size (w.heap.size + 1) bb ab mb nn s vs vf v0 v1 rs fr S hs hlen HT.out _ (H.out.below hb (Nat.le_refl _)) (two_old w _ _) (two_new w _ _)).mono ?_
  rintro e w2 ⟨v, rfl, h1, h2⟩
  have H1 : Hid _ := h1
  have H2 : Hid _ := h2
  clear h1 h2
  go_wp2
  go_ret2
  exact ⟨v, rfl, ⟨H1.out.1, H1.out.2.imp id (fun ⟨g, cap, cur, a, b, c⟩ => ⟨g, cap, cur, a, by simp at b; omega, c⟩)⟩, bel_then hb H2.out⟩
end Go.Proofs.YtjdkagafdnchhaaGreatDoor

/-
  How many orders of a side a new one lies behind, over this seat's translation: the program's better and rank. Conditions stand in each theorem.
-/
namespace Go.Proofs.YtjdkagafdnchhaaGreatDoor
open Go.RowKit Go.Shelf

attribute [local go_sem] Oper.semAt_some

/-- is the order o better than x, of its side, whichever is older -/
def betterO (o x : Ord) : Bool := if x.kind = 2 then false else if o.kind = 2 then true else if o.side = 1 then decide (x.price < o.price) else decide (o.price < x.price)
def rankN (o : Ord) (l : List Ord) : Nat := (l.takeWhile fun y => !betterO o y).length
theorem rankN_le (o : Ord) (l : List Ord) : rankN o l ≤ l.length := (List.takeWhile_prefix _).length_le
theorem rankN_all {o : Ord} {l : List Ord} (h : ∀ y ∈ l, betterO o y = false) : rankN o l = l.length := by
  unfold rankN
  congr 1
  induction l with
  | nil => rfl
  | cons a l ih => rw [List.takeWhile_cons, h a (by simp)]; simp [ih (fun y hy => h y (by simp [hy]))]
theorem rankN_stop {o x : Ord} {p l : List Ord} (hl : p ++ [x] <+: l) (h : ∀ y ∈ p, betterO o y = false) (hx : betterO o x = true) : rankN o l = p.length := by
  obtain ⟨r, rfl⟩ := hl
  unfold rankN
  rw [List.append_assoc]
  induction p with
  | nil => simp [hx]
  | cons a p ih => rw [List.cons_append, List.takeWhile_cons, h a (by simp)]; simp; simpa using ih (fun y hy => h y (by simp [hy]))

theorem keeps_below {W W' : World} (h : Below W.heap.size W W') : KeepsOthers W W' := KeepsOthers.of_grownBy (grown_of_below h) (fun j o e => by cases e)

set_option maxHeartbeats 2000000 in
theorem better_any (o x : Ord) (w : World) : Calls Tryz.prog 191 #[o.agg, x.agg] w fun e w' => e = .returned (.bool (betterO o x)) ∧ Below w.heap.size w w' := by
  unfold Ord.agg
  by_cases h1 : x.kind = 2
  · have HR : Hid (betterO o x = false) := if_pos h1
    go_enter Tryz.func191, Tryz.ntmps191
    go_wp2
    go_ret
    exact ⟨by rw [HR.out]; rfl, bel2 _ _ _⟩
  have b1 : (x.kind == 2) = false := beq_eq_false_iff_ne.2 h1
  by_cases h2 : o.kind = 2
  · have HR : Hid (betterO o x = true) := by show _ = _; unfold betterO; rw [if_neg h1, if_pos h2]
    clear h1
    go_enter Tryz.func191, Tryz.ntmps191
    go_wp2
    go_ret
    exact ⟨by rw [HR.out]; rfl, bel2 _ _ _⟩
  have b2 : (o.kind == 2) = false := beq_eq_false_iff_ne.2 h2
  by_cases h3 : o.side = 1
  · have HR : Hid (betterO o x = decide (x.price < o.price)) := by show _ = _; unfold betterO; rw [if_neg h1, if_neg h2, if_pos h3]
    clear h1 h2
    go_enter Tryz.func191, Tryz.ntmps191
    go_wp2
    go_ret
    exact ⟨by rw [HR.out]; rfl, bel2 _ _ _⟩
  have b3 : (o.side == 1) = false := beq_eq_false_iff_ne.2 h3
  have HR : Hid (betterO o x = decide (o.price < x.price)) := by show _ = _; unfold betterO; rw [if_neg h1, if_neg h2, if_neg h3]
  clear h1 h2 h3
  go_enter Tryz.func191, Tryz.ntmps191
  go_wp2
  go_ret
  exact ⟨by rw [HR.out]; rfl, bel2 _ _ _⟩

set_option maxRecDepth 100000 in
set_option maxHeartbeats 4000000 in
theorem rank_any (bb ab mb nn s : Nat) (vs vf v0 v1 : Value) (rs : List Sot) (fr : List Nat) (S : Nat → List Ly) (o : Ord) (hs : s < 2) (hlen : (S s).length ≤ 1000)
    (hth : ∀ x ∈ S s, soAt rs x.slot = (some x.o, x.age)) (w : World) (hB : BookAt w bb ab mb nn vs vf v0 v1 rs fr S) :
    Calls Tryz.prog 151 #[.pointer (some ⟨bb, 0, none⟩), .int .i64 s, o.agg] w fun e W' => e = .returned (.int .i64 (rankN o ((S s).map Ly.o))) ∧ Below w.heap.size w W' := by
  refine (callsIn_wide (n := 4)).1 ?_
  unfold Ord.agg
  refine callsIn_of_wp_marks Tryz.func151 rfl trivial ?_ rfl
  simp only [Tryz.ntmps151, List.size_toArray, List.length_cons, List.length_nil, Nat.reduceAdd, Nat.reduceSub, Array.replicate_succ, Array.replicate_zero, List.push_toArray, List.append_toArray, List.nil_append, List.cons_append]
  gi_wp2_with fail
  refine ⟨trivial, (callsIn_wide.2 (lying_any bb _ _)).mono ?_⟩
  rintro e w' ⟨rfl, rfl⟩
  gi_wp2_with fail
  have hB1 := bel2 w (.cells #[.int .i64 o.id, .int .i64 o.side, .int .i64 o.kind, .int .i64 o.price, .int .i64 o.qty] 41) (.cells #[.int .i64 0] 3)
  have bO := two_old w (.cells #[.int .i64 o.id, .int .i64 o.side, .int .i64 o.kind, .int .i64 o.price, .int .i64 o.qty] 41) (.cells #[.int .i64 0] 3)
  have bN := two_new w (.cells #[.int .i64 o.id, .int .i64 o.side, .int .i64 o.kind, .int .i64 o.price, .int .i64 o.qty] 41) (.cells #[.int .i64 0] 3)
  obtain ⟨w2, hw2⟩ : ∃ w2, (w.alloc (.cells #[.int .i64 o.id, .int .i64 o.side, .int .i64 o.kind, .int .i64 o.price, .int .i64 o.qty] 41)).alloc (.cells #[.int .i64 0] 3) = w2 := ⟨_, rfl⟩
  have hz2 : w2.heap.size = w.heap.size + 2 := by rw [← hw2]; simp
  rw [hw2] at hB1 bO bN ⊢
  clear hw2
  have hB2 := bel2 w2 (.cells #[.pointer (some ⟨bb, 0, none⟩)] 94) (.cells #[.int .i64 s] 3)
  have bB := two_old w2 (.cells #[.pointer (some ⟨bb, 0, none⟩)] 94) (.cells #[.int .i64 s] 3)
  have bS := two_new w2 (.cells #[.pointer (some ⟨bb, 0, none⟩)] 94) (.cells #[.int .i64 s] 3)
  obtain ⟨W0, hW0⟩ : ∃ W0, (w2.alloc (.cells #[.pointer (some ⟨bb, 0, none⟩)] 94)).alloc (.cells #[.int .i64 s] 3) = W0 := ⟨_, rfl⟩
  have hsz : W0.heap.size = w.heap.size + 4 := by rw [← hW0]; simp; omega
  rw [hW0] at hB2 bB bS ⊢
  clear hW0
  have bO := blk_below bO hB2 (Nat.le_refl _)
  have bN := blk_below bN hB2 (Nat.le_refl _)
  have hB0 : Below w.heap.size w W0 := bel_then hB1 hB2
  rw [hz2] at bB bS
  have HK : ∀ k, pbB bb ab mb vs vf v0 v1 k → k < w.heap.size := fun k hk => hB.lt hk
  clear hB1 hB2
  refine wpIn_rangeFunc_ownH (F := Fence.wide) (n := 4) rfl (by decide) (gf := 162) (lb := #[.pointer (some ⟨w.heap.size + 2, 0, none⟩), .pointer (some ⟨w.heap.size + 2 + 1, 0, none⟩)]) rfl trivial (enters_of Tryz.func162 (by kernel_rfl) rfl)
    (lySeq 3 (by decide) (w.heap.size + 2) (w.heap.size + 2 + 1) w.heap.size bb ab mb nn s vs vf v0 v1 rs fr S hs hlen hth HK W0 (by omega) (hB.below hB0 (Nat.le_refl _)) bB bS) kpl_t (kpl_b (by omega)) (Below.refl _ _) (fun _ => rfl)
    (fun pre W => (OrdAt W w.heap.size o ∧ W.heap[w.heap.size + 1]? = some (.cells #[.int .i64 pre.length] 3 (0, 0)) ∧ (∀ y ∈ pre, betterO o y = false)) ∧ Below w.heap.size w W)
    (fun c pre W => (c = .exit 0 ∧ ∃ p x, pre = p ++ [x] ∧ (∀ y ∈ p, betterO o y = false) ∧ betterO o x = true ∧ W.heap[w.heap.size + 1]? = some (.cells #[.int .i64 p.length] 3 (0, 0))) ∧ Below w.heap.size w W)
    (OwnFrom.and (Own.from (fun s A B row hs hg hr => ⟨blk_kept hs.1 hg hr, blk_kept hs.2.1 hg hr, hs.2.2⟩) _) (ownFrom_below (Nat.le_refl _) (by omega)))
    (fun c => OwnFrom.and (Own.from (fun s A B row hs hg hr => by obtain ⟨g0, p, x, g1, g2, g3, g4⟩ := hs; exact ⟨g0, p, x, g1, g2, g3, blk_kept g4 hg hr⟩) _) (ownFrom_below (Nat.le_refl _) (by omega)))
    ⟨⟨bO, bN, fun y hy => by cases hy⟩, hB0⟩
    (fun x a' W => ∃ Bx, OrdAt W Bx x ∧ a' = { tmps := #[.pointer (some ⟨bb, 0, none⟩), .int .i64 s, Ord.agg o, undef, undef, .pointer (some ⟨w.heap.size, 0, none⟩), .int .i64 0, .pointer (some ⟨w.heap.size + 1, 0, none⟩), .pointer (some ⟨Bx, 0, none⟩), .pointer (some ⟨bb, 0, none⟩), .int .i64 s, .func (.func 162) #[] #[.pointer (some ⟨w.heap.size + 2, 0, none⟩), .pointer (some ⟨w.heap.size + 2 + 1, 0, none⟩)], Ord.agg x, undef, undef, undef, undef, undef, undef], defers := [] })
    (fun x a' _ X Y row hs hg hr => by obtain ⟨Bx, h2, h3⟩ := hs; exact ⟨Bx, blk_kept h2 hg (fun r e => (hr r e).2), h3⟩)
    ?assign ?body ?done ?stop
  case assign =>
    rintro l pre x W K ⟨⟨h1, h2, h3⟩, hBW⟩ hK
    have lS := hBW.size
    unfold Ord.agg at hK ⊢
    gi_wp2
    refine hK _ _ ((KeepsOthers.alloc _ _).from _) (KpL.of_below (bel1 _ _) lS) ⟨⟨blk_below h1 (bel1 _ _) (Nat.le_refl _), blk_below h2 (bel1 _ _) (Nat.le_refl _), h3⟩, hBW.alloc hBW.size _⟩ ⟨W.heap.size, heap_alloc_new _ _, rfl⟩
  case body =>
    rintro l pre x a' W hl ⟨r, hr⟩ ⟨⟨h1, h2, h3⟩, hBW⟩ ⟨Bx, bX, rfl⟩ hlt
    have c0 := blk_cell (j := 0) bX rfl
    have c1 := blk_cell (j := 1) bX rfl
    have c2 := blk_cell (j := 2) bX rfl
    have c3 := blk_cell (j := 3) bX rfl
    have c4 := blk_cell (j := 4) bX rfl
    have d0 := blk_cell (j := 0) h1 rfl
    have d1 := blk_cell (j := 1) h1 rfl
    have d2 := blk_cell (j := 2) h1 rfl
    have d3 := blk_cell (j := 3) h1 rfl
    have d4 := blk_cell (j := 4) h1 rfl
    have H1 : Hid _ := h1
    have H2 : Hid _ := h2
    have HBW : Hid (Below w.heap.size w W) := hBW
    clear h1 h2 hBW bX hr
    unfold Ord.agg
    gi_wp2_with fail
    refine ⟨trivial, (CallsIn.inRound l (callsIn_wide.2 (better_any o x _))).mono ?_⟩
    rintro e W1 ⟨rfl, hb1⟩
    have hn1 := blk_below H2.out hb1 (Nat.le_refl _)
    have e0 := blk_cell (j := 0) hn1 rfl
    have e1 := blk_free (j := 0) hn1
    cases hbt : betterO o x with
    | true =>
      gi_wp2_with fail
      exact ⟨(keeps_below hb1).from _, ⟨rfl, pre, x, rfl, h3, hbt, hn1⟩, HBW.out.trans (hb1.mono HBW.out.size)⟩
    | false =>
      gi_wp2_with fail
      have ho1 := blk_below H1.out hb1 (Nat.le_refl _)
      refine ⟨((keeps_below hb1).trans (KeepsOthers.setCell _ _ _)).from _, ⟨(hb1.mono HBW.out.size).setCell (p := ⟨w.heap.size + 1, 0, none⟩) (by simp) _, fun vs t e => ?_⟩, ⟨blk_out ho1 (out_set _ ⟨w.heap.size + 1, 0, none⟩ _) (by simp), ?_, fun y hy => ?_⟩, (HBW.out.trans (hb1.mono HBW.out.size)).setCell (p := ⟨w.heap.size + 1, 0, none⟩) (by simp) _⟩
      · exact blk_out (blk_below e hb1 (Nat.le_refl _)) (out_set _ ⟨w.heap.size + 1, 0, none⟩ _) (by simp)
      · rw [List.length_append]; exact blk_set (j := 0) _ hn1
      · rcases List.mem_append.1 hy with hy | hy
        · exact h3 y hy
        · simp at hy; subst hy; exact hbt
  case done =>
    rintro D ys W hD rfl ⟨⟨h1, h2, h3⟩, hBW⟩ hK
    have hc := blk_cell (j := 0) h2 rfl
    gi_wp2
    refine ⟨by simp, .inl ⟨_, _, rfl, run_takeDeferred hK, ?_⟩⟩
    exact ⟨_, results_tmp rfl _ _ _, by rw [rankN_all h3, List.length_map]; rfl, hBW.trans (belowK_b (w := w) (Nat.le_refl _) W D _ _ (by omega) hK rfl rfl)⟩
  case stop =>
    rintro D c pre W hD hpre ⟨⟨rfl, p, x, rfl, h1, h2, h3⟩, hBW⟩ hK
    have hc := blk_cell (j := 0) h3 rfl
    gi_wp2
    refine ⟨by simp, .inl ⟨_, _, rfl, run_takeDeferred hK, ?_⟩⟩
    exact ⟨_, results_tmp rfl _ _ _, by rw [rankN_stop hpre h1 h2]; rfl, hBW.trans (belowK_b (w := w) (Nat.le_refl _) W D _ _ (by omega) hK rfl rfl)⟩
end Go.Proofs.YtjdkagafdnchhaaGreatDoor

/-
  What slices.Insert of one handle does to a row of handles, over this seat's translation: at the end, with room, and without. Conditions stand in each theorem.
-/
namespace Go.Proofs.YtjdkagafdnchhaaGreatDoor
open Go.RowKit Go.Shelf

/-- copy of elements of two cells into a block that is known whole -/
theorem run_copy_two {P : Program} (W : World) (dT sT ty elem : TypeId) (g o dLen dCap : Nat) (a : Addr) (sLen sCap : Nat) (cur : Array Value) (t : TypeId) (cs : List Value) (k : Nat)
    (hu : P.underlying dT = some (.slice elem)) (hs : (P.info? elem).map (·.size) = some 2) (hg : W.heap[g]? = some (.cells cur t (0, 0))) (hk : Nat.min sLen dLen = k) (hn : cs.length = k * 2)
    (hsrc : ∀ j v, cs[j]? = some v → W.cell? (a.add j) = some v) (hfit : o + cs.length ≤ cur.size) (h1 : ∀ v ∈ cs, v.oneCell' = true) :
    ∃ W', (Builtin.copy_ #[dT, sT] ty #[.slice (some ⟨g, o, none⟩) dLen dCap, .slice (some a) sLen sCap]).run P W = .ok (goInt k) W'
      ∧ W'.heap[g]? = some (.cells (cur.toList.take o ++ cs ++ cur.toList.drop (o + cs.length)).toArray t (0, 0)) ∧ Out (fun j => j = g) W W' := by
  refine ⟨W.setRow g (cur.toList.take o ++ cs ++ cur.toList.drop (o + cs.length)).toArray, ?_, setRow_heap W g _ _ t _ hg, ⟨rfl, rfl, rfl, by simp [World.setRow], fun j _ hj => setRow_other W g j _ hj⟩⟩
  have hst := run_storeCells_at P g o t cs 0 cur W hg (by simpa using hfit) h1
  cases hq : P.info? elem with
  | none => simp [hq] at hs
  | some i =>
    have hi : i.size = 2 := by simpa [hq] using hs
    have hl := run_firstCells_some (P := P) W 2 k a sLen sCap cs hn hsrc
    simp [Builtin.copy_, run_underlying hu, Builtin.lenOf, sizeOf, typeInfo, hq, hi, hk, hl, hst]

theorem Tryz.infoH : (Tryz.prog.info? 169).map (fun i => (i.zero, i.size, i.bytes)) = some (some (.agg #[.int .i64 0, .int .i64 0]), 2, 16) := by kernel_rfl
theorem Tryz.sizeH : (Tryz.prog.info? 169).map (·.size) = some 2 := by kernel_rfl
theorem Tryz.sizeOfH (w : World) : (Go.sizeOf 169).run Tryz.prog w = .ok 2 w := by kernel_rfl

/-- one handle more at a place -/
def insAt (i : Nat) (x : Ly) (l : List Ly) : List Ly := l.take i ++ x :: l.drop i
theorem insAt_length {i : Nat} (x : Ly) {l : List Ly} (h : i ≤ l.length) : (insAt i x l).length = l.length + 1 := by simp [insAt]; omega
theorem insAt_hV (i : Nat) (x : Ly) (l : List Ly) : hV (insAt i x l) = hV (l.take i) ++ (.int .i64 x.slot :: .int .i64 x.age :: hV (l.drop i)) := by unfold insAt; rw [hV_append]; rfl
theorem insAt_end (x : Ly) (l : List Ly) : insAt l.length x l = l ++ [x] := by simp [insAt]
theorem hV_split (i : Nat) (l : List Ly) : hV l = hV (l.take i) ++ hV (l.drop i) := by rw [← hV_append, List.take_append_drop]
theorem hV_take {i : Nat} {l : List Ly} (h : i ≤ l.length) : (hV l).take (i * 2) = hV (l.take i) := by
  rw [hV_split i l, List.take_append_of_le_length (by rw [hV_length, List.length_take]; omega), List.take_of_length_le (by rw [hV_length, List.length_take]; omega)]
theorem hV_drop {i : Nat} {l : List Ly} (h : i ≤ l.length) : (hV l).drop (i * 2) = hV (l.drop i) := by
  rw [hV_split i l, List.drop_append_of_le_length (by rw [hV_length, List.length_take]; omega), List.drop_of_length_le (by rw [hV_length, List.length_take]; omega), List.nil_append]

/-- what Insert leaves -/
def InsPost (w W' : World) (ob : Option Nat) (v' : Value) (l' : List Ly) : Prop :=
  ∃ g cap, v' = .slice (some ⟨g, 0, none⟩) l'.length cap ∧ W'.ownsRow 0 169 2 v' l'.length (hV l') ∧ Out (fun k => ob = some k) w W' ∧ (ob = some g ∨ w.heap.size ≤ g)

set_option maxRecDepth 100000 in
set_option maxHeartbeats 4000000 in
theorem insert_end (vb : Nat) (v : Value) (l : List Ly) (x : Ly) (w : World) (hr : w.ownsRow 0 169 2 v l.length (hV l)) (hl : l.length ≤ 1000) (hvb : w.heap[vb]? = some (.cells #[.int .i64 x.slot, .int .i64 x.age] 169 (0, 0))) :
    Calls Tryz.prog 150 #[v, .int .i64 l.length, .slice (some ⟨vb, 0, none⟩) 1 1] w fun e W' => ∃ v', e = .returned v' ∧ InsPost w W' v.ownBlock v' (l ++ [x]) := by
  obtain ⟨i0, hi, hz0, hz1, hz2⟩ := info_parts Tryz.infoH
  obtain ⟨ao, cap, rfl, hcap, hcm⟩ := owns_shape hr
  have HR : Hid (w.ownsRow 0 169 2 (.slice ao l.length cap) l.length (hV l)) := hr
  obtain ⟨ob, hob⟩ : ∃ ob, (Value.slice ao l.length cap).ownBlock = ob := ⟨_, rfl⟩
  rw [hob]
  have HOB : Hid ((Value.slice ao l.length cap).ownBlock = ob) := hob
  clear hr hob
  have q1 : (0 : Int) ≤ (l.length : Int) := by omega
  have q2 : l.length ≤ cap := hcap
  go_enter Tryz.func150, Tryz.ntmps150
  go_wp2_with (at_builtin; refine wpList_append_lies _ rfl _ _ 154 rfl 0 169 i0 (.agg #[.int .i64 0, .int .i64 0]) 2 16 Tryz.underlying154 hi hz0 hz1 hz2 rfl (by decide) (.slice ao l.length cap) l.length (hV l) rfl HR.out ⟨vb, 0, none⟩ 1 1 [.int .i64 x.slot, .int .i64 x.age] rfl rfl (World.news_of_block (cs := #[.int .i64 x.slot, .int .i64 x.age]) (t := 169) (fr := (0, 0)) hvb) (by simp [Value.oneCell']) (by decide) (by unfold maxLen; omega) (by omega) (Nat.zero_le _) w.heap.size rfl ?_; intro g cg w1 hown hgrow hat hlt)
  all_goals go_ret
  all_goals refine ⟨_, rfl, g, cg, by rw [List.length_append]; rfl, ?_, Out.of_grown hgrow (fun k hk => HOB.out ▸ hk), (HOB.out ▸ hat).imp id (fun e => by omega)⟩
  all_goals rw [List.length_append, List.length_singleton, hV_append]
  all_goals exact hown

theorem room_row {A B C : List Value} (x0 x1 : Value) (hC : 2 ≤ C.length) :
    (((A ++ (B ++ C)).take (A.length + 2) ++ B ++ (A ++ (B ++ C)).drop (A.length + 2 + B.length)).take A.length ++ [x0, x1] ++ ((A ++ (B ++ C)).take (A.length + 2) ++ B ++ (A ++ (B ++ C)).drop (A.length + 2 + B.length)).drop (A.length + 2)) = A ++ (x0 :: x1 :: (B ++ C.drop 2)) := by
  have h1 : (A ++ (B ++ C)).take (A.length + 2) = A ++ (B ++ C).take 2 := by
    rw [List.take_append, List.take_of_length_le (by omega)]
    congr 2; omega
  have h2 : (A ++ (B ++ C)).drop (A.length + 2 + B.length) = C.drop 2 := by
    rw [List.drop_append, List.drop_of_length_le (by omega), List.nil_append, List.drop_append, List.drop_of_length_le (by omega), List.nil_append]
    congr 1; omega
  have h3 : ((B ++ C).take 2).length = 2 := by simp; omega
  rw [h1, h2]
  generalize (B ++ C).take 2 = T at h3
  simp only [List.append_assoc]
  rw [List.take_left', List.drop_append, List.drop_of_length_le (by omega), List.nil_append]
  · rw [show A.length + 2 - A.length = T.length by omega, List.drop_left]; rfl
  · rfl

set_option maxRecDepth 100000 in
set_option maxHeartbeats 4000000 in
theorem insert_room (vb g cap i : Nat) (l : List Ly) (x : Ly) (w : World) (hr : w.ownsRow 0 169 2 (.slice (some ⟨g, 0, none⟩) l.length cap) l.length (hV l)) (hl : l.length ≤ 1000) (hi : i < l.length) (hroom : l.length + 1 ≤ cap)
    (hvb : w.heap[vb]? = some (.cells #[.int .i64 x.slot, .int .i64 x.age] 169 (0, 0))) (hne : vb ≠ g) :
    Calls Tryz.prog 150 #[.slice (some ⟨g, 0, none⟩) l.length cap, .int .i64 i, .slice (some ⟨vb, 0, none⟩) 1 1] w fun e W' => ∃ v', e = .returned v' ∧ InsPost w W' (some g) v' (insAt i x l) := by
  rcases hr.2 with ⟨h', _⟩ | ⟨g', cap', cur, h', _, hg, hnc, hcm, hcs, ht⟩
  · simp at h'
  simp only [Value.slice.injEq, Option.some.injEq, Addr.mk.injEq, and_true, true_and] at h'
  obtain ⟨rfl, rfl⟩ := h'
  clear hr
  unfold maxLen at hcm
  have hcut : cur.toList = hV (l.take i) ++ (hV (l.drop i) ++ cur.toList.drop (l.length * 2)) := by
    rw [← List.append_assoc, ← hV_split, ← ht, List.take_append_drop]
  have hA : (hV (l.take i)).length = i * 2 := by rw [hV_length, List.length_take]; omega
  have hBl : (hV (l.drop i)).length = (l.length - i) * 2 := by rw [hV_length, List.length_drop]
  have hCl : (cur.toList.drop (l.length * 2)).length = (cap - l.length) * 2 := by rw [List.length_drop, Array.length_toList, hcs]; omega
  have hsa : w.shape? vb = some (169, 2) := by simp [World.shape?, hvb]
  have hsb : w.shape? g = some (169, cap * 2) := by simp [World.shape?, hg, hcs]
  have hov : ∀ lb cb, (callFunc 189 #[.slice (some ⟨vb, 0, none⟩) 1 1, .slice (some ⟨g, (i + 1) * 2, none⟩) lb cb]).run Tryz.prog w = .ok (.value (.bool false)) w := fun lb cb => by
    rw [run_callFunc_extern Tryz.func189 (by kernel_rfl) (by kernel_rfl) (by kernel_rfl) (e := Extern.SlicesOverlaps.overlaps #[154, 154] #[4]) (by kernel_rfl),
      Lib.run_overlaps_apart w 154 4 169 Tryz.underlying154 2 Tryz.sizeOfH ⟨vb, 0, none⟩ ⟨g, (i + 1) * 2, none⟩ 1 1 lb cb hne 169 169 2 (cap * 2) hsa hsb (by omega) (blk_free hvb) (blk_free hvb)]
    rfl
  have hsrc : ∀ j u, (hV (l.drop i))[j]? = some u → w.drew.cell? ((⟨g, i * 2, none⟩ : Addr).add j) = some u := fun j u hj => by
    rw [Addr.add_lit]
    refine blk_cell (w := w) hg ?_
    rw [← Array.getElem?_toList, hcut, List.getElem?_append_right (by omega), hA, show i * 2 + j - i * 2 = j by omega, List.getElem?_append_left (by have := (List.getElem?_eq_some_iff.1 hj).1; omega)]
    exact hj
  obtain ⟨W1, hr1, hg1, ho1⟩ := run_copy_two (P := Tryz.prog) w.drew 154 154 3 169 g ((i + 1) * 2) (l.length + 1 - (i + 1)) (cap - (i + 1)) ⟨g, i * 2, none⟩ (l.length + 1 - i) (cap - i) cur 169 (hV (l.drop i)) (l.length - i)
    Tryz.underlying154 Tryz.sizeH hg (by simp only [Nat.min_def]; split <;> omega) hBl hsrc (by rw [hBl, hcs]; omega) (hV_one _)
  have hvb1 : W1.heap[vb]? = some (.cells #[.int .i64 x.slot, .int .i64 x.age] 169 (0, 0)) := blk_out (w := w.drew) hvb ho1 hne
  generalize hcur1 : (cur.toList.take ((i + 1) * 2) ++ hV (l.drop i) ++ cur.toList.drop ((i + 1) * 2 + (hV (l.drop i)).length)).toArray = cur1 at hg1
  have hcz : cur1.size = cap * 2 := by
    rw [← hcur1]; simp [hBl]; omega
  obtain ⟨W2, hr2, hg2, ho2⟩ := run_copy_two (P := Tryz.prog) W1 154 154 3 169 g (i * 2) (l.length + 1 - i) (cap - i) ⟨vb, 0, none⟩ 1 1 cur1 169 [.int .i64 x.slot, .int .i64 x.age] 1
    Tryz.underlying154 Tryz.sizeH hg1 (by simp only [Nat.min_def]; split <;> omega) rfl (World.news_of_block (cs := #[.int .i64 x.slot, .int .i64 x.age]) (t := 169) (fr := (0, 0)) hvb1) (by rw [hcz]; simp; omega) (by simp [Value.oneCell'])
  have HFIN : Hid (InsPost w W2 (some g) (.slice (some ⟨g, 0, none⟩) (l.length + 1) cap) (insAt i x l)) := by
    have hlen := insAt_length x (Nat.le_of_lt hi)
    refine ⟨g, cap, by rw [hlen], ⟨by rw [hV_length], Or.inr ⟨g, cap, _, by rw [hlen], Nat.zero_le _, hg2, by omega, by unfold maxLen; omega, ?_, ?_⟩⟩, ?_, Or.inl rfl⟩
    · simp [hcz]; omega
    · have hrow := room_row (A := hV (l.take i)) (B := hV (l.drop i)) (C := cur.toList.drop (l.length * 2)) (.int .i64 x.slot) (.int .i64 x.age) (by omega)
      rw [← hcut, hA, show i * 2 + 2 = (i + 1) * 2 by omega, show cur.toList.take ((i + 1) * 2) ++ hV (l.drop i) ++ cur.toList.drop ((i + 1) * 2 + (hV (l.drop i)).length) = cur1.toList by rw [← hcur1]] at hrow
      rw [show i * 2 + [Value.int .i64 x.slot, Value.int .i64 x.age].length = (i + 1) * 2 by simp; omega]
      dsimp only
      rw [hrow, insAt_hV, hlen, List.take_append, List.take_of_length_le (by omega), hA, show (l.length + 1) * 2 - i * 2 = (hV (l.drop i)).length + 1 + 1 by omega, List.take_succ_cons, List.take_succ_cons, List.take_left]
    · exact (Out.of_below (Below.refl w.heap.size w).drew (Nat.le_refl _)).trans ((ho1.mono (fun j hj => by rw [hj])).trans (ho2.mono (fun j hj => by rw [hj])) (Went.refl _ _)) (Went.refl _ _)
  clear hg1 hg2 ho1 ho2 hsrc hcut hA hBl hCl hsa hsb hcur1 hcz hvb1 hg hcs ht
  have q0 : IntKind.i64.wrap ((i : Int) + 1) = (i : Int) + 1 := IntWalk.i64_in _ (by omega)
  have q1 : (0 : Int) ≤ (i : Int) + 1 := by omega
  have q2 : i ≤ l.length := by omega
  have q3 : ((i : Int) + 1).toNat = i + 1 := by omega
  have q4 : ¬ (cap = i + 1) := by omega
  have q5 : (i : Int) ≤ (l.length : Int) + 1 := by omega
  have q6 : ¬ (cap = i) := by omega
  have q7 : ((i : Int) == (l.length : Int)) = false := beq_eq_false_iff_ne.2 (by omega)
  go_enter Tryz.func150, Tryz.ntmps150
  go_wp2_with (simp only [hov])
  go_region_law (refine step_copy_runI rfl _ _ 154 154 rfl _ _ (by simp [Act.eval, Act.put]) (by simp [Act.eval, Act.put]) hr1 ?_)
  go_wp2_with (at_builtin; refine wpList_copy_runI _ rfl _ _ 154 154 rfl _ _ rfl rfl hr2 ?_)
  go_ret
  exact ⟨_, rfl, HFIN.out⟩

theorem zero_len (n : Nat) : (Builtin.zeroCells (Value.agg #[.int .i64 0, .int .i64 0]).cells n).toList.length = n * 2 := by
  simp [Builtin.zeroCells, Value.cells]
/-- the new row, filled -/
theorem grow_row {A B Z : List Value} (x0 x1 : Value) :
    (((A ++ Z).take A.length ++ [x0, x1] ++ (A ++ Z).drop (A.length + 2)).take (A.length + 2) ++ B ++ ((A ++ Z).take A.length ++ [x0, x1] ++ (A ++ Z).drop (A.length + 2)).drop (A.length + 2 + B.length)) = A ++ (x0 :: x1 :: (B ++ Z.drop (2 + B.length))) := by
  have h1 : (A ++ Z).take A.length ++ [x0, x1] ++ (A ++ Z).drop (A.length + 2) = A ++ [x0, x1] ++ Z.drop 2 := by
    rw [List.take_left, List.drop_append, List.drop_of_length_le (by omega), List.nil_append]
    congr 2; omega
  rw [h1, List.take_left' (by simp), List.drop_append, List.drop_of_length_le (by simp), List.nil_append, List.drop_drop]
  simp

set_option maxRecDepth 100000 in
set_option maxHeartbeats 4000000 in
theorem insert_grow (vb g cap i : Nat) (l : List Ly) (x : Ly) (w : World) (hr : w.ownsRow 0 169 2 (.slice (some ⟨g, 0, none⟩) l.length cap) l.length (hV l)) (hl : l.length ≤ 1000) (hi : i < l.length) (hroom : cap < l.length + 1)
    (hvb : w.heap[vb]? = some (.cells #[.int .i64 x.slot, .int .i64 x.age] 169 (0, 0))) :
    Calls Tryz.prog 150 #[.slice (some ⟨g, 0, none⟩) l.length cap, .int .i64 i, .slice (some ⟨vb, 0, none⟩) 1 1] w fun e W' => ∃ v', e = .returned v' ∧ InsPost w W' (some g) v' (insAt i x l) := by
  obtain ⟨i0, hi0, hz0, hzs, hzb⟩ := info_parts Tryz.infoH
  rcases hr.2 with ⟨h', _⟩ | ⟨g', cap', cur, h', _, hg, hnc, hcm, hcs, ht⟩
  · simp at h'
  simp only [Value.slice.injEq, Option.some.injEq, Addr.mk.injEq, and_true, true_and] at h'
  obtain ⟨rfl, rfl⟩ := h'
  clear hr
  obtain rfl : cap = l.length := by omega
  have hcut : cur.toList = hV l := by
    rw [← ht, List.take_of_length_le (by rw [Array.length_toList, hcs]; omega)]
  have hA : (hV (l.take i)).length = i * 2 := by rw [hV_length, List.length_take]; omega
  have hBl : (hV (l.drop i)).length = (l.length - i) * 2 := by rw [hV_length, List.length_drop]
  have hold : (Builtin.firstCells i0.size i (.slice (some ⟨g, 0, none⟩) i l.length)).run Tryz.prog w.drew = .ok (hV (l.take i)).toArray w.drew := by
    rw [hzs]
    exact run_firstCells_some w.drew 2 i ⟨g, 0, none⟩ i l.length (hV (l.take i)) hA (fun j v hj => by
      rw [Addr.add_lit]
      refine blk_cell (w := w) hg ?_
      rw [← Array.getElem?_toList, hcut, hV_split i l, Nat.zero_add, List.getElem?_append_left (List.getElem?_eq_some_iff.1 hj).1]
      exact hj)
  have hkk : (l.length : Int) + 1 - (i : Int) = ((l.length + 1 - i : Nat) : Int) := by omega
  have hik : i + (l.length + 1 - i) = l.length + 1 := by omega
  have hrz := Lib.run_append_grow_zeros w 154 3 154 169 i0 _ .i64 .i64 Tryz.underlying154 Tryz.underlying3 hi0 hz0 (some ⟨g, 0, none⟩) i l.length (hV (l.take i)) hold (l.length + 1 - i) (by omega) (by rw [hzs]; decide) (by omega) (by omega) (by rw [hzb]; omega) (by rw [hzb, hik]; exact growslice_fits (by omega) (by omega))
  rw [hik, ← hkk] at hrz
  have hGn := grownCap_ge w (l.length + 1) l.length 169
  have hGm := grownCap_le_maxLen w (l.length + 1) l.length 169 (by unfold maxLen; omega)
  generalize grownCap w (l.length + 1) l.length 169 = G at hrz hGn hGm
  generalize hrow : (hV (l.take i)).toArray ++ Builtin.zeroCells (Value.agg #[.int .i64 0, .int .i64 0]).cells (l.length + 1 - i) ++ Builtin.zeroCells (Value.agg #[.int .i64 0, .int .i64 0]).cells (G - (l.length + 1)) = ROW at hrz
  have hRL : ∃ Z : List Value, ROW.toList = hV (l.take i) ++ Z ∧ Z.length = (G - i) * 2 := by
    refine ⟨(Builtin.zeroCells (Value.agg #[.int .i64 0, .int .i64 0]).cells (l.length + 1 - i)).toList ++ (Builtin.zeroCells (Value.agg #[.int .i64 0, .int .i64 0]).cells (G - (l.length + 1))).toList, ?_, ?_⟩
    · rw [← hrow]; simp
    · rw [List.length_append, zero_len, zero_len]; omega
  obtain ⟨Z, hRZ, hZl⟩ := hRL
  have hRs : ROW.size = G * 2 := by
    rw [← Array.length_toList, hRZ, List.length_append, hA, hZl]; omega
  clear hrow hold
  have hgN : (w.drew.alloc (.cells ROW 169)).heap[w.heap.size]? = some (.cells ROW 169 (0, 0)) := heap_alloc_new w.drew _
  have hbN : Below w.heap.size w (w.drew.alloc (.cells ROW 169)) := (Below.refl w.heap.size w).drew.alloc (Nat.le_refl _) _
  generalize w.drew.alloc (.cells ROW 169) = WN at hrz hgN hbN
  have lvb := lt_of_block hvb
  have lg := lt_of_block hg
  obtain ⟨W1, hr1, hg1, ho1⟩ := run_copy_two (P := Tryz.prog) WN 154 154 3 169 w.heap.size (i * 2) (l.length + 1 - i) (G - i) ⟨vb, 0, none⟩ 1 1 ROW 169 [.int .i64 x.slot, .int .i64 x.age] 1
    Tryz.underlying154 Tryz.sizeH hgN (by simp only [Nat.min_def]; split <;> omega) rfl (World.news_of_block (cs := #[.int .i64 x.slot, .int .i64 x.age]) (t := 169) (fr := (0, 0)) (blk_below hvb hbN (Nat.le_refl _))) (by rw [hRs]; simp only [List.length_cons, List.length_nil]; omega) (by simp [Value.oneCell'])
  generalize hcur1 : (ROW.toList.take (i * 2) ++ [Value.int .i64 x.slot, Value.int .i64 x.age] ++ ROW.toList.drop (i * 2 + [Value.int .i64 x.slot, Value.int .i64 x.age].length)).toArray = cur1 at hg1
  have hcz : cur1.size = G * 2 := by
    rw [← hcur1]; simp only [List.size_toArray, List.length_append, List.length_take, List.length_drop, hRZ, hA, hZl, List.length_cons, List.length_nil]; omega
  have hgW : W1.heap[g]? = some (.cells cur 169 (0, 0)) := blk_out (w := WN) (b := g) (blk_below hg hbN (Nat.le_refl _)) ho1 (fun e => by have e' : g = w.heap.size := e; omega)
  have hg' : W1.drew.heap[g]? = some (.cells cur 169 (0, 0)) := hgW
  have hsrc : ∀ j u, (hV (l.drop i))[j]? = some u → W1.drew.cell? ((⟨g, i * 2, none⟩ : Addr).add j) = some u := fun j u hj => by
    rw [Addr.add_lit]
    refine blk_cell hg' ?_
    rw [← Array.getElem?_toList, hcut, hV_split i l, List.getElem?_append_right (by omega), hA, show i * 2 + j - i * 2 = j by omega]
    exact hj
  obtain ⟨W2, hr2, hg2, ho2⟩ := run_copy_two (P := Tryz.prog) W1.drew 154 154 3 169 w.heap.size ((i + 1) * 2) (l.length + 1 - (i + 1)) (G - (i + 1)) ⟨g, i * 2, none⟩ (l.length - i) (l.length - i) cur1 169 (hV (l.drop i)) (l.length - i)
    Tryz.underlying154 Tryz.sizeH hg1 (by simp only [Nat.min_def]; split <;> omega) hBl hsrc (by rw [hBl, hcz]; omega) (hV_one _)
  have HFIN : Hid (InsPost w W2 (some g) (.slice (some ⟨w.heap.size, 0, none⟩) (l.length + 1) G) (insAt i x l)) := by
    have hlen := insAt_length x (Nat.le_of_lt hi)
    refine ⟨w.heap.size, G, by rw [hlen], ⟨by rw [hV_length], Or.inr ⟨w.heap.size, G, _, by rw [hlen], Nat.zero_le _, hg2, by omega, hGm, ?_, ?_⟩⟩, ?_, Or.inr (Nat.le_refl _)⟩
    · simp [hcz, hBl]; omega
    · have hrow := grow_row (A := hV (l.take i)) (B := hV (l.drop i)) (Z := Z) (.int .i64 x.slot) (.int .i64 x.age)
      rw [← hRZ, hA, show i * 2 + 2 = (i + 1) * 2 by omega, show ROW.toList.take (i * 2) ++ [Value.int .i64 x.slot, Value.int .i64 x.age] ++ ROW.toList.drop ((i + 1) * 2) = cur1.toList by rw [← hcur1]; simp; omega] at hrow
      dsimp only
      rw [hrow, insAt_hV, hlen, List.take_append, List.take_of_length_le (by omega), hA, show (l.length + 1) * 2 - i * 2 = (hV (l.drop i)).length + 1 + 1 by omega, List.take_succ_cons, List.take_succ_cons, List.take_left]
    · have o1 : Out (fun k => k = w.heap.size) WN W2 := ho1.trans ((Out.of_below (Below.refl W1.heap.size W1).drew (Nat.le_refl _)).trans ho2 (Went.refl _ _)) (Went.refl _ _)
      exact (Out.of_below hbN (Nat.le_refl _)).trans o1 (fun k hk => Or.inr (by omega))
  clear hg1 hg2 ho1 ho2 hsrc hcut hA hBl hcur1 hcz hg hcs ht hg' hgW hgN hbN hRZ hZl hRs hkk hik
  have q0 : IntKind.i64.wrap ((i : Int) + 1) = (i : Int) + 1 := IntWalk.i64_in _ (by omega)
  have q1 : (0 : Int) ≤ (i : Int) + 1 := by omega
  have q2 : i ≤ l.length := by omega
  have q3 : ((i : Int) + 1).toNat = i + 1 := by omega
  have q4 : ¬ (G = i + 1) := by omega
  have q5 : (i : Int) ≤ (l.length : Int) := by omega
  have q6 : ¬ (G = i) := by omega
  have q7 : ((i : Int) == (l.length : Int)) = false := beq_eq_false_iff_ne.2 (by omega)
  have q8 : ¬ (l.length = i) := by omega
  go_enter Tryz.func150, Tryz.ntmps150
  go_wp2_with (first
    | (at_builtin; refine Lib.wpList_append_run _ rfl _ _ _ _ rfl _ _ rfl rfl _ _ hrz ?_)
    | (at_builtin; refine wpList_copy_runI _ rfl _ _ 154 154 rfl _ _ rfl rfl hr1 ?_))
  go_region_law (refine step_copy_runI rfl _ _ 154 154 rfl _ _ (by simp [Act.eval, Act.put]) (by simp [Act.eval, Act.put]) hr2 ?_)
  go_wp2
  go_ret
  exact ⟨_, rfl, HFIN.out⟩

/-- slices.Insert of one handle, wherever -/
theorem insert_any (vb i : Nat) (v : Value) (l : List Ly) (x : Ly) (w : World) (hr : w.ownsRow 0 169 2 v l.length (hV l)) (hl : l.length ≤ 1000) (hi : i ≤ l.length)
    (hvb : w.heap[vb]? = some (.cells #[.int .i64 x.slot, .int .i64 x.age] 169 (0, 0))) (hne : v.ownBlock ≠ some vb) :
    Calls Tryz.prog 150 #[v, .int .i64 i, .slice (some ⟨vb, 0, none⟩) 1 1] w fun e W' => ∃ v', e = .returned v' ∧ InsPost w W' v.ownBlock v' (insAt i x l) := by
  by_cases h1 : i = l.length
  · subst h1
    rw [insAt_end]
    exact insert_end vb v l x w hr hl hvb
  · obtain ⟨g, cap, rfl, _, _⟩ := hr.form (by omega)
    have hg : vb ≠ g := fun e => hne (by rw [e]; rfl)
    by_cases h2 : l.length + 1 ≤ cap
    · exact insert_room vb g cap i l x w hr hl (by omega) h2 hvb hg
    · exact insert_grow vb g cap i l x w hr hl (by omega) (by omega) hvb
end Go.Proofs.YtjdkagafdnchhaaGreatDoor

/-
  What num.Right and what it calls return, over this seat's translation. Conditions stand in each theorem.
-/
namespace Go.Proofs.YtjdkagafdnchhaaGreatDoor
open Go.RowKit

def inB (lo hi z : Int) : Bool := decide (lo ≤ z) && decide (z ≤ hi)
def allIn (lo hi : Int) : List Int → Bool
  | [] => true
  | z :: r => inB lo hi z && allIn lo hi r
theorem inB_true {lo hi z : Int} (h : inB lo hi z = true) : lo ≤ z ∧ z ≤ hi := by
  unfold inB at h; simpa using h
theorem inB_false {lo hi z : Int} (h : inB lo hi z = false) : z < lo ∨ hi < z := by
  unfold inB at h
  by_cases h1 : lo ≤ z
  · by_cases h2 : z ≤ hi
    · simp [h1, h2] at h
    · exact Or.inr (by omega)
  · exact Or.inl (by omega)
theorem inB_yes {lo hi z : Int} (h : lo ≤ z ∧ z ≤ hi) : inB lo hi z = true := by unfold inB; simp [h.1, h.2]
theorem inB_no {lo hi z : Int} (h : z < lo ∨ hi < z) : inB lo hi z = false := by
  cases e : inB lo hi z with
  | false => rfl
  | true => have := inB_true e; omega
theorem allIn_one (lo hi z : Int) : allIn lo hi [z] = inB lo hi z := by simp [allIn]
theorem allIn_two (lo hi z y : Int) : allIn lo hi [z, y] = (inB lo hi z && inB lo hi y) := by simp [allIn]
theorem allIn_step (lo hi : Int) (zs : List Int) (k : Nat) (h : k < zs.length) (h1 : lo ≤ zs[k]) (h2 : zs[k] ≤ hi) : allIn lo hi (zs.drop (k + 1)) = allIn lo hi (zs.drop k) := by
  rw [List.drop_eq_getElem_cons h]; simp [allIn, inB, h1, h2]
theorem allIn_stop (lo hi : Int) (zs : List Int) (k : Nat) (h : k < zs.length) (h1 : zs[k] < lo ∨ hi < zs[k]) : allIn lo hi (zs.drop k) = false := by
  rw [List.drop_eq_getElem_cons h]; simp only [allIn]; rw [inB_no h1]; rfl
theorem allIn_end (lo hi : Int) (zs : List Int) (k : Nat) (h : ¬ k < zs.length) : allIn lo hi (zs.drop k) = true := by
  rw [List.drop_eq_nil_of_le (by omega)]; rfl
theorem ret_bool {a b : Bool} (h : a = b) : Ending.returned (.bool a) = .returned (.bool b) := by rw [h]
def rightB (p q : Int) : Bool := inB 1 1000000 p && inB 1 1000000 q
set_option maxHeartbeats 400000 in
theorem within_any (lo hi : Int) (b : Nat) (zs : List Int) (w : World) (hbig : zs.length ≤ 1000)
    (hc : ∀ j, j < zs.length → w.cell? ⟨b, j, none⟩ = some (.int .i64 (zs.getD j 0))) :
    Calls Tryz.prog 134 #[.int .i64 lo, .int .i64 hi, .slice (some ⟨b, 0, none⟩) zs.length zs.length] w fun e w' => e = .returned (.bool (allIn lo hi zs)) ∧ w' = w := by
  go_enter Tryz.func134, Tryz.ntmps134
  go_wp2
  go_loop [8, 11] (fun _ i => ∃ k : Nat, k ≤ zs.length ∧ i = .int .i64 k ∧ allIn lo hi (zs.drop k) = allIn lo hi zs) (fun _ i => zs.length - (intOf i).toNat)
  case atStart => exact ⟨0, Nat.zero_le _, rfl, rfl⟩
  case round =>
    obtain ⟨k, hk, rfl, hq⟩ := hrel
    have HQ : Hid (allIn lo hi (zs.drop k) = allIn lo hi zs) := hq
    clear hq
    have hcell : k < zs.length → w.cell? ⟨b, k, none⟩ = some (.int .i64 (zs.getD k 0)) := fun h => hc k h
    go_wp2
    · go_ret
      exact ⟨ret_bool (by rw [← HQ.out]; exact (allIn_stop lo hi zs k (by assumption) (by assumption)).symm), rfl⟩
    · go_round
      case rel => exact ⟨k + 1, by omega, by go_num, by rw [← HQ.out]; exact allIn_step lo hi zs k (by assumption) (by omega) (by omega)⟩
      case measure => simp [intOf]; omega
    · go_ret
      exact ⟨ret_bool (by rw [← HQ.out]; exact (allIn_stop lo hi zs k (by assumption) (Or.inl (by assumption))).symm), rfl⟩
    · go_ret
      exact ⟨ret_bool (by rw [← HQ.out]; exact (allIn_end lo hi zs k (by assumption)).symm), rfl⟩
set_option maxHeartbeats 400000 in
theorem prices_any (b : Nat) (zs : List Int) (w : World) (hbig : zs.length ≤ 1000)
    (hc : ∀ j, j < zs.length → w.cell? ⟨b, j, none⟩ = some (.int .i64 (zs.getD j 0))) :
    Calls Tryz.prog 133 #[.slice (some ⟨b, 0, none⟩) zs.length zs.length] w fun e w' => e = .returned (.bool (allIn 1 1000000 zs)) ∧ w' = w := by
  go_enter Tryz.func133, Tryz.ntmps133
  go_wp2_with fail
  refine (within_any _ _ _ zs _ hbig hc).mono ?_
  rintro e w' ⟨rfl, rfl⟩
  go_wp2
  go_ret
  exact ⟨rfl, rfl⟩
theorem within_one (lo hi z : Int) (b : Nat) (w : World) (hc : w.cell? ⟨b, 0, none⟩ = some (.int .i64 z)) :
    Calls Tryz.prog 134 #[.int .i64 lo, .int .i64 hi, .slice (some ⟨b, 0, none⟩) 1 1] w fun e w' => e = .returned (.bool (inB lo hi z)) ∧ w' = w := by
  rw [← allIn_one]
  exact within_any lo hi b [z] w (by simp) (fun j hj => by
    have : j = 0 := by simp at hj; exact hj
    subst this; exact hc)
theorem prices_one (z : Int) (b : Nat) (w : World) (hc : w.cell? ⟨b, 0, none⟩ = some (.int .i64 z)) :
    Calls Tryz.prog 133 #[.slice (some ⟨b, 0, none⟩) 1 1] w fun e w' => e = .returned (.bool (inB 1 1000000 z)) ∧ w' = w := by
  rw [← allIn_one]
  exact prices_any b [z] w (by simp) (fun j hj => by
    have : j = 0 := by simp at hj; exact hj
    subst this; exact hc)
set_option maxHeartbeats 400000 in
/-- num.Right, whatever the two are. -/
theorem Right_any (p q : Int) (w : World) :
    Calls Tryz.prog 91 #[.int .i64 p, .int .i64 q] w fun e w' => e = .returned (.bool (rightB p q)) ∧ Below w.heap.size w w' := by
  cases hp : inB 1 1000000 p with
  | false =>
    have HR : Hid (rightB p q = false) := by unfold rightB; rw [hp]; rfl
    have HP : Hid (inB 1 1000000 p = false) := hp
    clear hp
    go_enter Tryz.func91, Tryz.ntmps91
    go_wp2_with fail
    refine (prices_one p _ _ (by simp [go_sem])).mono ?_
    rintro e w' ⟨rfl, rfl⟩
    rw [HP.out]
    go_wp2_with fail
    go_ret
    exact ⟨by rw [HR.out]; rfl, by go_grown⟩
  | true =>
    have HR : Hid (rightB p q = inB 1 1000000 q) := by unfold rightB; rw [hp]; rfl
    have HP : Hid (inB 1 1000000 p = true) := hp
    clear hp
    go_enter Tryz.func91, Tryz.ntmps91
    go_wp2_with fail
    refine (prices_one p _ _ (by simp [go_sem])).mono ?_
    rintro e w' ⟨rfl, rfl⟩
    rw [HP.out]
    go_wp2_with fail
    refine (within_one 1 1000000 q _ _ (by simp [go_sem])).mono ?_
    rintro e w' ⟨rfl, rfl⟩
    go_wp2_with fail
    go_ret
    exact ⟨by rw [HR.out]; rfl, by go_grown⟩
end Go.Proofs.YtjdkagafdnchhaaGreatDoor

/-
  num.Right, where the program's book is walked: the text NumR, under the name that the book's texts import.
-/

/-
  A book as one thing, and what book.New and Many return, over this seat's translation. Conditions stand in each theorem.
-/
namespace Go.Proofs.YtjdkagafdnchhaaGreatDoor
open Go.RowKit

/-- all that is to be known of a book in memory -/
structure BkS where
  ab : Nat
  mb : Nat
  n : Nat
  vs : Value
  vf : Value
  v0 : Value
  v1 : Value
  rs : List Sot
  fr : List Nat
  S : Nat → List Ly
def BkAt (w : World) (bb : Nat) (b : BkS) : Prop := BookAt w bb b.ab b.mb b.n b.vs b.vf b.v0 b.v1 b.rs b.fr b.S
def BkS.foot (bb : Nat) (b : BkS) : Nat → Prop := pbB bb b.ab b.mb b.vs b.vf b.v0 b.v1
/-- a book that is in order, in memory: m: how many steps there were -/
structure Bk (w : World) (bb m : Nat) (b : BkS) : Prop where
  at_ : BkAt w bb b
  ok : Pb m b.rs b.fr b.S
  small : b.n ≤ m
  steps : m ≤ 900000
theorem Bk.below {w w' : World} {bb m B : Nat} {b : BkS} (h : Bk w bb m b) (hb : Below B w w') (hB : w.heap.size ≤ B) : Bk w' bb m b := ⟨BookAt.below h.at_ hb hB, h.ok, h.small, h.steps⟩
theorem Bk.out {T : Nat → Prop} {w w' : World} {bb m : Nat} {b : BkS} (h : Bk w bb m b) (ho : Out T w w') (hT : ∀ k, b.foot bb k → ¬ T k) : Bk w' bb m b := ⟨BookAt.out h.at_ ho hT, h.ok, h.small, h.steps⟩
theorem Bk.more {w : World} {bb m m' : Nat} {b : BkS} (h : Bk w bb m b) (hm : m ≤ m') (hs : m' ≤ 900000) : Bk w bb m' b := ⟨h.at_, h.ok.more hm, Nat.le_trans h.small hm, hs⟩
theorem Bk.lt {w : World} {bb m : Nat} {b : BkS} (h : Bk w bb m b) {k : Nat} (hk : b.foot bb k) : k < w.heap.size := BookAt.lt h.at_ hk
/-- what a call does that turns the book b into b': nothing else is changed -/
def Goes (w w' : World) (bb m : Nat) (b b' : BkS) : Prop := Bk w' bb m b' ∧ Out (b.foot bb) w w' ∧ Went w (b.foot bb) (b'.foot bb)
theorem Goes.stay {w w' : World} {bb m m' : Nat} {b : BkS} (h : Bk w bb m b) (hb : Below w.heap.size w w') (hm : m ≤ m') (hs : m' ≤ 900000) : Goes w w' bb m' b b := ⟨(h.below hb (Nat.le_refl _)).more hm hs, Out.of_below hb (Nat.le_refl _), Went.refl _ _⟩

def BkS.none_ (k : Nat) : BkS := ⟨k, k + 1, 0, .slice none 0 0, .slice none 0 0, .slice none 0 0, .slice none 0 0, [], [], fun _ => []⟩

set_option maxHeartbeats 1000000 in
theorem pbNew (w : World) : Calls Tryz.prog 36 #[] w fun e W' => e = .returned (.pointer (some ⟨w.heap.size + 2, 0, none⟩)) ∧ Bk W' (w.heap.size + 2) 0 (BkS.none_ w.heap.size) ∧ Below w.heap.size w W' := by
  have hmm := @run_makeMap Tryz.prog
  go_enter Tryz.func36, Tryz.ntmps36
  go_wp2_with fail
  refine (oaNew _).mono ?_
  rintro e w1 ⟨rfl, rfl⟩
  go_wp2
  go_ret
  have h1 := oaNew_is w 100
  have hb1 := bel1 w (.cells #[.int .i64 100, .slice none 0 0, .slice none 0 0] 221)
  have hs1 : (w.alloc (.cells #[.int .i64 100, .slice none 0 0, .slice none 0 0] 221)).heap.size = w.heap.size + 1 := by simp
  generalize w.alloc (.cells #[.int .i64 100, .slice none 0 0, .slice none 0 0] 221) = w1 at h1 hb1 hs1 ⊢
  have hm : PlMap (w1.alloc (.map #[] 0)) (w.heap.size + 1) 0 (fun _ => []) := by
    have := World.ownsMap_made (H := Unit) w1 Tryz.prog 3 plR
    rw [hs1] at this
    exact ⟨_, this, (fun _ _ x hx => (by cases hx)), fun _ _ => rfl⟩
  have hb2 := bel1 w1 (.map #[] 0)
  have hs2 : (w1.alloc (.map #[] 0)).heap.size = w.heap.size + 2 := by simp; omega
  have h2 := h1.below hb2 (Nat.le_refl _)
  generalize w1.alloc (.map #[] 0) = w2 at hm hb2 hs2 h2 ⊢
  have hx := heap_alloc_new w2 (.cells #[.pointer (some ⟨w.heap.size, 0, none⟩), .map (some (w.heap.size + 1)), .slice none 0 0, .slice none 0 0] 157)
  have hb3 := bel1 w2 (.cells #[.pointer (some ⟨w.heap.size, 0, none⟩), .map (some (w.heap.size + 1)), .slice none 0 0, .slice none 0 0] 157)
  refine ⟨by rw [← hs2]; rfl, ?_, ?_⟩
  · refine ⟨⟨by rw [hs2] at hx; exact hx, h2.below hb3 (Nat.le_refl _), hm.same (hb3.block _ hm.lt), World.ownsRow_nil _ _ _ _, World.ownsRow_nil _ _ _ _, fun k hk => by cases hk⟩, Pb.start 0, Nat.le_refl _, by decide⟩
  · exact bel_then (bel_then hb1 hb2) hb3
theorem new_own (w : World) {k : Nat} (h : (BkS.none_ w.heap.size).foot (w.heap.size + 2) k) : w.heap.size ≤ k := by
  rcases h with rfl | (rfl | h | h) | rfl | h | h
  · omega
  · exact Nat.le_refl _
  · cases h
  · cases h
  · exact Nat.le_succ _
  · cases h
  · cases h

set_option maxHeartbeats 1000000 in
theorem pbMany (bb m : Nat) (b : BkS) (w : World) (h : Bk w bb m b) : Calls Tryz.prog 93 #[.pointer (some ⟨bb, 0, none⟩)] w fun e W' => e = .returned (.int .i64 ((b.S 0).length + (b.S 1).length : Nat)) ∧ Below w.heap.size w W' := by
  have hc : w.cell? ⟨bb, 0, none⟩ = some (.pointer (some ⟨b.ab, 0, none⟩)) := blk_cell (j := 0) h.at_.box rfl
  have H : Hid (Bk w bb m b) := h
  clear h
  go_enter Tryz.func93, Tryz.ntmps93
  go_wp2_with fail
  refine (oaMany b.ab 100 b.vs b.vf b.rs b.fr _ _ H.out.at_.ar (by have := H.out.ok.so.small; have := H.out.steps; omega) rfl H.out.ok.so.cnt).mono ?_
  rintro e w1 ⟨rfl, n, rfl⟩
  go_wp2
  go_ret
  exact ⟨by rw [← H.out.ok.cnt]; rfl, below_drewN (Below.refl _ _) n⟩
end Go.Proofs.YtjdkagafdnchhaaGreatDoor

/-
  A book in memory in the midst of a call: its map and its sides may tell of different orders. What becomes of it when a side's row, or the map, has moved. Conditions stand in each theorem.
-/
namespace Go.Proofs.YtjdkagafdnchhaaGreatDoor
open Go.RowKit

structure BookG (w : World) (bb ab mb n : Nat) (vs vf v0 v1 : Value) (rs : List Sot) (fr : List Nat) (Sm Sr : Nat → List Ly) : Prop where
  box : w.heap[bb]? = some (.cells #[.pointer (some ⟨ab, 0, none⟩), .map (some mb), v0, v1] 157 (0, 0))
  ar : ArOr w ab 100 vs vf rs fr
  map : PlMap w mb n Sm
  row0 : w.ownsRow 0 169 2 v0 (Sr 0).length (hV (Sr 0))
  row1 : w.ownsRow 0 169 2 v1 (Sr 1).length (hV (Sr 1))
  apart : ∀ k, v0.ownBlock = some k → v1.ownBlock ≠ some k
section
variable {w w' w1 : World} {bb ab mb n s g cap : Nat} {vs vf v0 v1 : Value} {rs : List Sot} {fr : List Nat} {S Sm Sr : Nat → List Ly}
theorem BookAt.mid (h : BookAt w bb ab mb n vs vf v0 v1 rs fr S) : BookG w bb ab mb n vs vf v0 v1 rs fr S S := ⟨h.box, h.ar, h.map, h.row0, h.row1, h.apart⟩
theorem BookG.done (h : BookG w bb ab mb n vs vf v0 v1 rs fr S S) : BookAt w bb ab mb n vs vf v0 v1 rs fr S := ⟨h.box, h.ar, h.map, h.row0, h.row1, h.apart⟩
theorem BookG.lt (h : BookG w bb ab mb n vs vf v0 v1 rs fr Sm Sr) {k : Nat} (hk : pbB bb ab mb vs vf v0 v1 k) : k < w.heap.size := by
  rcases hk with rfl | hk | rfl | hk | hk
  · exact lt_of_block h.box
  · exact h.ar.lt hk
  · exact h.map.lt
  · exact (h.row0.lt k hk).2
  · exact (h.row1.lt k hk).2
theorem BookG.out {T : Nat → Prop} (h : BookG w bb ab mb n vs vf v0 v1 rs fr Sm Sr) (ho : Out T w w') (hT : ∀ k, pbB bb ab mb vs vf v0 v1 k → ¬ T k) : BookG w' bb ab mb n vs vf v0 v1 rs fr Sm Sr :=
  ⟨blk_out h.box ho (hT bb (Or.inl rfl)), h.ar.out ho (fun k hk => hT k (Or.inr (Or.inl hk))), h.map.same (ho.block mb h.map.lt (hT mb (Or.inr (Or.inr (Or.inl rfl))))),
    owns_out h.row0 ho (fun k hk => hT k (Or.inr (Or.inr (Or.inr (Or.inl hk))))), owns_out h.row1 ho (fun k hk => hT k (Or.inr (Or.inr (Or.inr (Or.inr hk))))), h.apart⟩
theorem BookG.below {B : Nat} (h : BookG w bb ab mb n vs vf v0 v1 rs fr Sm Sr) (hb : Below B w w') (hB : w.heap.size ≤ B) : BookG w' bb ab mb n vs vf v0 v1 rs fr Sm Sr :=
  h.out (T := fun _ => False) (Out.of_below hb hB) (fun _ _ e => e)
theorem BookG.rowIs (h : BookG w bb ab mb n vs vf v0 v1 rs fr Sm Sr) (hs : s < 2) : w.ownsRow 0 169 2 (vAt v0 v1 s) (Sr s).length (hV (Sr s)) ∧ w.cell? ⟨bb, 2 + s, none⟩ = some (vAt v0 v1 s) ∧ w.frozen? ⟨bb, 2 + s, none⟩ = false := by
  match s, hs with
  | 0, _ => exact ⟨h.row0, blk_cell (j := 2) h.box rfl, blk_free h.box⟩
  | 1, _ => exact ⟨h.row1, blk_cell (j := 3) h.box rfl, blk_free h.box⟩
theorem BookG.rowNotBox (h : BookG w bb ab mb n vs vf v0 v1 rs fr Sm Sr) (hs : s < 2) : (vAt v0 v1 s).ownBlock ≠ some bb := owns_type (h.rowIs hs).1 h.box (by decide)
theorem BookG.rowNotMap (h : BookG w bb ab mb n vs vf v0 v1 rs fr Sm Sr) (hs : s < 2) : (vAt v0 v1 s).ownBlock ≠ some mb := owns_notMap (h.rowIs hs).1 h.map
theorem BookG.rowNotAr (h : BookG w bb ab mb n vs vf v0 v1 rs fr Sm Sr) (hs : s < 2) {k : Nat} (hk : (vAt v0 v1 s).ownBlock = some k) : ¬ aoB ab vs vf k := fun e => by
  rcases e with e | e | e
  · exact owns_type (h.rowIs hs).1 (e ▸ h.ar.box) (by decide) hk
  · exact owns_types (h.rowIs hs).1 h.ar.slots (by decide) hk e
  · exact owns_types (h.rowIs hs).1 h.ar.free (by decide) hk e
/-- the map has moved -/
theorem BookG.newMap {n' : Nat} {Sm' : Nat → List Ly} (h : BookG w bb ab mb n vs vf v0 v1 rs fr Sm Sr) (ho : Out (fun j => j = mb) w w') (hm : PlMap w' mb n' Sm') : BookG w' bb ab mb n' vs vf v0 v1 rs fr Sm' Sr :=
  ⟨blk_out h.box ho (h.map.ne h.box), h.ar.out ho (fun k hk e => by
      have e' : k = mb := e
      subst e'
      rcases hk with e | e | e
      · exact h.map.ne h.ar.box e.symm
      · exact owns_notMap h.ar.slots h.map e
      · exact owns_notMap h.ar.free h.map e), hm, owns_out h.row0 ho (fun k hk e => owns_notMap h.row0 h.map (by rw [← show k = mb from e]; exact hk)), owns_out h.row1 ho (fun k hk e => owns_notMap h.row1 h.map (by rw [← show k = mb from e]; exact hk)), h.apart⟩
/-- the arena has moved -/
theorem BookG.newAr {vs' vf' : Value} {rs' : List Sot} {fr' : List Nat} (h : BookG w bb ab mb n vs vf v0 v1 rs fr Sm Sr) (ho : Out (aoB ab vs vf) w w') (ha : ArOr w' ab 100 vs' vf' rs' fr') : BookG w' bb ab mb n vs' vf' v0 v1 rs' fr' Sm Sr :=
  ⟨blk_out h.box ho (fun e => by
      rcases e with e | e | e
      · exact blk_ne h.box h.ar.box (by decide) e
      · exact owns_type h.ar.slots h.box (by decide) e
      · exact owns_type h.ar.free h.box (by decide) e), ha, h.map.same (ho.block mb h.map.lt (fun e => by
      rcases e with e | e | e
      · exact h.map.ne h.ar.box e.symm
      · exact owns_notMap h.ar.slots h.map e
      · exact owns_notMap h.ar.free h.map e)), owns_out h.row0 ho (fun _ hk => h.rowNotAr (s := 0) (by decide) hk), owns_out h.row1 ho (fun _ hk => h.rowNotAr (s := 1) (by decide) hk), h.apart⟩

def rowV (v v' : Value) (s t : Nat) : Value := if s = t then v' else v
/-- a side's row has moved, and is told to the box -/
theorem BookG.newRow {l' : List Ly} (h : BookG w bb ab mb n vs vf v0 v1 rs fr Sm Sr) (hs : s < 2) (hr : w1.ownsRow 0 169 2 (.slice (some ⟨g, 0, none⟩) l'.length cap) l'.length (hV l'))
    (ho : Out (fun k => (vAt v0 v1 s).ownBlock = some k) w w1) (hg : (vAt v0 v1 s).ownBlock = some g ∨ w.heap.size ≤ g) :
    BookG (w1.setCell ⟨bb, 2 + s, none⟩ (.slice (some ⟨g, 0, none⟩) l'.length cap)) bb ab mb n vs vf (rowV v0 (.slice (some ⟨g, 0, none⟩) l'.length cap) s 0) (rowV v1 (.slice (some ⟨g, 0, none⟩) l'.length cap) s 1) rs fr Sm (upS Sr s l')
    ∧ Out (fun k => k = bb ∨ (vAt v0 v1 s).ownBlock = some k) w (w1.setCell ⟨bb, 2 + s, none⟩ (.slice (some ⟨g, 0, none⟩) l'.length cap)) := by
  have hbx := blk_out h.box ho (h.rowNotBox hs)
  have o2 := out_set w1 ⟨bb, 2 + s, none⟩ (.slice (some ⟨g, 0, none⟩) l'.length cap)
  have har := h.ar.out ho (fun k hk e => h.rowNotAr hs e hk)
  have hma := h.map.same (ho.block mb h.map.lt (h.rowNotMap hs))
  have har2 := har.out o2 (fun k hk e => by
    have e' : k = bb := e
    subst e'
    rcases hk with e | e | e
    · exact blk_ne hbx har.box (by decide) e
    · exact owns_type har.slots hbx (by decide) e
    · exact owns_type har.free hbx (by decide) e)
  have hma2 := hma.same (o2.block mb hma.lt (fun e => hma.ne hbx (show mb = bb from e).symm))
  have hr2 : (w1.setCell ⟨bb, 2 + s, none⟩ (.slice (some ⟨g, 0, none⟩) l'.length cap)).ownsRow 0 169 2 (.slice (some ⟨g, 0, none⟩) l'.length cap) l'.length (hV l') := owns_out hr o2 (fun k hk e => owns_type hr hbx (by decide) (by rw [← show k = bb from e]; exact hk))
  refine ⟨?_, (ho.mono (fun k hk => Or.inr hk)).trans (o2.mono (fun k hk => Or.inl hk)) (Went.refl _ _)⟩
  match s, hs with
  | 0, _ =>
    have q1 : w1.ownsRow 0 169 2 v1 (Sr 1).length (hV (Sr 1)) := owns_out h.row1 ho (fun k hk e => h.apart k e hk)
    have q2 := owns_out q1 o2 (fun k hk e => owns_type q1 hbx (by decide) (by rw [← show k = bb from e]; exact hk))
    refine ⟨blk_set (j := 2) _ hbx, har2, hma2, hr2, q2, fun k hk => ?_⟩
    have e' : g = k := by simpa [rowV, Value.ownBlock] using hk
    subst e'
    rcases hg with hg | hg
    · exact h.apart _ hg
    · exact fun e => by have := (h.row1.lt _ e).2; omega
  | 1, _ =>
    have q1 : w1.ownsRow 0 169 2 v0 (Sr 0).length (hV (Sr 0)) := owns_out h.row0 ho (fun k hk e => h.apart k hk e)
    have q2 := owns_out q1 o2 (fun k hk e => owns_type q1 hbx (by decide) (by rw [← show k = bb from e]; exact hk))
    refine ⟨blk_set (j := 3) _ hbx, har2, hma2, q2, hr2, fun k hk => ?_⟩
    intro hk'
    have e' : g = k := by simpa [rowV, Value.ownBlock] using hk'
    subst e'
    rcases hg with hg | hg
    · exact h.apart _ hk hg
    · have := (h.row0.lt _ hk).2; omega
theorem rowV_went {v' : Value} (hs : s < 2) (hg : ∀ k, v'.ownBlock = some k → (vAt v0 v1 s).ownBlock = some k ∨ w.heap.size ≤ k) : Went w (fun k => v0.ownBlock = some k ∨ v1.ownBlock = some k) (fun k => (rowV v0 v' s 0).ownBlock = some k ∨ (rowV v1 v' s 1).ownBlock = some k) := by
  match s, hs with
  | 0, _ =>
    rintro k (hk | hk)
    · exact (hg k hk).imp Or.inl id
    · exact Or.inl (Or.inr hk)
  | 1, _ =>
    rintro k (hk | hk)
    · exact Or.inl (Or.inl hk)
    · exact (hg k hk).imp Or.inr id
theorem vAt_own (hs : s < 2) {k : Nat} (h : (vAt v0 v1 s).ownBlock = some k) : v0.ownBlock = some k ∨ v1.ownBlock = some k := by
  match s, hs with
  | 0, _ => exact Or.inl h
  | 1, _ => exact Or.inr h
end

theorem box_cell {w : World} {bb s : Nat} {a m v0 v1 : Value} {t : TypeId} (h : w.heap[bb]? = some (.cells #[a, m, v0, v1] t (0, 0))) (hs : s < 2) : w.cell? ⟨bb, 2 + s, none⟩ = some (vAt v0 v1 s) ∧ w.frozen? ⟨bb, 2 + s, none⟩ = false := by
  match s, hs with
  | 0, _ => exact ⟨blk_cell (j := 2) h rfl, blk_free h⟩
  | 1, _ => exact ⟨blk_cell (j := 3) h rfl, blk_free h⟩

/-- rank, from a world that came of we by what keeps all -/
theorem rank_at (bb ab mb nn s : Nat) (vs vf v0 v1 : Value) (rs : List Sot) (fr : List Nat) (S : Nat → List Ly) (o : Ord) (we W : World) (hs : s < 2) (hlen : (S s).length ≤ 1000)
    (hth : ∀ x ∈ S s, soAt rs x.slot = (some x.o, x.age)) (hB : BookAt we bb ab mb nn vs vf v0 v1 rs fr S) (hb : Below we.heap.size we W) :
    Calls Tryz.prog 151 #[.pointer (some ⟨bb, 0, none⟩), .int .i64 s, o.agg] W fun e w1 => e = .returned (.int .i64 (rankN o ((S s).map Ly.o))) ∧ Below W.heap.size W w1 ∧ Below we.heap.size we w1 ∧ w1.cell? ⟨bb, 2 + s, none⟩ = some (vAt v0 v1 s) ∧ bb < w1.heap.size :=
  (rank_any bb ab mb nn s vs vf v0 v1 rs fr S o hs hlen hth W (hB.below hb (Nat.le_refl _))).mono fun _ _ ⟨h1, h2⟩ =>
    have h3 := bel_then hb h2
    ⟨h1, h2, h3, (box_cell (hB.below h3 (Nat.le_refl _)).box hs).1, lt_of_block (hB.below h3 (Nat.le_refl _)).box⟩
/-- Insert, likewise -/
theorem insert_at (vb i bb ab mb nn s : Nat) (vs vf v0 v1 : Value) (rs : List Sot) (fr : List Nat) (S : Nat → List Ly) (x : Ly) (we W : World) (hs : s < 2) (hlen : (S s).length ≤ 1000) (hi : i ≤ (S s).length)
    (hB : BookAt we bb ab mb nn vs vf v0 v1 rs fr S) (hb : Below we.heap.size we W) (hvb : W.heap[vb]? = some (.cells #[.int .i64 x.slot, .int .i64 x.age] 169 (0, 0))) (hvl : we.heap.size ≤ vb) :
    Calls Tryz.prog 150 #[vAt v0 v1 s, .int .i64 i, .slice (some ⟨vb, 0, none⟩) 1 1] W fun e w1 => ∃ g cap, e = .returned (.slice (some ⟨g, 0, none⟩) (insAt i x (S s)).length cap)
      ∧ w1.ownsRow 0 169 2 (.slice (some ⟨g, 0, none⟩) (insAt i x (S s)).length cap) (insAt i x (S s)).length (hV (insAt i x (S s))) ∧ Out (fun k => (vAt v0 v1 s).ownBlock = some k) we w1 ∧ ((vAt v0 v1 s).ownBlock = some g ∨ we.heap.size ≤ g)
      ∧ Out (fun k => k = bb ∨ (vAt v0 v1 s).ownBlock = some k) we w1 ∧ w1.cell? ⟨bb, 2 + s, none⟩ = some (vAt v0 v1 s) ∧ w1.frozen? ⟨bb, 2 + s, none⟩ = false := by
  have hrow := (hB.mid.rowIs hs).1
  refine (insert_any vb i (vAt v0 v1 s) (S s) x W (owns_below hrow hb (Nat.le_refl _)) hlen hi hvb (fun e => by have := (hrow.lt _ e).2; omega)).mono ?_
  rintro e w1 ⟨v', rfl, g, cap, rfl, h1, h2, h3⟩
  have h4 : Out (fun k => (vAt v0 v1 s).ownBlock = some k) we w1 := (Out.of_below hb (Nat.le_refl _)).trans h2 (Went.refl _ _)
  obtain ⟨h5, h6⟩ := box_cell (blk_out hB.box h4 (hB.mid.rowNotBox hs)) hs
  exact ⟨g, cap, rfl, h1, h4, h3.imp id (fun h => Nat.le_trans hb.size h), h4.mono (fun k hk => Or.inr hk), h5, h6⟩
end Go.Proofs.YtjdkagafdnchhaaGreatDoor
