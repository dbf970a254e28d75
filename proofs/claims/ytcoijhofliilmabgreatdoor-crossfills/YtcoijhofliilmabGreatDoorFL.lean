/-
  A region that draws its order and only reads, in the round of a range over a function: one walk of its text serves every order, as it does outside of a round. Over any program; conditions stand in each theorem.
-/
import Derived.Test.YtcoijhofliilmabGreatDoorFF
import Derived.Sort.QuietThIn
import Derived.Sort.BigQuietIn
import Derived.Test.YtcoijhofliilmabGreatDoorFK
import Derived.Test.YtcoijhofliilmabGreatDoorRows
import Derived.WalkKit
import Derived.WalkSpells
import Derived.WalkLawsBesides
import Derived.LaidEql
import Derived.Stop.Asserts
import Derived.RowKitTokens
import Derived.Lib.ReflectliteSlice
import Derived.Handy
import Derived.BigQuiet
namespace Go.Proofs.YtcoijhofliilmabGreatDoor
open Go.RowKit

def plainOps (ops : Array Oper) : Bool := ops.all fun o => match o.op with
  | .defer _ => false
  | _ => true
theorem plain_spec {ops : Array Oper} (h : plainOps ops = true) {i : Nat} {o : Oper} (hi : ops[i]? = some o) : ∀ c, o.op ≠ .defer c := fun c e => by
  have := Array.all_eq_true'.1 h o (Array.mem_of_getElem? hi)
  rw [e] at this
  cases this
section
variable {F : Fence} {n lp : Nat} {P : Program} {ops : Array Oper} {Q : Exit → Act → World → Prop} {md : Region.Mode}
theorem oper_round {o : Oper} {a : Act} {w : World} {K : Act → World → Prop} (hro : F.round = none) (hd : ∀ c, o.op ≠ .defer c) (h : o.wpIn F n P a w K Q) : o.wpIn (F.inRound lp) n P a w K Q := by
  unfold Oper.wpIn at *
  rw [hro, Oper.semAt_none] at h
  rw [Fence.inRound_round, Oper.semAt_some lp _ _ hd]
  refine ⟨h.1, ?_⟩
  have h2 := h.2
  generalize (execOp a.eval o).run P w = r at *
  cases r with
  | ok x w' => cases x <;> exact h2
  | halt x w' => cases x <;> exact h2
theorem opIn_round (hp : plainOps ops = true) (hro : F.round = none) {i : Nat} {a : Act} {w : World} {K : Act → World → Prop} (h : wpOpIn F n P ops Q i K a w) : wpOpIn (F.inRound lp) n P ops Q i K a w := by
  unfold wpOpIn at *
  cases ho : ops[i]? with
  | none => rw [ho] at h; exact h
  | some o =>
    rw [ho] at h
    dsimp only at h ⊢
    split
    · rename_i hw
      rw [if_pos hw] at h
      exact oper_round hro (plain_spec hp ho) h
    · rename_i hw
      rw [if_neg hw] at h
      exact h
theorem anyIn_round (hp : plainOps ops = true) (hro : F.round = none) : ∀ (fuel : Nat) (listed : Array Bool) (a : Act) (w : World), wpAnyIn F n P md ops Q fuel listed a w → wpAnyIn (F.inRound lp) n P md ops Q fuel listed a w
  | 0, _, _, _, h => h
  | fuel + 1, _, _, _, h => ⟨h.1, fun i hi => opIn_round hp hro (wpOpIn_mono (fun a' w' h' => anyIn_round hp hro fuel _ a' w' h') (h.2 i hi))⟩
theorem quiet_round {id : Nat} {a : Act} {w : World} {l : List Oper} (hro : F.round = none) (hp : plainOps l.toArray = true) (hm : P.follows .mixedOrders = true) (hB : Region.lexB .any l.toArray = true)
    (h : wpQuietIn F n P l.toArray (fun w' => ∃ n, w' = w.drewN n) (fun a' => ∀ w', (∃ n, w' = w.drewN n) → Q .normal a' w') l a) : (Code.region id l.toArray true).wpIn (F.inRound lp) n P Q a w := by
  simp only [Region.lexB, Bool.and_eq_true] at hB
  refine wpIn_region_any hm (anyIn_round hp hro _ _ _ _ (wpAnyIn_of_quiet (C := fun w' => ∃ n, w' = w.drewN n) (Q := fun a' => ∀ w', (∃ n, w' = w.drewN n) → Q .normal a' w') hro (fun _ w' hw' h => h w' hw') _ _ _ _ ⟨1, rfl⟩ ?_))
  have := wpAnyQIn_lex (F := F) (n := n) (C := fun w' => ∃ n, w' = w.drewN n) (md := .any) hB.1 l.toArray.toList 0 (Array.replicate l.toArray.size false) a (by simp) (by simpa using hB.2) (by simpa using h)
  simpa using this
end
end Go.Proofs.YtcoijhofliilmabGreatDoor

/-
  What the program's Depth returns, over this seat's translation. Conditions stand in each theorem.
-/
namespace Go.Proofs.YtcoijhofliilmabGreatDoor
open Go.RowKit Go.Shelf

attribute [local go_sem] Oper.semAt_some

theorem blk_apart {w : World} {b b' : Nat} {vs vs' : Array Value} {t t' : TypeId} {f f' : Nat × Nat} (h : w.heap[b]? = some (.cells vs t f)) (h' : w.heap[b']? = some (.cells vs' t' f')) (ht : t ≠ t') : b ≠ b' := fun e => by
  subst e
  rw [h] at h'
  injection h' with h'
  injection h' with _ h' _
  exact ht h'
/-- a block that an append, and the store behind it, leave as it was -/
theorem app_keep {V w1 : World} {b B base size n : Nat} {vs : Array Value} {t e : TypeId} {v u : Value} {xs : List Value} {tmp : Obj} (h : V.heap[b]? = some (.cells vs t (0, 0))) (hrow : V.ownsRow base e size v n xs) (hte : t ≠ e) (hg : (V.alloc tmp).grownBy w1 v.ownBlock) (hb : b ≠ B) : (w1.setCell ⟨B, 0, none⟩ u).heap[b]? = some (.cells vs t (0, 0)) := by
  have h1 := blk_below h (bel1 V tmp) (Nat.le_refl _)
  have h2 := (hg.block b (lt_of_some h1) (fun e' => owns_type hrow h hte e'.symm)).trans h1
  exact blk_out h2 (out_set w1 ⟨B, 0, none⟩ u) hb
/-- the end of a round: the last level's numbers are written -/
theorem dep_close {w W V : World} {bb gl n vcap : Nat} {q m : Int} {acc l' : List Lev} (hv : Boxed V w.heap.size 75 (.slice (some ⟨gl, 0, none⟩) (n + 1) vcap)) (hrow : V.ownsRow w.heap.size 80 3 (.slice (some ⟨gl, 0, none⟩) (n + 1) vcap) acc.length (lvV acc)) (hn : n < acc.length)
    (hbb : W.heap[w.heap.size + 1]? = some (.cells #[.pointer (some ⟨bb, 0, none⟩)] 23 (0, 0))) (hbbV : V.heap[w.heap.size + 1]? = some (.cells #[.pointer (some ⟨bb, 0, none⟩)] 23 (0, 0))) (hk : KeepsOthers W V) (hb : Below w.heap.size W V) (hBW : Below w.heap.size w W) (hl' : l' = acc.set n ⟨(lvAt acc n).price, q, m⟩) :
    KeepsOthers W ((V.setCell ⟨gl, n * 3 + 1, none⟩ (.int .i64 q)).setCell ⟨gl, n * 3 + 2, none⟩ (.int .i64 m)).drew ∧ KpL w.heap.size (w.heap.size + 1) W ((V.setCell ⟨gl, n * 3 + 1, none⟩ (.int .i64 q)).setCell ⟨gl, n * 3 + 2, none⟩ (.int .i64 m)).drew
    ∧ ((∃ v, Boxed ((V.setCell ⟨gl, n * 3 + 1, none⟩ (.int .i64 q)).setCell ⟨gl, n * 3 + 2, none⟩ (.int .i64 m)).drew w.heap.size 75 v ∧ ((V.setCell ⟨gl, n * 3 + 1, none⟩ (.int .i64 q)).setCell ⟨gl, n * 3 + 2, none⟩ (.int .i64 m)).drew.ownsRow w.heap.size 80 3 v l'.length (lvV l') ∧ True)
      ∧ ((V.setCell ⟨gl, n * 3 + 1, none⟩ (.int .i64 q)).setCell ⟨gl, n * 3 + 2, none⟩ (.int .i64 m)).drew.heap[w.heap.size + 1]? = some (.cells #[.pointer (some ⟨bb, 0, none⟩)] 23 (0, 0))) ∧ Below w.heap.size w ((V.setCell ⟨gl, n * 3 + 1, none⟩ (.int .i64 q)).setCell ⟨gl, n * 3 + 2, none⟩ (.int .i64 m)).drew := by
  have hg : w.heap.size ≤ gl := (hrow.lt gl rfl).1
  have n1 : ¬ w.heap.size = gl := fun e => owns_type hrow (show V.heap[w.heap.size]? = some (.cells _ _ (0, 0)) from hv) (by decide) (by rw [e]; rfl)
  have n2 : ¬ w.heap.size + 1 = gl := fun e => owns_type hrow hbbV (by decide) (by rw [e]; rfl)
  have o2 : Out (fun j => j = gl) V ((V.setCell ⟨gl, n * 3 + 1, none⟩ (.int .i64 q)).setCell ⟨gl, n * 3 + 2, none⟩ (.int .i64 m)).drew := out_drew (out_setIn (p := ⟨gl, n * 3 + 2, none⟩) (out_setIn (p := ⟨gl, n * 3 + 1, none⟩) (Out.refl _ _) rfl) rfl)
  have hrow2 := (row_inc (q := q) (m := m) hrow hn).drew
  have hbx := blk_out hbbV o2 n2
  have hbe : Below w.heap.size W ((V.setCell ⟨gl, n * 3 + 1, none⟩ (.int .i64 q)).setCell ⟨gl, n * 3 + 2, none⟩ (.int .i64 m)).drew := ((hb.setCell (p := ⟨gl, n * 3 + 1, none⟩) hg _).setCell (p := ⟨gl, n * 3 + 2, none⟩) hg _).drew
  subst hl'
  refine ⟨((hk.trans (KeepsOthers.setCell _ _ _)).trans (KeepsOthers.setCell _ _ _)).trans (KeepsOthers.drew _), ⟨hbe, fun vs t e => ?_⟩, ⟨⟨_, blk_out hv o2 n1, hrow2, trivial⟩, hbx⟩, hBW.trans hbe⟩
  rw [hbb] at e
  rw [← e]
  exact hbx

set_option maxRecDepth 100000 in
set_option maxHeartbeats 4000000 in
theorem depth_any (bb ab mb nn s : Nat) (vs vf v0 v1 : Value) (rs : List Sot) (fr : List Nat) (S : Nat → List Ly) (hs : s < 2) (hlen : (S s).length ≤ 1000)
    (hth : ∀ x ∈ S s, soAt rs x.slot = (some x.o, x.age)) (w : World) (hB : BookAt w bb ab mb nn vs vf v0 v1 rs fr S) (side : Int) (hsd : side = (s : Int) + 1) :
    Calls Tryz.prog 34 #[.pointer (some ⟨bb, 0, none⟩), .int .i64 side] w fun e W' => ∃ v, e = .returned (.tuple #[v, .nilIface]) ∧ W'.ownsRow w.heap.size 80 3 v (depthW ((S s).map Ly.o)).length (lvV (depthW ((S s).map Ly.o))) ∧ Below w.heap.size w W' := by
  obtain ⟨i0, hi, hz0, hz1, hz2⟩ := info_parts Tryz.infoLev
  have hss : (side == 1 || side == 2) = true := by
    subst hsd
    match s, hs with
    | 0, _ => rfl
    | 1, _ => rfl
  have HS : Hid ((side == 1 || side == 2) = true) := hss
  have hsub : IntKind.i64.wrap (side - 1) = (s : Int) := by rw [hsd, show (s : Int) + 1 - 1 = s by omega]; exact IntWalk.i64_in _ (by omega)
  clear hss hsd
  refine (callsIn_wide (n := 4)).1 ?_
  refine callsIn_of_wp_marks Tryz.func34 rfl trivial ?_ rfl
  simp only [Tryz.ntmps34, List.size_toArray, List.length_cons, List.length_nil, Nat.reduceAdd, Nat.reduceSub, Array.replicate_succ, Array.replicate_zero, List.push_toArray, List.append_toArray, List.nil_append, List.cons_append]
  gi_wp2_with fail
  refine ⟨trivial, (callsIn_wide.2 (isSide_any side _)).mono ?_⟩
  rintro e w' ⟨rfl, hw⟩
  replace hw := hw.symm
  subst hw
  rw [HS.out]
  gi_wp2_with fail
  refine ⟨trivial, (callsIn_wide.2 (lying_any bb _ _)).mono ?_⟩
  rintro e w' ⟨rfl, rfl⟩
  gi_wp2_with fail
  have hB1 := bel1 w (.cells #[.slice none 0 0] 75)
  have bO := Boxed.new w 75 (.slice none 0 0)
  obtain ⟨w2, hw2⟩ : ∃ w2, w.alloc (.cells #[.slice none 0 0] 75) = w2 := ⟨_, rfl⟩
  have hz2' : w2.heap.size = w.heap.size + 1 := by rw [← hw2]; simp
  rw [hw2] at hB1 bO ⊢
  clear hw2
  have hB2 := bel2 w2 (.cells #[.pointer (some ⟨bb, 0, none⟩)] 23) (.cells #[.int .i64 s] 3)
  have bB := two_old w2 (.cells #[.pointer (some ⟨bb, 0, none⟩)] 23) (.cells #[.int .i64 s] 3)
  have bS := two_new w2 (.cells #[.pointer (some ⟨bb, 0, none⟩)] 23) (.cells #[.int .i64 s] 3)
  obtain ⟨W0, hW0⟩ : ∃ W0, (w2.alloc (.cells #[.pointer (some ⟨bb, 0, none⟩)] 23)).alloc (.cells #[.int .i64 s] 3) = W0 := ⟨_, rfl⟩
  have hsz : W0.heap.size = w.heap.size + 3 := by rw [← hW0]; simp; omega
  rw [hW0] at hB2 bB bS ⊢
  clear hW0
  have bO : Boxed W0 w.heap.size 75 (.slice none 0 0) := blk_below bO hB2 (Nat.le_refl _)
  have hB0 : Below w.heap.size w W0 := bel_then hB1 hB2
  rw [hz2'] at bB bS
  have HK : ∀ k, pbB bb ab mb vs vf v0 v1 k → k < w.heap.size := fun k hk => hB.lt hk
  clear hB1 hB2
  refine wpIn_rangeFunc_ownH (F := Fence.wide) (n := 4) rfl (by decide) (gf := 72) (lb := #[.pointer (some ⟨w.heap.size + 1, 0, none⟩), .pointer (some ⟨w.heap.size + 1 + 1, 0, none⟩)]) rfl trivial (enters_of Tryz.func72 (by kernel_rfl) rfl)
    (lySeq 3 (by decide) (w.heap.size + 1) (w.heap.size + 1 + 1) w.heap.size bb ab mb nn s vs vf v0 v1 rs fr S hs hlen hth HK W0 (by omega) (hB.below hB0 (Nat.le_refl _)) bB bS) kpl_t (kpl_b (by omega)) (Below.refl _ _) (fun _ => rfl)
    (fun pre W => ((∃ v, Boxed W w.heap.size 75 v ∧ W.ownsRow w.heap.size 80 3 v (depthW pre).length (lvV (depthW pre)) ∧ True) ∧ W.heap[w.heap.size + 1]? = some (.cells #[.pointer (some ⟨bb, 0, none⟩)] 23 (0, 0))) ∧ Below w.heap.size w W)
    (fun _ _ _ => False)
    (OwnFrom.and (OwnFrom.and (Own.from (holdsRow_own w.heap.size w.heap.size 75 80 3 (fun pre => (depthW pre).length) (fun pre => lvV (depthW pre)) (fun _ _ => True)) _) (Own.from (fun s A B row hs hg hr => blk_kept hs hg hr) _)) (ownFrom_below (Nat.le_refl _) (by omega)))
    (fun _ _ _ _ _ hs _ _ => hs)
    ⟨⟨⟨_, bO, World.ownsRow_nil _ _ _ _, trivial⟩, bB⟩, hB0⟩
    (fun x a' W => ∃ Bx, OrdAt W Bx x ∧ a' = { tmps := #[.pointer (some ⟨bb, 0, none⟩), .int .i64 side, undef, undef, .slice none 0 0, .nilIface, .pointer (some ⟨w.heap.size, 0, none⟩), .pointer (some ⟨Bx, 0, none⟩), undef, .int .i64 side, .bool true, .bool false, undef, .pointer (some ⟨bb, 0, none⟩), .int .i64 side, .int .i64 s, .func (.func 72) #[] #[.pointer (some ⟨w.heap.size + 1, 0, none⟩), .pointer (some ⟨w.heap.size + 1 + 1, 0, none⟩)], Ord.agg x, undef, undef, undef, undef, undef, undef, undef, undef, undef, undef, undef, undef, undef, undef, undef, undef, undef, undef, undef, undef, undef, undef, undef, undef, undef, undef, undef, undef, undef, undef, undef, undef, undef, undef, undef, undef, undef, undef, undef, undef, undef, undef, undef, undef, undef, undef], defers := [] })
    (fun x a' _ X Y row hs hg hr => by obtain ⟨Bx, h2, h3⟩ := hs; exact ⟨Bx, blk_kept h2 hg (fun r e => (hr r e).2), h3⟩)
    ?assign ?body ?done ?stop
  case assign =>
    rintro l pre x W K ⟨⟨⟨v, hv, hrow, _⟩, hbb⟩, hBW⟩ hK
    have lS := hBW.size
    unfold Ord.agg at hK ⊢
    gi_wp2
    refine hK _ _ ((KeepsOthers.alloc _ _).from _) (KpL.of_below (bel1 _ _) lS) ⟨⟨⟨v, hv.alloc _, hrow.alloc _, trivial⟩, blk_below hbb (bel1 _ _) (Nat.le_refl _)⟩, hBW.alloc hBW.size _⟩ ⟨W.heap.size, heap_alloc_new _ _, rfl⟩
  case body =>
    rintro l pre x a' W hl ⟨r, hr⟩ ⟨⟨⟨v, hv, hrow, _⟩, hbb⟩, hBW⟩ ⟨Bx, bX, rfl⟩ hlt
    have hc := hv.cell
    have c0 := blk_cell (j := 0) bX rfl
    have c1 := blk_cell (j := 1) bX rfl
    have c2 := blk_cell (j := 2) bX rfl
    have c3 := blk_cell (j := 3) bX rfl
    have c4 := blk_cell (j := 4) bX rfl
    have HBS := hBW.size
    have hll := depthW_len pre
    have HT : Hid (depthW (pre ++ [x]) = depStepW (depthW pre) x) := depthW_snoc pre x
    generalize depthW pre = acc at hll hrow HT
    clear hr
    obtain ⟨vao, vcap, rfl, _, _⟩ := owns_shape hrow
    unfold Ord.agg
    by_cases hm : x.kind = 2
    · rw [hm] at c2 ⊢
      gi_wp2_with fail
      refine ⟨(KeepsOthers.refl _).from _, KpL.refl _ _ _, ⟨⟨_, hv, by rw [HT.out, stepW_market hm]; exact hrow, trivial⟩, hbb⟩, hBW⟩
    · have hmb : (x.kind == 2) = false := beq_eq_false_iff_ne.2 hm
      have hmix : Tryz.prog.follows .mixedOrders = true := by kernel_rfl
      obtain ⟨N, hN⟩ : ∃ N, acc.length = N := ⟨_, rfl⟩
      rw [hN] at hrow hv hc hll
      cases N with
      | succ n =>
        have hrow' : W.ownsRow w.heap.size 80 3 (.slice vao (n + 1) vcap) acc.length (lvV acc) := by rw [hN]; exact hrow
        obtain ⟨gl, cl, hvl, l0, l1, l2, f1, f2⟩ := row_last hrow' (k := n) (by omega)
        simp only [Value.slice.injEq, true_and, hN] at hvl
        obtain ⟨hvl1, hvl2⟩ := hvl
        subst hvl1 hvl2
        have g0 : ((n : Int) + 1 == 0) = false := beq_eq_false_iff_ne.2 (by omega)
        have g1 : (((n + 1 : Nat) : Int) == 0) = false := beq_eq_false_iff_ne.2 (by omega)
        gi_wp2_with fail
        by_cases h2 : (lvAt acc n).price = x.price
        · have HSt : Hid (depStepW acc x = acc.set n (incW (lvAt acc n) x)) := by
            have := stepW_same (acc := acc) hm (by omega) (by rw [hN, Nat.add_sub_cancel]; exact h2)
            rw [hN, Nat.add_sub_cancel] at this
            exact this
          rw [h2] at l0
          refine quiet_round (F := Fence.wide) rfl (by kernel_rfl) hmix (by kernel_rfl) ?_
          repeat (gi_big_quiet_step (fail))
          refine wpQuietIn_nil ?_
          intro _ hw'
          obtain ⟨nq, hw''⟩ := hw'
          subst hw''
          gi_wp2_with fail
          have hbd := below_drewN (Below.refl W.heap.size W) nq
          have hvV : Boxed (W.drewN nq) w.heap.size 75 (.slice (some ⟨gl, 0, none⟩) (n + 1) vcap) := blk_below hv hbd (Nat.le_refl _)
          have hrowV := owns_below hrow' hbd (Nat.le_refl _)
          have hbbV := blk_below hbb hbd (Nat.le_refl _)
          have bXV := blk_below bX hbd (Nat.le_refl _)
          generalize W.drewN nq = V at hbd hvV hrowV hbbV bXV ⊢
          obtain ⟨gl', cl', hvl, m0, m1, m2, e1, e2⟩ := row_last hrowV (k := n) (by omega)
          simp only [Value.slice.injEq, Option.some.injEq, Addr.mk.injEq, and_true, true_and, hN] at hvl
          obtain ⟨hvl1, hvl2⟩ := hvl
          subst hvl1 hvl2
          have x4 := blk_cell (j := 4) bXV rfl
          have HB : Hid (Below W.heap.size W V) := hbd
          clear c0 c1 c2 c3 c4 l0 l1 l2 f1 f2 hc hbd
          gi_region_with_o (fail)
          all_goals gi_wp2_with fail
          all_goals (
            obtain ⟨k1, k2, k3, k4⟩ := dep_close (q := wrap64 ((lvAt acc n).qty + x.qty)) (m := wrap64 ((lvAt acc n).orders + 1)) (l' := depthW (pre ++ [x])) hvV hrowV (by omega) hbb hbbV (keeps_below HB.out) (HB.out.mono HBS) hBW (HT.out.trans HSt.out)
            first | exact ⟨k1.from _, k2, k3, k4⟩ | exact ⟨k1.from _, k2, ⟨k3.1.imp fun v h => ⟨h.1, h.2.1⟩, k3.2⟩, k4⟩)
        · have h2b : ((lvAt acc n).price == x.price) = false := beq_eq_false_iff_ne.2 h2
          have h2c : ((lvAt acc n).price != x.price) = true := by simpa using h2
          have HSt : Hid (depStepW acc x = acc ++ [⟨x.price, wrap64 x.qty, 1⟩]) := stepW_other hm (fun e => h2 (by have := e.2; rwa [hN, Nat.add_sub_cancel] at this))
          refine quiet_round (F := Fence.wide) rfl (by kernel_rfl) hmix (by kernel_rfl) ?_
          repeat (gi_big_quiet_step (fail))
          refine wpQuietIn_nil ?_
          intro _ hw'
          obtain ⟨nq, hw''⟩ := hw'
          subst hw''
          have hbd := below_drewN (Below.refl W.heap.size W) nq
          have hvV : Boxed (W.drewN nq) w.heap.size 75 (.slice (some ⟨gl, 0, none⟩) (n + 1) vcap) := blk_below hv hbd (Nat.le_refl _)
          have hrowV := owns_below hrow hbd (Nat.le_refl _)
          have hbbV := blk_below hbb hbd (Nat.le_refl _)
          have bXV := blk_below bX hbd (Nat.le_refl _)
          generalize W.drewN nq = V at hbd hvV hrowV hbbV bXV ⊢
          have hcV := hvV.cell
          have hfV := hvV.frozen
          have x3 := blk_cell (j := 3) bXV rfl
          have HB : Hid (Below W.heap.size W V) := hbd
          have hVz : w.heap.size ≤ V.heap.size := Nat.le_trans HBS hbd.size
          have hne1 : Bx ≠ w.heap.size := blk_apart bXV (show V.heap[w.heap.size]? = some (.cells _ _ (0, 0)) from hvV) (by decide)
          clear c0 c1 c2 c3 c4 hc hbd l0 l1 l2 f1 f2
          gi_wp2_with (gi_at_builtin; refine wpListIn_append_own _ rfl _ _ 75 rfl w.heap.size 80 i0 (.agg #[.int .i64 0, .int .i64 0, .int .i64 0]) 3 24 Tryz.underlying75 hi hz0 hz1 hz2 rfl (by decide) _ (n + 1) (lvV acc) rfl (hrowV.alloc _) ⟨V.heap.size, 0, none⟩ 1 1 [.int .i64 x.price, .int .i64 0, .int .i64 0] rfl rfl (World.news_of_block (cs := #[.int .i64 x.price, .int .i64 0, .int .i64 0]) (t := 80) (fr := (0, 0)) (heap_alloc_new V _)) (by simp [Value.oneCell']) (by unfold maxLen; omega) (by omega) (by simp; omega) ?_; intro v' w1 hown' hgrow _; obtain ⟨g', cap', rfl⟩ := ownsRow_succ hown'; obtain ⟨hv1, hv2, hr2, hk2, hb2⟩ := hvV.appended (by decide) hrowV hVz (Nat.le_refl _) hown' hgrow; have hc1 := hv1.cell; have hf1 := hv1.frozen)
          have hbb2 := app_keep (B := w.heap.size) (u := .slice (some ⟨g', 0, none⟩) (n + 1 + 1) cap') hbbV hrowV (by decide) hgrow (by omega)
          have bX2 := app_keep (B := w.heap.size) (u := .slice (some ⟨g', 0, none⟩) (n + 1 + 1) cap') bXV hrowV (by decide) hgrow hne1
          generalize w1.setCell ⟨w.heap.size, 0, none⟩ (.slice (some ⟨g', 0, none⟩) (n + 1 + 1) cap') = U at hv2 hr2 hk2 hb2 hbb2 bX2 ⊢
          clear hv1 hc1 hf1 hgrow hown' hcV hfV x3
          have hr3 : U.ownsRow w.heap.size 80 3 (.slice (some ⟨g', 0, none⟩) (n + 1 + 1) cap') (acc ++ [(⟨x.price, 0, 0⟩ : Lev)]).length (lvV (acc ++ [(⟨x.price, 0, 0⟩ : Lev)])) := by
            rw [List.length_append, List.length_singleton, lvV_snoc, hN]
            exact hr2
          obtain ⟨g2, cl2, hvl2, m0, m1, m2, e1, e2⟩ := row_last hr3 (k := n + 1) (by rw [List.length_append, List.length_singleton, hN]; omega)
          have hla : lvAt (acc ++ [(⟨x.price, 0, 0⟩ : Lev)]) (n + 1) = ⟨x.price, 0, 0⟩ := by rw [← hN]; exact lvAt_pushed _ _
          rw [hla] at m0 m1 m2
          simp only [Value.slice.injEq, Option.some.injEq, Addr.mk.injEq, and_true] at hvl2
          have hvg := hvl2.1
          clear hvl2
          subst hvg
          have x4 := blk_cell (j := 4) bX2 rfl
          gi_region_with_o (fail)
          all_goals gi_wp2_with fail
          all_goals (
            obtain ⟨k1, k2, k3, k4⟩ := dep_close (n := n + 1) (q := wrap64 x.qty) (m := 1) (l' := depthW (pre ++ [x])) hv2 hr3 (by rw [List.length_append, List.length_singleton, hN]; omega) hbb hbb2 ((keeps_below HB.out).trans hk2) ((HB.out.mono HBS).trans hb2) hBW (by rw [HT.out, HSt.out, hla, ← hN]; simp)
            first | exact ⟨k1.from _, k2, k3, k4⟩ | exact ⟨k1.from _, k2, ⟨k3.1.imp fun v h => ⟨h.1, h.2.1⟩, k3.2⟩, k4⟩)
      | zero =>
        have HSt : Hid (depStepW acc x = acc ++ [⟨x.price, wrap64 x.qty, 1⟩]) := stepW_other hm (fun e => by omega)
        gi_wp2_with fail
        refine quiet_round (F := Fence.wide) rfl (by kernel_rfl) hmix (by kernel_rfl) ?_
        repeat (gi_big_quiet_step (fail))
        refine wpQuietIn_nil ?_
        intro _ hw'
        obtain ⟨nq, hw''⟩ := hw'
        subst hw''
        have hbd := below_drewN (Below.refl W.heap.size W) nq
        have hvV : Boxed (W.drewN nq) w.heap.size 75 (.slice vao (0) vcap) := blk_below hv hbd (Nat.le_refl _)
        have hrowV := owns_below hrow hbd (Nat.le_refl _)
        have hbbV := blk_below hbb hbd (Nat.le_refl _)
        have bXV := blk_below bX hbd (Nat.le_refl _)
        generalize W.drewN nq = V at hbd hvV hrowV hbbV bXV ⊢
        have hcV := hvV.cell
        have hfV := hvV.frozen
        have x3 := blk_cell (j := 3) bXV rfl
        have HB : Hid (Below W.heap.size W V) := hbd
        have hVz : w.heap.size ≤ V.heap.size := Nat.le_trans HBS hbd.size
        have hne1 : Bx ≠ w.heap.size := blk_apart bXV (show V.heap[w.heap.size]? = some (.cells _ _ (0, 0)) from hvV) (by decide)
        clear c0 c1 c2 c3 c4 hc hbd 
        gi_wp2_with (gi_at_builtin; refine wpListIn_append_own _ rfl _ _ 75 rfl w.heap.size 80 i0 (.agg #[.int .i64 0, .int .i64 0, .int .i64 0]) 3 24 Tryz.underlying75 hi hz0 hz1 hz2 rfl (by decide) _ (0) (lvV acc) rfl (hrowV.alloc _) ⟨V.heap.size, 0, none⟩ 1 1 [.int .i64 x.price, .int .i64 0, .int .i64 0] rfl rfl (World.news_of_block (cs := #[.int .i64 x.price, .int .i64 0, .int .i64 0]) (t := 80) (fr := (0, 0)) (heap_alloc_new V _)) (by simp [Value.oneCell']) (by unfold maxLen; omega) (by omega) (by simp; omega) ?_; intro v' w1 hown' hgrow _; obtain ⟨g', cap', rfl⟩ := ownsRow_succ hown'; obtain ⟨hv1, hv2, hr2, hk2, hb2⟩ := hvV.appended (by decide) hrowV hVz (Nat.le_refl _) hown' hgrow; have hc1 := hv1.cell; have hf1 := hv1.frozen)
        have hbb2 := app_keep (B := w.heap.size) (u := .slice (some ⟨g', 0, none⟩) (0 + 1) cap') hbbV hrowV (by decide) hgrow (by omega)
        have bX2 := app_keep (B := w.heap.size) (u := .slice (some ⟨g', 0, none⟩) (0 + 1) cap') bXV hrowV (by decide) hgrow hne1
        generalize w1.setCell ⟨w.heap.size, 0, none⟩ (.slice (some ⟨g', 0, none⟩) (0 + 1) cap') = U at hv2 hr2 hk2 hb2 hbb2 bX2 ⊢
        clear hv1 hc1 hf1 hgrow hown' hcV hfV x3
        have hr3 : U.ownsRow w.heap.size 80 3 (.slice (some ⟨g', 0, none⟩) (0 + 1) cap') (acc ++ [(⟨x.price, 0, 0⟩ : Lev)]).length (lvV (acc ++ [(⟨x.price, 0, 0⟩ : Lev)])) := by
          rw [List.length_append, List.length_singleton, lvV_snoc, hN]
          exact hr2
        obtain ⟨g2, cl2, hvl2, m0, m1, m2, e1, e2⟩ := row_last hr3 (k := 0) (by rw [List.length_append, List.length_singleton, hN]; omega)
        have hla : lvAt (acc ++ [(⟨x.price, 0, 0⟩ : Lev)]) (0) = ⟨x.price, 0, 0⟩ := by rw [← hN]; exact lvAt_pushed _ _
        rw [hla] at m0 m1 m2
        simp only [Value.slice.injEq, Option.some.injEq, Addr.mk.injEq, and_true] at hvl2
        have hvg := hvl2.1
        clear hvl2
        subst hvg
        have x4 := blk_cell (j := 4) bX2 rfl
        have m1' : U.cell? ⟨g', 1, none⟩ = some (.int .i64 0) := m1
        have m2' : U.cell? ⟨g', 2, none⟩ = some (.int .i64 0) := m2
        have e1' : U.frozen? ⟨g', 1, none⟩ = false := e1
        have e2' : U.frozen? ⟨g', 2, none⟩ = false := e2
        gi_region_with_o (fail)
        all_goals gi_wp2_with fail
        all_goals (
          obtain ⟨k1, k2, k3, k4⟩ := dep_close (n := 0) (q := wrap64 x.qty) (m := 1) (l' := depthW (pre ++ [x])) hv2 hr3 (by rw [List.length_append, List.length_singleton, hN]; omega) hbb hbb2 ((keeps_below HB.out).trans hk2) ((HB.out.mono HBS).trans hb2) hBW (by rw [HT.out, HSt.out, hla, ← hN]; simp)
          first | exact ⟨k1.from _, k2, k3, k4⟩ | exact ⟨k1.from _, k2, ⟨k3.1.imp fun v h => ⟨h.1, h.2.1⟩, k3.2⟩, k4⟩)
  case done =>
    rintro D ys W hD rfl ⟨⟨⟨v, hv, hrow, _⟩, hbb⟩, hBW⟩ hK
    have hc := hv.cell
    gi_wp2
    refine ⟨by simp, .inl ⟨_, _, rfl, run_takeDeferred hK, ?_⟩⟩
    refine ⟨.tuple #[v, .nilIface], by simp [results, Tryz.results34, go_sem], v, rfl, ownsRow_putObj hrow _ hK rfl, hBW.trans (belowK_b (w := w) (Nat.le_refl _) W D _ _ (by omega) hK rfl rfl)⟩
  case stop =>
    rintro D c pre W _ _ h _
    exact h.elim

set_option maxRecDepth 100000 in
set_option maxHeartbeats 1000000 in
theorem depth_arg (bb : Nat) (w : World) (side : Int) (hss : (side == 1 || side == 2) = false) :
    Calls Tryz.prog 34 #[.pointer (some ⟨bb, 0, none⟩), .int .i64 side] w fun e W' => e = .returned (.tuple #[.slice none 0 0, .iface 28 (.int .i64 1)]) ∧ Below w.heap.size w W' := by
  have HS : Hid ((side == 1 || side == 2) = false) := hss
  clear hss
  go_enter Tryz.func34, Tryz.ntmps34
  go_wp2_with fail
  refine (isSide_any side _).mono ?_
  rintro e w1 ⟨rfl, hw⟩
  replace hw := hw.symm
  subst hw
  rw [HS.out]
  go_wp2_with fail
  go_ret2
  exact ⟨rfl, Below.refl _ _⟩
set_option maxRecDepth 100000 in
set_option maxHeartbeats 1000000 in
theorem side_arg (bb : Nat) (w : World) (side : Int) (hss : (side == 1 || side == 2) = false) :
    Calls Tryz.prog 31 #[.pointer (some ⟨bb, 0, none⟩), .int .i64 side] w fun e W' => e = .returned (.tuple #[.slice none 0 0, .iface 28 (.int .i64 1)]) ∧ Below w.heap.size w W' := by
  have HS : Hid ((side == 1 || side == 2) = false) := hss
  clear hss
  go_enter Tryz.func31, Tryz.ntmps31
  go_wp2_with fail
  refine (isSide_any side _).mono ?_
  rintro e w1 ⟨rfl, hw⟩
  replace hw := hw.symm
  subst hw
  rw [HS.out]
  go_wp2_with fail
  go_ret2
  exact ⟨rfl, Below.refl _ _⟩

/-- 4.2, Depth of a book in memory -/
theorem pbDepth (bb m s : Nat) (b : BkS) (w : World) (h : Bk w bb m b) (hs : s < 2) (side : Int) (hsd : side = (s : Int) + 1) :
    Calls Tryz.prog 34 #[.pointer (some ⟨bb, 0, none⟩), .int .i64 side] w fun e W' => ∃ v, e = .returned (.tuple #[v, .nilIface]) ∧ W'.ownsRow w.heap.size 80 3 v (depth ((b.S s).map Ly.o)).length (lvV (depth ((b.S s).map Ly.o))) ∧ Below w.heap.size w W' := by
  have hlen : (b.S s).length ≤ 1000 := by have h1 := (pb_len b.S [] hs).2; have h2 := h.ok.most; omega
  have he : depthW ((b.S s).map Ly.o) = depth ((b.S s).map Ly.o) := depthW_eq (fun o ho => by
    obtain ⟨x, hx, rfl⟩ := List.mem_map.1 ho
    have := h.ok.ok s hs x hx
    omega) (by rw [List.length_map]; exact hlen)
  rw [← he]
  exact depth_any bb b.ab b.mb b.n s b.vs b.vf b.v0 b.v1 b.rs b.fr b.S hs hlen (h.ok.there s hs) w h.at_ side hsd
end Go.Proofs.YtcoijhofliilmabGreatDoor

/-
  Closed facts on the model's entries for internal/reflectlite at this seat's type numbers, as errors.As comes to them at a target of type *api.Errno; what the cell of errors.errorType holds (ErrT). Conditions stand in each theorem.
-/
namespace Go.Proofs.YtcoijhofliilmabGreatDoor
open Go.RowKit Go.Extern.Stop Go.Stop Go.Extern

theorem Tryz.vP (t : Addr) (w : World) : (ReflectliteValue.unpack (.iface 156 (.pointer (some t)))).run Tryz.prog w
    = .ok (.agg #[.pointer (some ⟨1, 156, none⟩), .pointer (some ⟨w.heap.size, 0, none⟩), .int .u64 150]) (w.alloc (.cells #[.pointer (some t)] 156)) := by kernel_rfl
theorem Tryz.tP (a : Addr) (w : World) : (ReflectliteValue.methodAny (ReflectliteValue.valueError "reflectlite.Value.Type" 0) (fun t _ _ _ => ReflectliteType.toType t) #[.agg #[.pointer (some ⟨1, 156, none⟩), .pointer (some a), .int .u64 150]]).run Tryz.prog w
    = .ok (.iface 150 (.agg #[.pointer (some ⟨1, 156, none⟩)])) w := by kernel_rfl
theorem Tryz.mKind (h : Value) (w : World) : (Go.method 305 150 (.agg #[h]) "Kind").run Tryz.prog w = .ok (117, h) w := by kernel_rfl
theorem Tryz.kP (w : World) : ((ReflectliteType.abiMethod fun t => (fun a : Nat => Value.int IntKind.u8 (a : Int)) <$> Rtype.kind t) #[.pointer (some ⟨1, 156, none⟩)]).run Tryz.prog w = .ok (.int .u8 22) w := by kernel_rfl
theorem Tryz.kE (w : World) : ((ReflectliteType.abiMethod fun t => (fun a : Nat => Value.int IntKind.u8 (a : Int)) <$> Rtype.kind t) #[.pointer (some ⟨1, 28, none⟩)]).run Tryz.prog w = .ok (.int .u8 2) w := by kernel_rfl
theorem Tryz.partsP (a : Addr) (w : World) : (ReflectliteValue.parts (.agg #[.pointer (some ⟨1, 156, none⟩), .pointer (some a), .int .u64 150])).run Tryz.prog w = .ok (some (156, a, 150)) w := by kernel_rfl
theorem Tryz.isNilP (a p : Addr) (W : World) (ha : W.cell? a = some (.pointer (some p))) :
    (ReflectliteValue.method (ReflectliteValue.valueError "reflectlite.Value.IsNil" 0) ReflectliteValue.isNil #[.agg #[.pointer (some ⟨1, 156, none⟩), .pointer (some a), .int .u64 150]]).run Tryz.prog W = .ok (.bool false) W := by
  rw [Lib.rl_method]
  simp only [Sem.run_bind, Tryz.partsP, Result.andThen]
  simp [ReflectliteValue.isNil, loadVar, isAgg, underlying, Tryz.underlying156, ha, Result.andThen]
theorem Tryz.mElem (h : Value) (w : World) : (Go.method 305 150 (.agg #[h]) "Elem").run Tryz.prog w = .ok (126, .agg #[h]) w := by kernel_rfl
theorem Tryz.mImplements (h : Value) (w : World) : (Go.method 305 150 (.agg #[h]) "Implements").run Tryz.prog w = .ok (127, .agg #[h]) w := by kernel_rfl
theorem Tryz.mAssignableTo (h : Value) (w : World) : (Go.method 305 150 (.agg #[h]) "AssignableTo").run Tryz.prog w = .ok (125, .agg #[h]) w := by kernel_rfl
theorem Tryz.elemP (w : World) : (ReflectliteType.method ReflectliteType.elem #[.agg #[.pointer (some ⟨1, 156, none⟩)]]).run Tryz.prog w = .ok (.iface 150 (.agg #[.pointer (some ⟨1, 28, none⟩)])) w := by kernel_rfl
theorem Tryz.implementsE (w : World) : (ReflectliteType.relation "Implements" ReflectliteType.implements_ #[.agg #[.pointer (some ⟨1, 28, none⟩)], .iface 150 (.agg #[.pointer (some ⟨1, 32, none⟩)])]).run Tryz.prog w = .ok (.bool true) w := by kernel_rfl
theorem Tryz.typeOfE (v : Value) (w : World) : (ReflectliteType.typeOf #[.iface 28 v]).run Tryz.prog w = .ok (.iface 150 (.agg #[.pointer (some ⟨1, 28, none⟩)])) w := by kernel_rfl
theorem Tryz.assignableE (w : World) : (ReflectliteType.relation "AssignableTo" ReflectliteType.assignableTo #[.agg #[.pointer (some ⟨1, 28, none⟩)], .iface 150 (.agg #[.pointer (some ⟨1, 28, none⟩)])]).run Tryz.prog w = .ok (.bool true) w := by kernel_rfl
theorem Tryz.valueOfE (n : Int) (w : World) : (ReflectliteValue.unpack (.iface 28 (.int .i64 n))).run Tryz.prog w
    = .ok (.agg #[.pointer (some ⟨1, 28, none⟩), .pointer (some ⟨w.heap.size, 0, none⟩), .int .u64 130]) (w.alloc (.cells #[.int .i64 n] 28)) := by kernel_rfl
theorem Tryz.elemOfP (w : World) : (Rtype.elem? 156).run Tryz.prog w = .ok (some 28) w := by kernel_rfl
theorem Tryz.mkE (p : Addr) (w : World) : (ReflectliteValue.mk 28 p ReflectliteValue.flagAddr).run Tryz.prog w = .ok (.agg #[.pointer (some ⟨1, 28, none⟩), .pointer (some p), .int .u64 386]) w := by kernel_rfl
theorem Tryz.elemVP (a p : Addr) (W : World) (ha : W.cell? a = some (.pointer (some p))) :
    (ReflectliteValue.method (ReflectliteValue.valueError "reflectlite.Value.Elem" 0) ReflectliteValue.elem #[.agg #[.pointer (some ⟨1, 156, none⟩), .pointer (some a), .int .u64 150]]).run Tryz.prog W
      = .ok (.agg #[.pointer (some ⟨1, 28, none⟩), .pointer (some p), .int .u64 386]) W := by
  rw [Lib.rl_method]
  simp only [Sem.run_bind, Tryz.partsP, Result.andThen]
  simp [ReflectliteValue.elem, loadVar, isAgg, underlying, Tryz.underlying156, ha, Result.andThen, Tryz.elemOfP, Tryz.mkE]
theorem Tryz.partsEa (a : Addr) (w : World) : (ReflectliteValue.parts (.agg #[.pointer (some ⟨1, 28, none⟩), .pointer (some a), .int .u64 386])).run Tryz.prog w = .ok (some (28, a, 386)) w := by kernel_rfl
theorem Tryz.partsE (a : Addr) (w : World) : (ReflectliteValue.parts (.agg #[.pointer (some ⟨1, 28, none⟩), .pointer (some a), .int .u64 130])).run Tryz.prog w = .ok (some (28, a, 130)) w := by kernel_rfl
theorem Tryz.directE (w : World) : (Rtype.directlyAssignable 28 28).run Tryz.prog w = .ok true w := by kernel_rfl
theorem set_arm {motive : Array Value → Sort _} (v x : Value) (f : (v x : Value) → motive #[v, x]) (g : (a : Array Value) → motive a) :
    ReflectliteValue.set.match_3 motive #[v, x] f g = f v x := rfl
theorem Tryz.setE (ta b : Addr) (n : Int) (old : Value) (W : World) (hb : W.cell? b = some (.int .i64 n)) (ht : W.cell? ta = some old) (hf : W.frozen? ta = false) :
    (ReflectliteValue.set #[.agg #[.pointer (some ⟨1, 28, none⟩), .pointer (some ta), .int .u64 386], .agg #[.pointer (some ⟨1, 28, none⟩), .pointer (some b), .int .u64 130]]).run Tryz.prog W
      = .ok (.tuple #[]) (W.setCell ta (.int .i64 n)) := by
  delta ReflectliteValue.set
  rw [set_arm]
  simp only [Sem.run_bind, Tryz.partsEa, Tryz.partsE, Result.andThen]
  simp [ReflectliteValue.flagAddr, loadVar, isAgg, underlying, Tryz.underlying28, hb, Result.andThen, Tryz.directE, storeVar, Value.cells, storeCells, Addr.add]
  rw [run_store Tryz.prog W ta _ _ (by rfl)]
  simp [ht, hf]

/-- The cell of errors.errorType holds the handle of the type error. -/
def ErrT (w : World) : Prop := w.cell? ⟨0, 0, none⟩ = some (.iface 150 (.agg #[.pointer (some ⟨1, 32, none⟩)]))
theorem ErrT.lt {w : World} (hg : ErrT w) : 0 < w.heap.size := by
  rcases Nat.lt_or_ge 0 w.heap.size with h | h
  · exact h
  · simp [ErrT, World.cell?, Array.getElem?_eq_none h] at hg
theorem ErrT.below {w w' : World} (hg : ErrT w) (hb : Below w.heap.size w w') : ErrT w' := (hb.cell (p := ⟨0, 0, none⟩) hg.lt).trans hg

theorem Tryz.typeOfA (v : Value) (w : World) : (ReflectliteType.typeOf #[.iface 142 v]).run Tryz.prog w = .ok (.iface 150 (.agg #[.pointer (some ⟨1, 142, none⟩)])) w := by kernel_rfl
theorem Tryz.assignableA (w : World) : (ReflectliteType.relation "AssignableTo" ReflectliteType.assignableTo #[.agg #[.pointer (some ⟨1, 142, none⟩)], .iface 150 (.agg #[.pointer (some ⟨1, 28, none⟩)])]).run Tryz.prog w = .ok (.bool false) w := by kernel_rfl
theorem Tryz.noAsA (v : Value) (xT : TypeId) (w : World) : (Instr.typeAssert (.iface 142 v) xT 170 true).run Tryz.prog w = .ok (.tuple #[.nilIface, .bool false]) w := run_typeAssert_lacksB Tryz.underlying170 (by kernel_rfl) (by kernel_rfl) v xT w
theorem Tryz.unwrapA (v : Value) (xT : TypeId) (w : World) : (Instr.typeAssert (.iface 142 v) xT 145 true).run Tryz.prog w = .ok (.tuple #[.iface 142 v, .bool true]) w := run_typeAssert_hasB Tryz.underlying145 (by kernel_rfl) v xT w
theorem Tryz.noUnwrapE (v : Value) (xT : TypeId) (w : World) : (Instr.typeAssert (.iface 28 v) xT 145 true).run Tryz.prog w = .ok (.tuple #[.nilIface, .bool false]) w := run_typeAssert_lacksB Tryz.underlying145 (by kernel_rfl) (by kernel_rfl) v xT w
theorem Tryz.toAtE (v : Value) (w : World) : (Instr.typeAssert (.iface 28 v) 32 142 true).run Tryz.prog w = .ok (.tuple #[.pointer none, .bool false]) w := by kernel_rfl
theorem Tryz.toAtA (v : Value) (w : World) : (Instr.typeAssert (.iface 142 v) 32 142 true).run Tryz.prog w = .ok (.tuple #[v, .bool true]) w := by kernel_rfl

theorem alloc_lt {w : World} (o : Obj) {a : Addr} (h : a.block < w.heap.size) : (w.alloc o).cell? a = w.cell? a := World.cell?_alloc_lt _ _ a h
theorem alloc_fr {w : World} (o : Obj) {a : Addr} (h : a.block < w.heap.size) : (w.alloc o).frozen? a = w.frozen? a := World.frozen?_alloc_old _ _ a (Nat.ne_of_lt h)
theorem lt_of_cell {w : World} {a : Addr} {v : Value} (h : w.cell? a = some v) : a.block < w.heap.size := by
  rcases Nat.lt_or_ge a.block w.heap.size with h' | h'
  · exact h'
  · simp [World.cell?, Array.getElem?_eq_none h'] at h
end Go.Proofs.YtcoijhofliilmabGreatDoor

/-
  What errors.As returns, and leaves, at a target of type *api.Errno, over this seat's translation: of an Errno and of an At. Conditions stand in each theorem: the cell of errors.errorType, the target's cell, the cells of the At.
-/
namespace Go.Proofs.YtcoijhofliilmabGreatDoor
open Go.RowKit Go.Extern.Stop Go.Stop Go.Extern

set_option maxHeartbeats 4000000 in
theorem as_errno (n : Int) (t a : Addr) (old : Value) (w : World) (ha : w.cell? a = some (.pointer (some t))) (ht0 : w.cell? t = some old) (hf0 : w.frozen? t = false) :
    Calls Tryz.prog 98 #[.iface 28 (.int .i64 n), .iface 156 (.pointer (some t)), .agg #[.pointer (some ⟨1, 156, none⟩), .pointer (some a), .int .u64 150], .iface 150 (.agg #[.pointer (some ⟨1, 28, none⟩)])] w fun ev w' => ev = .returned (.bool true)
      ∧ w' = ((w.alloc (.cells #[.pointer (some ⟨1, 156, none⟩), .pointer (some a), .int .u64 150] 130)).alloc (.cells #[.int .i64 n] 28)).setCell t (.int .i64 n) := by
  have hal := lt_of_cell ha
  have htl := lt_of_cell ht0
  have h6 := @run_callFunc_extern Tryz.prog 68 _ (fun args => ReflectliteValue.unpack (args.getD 0 (.tuple #[]))) Tryz.func68 (by kernel_rfl) (by kernel_rfl) (by kernel_rfl) (by kernel_rfl)
  have h10 := @run_callFunc_extern Tryz.prog 100 _ ReflectliteType.typeOf Tryz.func100 (by kernel_rfl) (by kernel_rfl) (by kernel_rfl) (by kernel_rfl)
  have h35 := @run_callFunc_extern Tryz.prog 125 _ (ReflectliteType.relation "AssignableTo" ReflectliteType.assignableTo) Tryz.func125 (by kernel_rfl) (by kernel_rfl) (by kernel_rfl) (by kernel_rfl)
  have h11 := @run_callFunc_extern Tryz.prog 101 _ (ReflectliteValue.method (ReflectliteValue.valueError "reflectlite.Value.Elem" 0) ReflectliteValue.elem) Tryz.func101 (by kernel_rfl) (by kernel_rfl) (by kernel_rfl) (by kernel_rfl)
  have h12 := @run_callFunc_extern Tryz.prog 102 _ ReflectliteValue.set Tryz.func102 (by kernel_rfl) (by kernel_rfl) (by kernel_rfl) (by kernel_rfl)
  have tO := Tryz.typeOfE
  have mA := Tryz.mAssignableTo
  have aE := Tryz.assignableE
  have vE := Tryz.valueOfE
  have el := Tryz.elemVP a t (w.alloc (.cells #[.pointer (some ⟨1, 156, none⟩), .pointer (some a), .int .u64 150] 130)) (by rw [alloc_lt _ hal]; exact ha)
  have st := Tryz.setE t ⟨w.heap.size + 1, 0, none⟩ n old ((w.alloc (.cells #[.pointer (some ⟨1, 156, none⟩), .pointer (some a), .int .u64 150] 130)).alloc (.cells #[.int .i64 n] 28))
    (by rw [World.cell?_alloc_at _ _ _ _ (by simp)]; rfl)
    (by rw [alloc_lt _ (by simp; omega), alloc_lt _ htl]; exact ht0)
    (by rw [alloc_fr _ (by simp; omega), alloc_fr _ htl]; exact hf0)
  go_enter Tryz.func98, Tryz.ntmps98
  go_wp2
  refine wp_loop_rounds 1 ?_
  rw [rounds_succ]
  go_wp2
  go_ret
  exact ⟨rfl, rfl⟩

set_option maxHeartbeats 4000000 in
theorem as_at (n : Int) (b o : Nat) (t a : Addr) (old : Value) (w : World) (hn : w.cell? ⟨b, o, none⟩ = some (.int .i64 n)) (ha : w.cell? a = some (.pointer (some t))) (ht0 : w.cell? t = some old) (hf0 : w.frozen? t = false) :
    Calls Tryz.prog 98 #[.iface 142 (.pointer (some ⟨b, o, none⟩)), .iface 156 (.pointer (some t)), .agg #[.pointer (some ⟨1, 156, none⟩), .pointer (some a), .int .u64 150], .iface 150 (.agg #[.pointer (some ⟨1, 28, none⟩)])] w fun ev w' => ev = .returned (.bool true)
      ∧ w' = ((w.alloc (.cells #[.pointer (some ⟨1, 156, none⟩), .pointer (some a), .int .u64 150] 130)).alloc (.cells #[.int .i64 n] 28)).setCell t (.int .i64 n) := by
  have hal := lt_of_cell ha
  have htl := lt_of_cell ht0
  have hbl := lt_of_cell hn
  have h6 := @run_callFunc_extern Tryz.prog 68 _ (fun args => ReflectliteValue.unpack (args.getD 0 (.tuple #[]))) Tryz.func68 (by kernel_rfl) (by kernel_rfl) (by kernel_rfl) (by kernel_rfl)
  have h10 := @run_callFunc_extern Tryz.prog 100 _ ReflectliteType.typeOf Tryz.func100 (by kernel_rfl) (by kernel_rfl) (by kernel_rfl) (by kernel_rfl)
  have h35 := @run_callFunc_extern Tryz.prog 125 _ (ReflectliteType.relation "AssignableTo" ReflectliteType.assignableTo) Tryz.func125 (by kernel_rfl) (by kernel_rfl) (by kernel_rfl) (by kernel_rfl)
  have h11 := @run_callFunc_extern Tryz.prog 101 _ (ReflectliteValue.method (ReflectliteValue.valueError "reflectlite.Value.Elem" 0) ReflectliteValue.elem) Tryz.func101 (by kernel_rfl) (by kernel_rfl) (by kernel_rfl) (by kernel_rfl)
  have h12 := @run_callFunc_extern Tryz.prog 102 _ ReflectliteValue.set Tryz.func102 (by kernel_rfl) (by kernel_rfl) (by kernel_rfl) (by kernel_rfl)
  have tO := Tryz.typeOfE
  have tA := Tryz.typeOfA
  have mA := Tryz.mAssignableTo
  have aE := Tryz.assignableE
  have aA := Tryz.assignableA
  have nA := Tryz.noAsA
  have uA := Tryz.unwrapA
  have vE := Tryz.valueOfE
  have hn2 : (w.alloc (.cells #[.pointer (some ⟨1, 156, none⟩), .pointer (some a), .int .u64 150] 130)).cell? ⟨b, o, none⟩ = some (.int .i64 n) := by rw [alloc_lt _ hbl]; exact hn
  have el := Tryz.elemVP a t (w.alloc (.cells #[.pointer (some ⟨1, 156, none⟩), .pointer (some a), .int .u64 150] 130)) (by rw [alloc_lt _ hal]; exact ha)
  have st := Tryz.setE t ⟨w.heap.size + 1, 0, none⟩ n old ((w.alloc (.cells #[.pointer (some ⟨1, 156, none⟩), .pointer (some a), .int .u64 150] 130)).alloc (.cells #[.int .i64 n] 28))
    (by rw [World.cell?_alloc_at _ _ _ _ (by simp)]; rfl)
    (by rw [alloc_lt _ (by simp; omega), alloc_lt _ htl]; exact ht0)
    (by rw [alloc_fr _ (by simp; omega), alloc_fr _ htl]; exact hf0)
  go_enter Tryz.func98, Tryz.ntmps98
  go_wp2
  refine wp_loop_rounds 2 ?_
  rw [rounds_succ]
  go_wp2
  rw [rounds_succ]
  go_wp2
  go_ret
  exact ⟨rfl, rfl⟩

set_option maxHeartbeats 4000000 in
/-- errors.As of an error that is not nil, at a target of type *api.Errno: what errors.as returns behind it. -/
theorem As_of (te : TypeId) (ve : Value) (t : Addr) (w : World) (hg : ErrT w) (Q : Ending → World → Prop)
    (h : ∀ W : World, Below w.heap.size w W → W.cell? ⟨w.heap.size, 0, none⟩ = some (.pointer (some t)) →
      Calls Tryz.prog 98 #[.iface te ve, .iface 156 (.pointer (some t)), .agg #[.pointer (some ⟨1, 156, none⟩), .pointer (some ⟨w.heap.size, 0, none⟩), .int .u64 150], .iface 150 (.agg #[.pointer (some ⟨1, 28, none⟩)])] W
        fun e w' => (∃ r, e = .returned (.bool r)) ∧ Q e w') :
    Calls Tryz.prog 93 #[.iface te ve, .iface 156 (.pointer (some t))] w Q := by
  have hlt := hg.lt
  have h6 := @run_callFunc_extern Tryz.prog 68 _ (fun args => ReflectliteValue.unpack (args.getD 0 (.tuple #[]))) Tryz.func68 (by kernel_rfl) (by kernel_rfl) (by kernel_rfl) (by kernel_rfl)
  have h7 := @run_callFunc_extern Tryz.prog 96 _ (ReflectliteValue.methodAny (ReflectliteValue.valueError "reflectlite.Value.Type" 0) (fun t _ _ _ => ReflectliteType.toType t)) Tryz.func96 (by kernel_rfl) (by kernel_rfl) (by kernel_rfl) (by kernel_rfl)
  have h8 := @run_callFunc_extern Tryz.prog 97 _ (ReflectliteValue.method (ReflectliteValue.valueError "reflectlite.Value.IsNil" 0) ReflectliteValue.isNil) Tryz.func97 (by kernel_rfl) (by kernel_rfl) (by kernel_rfl) (by kernel_rfl)
  have h27 := @run_callFunc_extern Tryz.prog 117 _ (ReflectliteType.abiMethod fun t => do pure (.int .u8 (← Rtype.kind t))) Tryz.func117 (by kernel_rfl) (by kernel_rfl) (by kernel_rfl) (by kernel_rfl)
  have h37 := @run_callFunc_extern Tryz.prog 126 _ (ReflectliteType.method ReflectliteType.elem) Tryz.func126 (by kernel_rfl) (by kernel_rfl) (by kernel_rfl) (by kernel_rfl)
  have h38 := @run_callFunc_extern Tryz.prog 127 _ (ReflectliteType.relation "Implements" ReflectliteType.implements_) Tryz.func127 (by kernel_rfl) (by kernel_rfl) (by kernel_rfl) (by kernel_rfl)
  have f6 := Tryz.vP
  have f7 := Tryz.tP
  have mK := Tryz.mKind
  have mE := Tryz.mElem
  have mI := Tryz.mImplements
  have k27 := Tryz.kP
  have k25 := Tryz.kE
  have e27 := Tryz.elemP
  have i25 := Tryz.implementsE
  have n8 := Tryz.isNilP ⟨w.heap.size, 0, none⟩ t ((w.alloc (.cells #[.pointer (some t)] 156)).alloc (.cells #[.pointer (some ⟨1, 156, none⟩), .pointer (some ⟨w.heap.size, 0, none⟩), .int .u64 150] 130)) (by simp)
  have hg2 : ((w.alloc (.cells #[.pointer (some t)] 156)).alloc (.cells #[.pointer (some ⟨1, 156, none⟩), .pointer (some ⟨w.heap.size, 0, none⟩), .int .u64 150] 130)).cell? ⟨0, 0, none⟩ = some (.iface 150 (.agg #[.pointer (some ⟨1, 32, none⟩)])) := by
    rw [alloc_lt _ (by simp <;> omega), alloc_lt _ hlt]; exact hg
  have H : Hid (∀ W : World, Below w.heap.size w W → W.cell? ⟨w.heap.size, 0, none⟩ = some (.pointer (some t)) →
      Calls Tryz.prog 98 #[.iface te ve, .iface 156 (.pointer (some t)), .agg #[.pointer (some ⟨1, 156, none⟩), .pointer (some ⟨w.heap.size, 0, none⟩), .int .u64 150], .iface 150 (.agg #[.pointer (some ⟨1, 28, none⟩)])] W
        fun e w' => (∃ r, e = .returned (.bool r)) ∧ Q e w') := h
  clear h
  go_enter Tryz.func93, Tryz.ntmps93
  go_wp2_with fail
  refine (H.out _ ?_ ?_).mono ?_
  · exact ((Below.refl _ _).alloc (Nat.le_refl _) _).alloc (by simp) _
  · rw [alloc_lt _ (by simp)]; exact World.cell?_alloc_at _ _ _ _ rfl
  · rintro e w' ⟨⟨r, rfl⟩, hq⟩
    go_wp2_with fail
    exact hq
end Go.Proofs.YtcoijhofliilmabGreatDoor

/-
  What api.Tell, plain.Place and the laws' own 'is' and 'bare' return of the errors that the program makes (nil, an Errno, an At), over this seat's translation. Conditions stand in each theorem: the cell of errors.errorType (ErrT), the cells of the At.
-/
namespace Go.Proofs.YtcoijhofliilmabGreatDoor
open Go.RowKit Go.Extern.Stop Go.Stop Go.Extern

/-- In the world w the error value 'err' is of number n at place k (-1: none). -/
def ErrIs (w : World) (err : Value) (n k : Int) : Prop :=
  (err = .nilIface ∧ n = 0 ∧ k = -1) ∨ (err = .iface 28 (.int .i64 n) ∧ k = -1)
    ∨ (∃ b o : Nat, err = .iface 142 (.pointer (some ⟨b, o, none⟩)) ∧ w.cell? ⟨b, o, none⟩ = some (.int .i64 n) ∧ w.cell? ⟨b, o + 1, none⟩ = some (.int .i64 k))
theorem ErrIs.below {w w' : World} {err : Value} {n k : Int} (h : ErrIs w err n k) (hb : Below w.heap.size w w') : ErrIs w' err n k := by
  rcases h with h | h | ⟨b, o, h1, h2, h3⟩
  · exact Or.inl h
  · exact Or.inr (Or.inl h)
  · exact Or.inr (Or.inr ⟨b, o, h1, (hb.cell (p := ⟨b, o, none⟩) (lt_of_cell (a := ⟨b, o, none⟩) h2)).trans h2, (hb.cell (p := ⟨b, o + 1, none⟩) (lt_of_cell (a := ⟨b, o, none⟩) h2)).trans h3⟩)

theorem after_as {w W w' : World} {t : Addr} {n : Int} {o1 o2 : Obj} {old : Value} (hb : Below w.heap.size w W) (ht : W.cell? t = some old) (hw : w' = ((W.alloc o1).alloc o2).setCell t (.int .i64 n)) (B : Nat) (hBt : B ≤ t.block) (hBw : B ≤ w.heap.size) :
    w'.cell? t = some (.int .i64 n) ∧ Below B w w' := by
  have htl := lt_of_cell ht
  have hs := hb.size
  subst hw
  refine ⟨World.cell?_setCell_same' _ _ _ ?_, ?_⟩
  · rw [alloc_lt _ (by simp; omega), alloc_lt _ htl, ht]; rfl
  · exact (((hb.mono hBw).alloc (by omega) _).alloc (by simp; omega) _).setCell hBt _

set_option maxHeartbeats 400000 in
theorem tell_nil (w : World) : Calls Tryz.prog 78 #[.nilIface] w fun e w' => e = .returned (.int .i64 0) ∧ w' = w := by
  go_enter Tryz.func78, Tryz.ntmps78
  go_wp2
  go_ret
  exact ⟨rfl, rfl⟩

theorem As_errno (n : Int) (t : Addr) (w : World) (hg : ErrT w) (ht : w.cell? t = some (.int .i64 0)) (hf : w.frozen? t = false) :
    Calls Tryz.prog 93 #[.iface 28 (.int .i64 n), .iface 156 (.pointer (some t))] w fun e w' => e = .returned (.bool true) ∧ w'.cell? t = some (.int .i64 n) ∧ Below t.block w w' :=
  As_of _ _ t w hg _ fun W hb ha => (as_errno n t _ (.int .i64 0) W ha ((hb.cell (lt_of_cell ht)).trans ht) ((hb.frozen (lt_of_cell ht)).trans hf)).mono fun _ _ ⟨he, hw⟩ =>
    have h := after_as hb ((hb.cell (lt_of_cell ht)).trans ht) hw t.block (Nat.le_refl _) (Nat.le_of_lt (lt_of_cell ht))
    ⟨⟨_, he⟩, he, h.1, h.2⟩

theorem As_at (n : Int) (b o : Nat) (t : Addr) (w : World) (hg : ErrT w) (hn : w.cell? ⟨b, o, none⟩ = some (.int .i64 n)) (ht : w.cell? t = some (.int .i64 0)) (hf : w.frozen? t = false) :
    Calls Tryz.prog 93 #[.iface 142 (.pointer (some ⟨b, o, none⟩)), .iface 156 (.pointer (some t))] w fun e w' => e = .returned (.bool true) ∧ w'.cell? t = some (.int .i64 n) ∧ Below t.block w w' :=
  As_of _ _ t w hg _ fun W hb ha => (as_at n b o t _ (.int .i64 0) W ((hb.cell (p := ⟨b, o, none⟩) (lt_of_cell (a := ⟨b, o, none⟩) hn)).trans hn) ha ((hb.cell (lt_of_cell ht)).trans ht) ((hb.frozen (lt_of_cell ht)).trans hf)).mono fun _ _ ⟨he, hw⟩ =>
    have h := after_as hb ((hb.cell (lt_of_cell ht)).trans ht) hw t.block (Nat.le_refl _) (Nat.le_of_lt (lt_of_cell ht))
    ⟨⟨_, he⟩, he, h.1, h.2⟩

set_option maxHeartbeats 400000 in
theorem tell_errno (n : Int) (w : World) (hg : ErrT w) : Calls Tryz.prog 78 #[.iface 28 (.int .i64 n)] w fun e w' => e = .returned (.int .i64 n) ∧ Below w.heap.size w w' := by
  have hg1 : ErrT (w.alloc (.cells #[.int .i64 0] 28)) := hg.below ((Below.refl _ _).alloc (Nat.le_refl _) _)
  go_enter Tryz.func78, Tryz.ntmps78
  go_wp2_with fail
  refine (As_errno n ⟨w.heap.size, 0, none⟩ _ hg1 (by simp) (by simp)).mono ?_
  rintro e w1 ⟨rfl, hc, hb⟩
  go_wp2
  go_ret
  exact ⟨rfl, ((Below.refl _ _).alloc (Nat.le_refl _) _).trans hb⟩

set_option maxHeartbeats 400000 in
theorem tell_at (n : Int) (b o : Nat) (w : World) (hg : ErrT w) (hn : w.cell? ⟨b, o, none⟩ = some (.int .i64 n)) : Calls Tryz.prog 78 #[.iface 142 (.pointer (some ⟨b, o, none⟩))] w fun e w' => e = .returned (.int .i64 n) ∧ Below w.heap.size w w' := by
  have hg1 : ErrT (w.alloc (.cells #[.int .i64 0] 28)) := hg.below ((Below.refl _ _).alloc (Nat.le_refl _) _)
  have hn1 : Hid ((w.alloc (.cells #[.int .i64 0] 28)).cell? ⟨b, o, none⟩ = some (.int .i64 n)) := (alloc_lt (a := ⟨b, o, none⟩) _ (lt_of_cell (a := ⟨b, o, none⟩) hn)).trans hn
  go_enter Tryz.func78, Tryz.ntmps78
  go_wp2_with fail
  refine (As_at n b o ⟨w.heap.size, 0, none⟩ _ hg1 hn1.out (by simp) (by simp)).mono ?_
  rintro e w1 ⟨rfl, hc, hb⟩
  go_wp2
  go_ret
  exact ⟨rfl, ((Below.refl _ _).alloc (Nat.le_refl _) _).trans hb⟩

theorem tell_any (err : Value) (n k : Int) (w : World) (hg : ErrT w) (h : ErrIs w err n k) : Calls Tryz.prog 78 #[err] w fun e w' => e = .returned (.int .i64 n) ∧ Below w.heap.size w w' := by
  rcases h with ⟨rfl, rfl, rfl⟩ | ⟨rfl, rfl⟩ | ⟨b, o, rfl, h1, h2⟩
  · exact (tell_nil w).mono fun _ _ ⟨he, hw⟩ => ⟨he, by subst hw; exact Below.refl _ _⟩
  · exact tell_errno n w hg
  · exact tell_at n b o w hg h1

set_option maxHeartbeats 400000 in
theorem place_nil (w : World) : Calls Tryz.prog 57 #[.nilIface] w fun e w' => e = .returned (.tuple #[.int .i64 0, .int .i64 (-1)]) ∧ w' = w := by
  go_enter Tryz.func57, Tryz.ntmps57
  go_wp2_with fail
  refine (tell_nil _).mono ?_
  rintro e w1 ⟨rfl, rfl⟩
  go_wp2_with fail
  refine wp_loop_rounds 1 ?_
  rw [rounds_succ]
  go_wp2
  go_ret2
  exact ⟨rfl, rfl⟩

set_option maxHeartbeats 400000 in
theorem place_errno (n : Int) (w : World) (hg : ErrT w) : Calls Tryz.prog 57 #[.iface 28 (.int .i64 n)] w fun e w' => e = .returned (.tuple #[.int .i64 n, .int .i64 (-1)]) ∧ Below w.heap.size w w' := by
  have nU := Tryz.noUnwrapE
  have tA := Tryz.toAtE
  go_enter Tryz.func57, Tryz.ntmps57
  go_wp2_with fail
  refine (tell_errno n _ hg).mono ?_
  rintro e w1 ⟨rfl, hb⟩
  go_wp2_with fail
  refine wp_loop_rounds 1 ?_
  rw [rounds_succ]
  go_wp2
  go_ret2
  exact ⟨rfl, hb⟩

set_option maxHeartbeats 400000 in
theorem place_at (n k : Int) (b o : Nat) (w : World) (hg : ErrT w) (hn : w.cell? ⟨b, o, none⟩ = some (.int .i64 n)) (hk : w.cell? ⟨b, o + 1, none⟩ = some (.int .i64 k)) : Calls Tryz.prog 57 #[.iface 142 (.pointer (some ⟨b, o, none⟩))] w fun e w' => e = .returned (.tuple #[.int .i64 n, .int .i64 k]) ∧ Below w.heap.size w w' := by
  go_enter Tryz.func57, Tryz.ntmps57
  go_wp2_with fail
  refine (tell_at n b o _ hg hn).mono ?_
  have tA := Tryz.toAtA
  rintro e w1 ⟨rfl, hb⟩
  have hk1 : w1.cell? ⟨b, o + 1, none⟩ = some (.int .i64 k) := (hb.cell (p := ⟨b, o + 1, none⟩) (lt_of_cell (a := ⟨b, o, none⟩) hn)).trans hk
  go_wp2_with fail
  refine wp_loop_rounds 1 ?_
  rw [rounds_succ]
  go_wp2
  go_quiet (fail)
  go_wp2
  go_ret2
  exact ⟨rfl, below_drewN hb _⟩

theorem place_any (err : Value) (n k : Int) (w : World) (hg : ErrT w) (h : ErrIs w err n k) : Calls Tryz.prog 57 #[err] w fun e w' => e = .returned (.tuple #[.int .i64 n, .int .i64 k]) ∧ Below w.heap.size w w' := by
  rcases h with ⟨rfl, rfl, rfl⟩ | ⟨rfl, rfl⟩ | ⟨b, o, rfl, h1, h2⟩
  · exact (place_nil w).mono fun _ _ ⟨he, hw⟩ => ⟨he, by subst hw; exact Below.refl _ _⟩
  · exact place_errno n w hg
  · exact place_at n k b o w hg h1 h2

set_option maxHeartbeats 400000 in
theorem is_yes (err : Value) (n k : Int) (w : World) (hg : ErrT w) (h : ErrIs w err n k) :
    Calls Tryz.prog 29 #[err, .agg #[.int .i64 n, .int .i64 k]] w fun e w' => e = .returned (.bool true) ∧ Below w.heap.size w w' := by
  have hb0 : Below w.heap.size w (w.alloc (.cells #[.int .i64 n, .int .i64 k] 70)) := (Below.refl _ _).alloc (Nat.le_refl _) _
  have HG : Hid (ErrT (w.alloc (.cells #[.int .i64 n, .int .i64 k] 70))) := hg.below hb0
  have HE : Hid (ErrIs (w.alloc (.cells #[.int .i64 n, .int .i64 k] 70)) err n k) := h.below hb0
  clear hb0
  go_enter Tryz.func29, Tryz.ntmps29
  go_wp2_with fail
  refine (place_any err n k _ HG.out HE.out).mono ?_
  rintro e w1 ⟨rfl, hb⟩
  have hc0 : w1.cell? ⟨w.heap.size, 0, none⟩ = some (.int .i64 n) := (hb.cell (p := ⟨w.heap.size, 0, none⟩) (by simp)).trans (World.cell?_alloc_at _ _ _ _ rfl)
  have hc1 : w1.cell? ⟨w.heap.size, 1, none⟩ = some (.int .i64 k) := (hb.cell (p := ⟨w.heap.size, 1, none⟩) (by simp)).trans (World.cell?_alloc_at _ _ _ _ rfl)
  go_wp2
  go_ret
  exact ⟨rfl, ((Below.refl _ _).alloc (Nat.le_refl _) _).trans (hb.mono (by simp))⟩

set_option maxHeartbeats 400000 in
theorem Bare_any (n : Int) (w : World) :
    Calls Tryz.prog 30 #[.int .i64 n] w fun e w' => e = .returned (.agg #[.int .i64 n, .int .i64 (-1)]) ∧ Below w.heap.size w w' := by
  go_enter Tryz.func30, Tryz.ntmps30
  go_wp2
  go_returns
  exact ⟨rfl, by go_grown⟩

set_option maxHeartbeats 400000 in
theorem bare_yes (err : Value) (n : Int) (w : World) (hg : ErrT w) (h : ErrIs w err n (-1)) :
    Calls Tryz.prog 8 #[err, .int .i64 n] w fun e w' => e = .returned (.bool true) ∧ Below w.heap.size w w' := by
  have HE : Hid (ErrIs w err n (-1)) := h
  clear h
  go_enter Tryz.func8, Tryz.ntmps8
  go_wp2_with fail
  refine (Bare_any n _).mono ?_
  rintro e w1 ⟨rfl, hb⟩
  go_wp2_with fail
  refine (is_yes err n (-1) _ (hg.below hb) (HE.out.below hb)).mono ?_
  rintro e w2 ⟨rfl, hb2⟩
  go_wp2
  go_ret
  exact ⟨rfl, hb.trans (hb2.mono hb.size)⟩
end Go.Proofs.YtcoijhofliilmabGreatDoor
