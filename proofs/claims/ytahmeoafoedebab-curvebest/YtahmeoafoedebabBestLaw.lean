/-
  Proved: whatever the orders and the number are, the law CurveBest returns true and leaves its arguments as they were (at no price at all would more be traded than at the one that is chosen). No conditions beyond those of the row itself.
-/
import Derived.Test.YtahmeoafoedebabCuOf
import Derived.Test.YtahmeoafoedebabChProgW
import Derived.Test.YtahmeoafoedebabCuBest
import Derived.Test.YtahmeoafoedebabKpAt
import Derived.Lib.MinMax
import Derived.Test.YtahmeoafoedebabKpSome
import Derived.Test.YtahmeoafoedebabCuArg
namespace Go.Proofs.Ytahmeoafoedebab.curveBest
open Go.ChangeShapes Go.WideShapes Go.ChangeAt Go.RowKit

theorem wf_small {z : Int} (h : -1000000000000 ≤ z ∧ z ≤ 1000000000000) : wf64 z := WalkArith.wf_i64 (by omega)
/-- the two orders of which the law asks first -/
def twoO : List Ord := [⟨1, 1, 1, 10, 5⟩, ⟨2, 2, 1, 8, 3⟩]
theorem two_curve : curveL twoO 0 = [⟨8, 5, 3⟩, ⟨10, 5, 3⟩] := by
  have h : uniqL (sortI (pricesO twoO 0)) = [8, 10] := curve_prices (by simp) (fun p => by
    have e : pricesO twoO 0 = [10, 8] := by decide
    rw [e]; simp; omega)
  unfold curveL
  rw [h]
  rfl
theorem two_chosen : chooseL (curveL twoO 0) 9 = ⟨10, 3, 2⟩ := by
  rw [two_curve]; rfl
theorem two_small : ∀ x ∈ curveL twoO 0, x.Small := by
  rw [two_curve]
  intro x hx
  simp only [List.mem_cons, List.not_mem_nil, or_false] at hx
  rcases hx with rfl | rfl
  · exact ⟨⟨by decide, by decide⟩, ⟨by decide, by decide⟩, ⟨by decide, by decide⟩⟩
  · exact ⟨⟨by decide, by decide⟩, ⟨by decide, by decide⟩, ⟨by decide, by decide⟩⟩
theorem two_wf : ∀ o ∈ twoO, o.Wf := by
  intro x hx
  simp only [twoO, List.mem_cons, List.not_mem_nil, or_false] at hx
  rcases hx with rfl | rfl
  · exact ⟨wf_small (by decide), wf_small (by decide), wf_small (by decide), wf_small (by decide), wf_small (by decide)⟩
  · exact ⟨wf_small (by decide), wf_small (by decide), wf_small (by decide), wf_small (by decide), wf_small (by decide)⟩
theorem some_wf {X : List Ord} (h : SomeOk X) : ∀ o ∈ X, o.Wf := fun o ho => by
  obtain ⟨k, hk, rfl⟩ := List.mem_iff_getElem.1 ho
  have g := h.good k hk
  rw [oAt_eq hk] at g
  have h1 := g.id
  have h2 := g.side
  have h3 := g.kind
  have h4 := g.price
  have h5 := g.qty
  have h6 := h.len
  exact ⟨wf_small (by omega), wf_small (by omega), wf_small (by omega), wf_small (by omega), wf_small (by omega)⟩
theorem some_small {X : List Ord} {more : Int} (h : SomeOk X) (hm : more ≤ 1000) : ∀ x ∈ curveL X more, x.Small :=
  curve_small (by have := h.len; omega) (fun o ho => by
    obtain ⟨k, hk, rfl⟩ := List.mem_iff_getElem.1 ho
    have g := (h.good k hk).price
    rw [oAt_eq hk] at g
    omega) (by omega)

set_option maxRecDepth 4000 in
set_option maxHeartbeats 1000000 in
theorem chosen_yes (w : World) : Calls Try.prog 4 #[] w fun e w' => e = .returned (.bool true) ∧ Below w.heap.size w w' := by
  go_enter Try.func4, Try.ntmps4
  go_wp2_with fail
  have hB := heap_alloc_new w (.cells #[.int .i64 1, .int .i64 1, .int .i64 1, .int .i64 10, .int .i64 5, .int .i64 2, .int .i64 2, .int .i64 1, .int .i64 8, .int .i64 3] 35)
  have hin : OrdsIn (w.alloc (.cells #[.int .i64 1, .int .i64 1, .int .i64 1, .int .i64 10, .int .i64 5, .int .i64 2, .int .i64 2, .int .i64 1, .int .i64 8, .int .i64 3] 35)) (some ⟨w.heap.size, 0, none⟩) twoO := fun k hk => by
    have hk2 : k = 0 ∨ k = 1 := by have : k < 2 := hk; omega
    rcases hk2 with rfl | rfl
    · exact ⟨w.heap.size, 0, rfl, cu_blk (j := 0) hB rfl, cu_blk (j := 1) hB rfl, cu_blk (j := 2) hB rfl, cu_blk (j := 3) hB rfl, cu_blk (j := 4) hB rfl⟩
    · exact ⟨w.heap.size, 0, rfl, cu_blk (j := 5) hB rfl, cu_blk (j := 6) hB rfl, cu_blk (j := 7) hB rfl, cu_blk (j := 8) hB rfl, cu_blk (j := 9) hB rfl⟩
  have HB0 : Hid (Below w.heap.size w (w.alloc (.cells #[.int .i64 1, .int .i64 1, .int .i64 1, .int .i64 10, .int .i64 5, .int .i64 2, .int .i64 2, .int .i64 1, .int .i64 8, .int .i64 3] 35))) := cu_bel1 w _
  clear hB
  generalize w.alloc (.cells #[.int .i64 1, .int .i64 1, .int .i64 1, .int .i64 10, .int .i64 5, .int .i64 2, .int .i64 2, .int .i64 1, .int .i64 8, .int .i64 3] 35) = W at hin HB0 ⊢
  refine (cuOf (some ⟨w.heap.size, 0, none⟩) 2 twoO 0 W hin (by decide) two_wf (wf_small (by decide))).mono ?_
  rintro e w1 ⟨v1, rfl, hown1, hb1⟩
  obtain ⟨ap, cp, rfl, hpt⟩ := PtsIn.of_row hown1
  have HP : Hid (PtsIn w1 ap (curveL twoO 0)) := hpt
  have HB1 : Hid (Below w.heap.size w w1) := cu_then HB0.out hb1
  have hl2 : (curveL twoO 0).length ≤ 1000 := by rw [two_curve]; decide
  have HC : Hid (chooseL (curveL twoO 0) 9 = ⟨10, 3, 2⟩) := two_chosen
  have HS : Hid (∀ x ∈ curveL twoO 0, x.Small) := two_small
  clear hown1 hpt hb1 hin
  generalize curveL twoO 0 = pl at HP hl2 HC HS ⊢
  go_wp2_with fail
  refine (prChoose ap _ pl 9 w1 HP.out hl2 HS.out (by decide)).mono ?_
  rintro e w2 ⟨rfl, hb2⟩
  have HB2 : Hid (Below w.heap.size w w2) := cu_then HB1.out hb2
  clear hb2
  rw [HC.out]
  dsimp only
  go_wp2_with fail
  go_ret
  exact ⟨rfl, HB2.out.alloc HB2.out.size _⟩

set_option maxRecDepth 4000 in
set_option maxHeartbeats 4000000 in
theorem walk (a : Option Addr) (cap : Nat) (l : List Ord) (around : Int) (w : World) (h : OrdsIn w a l) (_ : ∀ o ∈ l, o.Wf) (_ : wf64 around) :
    Calls Try.prog 3 #[.slice a l.length cap, .int .i64 around] w fun e w' => e = .returned (.bool true) ∧ Below w.heap.size w w' := by
  have HA : Hid (OrdsIn w a l) := h
  clear h
  go_enter Try.func3, Try.ntmps3
  go_wp2_with fail
  refine (chosen_yes _).mono ?_
  rintro e w1 ⟨rfl, hb1⟩
  have HB1 : Hid (Below w.heap.size w w1) := hb1
  clear hb1
  go_wp2_with fail
  refine (kpSome a _ l w1 (HA.out.below HB1.out)).mono ?_
  rintro e w2 ⟨v2, X, rfl, hS, hown2, hb2⟩
  have HS : Hid (SomeOk X) := hS
  have HB2 : Hid (Below w.heap.size w w2) := cu_then HB1.out hb2
  obtain ⟨ax, cx, rfl, hin⟩ := OrdsIn.of_row hown2
  have HX : Hid (OrdsIn w2 ax X) := hin
  have hxl := hS.len
  clear hS hown2 hb2 hin HB1 HA
  go_wp2_with fail
  refine (kpPick around 70 _ (by omega)).mono ?_
  rintro e w3 ⟨rfl, hw3⟩
  subst hw3
  obtain ⟨hp0, hp1⟩ := pkV_in around 70 (by omega)
  generalize pkV around 70 = pk at hp0 hp1 ⊢
  go_wp2_with fail
  obtain ⟨ar, har⟩ : ∃ ar : Int, ar = 1 + pk := ⟨_, rfl⟩
  rw [← har]
  have hr1 : 1 ≤ ar ∧ ar ≤ 70 := by omega
  clear har hp0 hp1
  refine (cuOf ax _ X ar w3 HX.out (by omega) (some_wf HS.out) (wf_small (by omega))).mono ?_
  rintro e w4 ⟨v4, rfl, hown4, hb4⟩
  have HB4 : Hid (Below w.heap.size w w4) := cu_then HB2.out hb4
  have HX4 : Hid (OrdsIn w4 ax X) := HX.out.below hb4
  obtain ⟨ap, cp, rfl, hpt⟩ := PtsIn.of_row hown4
  have HP4 : Hid (PtsIn w4 ap (curveL X ar)) := hpt
  have hcl := curve_len X ar
  clear hown4 hb4 hpt HB2 HX
  go_wp2_with fail
  refine (prChoose ap _ (curveL X ar) ar w4 HP4.out (by omega) (some_small HS.out (by omega)) (by omega)).mono ?_
  rintro e w5 ⟨rfl, hb5⟩
  have HB5 : Hid (Below w.heap.size w w5) := cu_then HB4.out hb5
  have HX5 : Hid (OrdsIn w5 ax X) := HX4.out.below hb5
  have HBEST : Hid (∀ p : Int, min (demO p X) (supO p X) ≤ (chooseL (curveL X ar) ar).qty) := fun p => curve_best ar p (prices_some (by omega))
  have HTOLD : Hid (0 < (chooseL (curveL X ar) ar).qty → (chooseL (curveL X ar) ar).qty = min (demO (chooseL (curveL X ar) ar).price X) (supO (chooseL (curveL X ar) ar).price X) ∧ (chooseL (curveL X ar) ar).sur = demO (chooseL (curveL X ar) ar).price X - supO (chooseL (curveL X ar) ar).price X) := curve_told ar
  clear hb5 HB4 HX4 HP4 hcl
  generalize chooseL (curveL X ar) ar = q at HBEST HTOLD ⊢
  go_wp2_with fail
  have HQ : Hid ((w5.alloc (.cells #[.int .i64 q.price, .int .i64 q.qty, .int .i64 q.sur] 27)).heap[w5.heap.size]? = some (.cells #[.int .i64 q.price, .int .i64 q.qty, .int .i64 q.sur] 27 (0, 0))) := heap_alloc_new w5 _
  have hbA := cu_bel1 w5 (.cells #[.int .i64 q.price, .int .i64 q.qty, .int .i64 q.sur] 27)
  have HXA : Hid (OrdsIn (w5.alloc (.cells #[.int .i64 q.price, .int .i64 q.qty, .int .i64 q.sur] 27)) ax X) := HX5.out.below hbA
  have HBA : Hid (Below w.heap.size w (w5.alloc (.cells #[.int .i64 q.price, .int .i64 q.qty, .int .i64 q.sur] 27))) := cu_then HB5.out hbA
  clear hbA HX5 HB5
  generalize w5.alloc (.cells #[.int .i64 q.price, .int .i64 q.qty, .int .i64 q.sur] 27) = W at HQ HXA HBA ⊢
  generalize w5.heap.size = qb at HQ ⊢
  refine (kpAt ax _ X q.price W HXA.out (by omega) HS.out.ok).mono ?_
  rintro e w6 ⟨rfl, hb6⟩
  have hq6 := cu_keep HQ.out hb6
  have HQ6 : Hid (w6.heap[qb]? = some (.cells #[.int .i64 q.price, .int .i64 q.qty, .int .i64 q.sur] 27 (0, 0))) := hq6
  have HX6 : Hid (OrdsIn w6 ax X) := HXA.out.below hb6
  have HB6 : Hid (Below w.heap.size w w6) := cu_then HBA.out hb6
  have y1 := cu_blk (j := 1) hq6 rfl
  have y2 := cu_blk (j := 2) hq6 rfl
  have hd := demO_in q.price X
  have hs := supO_in q.price X
  clear hb6 hq6 HQ HXA HBA
  generalize demO q.price X = dq at hd HTOLD ⊢
  generalize supO q.price X = sq at hs HTOLD ⊢
  have hcase : (¬ 0 < q.qty) ∨ (0 < q.qty ∧ (q.qty != min dq sq) = false ∧ (q.sur != dq - sq) = false) := by
    by_cases h0 : 0 < q.qty
    · obtain ⟨e1, e2⟩ := HTOLD.out h0
      exact Or.inr ⟨h0, by simp [← e1], by simp [e2]⟩
    · exact Or.inl h0
  clear HTOLD
  rcases hcase with h0 | ⟨h0, e1, e2⟩
  all_goals
    go_wp2_with fail
    go_loopw [9, 10, 11] (fun v _ _ wr => ∃ k : Nat, k ≤ 80 ∧ v = .int .i64 ((k : Int) + 1) ∧ wr.heap[qb]? = some (.cells #[.int .i64 q.price, .int .i64 q.qty, .int .i64 q.sur] 27 (0, 0)) ∧ OrdsIn wr ax X ∧ Below w.heap.size w wr) (fun v _ _ _ => 100 - (RowKit.intOf v).toNat)
    case atStart => exact ⟨0, by omega, rfl, HQ6.out, HX6.out, HB6.out⟩
    case round =>
      obtain ⟨k, hk, rfl, hq, hx, hb⟩ := hrel
      have HQ : Hid (wr.heap[qb]? = some (.cells #[.int .i64 q.price, .int .i64 q.qty, .int .i64 q.sur] 27 (0, 0))) := hq
      have HX : Hid (OrdsIn wr ax X) := hx
      have HB : Hid (Below w.heap.size w wr) := hb
      clear hq hx hb HQ6 HX6 HB6 y1 y2
      by_cases hk1 : k < 80
      · go_wp2_with fail
        refine (kpAt ax _ X ((k : Int) + 1) wr HX.out (by omega) HS.out.ok).mono ?_
        rintro e w7 ⟨rfl, hb7⟩
        have hq7 := cu_keep HQ.out hb7
        have HQ7 : Hid (w7.heap[qb]? = some (.cells #[.int .i64 q.price, .int .i64 q.qty, .int .i64 q.sur] 27 (0, 0))) := hq7
        have HX7 : Hid (OrdsIn w7 ax X) := HX.out.below hb7
        have HB7 : Hid (Below w.heap.size w w7) := cu_then HB.out hb7
        have z1 := cu_blk (j := 1) hq7 rfl
        have hle := HBEST.out ((k : Int) + 1)
        clear hb7 hq7 HQ HX HB
        generalize demO ((k : Int) + 1) X = dk at hle ⊢
        generalize supO ((k : Int) + 1) X = sk at hle ⊢
        have hno : ¬ q.qty < min dk sk := by omega
        have hno2 : q.qty < dk → sk ≤ q.qty := by omega
        go_wp2_with fail
        go_roundw
        case rel => exact ⟨k + 1, by omega, by go_num, HQ7.out, HX7.out, HB7.out⟩
        case measure => simp [RowKit.intOf]; omega
      · go_wp2_with fail
        go_ret
        exact ⟨rfl, HB.out⟩
theorem own : ownKnob Try.prog.godebug = none := by kernel_rfl
theorem laidOut : laidOutB Try.prog = true := by kernel_rfl

set_option maxRecDepth 100000 in
theorem lifted (os : Os) (started : os.Started) (H : Type) (enc : TypeId × Value → H) :
    ReturnsInHanded {} Try.checked os 3 .any (Rows.curveBestSpec.pre6 enc Try.prog Try.f3 Rows.curveBestRow.domain false) (Rows.curveBestSpec.post enc Try.prog Try.f3 false true false false) := by
  refine returnsInHanded_of_change (C := Try.checked) own started (by kernel_rfl) Try.func3
    (ChangeSpec.witness6 (enc := enc) (C := Try.checked) false ⟨#[], #[.slice none 0 0, .int .i64 0], []⟩ 8 (by kernel_rfl) (by kernel_rfl) (by kernel_rfl) (by kernel_rfl)) ?_
  intro W base args ds gs before hval0 hW hcnd _
  have hval : ∀ (j : Nat) t v, Try.f3.params[j]? = some t → args[j]? = some v → Value.okWide Try.prog W .any base t v := hval0
  have hW' := hW
  obtain ⟨p, q, hA0, hV, rfl, hfz, hnd⟩ := hW
  have hA : DataW.TrodAll enc Try.prog W 0 (fun _ => true) true Try.f3.params.toList args.toList ds p := hA0
  rw [Try.params3] at hA hval
  obtain ⟨v0, vs0, d0, ds0, p0, q0, hargs, rfl, rfl, h0, r0⟩ := trodAll_cons hA
  obtain ⟨v1, vs1, d1, ds1, p1, q1, rfl, rfl, rfl, h1, r1⟩ := trodAll_cons r0
  obtain ⟨rfl, rfl, rfl⟩ := trodAll_nil r1
  obtain rfl : args = #[v0, v1] := by cases args; simp_all
  obtain ⟨rfl, rfl⟩ := trodVars_none hV
  obtain ⟨a0, len, cap, rfl⟩ := okWide_slice Try.underlying22 (hval 0 22 v0 rfl rfl)
  obtain ⟨a1, rfl, rfl, rfl, w1⟩ := open_int Try.underlying3 (hval 1 3 v1 rfl rfl) h1
  clear hA0 hval0
  simp only [List.append_nil] at hW'
  have hlt : ∀ x ∈ p0, x.block < W.heap.size := fun x hx => by simpa using hW'.lt x hx
  obtain ⟨l, rfl, hin, hwf⟩ := ords_open h0
  refine (walk a0 cap l a1 W hin hwf w1).mono fun e W' ⟨he, hb⟩ => ?_
  subst he
  refine ⟨_, rfl, _, _, _, [], p0 ++ ([] ++ []), [], hW', ?_, ?_, ?_, hb.frame _, fun h => by cases h⟩
  · exact trodAll_cons_mk (shut_bool Try.underlying4 _) trodAll_mk0
  · exact trodAll_cons_mk (Below.trod laidOut (by kernel_rfl) (of_decide_eq_true (by kernel_rfl)) h0 hb hlt) (trodAll_cons_mk (shut_int Try.underlying3 w1) trodAll_mk0)
  · rfl

theorem over : Rows.curveBestRow.holds Try.pinned (OpenSpec.ofChange Rows.curveBestSpec) :=
  OpenClaim.holds_of_wide 3 Try.f3 rfl rfl rfl rfl rfl rfl rfl ⟨rfl, rfl, rfl, rfl, rfl⟩ rfl rfl rfl rfl rfl (by kernel_rfl) Try.func3 (by kernel_rfl)
    (of_decide_eq_true (by kernel_rfl)) (by unfold Func.isWrapper; first | (rw [if_pos (by decide +kernel)]; kernel_rfl) | (rw [if_neg (by decide +kernel)]; exact ⟨rfl, rfl⟩))
    (fun os started H enc _ => lifted os started H enc)

end Go.Proofs.Ytahmeoafoedebab.curveBest
namespace Go.Proofs.Ytahmeoafoedebab
theorem curveBest_holds : Rows.CurveBestSaid := curveBest.over
#print axioms curveBest_holds
end Go.Proofs.Ytahmeoafoedebab
