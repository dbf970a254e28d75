/-
  Proved: whatever the points and the price around are, the law CurveChooses returns true and leaves its arguments as they were (which point an auction would choose is the document's). No conditions beyond those of the row itself.
-/
import Derived.Test.YtahmeoafoedebaaChProgW
import Derived.Test.YtahmeoafoedebaaChChoose
import Derived.Test.YtahmeoafoedebaaCuArg
namespace Go.Proofs.Ytahmeoafoedebaa.curveChooses
open Go.ChangeShapes Go.WideShapes Go.ChangeAt Go.RowKit

def farB (n : Int) : Prop := -1099511627776 ≤ n ∧ n ≤ 1099511627776
theorem small_mk {x : Pt} (h0 : farB x.price) (h1 : farB x.dem) (h2 : farB x.sup) : x.Small := ⟨h0, h1, h2⟩
theorem small_snoc {l : List Pt} {k : Nat} (hk : k < l.length) (h : ∀ x ∈ l.take k, x.Small) (hx : (ptAt l k).Small) : ∀ x ∈ l.take (k + 1), x.Small := fun x hx' => by
  rw [List.take_succ_eq_append_getElem hk, List.mem_append, List.mem_singleton] at hx'
  rcases hx' with hx' | rfl
  · exact h x hx'
  · rw [← ptAt_eq hk]; exact hx
theorem pt_take {l : List Pt} {k : Nat} (hk : k < l.length) : l.take (k + 1) = l.take k ++ [ptAt l k] := by rw [List.take_succ_eq_append_getElem hk, ptAt_eq hk]

set_option maxHeartbeats 400000 in
theorem walk_long (a : Option Addr) (n cap : Nat) (around : Int) (w : World) (hn : 60 < n) :
    Calls Try.prog 8 #[.slice a n cap, .int .i64 around] w fun e w' => e = .returned (.bool true) ∧ Below w.heap.size w w' := by
  go_enter Try.func8, Try.ntmps8
  go_wp2_with fail
  go_ret
  exact ⟨rfl, Below.refl _ _⟩
set_option maxHeartbeats 400000 in
theorem walk_up (a : Option Addr) (n cap : Nat) (around : Int) (w : World) (hn : ¬ 60 < n) (ha : 1099511627776 < around) :
    Calls Try.prog 8 #[.slice a n cap, .int .i64 around] w fun e w' => e = .returned (.bool true) ∧ Below w.heap.size w w' := by
  go_enter Try.func8, Try.ntmps8
  go_wp2_with fail
  go_ret
  exact ⟨rfl, Below.refl _ _⟩
set_option maxHeartbeats 400000 in
theorem walk_down (a : Option Addr) (n cap : Nat) (around : Int) (w : World) (hn : ¬ 60 < n) (ha : around < -1099511627776) :
    Calls Try.prog 8 #[.slice a n cap, .int .i64 around] w fun e w' => e = .returned (.bool true) ∧ Below w.heap.size w w' := by
  go_enter Try.func8, Try.ntmps8
  go_wp2_with fail
  go_ret
  exact ⟨rfl, Below.refl _ _⟩

set_option maxRecDepth 4000 in
set_option maxHeartbeats 4000000 in
theorem walk_all (a : Option Addr) (cap : Nat) (l : List Pt) (around : Int) (w : World) (h : PtsIn w a l) (hl : ¬ 60 < l.length) (ha1 : ¬ 1099511627776 < around) (ha2 : ¬ around < -1099511627776) :
    Calls Try.prog 8 #[.slice a l.length cap, .int .i64 around] w fun e w' => e = .returned (.bool true) ∧ Below w.heap.size w w' := by
  obtain ⟨iP, hiP, hP0, hP1, hP2⟩ := info_parts Try.infoPt
  have HA : Hid (PtsIn w a l) := h
  clear h
  go_enter Try.func8, Try.ntmps8
  go_wp2_with fail
  go_loopw [5, 6] (fun v i wr => ∃ k : Nat, k ≤ l.length ∧ i = .int .i64 k ∧ (∀ x ∈ l.take k, x.Small) ∧ wr.ownsRow w.heap.size 60 3 v (l.take k).length (ptV (l.take k)) ∧ Below w.heap.size w wr) (fun _ i _ => l.length - (intOf i).toNat)
  case atStart => exact ⟨0, Nat.zero_le _, rfl, fun x hx => by simp at hx, World.ownsRow_nil _ _ _ _, Below.refl _ _⟩
  case round =>
    obtain ⟨k, hk, rfl, hsm, hown, hb⟩ := hrel
    have HW : Hid (wr.ownsRow w.heap.size 60 3 u5 (l.take k).length (ptV (l.take k))) := hown
    have HB : Hid (Below w.heap.size w wr) := hb
    have HS : Hid (∀ x ∈ l.take k, x.Small) := hsm
    obtain ⟨vao, vcap, rfl, _, _⟩ := bk_shape hown
    clear hown hsm
    by_cases hk1 : k < l.length
    · have hlt : (k : Int) < (l.length : Int) := by omega
      obtain ⟨b, off, rfl, d0, d1, d2⟩ := HA.out.below hb k hk1
      have HTS : Hid (l.take (k + 1) = l.take k ++ [ptAt l k]) := pt_take hk1
      have HSS : Hid ((ptAt l k).Small → ∀ x ∈ l.take (k + 1), x.Small) := fun hx => small_snoc hk1 HS.out hx
      have hal : (l.take k).length ≤ 60 := by rw [List.length_take]; omega
      clear hb
      generalize ptAt l k = x at d0 d1 d2 HTS HSS
      generalize l.take k = acc at HTS HW hal
      go_wp2_with fail
      have HX : Hid (((wr.alloc (.cells #[.int .i64 x.price, .int .i64 x.dem, .int .i64 x.sup] 59)).alloc (.cells #[.int .i64 x.price, .int .i64 x.dem, .int .i64 x.sup] 3)).heap[wr.heap.size]? = some (.cells #[.int .i64 x.price, .int .i64 x.dem, .int .i64 x.sup] 59 (0, 0))) := cu_keep (heap_alloc_new wr _) (cu_bel1 _ _)
      have hI : ((wr.alloc (.cells #[.int .i64 x.price, .int .i64 x.dem, .int .i64 x.sup] 59)).alloc (.cells #[.int .i64 x.price, .int .i64 x.dem, .int .i64 x.sup] 3)).heap[wr.heap.size + 1]? = some (.cells #[.int .i64 x.price, .int .i64 x.dem, .int .i64 x.sup] 3 (0, 0)) := by
        have := heap_alloc_new (wr.alloc (.cells #[.int .i64 x.price, .int .i64 x.dem, .int .i64 x.sup] 59)) (.cells #[.int .i64 x.price, .int .i64 x.dem, .int .i64 x.sup] 3)
        simpa using this
      have hb2 : Below wr.heap.size wr ((wr.alloc (.cells #[.int .i64 x.price, .int .i64 x.dem, .int .i64 x.sup] 59)).alloc (.cells #[.int .i64 x.price, .int .i64 x.dem, .int .i64 x.sup] 3)) := cu_then (cu_bel1 wr _) (cu_bel1 _ _)
      have HW2 : Hid (((wr.alloc (.cells #[.int .i64 x.price, .int .i64 x.dem, .int .i64 x.sup] 59)).alloc (.cells #[.int .i64 x.price, .int .i64 x.dem, .int .i64 x.sup] 3)).ownsRow w.heap.size 60 3 (.slice vao acc.length vcap) acc.length (ptV acc)) := bk_below HW.out hb2 (Nat.le_refl _)
      have HB2 : Hid (Below w.heap.size w ((wr.alloc (.cells #[.int .i64 x.price, .int .i64 x.dem, .int .i64 x.sup] 59)).alloc (.cells #[.int .i64 x.price, .int .i64 x.dem, .int .i64 x.sup] 3))) := cu_then HB.out hb2
      clear hb2 HW HB d0 d1 d2
      generalize (wr.alloc (.cells #[.int .i64 x.price, .int .i64 x.dem, .int .i64 x.sup] 59)).alloc (.cells #[.int .i64 x.price, .int .i64 x.dem, .int .i64 x.sup] 3) = W2 at HX hI HW2 HB2 ⊢
      have i0 := cu_blk (j := 0) hI rfl
      have i1 := cu_blk (j := 1) hI rfl
      have i2 := cu_blk (j := 2) hI rfl
      clear hI
      generalize wr.heap.size = xb at HX i0 i1 i2 ⊢
      go_loopw [9, 39] (fun _ j w7 => ∃ jj : Nat, jj ≤ 3 ∧ j = .int .i64 jj ∧ w7 = W2 ∧ (1 ≤ jj → farB x.price) ∧ (2 ≤ jj → farB x.dem) ∧ (3 ≤ jj → farB x.sup)) (fun _ j _ => 3 - (intOf j).toNat)
      case atStart => exact ⟨0, by omega, rfl, rfl, fun hh => absurd hh (by omega), fun hh => absurd hh (by omega), fun hh => absurd hh (by omega)⟩
      case round =>
        obtain ⟨jj, hjj, rfl, hw7, h0, h1, h2⟩ := hrel
        have H0 : Hid (1 ≤ jj → farB x.price) := h0
        have H1 : Hid (2 ≤ jj → farB x.dem) := h1
        have H2 : Hid (3 ≤ jj → farB x.sup) := h2
        clear h0 h1 h2
        subst hw7
        have hj4 : jj = 0 ∨ jj = 1 ∨ jj = 2 ∨ jj = 3 := by omega
        rcases hj4 with rfl | rfl | rfl | rfl
        · clear hjj
          by_cases hz1 : 1099511627776 < x.price
          · go_wp2_with fail
            go_ret
            exact ⟨rfl, HB2.out⟩
          by_cases hz2 : x.price < -1099511627776
          · go_wp2_with fail
            go_ret
            exact ⟨rfl, HB2.out⟩
          go_wp2_with fail
          go_roundw
          case rel => exact ⟨1, by omega, rfl, trivial, fun _ => ⟨by omega, by omega⟩, fun hh => absurd hh (by omega), fun hh => absurd hh (by omega)⟩
          case measure => simp [intOf]
        · clear hjj
          have H0 : Hid (farB x.price) := H0.out (by omega)
          by_cases hz1 : 1099511627776 < x.dem
          · go_wp2_with fail
            go_ret
            exact ⟨rfl, HB2.out⟩
          by_cases hz2 : x.dem < -1099511627776
          · go_wp2_with fail
            go_ret
            exact ⟨rfl, HB2.out⟩
          go_wp2_with fail
          go_roundw
          case rel => exact ⟨2, by omega, rfl, trivial, fun _ => H0.out, fun _ => ⟨by omega, by omega⟩, fun hh => absurd hh (by omega)⟩
          case measure => simp [intOf]
        · clear hjj
          have H0 : Hid (farB x.price) := H0.out (by omega)
          have H1 : Hid (farB x.dem) := H1.out (by omega)
          by_cases hz1 : 1099511627776 < x.sup
          · go_wp2_with fail
            go_ret
            exact ⟨rfl, HB2.out⟩
          by_cases hz2 : x.sup < -1099511627776
          · go_wp2_with fail
            go_ret
            exact ⟨rfl, HB2.out⟩
          go_wp2_with fail
          go_roundw
          case rel => exact ⟨3, by omega, rfl, trivial, fun _ => H0.out, fun _ => H1.out, fun _ => ⟨by omega, by omega⟩⟩
          case measure => simp [intOf]
        · clear hjj
          have HSX : Hid x.Small := small_mk (H0.out (by omega)) (H1.out (by omega)) (H2.out (by omega))
          have x0 := cu_blk (j := 0) HX.out rfl
          have x1 := cu_blk (j := 1) HX.out rfl
          have x2 := cu_blk (j := 2) HX.out rfl
          clear H0 H1 H2 i0 i1 i2
          go_wp2_with (at_builtin; refine wpList_append_own_at _ rfl _ _ 55 rfl w.heap.size 60 iP (.agg #[.int .i64 0, .int .i64 0, .int .i64 0]) 3 24 Try.underlying55 hiP hP0 hP1 hP2 rfl (by decide) _ acc.length (ptV acc) rfl (HW2.out.alloc _) ⟨wr.heap.size, 0, none⟩ 1 1 [.int .i64 x.price, .int .i64 x.dem, .int .i64 x.sup] rfl rfl (World.news_of_block (cs := #[.int .i64 x.price, .int .i64 x.dem, .int .i64 x.sup]) (t := 60) (fr := (0, 0)) (heap_alloc_new wr _)) (by simp [Value.oneCell']) (by unfold maxLen; omega) (by omega) (by have := HB2.out.size; simp; omega) ?_; intro v' w6 hown6 hgrow6 _ _)
          go_roundw
          case rel =>
            refine ⟨k + 1, hk1, by go_num, HSS.out HSX.out, ?_, (HB2.out.alloc HB2.out.size _).grown hgrow6 (by have := HB2.out.size; simp; omega) (fun q hq => (HW2.out.lt q hq).1)⟩
            rw [HTS.out, ptV_snoc, List.length_append, List.length_singleton]
            exact hown6
          case measure => simp [intOf]; omega
    · obtain rfl : k = l.length := by omega
      rw [List.take_length] at HW HS ⊢
      clear hb
      obtain ⟨aw, cw, hv, hpt⟩ := PtsIn.of_row HW.out
      simp only [Value.slice.injEq, true_and] at hv
      obtain ⟨rfl, rfl⟩ := hv
      have HP : Hid (PtsIn wr vao l) := hpt
      clear hpt
      go_wp2_with fail
      refine (prChoose a _ l around wr (HA.out.below HB.out) (by omega) HS.out (by omega)).mono ?_
      rintro e w3 ⟨rfl, hb3⟩
      have HB3 : Hid (Below w.heap.size w w3) := cu_then HB.out hb3
      have HP3 : Hid (PtsIn w3 vao l) := HP.out.below hb3
      clear hb3
      go_wp2_with fail
      refine (chChoose vao _ l around w3 HP3.out (by omega) HS.out (by omega) (by omega)).mono ?_
      rintro e w4 ⟨rfl, hb4⟩
      have HB4 : Hid (Below w.heap.size w w4) := cu_then HB3.out hb4
      clear hb4
      generalize chooseL l around = q
      go_wp2_with fail
      go_ret
      exact ⟨rfl, HB4.out⟩
theorem walk (a : Option Addr) (cap : Nat) (l : List Pt) (around : Int) (w : World) (h : PtsIn w a l) (_ : ∀ x ∈ l, x.Wf) (_ : wf64 around) :
    Calls Try.prog 8 #[.slice a l.length cap, .int .i64 around] w fun e w' => e = .returned (.bool true) ∧ Below w.heap.size w w' := by
  by_cases hn : 60 < l.length
  · exact walk_long a _ cap around w hn
  by_cases h1 : 1099511627776 < around
  · exact walk_up a _ cap around w hn h1
  by_cases h2 : around < -1099511627776
  · exact walk_down a _ cap around w hn h2
  exact walk_all a cap l around w h hn h1 h2
theorem own : ownKnob Try.prog.godebug = none := by kernel_rfl
theorem laidOut : laidOutB Try.prog = true := by kernel_rfl

set_option maxRecDepth 100000 in
theorem lifted (os : Os) (started : os.Started) (H : Type) (enc : TypeId × Value → H) :
    ReturnsInHanded {} Try.checked os 8 .any (Rows.curveChoosesSpec.pre6 enc Try.prog Try.f8 Rows.curveChoosesRow.domain false) (Rows.curveChoosesSpec.post enc Try.prog Try.f8 false true false false) := by
  refine returnsInHanded_of_change (C := Try.checked) own started (by kernel_rfl) Try.func8
    (ChangeSpec.witness6 (enc := enc) (C := Try.checked) false ⟨#[], #[.slice none 0 0, .int .i64 0], []⟩ 8 (by kernel_rfl) (by kernel_rfl) (by kernel_rfl) (by kernel_rfl)) ?_
  intro W base args ds gs before hval0 hW hcnd _
  have hval : ∀ (j : Nat) t v, Try.f8.params[j]? = some t → args[j]? = some v → Value.okWide Try.prog W .any base t v := hval0
  have hW' := hW
  obtain ⟨p, q, hA0, hV, rfl, hfz, hnd⟩ := hW
  have hA : DataW.TrodAll enc Try.prog W 0 (fun _ => true) true Try.f8.params.toList args.toList ds p := hA0
  rw [Try.params8] at hA hval
  obtain ⟨v0, vs0, d0, ds0, p0, q0, hargs, rfl, rfl, h0, r0⟩ := trodAll_cons hA
  obtain ⟨v1, vs1, d1, ds1, p1, q1, rfl, rfl, rfl, h1, r1⟩ := trodAll_cons r0
  obtain ⟨rfl, rfl, rfl⟩ := trodAll_nil r1
  obtain rfl : args = #[v0, v1] := by cases args; simp_all
  obtain ⟨rfl, rfl⟩ := trodVars_none hV
  obtain ⟨a0, len, cap, rfl⟩ := okWide_slice Try.underlying53 (hval 0 53 v0 rfl rfl)
  obtain ⟨a1, rfl, rfl, rfl, w1⟩ := open_int Try.underlying3 (hval 1 3 v1 rfl rfl) h1
  clear hA0 hval0
  simp only [List.append_nil] at hW'
  have hlt : ∀ x ∈ p0, x.block < W.heap.size := fun x hx => by simpa using hW'.lt x hx
  obtain ⟨l, rfl, hin, hwf⟩ := pts_open h0
  refine (walk a0 cap l a1 W hin hwf w1).mono fun e W' ⟨he, hb⟩ => ?_
  subst he
  refine ⟨_, rfl, _, _, _, [], p0 ++ ([] ++ []), [], hW', ?_, ?_, ?_, hb.frame _, fun h => by cases h⟩
  · exact trodAll_cons_mk (shut_bool Try.underlying4 _) trodAll_mk0
  · exact trodAll_cons_mk (Below.trod laidOut (by kernel_rfl) (of_decide_eq_true (by kernel_rfl)) h0 hb hlt) (trodAll_cons_mk (shut_int Try.underlying3 w1) trodAll_mk0)
  · rfl

theorem over : Rows.curveChoosesRow.holds Try.pinned (OpenSpec.ofChange Rows.curveChoosesSpec) :=
  OpenClaim.holds_of_wide 8 Try.f8 rfl rfl rfl rfl rfl rfl rfl ⟨rfl, rfl, rfl, rfl, rfl⟩ rfl rfl rfl rfl rfl (by kernel_rfl) Try.func8 (by kernel_rfl)
    (of_decide_eq_true (by kernel_rfl)) (by unfold Func.isWrapper; first | (rw [if_pos (by decide +kernel)]; kernel_rfl) | (rw [if_neg (by decide +kernel)]; exact ⟨rfl, rfl⟩))
    (fun os started H enc _ => lifted os started H enc)

end Go.Proofs.Ytahmeoafoedebaa.curveChooses
namespace Go.Proofs.Ytahmeoafoedebaa
theorem curveChooses_holds : Rows.CurveChoosesSaid := curveChooses.over
#print axioms curveChooses_holds
end Go.Proofs.Ytahmeoafoedebaa
