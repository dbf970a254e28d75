/-
  What the keep's own 'pick' and 'some' return, over this seat's translation: orders that may lie, by numbers from 1 on. Conditions stand in each theorem: where the orders that are handed in lie.
-/
import Derived.Test.YtahmeoafoedebabCuIn
import Derived.Deep.CutRange
import Derived.Deep.RegionWith
import Derived.Deep.RegionWith
namespace Go.Proofs.Ytahmeoafoedebab
open Go.RowKit

def pkV (a n : Int) : Int := wrap64 ((IntKind.u64.wrap a).tmod n)
theorem pkV_in (a n : Int) (hn : 1 ≤ n ∧ n ≤ 1000000) : 0 ≤ pkV a n ∧ pkV a n < n := by
  have h0 : 0 ≤ IntKind.u64.wrap a := by rw [IntKind.wrap_u64]; omega
  have h1 := Int.tmod_nonneg n h0
  have h2 := Int.tmod_lt_of_pos (IntKind.u64.wrap a) (by omega : 0 < n)
  unfold pkV
  rw [IntWalk.wrap64_in ((IntKind.u64.wrap a).tmod n) (by omega)]
  exact ⟨h1, h2⟩
set_option maxHeartbeats 400000 in
theorem kpPick (a n : Int) (w : World) (hn : 1 ≤ n ∧ n ≤ 1000000) : Calls Try.prog 6 #[.int .i64 a, .int .i64 n] w fun e w' => e = .returned (.int .i64 (pkV a n)) ∧ w' = w := by
  go_enter Try.func6, Try.ntmps6
  go_wp2_with fail
  go_ret
  exact ⟨rfl, rfl⟩
theorem Try.infoOrdK : (Try.prog.info? 35).map (fun i => (i.zero, i.size, i.bytes)) = some (some (.agg #[.int .i64 0, .int .i64 0, .int .i64 0, .int .i64 0, .int .i64 0]), 5, 40) := by kernel_rfl

theorem cu_drew (w : World) : w.drew.heap = w.heap := rfl
/-- an order that may lie, the k-th one -/
structure GoodO (k : Nat) (o : Ord) : Prop where
  id : o.id = (k : Int) + 1
  side : 1 ≤ o.side ∧ o.side ≤ 2
  kind : 1 ≤ o.kind ∧ o.kind ≤ 3
  price : 1 ≤ o.price ∧ o.price ≤ 60
  qty : 1 ≤ o.qty ∧ o.qty ≤ 30
/-- orders that may lie, by numbers from 1 on -/
structure SomeOk (X : List Ord) : Prop where
  len : X.length ≤ 60
  good : ∀ k, k < X.length → GoodO k (oAt X k)
theorem SomeOk.push {X : List Ord} {o : Ord} (h : SomeOk X) (ho : GoodO X.length o) (hl : X.length < 60) : SomeOk (X ++ [o]) := by
  refine ⟨by simp; omega, fun k hk => ?_⟩
  rw [List.length_append, List.length_singleton] at hk
  by_cases e : k < X.length
  · rw [oAt_push o e]; exact h.good k e
  · obtain rfl : k = X.length := by omega
    rw [show oAt (X ++ [o]) X.length = o by simp [oAt]]; exact ho
theorem SomeOk.ok {X : List Ord} (h : SomeOk X) : ∀ o ∈ X, okO o = true := fun o ho => by
  obtain ⟨k, hk, rfl⟩ := List.mem_iff_getElem.1 ho
  have g := h.good k hk
  rw [oAt_eq hk] at g
  unfold okO
  rw [inC_iff.2 g.side, inC_iff.2 ⟨g.qty.1, by have := g.qty.2; omega⟩]; rfl

set_option maxRecDepth 4000 in
set_option maxHeartbeats 4000000 in
theorem kpSome (a : Option Addr) (cap : Nat) (l : List Ord) (w : World) (h : OrdsIn w a l) :
    Calls Try.prog 5 #[.slice a l.length cap] w fun e w' => ∃ v X, e = .returned v ∧ SomeOk X ∧ w'.ownsRow w.heap.size 35 5 v X.length (oV X) ∧ Below w.heap.size w w' := by
  obtain ⟨i0, hi, hz0, hz1, hz2⟩ := info_parts Try.infoOrdK
  have HA : Hid (OrdsIn w a l) := h
  clear h
  go_enter Try.func5, Try.ntmps5
  go_wp2_with fail
  go_loopw [3, 4] (fun v i wr => ∃ X : List Ord, X.length ≤ l.length ∧ i = .int .i64 X.length ∧ SomeOk X ∧ wr.ownsRow w.heap.size 35 5 v X.length (oV X) ∧ Below w.heap.size w wr) (fun _ i _ => l.length - (intOf i).toNat)
  case atStart => exact ⟨[], Nat.zero_le _, rfl, ⟨Nat.zero_le _, fun k hk => absurd hk (by simp)⟩, World.ownsRow_nil _ _ _ _, Below.refl _ _⟩
  case round =>
    obtain ⟨X, hk, rfl, hX, hown, hb⟩ := hrel
    have HX : Hid (SomeOk X) := hX
    have hx60 := hX.len
    have HW : Hid (wr.ownsRow w.heap.size 35 5 u3 X.length (oV X)) := hown
    have HB : Hid (Below w.heap.size w wr) := hb
    obtain ⟨vao, vcap, rfl, _, _⟩ := bk_shape hown
    clear hX hown
    by_cases hk1 : X.length < l.length
    · have q0 : (0 : Int) ≤ (X.length : Int) := by omega
      have hlt : (X.length : Int) < (l.length : Int) := by omega
      by_cases hk2 : X.length < 60
      · have hlt2 : (X.length : Int) < 60 := by omega
        obtain ⟨b, off, rfl, d0, d1, d2, d3, d4⟩ := HA.out.below hb X.length hk1
        clear hb
        generalize oAt l X.length = o at d0 d1 d2 d3 d4
        go_wp2_with fail
        have hA := heap_alloc_new wr (.cells #[.int .i64 o.id, .int .i64 o.side, .int .i64 o.kind, .int .i64 o.price, .int .i64 o.qty] 35)
        have hbA := cu_bel1 wr (.cells #[.int .i64 o.id, .int .i64 o.side, .int .i64 o.kind, .int .i64 o.price, .int .i64 o.qty] 35)
        have HLT : Hid (∀ q, (Value.slice vao X.length vcap).ownBlock = some q → q < wr.heap.size) := fun q hq => (HW.out.lt q hq).2
        obtain ⟨wo, hwo⟩ : ∃ wo : World, wo = wr := ⟨_, rfl⟩
        subst hwo
        generalize wo.alloc (.cells #[.int .i64 o.id, .int .i64 o.side, .int .i64 o.kind, .int .i64 o.price, .int .i64 o.qty] 35) = W at hA hbA ⊢
        obtain ⟨yb, hyb⟩ : ∃ yb, wo.heap.size = yb := ⟨_, rfl⟩
        rw [hyb] at hA HLT
        rw [hyb]
        have HY : Hid (wo.heap.size = yb) := hyb
        clear hyb d0 d1 d2 d3 d4
        have HBA : Hid (Below wo.heap.size wo W) := hbA
        have HYA : Hid (W.heap[yb]? = some (.cells #[.int .i64 o.id, .int .i64 o.side, .int .i64 o.kind, .int .i64 o.price, .int .i64 o.qty] 35 (0, 0))) := hA
        clear hA hbA
        have hpk := pkV_in o.side 2 (by omega)
        refine (kpPick _ _ _ (by omega)).mono ?_
        rintro e w1 ⟨rfl, hw1⟩
        subst hw1
        generalize pkV o.side 2 = s at hpk ⊢
        have c0 := cu_blk (j := 0) HYA.out rfl
        have c1 := cu_blk (j := 1) HYA.out rfl
        have f0 := cu_free (j := 0) HYA.out
        have f1 := cu_free (j := 1) HYA.out
        go_upto_region 7 with fail
        have hY6 := cu_set (j := 1) (.int .i64 (1 + s)) (cu_set (j := 0) (.int .i64 ((X.length : Int) + 1)) HYA.out)
        have hB6 : Below wo.heap.size wo ((w1.setCell ⟨yb, 0, none⟩ (.int .i64 ((X.length : Int) + 1))).setCell ⟨yb, 1, none⟩ (.int .i64 (1 + s))) := (HBA.out.setCell (Nat.le_of_eq HY.out) _).setCell (Nat.le_of_eq HY.out) _
        clear c0 c1 f0 f1
        generalize (w1.setCell ⟨yb, 0, none⟩ (.int .i64 ((X.length : Int) + 1))).setCell ⟨yb, 1, none⟩ (.int .i64 (1 + s)) = W6 at hY6 hB6 ⊢
        have HY6 : Hid (W6.heap[yb]? = some (.cells #[.int .i64 ((X.length : Int) + 1), .int .i64 (1 + s), .int .i64 o.kind, .int .i64 o.price, .int .i64 o.qty] 35 (0, 0))) := hY6
        have HB6 : Hid (Below wo.heap.size wo W6) := hB6
        clear hY6 hB6 HYA HBA
        go_cut [] from 28 to 34 (fun wc => ∃ kd : Int, 1 ≤ kd ∧ kd ≤ 3 ∧ wc.heap[yb]? = some (.cells #[.int .i64 ((X.length : Int) + 1), .int .i64 (1 + s), .int .i64 kd, .int .i64 o.price, .int .i64 o.qty] 35 (0, 0)) ∧ Below wo.heap.size wo wc)
        case first =>
          have c2 := cu_blk (j := 2) HY6.out rfl
          have hly : yb < W6.heap.size := lt_of_block HY6.out
          have hne : ¬ yb = W6.heap.size := by omega
          go_wp2_with fail
          have hpk5 := pkV_in o.kind 5 (by omega)
          refine (kpPick _ _ _ (by omega)).mono ?_
          rintro e w2 ⟨rfl, hw2⟩
          subst hw2
          generalize pkV o.kind 5 = r at hpk5 ⊢
          have hI := heap_alloc_new W6 (.cells #[.int .i64 1, .int .i64 1, .int .i64 1, .int .i64 2, .int .i64 3] 3)
          have hYI := (cu_bel1 W6 (.cells #[.int .i64 1, .int .i64 1, .int .i64 1, .int .i64 2, .int .i64 3] 3)).block yb hly |>.trans HY6.out
          have HBI : Hid (Below wo.heap.size wo (W6.alloc (.cells #[.int .i64 1, .int .i64 1, .int .i64 1, .int .i64 2, .int .i64 3] 3))) := HB6.out.alloc HB6.out.size _
          generalize W6.alloc (.cells #[.int .i64 1, .int .i64 1, .int .i64 1, .int .i64 2, .int .i64 3] 3) = W7 at hI hYI HBI ⊢
          have HYI : Hid (W7.heap[yb]? = some (.cells #[.int .i64 ((X.length : Int) + 1), .int .i64 (1 + s), .int .i64 o.kind, .int .i64 o.price, .int .i64 o.qty] 35 (0, 0))) := hYI
          have m0 := cu_blk (j := 0) hI rfl
          have m1 := cu_blk (j := 1) hI rfl
          have m2 := cu_blk (j := 2) hI rfl
          have m3 := cu_blk (j := 3) hI rfl
          have m4 := cu_blk (j := 4) hI rfl
          have y2 := cu_blk (j := 2) hYI rfl
          have g2 := cu_free (j := 2) hYI
          clear hI hYI c2 hly hne
          have hr : r = 0 ∨ r = 1 ∨ r = 2 ∨ r = 3 ∨ r = 4 := by omega
          rcases hr with rfl | rfl | rfl | rfl | rfl
          all_goals
            go_wp2_with fail
            go_meet
            exact ⟨_, by decide, by decide, cu_set (j := 2) _ HYI.out, HBI.out.setCell (Nat.le_of_eq HY.out) _⟩
        case rest =>
          obtain ⟨kd, hkd1, hkd2, hY7, hB7⟩ := hcut
          have HY7 : Hid (wc.heap[yb]? = some (.cells #[.int .i64 ((X.length : Int) + 1), .int .i64 (1 + s), .int .i64 kd, .int .i64 o.price, .int .i64 o.qty] 35 (0, 0))) := hY7
          have HB7 : Hid (Below wo.heap.size wo wc) := hB7
          clear hY7 hB7 HY6 HB6
          go_upto_region 8 with fail
          have hpp := pkV_in o.price 60 (by omega)
          have hpq := pkV_in o.qty 30 (by omega)
          obtain ⟨W7, hW7⟩ : ∃ W7 : World, W7 = wc := ⟨_, rfl⟩
          subst hW7
          go_cut [] from 35 to 44 (fun wc => wc.heap[yb]? = some (.cells #[.int .i64 ((X.length : Int) + 1), .int .i64 (1 + s), .int .i64 kd, .int .i64 (1 + pkV o.price 60), .int .i64 (1 + pkV o.qty 30)] 35 (0, 0)) ∧ Below wo.heap.size wo wc)
          case first =>
            have HP3 : Hid (IntKind.i64.wrap (1 + pkV o.price 60) = 1 + pkV o.price 60) := IntWalk.i64_in _ (by omega)
            have HP4 : Hid (IntKind.i64.wrap (1 + pkV o.qty 30) = 1 + pkV o.qty 30) := IntWalk.i64_in _ (by omega)
            have c3 := cu_blk (j := 3) HY7.out rfl
            have c4 := cu_blk (j := 4) HY7.out rfl
            have f3 := cu_free (j := 3) HY7.out
            have f4 := cu_free (j := 4) HY7.out
            go_region_with (first | (go_at_call 6; refine (kpPick _ _ _ (by omega)).mono ?_; rintro e w2 ⟨rfl, hw2⟩; subst hw2))
            all_goals go_wp2_with fail
            all_goals go_meet
            all_goals rw [HP3.out, HP4.out, cu_drew]
            all_goals exact ⟨cu_set (j := 4) _ (cu_set (j := 3) _ HY7.out), ((HB7.out.setCell (Nat.le_of_eq HY.out) _).setCell (Nat.le_of_eq HY.out) _).drew⟩
          case rest =>
            obtain ⟨hY8, hB8⟩ := hcut
            generalize pkV o.price 60 = pr at hY8 hpp
            generalize pkV o.qty 30 = qr at hY8 hpq
            have c0 := cu_blk (j := 0) hY8 rfl
            have c1 := cu_blk (j := 1) hY8 rfl
            have c2 := cu_blk (j := 2) hY8 rfl
            have c3 := cu_blk (j := 3) hY8 rfl
            have c4 := cu_blk (j := 4) hY8 rfl
            have HW8 : Hid (wc.ownsRow w.heap.size 35 5 (.slice vao X.length vcap) X.length (oV X)) := bk_below HW.out hB8 (Nat.le_refl _)
            have HB8 : Hid (Below w.heap.size w wc) := cu_then HB.out hB8
            have HG : Hid (SomeOk (X ++ [⟨(X.length : Int) + 1, 1 + s, kd, 1 + pr, 1 + qr⟩])) := HX.out.push ⟨rfl, by constructor <;> simp <;> omega, ⟨hkd1, hkd2⟩, by constructor <;> simp <;> omega, by constructor <;> simp <;> omega⟩ hk2
            have HV : Hid (oV (X ++ [⟨(X.length : Int) + 1, 1 + s, kd, 1 + pr, 1 + qr⟩]) = oV X ++ [.int .i64 ((X.length : Int) + 1), .int .i64 (1 + s), .int .i64 kd, .int .i64 (1 + pr), .int .i64 (1 + qr)]) := by rw [oV_append]; rfl
            clear hY8 hB8 HY7 HB7 HX HW HB
            go_wp2_with (at_builtin; refine wpList_append_own_at _ rfl _ _ 22 rfl w.heap.size 35 i0 (.agg #[.int .i64 0, .int .i64 0, .int .i64 0, .int .i64 0, .int .i64 0]) 5 40 Try.underlying22 hi hz0 hz1 hz2 rfl (by decide) _ X.length (oV X) rfl (HW8.out.alloc _) ⟨wc.heap.size, 0, none⟩ 1 1 [.int .i64 ((X.length : Int) + 1), .int .i64 (1 + s), .int .i64 kd, .int .i64 (1 + pr), .int .i64 (1 + qr)] rfl rfl (World.news_of_block (cs := #[.int .i64 ((X.length : Int) + 1), .int .i64 (1 + s), .int .i64 kd, .int .i64 (1 + pr), .int .i64 (1 + qr)]) (t := 35) (fr := (0, 0)) (heap_alloc_new wc _)) (by simp [Value.oneCell']) (by unfold maxLen; omega) (by omega) (by have := HB8.out.size; simp; omega) ?_; intro v' w6 hown6 hgrow6 _ _)
            go_roundw
            case rel =>
              refine ⟨X ++ [⟨(X.length : Int) + 1, 1 + s, kd, 1 + pr, 1 + qr⟩], by simp; omega, by simp, HG.out, ?_, (HB8.out.alloc HB8.out.size _).grown hgrow6 (by have := HB8.out.size; simp; omega) (fun q hq => (HW8.out.lt q hq).1)⟩
              rw [HV.out, List.length_append, List.length_singleton]
              exact hown6
            case measure => simp [intOf]; omega
      · clear hb
        go_wp2_with fail
        go_ret
        exact ⟨_, X, rfl, HX.out, HW.out, HB.out⟩
    · clear hb
      go_wp2_with fail
      go_ret
      exact ⟨_, X, rfl, HX.out, HW.out, HB.out⟩
end Go.Proofs.Ytahmeoafoedebab
