/-
  What the document's Curve returns, over this seat's translation. Conditions stand in each theorem: where the orders lie, and that they are at most 1000.
-/
import Derived.Test.YtkfmljokenclaabDoorCuRef
import Derived.Deep.Cut
import Derived.Deep.CutRange
namespace Go.Proofs.YtkfmljokenclaabDoor
open Go.RowKit

set_option maxRecDepth 4000 in
set_option maxHeartbeats 4000000 in
theorem cuCurve (a : Option Addr) (cap : Nat) (l : List Ord) (more : Int) (w : World) (h : OrdsIn w a l) (hl : l.length ≤ 1000) :
    Calls Tryd.prog 10 #[.slice a l.length cap, .int .i64 more] w fun e w' => ∃ v', e = .returned v' ∧ w'.ownsRow w.heap.size 63 3 v' (curveL l more).length (ptV (curveL l more)) ∧ Below w.heap.size w w' := by
  obtain ⟨iI, hiI, hI0, hI1, hI2⟩ := info_parts Tryd.infoInt
  obtain ⟨iP, hiP, hP0, hP1, hP2⟩ := info_parts Tryd.infoPt
  have HA : Hid (OrdsIn w a l) := h
  clear h
  go_enter Tryd.func10, Tryd.ntmps10
  go_upto_if 16 with fail
  go_cut [5] from 15 to 20 (fun v wc => wc.ownsRow w.heap.size 3 1 v (pricesK l more 0).length (ints (pricesK l more 0)) ∧ Below w.heap.size w wc)
  case first =>
    by_cases hm : 0 < more
    · have HM : Hid (pricesK l more 0 = [more]) := pricesK_pos hm
      go_wp2_with (at_builtin; refine wpList_append_own_at _ rfl _ _ 68 rfl w.heap.size 3 iI (.int .i64 0) 1 8 Tryd.underlying68 hiI hI0 hI1 hI2 rfl (by decide) _ 0 [] rfl (World.ownsRow_nil _ _ _ _) ⟨w.heap.size, 0, none⟩ 1 1 [.int .i64 more] rfl rfl (World.news_of_block (cs := #[.int .i64 more]) (t := 3) (fr := (0, 0)) (heap_alloc_new w _)) (by simp [Value.oneCell']) (by unfold maxLen; omega) (by omega) (by simp) ?_; intro v' w6 hown6 hgrow6 _ _)
      go_meet
      exact ⟨by rw [HM.out]; exact hown6, (cu_bel1 w _).grown hgrow6 (by simp) (fun q hq => by cases hq)⟩
    · have HM : Hid (pricesK l more 0 = []) := pricesK_neg hm
      go_wp2_with fail
      go_meet
      exact ⟨by rw [HM.out]; exact World.ownsRow_nil _ _ _ _, Below.refl _ _⟩
  case rest =>
    obtain ⟨ho, hb⟩ := hcut
    have HO : Hid (wc.ownsRow w.heap.size 3 1 u5 (pricesK l more 0).length (ints (pricesK l more 0))) := ho
    have HB : Hid (Below w.heap.size w wc) := hb
    clear ho hb
    go_wp2_with fail
    go_loopw [5, 23] (fun v i wr => ∃ k : Nat, k ≤ l.length ∧ i = .int .i64 k ∧ wr.ownsRow w.heap.size 3 1 v (pricesK l more k).length (ints (pricesK l more k)) ∧ Below w.heap.size w wr) (fun _ i _ => l.length - (intOf i).toNat)
    case atStart => exact ⟨0, Nat.zero_le _, rfl, HO.out, HB.out⟩
    case round =>
      obtain ⟨k, hk, rfl, hown, hb⟩ := hrel
      have HW : Hid (wr.ownsRow w.heap.size 3 1 u5 (pricesK l more k).length (ints (pricesK l more k))) := hown
      have HB1 : Hid (Below w.heap.size w wr) := hb
      have hlen := pricesK_len l more k hk
      obtain ⟨vao, vcap, rfl, _, _⟩ := bk_shape hown
      clear HO HB
      by_cases hk1 : k < l.length
      · have hlt : (k : Int) < (l.length : Int) := by omega
        obtain ⟨b, off, rfl, d0, d1, d2, d3, d4⟩ := HA.out.below hb k hk1
        have HT : Hid (pricesK l more (k + 1) = if namesO (oAt l k) = true then pricesK l more k ++ [(oAt l k).price] else pricesK l more k) := pricesK_step more hk1
        clear hown hb
        generalize oAt l k = o at d0 d1 d2 d3 d4 HT
        generalize pricesK l more k = xs at HW HT hlen
        go_wp2_with fail
        have hA := heap_alloc_new wr (.cells #[.int .i64 o.id, .int .i64 o.side, .int .i64 o.kind, .int .i64 o.price, .int .i64 o.qty] 30)
        have hbA := cu_bel1 wr (.cells #[.int .i64 o.id, .int .i64 o.side, .int .i64 o.kind, .int .i64 o.price, .int .i64 o.qty] 30)
        generalize wr.alloc (.cells #[.int .i64 o.id, .int .i64 o.side, .int .i64 o.kind, .int .i64 o.price, .int .i64 o.qty] 30) = W at hA hbA ⊢
        generalize wr.heap.size = x at hA ⊢
        refine (cuOk o W).mono ?_
        rintro e w3 ⟨rfl, hb3⟩
        have hA3 := cu_keep hA hb3
        have hb03 := cu_then hbA hb3
        have HW3 : Hid (w3.ownsRow w.heap.size 3 1 (.slice vao xs.length vcap) xs.length (ints xs)) := bk_below HW.out hb03 (Nat.le_refl _)
        have HB3 : Hid (Below w.heap.size w w3) := cu_then HB1.out hb03
        clear hA hbA hb3 hb03 HW HB1 d0 d1 d2 d3 d4
        have e2 := cu_blk (j := 2) hA3 rfl
        have e3 := cu_blk (j := 3) hA3 rfl
        clear hA3
        cases hn : namesO o with
        | true =>
          have hn2 : okO o = true ∧ o.kind ≠ 2 := by unfold namesO at hn; simpa using hn
          have HT2 : Hid (pricesK l more (k + 1) = xs ++ [o.price]) := by rw [HT.out, if_pos hn]; rfl
          have hk2 : (o.kind == 2) = false := beq_eq_false_iff_ne.2 hn2.2
          rw [hn2.1]
          clear hn hn2 HT
          go_wp2_with (at_builtin; refine wpList_append_own_at _ rfl _ _ 68 rfl w.heap.size 3 iI (.int .i64 0) 1 8 Tryd.underlying68 hiI hI0 hI1 hI2 rfl (by decide) _ xs.length (ints xs) rfl (HW3.out.alloc _) ⟨w3.heap.size, 0, none⟩ 1 1 [.int .i64 o.price] rfl rfl (World.news_of_block (cs := #[.int .i64 o.price]) (t := 3) (fr := (0, 0)) (heap_alloc_new w3 _)) (by simp [Value.oneCell']) (by unfold maxLen; omega) (by omega) (by have := HB3.out.size; simp; omega) ?_; intro v' w6 hown6 hgrow6 _ _)
          go_roundw
          case rel =>
            refine ⟨k + 1, hk1, by go_num, ?_, (HB3.out.alloc HB3.out.size _).grown hgrow6 (by have := HB3.out.size; simp; omega) (fun q hq => (HW3.out.lt q hq).1)⟩
            rw [HT2.out, ints_snoc, List.length_append, List.length_singleton]
            exact hown6
          case measure => simp [intOf]; omega
        | false =>
          have HT2 : Hid (pricesK l more (k + 1) = xs) := by rw [HT.out, if_neg (by rw [hn]; decide)]; rfl
          cases hok : okO o with
          | false =>
            clear hn HT hok
            go_wp2_with fail
            go_roundw
            case rel => exact ⟨k + 1, hk1, by go_num, by rw [HT2.out]; exact HW3.out, HB3.out⟩
            case measure => simp [intOf]; omega
          | true =>
            have hk2 : o.kind = 2 := by unfold namesO at hn; rw [hok] at hn; simpa using hn
            rw [hk2] at e2
            clear hn HT hok hk2
            go_wp2_with fail
            go_roundw
            case rel => exact ⟨k + 1, hk1, by go_num, by rw [HT2.out]; exact HW3.out, HB3.out⟩
            case measure => simp [intOf]; omega
      · obtain rfl : k = l.length := by omega
        have hx : pricesK l more l.length = pricesO l more := by unfold pricesK; rw [List.take_length]
        rw [hx] at hlen HW
        rw [hx]
        clear hown hb hx
        have HC : Hid (curveL l more = (uniqL (sortI (pricesO l more))).map (ptOf l)) := rfl
        generalize pricesO l more = xs at hlen HW HC ⊢
        go_wp2_with fail
        refine (cuSort HW.out (by omega)).mono ?_
        rintro e w2 ⟨rfl, hs2, hg2⟩
        have hb2 : Below w.heap.size w w2 := HB1.out.grown hg2 HB1.out.size (fun q hq => (HW.out.lt q hq).1)
        have HW2 : Hid (w2.ownsRow w.heap.size 3 1 (.slice vao xs.length vcap) xs.length (ints (sortI xs))) := hs2
        have HB2 : Hid (Below w.heap.size w w2) := hb2
        clear hs2 hg2 hb2 HW HB1
        have hsl := sortI_length xs
        obtain ⟨ys, hys⟩ : ∃ ys, sortI xs = ys := ⟨_, rfl⟩
        rw [hys] at HW2 HC hsl
        have hxl : xs.length = ys.length := hsl.symm
        rw [hxl] at HW2 hlen ⊢
        clear hys hsl hxl
        go_wp2_with fail
        go_loopw [9, 45] (fun v i wr => ∃ k : Nat, k ≤ ys.length ∧ i = .int .i64 k ∧ wr.ownsRow w2.heap.size 63 3 v (uniqK ys k).length (ptV ((uniqK ys k).map (ptOf l))) ∧ Below w2.heap.size w2 wr) (fun _ i _ => ys.length - (intOf i).toNat)
        case atStart => exact ⟨0, Nat.zero_le _, rfl, World.ownsRow_nil _ _ _ _, Below.refl _ _⟩
        case round =>
          obtain ⟨k, hk, rfl, hown, hb⟩ := hrel
          have HWo : Hid (wr.ownsRow w2.heap.size 63 3 u9 (uniqK ys k).length (ptV ((uniqK ys k).map (ptOf l)))) := hown
          have HBo : Hid (Below w2.heap.size w2 wr) := hb
          have hul := uniqK_len ys k
          obtain ⟨oao, ocap, rfl, _, _⟩ := bk_shape hown
          by_cases hk1 : k < ys.length
          · have hlt : (k : Int) < (ys.length : Int) := by omega
            have hrow := bk_below HW2.out hb (Nat.le_refl _)
            obtain ⟨g, cap', hv, _, _⟩ := hrow.form (by omega)
            simp only [Value.slice.injEq, true_and] at hv
            obtain ⟨rfl, rfl⟩ := hv
            have c0 : wr.cell? ⟨g, k, none⟩ = some (.int .i64 (ys.getD k 0)) := (hrow.cellAt k (by omega)).trans (ints_at hk1)
            have HU : Hid (fstB ys k = false → uniqK ys (k + 1) = uniqK ys k) := uniqK_no
            have HU1 : Hid (fstB ys k = true → uniqK ys (k + 1) = uniqK ys k ++ [ys.getD k 0]) := uniqK_yes
            have HR : Hid (∀ i, i < ys.length → wr.cell? ⟨g, i, none⟩ = some (.int .i64 (ys.getD i 0))) := fun i hi => (hrow.cellAt i (by omega)).trans (ints_at hi)
            clear hown hb hrow
            obtain ⟨p, hp⟩ : ∃ p, ys.getD k 0 = p := ⟨_, rfl⟩
            rw [hp] at c0 HU1
            have HPK : Hid (ys.getD k 0 = p) := hp
            clear hp
            go_upto_region 16 with fail
            go_cut [60] from 50 to 60 (fun v wc => v = .bool (!fstB ys k) ∧ wc = wr)
            case first =>
              cases k with
              | zero =>
                go_wp2_with fail
                go_meet
                exact ⟨rfl, rfl⟩
              | succ n =>
                have c1 := HR.out n (by omega)
                have hnn : (0 : Int) ≤ (n : Int) := by omega
                have HF : Hid (fstB ys (n + 1) = !(ys.getD n 0 == ys.getD (n + 1) 0)) := fstB_succ ys n
                clear HU HU1 HWo
                rw [HPK.out] at HF
                clear HPK HR
                generalize ys.getD n 0 = p0 at c1 HF
                by_cases hpp : p0 = p
                · subst hpp
                  go_wp2_with fail
                  go_meet
                  exact ⟨by rw [HF.out]; simp, rfl⟩
                · have hpb : (p0 == p) = false := beq_eq_false_iff_ne.2 hpp
                  go_wp2_with fail
                  go_meet
                  exact ⟨by rw [HF.out, hpb]; rfl, rfl⟩
            case rest =>
              obtain ⟨rfl, rfl⟩ := hcut
              cases hf : fstB ys k with
              | false =>
                have HU2 : Hid (uniqK ys (k + 1) = uniqK ys k) := HU.out hf
                clear HU HU1 hf HR c0
                go_wp2_with fail
                go_roundw
                case rel => exact ⟨k + 1, hk1, by go_num, by rw [HU2.out]; exact HWo.out, HBo.out⟩
                case measure => simp [intOf]; omega
              | true =>
                have HU2 : Hid (uniqK ys (k + 1) = uniqK ys k ++ [p]) := HU1.out hf
                rw [Bool.not_true]
                clear HU HU1 hf HR c0
                obtain ⟨wo, hwo⟩ : ∃ wo : World, wo = wc := ⟨_, rfl⟩
                subst hwo
                go_wp2_with fail
                have hX0 : (wo.alloc (.cells #[.int .i64 p, .int .i64 0, .int .i64 0] 63)).heap[wo.heap.size]? = some (.cells #[.int .i64 p, .int .i64 (demO p (l.take 0)), .int .i64 (supO p (l.take 0))] 63 (0, 0)) := heap_alloc_new wo _
                have HX0 : Hid ((wo.alloc (.cells #[.int .i64 p, .int .i64 0, .int .i64 0] 63)).heap[wo.heap.size]? = some (.cells #[.int .i64 p, .int .i64 (demO p (l.take 0)), .int .i64 (supO p (l.take 0))] 63 (0, 0))) := hX0
                have HBX : Hid (Below wo.heap.size wo (wo.alloc (.cells #[.int .i64 p, .int .i64 0, .int .i64 0] 63))) := cu_bel1 wo _
                clear hX0
                generalize wo.alloc (.cells #[.int .i64 p, .int .i64 0, .int .i64 0] 63) = wx at HX0 HBX ⊢
                have HBW : Hid (Below w.heap.size w wo) := cu_then HB2.out HBo.out
                obtain ⟨xb, hxb⟩ : ∃ xb, wo.heap.size = xb := ⟨_, rfl⟩
                rw [hxb] at HX0
                rw [hxb]
                have HXB : Hid (wo.heap.size = xb) := hxb
                clear hxb
                go_loopw [65] (fun i wi => ∃ j : Nat, j ≤ l.length ∧ i = .int .i64 j ∧ Below wo.heap.size wo wi ∧ wi.heap[xb]? = some (.cells #[.int .i64 p, .int .i64 (demO p (l.take j)), .int .i64 (supO p (l.take j))] 63 (0, 0))) (fun i _ => l.length - (intOf i).toNat)
                case atStart => exact ⟨0, Nat.zero_le _, rfl, HBX.out, HX0.out⟩
                case round =>
                  obtain ⟨j, hj, rfl, hbi, hxi⟩ := hrel
                  have HBi : Hid (Below wo.heap.size wo wr) := hbi
                  have HXi : Hid (wr.heap[xb]? = some (.cells #[.int .i64 p, .int .i64 (demO p (l.take j)), .int .i64 (supO p (l.take j))] 63 (0, 0))) := hxi
                  clear HX0 HBX
                  by_cases hj1 : j < l.length
                  · have hjlt : (j : Int) < (l.length : Int) := by omega
                    obtain ⟨b, off, rfl, d0, d1, d2, d3, d4⟩ := HA.out.below (cu_then HBW.out hbi) j hj1
                    clear hbi hxi
                    have HDN : Hid (buysB p (oAt l j) = false → demO p (l.take (j + 1)) = demO p (l.take j)) := dem_no hj1
                    have HDY : Hid (buysB p (oAt l j) = true → demO p (l.take (j + 1)) = demO p (l.take j) + (oAt l j).qty) := dem_yes hj1
                    have HSN : Hid (sellsB p (oAt l j) = false → supO p (l.take (j + 1)) = supO p (l.take j)) := sup_no hj1
                    have HSY : Hid (sellsB p (oAt l j) = true → supO p (l.take (j + 1)) = supO p (l.take j) + (oAt l j).qty) := sup_yes hj1
                    have hdi := demO_in p (l.take j)
                    have hsi := supO_in p (l.take j)
                    have htl : (l.take j).length ≤ 1000 := by rw [List.length_take]; omega
                    generalize oAt l j = o at d0 d1 d2 d3 d4 HDN HDY HSN HSY
                    generalize demO p (l.take j) = dd at HXi HDN HDY hdi
                    generalize supO p (l.take j) = ss at HXi HSN HSY hsi
                    generalize (l.take j).length = tl at hdi hsi htl
                    go_wp2_with fail
                    have hA := heap_alloc_new wr (.cells #[.int .i64 o.id, .int .i64 o.side, .int .i64 o.kind, .int .i64 o.price, .int .i64 o.qty] 30)
                    have hbA := cu_bel1 wr (.cells #[.int .i64 o.id, .int .i64 o.side, .int .i64 o.kind, .int .i64 o.price, .int .i64 o.qty] 30)
                    have hyx : xb < wr.heap.size := lt_of_block HXi.out
                    generalize wr.alloc (.cells #[.int .i64 o.id, .int .i64 o.side, .int .i64 o.kind, .int .i64 o.price, .int .i64 o.qty] 30) = W at hA hbA ⊢
                    refine (cuOk o W).mono ?_
                    rintro e w3 ⟨rfl, hb3⟩
                    have hA3 := cu_keep hA hb3
                    have hb03 := cu_then hbA hb3
                    have hX3 := cu_keep HXi.out hb03
                    have HB3 : Hid (Below wo.heap.size wo w3) := HBi.out.trans (hb03.mono HBi.out.size)
                    clear hA hbA hb3 hb03 HXi HBi d0 d1 d2 d3 d4
                    generalize wr.heap.size = y at hA3 hyx ⊢
                    have e1 := cu_blk (j := 1) hA3 rfl
                    have e2 := cu_blk (j := 2) hA3 rfl
                    have e3 := cu_blk (j := 3) hA3 rfl
                    have e4 := cu_blk (j := 4) hA3 rfl
                    have x1 := cu_blk (j := 1) hX3 rfl
                    have x2 := cu_blk (j := 2) hX3 rfl
                    have g1 := cu_free (j := 1) hX3
                    have g2 := cu_free (j := 2) hX3
                    have HX3 : Hid (w3.heap[xb]? = some (.cells #[.int .i64 p, .int .i64 dd, .int .i64 ss] 63 (0, 0))) := hX3
                    have n1 : ¬ y = xb := by omega
                    have n2 : ¬ xb = y := by omega
                    clear hX3 hA3
                    cases hok : okO o with
                    | false =>
                      have HD : Hid (demO p (l.take (j + 1)) = dd) := HDN.out (buys_out hok)
                      have HS : Hid (supO p (l.take (j + 1)) = ss) := HSN.out (sells_out hok)
                      clear hok HDN HDY HSN HSY
                      go_wp2_with fail
                      go_roundw
                      case rel => exact ⟨j + 1, hj1, by go_num, HB3.out, by rw [HD.out, HS.out]; exact HX3.out⟩
                      case measure => simp [intOf]; omega
                    | true =>
                      obtain ⟨⟨hs1, hs2⟩, hq1, hq2⟩ := okO_qty hok
                      by_cases hs : o.side = 1
                      · have HS : Hid (supO p (l.take (j + 1)) = ss) := HSN.out (sells_side hs)
                        rw [hs] at e1
                        by_cases hkd : o.kind = 2
                        · have HD : Hid (demO p (l.take (j + 1)) = dd + o.qty) := HDY.out (buys_mk hok hs hkd)
                          rw [hkd] at e2
                          clear hok HDN HDY HSN HSY hs hkd
                          go_wp2_with fail
                          go_roundw
                          case rel => exact ⟨j + 1, hj1, by go_num, HB3.out.setCell (Nat.le_of_eq HXB.out) _, by rw [HD.out, HS.out]; exact cu_set (j := 1) _ HX3.out⟩
                          case measure => simp [intOf]; omega
                        · have hkb : (o.kind == 2) = false := beq_eq_false_iff_ne.2 hkd
                          by_cases hp : p ≤ o.price
                          · have HD : Hid (demO p (l.take (j + 1)) = dd + o.qty) := HDY.out (buys_lim hok hs hp)
                            clear hok HDN HDY HSN HSY hs hkd
                            go_wp2_with fail
                            go_roundw
                            case rel => exact ⟨j + 1, hj1, by go_num, HB3.out.setCell (Nat.le_of_eq HXB.out) _, by rw [HD.out, HS.out]; exact cu_set (j := 1) _ HX3.out⟩
                            case measure => simp [intOf]; omega
                          · have HD : Hid (demO p (l.take (j + 1)) = dd) := HDN.out (buys_not hkd hp)
                            clear hok HDN HDY HSN HSY hs hkd
                            go_wp2_with fail
                            go_roundw
                            case rel => exact ⟨j + 1, hj1, by go_num, HB3.out, by rw [HD.out, HS.out]; exact HX3.out⟩
                            case measure => simp [intOf]; omega
                      · have hs' : o.side = 2 := by omega
                        have HD : Hid (demO p (l.take (j + 1)) = dd) := HDN.out (buys_side hs')
                        rw [hs'] at e1
                        by_cases hkd : o.kind = 2
                        · have HS : Hid (supO p (l.take (j + 1)) = ss + o.qty) := HSY.out (sells_mk hok hs' hkd)
                          rw [hkd] at e2
                          clear hok HDN HDY HSN HSY hs hkd hs'
                          go_wp2_with fail
                          go_roundw
                          case rel => exact ⟨j + 1, hj1, by go_num, HB3.out.setCell (Nat.le_of_eq HXB.out) _, by rw [HD.out, HS.out]; exact cu_set (j := 2) _ HX3.out⟩
                          case measure => simp [intOf]; omega
                        · have hkb : (o.kind == 2) = false := beq_eq_false_iff_ne.2 hkd
                          by_cases hp : o.price ≤ p
                          · have HS : Hid (supO p (l.take (j + 1)) = ss + o.qty) := HSY.out (sells_lim hok hs' hp)
                            clear hok HDN HDY HSN HSY hs hkd hs'
                            go_wp2_with fail
                            go_roundw
                            case rel => exact ⟨j + 1, hj1, by go_num, HB3.out.setCell (Nat.le_of_eq HXB.out) _, by rw [HD.out, HS.out]; exact cu_set (j := 2) _ HX3.out⟩
                            case measure => simp [intOf]; omega
                          · have HS : Hid (supO p (l.take (j + 1)) = ss) := HSN.out (sells_not hkd hp)
                            clear hok HDN HDY HSN HSY hs hkd hs'
                            go_wp2_with fail
                            go_roundw
                            case rel => exact ⟨j + 1, hj1, by go_num, HB3.out, by rw [HD.out, HS.out]; exact HX3.out⟩
                            case measure => simp [intOf]; omega
                  · obtain rfl : j = l.length := by omega
                    rw [List.take_length] at hxi
                    clear HXi hbi
                    obtain ⟨dd, hdd⟩ : ∃ dd, demO p l = dd := ⟨_, rfl⟩
                    obtain ⟨ss, hss⟩ : ∃ ss, supO p l = ss := ⟨_, rfl⟩
                    rw [hdd, hss] at hxi
                    have HPT : Hid (ptOf l p = ⟨p, dd, ss⟩) := by unfold ptOf; rw [hdd, hss]; rfl
                    clear hdd hss
                    have x0 := cu_blk (j := 0) hxi rfl
                    have x1 := cu_blk (j := 1) hxi rfl
                    have x2 := cu_blk (j := 2) hxi rfl
                    clear hxi
                    have HWi : Hid (wr.ownsRow w2.heap.size 63 3 (.slice oao (uniqK ys k).length ocap) (uniqK ys k).length (ptV ((uniqK ys k).map (ptOf l)))) := bk_below HWo.out HBi.out (Nat.le_refl _)
                    have HB9 : Hid (Below w2.heap.size w2 wr) := cu_then HBo.out HBi.out
                    clear HWo HBi HBo HBW
                    have HM : Hid (ptV ((uniqK ys (k + 1)).map (ptOf l)) = ptV ((uniqK ys k).map (ptOf l)) ++ [.int .i64 p, .int .i64 dd, .int .i64 ss]) := by rw [HU2.out, List.map_append, List.map_singleton, HPT.out, ptV_snoc]; rfl
                    have HM2 : Hid ((uniqK ys (k + 1)).length = (uniqK ys k).length + 1) := by rw [HU2.out, List.length_append, List.length_singleton]; rfl
                    clear HU2
                    go_wp2_with (at_builtin; refine wpList_append_own_at _ rfl _ _ 45 rfl w2.heap.size 63 iP (.agg #[.int .i64 0, .int .i64 0, .int .i64 0]) 3 24 Tryd.underlying45 hiP hP0 hP1 hP2 rfl (by decide) _ (uniqK ys k).length (ptV ((uniqK ys k).map (ptOf l))) rfl (HWi.out.alloc _) ⟨wr.heap.size, 0, none⟩ 1 1 [.int .i64 p, .int .i64 dd, .int .i64 ss] rfl rfl (World.news_of_block (cs := #[.int .i64 p, .int .i64 dd, .int .i64 ss]) (t := 63) (fr := (0, 0)) (heap_alloc_new wr _)) (by simp [Value.oneCell']) (by unfold maxLen; omega) (by omega) (by have := HB9.out.size; simp; omega) ?_; intro v' w6 hown6 hgrow6 _ _)
                    go_roundw
                    case rel =>
                      refine ⟨k + 1, hk1, by go_num, ?_, (HB9.out.alloc HB9.out.size _).grown hgrow6 (by have := HB9.out.size; simp; omega) (fun q hq => (HWi.out.lt q hq).1)⟩
                      rw [HM.out, HM2.out]
                      exact hown6
                    case measure => simp [intOf]; omega
          · obtain rfl : k = ys.length := by omega
            clear hown hb
            go_wp2_with fail
            go_ret
            refine ⟨_, rfl, ?_, cu_then HB2.out HBo.out⟩
            rw [HC.out, List.length_map]
            exact owns_base HWo.out HB2.out.size
end Go.Proofs.YtkfmljokenclaabDoor
