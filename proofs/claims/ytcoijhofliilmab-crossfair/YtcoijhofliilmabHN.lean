/-
  The law CrossFair, walked. Conditions stand in each theorem.
-/
import Derived.Test.YtcoijhofliilmabHK
import Derived.Test.YtcoijhofliilmabHL
import Derived.Test.YtcoijhofliilmabHM
import Derived.Deep.DeepCutAuto
import Derived.Deep.CutRange
import Derived.Deep.CutBlock
import Derived.Lib.MinMax
import Derived.Laws.OwnMore
namespace Go.Proofs.Ytcoijhofliilmab.crossFair
open Go.ChangeShapes Go.WideShapes Go.ChangeAt Go.RowKit

theorem wf_small {z : Int} (h : -1000000000000 ≤ z ∧ z ≤ 1000000000000) : wf64 z := WalkArith.wf_i64 (by omega)
theorem some_wf {X : List Ord} (h : SomeOk X) : ∀ o ∈ X, o.Wf := fun o ho => by
  obtain ⟨k, hk, rfl⟩ := List.mem_iff_getElem.1 ho
  have g := h.good k hk
  rw [oAt_eq hk] at g
  have h1 := g.id
  have h2 := g.side
  have h3 := g.kind
  have h4 := g.price
  have h5 := g.qty
  have h6 := h.len
  exact ⟨wf_small (by omega), wf_small (by omega), wf_small (by omega), wf_small (by omega), wf_small (by omega)⟩
theorem some_small {X : List Ord} {more : Int} (h : SomeOk X) (hm : more ≤ 1000) : ∀ x ∈ curveL X more, x.Small :=
  curve_small (by have := h.len; omega) (fun o ho => by
    obtain ⟨k, hk, rfl⟩ := List.mem_iff_getElem.1 ho
    have g := (h.good k hk).price
    rw [oAt_eq hk] at g
    omega) (by omega)

theorem Try.infoInt : (Try.prog.info? 3).map (fun i => (i.zero, i.size, i.bytes)) = some (some (.int .i64 0), 1, 8) := by kernel_rfl
set_option maxRecDepth 8000 in
set_option maxHeartbeats 4000000 in
theorem walk (a : Option Addr) (cap : Nat) (l : List Ord) (around : Int) (w : World) (h : OrdsIn w a l) (_ : ∀ o ∈ l, o.Wf) (_ : wf64 around) :
    Calls Try.prog 4 #[.slice a l.length cap, .int .i64 around] w fun e w' => e = .returned (.bool true) ∧ Below w.heap.size w w' := by
  have HA : Hid (OrdsIn w a l) := h
  clear h
  go_enter Try.func4, Try.ntmps4
  go_wp2_with fail
  refine (crossed_yes _).mono ?_
  rintro e w1 ⟨rfl, hb1⟩
  have HB1 : Hid (Below w.heap.size w w1) := hb1
  clear hb1
  go_wp2_with fail
  refine (kpSome a _ l w1 (HA.out.below HB1.out)).mono ?_
  rintro e w2 ⟨v2, X, rfl, hS, hown2, hb2⟩
  have HS : Hid (SomeOk X) := hS
  have HB2 : Hid (Below w.heap.size w w2) := cu_then HB1.out hb2
  have HR2 : Hid _ := hown2
  obtain ⟨ax, cx, e2, hin⟩ := OrdsIn.of_row hown2
  subst e2
  have HX : Hid (OrdsIn w2 ax X) := hin
  have hxl := hS.len
  clear hS hown2 hb2 hin HB1 HA
  go_wp2_with fail
  refine (kpPick around 70 _ (by omega)).mono ?_
  rintro e w3 ⟨rfl, hw3⟩
  subst hw3
  obtain ⟨hp0, hp1⟩ := pkV_in around 70 (by omega)
  generalize pkV around 70 = pk at hp0 hp1 ⊢
  go_wp2_with fail
  obtain ⟨ar, har⟩ : ∃ ar : Int, ar = 1 + pk := ⟨_, rfl⟩
  rw [← har]
  have hr1 : 1 ≤ ar ∧ ar ≤ 70 := by omega
  clear har hp0 hp1
  refine (cuOf ax _ X ar w3 HX.out (by omega) (some_wf HS.out) (wf_small (by omega))).mono ?_
  rintro e w4 ⟨v4, rfl, hown4, hb4⟩
  have HB4 : Hid (Below w.heap.size w w4) := cu_then HB2.out hb4
  have HR4 : Hid _ := owns_below HR2.out hb4 (Nat.le_refl _)
  obtain ⟨ap, cp, rfl, hpt⟩ := PtsIn.of_row hown4
  have HP4 : Hid (PtsIn w4 ap (curveL X ar)) := hpt
  have hcl := curve_len X ar
  clear hown4 hb4 hpt HB2 HX HR2
  go_wp2_with fail
  refine (prChoose ap _ (curveL X ar) ar w4 HP4.out (by omega) (some_small HS.out (by omega)) (by omega)).mono ?_
  rintro e w5 ⟨rfl, hb5⟩
  have HB5 : Hid (Below w.heap.size w w5) := cu_then HB4.out hb5
  have HR5 : Hid _ := owns_below HR4.out hb5 (Nat.le_refl _)
  have HAU : Hid (0 < (chooseL (curveL X ar) ar).qty → Auct X (chooseL (curveL X ar) ar).price (chooseL (curveL X ar) ar).qty) := auct_of HS.out (by omega)
  have HNN : Hid (0 ≤ (chooseL (curveL X ar) ar).qty) := by
    show 0 ≤ (chooseL (curveL X ar) ar).qty
    rw [choose_qty]; split <;> omega
  clear hb5 HB4 HP4 hcl HR4
  generalize chooseL (curveL X ar) ar = q at HAU HNN ⊢
  go_upto_region 6 with fail
  have hbA := bel1 w5 (.cells #[.int .i64 q.price, .int .i64 q.qty, .int .i64 q.sur] 27)
  have hqA := heap_alloc_new w5 (.cells #[.int .i64 q.price, .int .i64 q.qty, .int .i64 q.sur] 27)
  generalize w5.alloc (.cells #[.int .i64 q.price, .int .i64 q.qty, .int .i64 q.sur] 27) = W at hbA hqA ⊢
  have HBA : Hid (Below w.heap.size w W) := cu_then HB5.out hbA
  have HRA : Hid _ := owns_below HR5.out hbA (Nat.le_refl _)
  generalize w5.heap.size = qb at *
  have HQA : Hid (QBox W qb q) := hqA
  have q1 : W.cell? ⟨qb, 1, none⟩ = some (.int .i64 q.qty) := blk_cell (j := 1) hqA rfl
  clear hbA hqA HB5 HR5
  by_cases hq0 : q.qty = 0
  · have hqb0 : (q.qty == 0) = true := beq_iff_eq.2 hq0
    clear hq0
    go_wp2_with fail
    go_ret
    exact ⟨rfl, HBA.out⟩
  · have hqb0 : (q.qty == 0) = false := beq_eq_false_iff_ne.2 hq0
    have HAUC : Hid (Auct X q.price q.qty) := HAU.out (by have := HNN.out; omega)
    clear HAU HNN hq0
    go_wp2_with fail
    refine (pbNew W).mono ?_
    rintro e w6 ⟨rfl, h1, h2⟩
    have hC0 : Cx W w6 (W.heap.size + 2) 0 (BkS.none_ W.heap.size) (lieL (X.take 0)) X (.slice ax X.length cx) w1.heap.size qb q := ⟨MyBk.start h1 h2, Lnk.start, owns_below HRA.out h2 (Nat.le_refl _), blk_below HQA.out h2 (Nat.le_refl _)⟩
    have HC0 : Hid _ := hC0
    generalize W.heap.size + 2 = bb at *
    clear h1 h2 hC0 HRA HQA q1 hqb0
    go_wp2_with fail
    go_loopw [8] (fun u8 wr => ∃ (k : Nat) (b : BkS), k ≤ X.length ∧ u8 = .int .i64 k ∧ Cx W wr bb k b (lieL (X.take k)) X (.slice ax X.length cx) w1.heap.size qb q) (fun u8 _ => X.length - (RowKit.intOf u8).toNat)
    case atStart => exact ⟨0, _, Nat.zero_le _, rfl, HC0.out⟩
    case round =>
      obtain ⟨k, b, hk, rfl, hC⟩ := hrel
      have HC : Hid _ := hC
      clear HC0
      by_cases hk1 : k < X.length
      · have hlt : (k : Int) < (X.length : Int) := by omega
        obtain ⟨g, cap', e, d0, d1, d2, d3, d4⟩ := row_order hC.xs hk1
        injection e with e1 _ e2
        subst e1 e2
        have hg := HS.out.good k hk1
        have HP : Hid (lieL (X.take (k + 1)) = lieL (X.take k) ++ [lieO (oAt X k)]) := lie_push hk1
        have hno : ∀ y ∈ lieL (X.take k), y.id ≠ (oAt X k).id := fun y hy => by
          obtain ⟨x, hx, rfl⟩ := List.mem_map.1 hy
          obtain ⟨j, hj, rfl⟩ := List.mem_iff_getElem.1 hx
          rw [List.length_take] at hj
          have h1 := (HS.out.good j (by omega)).id
          rw [oAt_eq (by omega)] at h1
          rw [lieO_id, List.getElem_take, h1, hg.id]
          omega
        have HNO : Hid _ := hno
        have HG : Hid (GoodO k (oAt X k)) := hg
        generalize oAt X k = o at d0 d1 d2 d3 d4 HP HNO HG
        clear hC hno hg
        go_wp2_with fail
        have g1 := HG.out.id
        have g2 := HG.out.side
        have g3 := HG.out.price
        have g4 := HG.out.qty
        refine (cxAdd bb k b (lieL (X.take k)) o wr HC.out.my.bk (by omega) HC.out.lnk (WalkArith.wf_i64 (by omega)) (by omega) (by omega) (by omega) (by omega) HNO.out (by show (List.map lieO (X.take k)).length < 100; rw [List.length_map, List.length_take]; omega)).mono ?_
        rintro e w7 ⟨rfl, b7, hl7, hg7⟩
        rw [← HP.out] at hl7
        have HC7 : Hid _ := HC.out.goes hg7 hl7
        clear g1 g2 g3 g4 hl7 hg7 HC d0 d1 d2 d3 d4
        go_wp2_with fail
        go_roundw
        case rel => exact ⟨k + 1, b7, hk1, by go_num, HC7.out⟩
        case measure => simp [RowKit.intOf]; omega
      · obtain rfl : k = X.length := by omega
        have hlt : ¬ (X.length : Int) < (X.length : Int) := by omega
        rw [List.take_length] at hC
        have HC1 : Hid _ := hC
        clear hC HC hk hk1
        go_wp2_with fail
        have hb8 := bel1 wr (.cells #[.slice none 0 0, .slice none 0 0] 41)
        have hr8 := heap_alloc_new wr (.cells #[.slice none 0 0, .slice none 0 0] 41)
        generalize wr.alloc (.cells #[.slice none 0 0, .slice none 0 0] 41) = w8 at hb8 hr8 ⊢
        have HC8 : Hid _ := HC1.out.below hb8
        have HWR : Hid (W.heap.size ≤ wr.heap.size) := HC1.out.my.bel.size
        generalize wr.heap.size = rk at *
        have HR8 : Hid (RBox w8 rk (.slice none 0 0) (.slice none 0 0)) := hr8
        clear hb8 hr8 HC1
        go_loopw [10] (fun u10 wr => ∃ (k : Nat) (r0 r1 : Value), k ≤ 2 ∧ u10 = .int .i64 k ∧ RBox wr rk r0 r1 ∧ (1 ≤ k → wr.ownsRow w8.heap.size 40 5 r0 (sideO 1 (lieL X)).length (oV (sideO 1 (lieL X)))) ∧ (k = 0 → r1 = .slice none 0 0) ∧ (2 ≤ k → wr.ownsRow w8.heap.size 40 5 r1 (sideO 2 (lieL X)).length (oV (sideO 2 (lieL X)))) ∧ w8.heap.size ≤ wr.heap.size ∧ Cx W wr bb X.length b (lieL X) X (.slice ax X.length cx) w1.heap.size qb q) (fun u10 _ => 2 - (RowKit.intOf u10).toNat)
        case atStart => exact ⟨0, _, _, Nat.zero_le _, rfl, HR8.out, fun e => absurd e (by omega), fun _ => rfl, fun e => absurd e (by omega), Nat.le_refl _, HC8.out⟩
        case round =>
          obtain ⟨k, r0, r1, hk, rfl, hR, hr0, hr00, hr1, hz8, hC⟩ := hrel
          have HC : Hid (Cx W wr bb X.length b (lieL X) X (.slice ax X.length cx) w1.heap.size qb q) := hC
          have HR : Hid (RBox wr rk r0 r1) := hR
          have HR0 : Hid (1 ≤ k → wr.ownsRow w8.heap.size 40 5 r0 (sideO 1 (lieL X)).length (oV (sideO 1 (lieL X)))) := hr0
          have HR1 : Hid (2 ≤ k → wr.ownsRow w8.heap.size 40 5 r1 (sideO 2 (lieL X)).length (oV (sideO 2 (lieL X)))) := hr1
          have HZ8 : Hid (w8.heap.size ≤ wr.heap.size) := hz8
          clear hR hr0 hr1 HC8 HR8 hC hz8 hr00
          have hk3 : k = 0 ∨ k = 1 ∨ k = 2 := by omega
          rcases hk3 with rfl | rfl | rfl
          · go_wp2_with fail
            refine (pbSideOf bb X.length 0 b wr HC.out.my.bk (by decide) 1 rfl).mono ?_
            rintro e w9 ⟨v9, rfl, hrow9, hb9⟩
            have hS9 : (b.S 0).map Ly.o = sideO 1 (lieL X) := HC.out.lnk.side 0 (by decide)
            rw [hS9, show (b.S 0).length = (sideO 1 (lieL X)).length by rw [← hS9, List.length_map]] at hrow9
            obtain ⟨va, vc, rfl, _, _⟩ := owns_shape hrow9
            have hR9 := blk_below HR.out hb9 (Nat.le_refl _)
            have HR9 : Hid (RBox w9 rk r0 r1) := hR9
            have HC9 : Hid _ := HC.out.below hb9
            have HV9 : Hid _ := hrow9
            have HZ9 : Hid (wr.heap.size ≤ w9.heap.size) := hb9.size
            have c0 := blk_cell (j := 0) hR9 rfl
            have f0 := blk_free (j := 0) hR9
            clear hrow9 hb9 hR9 hS9 HR HC
            go_wp2_with fail
            go_roundw
            case rel => exact ⟨1, .slice va (sideO 1 (lieL X)).length vc, r1, by omega, rfl, blk_set (j := 0) (.slice va (sideO 1 (lieL X)).length vc) HR9.out, fun _ => rank_row ⟨HV9.out.1, HV9.out.2.imp id (fun ⟨g, cap, cur, a, b, c⟩ => ⟨g, cap, cur, a, Nat.le_trans HZ8.out b, c⟩)⟩ HR9.out, fun e => absurd e (by omega), fun e => absurd e (by omega), by have h1 := HZ8.out; have h2 := HZ9.out; simp; omega, HC9.out.rank HR9.out HWR.out 0 _⟩
            case measure => simp [RowKit.intOf]
          · go_wp2_with fail
            refine (pbSideOf bb X.length 1 b wr HC.out.my.bk (by decide) 2 rfl).mono ?_
            rintro e w9 ⟨v9, rfl, hrow9, hb9⟩
            have hS9 : (b.S 1).map Ly.o = sideO 2 (lieL X) := HC.out.lnk.side 1 (by decide)
            rw [hS9, show (b.S 1).length = (sideO 2 (lieL X)).length by rw [← hS9, List.length_map]] at hrow9
            obtain ⟨va, vc, rfl, _, _⟩ := owns_shape hrow9
            have hR9 := blk_below HR.out hb9 (Nat.le_refl _)
            have HR9 : Hid (RBox w9 rk r0 r1) := hR9
            have HC9 : Hid _ := HC.out.below hb9
            have HV9 : Hid _ := hrow9
            have HV0 : Hid _ := owns_below (HR0.out (by omega)) hb9 (Nat.le_refl _)
            have HZ9 : Hid (wr.heap.size ≤ w9.heap.size) := hb9.size
            have c0 := blk_cell (j := 1) hR9 rfl
            have f0 := blk_free (j := 1) hR9
            clear hrow9 hb9 hR9 hS9 HR HC
            go_wp2_with fail
            go_roundw
            case rel => exact ⟨2, r0, .slice va (sideO 2 (lieL X)).length vc, by omega, rfl, blk_set (j := 1) (.slice va (sideO 2 (lieL X)).length vc) HR9.out, fun _ => rank_row HV0.out HR9.out, fun e => absurd e (by omega), fun _ => rank_row ⟨HV9.out.1, HV9.out.2.imp id (fun ⟨g, cap, cur, a, b, c⟩ => ⟨g, cap, cur, a, Nat.le_trans HZ8.out b, c⟩)⟩ HR9.out, by have h1 := HZ8.out; have h2 := HZ9.out; simp; omega, HC9.out.rank HR9.out HWR.out 1 _⟩
            case measure => simp [RowKit.intOf]
          · have HV0 : Hid _ := HR0.out (by omega)
            have HV1 : Hid _ := HR1.out (by omega)
            have p0 : wr.cell? ⟨qb, 0, none⟩ = some (.int .i64 q.price) := blk_cell (j := 0) HC.out.quo rfl
            have p1 : wr.cell? ⟨qb, 1, none⟩ = some (.int .i64 q.qty) := blk_cell (j := 1) HC.out.quo rfl
            clear HR0 HR1
            go_wp2_with fail
            refine (cpFills bb X.length b (lieL X) q.price q.qty wr HC.out.my.bk (by omega) HC.out.lnk HAUC.out.lok ⟨HAUC.out.pos, HAUC.out.fits⟩).mono ?_
            rintro e w9 ⟨K, vf, rfl, hq, hj, b9, hCp⟩
            have HD : Hid (Done X q.price q.qty K) := ⟨HAUC.out, hq, hj⟩
            have HC9 : Hid (Cx W w9 bb (X.length + 2 * K) b9 (lsK X q.price q.qty K) X (.slice ax X.length cx) w1.heap.size qb q) := HC.out.goes ⟨hCp.bk, hCp.since.1, hCp.since.2⟩ hCp.lnk
            have HR9 : Hid (RBox w9 rk r0 r1) := blk_out HR.out hCp.since.1 (HC.out.my.bk.farBox HR.out (by decide) (by decide) (by decide) (by decide) (by decide))
            have HV09 : Hid _ := owns_out HV0.out hCp.since.1 (HC.out.my.bk.farAny HV0.out (by decide) (by decide) (by decide) (by decide) (by decide))
            have HV19 : Hid _ := owns_out HV1.out hCp.since.1 (HC.out.my.bk.farAny HV1.out (by decide) (by decide) (by decide) (by decide) (by decide))
            have HF9 : Hid (w9.ownsRow wr.heap.size 49 4 vf (fsK X q.price q.qty K).length (fV (fsK X q.price q.qty K))) := hCp.fils
            obtain ⟨fa, fc, rfl, _, _⟩ := owns_shape HF9.out
            obtain ⟨a0, c0, rfl, _, _⟩ := owns_shape HV09.out
            obtain ⟨a1, c1, rfl, _, _⟩ := owns_shape HV19.out
            clear hq hj hCp HC HR HV0 HV1 p0 p1 HAUC
            obtain ⟨iI, hiI, hI0, hI1, hI2⟩ := info_parts Try.infoInt
            go_wp2_with (at_make; refine wpList_make_full _ rfl _ _ 47 rfl w9.heap.size 3 iI (.int .i64 0) 1 Try.underlying47 hiI hI0 hI1 _ _ _ _ (X.length + 1) rfl rfl (by go_num) (by go_num) (by rw [hI2]; omega) (by unfold maxLen; omega) (Nat.le_refl _) ?_; intro wt hownt hgt)
            have hbt : Below w9.heap.size w9 wt := (Below.refl _ _).grown hgt (Nat.le_refl _) (fun _ hq => by cases hq)
            rw [show (Value.int .i64 0 : Value).cells = #[.int .i64 0] from rfl, Nat.mul_one, toList_madeCells_one, ← trdR_nil] at hownt
            have h9lo : W.heap.size ≤ w9.heap.size := HC9.out.my.bel.size
            have hnf : ¬ b9.foot bb w9.heap.size := fun e => by have := HC9.out.my.bk.lt e; omega
            have hY : Cy W wt bb (X.length + 2 * K) b9 (lsK X q.price q.qty K) X (.slice ax X.length cx) w1.heap.size qb q rk (.slice a0 (sideO 1 (lieL X)).length c0) (.slice a1 (sideO 2 (lieL X)).length c1) (.slice fa (fsK X q.price q.qty K).length fc) w8.heap.size w8.heap.size wr.heap.size w9.heap.size (sideO 1 (lieL X)) (sideO 2 (lieL X)) (fsK X q.price q.qty K) w9.heap.size X.length (trdR X.length ((fsK X q.price q.qty K).take 0)) := ⟨HC9.out.below hbt, blk_below HR9.out hbt (Nat.le_refl _), owns_below HV09.out hbt (Nat.le_refl _), owns_below HV19.out hbt (Nat.le_refl _), owns_below HF9.out hbt (Nat.le_refl _), hownt, hnf, h9lo⟩
            have HY : Hid _ := hY
            have HPT : Hid (∀ (id : Int) (k : Nat), 0 ≤ trdF id ((fsK X q.price q.qty K).take k) ∧ trdF id ((fsK X q.price q.qty K).take k) ≤ q.qty ∧ 0 ≤ sumF ((fsK X q.price q.qty K).take k) ∧ sumF ((fsK X q.price q.qty K).take k) ≤ q.qty) := HD.out.part
            have hqm : q.qty ≤ 60000000 := HD.out.most
            have HWHO : Hid (∀ f ∈ fsK X q.price q.qty K, f.price = q.price ∧ 1 ≤ f.qty ∧ (∃ i : Nat, i < X.length ∧ f.buyer = (i : Int) + 1 ∧ (oAt X i).side = 1) ∧ ∃ j : Nat, j < X.length ∧ f.seller = (j : Int) + 1 ∧ (oAt X j).side = 2) := fun f hf => HD.out.who hf
            have HSUM : Hid (sumF (fsK X q.price q.qty K) = q.qty) := HD.out.sum
            have hfl : (fsK X q.price q.qty K).length ≤ 1000 := by
              have h1 := HC9.out.my.bk.steps
              have h2 : ∀ k, (fiter q.price ⟨[], lieL X, q.qty⟩ k).fs.length = k := fun k => by
                induction k with
                | zero => rfl
                | succ k ih =>
                  show ((fiter q.price ⟨[], lieL X, q.qty⟩ k).fs ++ [_]).length = _
                  rw [List.length_append, ih]; rfl
              have h3 := h2 K
              show (fiter q.price ⟨[], lieL X, q.qty⟩ K).fs.length ≤ 1000
              omega
            clear hbt hownt hgt h9lo hnf hY HC9 HR9 HV09 HV19 HF9 hiI hI0 hI1 hI2
            generalize w9.heap.size = tg at *
            generalize hfs : fsK X q.price q.qty K = fs at *
            have HFS : Hid (fsK X q.price q.qty K = fs) := hfs
            generalize hls : lsK X q.price q.qty K = LK at *
            have HLS : Hid (lsK X q.price q.qty K = LK) := hls
            generalize hz0 : sideO 1 (lieL X) = Z0 at *
            have HZ0 : Hid (sideO 1 (lieL X) = Z0) := hz0
            generalize hz1 : sideO 2 (lieL X) = Z1 at *
            have HZ1 : Hid (sideO 2 (lieL X) = Z1) := hz1
            generalize wr.heap.size = zf at *
            clear hfs hls hz0 hz1 HZ8 HWR
            go_loopw [14, 15, 16] (fun u14 u15 _ wr => ∃ k : Nat, k ≤ fs.length ∧ u15 = .int .i64 k ∧ u14 = .int .i64 (sumF (fs.take k)) ∧ Cy W wr bb (X.length + 2 * K) b9 LK X (.slice ax X.length cx) w1.heap.size qb q rk (.slice a0 Z0.length c0) (.slice a1 Z1.length c1) (.slice fa fs.length fc) w8.heap.size w8.heap.size zf tg Z0 Z1 fs tg X.length (trdR X.length (fs.take k))) (fun _ u15 _ _ => fs.length - (RowKit.intOf u15).toNat)
            case atStart => exact ⟨0, Nat.zero_le _, rfl, rfl, HY.out⟩
            case round =>
              obtain ⟨k, hk, rfl, rfl, hC⟩ := hrel
              clear HY
              have HY : Hid _ := hC
              by_cases hk1 : k < fs.length
              · have hlt : (k : Int) < (fs.length : Int) := by omega
                obtain ⟨g, cap', e, d0, d1, d2, d3⟩ := row_fil hC.fr hk1
                injection e with e1 _ e2
                subst e1 e2
                have HT : Hid (fs.take (k + 1) = fs.take k ++ [fAt fs k]) := fil_take hk1
                obtain ⟨w1', w2', ⟨i, hi, hib, his⟩, ⟨j, hj, hjs, hjj⟩⟩ := HWHO.out _ (fAt_in hk1)
                generalize fAt fs k = f at d0 d1 d2 d3 HT w1' w2' hib hjs
                obtain ⟨fbu, fse, fpr, fqt⟩ := f
                simp only at w1' w2' hib hjs d0 d1 d2 d3
                subst w1' hib hjs
                have HNE : Hid (i ≠ j) := fun e => by subst e; rw [his] at hjj; cases hjj
                clear hC
                go_upto_region 28 with fail
                have hb1 := bel1 wr (.cells #[.int .i64 ((i : Int) + 1), .int .i64 ((j : Int) + 1), .int .i64 q.price, .int .i64 fqt] 49)
                have hf1 := heap_alloc_new wr (.cells #[.int .i64 ((i : Int) + 1), .int .i64 ((j : Int) + 1), .int .i64 q.price, .int .i64 fqt] 49)
                generalize wr.alloc (.cells #[.int .i64 ((i : Int) + 1), .int .i64 ((j : Int) + 1), .int .i64 q.price, .int .i64 fqt] 49) = wf at hb1 hf1 ⊢
                have hYf := HY.out.below hb1
                generalize wr.heap.size = fb at *
                clear hb1 HY d0 d1 d2 d3
                obtain ⟨gx, cpx, e, _, s1, _⟩ := row_order hYf.cx.xs hi
                injection e with e1 _ e2
                subst e1 e2
                obtain ⟨gx2, cpx2, e, _, s2, _⟩ := row_order hYf.cx.xs hj
                injection e with e1 _ e2
                injection e1 with e1
                injection e1 with e1
                subst e1 e2
                rw [his] at s1
                rw [hjj] at s2
                have HYf : Hid _ := hYf
                have HFB : Hid (FBox wf fb ⟨(i : Int) + 1, (j : Int) + 1, q.price, fqt⟩) := hf1
                have b0 := blk_cell (j := 0) hf1 rfl
                have b1 := blk_cell (j := 1) hf1 rfl
                have b2 := blk_cell (j := 2) hf1 rfl
                have b3 := blk_cell (j := 3) hf1 rfl
                have p0 : wf.cell? ⟨qb, 0, none⟩ = some (.int .i64 q.price) := blk_cell (j := 0) hYf.cx.quo rfl
                have t2 : decide (fqt < 1) = false := decide_eq_false (by omega)
                have t3 : decide ((i : Int) + 1 < 1) = false := decide_eq_false (by omega)
                have t4 : decide ((i : Int) + 1 > (X.length : Int)) = false := decide_eq_false (by omega)
                have t5 : decide ((j : Int) + 1 < 1) = false := decide_eq_false (by omega)
                have t6 : decide ((j : Int) + 1 > (X.length : Int)) = false := decide_eq_false (by omega)
                have x1 : (0 : Int) ≤ (i : Int) := by omega
                have x2 : (i : Int) < (X.length : Int) := by omega
                have x3 : (0 : Int) ≤ (j : Int) := by omega
                have x4 : (j : Int) < (X.length : Int) := by omega
                have hwi : IntKind.i64.wrap (i : Int) = (i : Int) := IntWalk.i64_in _ (by omega)
                have hwj : IntKind.i64.wrap (j : Int) = (j : Int) := IntWalk.i64_in _ (by omega)
                clear hYf hf1
                go_upto_region 30 with fail
                clear t2 t3 t4 t5 t6 s1 s2 p0 b1 b2
                have hpt1 := HPT.out ((i : Int) + 1) k
                have hpt2 := HPT.out ((j : Int) + 1) k
                have hptn := HPT.out ((i : Int) + 1) (k + 1)
                have hsn : sumF (fs.take (k + 1)) = sumF (fs.take k) + fqt := by rw [HT.out, sumF_snoc]
                have ti : wf.cell? ⟨tg, i + 1, none⟩ = some (.int .i64 (trdF ((i : Int) + 1) (fs.take k))) := by
                  have := HYf.out.trAt (trdR_len _ _) (k := i + 1) (by omega)
                  rw [trdR_at _ (by omega)] at this
                  exact this
                have fi := HYf.out.trFree (i + 1)
                have y1 : (0 : Int) ≤ (i : Int) + 1 := by omega
                have y2 : (i : Int) + 1 < (X.length : Int) + 1 := by omega
                have y3 : ((i : Int) + 1).toNat = i + 1 := by omega
                have y4 : (0 : Int) ≤ (j : Int) + 1 := by omega
                have y5 : (j : Int) + 1 < (X.length : Int) + 1 := by omega
                have y6 : ((j : Int) + 1).toNat = j + 1 := by omega
                have wi : IntKind.i64.wrap (trdF ((i : Int) + 1) (fs.take k) + fqt) = trdF ((i : Int) + 1) (fs.take k) + fqt := IntWalk.i64_in _ (by omega)
                have wj : IntKind.i64.wrap (trdF ((j : Int) + 1) (fs.take k) + fqt) = trdF ((j : Int) + 1) (fs.take k) + fqt := IntWalk.i64_in _ (by omega)
                have ws : IntKind.i64.wrap (sumF (fs.take k) + fqt) = sumF (fs.take k) + fqt := IntWalk.i64_in _ (by omega)
                have HSN : Hid (sumF (fs.take (k + 1)) = sumF (fs.take k) + fqt) := hsn
                clear hsn hptn
                go_cut [] from 87 to 172 (fun wc => Cy W wc bb (X.length + 2 * K) b9 LK X (.slice (some ⟨gx, 0, none⟩) X.length cx) w1.heap.size qb q rk (.slice a0 Z0.length c0) (.slice a1 Z1.length c1) (.slice (some ⟨g, 0, none⟩) fs.length fc) w8.heap.size w8.heap.size zf tg Z0 Z1 fs tg X.length ((trdR X.length (fs.take k)).set (i + 1) (trdF ((i : Int) + 1) (fs.take k) + fqt)) ∧ FBox wc fb ⟨(i : Int) + 1, (j : Int) + 1, q.price, fqt⟩)
                case first =>
                  go_region
                  all_goals go_wp2_with fail
                  all_goals go_meet
                  all_goals exact ⟨(HYf.out.set (i + 1) _).drew, by unfold FBox; rw [cu_drew]; exact HYf.out.far HFB.out⟩
                case rest =>
                  obtain ⟨hYc, hFc⟩ := hcut
                  have HYc : Hid _ := hYc
                  have HFc : Hid _ := hFc
                  clear HYf HFB b0 b3 ti fi
                  have b1 := blk_cell (j := 1) hFc rfl
                  have b3 := blk_cell (j := 3) hFc rfl
                  have tj : wc.cell? ⟨tg, j + 1, none⟩ = some (.int .i64 (trdF ((j : Int) + 1) (fs.take k))) := by
                    have := hYc.trAt (by rw [List.length_set, trdR_len]) (k := j + 1) (by omega)
                    rw [List.getD_eq_getElem?_getD, List.getElem?_set_ne (by have := HNE.out; omega), ← List.getD_eq_getElem?_getD, trdR_at _ (by omega)] at this
                    exact this
                  have fj := hYc.trFree (j + 1)
                  clear hYc hFc
                  go_upto_region 31 with fail
                  go_cut [] from 87 to 172 (fun wd => Cy W wd bb (X.length + 2 * K) b9 LK X (.slice (some ⟨gx, 0, none⟩) X.length cx) w1.heap.size qb q rk (.slice a0 Z0.length c0) (.slice a1 Z1.length c1) (.slice (some ⟨g, 0, none⟩) fs.length fc) w8.heap.size w8.heap.size zf tg Z0 Z1 fs tg X.length (trdR X.length (fs.take (k + 1))) ∧ FBox wd fb ⟨(i : Int) + 1, (j : Int) + 1, q.price, fqt⟩)
                  case first =>
                    have hE := trdR_two (n := X.length) (i := i) (j := j) (fs := fs.take k) (f := ⟨(i : Int) + 1, (j : Int) + 1, q.price, fqt⟩) rfl rfl
                    rw [← HT.out] at hE
                    have HE : Hid _ := hE
                    clear hE
                    go_region
                    all_goals go_wp2_with fail
                    all_goals go_meet
                    all_goals exact ⟨by rw [← HE.out]; exact (HYc.out.set (j + 1) _).drew, by unfold FBox; rw [cu_drew]; exact HYc.out.far HFc.out⟩
                  case rest =>
                    obtain ⟨hYd, hFd⟩ := hcut
                    have HYd : Hid _ := hYd
                    clear HYc HFc b1 b3 tj fj hYd
                    have b3 := blk_cell (j := 3) hFd rfl
                    clear hFd
                    go_wp2_with fail
                    go_roundw
                    case rel => exact ⟨k + 1, hk1, by go_num, by rw [HSN.out], HYd.out⟩
                    case measure => simp [RowKit.intOf]; omega
              · obtain rfl : k = fs.length := by omega
                have hlt : ¬ (fs.length : Int) < (fs.length : Int) := by omega
                rw [List.take_length] at hC ⊢
                rw [HSUM.out]
                have HV : Hid _ := hC
                have p1 : wr.cell? ⟨qb, 1, none⟩ = some (.int .i64 q.qty) := blk_cell (j := 1) hC.cx.quo rfl
                have HFAIR0 : Hid (∀ k, k < Z0.length → 0 ≤ trdF (oAt Z0 k).id fs ∧ trdF (oAt Z0 k).id fs ≤ (oAt Z0 k).qty ∧ (0 < trdF (oAt Z0 k).id fs → willB q.price (oAt Z0 k) = true ∧ doneB fs (Z0.take k) = false)) := by
                  rw [← HZ0.out, ← HFS.out]; exact fun k hk => HD.out.fair (Or.inl rfl) hk
                have HFAIR1 : Hid (∀ k, k < Z1.length → 0 ≤ trdF (oAt Z1 k).id fs ∧ trdF (oAt Z1 k).id fs ≤ (oAt Z1 k).qty ∧ (0 < trdF (oAt Z1 k).id fs → willB q.price (oAt Z1 k) = true ∧ doneB fs (Z1.take k) = false)) := by
                  rw [← HZ1.out, ← HFS.out]; exact fun k hk => HD.out.fair (Or.inr rfl) hk
                have HAT0 : Hid (∀ k, k < Z0.length → (∃ i : Nat, i < X.length ∧ (oAt Z0 k).id = (i : Int) + 1) ∧ (oAt Z0 k).side = 1 ∧ (oAt Z0 k).qty ≤ 1000000) := by
                  rw [← HZ0.out]
                  exact fun k hk => by
                    obtain ⟨h1, h2⟩ := sideO_mem.1 (oAt_in hk)
                    obtain ⟨i, hi, hi1, _⟩ := lie_at HS.out h1
                    exact ⟨⟨i, hi, hi1⟩, h2, (HD.out.au.lok.ok _ h1).2.2.2⟩
                have HAT1 : Hid (∀ k, k < Z1.length → (∃ i : Nat, i < X.length ∧ (oAt Z1 k).id = (i : Int) + 1) ∧ (oAt Z1 k).side = 2 ∧ (oAt Z1 k).qty ≤ 1000000) := by
                  rw [← HZ1.out]
                  exact fun k hk => by
                    obtain ⟨h1, h2⟩ := sideO_mem.1 (oAt_in hk)
                    obtain ⟨i, hi, hi1, _⟩ := lie_at HS.out h1
                    exact ⟨⟨i, hi, hi1⟩, h2, (HD.out.au.lok.ok _ h1).2.2.2⟩
                have HNONE : Hid (∀ x y, x ∈ sideO 1 LK → y ∈ sideO 2 LK → x.kind ≠ 2 ∧ y.kind ≠ 2 ∧ x.price < y.price) := by
                  rw [← HLS.out]; exact fun x y hx hy => HD.out.none hx hy
                have hz0l : Z0.length ≤ 60 := by rw [← HZ0.out]; exact Nat.le_trans (sideO_len _ _) (by show (X.map lieO).length ≤ 60; rw [List.length_map]; exact hxl)
                have hz1l : Z1.length ≤ 60 := by rw [← HZ1.out]; exact Nat.le_trans (sideO_len _ _) (by show (X.map lieO).length ≤ 60; rw [List.length_map]; exact hxl)
                clear hC HY HWHO HSUM HPT HD HFS HLS HZ0 HZ1 hk hk1
                go_wp2_with fail
                clear p1
                obtain ⟨V, hV⟩ : ∃ V, V = wr := ⟨_, rfl⟩
                subst hV
                go_loopw [17, 18, 19, 20, 21] (fun u17 _ _ _ _ w4 => ∃ s : Nat, s ≤ 2 ∧ u17 = .int .i64 s ∧ Below V.heap.size V w4) (fun u17 _ _ _ _ _ => 2 - (RowKit.intOf u17).toNat)
                case atStart => exact ⟨0, by omega, rfl, Below.refl _ _⟩
                case round =>
                  obtain ⟨s, hs, rfl, hb4⟩ := hrel
                  have HB4 : Hid (Below V.heap.size V wr) := hb4
                  clear hb4
                  have hs3 : s = 0 ∨ s = 1 ∨ s = 2 := by omega
                  rcases hs3 with rfl | rfl | rfl
                  · clear hs
                    go_wp2_with fail
                    go_loopw [18, 19, 20, 21] (fun u18 u19 _ _ wi => ∃ k : Nat, k ≤ Z0.length ∧ u19 = .int .i64 k ∧ u18 = .bool (doneB fs (Z0.take k)) ∧ Below V.heap.size V wi) (fun _ u19 _ _ _ => Z0.length - (RowKit.intOf u19).toNat)
                    case atStart => exact ⟨0, Nat.zero_le _, rfl, rfl, HB4.out⟩
                    case round =>
                      obtain ⟨k, hk, rfl, rfl, hb5⟩ := hrel
                      have hY5 := HV.out.below hb5
                      have rc : wr.cell? ⟨rk, 0, none⟩ = some (.slice a0 Z0.length c0) := blk_cell (j := 0) hY5.rb rfl
                      clear HB4
                      by_cases hk1 : k < Z0.length
                      · have hlt : (k : Int) < (Z0.length : Int) := by omega
                        obtain ⟨g2, cap2, e, d0, d1, d2, d3, d4⟩ := row_order hY5.r0 hk1
                        injection e with e1 _ e2
                        subst e1 e2
                        have hfair := HFAIR0.out k hk1
                        obtain ⟨⟨i, hi, hid⟩, hsd, hqt⟩ := HAT0.out k hk1
                        have hdn : Z0.take (k + 1) = Z0.take k ++ [oAt Z0 k] := by rw [List.take_succ_eq_append_getElem hk1, oAt_eq hk1]
                        have HDN : Hid (doneB fs (Z0.take (k + 1)) = (doneB fs (Z0.take k) || decide (trdF (oAt Z0 k).id fs < (oAt Z0 k).qty))) := by show _ = _; rw [hdn, doneB_snoc]
                        have HY5 : Hid _ := hY5
                        have HB5 : Hid (Below V.heap.size V wr) := hb5
                        clear hdn hY5 hb5
                        generalize oAt Z0 k = o at d0 d1 d2 d3 d4 hfair hid hsd hqt HDN
                        generalize doneB fs (Z0.take k) = dn at hfair HDN ⊢
                        obtain ⟨oid, osd, okd, opr, oqt⟩ := o
                        simp only at d0 d1 d2 d3 d4 hfair hid hsd hqt HDN
                        subst hid hsd
                        go_upto_region 43 with fail
                        have hb6 := bel1 wr (.cells #[.int .i64 ((i : Int) + 1), .int .i64 1, .int .i64 okd, .int .i64 opr, .int .i64 oqt] 40)
                        have ho6 := heap_alloc_new wr (.cells #[.int .i64 ((i : Int) + 1), .int .i64 1, .int .i64 okd, .int .i64 opr, .int .i64 oqt] 40)
                        generalize wr.alloc (.cells #[.int .i64 ((i : Int) + 1), .int .i64 1, .int .i64 okd, .int .i64 opr, .int .i64 oqt] 40) = w6 at hb6 ho6 ⊢
                        have hY6 := HY5.out.below hb6
                        have HB6 : Hid (Below V.heap.size V w6) := bel_then HB5.out hb6
                        have HO6 : Hid (OrdAt w6 wr.heap.size ⟨(i : Int) + 1, 1, okd, opr, oqt⟩) := ho6
                        generalize wr.heap.size = ob at *
                        have o0 := blk_cell (j := 0) ho6 rfl
                        have o1 := blk_cell (j := 1) ho6 rfl
                        have o2 := blk_cell (j := 2) ho6 rfl
                        have o3 := blk_cell (j := 3) ho6 rfl
                        have o4 := blk_cell (j := 4) ho6 rfl
                        have p0 : w6.cell? ⟨qb, 0, none⟩ = some (.int .i64 q.price) := blk_cell (j := 0) hY6.cx.quo rfl
                        have ti : w6.cell? ⟨tg, i + 1, none⟩ = some (.int .i64 (trdF ((i : Int) + 1) fs)) := by
                          have := hY6.trAt (trdR_len _ _) (k := i + 1) (by omega)
                          rw [trdR_at _ (by omega)] at this
                          exact this
                        have y1 : (0 : Int) ≤ (i : Int) + 1 := by omega
                        have y2 : (i : Int) + 1 < (X.length : Int) + 1 := by omega
                        have y3 : ((i : Int) + 1).toNat = i + 1 := by omega
                        clear hb6 ho6 hY6 HY5 HB5 d0 d1 d2 d3 d4 rc
                        generalize trdF ((i : Int) + 1) fs = tv at hfair HDN ti
                        obtain ⟨hf1, hf2, hf3⟩ := hfair
                        go_upto_region 44 with fail
                        clear ti
                        have t1 : decide (tv > oqt) = false := decide_eq_false (by omega)
                        go_cut [221] from 185 to 228 (fun u wc => u = .bool false ∧ Below w6.heap.size w6 wc)
                        case first =>
                          by_cases htv : 0 < tv
                          · have t2 : decide (tv > 0) = true := decide_eq_true htv
                            obtain ⟨hw1, hw2⟩ := hf3 htv
                            have HW1 : Hid _ := hw1
                            subst hw2
                            clear hw1 hf3
                            go_wp2_with fail
                            refine (kpWilling ⟨(i : Int) + 1, 1, okd, opr, oqt⟩ q.price w6 (Or.inl rfl)).mono ?_
                            rintro e w7 ⟨rfl, hb7⟩
                            rw [HW1.out]
                            have HB7 : Hid _ := hb7
                            clear hb7
                            go_wp2_with fail
                            go_meet
                            exact ⟨rfl, HB7.out⟩
                          · have t2 : decide (tv > 0) = false := decide_eq_false htv
                            clear hf3
                            go_wp2_with fail
                            go_meet
                            exact ⟨rfl, Below.refl _ _⟩
                        case rest =>
                          obtain ⟨rfl, hbc⟩ := hcut
                          have o4' := blk_cell (j := 4) (blk_below HO6.out hbc (Nat.le_refl _)) rfl
                          have HBc : Hid (Below V.heap.size V wc) := bel_then HB6.out hbc
                          clear hbc o0 o1 o2 o3 o4 p0 hf3 HO6 HB6 t1
                          cases dn with
                          | true =>
                            have HD2 : Hid (doneB fs (Z0.take (k + 1)) = true) := by have := HDN.out; rw [Bool.true_or] at this; exact this
                            go_wp2_with fail
                            go_roundw
                            case rel => exact ⟨k + 1, hk1, by go_num, by rw [HD2.out], HBc.out⟩
                            case measure => simp [RowKit.intOf]; omega
                          | false =>
                            have HD2 : Hid (doneB fs (Z0.take (k + 1)) = decide (tv < oqt)) := by have := HDN.out; rw [Bool.false_or] at this; exact this
                            go_wp2_with fail
                            go_roundw
                            case rel => exact ⟨k + 1, hk1, by go_num, by rw [HD2.out], HBc.out⟩
                            case measure => simp [RowKit.intOf]; omega
                      · have hlt : ¬ (k : Int) < (Z0.length : Int) := by omega
                        have HB5 : Hid (Below V.heap.size V wr) := hb5
                        clear hY5 hb5
                        go_wp2_with fail
                        go_roundw
                        case rel => exact ⟨1, by omega, rfl, HB5.out⟩
                        case measure => simp [RowKit.intOf]
                  · clear hs
                    go_wp2_with fail
                    go_loopw [18, 19, 20, 21] (fun u18 u19 _ _ wi => ∃ k : Nat, k ≤ Z1.length ∧ u19 = .int .i64 k ∧ u18 = .bool (doneB fs (Z1.take k)) ∧ Below V.heap.size V wi) (fun _ u19 _ _ _ => Z1.length - (RowKit.intOf u19).toNat)
                    case atStart => exact ⟨0, Nat.zero_le _, rfl, rfl, HB4.out⟩
                    case round =>
                      obtain ⟨k, hk, rfl, rfl, hb5⟩ := hrel
                      have hY5 := HV.out.below hb5
                      have rc : wr.cell? ⟨rk, 1, none⟩ = some (.slice a1 Z1.length c1) := blk_cell (j := 1) hY5.rb rfl
                      clear HB4
                      by_cases hk1 : k < Z1.length
                      · have hlt : (k : Int) < (Z1.length : Int) := by omega
                        obtain ⟨g2, cap2, e, d0, d1, d2, d3, d4⟩ := row_order hY5.r1 hk1
                        injection e with e1 _ e2
                        subst e1 e2
                        have hfair := HFAIR1.out k hk1
                        obtain ⟨⟨i, hi, hid⟩, hsd, hqt⟩ := HAT1.out k hk1
                        have hdn : Z1.take (k + 1) = Z1.take k ++ [oAt Z1 k] := by rw [List.take_succ_eq_append_getElem hk1, oAt_eq hk1]
                        have HDN : Hid (doneB fs (Z1.take (k + 1)) = (doneB fs (Z1.take k) || decide (trdF (oAt Z1 k).id fs < (oAt Z1 k).qty))) := by show _ = _; rw [hdn, doneB_snoc]
                        have HY5 : Hid _ := hY5
                        have HB5 : Hid (Below V.heap.size V wr) := hb5
                        clear hdn hY5 hb5
                        generalize oAt Z1 k = o at d0 d1 d2 d3 d4 hfair hid hsd hqt HDN
                        generalize doneB fs (Z1.take k) = dn at hfair HDN ⊢
                        obtain ⟨oid, osd, okd, opr, oqt⟩ := o
                        simp only at d0 d1 d2 d3 d4 hfair hid hsd hqt HDN
                        subst hid hsd
                        go_upto_region 43 with fail
                        have hb6 := bel1 wr (.cells #[.int .i64 ((i : Int) + 1), .int .i64 2, .int .i64 okd, .int .i64 opr, .int .i64 oqt] 40)
                        have ho6 := heap_alloc_new wr (.cells #[.int .i64 ((i : Int) + 1), .int .i64 2, .int .i64 okd, .int .i64 opr, .int .i64 oqt] 40)
                        generalize wr.alloc (.cells #[.int .i64 ((i : Int) + 1), .int .i64 2, .int .i64 okd, .int .i64 opr, .int .i64 oqt] 40) = w6 at hb6 ho6 ⊢
                        have hY6 := HY5.out.below hb6
                        have HB6 : Hid (Below V.heap.size V w6) := bel_then HB5.out hb6
                        have HO6 : Hid (OrdAt w6 wr.heap.size ⟨(i : Int) + 1, 2, okd, opr, oqt⟩) := ho6
                        generalize wr.heap.size = ob at *
                        have o0 := blk_cell (j := 0) ho6 rfl
                        have o1 := blk_cell (j := 1) ho6 rfl
                        have o2 := blk_cell (j := 2) ho6 rfl
                        have o3 := blk_cell (j := 3) ho6 rfl
                        have o4 := blk_cell (j := 4) ho6 rfl
                        have p0 : w6.cell? ⟨qb, 0, none⟩ = some (.int .i64 q.price) := blk_cell (j := 0) hY6.cx.quo rfl
                        have ti : w6.cell? ⟨tg, i + 1, none⟩ = some (.int .i64 (trdF ((i : Int) + 1) fs)) := by
                          have := hY6.trAt (trdR_len _ _) (k := i + 1) (by omega)
                          rw [trdR_at _ (by omega)] at this
                          exact this
                        have y1 : (0 : Int) ≤ (i : Int) + 1 := by omega
                        have y2 : (i : Int) + 1 < (X.length : Int) + 1 := by omega
                        have y3 : ((i : Int) + 1).toNat = i + 1 := by omega
                        clear hb6 ho6 hY6 HY5 HB5 d0 d1 d2 d3 d4 rc
                        generalize trdF ((i : Int) + 1) fs = tv at hfair HDN ti
                        obtain ⟨hf1, hf2, hf3⟩ := hfair
                        go_upto_region 44 with fail
                        clear ti
                        have t1 : decide (tv > oqt) = false := decide_eq_false (by omega)
                        go_cut [221] from 185 to 228 (fun u wc => u = .bool false ∧ Below w6.heap.size w6 wc)
                        case first =>
                          by_cases htv : 0 < tv
                          · have t2 : decide (tv > 0) = true := decide_eq_true htv
                            obtain ⟨hw1, hw2⟩ := hf3 htv
                            have HW1 : Hid _ := hw1
                            subst hw2
                            clear hw1 hf3
                            go_wp2_with fail
                            refine (kpWilling ⟨(i : Int) + 1, 2, okd, opr, oqt⟩ q.price w6 (Or.inr rfl)).mono ?_
                            rintro e w7 ⟨rfl, hb7⟩
                            rw [HW1.out]
                            have HB7 : Hid _ := hb7
                            clear hb7
                            go_wp2_with fail
                            go_meet
                            exact ⟨rfl, HB7.out⟩
                          · have t2 : decide (tv > 0) = false := decide_eq_false htv
                            clear hf3
                            go_wp2_with fail
                            go_meet
                            exact ⟨rfl, Below.refl _ _⟩
                        case rest =>
                          obtain ⟨rfl, hbc⟩ := hcut
                          have o4' := blk_cell (j := 4) (blk_below HO6.out hbc (Nat.le_refl _)) rfl
                          have HBc : Hid (Below V.heap.size V wc) := bel_then HB6.out hbc
                          clear hbc o0 o1 o2 o3 o4 p0 hf3 HO6 HB6 t1
                          cases dn with
                          | true =>
                            have HD2 : Hid (doneB fs (Z1.take (k + 1)) = true) := by have := HDN.out; rw [Bool.true_or] at this; exact this
                            go_wp2_with fail
                            go_roundw
                            case rel => exact ⟨k + 1, hk1, by go_num, by rw [HD2.out], HBc.out⟩
                            case measure => simp [RowKit.intOf]; omega
                          | false =>
                            have HD2 : Hid (doneB fs (Z1.take (k + 1)) = decide (tv < oqt)) := by have := HDN.out; rw [Bool.false_or] at this; exact this
                            go_wp2_with fail
                            go_roundw
                            case rel => exact ⟨k + 1, hk1, by go_num, by rw [HD2.out], HBc.out⟩
                            case measure => simp [RowKit.intOf]; omega
                      · have hlt : ¬ (k : Int) < (Z1.length : Int) := by omega
                        have HB5 : Hid (Below V.heap.size V wr) := hb5
                        clear hY5 hb5
                        go_wp2_with fail
                        go_roundw
                        case rel => exact ⟨2, by omega, rfl, HB5.out⟩
                        case measure => simp [RowKit.intOf]
                  · clear hs
                    go_wp2_with fail
                    refine (pbSideOf bb _ 0 b9 wr (HV.out.below HB4.out).cx.my.bk (by decide) 1 rfl).mono ?_
                    rintro e w5 ⟨v5, rfl, hrow5, hb5⟩
                    have hS5 : (b9.S 0).map Ly.o = sideO 1 LK := HV.out.cx.lnk.side 0 (by decide)
                    rw [hS5, show (b9.S 0).length = (sideO 1 LK).length by rw [← hS5, List.length_map]] at hrow5
                    obtain ⟨aa, ac, rfl, _, _⟩ := owns_shape hrow5
                    have HB5 : Hid (Below V.heap.size V w5) := bel_then HB4.out hb5
                    have HR5 : Hid _ := hrow5
                    clear hS5 hrow5 hb5 HB4
                    go_wp2_with fail
                    refine (pbSideOf bb _ 1 b9 w5 (HV.out.below HB5.out).cx.my.bk (by decide) 2 rfl).mono ?_
                    rintro e w6 ⟨v6, rfl, hrow6, hb6⟩
                    have hS6 : (b9.S 1).map Ly.o = sideO 2 LK := HV.out.cx.lnk.side 1 (by decide)
                    rw [hS6, show (b9.S 1).length = (sideO 2 LK).length by rw [← hS6, List.length_map]] at hrow6
                    obtain ⟨ba, bc, rfl, _, _⟩ := owns_shape hrow6
                    have HB6 : Hid (Below V.heap.size V w6) := bel_then HB5.out hb6
                    have HR6 : Hid _ := owns_below HR5.out hb6 (Nat.le_refl _)
                    have HT6 : Hid _ := hrow6
                    have hl6 : (sideO 1 LK).length ≤ 100 := Nat.le_trans (sideO_len _ _) (lnk_few HV.out.cx.my.bk.ok HV.out.cx.lnk)
                    have hm6 : (sideO 2 LK).length ≤ 100 := Nat.le_trans (sideO_len _ _) (lnk_few HV.out.cx.my.bk.ok HV.out.cx.lnk)
                    have HBV : Hid (Below w.heap.size w V) := bel_then HBA.out HV.out.cx.my.bel
                    clear hS6 hrow6 hb6 HB5 HR5 HFAIR0 HFAIR1 HAT0 HAT1 HV
                    generalize sideO 1 LK = P1 at *
                    generalize sideO 2 LK = P2 at *
                    go_wp2_with fail
                    go_loopw [27, 29, 247] (fun _ _ u247 wr => ∃ i : Nat, i ≤ P1.length ∧ u247 = .int .i64 i ∧ Below w6.heap.size w6 wr) (fun _ _ u247 _ => P1.length - (RowKit.intOf u247).toNat)
                    case atStart => exact ⟨0, Nat.zero_le _, rfl, Below.refl _ _⟩
                    case round =>
                      obtain ⟨i, hi, rfl, hb7⟩ := hrel
                      have HB7 : Hid (Below w6.heap.size w6 wr) := hb7
                      by_cases hi1 : i < P1.length
                      · have hlt : (i : Int) < (P1.length : Int) := by omega
                        obtain ⟨g7, cap7, e, d0, d1, d2, d3, d4⟩ := row_order (owns_below HR6.out hb7 (Nat.le_refl _)) hi1
                        injection e with e1 _ e2
                        subst e1 e2
                        have HM1 : Hid (oAt P1 i ∈ P1) := oAt_in hi1
                        generalize oAt P1 i = o at d0 d1 d2 d3 d4 HM1
                        clear hb7
                        go_upto_region 54 with fail
                        have hb8 := bel1 wr (.cells #[.int .i64 o.id, .int .i64 o.side, .int .i64 o.kind, .int .i64 o.price, .int .i64 o.qty] 40)
                        have ho8 := heap_alloc_new wr (.cells #[.int .i64 o.id, .int .i64 o.side, .int .i64 o.kind, .int .i64 o.price, .int .i64 o.qty] 40)
                        generalize wr.alloc (.cells #[.int .i64 o.id, .int .i64 o.side, .int .i64 o.kind, .int .i64 o.price, .int .i64 o.qty] 40) = w8' at hb8 ho8 ⊢
                        have HB8 : Hid (Below w6.heap.size w6 w8') := bel_then HB7.out hb8
                        have HO8 : Hid (OrdAt w8' wr.heap.size o) := ho8
                        generalize wr.heap.size = ob at *
                        clear hb8 ho8 HB7 d0 d1 d2 d3 d4
                        go_wp2_with fail
                        go_loopw [29, 253] (fun _ u253 wr => ∃ j : Nat, j ≤ P2.length ∧ u253 = .int .i64 j ∧ Below w8'.heap.size w8' wr) (fun _ u253 _ => P2.length - (RowKit.intOf u253).toNat)
                        case atStart => exact ⟨0, Nat.zero_le _, rfl, Below.refl _ _⟩
                        case round =>
                          obtain ⟨j, hj, rfl, hb9⟩ := hrel
                          have HB9 : Hid (Below w8'.heap.size w8' wr) := hb9
                          by_cases hj1 : j < P2.length
                          · have hlt2 : (j : Int) < (P2.length : Int) := by omega
                            have hbq := bel_then HB8.out hb9
                            obtain ⟨g9, cap9, e, d0, d1, d2, d3, d4⟩ := row_order (owns_below HT6.out hbq (Nat.le_refl _)) hj1
                            injection e with e1 _ e2
                            subst e1 e2
                            have hx := blk_below HO8.out hb9 (Nat.le_refl _)
                            obtain ⟨n1, n2, n3⟩ := HNONE.out o (oAt P2 j) HM1.out (oAt_in hj1)
                            generalize oAt P2 j = y at d0 d1 d2 d3 d4 n1 n2 n3
                            have HX : Hid (OrdAt wr ob o) := hx
                            clear hb9 hbq hx
                            go_upto_region 57 with fail
                            have hb10 := bel1 wr (.cells #[.int .i64 y.id, .int .i64 y.side, .int .i64 y.kind, .int .i64 y.price, .int .i64 y.qty] 40)
                            have hy10 := heap_alloc_new wr (.cells #[.int .i64 y.id, .int .i64 y.side, .int .i64 y.kind, .int .i64 y.price, .int .i64 y.qty] 40)
                            generalize wr.alloc (.cells #[.int .i64 y.id, .int .i64 y.side, .int .i64 y.kind, .int .i64 y.price, .int .i64 y.qty] 40) = w10 at hb10 hy10 ⊢
                            have hx10 := blk_below HX.out hb10 (Nat.le_refl _)
                            have HB10 : Hid (Below w8'.heap.size w8' w10) := bel_then HB9.out hb10
                            generalize wr.heap.size = yb at *
                            have x2 := blk_cell (j := 2) hx10 rfl
                            have x3 := blk_cell (j := 3) hx10 rfl
                            have y2 := blk_cell (j := 2) hy10 rfl
                            have y3 := blk_cell (j := 3) hy10 rfl
                            have t1 : (o.kind == 2) = false := beq_eq_false_iff_ne.2 n1
                            have t2 : (y.kind == 2) = false := beq_eq_false_iff_ne.2 n2
                            have t3 : decide (o.price ≥ y.price) = false := decide_eq_false (by omega)
                            clear hb10 hy10 hx10 HX HB9 d0 d1 d2 d3 d4 n1 n2 n3
                            go_wp2_with fail
                            go_roundw
                            case rel => exact ⟨j + 1, hj1, by go_num, HB10.out⟩
                            case measure => simp [RowKit.intOf]; omega
                          · have hlt2 : ¬ (j : Int) < (P2.length : Int) := by omega
                            clear hb9
                            go_wp2_with fail
                            go_roundw
                            case rel => exact ⟨i + 1, hi1, by go_num, bel_then HB8.out HB9.out⟩
                            case measure => simp [RowKit.intOf]; omega
                      · have hlt : ¬ (i : Int) < (P1.length : Int) := by omega
                        clear hb7
                        go_wp2_with fail
                        go_ret
                        exact ⟨rfl, bel_then HBV.out (bel_then HB6.out HB7.out)⟩
end Go.Proofs.Ytcoijhofliilmab.crossFair
