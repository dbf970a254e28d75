/-
  What the document's Fills (8.1) returns, over this seat's translation. Conditions stand in each theorem: where the Book lies, that its orders may lie, and how many lots are willing.
-/
import Derived.Test.YtcoijhofliilmabGreatDoorGN
import Derived.Deep.RegionWith
import Derived.Maps.AppendAt
import Derived.Lib.MinMax
namespace Go.Proofs.YtcoijhofliilmabGreatDoor
open Go.RowKit

theorem Tryz.infoFi : (Tryz.prog.info? 59).map (fun i => (i.zero, i.size, i.bytes)) = some (some (.agg #[.int .i64 0, .int .i64 0, .int .i64 0, .int .i64 0]), 4, 32) := by kernel_rfl
theorem LOk.prices {L : List Ord} (h : LOk L) : ∀ o ∈ L, -1000000000 ≤ o.price ∧ o.price ≤ 1000000000 := fun o ho => by have := h.ok o ho; omega
theorem LOk.qtys {L : List Ord} (h : LOk L) : ∀ k, (oAt L k).qty ≤ 1000000 := fun k => by
  by_cases hk : k < L.length
  · exact (h.ok _ (oAt_in hk)).2.2.2
  · have : oAt L k = Ord.none_ := by simp [oAt, hk]
    rw [this]; decide
/-- Cut of lots that an order has -/
theorem bkCut_yes (base bb : Nat) (v : Value) (l : List Ord) (o : Ord) (n : Int) (w : World) (h : BookIs w base bb v l) (hl : l.length ≤ 100) (hbs : base ≤ w.heap.size) (hok : LOk l) (ho : o ∈ l) (hn : 1 ≤ n ∧ n ≤ o.qty) :
    Calls Tryz.prog 23 #[.pointer (some ⟨bb, 0, none⟩), .int .i64 o.id, .int .i64 n] w fun e w' => e = .returned (.int .i64 0) ∧ Out (fun j => j = bb) w w' ∧ ∃ v', BookIs w' base bb v' (lessF o.id n l) := by
  refine (bkCut base bb v l o.id n w h hl hbs hok.qtys).mono ?_
  obtain ⟨k0, hk0, h01, h02⟩ := idx_of hok ho
  obtain ⟨c1, c2⟩ := cut_is hok ho hn
  rintro e w' ⟨hO, v', ⟨h1, _, _⟩ | ⟨k, hk, h1, h2, ⟨h3, _, _⟩ | ⟨h3, he, hB⟩⟩⟩
  · omega
  · obtain rfl : k = k0 := by omega
    rw [h02] at h3
    simp [hn.1, hn.2] at h3
  · obtain rfl : k = k0 := by omega
    refine ⟨he, hO, v', ?_⟩
    have hne : ¬ idxO o.id l = -1 := by omega
    have hkk : (idxO o.id l).toNat = k := by omega
    unfold cutM at c1
    rw [if_neg hne, hkk, if_neg (by rw [h3]; decide)] at c1
    rw [← c1]; exact hB

/-- a fill laid onto the row: the Book and the two boxes stay -/
theorem cr_pushed {w wc w6 : World} {base bb xb yb n : Nat} {vb u : Value} {xs : List Value} {L : List Ord} {x y : Ord} {obj : Obj} (hr : wc.ownsRow w.heap.size 59 4 u n xs) (hb : BookIs wc base bb vb L) (hx : DBox wc xb x) (hy : DBox wc yb y) (ho : Out (fun j => j = bb) w wc) (hg : (wc.alloc obj).grownBy w6 u.ownBlock) : BookIs w6 base bb vb L ∧ DBox w6 xb x ∧ DBox w6 yb y ∧ Out (fun j => j = bb) w w6 := by
  have h6 : Out (fun j => u.ownBlock = some j) wc w6 := out_then (out_alloc (Out.refl _ _) _) (Out.of_grown hg (fun k hk => hk))
  exact ⟨cr_book hb h6 (owns_type hr hb.box (by decide)) (fun k hk => owns_types hb.all hr (by decide) hk), blk_out hx h6 (owns_type hr hx (by decide)), blk_out hy h6 (owns_type hr hy (by decide)), ho.trans h6 (fun k hk => Or.inr (hr.lt k hk).1)⟩

set_option maxRecDepth 4000 in
set_option maxHeartbeats 4000000 in
theorem bkFills_no (base bb : Nat) (v : Value) (l : List Ord) (p q : Int) (w : World) (h : BookIs w base bb v l) (hl : l.length ≤ 100) (hok : LOk l) (hno : ¬ (1 ≤ q ∧ q ≤ min (wilL 1 p l) (wilL 2 p l))) :
    Calls Tryz.prog 6 #[.pointer (some ⟨bb, 0, none⟩), .int .i64 p, .int .i64 q] w fun e w' => e = .returned (.tuple #[.slice none 0 0, .int .i64 2]) ∧ Below w.heap.size w w' := by
  have HA : Hid (BookIs w base bb v l) := h
  have HK : Hid (LOk l) := hok
  have HN : Hid ((decide (1 ≤ q) && decide (q ≤ min (wilL 1 p l) (wilL 2 p l))) = false) := by
    show _ = false
    rw [Bool.and_eq_false_iff, decide_eq_false_iff_not, decide_eq_false_iff_not]; omega
  clear h hok hno
  go_enter Tryz.func6, Tryz.ntmps6
  go_wp2_with fail
  refine (bkWil1 base bb v l p w HA.out hl HK.out).mono ?_
  rintro e w1 ⟨rfl, hb1⟩
  have HB1 : Hid (Below w.heap.size w w1) := hb1
  clear hb1
  go_wp2_with fail
  refine (bkWil2 base bb v l p w1 (HA.out.below HB1.out (Nat.le_refl _)) hl HK.out).mono ?_
  rintro e w2 ⟨rfl, hb2⟩
  have HB2 : Hid (Below w.heap.size w w2) := bel_then HB1.out hb2
  clear hb2
  go_wp2_with fail
  refine (bkIn q 1 (min (wilL 1 p l) (wilL 2 p l)) w2).mono ?_
  rintro e w3 ⟨rfl, hw⟩
  subst hw
  rw [HN.out]
  go_wp2_with fail
  go_ret2
  exact ⟨rfl, HB2.out⟩

set_option maxRecDepth 4000 in
set_option maxHeartbeats 8000000 in
theorem bkFills (base bb : Nat) (v : Value) (l : List Ord) (p q : Int) (w : World) (h : BookIs w base bb v l) (hbs : base ≤ w.heap.size) (hl : l.length ≤ 100) (hok : LOk l) (hq : 1 ≤ q ∧ q ≤ min (wilL 1 p l) (wilL 2 p l)) :
    Calls Tryz.prog 6 #[.pointer (some ⟨bb, 0, none⟩), .int .i64 p, .int .i64 q] w fun e w' => ∃ (K : Nat) (vf v' : Value), e = .returned (.tuple #[vf, .int .i64 0]) ∧ (fiter p ⟨[], l, q⟩ K).q = 0 ∧ (∀ j, j < K → 0 < (fiter p ⟨[], l, q⟩ j).q) ∧ w'.ownsRow w.heap.size 59 4 vf (fiter p ⟨[], l, q⟩ K).fs.length (fV (fiter p ⟨[], l, q⟩ K).fs) ∧ BookIs w' base bb v' (fiter p ⟨[], l, q⟩ K).L ∧ Out (fun j => j = bb) w w' := by
  obtain ⟨iF, hiF, hF0, hF1, hF2⟩ := info_parts Tryz.infoFi
  have HA : Hid (BookIs w base bb v l) := h
  have HK : Hid (LOk l) := hok
  have HY : Hid ((decide (1 ≤ q) && decide (q ≤ min (wilL 1 p l) (wilL 2 p l))) = true) := by
    show _ = true
    rw [Bool.and_eq_true, decide_eq_true_iff, decide_eq_true_iff]; exact hq
  have HF0 : Hid (FOk p ⟨[], l, q⟩) := ⟨hok, by show 0 ≤ q; omega, by show q ≤ wilL 1 p l; omega, by show q ≤ wilL 2 p l; omega⟩
  have hqs : q ≤ 100000000 := by have := wilL_in 1 p hok; omega
  have hlb : bb < w.heap.size := lt_of_block h.box
  clear h hok
  go_enter Tryz.func6, Tryz.ntmps6
  go_wp2_with fail
  refine (bkWil1 base bb v l p w HA.out hl HK.out).mono ?_
  rintro e w1 ⟨rfl, hb1⟩
  have HB1 : Hid (Below w.heap.size w w1) := hb1
  clear hb1
  go_wp2_with fail
  refine (bkWil2 base bb v l p w1 (HA.out.below HB1.out (Nat.le_refl _)) hl HK.out).mono ?_
  rintro e w2 ⟨rfl, hb2⟩
  have HB2 : Hid (Below w.heap.size w w2) := bel_then HB1.out hb2
  clear hb2
  go_wp2_with fail
  refine (bkIn q 1 (min (wilL 1 p l) (wilL 2 p l)) w2).mono ?_
  rintro e w3 ⟨rfl, hw⟩
  subst hw
  rw [HY.out]
  go_wp2_with fail
  go_loopw [2, 8, 9, 10, 11] (fun u2 u8 _ _ _ wr => ∃ (k : Nat) (v' : Value), u2 = .int .i64 (fiter p ⟨[], l, q⟩ k).q ∧ (∀ j, j < k → 0 < (fiter p ⟨[], l, q⟩ j).q) ∧ (fiter p ⟨[], l, q⟩ k).fs.length = k ∧ (k : Int) + (fiter p ⟨[], l, q⟩ k).q ≤ q ∧ (fiter p ⟨[], l, q⟩ k).L.length ≤ l.length ∧ wr.ownsRow w.heap.size 59 4 u8 (fiter p ⟨[], l, q⟩ k).fs.length (fV (fiter p ⟨[], l, q⟩ k).fs) ∧ BookIs wr base bb v' (fiter p ⟨[], l, q⟩ k).L ∧ Out (fun j => j = bb) w wr) (fun u2 _ _ _ _ _ => (intOf u2).toNat)
  case atStart => exact ⟨0, v, rfl, fun j hj => absurd hj (by omega), rfl, by show (0 : Int) + q ≤ q; omega, Nat.le_refl _, World.ownsRow_nil _ _ _ _, HA.out.below HB2.out (Nat.le_refl _), Out.of_below HB2.out (Nat.le_refl _)⟩
  case round =>
    obtain ⟨k, vb, rfl, hj, hfl, hkq, hLl, hrow, hbk, hout⟩ := hrel
    have HJ : Hid (∀ j, j < k → 0 < (fiter p ⟨[], l, q⟩ j).q) := hj
    have HFO : Hid (FOk p (fiter p ⟨[], l, q⟩ k)) := fiter_ok HF0.out k hj
    have hq0 := HFO.out.nn
    have HRO : Hid (wr.ownsRow w.heap.size 59 4 u8 (fiter p ⟨[], l, q⟩ k).fs.length (fV (fiter p ⟨[], l, q⟩ k).fs)) := hrow
    obtain ⟨fa, fc, rfl, _, _⟩ := owns_shape hrow
    have HBK : Hid (BookIs wr base bb vb (fiter p ⟨[], l, q⟩ k).L) := hbk
    have HOU : Hid (Out (fun j => j = bb) w wr) := hout
    have HFL : Hid ((fiter p ⟨[], l, q⟩ k).fs.length = k) := hfl
    clear hj hrow hbk hout hfl
    by_cases hq1 : 0 < (fiter p ⟨[], l, q⟩ k).q
    · have HST : Hid (fiter p ⟨[], l, q⟩ (k + 1) = fstep p (fiter p ⟨[], l, q⟩ k)) := rfl
      obtain ⟨⟨x, T, y, U, hS1, hS2, hbx, hby, hxL, hyL, hy1, n1, n2, n3, n4, c1, hL2, c2, c4, ok1⟩, hFO2⟩ := fstep_ok HFO.out hq1
      have HJ2 : Hid (∀ j, j < k + 1 → 0 < (fiter p ⟨[], l, q⟩ j).q) := fun j hj => by
        by_cases e : j = k
        · subst e; exact hq1
        · exact HJ.out j (by omega)
      generalize fiter p ⟨[], l, q⟩ k = s at *
      have HLN : Hid (lotN s = min s.q (min x.qty y.qty)) := by show lotN s = _; unfold lotN; rw [hbx, hby]
      have HFS : Hid ((fstep p s).fs = s.fs ++ [⟨x.id, y.id, p, lotN s⟩] ∧ (fstep p s).q = s.q - lotN s) := ⟨by show s.fs ++ [_] = _; rw [hbx, hby], rfl⟩
      have HX : Hid (sideO 1 s.L = x :: T ∧ sideO 2 s.L = y :: U) := ⟨hS1, hS2⟩
      have HM : Hid (x ∈ s.L ∧ y ∈ lessF x.id (lotN s) s.L ∧ LOk (lessF x.id (lotN s) s.L) ∧ (fstep p s).L = lessF y.id (lotN s) (lessF x.id (lotN s) s.L) ∧ lotN s ≤ x.qty ∧ lotN s ≤ y.qty) := ⟨hxL, hy1, ok1, hL2, n3, n4⟩
      have px := HFO.out.ok.ok x hxL
      have py := HFO.out.ok.ok y hyL
      have HBd : Hid (BookIs wr.drew base bb vb s.L) := HBK.out.below (B := wr.heap.size) (Below.refl _ _).drew (Nat.le_refl _)
      have HPR : Hid (∀ o ∈ s.L, -1000000000 ≤ o.price ∧ o.price ≤ 1000000000) := HFO.out.ok.prices
      have hl1 : (0 : Int) < ((sideO 1 s.L).length : Int) := by rw [hS1]; simp
      have hl2 : (0 : Int) < ((sideO 2 s.L).length : Int) := by rw [hS2]; simp
      clear hS1 hS2 hbx hby hxL hyL hy1 c1 hL2 c2 c4 ok1 n3 n4 HJ
      go_upto_region 5 with fail
      go_cut [9, 10] from 22 to 61 (fun p9 p10 wc => ∃ xb yb : Nat, p9 = .pointer (some ⟨xb, 0, none⟩) ∧ p10 = .pointer (some ⟨yb, 0, none⟩) ∧ DBox wc xb x ∧ DBox wc yb y ∧ Below wr.heap.size wr wc)
      case first =>
        refine wp_region_late (fun _ => True) (fun i => i == 11) (by kernel_rfl) trivial (fun hHeld => ?_)
        have HT : Hid (Two wr wr.drew x y none none none none) := Two.start wr x y
        generalize wr.drew = wz at HT hHeld ⊢
        refine wpAnyL_take (i := 0) (v := ?_) rfl (by kernel_rfl) (by kernel_rfl) (by kernel_rfl) (by kernel_rfl) (by kernel_rfl) (fun _ _ _ h => h) (by rfl) ?_ (by assumption) ?_
        rotate_left
        · intro w hSw
          go_simp
          try rfl
        refine wpAnyL_take (i := 4) (v := ?_) rfl (by kernel_rfl) (by kernel_rfl) (by kernel_rfl) (by kernel_rfl) (by kernel_rfl) (fun _ _ _ h => h) (by rfl) ?_ (by assumption) ?_
        rotate_left
        · intro w hSw
          go_simp
          try rfl
        refine wpAnyL_ready (rs := [1, 8, 9]) (by kernel_rfl) (by simp) ?_
        refine AllReadyL.cons rfl (fun K hK => ?_) ?_
        · go_simp
          refine (bkSide base bb vb s.L 1 _ (HBK.out.below HT.out.bel (Nat.le_refl _)) (by omega) HPR.out).mono ?_
          rintro e wn ⟨vA, rfl, hrA, hbA⟩
          obtain ⟨gA, cA, rfl, hgA, hhA⟩ := head_cells hrA HX.out.1
          dsimp only
          replace HT : Hid (Two wr wn x y _ _ _ _) := HT.out.callA hbA hgA hhA
          clear hrA hbA hgA hhA
          refine hK.out _ _ (fun _ => trivial) (fun hHeld => ?_)
          replace hHeld := hHeld rfl
          clear hK K
          generalize wn = wz at HT hHeld ⊢
          refine wpAnyL_more (S' := fun w => Head w gA x) (fun _ _ => trivial) _ _ _ _ ?_
          replace hHeld := (HT.out.a _ rfl).2.2
          refine wpAnyL_take (i := 2) (v := ?_) rfl (by kernel_rfl) (by kernel_rfl) (by kernel_rfl) (by kernel_rfl) (by kernel_rfl) (fun _ _ _ h => h) (by rfl) ?_ (by assumption) ?_
          rotate_left
          · intro w hSw
            go_simp
            try rfl
          refine wpAnyL_take (i := 3) (v := ?_) rfl (by kernel_rfl) (by kernel_rfl) (by kernel_rfl) (by kernel_rfl) (by kernel_rfl) (fun _ _ _ h => h) (by rfl) ?_ (by assumption) ?_
          rotate_left
          · intro w hSw
            obtain ⟨t0, t1, t2, t3, t4⟩ := hSw
            go_simp
            try rfl
          refine wpAnyL_ready (rs := [5, 8, 9]) (by kernel_rfl) (by simp) ?_
          refine AllReadyL.cons rfl (fun K hK => ?_) ?_
          · go_simp
            refine (bkSide base bb vb s.L 2 _ (HBK.out.below HT.out.bel (Nat.le_refl _)) (by omega) HPR.out).mono ?_
            rintro e wn ⟨vB, rfl, hrB, hbB⟩
            obtain ⟨gB, cB, rfl, hgB, hhB⟩ := head_cells hrB HX.out.2
            dsimp only
            replace HT : Hid (Two wr wn x y _ _ _ _) := HT.out.callB hbB hgB hhB
            clear hrB hbB hgB hhB
            refine hK.out _ _ (fun _ => (HT.out.a _ rfl).2.2) (fun hHeld => ?_)
            replace hHeld := hHeld rfl
            clear hK K
            generalize wn = wz at HT hHeld ⊢
            refine wpAnyL_more (S' := fun w => Head w gA x ∧ Head w gB y) (fun _ h => h.1) _ _ _ _ ?_
            replace hHeld : Head _ gA x ∧ Head _ gB y := ⟨(HT.out.a _ rfl).2.2, (HT.out.b _ rfl).2.2⟩
            refine wpAnyL_take (i := 6) (v := ?_) rfl (by kernel_rfl) (by kernel_rfl) (by kernel_rfl) (by kernel_rfl) (by kernel_rfl) (fun _ _ _ h => h) (by rfl) ?_ (by assumption) ?_
            rotate_left
            · intro w hSw
              go_simp
              try rfl
            refine wpAnyL_take (i := 7) (v := ?_) rfl (by kernel_rfl) (by kernel_rfl) (by kernel_rfl) (by kernel_rfl) (by kernel_rfl) (fun _ _ _ h => h) (by rfl) ?_ (by assumption) ?_
            rotate_left
            · intro w hSw
              obtain ⟨t0, t1, t2, t3, t4⟩ := hSw.2
              go_simp
              try rfl
            refine wpAnyL_ready (rs := [8, 9]) (by kernel_rfl) (by simp) ?_
            refine AllReadyL.cons rfl (fun K hK => ?_) ?_
            · go_simp
              have HT2 := HT.out.boxX
              replace HT : Hid _ := HT2
              clear HT2
              refine hK.out _ _ (fun _ => ⟨(HT.out.a _ rfl).2.2, (HT.out.b _ rfl).2.2⟩) (fun hHeld => ?_)
              replace hHeld := hHeld rfl
              clear hK K
              generalize wz.alloc (.cells #[.int .i64 0, .int .i64 0, .int .i64 0, .int .i64 0, .int .i64 0] 40) = wn at HT hHeld ⊢
              generalize wz.heap.size = xb at HT ⊢
              generalize wn = wz at HT hHeld ⊢
              refine wpAnyL_ready (rs := [9]) (by kernel_rfl) (by simp) ?_
              refine AllReadyL.cons rfl (fun K hK => ?_) AllReadyL.nil
              · go_simp
                have HT2 := HT.out.boxY
                replace HT : Hid _ := HT2
                clear HT2
                refine hK.out _ _ (fun _ => ⟨(HT.out.a _ rfl).2.2, (HT.out.b _ rfl).2.2⟩) (fun hHeld => ?_)
                replace hHeld := hHeld rfl
                clear hK K
                generalize wz.alloc (.cells #[.int .i64 0, .int .i64 0, .int .i64 0, .int .i64 0, .int .i64 0] 40) = wn at HT hHeld ⊢
                generalize wz.heap.size = yb at HT ⊢
                generalize wn = wz at HT hHeld ⊢
                obtain ⟨fA, fB, fx, fy, fb⟩ := HT.out.first
                obtain ⟨_, _, zb⟩ := HT.out.x _ rfl
                have z0 := blk_cell (j := 0) zb rfl
                have z1 := blk_cell (j := 1) zb rfl
                have z2 := blk_cell (j := 2) zb rfl
                have z3 := blk_cell (j := 3) zb rfl
                have z4 := blk_cell (j := 4) zb rfl
                have q0 := blk_free (j := 0) zb
                have q1 := blk_free (j := 1) zb
                have q2 := blk_free (j := 2) zb
                have q3 := blk_free (j := 3) zb
                have q4 := blk_free (j := 4) zb
                unfold boxed at fA fB fx fy fb
                have HF : Hid _ := And.intro fA (And.intro fB (And.intro fx (And.intro fy fb)))
                clear fA fB fx fy fb zb hHeld
                refine wpAnyL_ready (rs := [10]) (by kernel_rfl) (by simp) ?_
                refine AllReadyL.cons rfl (fun K hK => ?_) AllReadyL.nil
                go_simp
                generalize ((((wz.setCell ⟨xb, 0, none⟩ (.int .i64 x.id)).setCell ⟨xb, 1, none⟩ (.int .i64 x.side)).setCell ⟨xb, 2, none⟩ (.int .i64 x.kind)).setCell ⟨xb, 3, none⟩ (.int .i64 x.price)).setCell ⟨xb, 4, none⟩ (.int .i64 x.qty) = wm at HF ⊢
                refine hK.out _ _ (fun _ => ⟨HF.out.1, HF.out.2.1⟩) (fun _ => ?_)
                clear hK K z0 z1 z2 z3 z4 q0 q1 q2 q3 q4
                obtain ⟨d1, d2, d3⟩ := HT.out.both HF.out.2.2.1 HF.out.2.2.2.1 HF.out.2.2.2.2
                have zb := HF.out.2.2.2.1
                have z0 := blk_cell (j := 0) zb rfl
                have z1 := blk_cell (j := 1) zb rfl
                have z2 := blk_cell (j := 2) zb rfl
                have z3 := blk_cell (j := 3) zb rfl
                have z4 := blk_cell (j := 4) zb rfl
                have q0 := blk_free (j := 0) zb
                have q1 := blk_free (j := 1) zb
                have q2 := blk_free (j := 2) zb
                have q3 := blk_free (j := 3) zb
                have q4 := blk_free (j := 4) zb
                unfold boxed at d1 d2 d3
                have HD : Hid _ := And.intro d1 (And.intro d2 d3)
                clear d1 d2 d3 zb HF
                refine wpAnyL_ready (rs := [11]) (by kernel_rfl) (by simp) ?_
                refine AllReadyL.cons rfl (fun K hK => ?_) AllReadyL.nil
                go_simp
                generalize ((((wm.setCell ⟨yb, 0, none⟩ (.int .i64 y.id)).setCell ⟨yb, 1, none⟩ (.int .i64 y.side)).setCell ⟨yb, 2, none⟩ (.int .i64 y.kind)).setCell ⟨yb, 3, none⟩ (.int .i64 y.price)).setCell ⟨yb, 4, none⟩ (.int .i64 y.qty) = we at HD ⊢
                refine hK.out _ _ (fun h => by cases h) (fun _ => ?_)
                clear hK K z0 z1 z2 z3 z4 q0 q1 q2 q3 q4
                refine wpAnyL_done (by kernel_rfl) ?_ _
                go_wp2_with fail
                go_meet
                exact ⟨xb, yb, rfl, rfl, HD.out⟩
            refine AllReadyL.cons rfl (fun K hK => ?_) AllReadyL.nil
            · go_simp
              have HT2 := HT.out.boxY
              replace HT : Hid _ := HT2
              clear HT2
              refine hK.out _ _ (fun _ => ⟨(HT.out.a _ rfl).2.2, (HT.out.b _ rfl).2.2⟩) (fun hHeld => ?_)
              replace hHeld := hHeld rfl
              clear hK K
              generalize wz.alloc (.cells #[.int .i64 0, .int .i64 0, .int .i64 0, .int .i64 0, .int .i64 0] 40) = wn at HT hHeld ⊢
              generalize wz.heap.size = yb at HT ⊢
              generalize wn = wz at HT hHeld ⊢
              refine wpAnyL_ready (rs := [8]) (by kernel_rfl) (by simp) ?_
              refine AllReadyL.cons rfl (fun K hK => ?_) AllReadyL.nil
              · go_simp
                have HT2 := HT.out.boxX
                replace HT : Hid _ := HT2
                clear HT2
                refine hK.out _ _ (fun _ => ⟨(HT.out.a _ rfl).2.2, (HT.out.b _ rfl).2.2⟩) (fun hHeld => ?_)
                replace hHeld := hHeld rfl
                clear hK K
                generalize wz.alloc (.cells #[.int .i64 0, .int .i64 0, .int .i64 0, .int .i64 0, .int .i64 0] 40) = wn at HT hHeld ⊢
                generalize wz.heap.size = xb at HT ⊢
                generalize wn = wz at HT hHeld ⊢
                obtain ⟨fA, fB, fx, fy, fb⟩ := HT.out.first
                obtain ⟨_, _, zb⟩ := HT.out.x _ rfl
                have z0 := blk_cell (j := 0) zb rfl
                have z1 := blk_cell (j := 1) zb rfl
                have z2 := blk_cell (j := 2) zb rfl
                have z3 := blk_cell (j := 3) zb rfl
                have z4 := blk_cell (j := 4) zb rfl
                have q0 := blk_free (j := 0) zb
                have q1 := blk_free (j := 1) zb
                have q2 := blk_free (j := 2) zb
                have q3 := blk_free (j := 3) zb
                have q4 := blk_free (j := 4) zb
                unfold boxed at fA fB fx fy fb
                have HF : Hid _ := And.intro fA (And.intro fB (And.intro fx (And.intro fy fb)))
                clear fA fB fx fy fb zb hHeld
                refine wpAnyL_ready (rs := [10]) (by kernel_rfl) (by simp) ?_
                refine AllReadyL.cons rfl (fun K hK => ?_) AllReadyL.nil
                go_simp
                generalize ((((wz.setCell ⟨xb, 0, none⟩ (.int .i64 x.id)).setCell ⟨xb, 1, none⟩ (.int .i64 x.side)).setCell ⟨xb, 2, none⟩ (.int .i64 x.kind)).setCell ⟨xb, 3, none⟩ (.int .i64 x.price)).setCell ⟨xb, 4, none⟩ (.int .i64 x.qty) = wm at HF ⊢
                refine hK.out _ _ (fun _ => ⟨HF.out.1, HF.out.2.1⟩) (fun _ => ?_)
                clear hK K z0 z1 z2 z3 z4 q0 q1 q2 q3 q4
                obtain ⟨d1, d2, d3⟩ := HT.out.both HF.out.2.2.1 HF.out.2.2.2.1 HF.out.2.2.2.2
                have zb := HF.out.2.2.2.1
                have z0 := blk_cell (j := 0) zb rfl
                have z1 := blk_cell (j := 1) zb rfl
                have z2 := blk_cell (j := 2) zb rfl
                have z3 := blk_cell (j := 3) zb rfl
                have z4 := blk_cell (j := 4) zb rfl
                have q0 := blk_free (j := 0) zb
                have q1 := blk_free (j := 1) zb
                have q2 := blk_free (j := 2) zb
                have q3 := blk_free (j := 3) zb
                have q4 := blk_free (j := 4) zb
                unfold boxed at d1 d2 d3
                have HD : Hid _ := And.intro d1 (And.intro d2 d3)
                clear d1 d2 d3 zb HF
                refine wpAnyL_ready (rs := [11]) (by kernel_rfl) (by simp) ?_
                refine AllReadyL.cons rfl (fun K hK => ?_) AllReadyL.nil
                go_simp
                generalize ((((wm.setCell ⟨yb, 0, none⟩ (.int .i64 y.id)).setCell ⟨yb, 1, none⟩ (.int .i64 y.side)).setCell ⟨yb, 2, none⟩ (.int .i64 y.kind)).setCell ⟨yb, 3, none⟩ (.int .i64 y.price)).setCell ⟨yb, 4, none⟩ (.int .i64 y.qty) = we at HD ⊢
                refine hK.out _ _ (fun h => by cases h) (fun _ => ?_)
                clear hK K z0 z1 z2 z3 z4 q0 q1 q2 q3 q4
                refine wpAnyL_done (by kernel_rfl) ?_ _
                go_wp2_with fail
                go_meet
                exact ⟨xb, yb, rfl, rfl, HD.out⟩
          refine AllReadyL.cons rfl (fun K hK => ?_) ?_
          · go_simp
            have HT2 := HT.out.boxX
            replace HT : Hid _ := HT2
            clear HT2
            refine hK.out _ _ (fun _ => (HT.out.a _ rfl).2.2) (fun hHeld => ?_)
            replace hHeld := hHeld rfl
            clear hK K
            generalize wz.alloc (.cells #[.int .i64 0, .int .i64 0, .int .i64 0, .int .i64 0, .int .i64 0] 40) = wn at HT hHeld ⊢
            generalize wz.heap.size = xb at HT ⊢
            generalize wn = wz at HT hHeld ⊢
            refine wpAnyL_ready (rs := [5, 9]) (by kernel_rfl) (by simp) ?_
            refine AllReadyL.cons rfl (fun K hK => ?_) ?_
            · go_simp
              refine (bkSide base bb vb s.L 2 _ (HBK.out.below HT.out.bel (Nat.le_refl _)) (by omega) HPR.out).mono ?_
              rintro e wn ⟨vB, rfl, hrB, hbB⟩
              obtain ⟨gB, cB, rfl, hgB, hhB⟩ := head_cells hrB HX.out.2
              dsimp only
              replace HT : Hid (Two wr wn x y _ _ _ _) := HT.out.callB hbB hgB hhB
              clear hrB hbB hgB hhB
              refine hK.out _ _ (fun _ => (HT.out.a _ rfl).2.2) (fun hHeld => ?_)
              replace hHeld := hHeld rfl
              clear hK K
              generalize wn = wz at HT hHeld ⊢
              refine wpAnyL_more (S' := fun w => Head w gA x ∧ Head w gB y) (fun _ h => h.1) _ _ _ _ ?_
              replace hHeld : Head _ gA x ∧ Head _ gB y := ⟨(HT.out.a _ rfl).2.2, (HT.out.b _ rfl).2.2⟩
              refine wpAnyL_take (i := 6) (v := ?_) rfl (by kernel_rfl) (by kernel_rfl) (by kernel_rfl) (by kernel_rfl) (by kernel_rfl) (fun _ _ _ h => h) (by rfl) ?_ (by assumption) ?_
              rotate_left
              · intro w hSw
                go_simp
                try rfl
              refine wpAnyL_take (i := 7) (v := ?_) rfl (by kernel_rfl) (by kernel_rfl) (by kernel_rfl) (by kernel_rfl) (by kernel_rfl) (fun _ _ _ h => h) (by rfl) ?_ (by assumption) ?_
              rotate_left
              · intro w hSw
                obtain ⟨t0, t1, t2, t3, t4⟩ := hSw.2
                go_simp
                try rfl
              refine wpAnyL_ready (rs := [9]) (by kernel_rfl) (by simp) ?_
              refine AllReadyL.cons rfl (fun K hK => ?_) AllReadyL.nil
              · go_simp
                have HT2 := HT.out.boxY
                replace HT : Hid _ := HT2
                clear HT2
                refine hK.out _ _ (fun _ => ⟨(HT.out.a _ rfl).2.2, (HT.out.b _ rfl).2.2⟩) (fun hHeld => ?_)
                replace hHeld := hHeld rfl
                clear hK K
                generalize wz.alloc (.cells #[.int .i64 0, .int .i64 0, .int .i64 0, .int .i64 0, .int .i64 0] 40) = wn at HT hHeld ⊢
                generalize wz.heap.size = yb at HT ⊢
                generalize wn = wz at HT hHeld ⊢
                obtain ⟨fA, fB, fx, fy, fb⟩ := HT.out.first
                obtain ⟨_, _, zb⟩ := HT.out.x _ rfl
                have z0 := blk_cell (j := 0) zb rfl
                have z1 := blk_cell (j := 1) zb rfl
                have z2 := blk_cell (j := 2) zb rfl
                have z3 := blk_cell (j := 3) zb rfl
                have z4 := blk_cell (j := 4) zb rfl
                have q0 := blk_free (j := 0) zb
                have q1 := blk_free (j := 1) zb
                have q2 := blk_free (j := 2) zb
                have q3 := blk_free (j := 3) zb
                have q4 := blk_free (j := 4) zb
                unfold boxed at fA fB fx fy fb
                have HF : Hid _ := And.intro fA (And.intro fB (And.intro fx (And.intro fy fb)))
                clear fA fB fx fy fb zb hHeld
                refine wpAnyL_ready (rs := [10]) (by kernel_rfl) (by simp) ?_
                refine AllReadyL.cons rfl (fun K hK => ?_) AllReadyL.nil
                go_simp
                generalize ((((wz.setCell ⟨xb, 0, none⟩ (.int .i64 x.id)).setCell ⟨xb, 1, none⟩ (.int .i64 x.side)).setCell ⟨xb, 2, none⟩ (.int .i64 x.kind)).setCell ⟨xb, 3, none⟩ (.int .i64 x.price)).setCell ⟨xb, 4, none⟩ (.int .i64 x.qty) = wm at HF ⊢
                refine hK.out _ _ (fun _ => ⟨HF.out.1, HF.out.2.1⟩) (fun _ => ?_)
                clear hK K z0 z1 z2 z3 z4 q0 q1 q2 q3 q4
                obtain ⟨d1, d2, d3⟩ := HT.out.both HF.out.2.2.1 HF.out.2.2.2.1 HF.out.2.2.2.2
                have zb := HF.out.2.2.2.1
                have z0 := blk_cell (j := 0) zb rfl
                have z1 := blk_cell (j := 1) zb rfl
                have z2 := blk_cell (j := 2) zb rfl
                have z3 := blk_cell (j := 3) zb rfl
                have z4 := blk_cell (j := 4) zb rfl
                have q0 := blk_free (j := 0) zb
                have q1 := blk_free (j := 1) zb
                have q2 := blk_free (j := 2) zb
                have q3 := blk_free (j := 3) zb
                have q4 := blk_free (j := 4) zb
                unfold boxed at d1 d2 d3
                have HD : Hid _ := And.intro d1 (And.intro d2 d3)
                clear d1 d2 d3 zb HF
                refine wpAnyL_ready (rs := [11]) (by kernel_rfl) (by simp) ?_
                refine AllReadyL.cons rfl (fun K hK => ?_) AllReadyL.nil
                go_simp
                generalize ((((wm.setCell ⟨yb, 0, none⟩ (.int .i64 y.id)).setCell ⟨yb, 1, none⟩ (.int .i64 y.side)).setCell ⟨yb, 2, none⟩ (.int .i64 y.kind)).setCell ⟨yb, 3, none⟩ (.int .i64 y.price)).setCell ⟨yb, 4, none⟩ (.int .i64 y.qty) = we at HD ⊢
                refine hK.out _ _ (fun h => by cases h) (fun _ => ?_)
                clear hK K z0 z1 z2 z3 z4 q0 q1 q2 q3 q4
                refine wpAnyL_done (by kernel_rfl) ?_ _
                go_wp2_with fail
                go_meet
                exact ⟨xb, yb, rfl, rfl, HD.out⟩
            refine AllReadyL.cons rfl (fun K hK => ?_) AllReadyL.nil
            · go_simp
              have HT2 := HT.out.boxY
              replace HT : Hid _ := HT2
              clear HT2
              refine hK.out _ _ (fun _ => (HT.out.a _ rfl).2.2) (fun hHeld => ?_)
              replace hHeld := hHeld rfl
              clear hK K
              generalize wz.alloc (.cells #[.int .i64 0, .int .i64 0, .int .i64 0, .int .i64 0, .int .i64 0] 40) = wn at HT hHeld ⊢
              generalize wz.heap.size = yb at HT ⊢
              generalize wn = wz at HT hHeld ⊢
              refine wpAnyL_ready (rs := [5]) (by kernel_rfl) (by simp) ?_
              refine AllReadyL.cons rfl (fun K hK => ?_) AllReadyL.nil
              · go_simp
                refine (bkSide base bb vb s.L 2 _ (HBK.out.below HT.out.bel (Nat.le_refl _)) (by omega) HPR.out).mono ?_
                rintro e wn ⟨vB, rfl, hrB, hbB⟩
                obtain ⟨gB, cB, rfl, hgB, hhB⟩ := head_cells hrB HX.out.2
                dsimp only
                replace HT : Hid (Two wr wn x y _ _ _ _) := HT.out.callB hbB hgB hhB
                clear hrB hbB hgB hhB
                refine hK.out _ _ (fun _ => (HT.out.a _ rfl).2.2) (fun hHeld => ?_)
                replace hHeld := hHeld rfl
                clear hK K
                generalize wn = wz at HT hHeld ⊢
                refine wpAnyL_more (S' := fun w => Head w gA x ∧ Head w gB y) (fun _ h => h.1) _ _ _ _ ?_
                replace hHeld : Head _ gA x ∧ Head _ gB y := ⟨(HT.out.a _ rfl).2.2, (HT.out.b _ rfl).2.2⟩
                refine wpAnyL_take (i := 6) (v := ?_) rfl (by kernel_rfl) (by kernel_rfl) (by kernel_rfl) (by kernel_rfl) (by kernel_rfl) (fun _ _ _ h => h) (by rfl) ?_ (by assumption) ?_
                rotate_left
                · intro w hSw
                  go_simp
                  try rfl
                refine wpAnyL_take (i := 7) (v := ?_) rfl (by kernel_rfl) (by kernel_rfl) (by kernel_rfl) (by kernel_rfl) (by kernel_rfl) (fun _ _ _ h => h) (by rfl) ?_ (by assumption) ?_
                rotate_left
                · intro w hSw
                  obtain ⟨t0, t1, t2, t3, t4⟩ := hSw.2
                  go_simp
                  try rfl
                obtain ⟨fA, fB, fx, fy, fb⟩ := HT.out.first
                obtain ⟨_, _, zb⟩ := HT.out.x _ rfl
                have z0 := blk_cell (j := 0) zb rfl
                have z1 := blk_cell (j := 1) zb rfl
                have z2 := blk_cell (j := 2) zb rfl
                have z3 := blk_cell (j := 3) zb rfl
                have z4 := blk_cell (j := 4) zb rfl
                have q0 := blk_free (j := 0) zb
                have q1 := blk_free (j := 1) zb
                have q2 := blk_free (j := 2) zb
                have q3 := blk_free (j := 3) zb
                have q4 := blk_free (j := 4) zb
                unfold boxed at fA fB fx fy fb
                have HF : Hid _ := And.intro fA (And.intro fB (And.intro fx (And.intro fy fb)))
                clear fA fB fx fy fb zb hHeld
                refine wpAnyL_ready (rs := [10]) (by kernel_rfl) (by simp) ?_
                refine AllReadyL.cons rfl (fun K hK => ?_) AllReadyL.nil
                go_simp
                generalize ((((wz.setCell ⟨xb, 0, none⟩ (.int .i64 x.id)).setCell ⟨xb, 1, none⟩ (.int .i64 x.side)).setCell ⟨xb, 2, none⟩ (.int .i64 x.kind)).setCell ⟨xb, 3, none⟩ (.int .i64 x.price)).setCell ⟨xb, 4, none⟩ (.int .i64 x.qty) = wm at HF ⊢
                refine hK.out _ _ (fun _ => ⟨HF.out.1, HF.out.2.1⟩) (fun _ => ?_)
                clear hK K z0 z1 z2 z3 z4 q0 q1 q2 q3 q4
                obtain ⟨d1, d2, d3⟩ := HT.out.both HF.out.2.2.1 HF.out.2.2.2.1 HF.out.2.2.2.2
                have zb := HF.out.2.2.2.1
                have z0 := blk_cell (j := 0) zb rfl
                have z1 := blk_cell (j := 1) zb rfl
                have z2 := blk_cell (j := 2) zb rfl
                have z3 := blk_cell (j := 3) zb rfl
                have z4 := blk_cell (j := 4) zb rfl
                have q0 := blk_free (j := 0) zb
                have q1 := blk_free (j := 1) zb
                have q2 := blk_free (j := 2) zb
                have q3 := blk_free (j := 3) zb
                have q4 := blk_free (j := 4) zb
                unfold boxed at d1 d2 d3
                have HD : Hid _ := And.intro d1 (And.intro d2 d3)
                clear d1 d2 d3 zb HF
                refine wpAnyL_ready (rs := [11]) (by kernel_rfl) (by simp) ?_
                refine AllReadyL.cons rfl (fun K hK => ?_) AllReadyL.nil
                go_simp
                generalize ((((wm.setCell ⟨yb, 0, none⟩ (.int .i64 y.id)).setCell ⟨yb, 1, none⟩ (.int .i64 y.side)).setCell ⟨yb, 2, none⟩ (.int .i64 y.kind)).setCell ⟨yb, 3, none⟩ (.int .i64 y.price)).setCell ⟨yb, 4, none⟩ (.int .i64 y.qty) = we at HD ⊢
                refine hK.out _ _ (fun h => by cases h) (fun _ => ?_)
                clear hK K z0 z1 z2 z3 z4 q0 q1 q2 q3 q4
                refine wpAnyL_done (by kernel_rfl) ?_ _
                go_wp2_with fail
                go_meet
                exact ⟨xb, yb, rfl, rfl, HD.out⟩
          refine AllReadyL.cons rfl (fun K hK => ?_) AllReadyL.nil
          · go_simp
            have HT2 := HT.out.boxY
            replace HT : Hid _ := HT2
            clear HT2
            refine hK.out _ _ (fun _ => (HT.out.a _ rfl).2.2) (fun hHeld => ?_)
            replace hHeld := hHeld rfl
            clear hK K
            generalize wz.alloc (.cells #[.int .i64 0, .int .i64 0, .int .i64 0, .int .i64 0, .int .i64 0] 40) = wn at HT hHeld ⊢
            generalize wz.heap.size = yb at HT ⊢
            generalize wn = wz at HT hHeld ⊢
            refine wpAnyL_ready (rs := [5, 8]) (by kernel_rfl) (by simp) ?_
            refine AllReadyL.cons rfl (fun K hK => ?_) ?_
            · go_simp
              refine (bkSide base bb vb s.L 2 _ (HBK.out.below HT.out.bel (Nat.le_refl _)) (by omega) HPR.out).mono ?_
              rintro e wn ⟨vB, rfl, hrB, hbB⟩
              obtain ⟨gB, cB, rfl, hgB, hhB⟩ := head_cells hrB HX.out.2
              dsimp only
              replace HT : Hid (Two wr wn x y _ _ _ _) := HT.out.callB hbB hgB hhB
              clear hrB hbB hgB hhB
              refine hK.out _ _ (fun _ => (HT.out.a _ rfl).2.2) (fun hHeld => ?_)
              replace hHeld := hHeld rfl
              clear hK K
              generalize wn = wz at HT hHeld ⊢
              refine wpAnyL_more (S' := fun w => Head w gA x ∧ Head w gB y) (fun _ h => h.1) _ _ _ _ ?_
              replace hHeld : Head _ gA x ∧ Head _ gB y := ⟨(HT.out.a _ rfl).2.2, (HT.out.b _ rfl).2.2⟩
              refine wpAnyL_take (i := 6) (v := ?_) rfl (by kernel_rfl) (by kernel_rfl) (by kernel_rfl) (by kernel_rfl) (by kernel_rfl) (fun _ _ _ h => h) (by rfl) ?_ (by assumption) ?_
              rotate_left
              · intro w hSw
                go_simp
                try rfl
              refine wpAnyL_take (i := 7) (v := ?_) rfl (by kernel_rfl) (by kernel_rfl) (by kernel_rfl) (by kernel_rfl) (by kernel_rfl) (fun _ _ _ h => h) (by rfl) ?_ (by assumption) ?_
              rotate_left
              · intro w hSw
                obtain ⟨t0, t1, t2, t3, t4⟩ := hSw.2
                go_simp
                try rfl
              refine wpAnyL_ready (rs := [8]) (by kernel_rfl) (by simp) ?_
              refine AllReadyL.cons rfl (fun K hK => ?_) AllReadyL.nil
              · go_simp
                have HT2 := HT.out.boxX
                replace HT : Hid _ := HT2
                clear HT2
                refine hK.out _ _ (fun _ => ⟨(HT.out.a _ rfl).2.2, (HT.out.b _ rfl).2.2⟩) (fun hHeld => ?_)
                replace hHeld := hHeld rfl
                clear hK K
                generalize wz.alloc (.cells #[.int .i64 0, .int .i64 0, .int .i64 0, .int .i64 0, .int .i64 0] 40) = wn at HT hHeld ⊢
                generalize wz.heap.size = xb at HT ⊢
                generalize wn = wz at HT hHeld ⊢
                obtain ⟨fA, fB, fx, fy, fb⟩ := HT.out.first
                obtain ⟨_, _, zb⟩ := HT.out.x _ rfl
                have z0 := blk_cell (j := 0) zb rfl
                have z1 := blk_cell (j := 1) zb rfl
                have z2 := blk_cell (j := 2) zb rfl
                have z3 := blk_cell (j := 3) zb rfl
                have z4 := blk_cell (j := 4) zb rfl
                have q0 := blk_free (j := 0) zb
                have q1 := blk_free (j := 1) zb
                have q2 := blk_free (j := 2) zb
                have q3 := blk_free (j := 3) zb
                have q4 := blk_free (j := 4) zb
                unfold boxed at fA fB fx fy fb
                have HF : Hid _ := And.intro fA (And.intro fB (And.intro fx (And.intro fy fb)))
                clear fA fB fx fy fb zb hHeld
                refine wpAnyL_ready (rs := [10]) (by kernel_rfl) (by simp) ?_
                refine AllReadyL.cons rfl (fun K hK => ?_) AllReadyL.nil
                go_simp
                generalize ((((wz.setCell ⟨xb, 0, none⟩ (.int .i64 x.id)).setCell ⟨xb, 1, none⟩ (.int .i64 x.side)).setCell ⟨xb, 2, none⟩ (.int .i64 x.kind)).setCell ⟨xb, 3, none⟩ (.int .i64 x.price)).setCell ⟨xb, 4, none⟩ (.int .i64 x.qty) = wm at HF ⊢
                refine hK.out _ _ (fun _ => ⟨HF.out.1, HF.out.2.1⟩) (fun _ => ?_)
                clear hK K z0 z1 z2 z3 z4 q0 q1 q2 q3 q4
                obtain ⟨d1, d2, d3⟩ := HT.out.both HF.out.2.2.1 HF.out.2.2.2.1 HF.out.2.2.2.2
                have zb := HF.out.2.2.2.1
                have z0 := blk_cell (j := 0) zb rfl
                have z1 := blk_cell (j := 1) zb rfl
                have z2 := blk_cell (j := 2) zb rfl
                have z3 := blk_cell (j := 3) zb rfl
                have z4 := blk_cell (j := 4) zb rfl
                have q0 := blk_free (j := 0) zb
                have q1 := blk_free (j := 1) zb
                have q2 := blk_free (j := 2) zb
                have q3 := blk_free (j := 3) zb
                have q4 := blk_free (j := 4) zb
                unfold boxed at d1 d2 d3
                have HD : Hid _ := And.intro d1 (And.intro d2 d3)
                clear d1 d2 d3 zb HF
                refine wpAnyL_ready (rs := [11]) (by kernel_rfl) (by simp) ?_
                refine AllReadyL.cons rfl (fun K hK => ?_) AllReadyL.nil
                go_simp
                generalize ((((wm.setCell ⟨yb, 0, none⟩ (.int .i64 y.id)).setCell ⟨yb, 1, none⟩ (.int .i64 y.side)).setCell ⟨yb, 2, none⟩ (.int .i64 y.kind)).setCell ⟨yb, 3, none⟩ (.int .i64 y.price)).setCell ⟨yb, 4, none⟩ (.int .i64 y.qty) = we at HD ⊢
                refine hK.out _ _ (fun h => by cases h) (fun _ => ?_)
                clear hK K z0 z1 z2 z3 z4 q0 q1 q2 q3 q4
                refine wpAnyL_done (by kernel_rfl) ?_ _
                go_wp2_with fail
                go_meet
                exact ⟨xb, yb, rfl, rfl, HD.out⟩
            refine AllReadyL.cons rfl (fun K hK => ?_) AllReadyL.nil
            · go_simp
              have HT2 := HT.out.boxX
              replace HT : Hid _ := HT2
              clear HT2
              refine hK.out _ _ (fun _ => (HT.out.a _ rfl).2.2) (fun hHeld => ?_)
              replace hHeld := hHeld rfl
              clear hK K
              generalize wz.alloc (.cells #[.int .i64 0, .int .i64 0, .int .i64 0, .int .i64 0, .int .i64 0] 40) = wn at HT hHeld ⊢
              generalize wz.heap.size = xb at HT ⊢
              generalize wn = wz at HT hHeld ⊢
              refine wpAnyL_ready (rs := [5]) (by kernel_rfl) (by simp) ?_
              refine AllReadyL.cons rfl (fun K hK => ?_) AllReadyL.nil
              · go_simp
                refine (bkSide base bb vb s.L 2 _ (HBK.out.below HT.out.bel (Nat.le_refl _)) (by omega) HPR.out).mono ?_
                rintro e wn ⟨vB, rfl, hrB, hbB⟩
                obtain ⟨gB, cB, rfl, hgB, hhB⟩ := head_cells hrB HX.out.2
                dsimp only
                replace HT : Hid (Two wr wn x y _ _ _ _) := HT.out.callB hbB hgB hhB
                clear hrB hbB hgB hhB
                refine hK.out _ _ (fun _ => (HT.out.a _ rfl).2.2) (fun hHeld => ?_)
                replace hHeld := hHeld rfl
                clear hK K
                generalize wn = wz at HT hHeld ⊢
                refine wpAnyL_more (S' := fun w => Head w gA x ∧ Head w gB y) (fun _ h => h.1) _ _ _ _ ?_
                replace hHeld : Head _ gA x ∧ Head _ gB y := ⟨(HT.out.a _ rfl).2.2, (HT.out.b _ rfl).2.2⟩
                refine wpAnyL_take (i := 6) (v := ?_) rfl (by kernel_rfl) (by kernel_rfl) (by kernel_rfl) (by kernel_rfl) (by kernel_rfl) (fun _ _ _ h => h) (by rfl) ?_ (by assumption) ?_
                rotate_left
                · intro w hSw
                  go_simp
                  try rfl
                refine wpAnyL_take (i := 7) (v := ?_) rfl (by kernel_rfl) (by kernel_rfl) (by kernel_rfl) (by kernel_rfl) (by kernel_rfl) (fun _ _ _ h => h) (by rfl) ?_ (by assumption) ?_
                rotate_left
                · intro w hSw
                  obtain ⟨t0, t1, t2, t3, t4⟩ := hSw.2
                  go_simp
                  try rfl
                obtain ⟨fA, fB, fx, fy, fb⟩ := HT.out.first
                obtain ⟨_, _, zb⟩ := HT.out.x _ rfl
                have z0 := blk_cell (j := 0) zb rfl
                have z1 := blk_cell (j := 1) zb rfl
                have z2 := blk_cell (j := 2) zb rfl
                have z3 := blk_cell (j := 3) zb rfl
                have z4 := blk_cell (j := 4) zb rfl
                have q0 := blk_free (j := 0) zb
                have q1 := blk_free (j := 1) zb
                have q2 := blk_free (j := 2) zb
                have q3 := blk_free (j := 3) zb
                have q4 := blk_free (j := 4) zb
                unfold boxed at fA fB fx fy fb
                have HF : Hid _ := And.intro fA (And.intro fB (And.intro fx (And.intro fy fb)))
                clear fA fB fx fy fb zb hHeld
                refine wpAnyL_ready (rs := [10]) (by kernel_rfl) (by simp) ?_
                refine AllReadyL.cons rfl (fun K hK => ?_) AllReadyL.nil
                go_simp
                generalize ((((wz.setCell ⟨xb, 0, none⟩ (.int .i64 x.id)).setCell ⟨xb, 1, none⟩ (.int .i64 x.side)).setCell ⟨xb, 2, none⟩ (.int .i64 x.kind)).setCell ⟨xb, 3, none⟩ (.int .i64 x.price)).setCell ⟨xb, 4, none⟩ (.int .i64 x.qty) = wm at HF ⊢
                refine hK.out _ _ (fun _ => ⟨HF.out.1, HF.out.2.1⟩) (fun _ => ?_)
                clear hK K z0 z1 z2 z3 z4 q0 q1 q2 q3 q4
                obtain ⟨d1, d2, d3⟩ := HT.out.both HF.out.2.2.1 HF.out.2.2.2.1 HF.out.2.2.2.2
                have zb := HF.out.2.2.2.1
                have z0 := blk_cell (j := 0) zb rfl
                have z1 := blk_cell (j := 1) zb rfl
                have z2 := blk_cell (j := 2) zb rfl
                have z3 := blk_cell (j := 3) zb rfl
                have z4 := blk_cell (j := 4) zb rfl
                have q0 := blk_free (j := 0) zb
                have q1 := blk_free (j := 1) zb
                have q2 := blk_free (j := 2) zb
                have q3 := blk_free (j := 3) zb
                have q4 := blk_free (j := 4) zb
                unfold boxed at d1 d2 d3
                have HD : Hid _ := And.intro d1 (And.intro d2 d3)
                clear d1 d2 d3 zb HF
                refine wpAnyL_ready (rs := [11]) (by kernel_rfl) (by simp) ?_
                refine AllReadyL.cons rfl (fun K hK => ?_) AllReadyL.nil
                go_simp
                generalize ((((wm.setCell ⟨yb, 0, none⟩ (.int .i64 y.id)).setCell ⟨yb, 1, none⟩ (.int .i64 y.side)).setCell ⟨yb, 2, none⟩ (.int .i64 y.kind)).setCell ⟨yb, 3, none⟩ (.int .i64 y.price)).setCell ⟨yb, 4, none⟩ (.int .i64 y.qty) = we at HD ⊢
                refine hK.out _ _ (fun h => by cases h) (fun _ => ?_)
                clear hK K z0 z1 z2 z3 z4 q0 q1 q2 q3 q4
                refine wpAnyL_done (by kernel_rfl) ?_ _
                go_wp2_with fail
                go_meet
                exact ⟨xb, yb, rfl, rfl, HD.out⟩
        refine AllReadyL.cons rfl (fun K hK => ?_) ?_
        · go_simp
          have HT2 := HT.out.boxX
          replace HT : Hid _ := HT2
          clear HT2
          refine hK.out _ _ (fun _ => trivial) (fun hHeld => ?_)
          replace hHeld := hHeld rfl
          clear hK K
          generalize wz.alloc (.cells #[.int .i64 0, .int .i64 0, .int .i64 0, .int .i64 0, .int .i64 0] 40) = wn at HT hHeld ⊢
          generalize wz.heap.size = xb at HT ⊢
          generalize wn = wz at HT hHeld ⊢
          refine wpAnyL_ready (rs := [1, 9]) (by kernel_rfl) (by simp) ?_
          refine AllReadyL.cons rfl (fun K hK => ?_) ?_
          · go_simp
            refine (bkSide base bb vb s.L 1 _ (HBK.out.below HT.out.bel (Nat.le_refl _)) (by omega) HPR.out).mono ?_
            rintro e wn ⟨vA, rfl, hrA, hbA⟩
            obtain ⟨gA, cA, rfl, hgA, hhA⟩ := head_cells hrA HX.out.1
            dsimp only
            replace HT : Hid (Two wr wn x y _ _ _ _) := HT.out.callA hbA hgA hhA
            clear hrA hbA hgA hhA
            refine hK.out _ _ (fun _ => trivial) (fun hHeld => ?_)
            replace hHeld := hHeld rfl
            clear hK K
            generalize wn = wz at HT hHeld ⊢
            refine wpAnyL_more (S' := fun w => Head w gA x) (fun _ _ => trivial) _ _ _ _ ?_
            replace hHeld := (HT.out.a _ rfl).2.2
            refine wpAnyL_take (i := 2) (v := ?_) rfl (by kernel_rfl) (by kernel_rfl) (by kernel_rfl) (by kernel_rfl) (by kernel_rfl) (fun _ _ _ h => h) (by rfl) ?_ (by assumption) ?_
            rotate_left
            · intro w hSw
              go_simp
              try rfl
            refine wpAnyL_take (i := 3) (v := ?_) rfl (by kernel_rfl) (by kernel_rfl) (by kernel_rfl) (by kernel_rfl) (by kernel_rfl) (fun _ _ _ h => h) (by rfl) ?_ (by assumption) ?_
            rotate_left
            · intro w hSw
              obtain ⟨t0, t1, t2, t3, t4⟩ := hSw
              go_simp
              try rfl
            refine wpAnyL_ready (rs := [5, 9]) (by kernel_rfl) (by simp) ?_
            refine AllReadyL.cons rfl (fun K hK => ?_) ?_
            · go_simp
              refine (bkSide base bb vb s.L 2 _ (HBK.out.below HT.out.bel (Nat.le_refl _)) (by omega) HPR.out).mono ?_
              rintro e wn ⟨vB, rfl, hrB, hbB⟩
              obtain ⟨gB, cB, rfl, hgB, hhB⟩ := head_cells hrB HX.out.2
              dsimp only
              replace HT : Hid (Two wr wn x y _ _ _ _) := HT.out.callB hbB hgB hhB
              clear hrB hbB hgB hhB
              refine hK.out _ _ (fun _ => (HT.out.a _ rfl).2.2) (fun hHeld => ?_)
              replace hHeld := hHeld rfl
              clear hK K
              generalize wn = wz at HT hHeld ⊢
              refine wpAnyL_more (S' := fun w => Head w gA x ∧ Head w gB y) (fun _ h => h.1) _ _ _ _ ?_
              replace hHeld : Head _ gA x ∧ Head _ gB y := ⟨(HT.out.a _ rfl).2.2, (HT.out.b _ rfl).2.2⟩
              refine wpAnyL_take (i := 6) (v := ?_) rfl (by kernel_rfl) (by kernel_rfl) (by kernel_rfl) (by kernel_rfl) (by kernel_rfl) (fun _ _ _ h => h) (by rfl) ?_ (by assumption) ?_
              rotate_left
              · intro w hSw
                go_simp
                try rfl
              refine wpAnyL_take (i := 7) (v := ?_) rfl (by kernel_rfl) (by kernel_rfl) (by kernel_rfl) (by kernel_rfl) (by kernel_rfl) (fun _ _ _ h => h) (by rfl) ?_ (by assumption) ?_
              rotate_left
              · intro w hSw
                obtain ⟨t0, t1, t2, t3, t4⟩ := hSw.2
                go_simp
                try rfl
              refine wpAnyL_ready (rs := [9]) (by kernel_rfl) (by simp) ?_
              refine AllReadyL.cons rfl (fun K hK => ?_) AllReadyL.nil
              · go_simp
                have HT2 := HT.out.boxY
                replace HT : Hid _ := HT2
                clear HT2
                refine hK.out _ _ (fun _ => ⟨(HT.out.a _ rfl).2.2, (HT.out.b _ rfl).2.2⟩) (fun hHeld => ?_)
                replace hHeld := hHeld rfl
                clear hK K
                generalize wz.alloc (.cells #[.int .i64 0, .int .i64 0, .int .i64 0, .int .i64 0, .int .i64 0] 40) = wn at HT hHeld ⊢
                generalize wz.heap.size = yb at HT ⊢
                generalize wn = wz at HT hHeld ⊢
                obtain ⟨fA, fB, fx, fy, fb⟩ := HT.out.first
                obtain ⟨_, _, zb⟩ := HT.out.x _ rfl
                have z0 := blk_cell (j := 0) zb rfl
                have z1 := blk_cell (j := 1) zb rfl
                have z2 := blk_cell (j := 2) zb rfl
                have z3 := blk_cell (j := 3) zb rfl
                have z4 := blk_cell (j := 4) zb rfl
                have q0 := blk_free (j := 0) zb
                have q1 := blk_free (j := 1) zb
                have q2 := blk_free (j := 2) zb
                have q3 := blk_free (j := 3) zb
                have q4 := blk_free (j := 4) zb
                unfold boxed at fA fB fx fy fb
                have HF : Hid _ := And.intro fA (And.intro fB (And.intro fx (And.intro fy fb)))
                clear fA fB fx fy fb zb hHeld
                refine wpAnyL_ready (rs := [10]) (by kernel_rfl) (by simp) ?_
                refine AllReadyL.cons rfl (fun K hK => ?_) AllReadyL.nil
                go_simp
                generalize ((((wz.setCell ⟨xb, 0, none⟩ (.int .i64 x.id)).setCell ⟨xb, 1, none⟩ (.int .i64 x.side)).setCell ⟨xb, 2, none⟩ (.int .i64 x.kind)).setCell ⟨xb, 3, none⟩ (.int .i64 x.price)).setCell ⟨xb, 4, none⟩ (.int .i64 x.qty) = wm at HF ⊢
                refine hK.out _ _ (fun _ => ⟨HF.out.1, HF.out.2.1⟩) (fun _ => ?_)
                clear hK K z0 z1 z2 z3 z4 q0 q1 q2 q3 q4
                obtain ⟨d1, d2, d3⟩ := HT.out.both HF.out.2.2.1 HF.out.2.2.2.1 HF.out.2.2.2.2
                have zb := HF.out.2.2.2.1
                have z0 := blk_cell (j := 0) zb rfl
                have z1 := blk_cell (j := 1) zb rfl
                have z2 := blk_cell (j := 2) zb rfl
                have z3 := blk_cell (j := 3) zb rfl
                have z4 := blk_cell (j := 4) zb rfl
                have q0 := blk_free (j := 0) zb
                have q1 := blk_free (j := 1) zb
                have q2 := blk_free (j := 2) zb
                have q3 := blk_free (j := 3) zb
                have q4 := blk_free (j := 4) zb
                unfold boxed at d1 d2 d3
                have HD : Hid _ := And.intro d1 (And.intro d2 d3)
                clear d1 d2 d3 zb HF
                refine wpAnyL_ready (rs := [11]) (by kernel_rfl) (by simp) ?_
                refine AllReadyL.cons rfl (fun K hK => ?_) AllReadyL.nil
                go_simp
                generalize ((((wm.setCell ⟨yb, 0, none⟩ (.int .i64 y.id)).setCell ⟨yb, 1, none⟩ (.int .i64 y.side)).setCell ⟨yb, 2, none⟩ (.int .i64 y.kind)).setCell ⟨yb, 3, none⟩ (.int .i64 y.price)).setCell ⟨yb, 4, none⟩ (.int .i64 y.qty) = we at HD ⊢
                refine hK.out _ _ (fun h => by cases h) (fun _ => ?_)
                clear hK K z0 z1 z2 z3 z4 q0 q1 q2 q3 q4
                refine wpAnyL_done (by kernel_rfl) ?_ _
                go_wp2_with fail
                go_meet
                exact ⟨xb, yb, rfl, rfl, HD.out⟩
            refine AllReadyL.cons rfl (fun K hK => ?_) AllReadyL.nil
            · go_simp
              have HT2 := HT.out.boxY
              replace HT : Hid _ := HT2
              clear HT2
              refine hK.out _ _ (fun _ => (HT.out.a _ rfl).2.2) (fun hHeld => ?_)
              replace hHeld := hHeld rfl
              clear hK K
              generalize wz.alloc (.cells #[.int .i64 0, .int .i64 0, .int .i64 0, .int .i64 0, .int .i64 0] 40) = wn at HT hHeld ⊢
              generalize wz.heap.size = yb at HT ⊢
              generalize wn = wz at HT hHeld ⊢
              refine wpAnyL_ready (rs := [5]) (by kernel_rfl) (by simp) ?_
              refine AllReadyL.cons rfl (fun K hK => ?_) AllReadyL.nil
              · go_simp
                refine (bkSide base bb vb s.L 2 _ (HBK.out.below HT.out.bel (Nat.le_refl _)) (by omega) HPR.out).mono ?_
                rintro e wn ⟨vB, rfl, hrB, hbB⟩
                obtain ⟨gB, cB, rfl, hgB, hhB⟩ := head_cells hrB HX.out.2
                dsimp only
                replace HT : Hid (Two wr wn x y _ _ _ _) := HT.out.callB hbB hgB hhB
                clear hrB hbB hgB hhB
                refine hK.out _ _ (fun _ => (HT.out.a _ rfl).2.2) (fun hHeld => ?_)
                replace hHeld := hHeld rfl
                clear hK K
                generalize wn = wz at HT hHeld ⊢
                refine wpAnyL_more (S' := fun w => Head w gA x ∧ Head w gB y) (fun _ h => h.1) _ _ _ _ ?_
                replace hHeld : Head _ gA x ∧ Head _ gB y := ⟨(HT.out.a _ rfl).2.2, (HT.out.b _ rfl).2.2⟩
                refine wpAnyL_take (i := 6) (v := ?_) rfl (by kernel_rfl) (by kernel_rfl) (by kernel_rfl) (by kernel_rfl) (by kernel_rfl) (fun _ _ _ h => h) (by rfl) ?_ (by assumption) ?_
                rotate_left
                · intro w hSw
                  go_simp
                  try rfl
                refine wpAnyL_take (i := 7) (v := ?_) rfl (by kernel_rfl) (by kernel_rfl) (by kernel_rfl) (by kernel_rfl) (by kernel_rfl) (fun _ _ _ h => h) (by rfl) ?_ (by assumption) ?_
                rotate_left
                · intro w hSw
                  obtain ⟨t0, t1, t2, t3, t4⟩ := hSw.2
                  go_simp
                  try rfl
                obtain ⟨fA, fB, fx, fy, fb⟩ := HT.out.first
                obtain ⟨_, _, zb⟩ := HT.out.x _ rfl
                have z0 := blk_cell (j := 0) zb rfl
                have z1 := blk_cell (j := 1) zb rfl
                have z2 := blk_cell (j := 2) zb rfl
                have z3 := blk_cell (j := 3) zb rfl
                have z4 := blk_cell (j := 4) zb rfl
                have q0 := blk_free (j := 0) zb
                have q1 := blk_free (j := 1) zb
                have q2 := blk_free (j := 2) zb
                have q3 := blk_free (j := 3) zb
                have q4 := blk_free (j := 4) zb
                unfold boxed at fA fB fx fy fb
                have HF : Hid _ := And.intro fA (And.intro fB (And.intro fx (And.intro fy fb)))
                clear fA fB fx fy fb zb hHeld
                refine wpAnyL_ready (rs := [10]) (by kernel_rfl) (by simp) ?_
                refine AllReadyL.cons rfl (fun K hK => ?_) AllReadyL.nil
                go_simp
                generalize ((((wz.setCell ⟨xb, 0, none⟩ (.int .i64 x.id)).setCell ⟨xb, 1, none⟩ (.int .i64 x.side)).setCell ⟨xb, 2, none⟩ (.int .i64 x.kind)).setCell ⟨xb, 3, none⟩ (.int .i64 x.price)).setCell ⟨xb, 4, none⟩ (.int .i64 x.qty) = wm at HF ⊢
                refine hK.out _ _ (fun _ => ⟨HF.out.1, HF.out.2.1⟩) (fun _ => ?_)
                clear hK K z0 z1 z2 z3 z4 q0 q1 q2 q3 q4
                obtain ⟨d1, d2, d3⟩ := HT.out.both HF.out.2.2.1 HF.out.2.2.2.1 HF.out.2.2.2.2
                have zb := HF.out.2.2.2.1
                have z0 := blk_cell (j := 0) zb rfl
                have z1 := blk_cell (j := 1) zb rfl
                have z2 := blk_cell (j := 2) zb rfl
                have z3 := blk_cell (j := 3) zb rfl
                have z4 := blk_cell (j := 4) zb rfl
                have q0 := blk_free (j := 0) zb
                have q1 := blk_free (j := 1) zb
                have q2 := blk_free (j := 2) zb
                have q3 := blk_free (j := 3) zb
                have q4 := blk_free (j := 4) zb
                unfold boxed at d1 d2 d3
                have HD : Hid _ := And.intro d1 (And.intro d2 d3)
                clear d1 d2 d3 zb HF
                refine wpAnyL_ready (rs := [11]) (by kernel_rfl) (by simp) ?_
                refine AllReadyL.cons rfl (fun K hK => ?_) AllReadyL.nil
                go_simp
                generalize ((((wm.setCell ⟨yb, 0, none⟩ (.int .i64 y.id)).setCell ⟨yb, 1, none⟩ (.int .i64 y.side)).setCell ⟨yb, 2, none⟩ (.int .i64 y.kind)).setCell ⟨yb, 3, none⟩ (.int .i64 y.price)).setCell ⟨yb, 4, none⟩ (.int .i64 y.qty) = we at HD ⊢
                refine hK.out _ _ (fun h => by cases h) (fun _ => ?_)
                clear hK K z0 z1 z2 z3 z4 q0 q1 q2 q3 q4
                refine wpAnyL_done (by kernel_rfl) ?_ _
                go_wp2_with fail
                go_meet
                exact ⟨xb, yb, rfl, rfl, HD.out⟩
          refine AllReadyL.cons rfl (fun K hK => ?_) AllReadyL.nil
          · go_simp
            have HT2 := HT.out.boxY
            replace HT : Hid _ := HT2
            clear HT2
            refine hK.out _ _ (fun _ => trivial) (fun hHeld => ?_)
            replace hHeld := hHeld rfl
            clear hK K
            generalize wz.alloc (.cells #[.int .i64 0, .int .i64 0, .int .i64 0, .int .i64 0, .int .i64 0] 40) = wn at HT hHeld ⊢
            generalize wz.heap.size = yb at HT ⊢
            generalize wn = wz at HT hHeld ⊢
            refine wpAnyL_ready (rs := [1]) (by kernel_rfl) (by simp) ?_
            refine AllReadyL.cons rfl (fun K hK => ?_) AllReadyL.nil
            · go_simp
              refine (bkSide base bb vb s.L 1 _ (HBK.out.below HT.out.bel (Nat.le_refl _)) (by omega) HPR.out).mono ?_
              rintro e wn ⟨vA, rfl, hrA, hbA⟩
              obtain ⟨gA, cA, rfl, hgA, hhA⟩ := head_cells hrA HX.out.1
              dsimp only
              replace HT : Hid (Two wr wn x y _ _ _ _) := HT.out.callA hbA hgA hhA
              clear hrA hbA hgA hhA
              refine hK.out _ _ (fun _ => trivial) (fun hHeld => ?_)
              replace hHeld := hHeld rfl
              clear hK K
              generalize wn = wz at HT hHeld ⊢
              refine wpAnyL_more (S' := fun w => Head w gA x) (fun _ _ => trivial) _ _ _ _ ?_
              replace hHeld := (HT.out.a _ rfl).2.2
              refine wpAnyL_take (i := 2) (v := ?_) rfl (by kernel_rfl) (by kernel_rfl) (by kernel_rfl) (by kernel_rfl) (by kernel_rfl) (fun _ _ _ h => h) (by rfl) ?_ (by assumption) ?_
              rotate_left
              · intro w hSw
                go_simp
                try rfl
              refine wpAnyL_take (i := 3) (v := ?_) rfl (by kernel_rfl) (by kernel_rfl) (by kernel_rfl) (by kernel_rfl) (by kernel_rfl) (fun _ _ _ h => h) (by rfl) ?_ (by assumption) ?_
              rotate_left
              · intro w hSw
                obtain ⟨t0, t1, t2, t3, t4⟩ := hSw
                go_simp
                try rfl
              refine wpAnyL_ready (rs := [5]) (by kernel_rfl) (by simp) ?_
              refine AllReadyL.cons rfl (fun K hK => ?_) AllReadyL.nil
              · go_simp
                refine (bkSide base bb vb s.L 2 _ (HBK.out.below HT.out.bel (Nat.le_refl _)) (by omega) HPR.out).mono ?_
                rintro e wn ⟨vB, rfl, hrB, hbB⟩
                obtain ⟨gB, cB, rfl, hgB, hhB⟩ := head_cells hrB HX.out.2
                dsimp only
                replace HT : Hid (Two wr wn x y _ _ _ _) := HT.out.callB hbB hgB hhB
                clear hrB hbB hgB hhB
                refine hK.out _ _ (fun _ => (HT.out.a _ rfl).2.2) (fun hHeld => ?_)
                replace hHeld := hHeld rfl
                clear hK K
                generalize wn = wz at HT hHeld ⊢
                refine wpAnyL_more (S' := fun w => Head w gA x ∧ Head w gB y) (fun _ h => h.1) _ _ _ _ ?_
                replace hHeld : Head _ gA x ∧ Head _ gB y := ⟨(HT.out.a _ rfl).2.2, (HT.out.b _ rfl).2.2⟩
                refine wpAnyL_take (i := 6) (v := ?_) rfl (by kernel_rfl) (by kernel_rfl) (by kernel_rfl) (by kernel_rfl) (by kernel_rfl) (fun _ _ _ h => h) (by rfl) ?_ (by assumption) ?_
                rotate_left
                · intro w hSw
                  go_simp
                  try rfl
                refine wpAnyL_take (i := 7) (v := ?_) rfl (by kernel_rfl) (by kernel_rfl) (by kernel_rfl) (by kernel_rfl) (by kernel_rfl) (fun _ _ _ h => h) (by rfl) ?_ (by assumption) ?_
                rotate_left
                · intro w hSw
                  obtain ⟨t0, t1, t2, t3, t4⟩ := hSw.2
                  go_simp
                  try rfl
                obtain ⟨fA, fB, fx, fy, fb⟩ := HT.out.first
                obtain ⟨_, _, zb⟩ := HT.out.x _ rfl
                have z0 := blk_cell (j := 0) zb rfl
                have z1 := blk_cell (j := 1) zb rfl
                have z2 := blk_cell (j := 2) zb rfl
                have z3 := blk_cell (j := 3) zb rfl
                have z4 := blk_cell (j := 4) zb rfl
                have q0 := blk_free (j := 0) zb
                have q1 := blk_free (j := 1) zb
                have q2 := blk_free (j := 2) zb
                have q3 := blk_free (j := 3) zb
                have q4 := blk_free (j := 4) zb
                unfold boxed at fA fB fx fy fb
                have HF : Hid _ := And.intro fA (And.intro fB (And.intro fx (And.intro fy fb)))
                clear fA fB fx fy fb zb hHeld
                refine wpAnyL_ready (rs := [10]) (by kernel_rfl) (by simp) ?_
                refine AllReadyL.cons rfl (fun K hK => ?_) AllReadyL.nil
                go_simp
                generalize ((((wz.setCell ⟨xb, 0, none⟩ (.int .i64 x.id)).setCell ⟨xb, 1, none⟩ (.int .i64 x.side)).setCell ⟨xb, 2, none⟩ (.int .i64 x.kind)).setCell ⟨xb, 3, none⟩ (.int .i64 x.price)).setCell ⟨xb, 4, none⟩ (.int .i64 x.qty) = wm at HF ⊢
                refine hK.out _ _ (fun _ => ⟨HF.out.1, HF.out.2.1⟩) (fun _ => ?_)
                clear hK K z0 z1 z2 z3 z4 q0 q1 q2 q3 q4
                obtain ⟨d1, d2, d3⟩ := HT.out.both HF.out.2.2.1 HF.out.2.2.2.1 HF.out.2.2.2.2
                have zb := HF.out.2.2.2.1
                have z0 := blk_cell (j := 0) zb rfl
                have z1 := blk_cell (j := 1) zb rfl
                have z2 := blk_cell (j := 2) zb rfl
                have z3 := blk_cell (j := 3) zb rfl
                have z4 := blk_cell (j := 4) zb rfl
                have q0 := blk_free (j := 0) zb
                have q1 := blk_free (j := 1) zb
                have q2 := blk_free (j := 2) zb
                have q3 := blk_free (j := 3) zb
                have q4 := blk_free (j := 4) zb
                unfold boxed at d1 d2 d3
                have HD : Hid _ := And.intro d1 (And.intro d2 d3)
                clear d1 d2 d3 zb HF
                refine wpAnyL_ready (rs := [11]) (by kernel_rfl) (by simp) ?_
                refine AllReadyL.cons rfl (fun K hK => ?_) AllReadyL.nil
                go_simp
                generalize ((((wm.setCell ⟨yb, 0, none⟩ (.int .i64 y.id)).setCell ⟨yb, 1, none⟩ (.int .i64 y.side)).setCell ⟨yb, 2, none⟩ (.int .i64 y.kind)).setCell ⟨yb, 3, none⟩ (.int .i64 y.price)).setCell ⟨yb, 4, none⟩ (.int .i64 y.qty) = we at HD ⊢
                refine hK.out _ _ (fun h => by cases h) (fun _ => ?_)
                clear hK K z0 z1 z2 z3 z4 q0 q1 q2 q3 q4
                refine wpAnyL_done (by kernel_rfl) ?_ _
                go_wp2_with fail
                go_meet
                exact ⟨xb, yb, rfl, rfl, HD.out⟩
        refine AllReadyL.cons rfl (fun K hK => ?_) AllReadyL.nil
        · go_simp
          have HT2 := HT.out.boxY
          replace HT : Hid _ := HT2
          clear HT2
          refine hK.out _ _ (fun _ => trivial) (fun hHeld => ?_)
          replace hHeld := hHeld rfl
          clear hK K
          generalize wz.alloc (.cells #[.int .i64 0, .int .i64 0, .int .i64 0, .int .i64 0, .int .i64 0] 40) = wn at HT hHeld ⊢
          generalize wz.heap.size = yb at HT ⊢
          generalize wn = wz at HT hHeld ⊢
          refine wpAnyL_ready (rs := [1, 8]) (by kernel_rfl) (by simp) ?_
          refine AllReadyL.cons rfl (fun K hK => ?_) ?_
          · go_simp
            refine (bkSide base bb vb s.L 1 _ (HBK.out.below HT.out.bel (Nat.le_refl _)) (by omega) HPR.out).mono ?_
            rintro e wn ⟨vA, rfl, hrA, hbA⟩
            obtain ⟨gA, cA, rfl, hgA, hhA⟩ := head_cells hrA HX.out.1
            dsimp only
            replace HT : Hid (Two wr wn x y _ _ _ _) := HT.out.callA hbA hgA hhA
            clear hrA hbA hgA hhA
            refine hK.out _ _ (fun _ => trivial) (fun hHeld => ?_)
            replace hHeld := hHeld rfl
            clear hK K
            generalize wn = wz at HT hHeld ⊢
            refine wpAnyL_more (S' := fun w => Head w gA x) (fun _ _ => trivial) _ _ _ _ ?_
            replace hHeld := (HT.out.a _ rfl).2.2
            refine wpAnyL_take (i := 2) (v := ?_) rfl (by kernel_rfl) (by kernel_rfl) (by kernel_rfl) (by kernel_rfl) (by kernel_rfl) (fun _ _ _ h => h) (by rfl) ?_ (by assumption) ?_
            rotate_left
            · intro w hSw
              go_simp
              try rfl
            refine wpAnyL_take (i := 3) (v := ?_) rfl (by kernel_rfl) (by kernel_rfl) (by kernel_rfl) (by kernel_rfl) (by kernel_rfl) (fun _ _ _ h => h) (by rfl) ?_ (by assumption) ?_
            rotate_left
            · intro w hSw
              obtain ⟨t0, t1, t2, t3, t4⟩ := hSw
              go_simp
              try rfl
            refine wpAnyL_ready (rs := [5, 8]) (by kernel_rfl) (by simp) ?_
            refine AllReadyL.cons rfl (fun K hK => ?_) ?_
            · go_simp
              refine (bkSide base bb vb s.L 2 _ (HBK.out.below HT.out.bel (Nat.le_refl _)) (by omega) HPR.out).mono ?_
              rintro e wn ⟨vB, rfl, hrB, hbB⟩
              obtain ⟨gB, cB, rfl, hgB, hhB⟩ := head_cells hrB HX.out.2
              dsimp only
              replace HT : Hid (Two wr wn x y _ _ _ _) := HT.out.callB hbB hgB hhB
              clear hrB hbB hgB hhB
              refine hK.out _ _ (fun _ => (HT.out.a _ rfl).2.2) (fun hHeld => ?_)
              replace hHeld := hHeld rfl
              clear hK K
              generalize wn = wz at HT hHeld ⊢
              refine wpAnyL_more (S' := fun w => Head w gA x ∧ Head w gB y) (fun _ h => h.1) _ _ _ _ ?_
              replace hHeld : Head _ gA x ∧ Head _ gB y := ⟨(HT.out.a _ rfl).2.2, (HT.out.b _ rfl).2.2⟩
              refine wpAnyL_take (i := 6) (v := ?_) rfl (by kernel_rfl) (by kernel_rfl) (by kernel_rfl) (by kernel_rfl) (by kernel_rfl) (fun _ _ _ h => h) (by rfl) ?_ (by assumption) ?_
              rotate_left
              · intro w hSw
                go_simp
                try rfl
              refine wpAnyL_take (i := 7) (v := ?_) rfl (by kernel_rfl) (by kernel_rfl) (by kernel_rfl) (by kernel_rfl) (by kernel_rfl) (fun _ _ _ h => h) (by rfl) ?_ (by assumption) ?_
              rotate_left
              · intro w hSw
                obtain ⟨t0, t1, t2, t3, t4⟩ := hSw.2
                go_simp
                try rfl
              refine wpAnyL_ready (rs := [8]) (by kernel_rfl) (by simp) ?_
              refine AllReadyL.cons rfl (fun K hK => ?_) AllReadyL.nil
              · go_simp
                have HT2 := HT.out.boxX
                replace HT : Hid _ := HT2
                clear HT2
                refine hK.out _ _ (fun _ => ⟨(HT.out.a _ rfl).2.2, (HT.out.b _ rfl).2.2⟩) (fun hHeld => ?_)
                replace hHeld := hHeld rfl
                clear hK K
                generalize wz.alloc (.cells #[.int .i64 0, .int .i64 0, .int .i64 0, .int .i64 0, .int .i64 0] 40) = wn at HT hHeld ⊢
                generalize wz.heap.size = xb at HT ⊢
                generalize wn = wz at HT hHeld ⊢
                obtain ⟨fA, fB, fx, fy, fb⟩ := HT.out.first
                obtain ⟨_, _, zb⟩ := HT.out.x _ rfl
                have z0 := blk_cell (j := 0) zb rfl
                have z1 := blk_cell (j := 1) zb rfl
                have z2 := blk_cell (j := 2) zb rfl
                have z3 := blk_cell (j := 3) zb rfl
                have z4 := blk_cell (j := 4) zb rfl
                have q0 := blk_free (j := 0) zb
                have q1 := blk_free (j := 1) zb
                have q2 := blk_free (j := 2) zb
                have q3 := blk_free (j := 3) zb
                have q4 := blk_free (j := 4) zb
                unfold boxed at fA fB fx fy fb
                have HF : Hid _ := And.intro fA (And.intro fB (And.intro fx (And.intro fy fb)))
                clear fA fB fx fy fb zb hHeld
                refine wpAnyL_ready (rs := [10]) (by kernel_rfl) (by simp) ?_
                refine AllReadyL.cons rfl (fun K hK => ?_) AllReadyL.nil
                go_simp
                generalize ((((wz.setCell ⟨xb, 0, none⟩ (.int .i64 x.id)).setCell ⟨xb, 1, none⟩ (.int .i64 x.side)).setCell ⟨xb, 2, none⟩ (.int .i64 x.kind)).setCell ⟨xb, 3, none⟩ (.int .i64 x.price)).setCell ⟨xb, 4, none⟩ (.int .i64 x.qty) = wm at HF ⊢
                refine hK.out _ _ (fun _ => ⟨HF.out.1, HF.out.2.1⟩) (fun _ => ?_)
                clear hK K z0 z1 z2 z3 z4 q0 q1 q2 q3 q4
                obtain ⟨d1, d2, d3⟩ := HT.out.both HF.out.2.2.1 HF.out.2.2.2.1 HF.out.2.2.2.2
                have zb := HF.out.2.2.2.1
                have z0 := blk_cell (j := 0) zb rfl
                have z1 := blk_cell (j := 1) zb rfl
                have z2 := blk_cell (j := 2) zb rfl
                have z3 := blk_cell (j := 3) zb rfl
                have z4 := blk_cell (j := 4) zb rfl
                have q0 := blk_free (j := 0) zb
                have q1 := blk_free (j := 1) zb
                have q2 := blk_free (j := 2) zb
                have q3 := blk_free (j := 3) zb
                have q4 := blk_free (j := 4) zb
                unfold boxed at d1 d2 d3
                have HD : Hid _ := And.intro d1 (And.intro d2 d3)
                clear d1 d2 d3 zb HF
                refine wpAnyL_ready (rs := [11]) (by kernel_rfl) (by simp) ?_
                refine AllReadyL.cons rfl (fun K hK => ?_) AllReadyL.nil
                go_simp
                generalize ((((wm.setCell ⟨yb, 0, none⟩ (.int .i64 y.id)).setCell ⟨yb, 1, none⟩ (.int .i64 y.side)).setCell ⟨yb, 2, none⟩ (.int .i64 y.kind)).setCell ⟨yb, 3, none⟩ (.int .i64 y.price)).setCell ⟨yb, 4, none⟩ (.int .i64 y.qty) = we at HD ⊢
                refine hK.out _ _ (fun h => by cases h) (fun _ => ?_)
                clear hK K z0 z1 z2 z3 z4 q0 q1 q2 q3 q4
                refine wpAnyL_done (by kernel_rfl) ?_ _
                go_wp2_with fail
                go_meet
                exact ⟨xb, yb, rfl, rfl, HD.out⟩
            refine AllReadyL.cons rfl (fun K hK => ?_) AllReadyL.nil
            · go_simp
              have HT2 := HT.out.boxX
              replace HT : Hid _ := HT2
              clear HT2
              refine hK.out _ _ (fun _ => (HT.out.a _ rfl).2.2) (fun hHeld => ?_)
              replace hHeld := hHeld rfl
              clear hK K
              generalize wz.alloc (.cells #[.int .i64 0, .int .i64 0, .int .i64 0, .int .i64 0, .int .i64 0] 40) = wn at HT hHeld ⊢
              generalize wz.heap.size = xb at HT ⊢
              generalize wn = wz at HT hHeld ⊢
              refine wpAnyL_ready (rs := [5]) (by kernel_rfl) (by simp) ?_
              refine AllReadyL.cons rfl (fun K hK => ?_) AllReadyL.nil
              · go_simp
                refine (bkSide base bb vb s.L 2 _ (HBK.out.below HT.out.bel (Nat.le_refl _)) (by omega) HPR.out).mono ?_
                rintro e wn ⟨vB, rfl, hrB, hbB⟩
                obtain ⟨gB, cB, rfl, hgB, hhB⟩ := head_cells hrB HX.out.2
                dsimp only
                replace HT : Hid (Two wr wn x y _ _ _ _) := HT.out.callB hbB hgB hhB
                clear hrB hbB hgB hhB
                refine hK.out _ _ (fun _ => (HT.out.a _ rfl).2.2) (fun hHeld => ?_)
                replace hHeld := hHeld rfl
                clear hK K
                generalize wn = wz at HT hHeld ⊢
                refine wpAnyL_more (S' := fun w => Head w gA x ∧ Head w gB y) (fun _ h => h.1) _ _ _ _ ?_
                replace hHeld : Head _ gA x ∧ Head _ gB y := ⟨(HT.out.a _ rfl).2.2, (HT.out.b _ rfl).2.2⟩
                refine wpAnyL_take (i := 6) (v := ?_) rfl (by kernel_rfl) (by kernel_rfl) (by kernel_rfl) (by kernel_rfl) (by kernel_rfl) (fun _ _ _ h => h) (by rfl) ?_ (by assumption) ?_
                rotate_left
                · intro w hSw
                  go_simp
                  try rfl
                refine wpAnyL_take (i := 7) (v := ?_) rfl (by kernel_rfl) (by kernel_rfl) (by kernel_rfl) (by kernel_rfl) (by kernel_rfl) (fun _ _ _ h => h) (by rfl) ?_ (by assumption) ?_
                rotate_left
                · intro w hSw
                  obtain ⟨t0, t1, t2, t3, t4⟩ := hSw.2
                  go_simp
                  try rfl
                obtain ⟨fA, fB, fx, fy, fb⟩ := HT.out.first
                obtain ⟨_, _, zb⟩ := HT.out.x _ rfl
                have z0 := blk_cell (j := 0) zb rfl
                have z1 := blk_cell (j := 1) zb rfl
                have z2 := blk_cell (j := 2) zb rfl
                have z3 := blk_cell (j := 3) zb rfl
                have z4 := blk_cell (j := 4) zb rfl
                have q0 := blk_free (j := 0) zb
                have q1 := blk_free (j := 1) zb
                have q2 := blk_free (j := 2) zb
                have q3 := blk_free (j := 3) zb
                have q4 := blk_free (j := 4) zb
                unfold boxed at fA fB fx fy fb
                have HF : Hid _ := And.intro fA (And.intro fB (And.intro fx (And.intro fy fb)))
                clear fA fB fx fy fb zb hHeld
                refine wpAnyL_ready (rs := [10]) (by kernel_rfl) (by simp) ?_
                refine AllReadyL.cons rfl (fun K hK => ?_) AllReadyL.nil
                go_simp
                generalize ((((wz.setCell ⟨xb, 0, none⟩ (.int .i64 x.id)).setCell ⟨xb, 1, none⟩ (.int .i64 x.side)).setCell ⟨xb, 2, none⟩ (.int .i64 x.kind)).setCell ⟨xb, 3, none⟩ (.int .i64 x.price)).setCell ⟨xb, 4, none⟩ (.int .i64 x.qty) = wm at HF ⊢
                refine hK.out _ _ (fun _ => ⟨HF.out.1, HF.out.2.1⟩) (fun _ => ?_)
                clear hK K z0 z1 z2 z3 z4 q0 q1 q2 q3 q4
                obtain ⟨d1, d2, d3⟩ := HT.out.both HF.out.2.2.1 HF.out.2.2.2.1 HF.out.2.2.2.2
                have zb := HF.out.2.2.2.1
                have z0 := blk_cell (j := 0) zb rfl
                have z1 := blk_cell (j := 1) zb rfl
                have z2 := blk_cell (j := 2) zb rfl
                have z3 := blk_cell (j := 3) zb rfl
                have z4 := blk_cell (j := 4) zb rfl
                have q0 := blk_free (j := 0) zb
                have q1 := blk_free (j := 1) zb
                have q2 := blk_free (j := 2) zb
                have q3 := blk_free (j := 3) zb
                have q4 := blk_free (j := 4) zb
                unfold boxed at d1 d2 d3
                have HD : Hid _ := And.intro d1 (And.intro d2 d3)
                clear d1 d2 d3 zb HF
                refine wpAnyL_ready (rs := [11]) (by kernel_rfl) (by simp) ?_
                refine AllReadyL.cons rfl (fun K hK => ?_) AllReadyL.nil
                go_simp
                generalize ((((wm.setCell ⟨yb, 0, none⟩ (.int .i64 y.id)).setCell ⟨yb, 1, none⟩ (.int .i64 y.side)).setCell ⟨yb, 2, none⟩ (.int .i64 y.kind)).setCell ⟨yb, 3, none⟩ (.int .i64 y.price)).setCell ⟨yb, 4, none⟩ (.int .i64 y.qty) = we at HD ⊢
                refine hK.out _ _ (fun h => by cases h) (fun _ => ?_)
                clear hK K z0 z1 z2 z3 z4 q0 q1 q2 q3 q4
                refine wpAnyL_done (by kernel_rfl) ?_ _
                go_wp2_with fail
                go_meet
                exact ⟨xb, yb, rfl, rfl, HD.out⟩
          refine AllReadyL.cons rfl (fun K hK => ?_) AllReadyL.nil
          · go_simp
            have HT2 := HT.out.boxX
            replace HT : Hid _ := HT2
            clear HT2
            refine hK.out _ _ (fun _ => trivial) (fun hHeld => ?_)
            replace hHeld := hHeld rfl
            clear hK K
            generalize wz.alloc (.cells #[.int .i64 0, .int .i64 0, .int .i64 0, .int .i64 0, .int .i64 0] 40) = wn at HT hHeld ⊢
            generalize wz.heap.size = xb at HT ⊢
            generalize wn = wz at HT hHeld ⊢
            refine wpAnyL_ready (rs := [1]) (by kernel_rfl) (by simp) ?_
            refine AllReadyL.cons rfl (fun K hK => ?_) AllReadyL.nil
            · go_simp
              refine (bkSide base bb vb s.L 1 _ (HBK.out.below HT.out.bel (Nat.le_refl _)) (by omega) HPR.out).mono ?_
              rintro e wn ⟨vA, rfl, hrA, hbA⟩
              obtain ⟨gA, cA, rfl, hgA, hhA⟩ := head_cells hrA HX.out.1
              dsimp only
              replace HT : Hid (Two wr wn x y _ _ _ _) := HT.out.callA hbA hgA hhA
              clear hrA hbA hgA hhA
              refine hK.out _ _ (fun _ => trivial) (fun hHeld => ?_)
              replace hHeld := hHeld rfl
              clear hK K
              generalize wn = wz at HT hHeld ⊢
              refine wpAnyL_more (S' := fun w => Head w gA x) (fun _ _ => trivial) _ _ _ _ ?_
              replace hHeld := (HT.out.a _ rfl).2.2
              refine wpAnyL_take (i := 2) (v := ?_) rfl (by kernel_rfl) (by kernel_rfl) (by kernel_rfl) (by kernel_rfl) (by kernel_rfl) (fun _ _ _ h => h) (by rfl) ?_ (by assumption) ?_
              rotate_left
              · intro w hSw
                go_simp
                try rfl
              refine wpAnyL_take (i := 3) (v := ?_) rfl (by kernel_rfl) (by kernel_rfl) (by kernel_rfl) (by kernel_rfl) (by kernel_rfl) (fun _ _ _ h => h) (by rfl) ?_ (by assumption) ?_
              rotate_left
              · intro w hSw
                obtain ⟨t0, t1, t2, t3, t4⟩ := hSw
                go_simp
                try rfl
              refine wpAnyL_ready (rs := [5]) (by kernel_rfl) (by simp) ?_
              refine AllReadyL.cons rfl (fun K hK => ?_) AllReadyL.nil
              · go_simp
                refine (bkSide base bb vb s.L 2 _ (HBK.out.below HT.out.bel (Nat.le_refl _)) (by omega) HPR.out).mono ?_
                rintro e wn ⟨vB, rfl, hrB, hbB⟩
                obtain ⟨gB, cB, rfl, hgB, hhB⟩ := head_cells hrB HX.out.2
                dsimp only
                replace HT : Hid (Two wr wn x y _ _ _ _) := HT.out.callB hbB hgB hhB
                clear hrB hbB hgB hhB
                refine hK.out _ _ (fun _ => (HT.out.a _ rfl).2.2) (fun hHeld => ?_)
                replace hHeld := hHeld rfl
                clear hK K
                generalize wn = wz at HT hHeld ⊢
                refine wpAnyL_more (S' := fun w => Head w gA x ∧ Head w gB y) (fun _ h => h.1) _ _ _ _ ?_
                replace hHeld : Head _ gA x ∧ Head _ gB y := ⟨(HT.out.a _ rfl).2.2, (HT.out.b _ rfl).2.2⟩
                refine wpAnyL_take (i := 6) (v := ?_) rfl (by kernel_rfl) (by kernel_rfl) (by kernel_rfl) (by kernel_rfl) (by kernel_rfl) (fun _ _ _ h => h) (by rfl) ?_ (by assumption) ?_
                rotate_left
                · intro w hSw
                  go_simp
                  try rfl
                refine wpAnyL_take (i := 7) (v := ?_) rfl (by kernel_rfl) (by kernel_rfl) (by kernel_rfl) (by kernel_rfl) (by kernel_rfl) (fun _ _ _ h => h) (by rfl) ?_ (by assumption) ?_
                rotate_left
                · intro w hSw
                  obtain ⟨t0, t1, t2, t3, t4⟩ := hSw.2
                  go_simp
                  try rfl
                obtain ⟨fA, fB, fx, fy, fb⟩ := HT.out.first
                obtain ⟨_, _, zb⟩ := HT.out.x _ rfl
                have z0 := blk_cell (j := 0) zb rfl
                have z1 := blk_cell (j := 1) zb rfl
                have z2 := blk_cell (j := 2) zb rfl
                have z3 := blk_cell (j := 3) zb rfl
                have z4 := blk_cell (j := 4) zb rfl
                have q0 := blk_free (j := 0) zb
                have q1 := blk_free (j := 1) zb
                have q2 := blk_free (j := 2) zb
                have q3 := blk_free (j := 3) zb
                have q4 := blk_free (j := 4) zb
                unfold boxed at fA fB fx fy fb
                have HF : Hid _ := And.intro fA (And.intro fB (And.intro fx (And.intro fy fb)))
                clear fA fB fx fy fb zb hHeld
                refine wpAnyL_ready (rs := [10]) (by kernel_rfl) (by simp) ?_
                refine AllReadyL.cons rfl (fun K hK => ?_) AllReadyL.nil
                go_simp
                generalize ((((wz.setCell ⟨xb, 0, none⟩ (.int .i64 x.id)).setCell ⟨xb, 1, none⟩ (.int .i64 x.side)).setCell ⟨xb, 2, none⟩ (.int .i64 x.kind)).setCell ⟨xb, 3, none⟩ (.int .i64 x.price)).setCell ⟨xb, 4, none⟩ (.int .i64 x.qty) = wm at HF ⊢
                refine hK.out _ _ (fun _ => ⟨HF.out.1, HF.out.2.1⟩) (fun _ => ?_)
                clear hK K z0 z1 z2 z3 z4 q0 q1 q2 q3 q4
                obtain ⟨d1, d2, d3⟩ := HT.out.both HF.out.2.2.1 HF.out.2.2.2.1 HF.out.2.2.2.2
                have zb := HF.out.2.2.2.1
                have z0 := blk_cell (j := 0) zb rfl
                have z1 := blk_cell (j := 1) zb rfl
                have z2 := blk_cell (j := 2) zb rfl
                have z3 := blk_cell (j := 3) zb rfl
                have z4 := blk_cell (j := 4) zb rfl
                have q0 := blk_free (j := 0) zb
                have q1 := blk_free (j := 1) zb
                have q2 := blk_free (j := 2) zb
                have q3 := blk_free (j := 3) zb
                have q4 := blk_free (j := 4) zb
                unfold boxed at d1 d2 d3
                have HD : Hid _ := And.intro d1 (And.intro d2 d3)
                clear d1 d2 d3 zb HF
                refine wpAnyL_ready (rs := [11]) (by kernel_rfl) (by simp) ?_
                refine AllReadyL.cons rfl (fun K hK => ?_) AllReadyL.nil
                go_simp
                generalize ((((wm.setCell ⟨yb, 0, none⟩ (.int .i64 y.id)).setCell ⟨yb, 1, none⟩ (.int .i64 y.side)).setCell ⟨yb, 2, none⟩ (.int .i64 y.kind)).setCell ⟨yb, 3, none⟩ (.int .i64 y.price)).setCell ⟨yb, 4, none⟩ (.int .i64 y.qty) = we at HD ⊢
                refine hK.out _ _ (fun h => by cases h) (fun _ => ?_)
                clear hK K z0 z1 z2 z3 z4 q0 q1 q2 q3 q4
                refine wpAnyL_done (by kernel_rfl) ?_ _
                go_wp2_with fail
                go_meet
                exact ⟨xb, yb, rfl, rfl, HD.out⟩
      case rest =>
        obtain ⟨xb, yb, rfl, rfl, hdx, hdy, hbc⟩ := hcut
        have HDX : Hid (DBox wc xb x) := hdx
        have HDY : Hid (DBox wc yb y) := hdy
        have HRc : Hid (wc.ownsRow w.heap.size 59 4 (.slice fa s.fs.length fc) s.fs.length (fV s.fs)) := owns_below HRO.out hbc (Nat.le_refl _)
        have HBc : Hid (BookIs wc base bb vb s.L) := HBK.out.below hbc (Nat.le_refl _)
        have HOc : Hid (Out (fun j => j = bb) w wc) := out_then HOU.out (Out.of_below hbc (Nat.le_refl _))
        have hwc : w.heap.size ≤ wc.heap.size := HOc.out.size
        have hln : s.fs.length ≤ 100000000 := by have := HFL.out; omega
        have x0 := blk_cell (j := 0) hdx rfl
        have x4 := blk_cell (j := 4) hdx rfl
        have y0 := blk_cell (j := 0) hdy rfl
        have y4 := blk_cell (j := 4) hdy rfl
        rw [HLN.out] at HFS HM n1 n2
        clear hbc hdx hdy HRO HBK HOU HBd
        go_wp2_with (at_builtin; refine wpList_append_own_at _ rfl _ _ 27 rfl w.heap.size 59 iF (.agg #[.int .i64 0, .int .i64 0, .int .i64 0, .int .i64 0]) 4 32 Tryz.underlying27 hiF hF0 hF1 hF2 rfl (by decide) _ s.fs.length (fV s.fs) rfl (HRc.out.alloc _) ⟨wc.heap.size, 0, none⟩ 1 1 [.int .i64 x.id, .int .i64 y.id, .int .i64 p, .int .i64 (min s.q (min x.qty y.qty))] rfl rfl (World.news_of_block (cs := #[.int .i64 x.id, .int .i64 y.id, .int .i64 p, .int .i64 (min s.q (min x.qty y.qty))]) (t := 59) (fr := (0, 0)) (heap_alloc_new wc _)) (by simp [Value.oneCell']) (by unfold maxLen; omega) (by omega) (by simp; omega) ?_; intro v6 w6 hown6 hgrow6 _ _; obtain ⟨b6, dx6, dy6, o6⟩ := cr_pushed HRc.out HBc.out HDX.out HDY.out HOc.out hgrow6; have x6 := blk_cell (j := 0) dx6 rfl; have HB6 : Hid _ := b6; have HY6 : Hid _ := dy6; have HO6 : Hid _ := o6; have HW6 : Hid _ := hown6; clear b6 dx6 dy6 o6 hown6 hgrow6)
        have hk0 : s.fs.length = k := HFL.out
        have hz6 : w.heap.size ≤ w6.heap.size := HO6.out.size
        refine (bkCut_yes base bb vb s.L x (min s.q (min x.qty y.qty)) w6 HB6.out (by omega) (by omega) HFO.out.ok HM.out.1 ⟨n1, HM.out.2.2.2.2.1⟩).mono ?_
        rintro e w7 ⟨rfl, ho7, v7, hb7⟩
        have dy7 : DBox w7 yb y := blk_out HY6.out ho7 (blk_ne HY6.out HB6.out.box (by decide))
        have y7 := blk_cell (j := 0) dy7 rfl
        have HW7 : Hid (w7.ownsRow w.heap.size 59 4 v6 (s.fs.length + 1) (fV s.fs ++ [.int .i64 x.id, .int .i64 y.id, .int .i64 p, .int .i64 (min s.q (min x.qty y.qty))])) := owns_out HW6.out ho7 (fun j hj e => owns_type HW6.out HB6.out.box (by decide) (hj.trans (congrArg some e)))
        have HB7 : Hid (BookIs w7 base bb v7 (lessF x.id (min s.q (min x.qty y.qty)) s.L)) := hb7
        have HO7 : Hid (Out (fun j => j = bb) w w7) := out_then HO6.out ho7
        clear ho7 hb7 dy7 x6 hk0
        go_wp2_with fail
        have hz7 : w.heap.size ≤ w7.heap.size := HO7.out.size
        have hl7 : (lessF x.id (min s.q (min x.qty y.qty)) s.L).length ≤ s.L.length := less_len _ _ _
        refine (bkCut_yes base bb v7 (lessF x.id (min s.q (min x.qty y.qty)) s.L) y (min s.q (min x.qty y.qty)) w7 HB7.out (by omega) (by omega) HM.out.2.2.1 HM.out.2.1 ⟨n1, HM.out.2.2.2.2.2⟩).mono ?_
        rintro e w8 ⟨rfl, ho8, v8, hb8⟩
        have HW8 : Hid (w8.ownsRow w.heap.size 59 4 v6 (s.fs.length + 1) (fV s.fs ++ [.int .i64 x.id, .int .i64 y.id, .int .i64 p, .int .i64 (min s.q (min x.qty y.qty))])) := owns_out HW7.out ho8 (fun j hj e => owns_type HW7.out HB7.out.box (by decide) (hj.trans (congrArg some e)))
        have HB8 : Hid (BookIs w8 base bb v8 (lessF y.id (min s.q (min x.qty y.qty)) (lessF x.id (min s.q (min x.qty y.qty)) s.L))) := hb8
        have HO8 : Hid (Out (fun j => j = bb) w w8) := out_then HO7.out ho8
        have HL8 : Hid ((lessF y.id (min s.q (min x.qty y.qty)) (lessF x.id (min s.q (min x.qty y.qty)) s.L)).length ≤ s.L.length) := Nat.le_trans (less_len _ _ _) hl7
        clear ho8 hb8 y7 hl7
        go_wp2_with fail
        go_roundw
        case rel =>
          have hk0 : s.fs.length = k := HFL.out
          have h8 := HL8.out
          refine ⟨k + 1, v8, ?_, HJ2.out, ?_, ?_, ?_, ?_, ?_, HO8.out⟩
          · rw [HST.out, HFS.out.2]; try go_num
          · rw [HST.out, HFS.out.1, List.length_append, List.length_singleton, hk0]
          · rw [HST.out, HFS.out.2]; omega
          · rw [HST.out, HM.out.2.2.2.1]; omega
          · rw [HST.out, HFS.out.1, fV_snoc, List.length_append, List.length_singleton]; exact HW8.out
          · rw [HST.out, HM.out.2.2.2.1]; exact HB8.out
        case measure => simp [RowKit.intOf]; omega
    · go_wp2_with fail
      go_ret2
      exact ⟨k, _, rfl, by omega, HJ.out, HRO.out, ⟨_, HBK.out⟩, HOU.out⟩
end Go.Proofs.YtcoijhofliilmabGreatDoor
