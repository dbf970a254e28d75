/-
  What the document's Choose returns, over this seat's translation. Conditions stand in each theorem: where the points lie, that they are at most 1000, and that their numbers are within 2^40.
-/
import Derived.Test.YtkfmljokenclaabDoorChRef
import Derived.Deep.CutBlock
namespace Go.Proofs.YtkfmljokenclaabDoor
open Go.RowKit

def PtBox (w : World) (b : Nat) (x : Pt) : Prop := w.heap[b]? = some (.cells #[.int .i64 x.price, .int .i64 x.dem, .int .i64 x.sup] 63 (0, 0))
theorem PtBox.below {w w' : World} {b : Nat} {x : Pt} (h : PtBox w b x) (hb : Below w.heap.size w w') : PtBox w' b x := cu_keep h hb
theorem step_no {m : Int} {s : Int × Bool} {x : Pt} (h : ¬ (trB x = m ∧ (s.2 = false ∨ lfB x < s.1))) : leastStep m s x = s := if_neg h
theorem step_yes {m : Int} {s : Int × Bool} {x : Pt} (h : trB x = m ∧ (s.2 = false ∨ lfB x < s.1)) : leastStep m s x = (lfB x, true) := if_pos h

theorem box_set {w : World} {b : Nat} {x : Pt} (h : PtBox w b x) (y : Pt) : PtBox (((w.setCell ⟨b, 0, none⟩ (.int .i64 y.price)).setCell ⟨b, 1, none⟩ (.int .i64 y.dem)).setCell ⟨b, 2, none⟩ (.int .i64 y.sup)) b y :=
  cu_set (j := 2) _ (cu_set (j := 1) _ (cu_set (j := 0) (.int .i64 y.price) h))
theorem take_yes {b s : Bool} {around : Int} {p x : Pt} (h : betterB b s around p x = true) : takeB b s around x p = p := if_pos h
theorem take_no {b s : Bool} {around : Int} {p x : Pt} (h : betterB b s around p x = false) : takeB b s around x p = x := if_neg (by rw [h]; decide)

set_option maxRecDepth 4000 in
set_option maxHeartbeats 4000000 in
theorem chChoose (a : Option Addr) (cap : Nat) (l : List Pt) (around : Int) (w : World) (h : PtsIn w a l) (hl : l.length ≤ 1000) (hs : ∀ x ∈ l, x.Small) (ha1 : -1099511627776 ≤ around) (ha2 : around ≤ 1099511627776) :
    Calls Tryd.prog 12 #[.slice a l.length cap, .int .i64 around] w fun e w' => e = .returned (.agg #[.int .i64 (chooseL l around).price, .int .i64 (chooseL l around).qty, .int .i64 (chooseL l around).sur]) ∧ Below w.heap.size w w' := by
  obtain ⟨iP, hiP, hP0, hP1, hP2⟩ := info_parts Tryd.infoPt
  have HA : Hid (PtsIn w a l) := h
  have HS : Hid (∀ x ∈ l, x.Small) := hs
  clear h hs
  go_enter Tryd.func12, Tryd.ntmps12
  go_wp2_with fail
  have hq0 : QuoAt (w.alloc (.cells #[.int .i64 0, .int .i64 0, .int .i64 0] 48)) w.heap.size := heap_alloc_new w _
  have hb0 := cu_bel1 w (.cells #[.int .i64 0, .int .i64 0, .int .i64 0] 48)
  have HQ0 : Hid (QuoAt (w.alloc (.cells #[.int .i64 0, .int .i64 0, .int .i64 0] 48)) w.heap.size) := hq0
  have HB0 : Hid (Below w.heap.size w (w.alloc (.cells #[.int .i64 0, .int .i64 0, .int .i64 0] 48))) := hb0
  clear hq0 hb0
  generalize w.alloc (.cells #[.int .i64 0, .int .i64 0, .int .i64 0] 48) = w0 at HQ0 HB0 ⊢
  go_loopw [6, 27] (fun v i wr => ∃ k : Nat, k ≤ l.length ∧ i = .int .i64 k ∧ v = .int .i64 (mostL (l.take k)) ∧ Below w.heap.size w wr ∧ QuoAt wr w.heap.size) (fun _ i _ => l.length - (intOf i).toNat)
  case atStart => exact ⟨0, Nat.zero_le _, rfl, rfl, HB0.out, HQ0.out⟩
  case round =>
    obtain ⟨k, hk, rfl, rfl, hb, hq⟩ := hrel
    clear HQ0 HB0
    have HB : Hid (Below w.heap.size w wr) := hb
    have HQ : Hid (QuoAt wr w.heap.size) := hq
    clear hq
    by_cases hk1 : k < l.length
    · have hlt : (k : Int) < (l.length : Int) := by omega
      obtain ⟨b, off, rfl, d0, d1, d2⟩ := HA.out.below hb k hk1
      have HT : Hid (mostL (l.take (k + 1)) = max (mostL (l.take k)) (trB (ptAt l k))) := mostL_take hk1
      clear hb
      generalize ptAt l k = x at d0 d1 d2 HT
      generalize mostL (l.take k) = m at HT ⊢
      go_wp2_with fail
      refine (chTraded x _).mono ?_
      rintro e w3 ⟨rfl, hb3⟩
      have hb4 := cu_then (cu_bel1 wr (.cells #[.int .i64 x.price, .int .i64 x.dem, .int .i64 x.sup] 63)) hb3
      have HB3 : Hid (Below w.heap.size w w3) := cu_then HB.out hb4
      have HQ3 : Hid (QuoAt w3 w.heap.size) := HQ.out.below hb4
      clear hb3 hb4 HB HQ d0 d1 d2
      go_wp2_with fail
      go_roundw
      case rel => exact ⟨k + 1, hk1, by go_num, by rw [HT.out], HB3.out, HQ3.out⟩
      case measure => simp [intOf]; omega
    · obtain rfl : k = l.length := by omega
      rw [List.take_length]
      clear hb
      have HCH : Hid (mostL l < 1 → chooseL l around = ⟨0, 0, 0⟩) := fun h => if_pos h
      have HCH1 : Hid (¬ mostL l < 1 → chooseL l around = quoP (chosenP l around)) := fun h => if_neg h
      have HBS : Hid (1 ≤ mostL l → 0 < (bestL (mostL l) (leastL (mostL l) l).1 l).length) := best_some
      have HCP : Hid (chosenP l around = pickL (buysA (bestL (mostL l) (leastL (mostL l) l).1 l)) (sellsA (bestL (mostL l) (leastL (mostL l) l).1 l)) around (bestL (mostL l) (leastL (mostL l) l).1 l)) := rfl
      have hmi := mostL_in HS.out
      generalize mostL l = m at HCH HCH1 HBS HCP hmi ⊢
      by_cases hm : m < 1
      · have HC : Hid (chooseL l around = ⟨0, 0, 0⟩) := HCH.out hm
        have z0 := cu_free (j := 0) HQ.out
        have z1 := cu_free (j := 1) HQ.out
        have z2 := cu_free (j := 2) HQ.out
        have q0 := cu_blk (j := 0) HQ.out rfl
        have q1 := cu_blk (j := 1) HQ.out rfl
        have q2 := cu_blk (j := 2) HQ.out rfl
        clear HCH HCH1 HBS HCP
        go_wp2_with fail
        refine bodyPost_ret (by simp [results, Tryd.results12, go_sem, q0, q1, q2]; try rfl) rfl ?_
        refine ⟨by rw [HC.out], ?_⟩
        exact ((HB.out.setCell (Nat.le_refl _) _).setCell (Nat.le_refl _) _).setCell (Nat.le_refl _) _
      · have HC : Hid (chooseL l around = quoP (chosenP l around)) := HCH1.out hm
        have hbs := HBS.out (by omega)
        rw [HCP.out] at HC
        clear HCH HCH1 HBS HCP
        go_wp2_with fail
        obtain ⟨w1, hw1⟩ : ∃ w1 : World, w1 = wr := ⟨_, rfl⟩
        subst hw1
        go_loopw [7, 10, 42] (fun v c i wr => ∃ k : Nat, k ≤ l.length ∧ i = .int .i64 k ∧ v = .int .i64 (leastL m (l.take k)).1 ∧ c = .bool (leastL m (l.take k)).2 ∧ Below w.heap.size w wr ∧ QuoAt wr w.heap.size) (fun _ _ i _ => l.length - (intOf i).toNat)
        case atStart => exact ⟨0, Nat.zero_le _, rfl, rfl, rfl, HB.out, HQ.out⟩
        case round =>
          obtain ⟨k, hk, rfl, rfl, rfl, hb, hq⟩ := hrel
          clear HB HQ
          have HB : Hid (Below w.heap.size w wr) := hb
          have HQ : Hid (QuoAt wr w.heap.size) := hq
          clear hq
          by_cases hk1 : k < l.length
          · have hlt : (k : Int) < (l.length : Int) := by omega
            obtain ⟨b, off, rfl, d0, d1, d2⟩ := HA.out.below hb k hk1
            have HT : Hid (leastL m (l.take (k + 1)) = leastStep m (leastL m (l.take k)) (ptAt l k)) := leastL_take m hk1
            obtain ⟨hx1, hx2, hx3⟩ := HS.out _ (ptAt_mem hk1)
            clear hb hbs
            generalize ptAt l k = x at d0 d1 d2 HT hx1 hx2 hx3
            generalize leastL m (l.take k) = s at HT ⊢
            obtain ⟨n, c⟩ := s
            dsimp only
            go_wp2_with fail
            have hX := heap_alloc_new wr (.cells #[.int .i64 x.price, .int .i64 x.dem, .int .i64 x.sup] 63)
            have hbA := cu_bel1 wr (.cells #[.int .i64 x.price, .int .i64 x.dem, .int .i64 x.sup] 63)
            generalize wr.alloc (.cells #[.int .i64 x.price, .int .i64 x.dem, .int .i64 x.sup] 63) = W at hX hbA ⊢
            generalize wr.heap.size = xb at hX ⊢
            have HLF : Hid (lfB x = absI (x.dem - x.sup)) := rfl
            refine (chAbs _ _ (by omega)).mono ?_
            rintro e w3 ⟨rfl, hw3⟩
            subst hw3
            rw [← HLF.out]
            have x0 := cu_blk (j := 0) hX rfl
            have x1 := cu_blk (j := 1) hX rfl
            have x2 := cu_blk (j := 2) hX rfl
            go_wp2_with fail
            refine (chTraded x _).mono ?_
            rintro e w4 ⟨rfl, hb4⟩
            have HB4 : Hid (Below w.heap.size w w4) := cu_then HB.out (cu_then hbA hb4)
            have HQ4 : Hid (QuoAt w4 w.heap.size) := HQ.out.below (cu_then hbA hb4)
            clear hb4 HB HQ d0 d1 d2 x0 x1 x2 hX hbA HLF
            by_cases ht : trB x = m
            · by_cases hc : c = false ∨ lfB x < n
              · have HT2 : Hid (leastL m (l.take (k + 1)) = (lfB x, true)) := HT.out.trans (step_yes ⟨ht, hc⟩)
                rw [ht]
                clear HT
                cases c with
                | false =>
                  clear hc
                  go_wp2_with fail
                  go_roundw
                  case rel => exact ⟨k + 1, hk1, by go_num, by rw [HT2.out], by rw [HT2.out], HB4.out, HQ4.out⟩
                  case measure => simp [intOf]; omega
                | true =>
                  have hc2 : lfB x < n := by
                    rcases hc with hc | hc
                    · cases hc
                    · exact hc
                  clear hc
                  go_wp2_with fail
                  go_roundw
                  case rel => exact ⟨k + 1, hk1, by go_num, by rw [HT2.out], by rw [HT2.out], HB4.out, HQ4.out⟩
                  case measure => simp [intOf]; omega
              · have HT2 : Hid (leastL m (l.take (k + 1)) = (n, c)) := HT.out.trans (step_no (fun e => hc e.2))
                rw [ht]
                clear HT
                cases c with
                | false => exact absurd (Or.inl rfl) hc
                | true =>
                  have hc2 : ¬ lfB x < n := fun e => hc (Or.inr e)
                  clear hc
                  go_wp2_with fail
                  go_roundw
                  case rel => exact ⟨k + 1, hk1, by go_num, by rw [HT2.out], by rw [HT2.out], HB4.out, HQ4.out⟩
                  case measure => simp [intOf]; omega
            · have HT2 : Hid (leastL m (l.take (k + 1)) = (n, c)) := HT.out.trans (step_no (fun e => ht e.1))
              have htb : (trB x == m) = false := beq_eq_false_iff_ne.2 ht
              clear HT
              go_wp2_with fail
              go_roundw
              case rel => exact ⟨k + 1, hk1, by go_num, by rw [HT2.out], by rw [HT2.out], HB4.out, HQ4.out⟩
              case measure => simp [intOf]; omega
          · obtain rfl : k = l.length := by omega
            rw [List.take_length]
            clear hb
            generalize (leastL m l).1 = n at HC hbs ⊢
            generalize (leastL m l).2 = c
            obtain ⟨w2, hw2⟩ : ∃ w2 : World, w2 = wr := ⟨_, rfl⟩
            subst hw2
            go_wp2_with fail
            go_loopw [14, 15, 16, 70] (fun v x y i wr => ∃ k : Nat, k ≤ l.length ∧ i = .int .i64 k ∧ x = .bool (buysA (bestL m n (l.take k))) ∧ y = .bool (sellsA (bestL m n (l.take k))) ∧ wr.ownsRow w2.heap.size 63 3 v (bestL m n (l.take k)).length (ptV (bestL m n (l.take k))) ∧ Below w2.heap.size w2 wr) (fun _ _ _ i _ => l.length - (intOf i).toNat)
            case atStart => exact ⟨0, Nat.zero_le _, rfl, rfl, rfl, World.ownsRow_nil _ _ _ _, Below.refl _ _⟩
            case round =>
              obtain ⟨k, hk, rfl, rfl, rfl, hown, hb⟩ := hrel
              have HW : Hid (wr.ownsRow w2.heap.size 63 3 u14 (bestL m n (l.take k)).length (ptV (bestL m n (l.take k)))) := hown
              have HB2 : Hid (Below w2.heap.size w2 wr) := hb
              have hbl : (bestL m n (l.take k)).length ≤ 1000 := by
                have := List.length_filter_le (bestB m n) (l.take k)
                rw [List.length_take] at this
                unfold bestL
                omega
              obtain ⟨vao, vcap, rfl, _, _⟩ := bk_shape hown
              clear hown
              by_cases hk1 : k < l.length
              · have hlt : (k : Int) < (l.length : Int) := by omega
                obtain ⟨b, off, rfl, d0, d1, d2⟩ := HA.out.below (cu_then HB.out hb) k hk1
                have HT : Hid (bestL m n (l.take (k + 1)) = if bestB m n (ptAt l k) = true then bestL m n (l.take k) ++ [ptAt l k] else bestL m n (l.take k)) := bestL_take m n hk1
                obtain ⟨hx1, hx2, hx3⟩ := HS.out _ (ptAt_mem hk1)
                clear hb hbs
                generalize ptAt l k = x at d0 d1 d2 HT hx1 hx2 hx3
                generalize bestL m n (l.take k) = acc at HT HW hbl ⊢
                go_wp2_with fail
                have hX : PtBox (wr.alloc (.cells #[.int .i64 x.price, .int .i64 x.dem, .int .i64 x.sup] 63)) wr.heap.size x := heap_alloc_new wr _
                have hbA := cu_bel1 wr (.cells #[.int .i64 x.price, .int .i64 x.dem, .int .i64 x.sup] 63)
                generalize wr.alloc (.cells #[.int .i64 x.price, .int .i64 x.dem, .int .i64 x.sup] 63) = W at hX hbA ⊢
                have HLT : Hid (∀ q, (Value.slice vao acc.length vcap).ownBlock = some q → q < wr.heap.size) := fun q hq => (HW.out.lt q hq).2
                generalize wr.heap.size = xb at hX HLT ⊢
                refine (chTraded x _).mono ?_
                rintro e w4 ⟨rfl, hb4⟩
                have hX4 := hX.below hb4
                have HW4 : Hid (w4.ownsRow w2.heap.size 63 3 (.slice vao acc.length vcap) acc.length (ptV acc)) := bk_below HW.out (cu_then hbA hb4) (Nat.le_refl _)
                have HB4 : Hid (Below w2.heap.size w2 w4) := cu_then HB2.out (cu_then hbA hb4)
                have HX4 : Hid (PtBox w4 xb x) := hX4
                clear hX hbA hb4 HW HB2 d0 d1 d2 hX4
                by_cases ht : trB x = m
                · have y0 := cu_blk (j := 0) HX4.out rfl
                  have y1 := cu_blk (j := 1) HX4.out rfl
                  have y2 := cu_blk (j := 2) HX4.out rfl
                  have HLF : Hid (lfB x = absI (x.dem - x.sup)) := rfl
                  rw [ht]
                  go_wp2_with fail
                  refine (chAbs _ _ (by omega)).mono ?_
                  rintro e w5 ⟨rfl, hw5⟩
                  subst hw5
                  rw [← HLF.out]
                  by_cases hn : lfB x = n
                  · have hbb : bestB m n x = true := by unfold bestB; simp [ht, hn]
                    have HT2 : Hid (bestL m n (l.take (k + 1)) = acc ++ [x]) := by rw [HT.out, if_pos hbb]; rfl
                    have HBY : Hid (buysA (acc ++ [x]) = (buysA acc && decide (x.sup < x.dem))) := buysA_snoc acc x
                    have HSE : Hid (sellsA (acc ++ [x]) = (sellsA acc && decide (x.dem < x.sup))) := sellsA_snoc acc x
                    rw [hn]
                    clear HT hbb hn ht HLF
                    go_upto_region 25 with (at_builtin; refine wpList_append_own_at _ rfl _ _ 45 rfl w2.heap.size 63 iP (.agg #[.int .i64 0, .int .i64 0, .int .i64 0]) 3 24 Tryd.underlying45 hiP hP0 hP1 hP2 rfl (by decide) _ acc.length (ptV acc) rfl (HW4.out.alloc _) ⟨w5.heap.size, 0, none⟩ 1 1 [.int .i64 x.price, .int .i64 x.dem, .int .i64 x.sup] rfl rfl (World.news_of_block (cs := #[.int .i64 x.price, .int .i64 x.dem, .int .i64 x.sup]) (t := 63) (fr := (0, 0)) (heap_alloc_new w5 _)) (by simp [Value.oneCell']) (by unfold maxLen; omega) (by omega) (by have := HB4.out.size; simp; omega) ?_; intro v' w6 hown6 hgrow6 _ _)
                    have hX6 : PtBox w6 xb x := (hgrow6.block xb (by have := lt_of_block HX4.out; simp; omega) (fun e => by have := HLT.out xb e.symm; omega)).trans ((cu_bel1 w5 _).block xb (lt_of_block HX4.out) |>.trans HX4.out)
                    have HB6 : Hid (Below w2.heap.size w2 w6) := (HB4.out.alloc HB4.out.size _).grown hgrow6 (by have := HB4.out.size; simp; omega) (fun q hq => (HW4.out.lt q hq).1)
                    have HW6 : Hid (w6.ownsRow w2.heap.size 63 3 v' (bestL m n (l.take (k + 1))).length (ptV (bestL m n (l.take (k + 1))))) := by
                      rw [HT2.out, ptV_snoc, List.length_append, List.length_singleton]
                      exact hown6
                    clear hown6 hgrow6 y0 y1 y2 HB4 HW4 HLT HX4
                    have z1 := cu_blk (j := 1) hX6 rfl
                    have z2 := cu_blk (j := 2) hX6 rfl
                    clear hX6
                    have HBY2 : Hid (buysA (bestL m n (l.take (k + 1))) = (buysA acc && decide (x.sup < x.dem))) := by rw [HT2.out]; exact HBY.out
                    have HSE2 : Hid (sellsA (bestL m n (l.take (k + 1))) = (sellsA acc && decide (x.dem < x.sup))) := by rw [HT2.out]; exact HSE.out
                    clear HBY HSE HT2
                    generalize buysA acc = bb at HBY2 ⊢
                    generalize sellsA acc = sb at HSE2 ⊢
                    cases bb <;> cases sb
                    all_goals
                      go_wp2_with fail
                      go_roundw
                      case rel => exact ⟨k + 1, hk1, by go_num, by rw [HBY2.out]; simp, by rw [HSE2.out]; simp, HW6.out, HB6.out⟩
                      case measure => simp [intOf]; omega
                  · have hnb : (lfB x == n) = false := beq_eq_false_iff_ne.2 hn
                    have hbb : bestB m n x = false := by unfold bestB; rw [hnb]; simp
                    have HT2 : Hid (bestL m n (l.take (k + 1)) = acc) := by rw [HT.out, if_neg (by rw [hbb]; decide)]; rfl
                    clear HT hbb hn ht HLF y0 y1 y2
                    go_wp2_with fail
                    go_roundw
                    case rel => exact ⟨k + 1, hk1, by go_num, by rw [HT2.out], by rw [HT2.out], by rw [HT2.out]; exact HW4.out, HB4.out⟩
                    case measure => simp [intOf]; omega
                · have htb : (trB x == m) = false := beq_eq_false_iff_ne.2 ht
                  have hbb : bestB m n x = false := by unfold bestB; rw [htb]; rfl
                  have HT2 : Hid (bestL m n (l.take (k + 1)) = acc) := by rw [HT.out, if_neg (by rw [hbb]; decide)]; rfl
                  clear HT hbb ht
                  go_wp2_with fail
                  go_roundw
                  case rel => exact ⟨k + 1, hk1, by go_num, by rw [HT2.out], by rw [HT2.out], by rw [HT2.out]; exact HW4.out, HB4.out⟩
                  case measure => simp [intOf]; omega
              · obtain rfl : k = l.length := by omega
                rw [List.take_length] at HW hbl
                rw [List.take_length]
                clear hb
                have HSB : Hid (∀ y ∈ bestL m n l, y.Small) := fun y hy => HS.out y (List.mem_filter.1 hy).1
                generalize bestL m n l = best at HW hbl HC hbs HSB ⊢
                have HPA : Hid (pickL (buysA best) (sellsA best) around best = pickK (buysA best) (sellsA best) around best best.length) := (pickK_all _ _ _ _).symm
                have HPM : Hid (∀ k, k ≤ best.length → pickK (buysA best) (sellsA best) around best k ∈ best) := pickK_mem _ _ around hbs
                have HPS : Hid (∀ k, k < best.length → pickK (buysA best) (sellsA best) around best (k + 1) = takeB (buysA best) (sellsA best) around (pickK (buysA best) (sellsA best) around best k) (ptAt best k)) := fun k hk => pickK_step hk
                have HP0 : Hid (pickK (buysA best) (sellsA best) around best 0 = ptAt best 0) := rfl
                rw [HPA.out] at HC
                generalize buysA best = by_ at HC HPM HPS HP0 ⊢
                generalize sellsA best = se_ at HC HPM HPS HP0 ⊢
                clear HPA
                obtain ⟨g, cap', hv, c0, c1, c2⟩ := row_pt HW.out hbs
                simp only [Value.slice.injEq, true_and] at hv
                obtain ⟨rfl, rfl⟩ := hv
                rw [Nat.zero_mul] at c0
                rw [Nat.zero_mul, Nat.zero_add] at c1 c2
                have hbs' : (0 : Int) < (best.length : Int) := by omega
                generalize ptAt best 0 = p0 at c0 c1 c2 HP0
                go_wp2_with fail
                have hx0 : PtBox (wr.alloc (.cells #[.int .i64 p0.price, .int .i64 p0.dem, .int .i64 p0.sup] 63)) wr.heap.size p0 := heap_alloc_new wr _
                have HX0 : Hid (PtBox (wr.alloc (.cells #[.int .i64 p0.price, .int .i64 p0.dem, .int .i64 p0.sup] 63)) wr.heap.size (pickK by_ se_ around best 0)) := by rw [HP0.out]; exact hx0
                have HBX : Hid (Below wr.heap.size wr (wr.alloc (.cells #[.int .i64 p0.price, .int .i64 p0.dem, .int .i64 p0.sup] 63))) := cu_bel1 wr _
                clear hx0 c0 c1 c2 HP0
                generalize wr.alloc (.cells #[.int .i64 p0.price, .int .i64 p0.dem, .int .i64 p0.sup] 63) = wx at HX0 HBX ⊢
                obtain ⟨w3, hw3⟩ : ∃ w3 : World, w3 = wr := ⟨_, rfl⟩
                subst hw3
                have HBW : Hid (Below w.heap.size w w3) := cu_then HB.out HB2.out
                have HQ3 : Hid (QuoAt w3 w.heap.size) := HQ.out.below HB2.out
                obtain ⟨xb, hxb⟩ : ∃ xb, w3.heap.size = xb := ⟨_, rfl⟩
                rw [hxb] at HX0
                rw [hxb]
                have HXB : Hid (w3.heap.size = xb) := hxb
                clear hxb HB HB2 HQ
                go_loopw [115] (fun i wi => ∃ j : Nat, j ≤ best.length ∧ i = .int .i64 j ∧ PtBox wi xb (pickK by_ se_ around best j) ∧ Below w3.heap.size w3 wi) (fun i _ => best.length - (intOf i).toNat)
                case atStart => exact ⟨0, Nat.zero_le _, rfl, HX0.out, HBX.out⟩
                case round =>
                  obtain ⟨j, hj, rfl, hxi, hbi⟩ := hrel
                  have HXi : Hid (PtBox wr xb (pickK by_ se_ around best j)) := hxi
                  have HBi : Hid (Below w3.heap.size w3 wr) := hbi
                  have hxs := HSB.out _ (HPM.out j hj)
                  clear HX0 HBX
                  by_cases hj1 : j < best.length
                  · have hjlt : (j : Int) < (best.length : Int) := by omega
                    obtain ⟨g', cap'', hv, d0, d1, d2⟩ := row_pt (bk_below HW.out hbi (Nat.le_refl _)) hj1
                    simp only [Value.slice.injEq, Option.some.injEq, Addr.mk.injEq, true_and, and_true] at hv
                    obtain ⟨hg, hc⟩ := hv
                    subst hg hc
                    have hps := HSB.out _ (ptAt_mem hj1)
                    have HTK0 : Hid (pickK by_ se_ around best (j + 1) = takeB by_ se_ around (pickK by_ se_ around best j) (ptAt best j)) := HPS.out j hj1
                    clear hxi hbi
                    generalize pickK by_ se_ around best j = x at HXi hxs HTK0
                    generalize ptAt best j = p at d0 d1 d2 hps HTK0
                    obtain ⟨⟨xp1, xp2⟩, ⟨xd1, xd2⟩, ⟨xs1, xs2⟩⟩ := hxs
                    obtain ⟨⟨pp1, pp2⟩, ⟨pd1, pd2⟩, ⟨ps1, ps2⟩⟩ := hps
                    go_upto_region 32 with fail
                    have hP5 : PtBox (wr.alloc (.cells #[.int .i64 p.price, .int .i64 p.dem, .int .i64 p.sup] 63)) wr.heap.size p := heap_alloc_new wr _
                    have hbA := cu_bel1 wr (.cells #[.int .i64 p.price, .int .i64 p.dem, .int .i64 p.sup] 63)
                    have hyx : xb < wr.heap.size := lt_of_block HXi.out
                    generalize wr.alloc (.cells #[.int .i64 p.price, .int .i64 p.dem, .int .i64 p.sup] 63) = W at hP5 hbA ⊢
                    generalize wr.heap.size = yb at hP5 hyx ⊢
                    have HX5 : Hid (PtBox W xb x) := HXi.out.below hbA
                    have HB5 : Hid (Below w3.heap.size w3 W) := cu_then HBi.out hbA
                    have HP5 : Hid (PtBox W yb p) := hP5
                    clear hP5 hbA HXi HBi d0 d1 d2
                    have n1 : ¬ yb = xb := by omega
                    have n2 : ¬ xb = yb := by omega
                    cases by_ with
                    | true =>
                      have y0 := cu_blk (j := 0) HP5.out rfl
                      have y1 := cu_blk (j := 1) HP5.out rfl
                      have y2 := cu_blk (j := 2) HP5.out rfl
                      have x0 := cu_blk (j := 0) HX5.out rfl
                      have x1 := cu_blk (j := 1) HX5.out rfl
                      have x2 := cu_blk (j := 2) HX5.out rfl
                      have f0 := cu_free (j := 0) HX5.out
                      have f1 := cu_free (j := 1) HX5.out
                      have f2 := cu_free (j := 2) HX5.out
                      by_cases hp : x.price < p.price
                      · have HTK : Hid (pickK true se_ around best (j + 1) = p) := HTK0.out.trans (take_yes (by unfold betterB; simp [hp]))
                        clear HTK0
                        go_wp2_with fail
                        go_roundw
                        case rel => exact ⟨j + 1, hj1, by go_num, by rw [HTK.out]; exact box_set HX5.out p, ((HB5.out.setCell (Nat.le_of_eq HXB.out) _).setCell (Nat.le_of_eq HXB.out) _).setCell (Nat.le_of_eq HXB.out) _⟩
                        case measure => simp [intOf]; omega
                      · have HTK : Hid (pickK true se_ around best (j + 1) = x) := HTK0.out.trans (take_no (by unfold betterB; simp [hp]))
                        clear HTK0
                        go_wp2_with fail
                        go_roundw
                        case rel => exact ⟨j + 1, hj1, by go_num, by rw [HTK.out]; exact HX5.out, HB5.out⟩
                        case measure => simp [intOf]; omega
                    | false =>
                      cases se_ with
                      | true =>
                        have y0 := cu_blk (j := 0) HP5.out rfl
                        have y1 := cu_blk (j := 1) HP5.out rfl
                        have y2 := cu_blk (j := 2) HP5.out rfl
                        have x0 := cu_blk (j := 0) HX5.out rfl
                        have x1 := cu_blk (j := 1) HX5.out rfl
                        have x2 := cu_blk (j := 2) HX5.out rfl
                        have f0 := cu_free (j := 0) HX5.out
                        have f1 := cu_free (j := 1) HX5.out
                        have f2 := cu_free (j := 2) HX5.out
                        by_cases hp : p.price < x.price
                        · have HTK : Hid (pickK false true around best (j + 1) = p) := HTK0.out.trans (take_yes (by unfold betterB; simp [hp]))
                          clear HTK0
                          go_wp2_with fail
                          go_roundw
                          case rel => exact ⟨j + 1, hj1, by go_num, by rw [HTK.out]; exact box_set HX5.out p, ((HB5.out.setCell (Nat.le_of_eq HXB.out) _).setCell (Nat.le_of_eq HXB.out) _).setCell (Nat.le_of_eq HXB.out) _⟩
                          case measure => simp [intOf]; omega
                        · have HTK : Hid (pickK false true around best (j + 1) = x) := HTK0.out.trans (take_no (by unfold betterB; simp [hp]))
                          clear HTK0
                          go_wp2_with fail
                          go_roundw
                          case rel => exact ⟨j + 1, hj1, by go_num, by rw [HTK.out]; exact HX5.out, HB5.out⟩
                          case measure => simp [intOf]; omega
                      | false =>
                        have k0 := cell_regrown (cu_blk (j := 0) HP5.out rfl)
                        have k1 := cell_regrown (cu_blk (j := 0) HX5.out rfl)
                        have HBT : Hid (betterB false false around p x = (decide (absI (p.price - around) < absI (x.price - around)) || ((absI (p.price - around) == absI (x.price - around)) && decide (p.price < x.price)))) := rfl
                        have cA : ∀ dq os, Calls Tryd.prog 25 #[.int .i64 (p.price - around)] (Go.Sort.grow (redrawn W dq) os) fun e w'' => e = .returned (.int .i64 (absI (p.price - around))) ∧ ∃ q : Regrown, w'' = Go.Sort.grow (redrawn W q.d) q.os := fun dq os => Calls.regrown_of ((chAbs _ _ (by omega)).mono fun e w' ⟨he, hw⟩ => ⟨he, by rw [hw]; exact Below.refl _ _⟩)
                        have cX : ∀ dq os, Calls Tryd.prog 25 #[.int .i64 (x.price - around)] (Go.Sort.grow (redrawn W dq) os) fun e w'' => e = .returned (.int .i64 (absI (x.price - around))) ∧ ∃ q : Regrown, w'' = Go.Sort.grow (redrawn W q.d) q.os := fun dq os => Calls.regrown_of ((chAbs _ _ (by omega)).mono fun e w' ⟨he, hw⟩ => ⟨he, by rw [hw]; exact Below.refl _ _⟩)
                        generalize absI (p.price - around) = aP at HBT cA
                        generalize absI (x.price - around) = aX at HBT cX
                        go_wp2_with fail
                        refine wp_region_quiet_below (by kernel_rfl) (by kernel_rfl) ?_
                        repeat (go_big_quiet_step (first | exact cA _ _ | exact cX _ _))
                        refine wpQuiet_nil ?_
                        intro _ hw'
                        obtain ⟨⟨dq, osq⟩, hw''⟩ := hw'
                        subst hw''
                        have hbw := below_regrown W dq osq
                        generalize Go.Sort.grow (redrawn W dq) osq = V at hbw ⊢
                        have HX6 : Hid (PtBox V xb x) := HX5.out.below hbw
                        have HB6 : Hid (Below w3.heap.size w3 V) := cu_then HB5.out hbw
                        have hP6 := HP5.out.below hbw
                        clear k0 k1 cA cX hbw HX5 HB5 HP5
                        have y0 := cu_blk (j := 0) hP6 rfl
                        have y1 := cu_blk (j := 1) hP6 rfl
                        have y2 := cu_blk (j := 2) hP6 rfl
                        have x0 := cu_blk (j := 0) HX6.out rfl
                        have x1 := cu_blk (j := 1) HX6.out rfl
                        have x2 := cu_blk (j := 2) HX6.out rfl
                        have f0 := cu_free (j := 0) HX6.out
                        have f1 := cu_free (j := 1) HX6.out
                        have f2 := cu_free (j := 2) HX6.out
                        clear hP6
                        by_cases hp : aP < aX
                        · have HTK : Hid (pickK false false around best (j + 1) = p) := HTK0.out.trans (take_yes (by rw [HBT.out]; simp [hp]))
                          clear HTK0 HBT
                          go_wp2_with fail
                          go_roundw
                          case rel => exact ⟨j + 1, hj1, by go_num, by rw [HTK.out]; exact box_set HX6.out p, ((HB6.out.setCell (Nat.le_of_eq HXB.out) _).setCell (Nat.le_of_eq HXB.out) _).setCell (Nat.le_of_eq HXB.out) _⟩
                          case measure => simp [intOf]; omega
                        · by_cases he : aP = aX
                          · subst he
                            by_cases hpx : p.price < x.price
                            · have HTK : Hid (pickK false false around best (j + 1) = p) := HTK0.out.trans (take_yes (by rw [HBT.out]; simp [hpx]))
                              clear HTK0 HBT
                              go_wp2_with fail
                              go_roundw
                              case rel => exact ⟨j + 1, hj1, by go_num, by rw [HTK.out]; exact box_set HX6.out p, ((HB6.out.setCell (Nat.le_of_eq HXB.out) _).setCell (Nat.le_of_eq HXB.out) _).setCell (Nat.le_of_eq HXB.out) _⟩
                              case measure => simp [intOf]; omega
                            · have HTK : Hid (pickK false false around best (j + 1) = x) := HTK0.out.trans (take_no (by rw [HBT.out]; simp [hpx]))
                              clear HTK0 HBT
                              go_wp2_with fail
                              go_roundw
                              case rel => exact ⟨j + 1, hj1, by go_num, by rw [HTK.out]; exact HX6.out, HB6.out⟩
                              case measure => simp [intOf]; omega
                          · have heb : (aP == aX) = false := beq_eq_false_iff_ne.2 he
                            have HTK : Hid (pickK false false around best (j + 1) = x) := HTK0.out.trans (take_no (by rw [HBT.out, heb]; simp [hp]))
                            clear HTK0 HBT he
                            go_wp2_with fail
                            go_roundw
                            case rel => exact ⟨j + 1, hj1, by go_num, by rw [HTK.out]; exact HX6.out, HB6.out⟩
                            case measure => simp [intOf]; omega
                  · obtain rfl : j = best.length := by omega
                    obtain ⟨⟨xp1, xp2⟩, ⟨xd1, xd2⟩, ⟨xs1, xs2⟩⟩ := hxs
                    generalize pickK by_ se_ around best best.length = x at HXi HC xp1 xp2 xd1 xd2 xs1 xs2 hxi
                    have hq5 : QuoAt wr w.heap.size := HQ3.out.below hbi
                    have HQd : Hid (QuoAt wr.drew w.heap.size) := hq5
                    have HBd : Hid (Below w.heap.size w wr.drew) := (cu_then HBW.out hbi).drew
                    have hqx : w.heap.size < xb := by have := lt_of_block HQ3.out; have := HXB.out; omega
                    have n1 : ¬ w.heap.size = xb := by omega
                    have n2 : ¬ xb = w.heap.size := by omega
                    have x0 := cu_blk (j := 0) hxi rfl
                    have x1 := cu_blk (j := 1) hxi rfl
                    have x2 := cu_blk (j := 2) hxi rfl
                    have HC1 : Hid ((chooseL l around).price = x.price ∧ (chooseL l around).qty = trB x ∧ (chooseL l around).sur = x.dem - x.sup) := by rw [HC.out]; exact ⟨rfl, rfl, rfl⟩
                    clear hq5 hxi hbi hqx HC
                    go_wp2_with fail
                    go_region_held3 (fun w' => w'.cell? ⟨xb, 0, none⟩ = some (.int .i64 x.price) ∧ w'.cell? ⟨xb, 1, none⟩ = some (.int .i64 x.dem) ∧ w'.cell? ⟨xb, 2, none⟩ = some (.int .i64 x.sup))
                      (first | go_keep | (go_split_ands; refine ⟨?_, ?_, ?_⟩ <;> (refine cu_cell hbk ?_; assumption)))
                      (first | (go_at_call 24; refine (chTraded x _).mono ?_; rintro e w5 ⟨rfl, hbk⟩; have hq5 := HQd.out.below hbk; have q0 := cu_blk (j := 0) hq5 rfl; have q1 := cu_blk (j := 1) hq5 rfl; have q2 := cu_blk (j := 2) hq5 rfl; have f0 := cu_free (j := 0) hq5; have f1 := cu_free (j := 1) hq5; have f2 := cu_free (j := 2) hq5; have HB9 : Hid (Below w.heap.size w w5) := cu_then HBd.out hbk; have HQ5 : Hid (QuoAt w5 w.heap.size) := hq5; clear hq5))
                    have hwrap : IntKind.i64.wrap (x.dem - x.sup) = x.dem - x.sup := IntWalk.i64_in _ (by omega)
                    rw [hwrap]
                    have hF := cu_set (j := 2) (.int .i64 (x.dem - x.sup)) (cu_set (j := 1) (.int .i64 (trB x)) (cu_set (j := 0) (.int .i64 x.price) HQ5.out))
                    have HB10 : Hid (Below w.heap.size w (((w5.setCell ⟨w.heap.size, 0, none⟩ (.int .i64 x.price)).setCell ⟨w.heap.size, 1, none⟩ (.int .i64 (trB x))).setCell ⟨w.heap.size, 2, none⟩ (.int .i64 (x.dem - x.sup)))) := ((HB9.out.setCell (Nat.le_refl _) _).setCell (Nat.le_refl _) _).setCell (Nat.le_refl _) _
                    rename_i hHeld9
                    clear hHeld9 q0 q1 q2 f0 f1 f2 hbk x0 x1 x2 hwrap
                    generalize ((w5.setCell ⟨w.heap.size, 0, none⟩ (.int .i64 x.price)).setCell ⟨w.heap.size, 1, none⟩ (.int .i64 (trB x))).setCell ⟨w.heap.size, 2, none⟩ (.int .i64 (x.dem - x.sup)) = V at hF HB10 ⊢
                    have z0 := cu_blk (j := 0) hF rfl
                    have z1 := cu_blk (j := 1) hF rfl
                    have z2 := cu_blk (j := 2) hF rfl
                    clear hF
                    go_wp2_with fail
                    refine bodyPost_ret (by simp [results, Tryd.results12, go_sem, z0, z1, z2]; try rfl) rfl ?_
                    exact ⟨by rw [HC1.out.1, HC1.out.2.1, HC1.out.2.2], HB10.out⟩
end Go.Proofs.YtkfmljokenclaabDoor
