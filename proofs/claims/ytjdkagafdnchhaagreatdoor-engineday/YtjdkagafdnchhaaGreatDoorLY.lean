/-
  The law EngineDay, walked over this seat's translation: whatever the numbers, the table's steps and the day's steps are, it returns true. Conditions stand in each theorem: the cell of errors.errorType (ErrT).
-/
import Derived.Test.YtjdkagafdnchhaaGreatDoorLX
import Derived.Deep.LoopGhost
import Derived.Test.YtjdkagafdnchhaaGreatDoorRows
import Derived.ProofKit
import Derived.OpenShut
import Derived.Deep.Fields
import Derived.Deep.Slices
import Derived.LaidLaws
import Derived.LaidHandle
namespace Go.Proofs.YtjdkagafdnchhaaGreatDoor
open Go.RowKit Go.Maps

theorem tickA_now (was is : Int) (m : Mkt) : (tickA was is m).2.now = m.now := by
  unfold tickA
  split
  · show (if m.ph = 5 then (uncM m).2 else m).now = m.now
    split
    · exact uncM_now m
    · rfl
  split
  · rfl
  split
  · exact uncM_now m
  split
  · rfl
  split
  · rfl
  split
  · split
    · exact uncM_now m
    split <;> rfl
  · rfl
theorem tickM_now {M : Mkt} (h : M.ph ≠ 7) : (tickM M).2.now = M.now + 1 := by
  unfold tickM
  rw [if_neg h]
  exact tickA_now _ _ _
/-- between two of the last ticks -/
def TickLp (w : World) (base db : Nat) (c : DCfg) (gk : Nat) (wr : World) : Prop :=
  ∃ (d : DayK) (M : Mkt) (lots lots' side : Int → Int) (since since' : Int) (hands : Bool), Day wr base c d M lots side since hands ∧ DayInv M lots' side since' hands ∧ d.db = db ∧ d.k.m ≤ 302 * (100 + M.now.toNat) ∧ M.now ≤ (rowAt c.rs 4).1 ∧ gk = ((rowAt c.rs 4).1 - M.now).toNat
    ∧ Below w.heap.size w wr ∧ (w.heap.size ≤ base ∧ base ≤ wr.heap.size)
theorem DayLp.ticks {w wr : World} {base g db : Nat} {c : DCfg} {i : Nat} (h : DayLp w base g db c i wr) (hi : i ≤ 100) : ∃ gk, TickLp w base db c gk wr := by
  obtain ⟨d, M, lots, side, since, hands, hD, hI, rfl, hm, hnl, hns, hnow, hsn, hbw, hbb, hrow⟩ := h
  exact ⟨_, d, M, lots, lots, side, since, since, hands, hD, hI, rfl, by omega, hnow, rfl, hbw, hbb⟩
theorem TickLp.below {w wr wr' : World} {base db : Nat} {c : DCfg} {gk : Nat} (h : TickLp w base db c gk wr) (hb : Below wr.heap.size wr wr') : TickLp w base db c gk wr' := by
  obtain ⟨d, M, lots, lots', side, since, since', hands, hD, hI, rfl, hm, hnow, hgk, hbw, hbb⟩ := h
  exact ⟨d, M, lots, lots', side, since, since', hands, hD.below hb, hI, rfl, hm, hnow, hgk, bel_then hbw hb, ⟨hbb.1, Nat.le_trans hbb.2 hb.size⟩⟩
set_option maxRecDepth 8000 in
set_option maxHeartbeats 8000000 in
theorem day_walk (a b c0 e0 f0 : Int) (wa : Option Addr) (ca : Nat) (ws : List Int) (la : Option Addr) (n cap : Nat) (X : Nat → Nat → Int) (w : World)
    (hws : ∀ (j : Nat) (z : Int), ws[j]? = some z → ∃ gb go, wa = some ⟨gb, go, none⟩ ∧ w.cell? ⟨gb, go + j, none⟩ = some (.int .i64 z)) (hlen : ws.length ≤ 10) (hn : n ≤ 100) (hX : StepsIn w la n X) (hg : ErrT w) :
    Calls Tryz.prog 4 #[.int .i64 a, .int .i64 b, .int .i64 c0, .int .i64 e0, .int .i64 f0, .slice wa ws.length ca, .slice la n cap] w fun e w' => e = .returned (.bool true) ∧ Below w.heap.size w w' := by
  have HX : Hid (StepsIn w la n X) := hX
  have HG : Hid (ErrT w) := hg
  have HW : Hid (∀ (j : Nat) (z : Int), ws[j]? = some z → ∃ gb go, wa = some ⟨gb, go, none⟩ ∧ w.cell? ⟨gb, go + j, none⟩ = some (.int .i64 z)) := hws
  have k1 : decide ((n : Int) > 100) = false := decide_eq_false (by omega)
  have k2 : decide ((ws.length : Int) > 10) = false := decide_eq_false (by omega)
  clear hX hws hg
  go_enter Tryz.func4, Tryz.ntmps4
  go_wp2_with fail
  refine (drTraded w).mono ?_
  rintro e w1 ⟨rfl, hb1⟩
  have HB1 : Hid (Below w.heap.size w w1) := hb1
  clear hb1
  go_wp2_with fail
  refine (drBegins a b c0 e0 f0 wa ca ws w1 (fun j z hj => by
    obtain ⟨gb, go, e, hc⟩ := HW.out j z hj
    exact ⟨gb, go, e, (HB1.out.cell (p := ⟨gb, go + j, none⟩) (World.block_lt_of_cell? w _ hc)).trans hc⟩) hlen).mono ?_
  rintro e w2 ⟨base, c, d, M, g, vc, rfl, hB⟩
  obtain ⟨hC, hL⟩ := begIs_lp hB HB1.out
  have HC : Hid (CfgOk c base g vc) := hC
  have HL : Hid (DayLp w base g d.db c 0 w2) := hL
  generalize d.db = db at HL ⊢
  clear hB hC hL d M
  go_wp2_with fail
  go_loopw [16] (fun u16 wr => ∃ i : Nat, u16 = .int .i64 i ∧ i ≤ n ∧ DayLp w base g db c i wr) (fun u16 _ => n - (intOf u16).toNat)
  case atStart => exact ⟨0, rfl, Nat.zero_le _, HL.out⟩
  case round =>
    obtain ⟨i, rfl, hi, hlp⟩ := hrel
    by_cases hin : i < n
    · have hlt : (i : Int) < (n : Int) := by omega
      obtain ⟨lb, lo, rfl, hc⟩ := HX.out i hin
      have HD : Hid (DayLp w base g db c i wr) := hlp
      have hbw : Below w.heap.size w wr := by obtain ⟨_, _, _, _, _, _, _, _, _, _, _, _, _, _, hbw, _⟩ := hlp; exact hbw
      have x : ∀ j, j < 6 → wr.cell? ⟨lb, lo + i * 6 + j, none⟩ = some (.int .i64 (X i j)) := fun j hj => (hbw.cell (p := ⟨lb, lo + i * 6 + j, none⟩) (World.block_lt_of_cell? w _ (hc j hj))).trans (hc j hj)
      have x0 : wr.cell? ⟨lb, lo + i * 6, none⟩ = some (.int .i64 (X i 0)) := x 0 (by decide)
      have x1 := x 1 (by decide)
      have x2 := x 2 (by decide)
      have x3 := x 3 (by decide)
      have x4 := x 4 (by decide)
      have x5 := x 5 (by decide)
      clear hlp hbw x hc
      go_wp2_with fail
      refine (HD.out.does HC.out (by omega) (X i 0) ⟨X i 1, X i 2, X i 3, X i 4, X i 5⟩).mono ?_
      rintro e w3 ⟨rfl, h3⟩
      have H3 : Hid (DayLp w base g db c (i + 1) w3) := h3
      clear h3 x0 x1 x2 x3 x4 x5
      go_wp2_with fail
      go_roundw
      case rel => exact ⟨i + 1, by go_num, by omega, H3.out⟩
      case measure => first | (simp [RowKit.intOf]; omega) | (show n - (i + 1) < n - i; omega) | omega
    · have hge : ¬ (i : Int) < (n : Int) := by omega
      have HD : Hid (DayLp w base g db c i wr) := hlp
      obtain ⟨en, hen⟩ : ∃ en : Int, en = (rowAt c.rs 4).1 := ⟨_, rfl⟩
      have HEN : Hid (en = (rowAt c.rs 4).1) := hen
      have HEND : Hid ((0 < en ∧ en ≤ 240) ∧ ∀ now : Int, (phaseV c.rs now).1 = 7 ↔ en ≤ now) := by
        show _ ∧ _
        rw [hen]
        obtain ⟨t, ht⟩ := HC.out.tab
        exact ht.ends
      have hk : (∀ dq os, (Go.Sort.grow (redrawn wr dq) os).cell? ⟨db, 1, none⟩ = some (.slice (some ⟨g, 0, none⟩) 5 vc)) ∧ (∀ dq os, (Go.Sort.grow (redrawn wr dq) os).cell? ⟨g, 8, none⟩ = some (.int .i64 en)) := by
        obtain ⟨d, M, lots, side, since, hands, hD, hI, e, hm, hnl, hns, hnow, hsn, hbw, hbb, hrow⟩ := hlp
        subst e
        refine ⟨cell_regrown (blk_cell (j := 1) (v := .slice (some ⟨g, 0, none⟩) 5 vc) hD.box (by rw [← HC.out.tv]; rfl)), cell_regrown ?_⟩
        have h8 := hrow 8 (.int .i64 (rowAt c.rs 4).1) (by
          obtain ⟨t, ht⟩ := HC.out.tab
          obtain ⟨t1, t2, t3, t4, e, _⟩ := ht.is
          rw [e]; rfl)
        rw [hen]
        rw [Nat.zero_add] at h8
        exact h8
      obtain ⟨q1, q8⟩ := hk
      clear hlp hen
      go_upto_region 13 with fail
      refine wp_region_quiet_below (by kernel_rfl) (by kernel_rfl) ?_
      repeat (go_big_quiet_step (fail))
      refine wpQuiet_nil ?_
      intro _ hw'
      obtain ⟨⟨dq, osq⟩, hw''⟩ := hw'
      subst hw''
      have hb4 := below_regrown wr dq osq
      obtain ⟨gk0, ht0⟩ := HD.out.ticks (by omega)
      have HT0 : Hid (TickLp w base db c gk0 (Go.Sort.grow (redrawn wr dq) osq)) := ht0.below hb4
      generalize Go.Sort.grow (redrawn wr dq) osq = w4 at HT0 ⊢
      clear hb4 ht0 HD q1 q8
      go_wp2_with fail
      go_loopg [18] gk0 (fun gk _ wt => TickLp w base db c gk wt)
      case atStart => exact HT0.out
      case round =>
        obtain ⟨d, M, lots, lots', side, since, since', hands, hD, hI, rfl, hm, hnow, hgk, hbw, hbb⟩ := hrel
        have HD : Hid (Day wr base c d M lots side since hands) := hD
        have HI : Hid (DayInv M lots' side since' hands) := hI
        have HGK : Hid (gk = (en - M.now).toNat) := by show _ = _; rw [HEN.out]; exact hgk
        have HBW : Hid (Below w.heap.size w wr ∧ (w.heap.size ≤ base ∧ base ≤ wr.heap.size)) := ⟨hbw, hbb⟩
        have HNW : Hid (M.now ≤ en ∧ 0 ≤ M.now) := by show _ ∧ _; rw [HEN.out]; exact ⟨hnow, hI.now⟩
        have HKM : Hid (d.k.m ≤ 302 * (100 + M.now.toNat)) := hm
        have HRS : Hid (M.rs = c.rs) := hD.cfg.1
        have y0 : wr.cell? ⟨d.db, 0, none⟩ = some (.pointer (some ⟨d.eb, 0, none⟩)) := blk_cell (j := 0) hD.box rfl
        clear hD hI hgk hbw hbb hnow hm
        go_wp2_with fail
        refine (egNow d.eb d.k M wr HD.out.eg).mono ?_
        rintro e wr' ⟨rfl, hw⟩
        subst hw
        by_cases hlt : M.now < en
        · have HPH : Hid (M.ph ≠ 7) := fun e7 => by
            rcases HI.out.ph with e | ⟨e, _⟩ | e
            · omega
            · omega
            · rw [e7, HRS.out] at e
              have := (HEND.out.2 M.now).1 e.symm
              omega
          have n7 : (M.ph == 7) = false := beq_eq_false_iff_ne.2 HPH.out
          go_wp2_with fail
          refine (egPhase d.eb d.k M _ HD.out.eg).mono ?_
          rintro e wr' ⟨rfl, hw⟩
          subst hw
          go_wp2_with fail
          have hN : MNum M := HI.out.num (by have := HEND.out.1; omega)
          refine (egTick d.eb d.k M _ HD.out.eg hN HI.out.auct (by have := HEND.out.1; have := HKM.out; omega)).mono ?_
          rintro e w5 ⟨vf, err, rfl, he, k5, hr, hg5, hk5⟩
          obtain rfl : err = .nilIface := by
            rcases he with ⟨e, _⟩ | ⟨_, e⟩
            · exact e
            · exact absurd (by unfold tickN; rw [if_neg HPH.out]) e
          obtain ⟨t1, t2⟩ := HI.out.tick HD.out.eg.lok
          obtain ⟨t3, t4, _⟩ := tickM_len HD.out.eg.lok HD.out.eg.few100
          have t5 := tickM_now HPH.out
          have h5 : Day w5 base c { d with k := k5 } (tickM M).2 lots side since hands := HD.out.ofEg hg5 HBW.out.2.2 t4
          have b5 : Below base _ w5 := HD.out.belGo hg5 HBW.out.2.2
          have H5 : Hid (TickLp w base d.db c ((en - (M.now + 1)).toNat) w5) := ⟨{ d with k := k5 }, (tickM M).2, lots, fillsUp lots' (tickM M).1, side, since, sinceT M (tickM M).2 since', hands, h5, t2, rfl, by
              show k5.m ≤ _
              rw [t5]
              have := HKM.out
              have := HNW.out
              omega, by rw [t5, ← HEN.out]; omega, by rw [t5, HEN.out], HBW.out.1.trans (b5.mono HBW.out.2.1), ⟨HBW.out.2.1, Nat.le_trans HBW.out.2.2 b5.size⟩⟩
          clear h5 b5 t1 t2 t3 t4 t5 hg5 hk5 hr he hN
          go_wp2_with fail
          go_roundg ((en - (M.now + 1)).toNat)
          case rel => exact H5.out
          case measure => rw [HGK.out]; have := HNW.out; omega
        · have hge2 : ¬ M.now < en := hlt
          have hne : M.now = en := by have := HNW.out; omega
          have HNE : Hid (M.now = en) := hne
          have HP7 : Hid (M.ph = 7) := HI.out.fin (by rw [HRS.out]; exact (HEND.out.2 M.now).2 (by omega))
          have HNO : Hid (M.L = [] ∧ M.P = []) := HI.out.none HP7.out
          clear hne
          go_wp2_with fail
          refine (egSide d.eb 0 d.k M _ HD.out.eg (by decide) 1 (by decide)).mono ?_
          rintro e w5 ⟨v5, rfl, hr5, hb5⟩
          rw [HNO.out.1] at hr5
          have s1 : (sideO 1 []).length = 0 := rfl
          rw [s1] at hr5
          obtain ⟨a5, n5, rfl, _, _⟩ := owns_shape hr5
          have HD5 : Hid (Day w5 base c d M lots side since hands) := HD.out.below hb5
          have HB5 : Hid (Below w.heap.size w w5 ∧ base ≤ w5.heap.size) := ⟨bel_then HBW.out.1 hb5, Nat.le_trans HBW.out.2.2 hb5.size⟩
          have y5 : w5.cell? ⟨d.db, 0, none⟩ = some (.pointer (some ⟨d.eb, 0, none⟩)) := blk_cell (j := 0) HD5.out.box rfl
          clear hr5 hb5 s1
          go_wp2_with fail
          refine (egSide d.eb 1 d.k M _ HD5.out.eg (by decide) 2 (by decide)).mono ?_
          rintro e w6 ⟨v6, rfl, hr6, hb6⟩
          rw [HNO.out.1] at hr6
          have s2 : (sideO 2 []).length = 0 := rfl
          rw [s2] at hr6
          obtain ⟨a6, n6, rfl, _, _⟩ := owns_shape hr6
          have HD6 : Hid (Day w6 base c d M lots side since hands) := HD5.out.below hb6
          have HB6 : Hid (Below w.heap.size w w6 ∧ base ≤ w6.heap.size) := ⟨bel_then HB5.out.1 hb6, Nat.le_trans HB5.out.2 hb6.size⟩
          have y6 : w6.cell? ⟨d.db, 0, none⟩ = some (.pointer (some ⟨d.eb, 0, none⟩)) := blk_cell (j := 0) HD6.out.box rfl
          clear hr6 hb6 s2
          have hon : ordN M ⟨900, 1, 1, 5, 1⟩ = 6 := by
            unfold ordN
            rw [HP7.out]
            rfl
          have HON : Hid (ordN M ⟨900, 1, 1, 5, 1⟩ = 6 ∧ ordM M ⟨900, 1, 1, 5, 1⟩ = ([], M)) := ⟨hon, by unfold ordM; rw [if_neg (by rw [hon]; decide)]⟩
          have hN : MNum M := HI.out.num (by have := HEND.out.1; have := HNW.out; omega)
          have HN : Hid (MNum M) := hN
          clear hon hN
          go_wp2_with fail
          refine (egOrder d.eb d.k M ⟨900, 1, 1, 5, 1⟩ w6 HD6.out.eg HN.out (by decide) (by have := HEND.out.1; have := HKM.out; have := HNW.out; omega)).mono ?_
          rintro e w7 ⟨vf, err, rfl, he, k7, hr7, hg7, hk7⟩
          rw [HON.out.1] at he
          rw [HON.out.2] at hg7
          obtain rfl : err = .iface 32 (.int .i64 6) := by
            rcases he with ⟨_, e⟩ | ⟨e, _⟩
            · exact absurd e (by decide)
            · exact e
          have HD7 : Hid (Day w7 base c { d with k := k7 } M lots side since hands) := HD6.out.ofEg hg7 HB6.out.2 ⟨rfl, rfl, rfl, rfl, rfl⟩
          have hb7 : Below base w6 w7 := HD6.out.belGo hg7 HB6.out.2
          have HB7 : Hid (Below w.heap.size w w7) := HB6.out.1.trans (hb7.mono HBW.out.2.1)
          have y7 : w7.cell? ⟨d.db, 0, none⟩ = some (.pointer (some ⟨d.eb, 0, none⟩)) := blk_cell (j := 0) HD7.out.box rfl
          clear he hr7 hg7 hk7 hb7 y6 y5 y0
          have n7 : (M.ph == 7) = true := beq_iff_eq.2 HP7.out
          have nn : (M.now == en) = true := beq_iff_eq.2 HNE.out
          go_wp2_with fail
          refine (egPhase d.eb k7 M w7 HD7.out.eg).mono ?_
          rintro e w7' ⟨rfl, hw⟩
          subst hw
          go_wp2_with fail
          refine (egParked d.eb k7 M w7' HD7.out.eg (by rw [HNO.out.2]; decide)).mono ?_
          rintro e w8 ⟨v8, rfl, hr8, hb8⟩
          rw [HNO.out.2] at hr8
          obtain ⟨a8, n8, rfl, _, _⟩ := owns_shape (show w8.ownsRow _ 41 5 v8 0 _ from hr8)
          have HD8 : Hid (Day w8 base c { d with k := k7 } M lots side since hands) := HD7.out.below hb8
          have HB8 : Hid (Below w.heap.size w w8) := bel_then HB7.out hb8
          clear hr8 hb8 y7
          go_wp2_with fail
          refine (tell_errno 6 w8 (HG.out.below HB8.out)).mono ?_
          rintro e w9 ⟨rfl, hb9⟩
          have HD9 : Hid (Day w9 base c { d with k := k7 } M lots side since hands) := HD8.out.below hb9
          have HB9 : Hid (Below w.heap.size w w9) := bel_then HB8.out hb9
          have y9 : w9.cell? ⟨d.db, 0, none⟩ = some (.pointer (some ⟨d.eb, 0, none⟩)) := blk_cell (j := 0) HD9.out.box rfl
          clear hb9
          go_wp2_with fail
          refine (egNow d.eb k7 M w9 HD9.out.eg).mono ?_
          rintro e w9' ⟨rfl, hw⟩
          subst hw
          go_wp2_with fail
          go_ret
          exact ⟨rfl, HB9.out⟩
end Go.Proofs.YtjdkagafdnchhaaGreatDoor

/-
  Arguments that are a list of whole numbers, or of a day's steps, taken apart: each lies in one block, each number an int. No conditions beyond the reading itself.
-/
namespace Go.Proofs.YtjdkagafdnchhaaGreatDoor
open Go.ChangeShapes Go.WideShapes Go.ChangeAt Go.RowKit Go.Deep

theorem Tryz.cellsInt1 : Tryz.prog.cellsOf 3 = 1 := by kernel_rfl
theorem Tryz.cellsOrd5 : Tryz.prog.cellsOf 41 = 5 := by kernel_rfl
theorem Tryz.cellsStep : Tryz.prog.cellsOf 80 = 6 := by kernel_rfl
/-- one cell that is a whole number -/
theorem int_cell {H : Type} {enc : TypeId × Value → H} {W : World} {fuel k : Nat} {cs : List Value} {y : DataW H × List MemPlace} (hk : k < cs.length) (g : DataW.trod enc Tryz.prog W 0 (fun _ => true) true fuel 3 ((cs.drop k).take (Tryz.prog.cellsOf 3)) = some y) : ∃ z, cs[k]? = some (.int .i64 z) ∧ (Lit.int .i64 z).wf = true := by
  rw [Tryz.cellsInt1, take1_drop cs k undef hk] at g
  obtain ⟨z, e1, _, w1⟩ := DataW.trod_int Tryz.underlying3 g
  simp only [List.cons.injEq, and_true] at e1
  rw [List.getD_eq_getElem?_getD, List.getElem?_eq_getElem hk, Option.getD_some] at e1
  exact ⟨z, by rw [List.getElem?_eq_getElem hk, e1], w1⟩
theorem some_of {α : Type} {l : List α} {n k : Nat} (h : l.length = n) (hk : k < n) : ∃ y, l[k]? = some y := ⟨l[k]'(by omega), List.getElem?_eq_getElem (by omega)⟩
set_option maxRecDepth 100000 in
theorem step_open {H : Type} {enc : TypeId × Value → H} {W : World} {a0 : Option Addr} {len cap : Nat} {d : DataW H} {ps : List MemPlace} (h : DataW.Trod enc Tryz.prog W 0 (fun _ => true) true 75 (.slice a0 len cap) d ps) :
    len = 0 ∨ ∃ (b off : Nat) (X : Nat → Nat → Int), a0 = some ⟨b, off, none⟩ ∧ ∀ i, i < len → ∀ j, j < 6 → W.cell? ⟨b, off + i * 6 + j, none⟩ = some (.int .i64 (X i j)) ∧ (Lit.int .i64 (X i j)).wf = true := by
  obtain ⟨fuel, hf⟩ := h
  rcases open_slice Tryz.underlying75 hf with ⟨hcs, _⟩ | ⟨a, len', cap', m, n, D, Pl, hcs, _, hl, _, hmm, _, hi⟩
  · simp [Value.cells] at hcs
    exact Or.inl hcs.2.1
  simp [Value.cells] at hcs
  obtain ⟨rfl, rfl, rfl⟩ := hcs
  simp only [if_true] at hmm
  subst hmm
  by_cases h0 : len = 0
  · exact Or.inl h0
  right
  obtain ⟨b, off, spot⟩ := a
  have each : ∀ i, i < len → ∃ f : Nat → Int, ∀ j, j < 6 → W.cell? (((⟨b, off, spot⟩ : Addr).add (i * 6)).add j) = some (.int .i64 (f j)) ∧ (Lit.int .i64 (f j)).wf = true := by
    intro i hil
    obtain ⟨cs, hc, ht'⟩ := hi i (by omega)
    obtain ⟨_, hlen, hcell⟩ := World.cells?_some hc
    rw [Tryz.cellsStep] at hlen hcell
    obtain ⟨xs, n', _, _, _, hxl, hfl⟩ := DataW.trod_struct Tryz.underlying80 ht'
    have hxl3 : xs.length = 2 := hxl
    obtain ⟨y0, e0⟩ := some_of hxl3 (k := 0) (by decide)
    obtain ⟨y1, e1⟩ := some_of hxl3 (k := 1) (by decide)
    have g0 := (hfl 0 _ rfl).trans e0
    have g1 := (hfl 1 _ rfl).trans e1
    have i0 := int_cell (k := 0) (by omega) g0
    obtain ⟨xs2, n2, _, _, _, hxl2, hfl2⟩ := DataW.trod_struct Tryz.underlying41 g1
    have hl2 : ((cs.drop 1).take (Tryz.prog.cellsOf 41)).length = 5 := by rw [Tryz.cellsOrd5, List.length_take, List.length_drop, hlen]; rfl
    have hx5 : xs2.length = 5 := hxl2
    have inner : ∀ k, k < 5 → (∀ y, DataW.trod enc Tryz.prog W 0 (fun _ => true) true n2 3 ((((cs.drop 1).take (Tryz.prog.cellsOf 41)).drop k).take (Tryz.prog.cellsOf 3)) = some y → ∃ z, cs[1 + k]? = some (.int .i64 z) ∧ (Lit.int .i64 z).wf = true) := fun k hk y g => by
      obtain ⟨z, hz, hw⟩ := int_cell (k := k) (by rw [hl2]; exact hk) g
      rw [Tryz.cellsOrd5, List.getElem?_take, if_pos hk, List.getElem?_drop] at hz
      exact ⟨z, hz, hw⟩
    obtain ⟨z0, u0⟩ := some_of hx5 (k := 0) (by decide)
    obtain ⟨z1, u1⟩ := some_of hx5 (k := 1) (by decide)
    obtain ⟨z2, u2⟩ := some_of hx5 (k := 2) (by decide)
    obtain ⟨z3, u3⟩ := some_of hx5 (k := 3) (by decide)
    obtain ⟨z4, u4⟩ := some_of hx5 (k := 4) (by decide)
    have j0 := inner 0 (by decide) z0 ((hfl2 0 _ rfl).trans u0)
    have j1 := inner 1 (by decide) z1 ((hfl2 1 _ rfl).trans u1)
    have j2 := inner 2 (by decide) z2 ((hfl2 2 _ rfl).trans u2)
    have j3 := inner 3 (by decide) z3 ((hfl2 3 _ rfl).trans u3)
    have j4 := inner 4 (by decide) z4 ((hfl2 4 _ rfl).trans u4)
    refine choose_lt (p := fun j z => W.cell? (((⟨b, off, spot⟩ : Addr).add (i * 6)).add j) = some (.int .i64 z) ∧ (Lit.int .i64 z).wf = true) fun j hj => ?_
    have all : ∃ z, cs[j]? = some (.int .i64 z) ∧ (Lit.int .i64 z).wf = true := by
      match j, hj with
      | 0, _ => exact i0
      | 1, _ => exact j0
      | 2, _ => exact j1
      | 3, _ => exact j2
      | 4, _ => exact j3
      | 5, _ => exact j4
    obtain ⟨z, hz, hw⟩ := all
    exact ⟨z, (hcell j hj).trans hz, hw⟩
  obtain ⟨X, hX⟩ := choose_lt (p := fun i (f : Nat → Int) => ∀ j, j < 6 → W.cell? (((⟨b, off, spot⟩ : Addr).add (i * 6)).add j) = some (.int .i64 (f j)) ∧ (Lit.int .i64 (f j)).wf = true) each
  have hspot : spot = none := by simpa [Addr.add] using World.cell?_spot (hX 0 (by omega) 0 (by decide)).1
  subst hspot
  refine ⟨b, off, X, rfl, fun i hil j hj => ?_⟩
  have := hX i hil j hj
  rwa [add_plain, add_plain] at this
set_option maxRecDepth 100000 in
theorem ints_open {H : Type} {enc : TypeId × Value → H} {W : World} {a0 : Option Addr} {len cap : Nat} {d : DataW H} {ps : List MemPlace} (h : DataW.Trod enc Tryz.prog W 0 (fun _ => true) true 65 (.slice a0 len cap) d ps) :
    len = 0 ∨ ∃ (b off : Nat) (Z : Nat → Int), a0 = some ⟨b, off, none⟩ ∧ ∀ i, i < len → W.cell? ⟨b, off + i, none⟩ = some (.int .i64 (Z i)) := by
  obtain ⟨fuel, hf⟩ := h
  rcases Deep.open_slice1 Tryz.underlying65 Tryz.cellsInt1 hf with ⟨hcs, _⟩ | ⟨a, len', cap', m, n, V, D, Pl, hcs, _, hl, _, hmm, _, hi⟩
  · simp [Value.cells] at hcs
    exact Or.inl hcs.2.1
  simp [Value.cells] at hcs
  obtain ⟨rfl, rfl, rfl⟩ := hcs
  simp only [if_true] at hmm
  subst hmm
  by_cases h0 : len = 0
  · exact Or.inl h0
  right
  obtain ⟨b, off, spot⟩ := a
  have hspot : spot = none := by simpa [Addr.add] using World.cell?_spot (hi 0 (by omega)).1
  subst hspot
  refine ⟨b, off, fun i => intOf (V i), rfl, fun i hil => ?_⟩
  obtain ⟨c0, t0⟩ := hi i (by omega)
  obtain ⟨x, e1, _, _⟩ := DataW.trod_int Tryz.underlying3 t0
  rw [add_plain] at c0
  have e2 : V i = .int .i64 x := by simpa using e1
  show W.cell? _ = some (Value.int .i64 (intOf (V i)))
  rw [c0, e2]; rfl

end Go.Proofs.YtjdkagafdnchhaaGreatDoor

/-
  What the row's list of package variables gives: the cell of errors.errorType holds the handle of the type error (ErrT); and the closed facts on the program that every row of this seat asks.
-/
namespace Go.Proofs.YtjdkagafdnchhaaGreatDoor
open Go.RowKit

theorem Tryz.own : ownKnob Tryz.prog.godebug = none := by kernel_rfl
theorem Tryz.et : Tryz.prog.globalNamed "errors.errorType" = some 0 := by kernel_rfl
/-- the name of the dynamic type that the row lays in errors.errorType -/
def rtName : String := match (Rows.laid_errors_errorType : DataW Unit) with | .iface n _ => n | _ => default
theorem Tryz.rt : (Tryz.prog.cutTypes.find? (·.1 == rtName)).map (·.2) = some 249 := by kernel_rfl
theorem Tryz.oneRow : ((List.range 322).filter fun t => Tryz.prog.rowNamed t [101, 114, 114, 111, 114]) = [28] := by kernel_rfl
theorem Tryz.size : Tryz.prog.types.size = 322 := by kernel_rfl

def laidList : List (String × DataW Unit) := [("errors.errorType", Rows.laid_errors_errorType)]

theorem errT_of_laid {W : World} (h : laidMetH Tryz.prog laidList W) : ErrT W := by
  have h' : laidMet Tryz.prog [] W ∧ handlesMet Tryz.prog laidList W := h
  obtain ⟨name, u, ty, e1, e2, e3, e4, e5⟩ := h'.2 _ (List.mem_singleton.2 rfl)
  have en : name = [101, 114, 114, 111, 114] := (Option.some.inj e1).symm
  subst en
  obtain rfl := Option.some.inj (Tryz.rt.symm.trans e2)
  have hm : ty ∈ (List.range 322).filter fun t => Tryz.prog.rowNamed t [101, 114, 114, 111, 114] := List.mem_filter.2 ⟨List.mem_range.2 (by rw [← Tryz.size]; exact e3), e4⟩
  rw [Tryz.oneRow] at hm
  obtain rfl := List.mem_singleton.1 hm
  have hh : typeHandle Tryz.prog 28 = .pointer (some ⟨1, 28, none⟩) := by kernel_rfl
  rw [hh] at e5
  simpa [ErrT] using World.var?_cell Tryz.et e5 0

/-- A world, the cell of errors.errorType laid. -/
def withErrT (w : World) : World := { w with heap := w.heap.modify 0 fun
  | .cells _ t frozen => .cells #[.iface 249 (.agg #[.pointer (some ⟨1, 28, none⟩)])] t frozen
  | o => o }
end Go.Proofs.YtjdkagafdnchhaaGreatDoor
