/-
  What the program's Meets (8.2) returns, over this seat's translation. Conditions stand in the theorem. (Written by wip/dev/genmp.py: the walk's ends are one text.)
-/
import Derived.Test.YtcoijhofliilmabGreatDoorGQ
import Derived.Deep.RegionWith
import Derived.Test.YtcoijhofliilmabGreatDoorGN
import Derived.Maps.AppendAt
namespace Go.Proofs.YtcoijhofliilmabGreatDoor
open Go.RowKit

theorem Mp.more {w W : World} {bb m m' ob rb B : Nat} {vx vf : Value} {b b' : BkS} {X : List Ord} {o : Ord} {s : MS} {St : World → List Int → (Nat → Prop) → Prop} {D0 D : Nat → Prop} (h : Mp w W bb m ob rb B vx vf b b' X o s St D0 D) (hm : m ≤ m') (hs : m' ≤ 900) : Mp w W bb m' ob rb B vx vf b b' X o s St D0 D :=
  ⟨h.old, h.row, h.box, h.res, h.bk.more hm hs, h.lnk, h.fils, h.told, h.out, h.went, h.dees, h.apart⟩
theorem xAt_drop {X : List Ord} {k : Nat} (h : k < X.length) : X.drop k = oAt X k :: X.drop (k + 1) := by
  rw [List.drop_eq_getElem_cons h]
  congr 1
  simp [oAt, h]

set_option maxRecDepth 4000 in
set_option maxHeartbeats 8000000 in
theorem cpMeets (bb m : Nat) (b : BkS) (L : List Ord) (o : Ord) (ga gt : Nat) (la lt : Array Value) (al : Int → Bool) (St : World → List Int → (Nat → Prop) → Prop) (D : Nat → Prop) (w : World) (h : Bk w bb m b) (hm : m ≤ 700) (hl : Lnk b.S L) (hok : LOk L) (hside : o.side = 1 ∨ o.side = 2) (hqb : -9223372036854775808 ≤ o.qty ∧ o.qty ≤ 9223372036854775807) (hA : AskFn ga la al (fun j => b.foot bb j ∨ D j) w) (hT : TellFn gt lt St) (hst : St w [] D) (hap : ∀ j, D j → ¬ b.foot bb j) :
    Calls Tryz.prog 15 #[.pointer (some ⟨bb, 0, none⟩), .agg #[.int .i64 o.id, .int .i64 o.side, .int .i64 o.kind, .int .i64 o.price, .int .i64 o.qty], .func (.func ga) #[] la, .func (.func gt) #[] lt] w
      fun e w' => MeetsP al o L bb m b St D w e w' := by
  obtain ⟨iF, hiF, hF0, hF1, hF2⟩ := info_parts Tryz.infoFp
  have HA : Hid (Bk w bb m b) := h
  have HL : Hid (Lnk b.S L) := hl
  have HK : Hid (LOk L) := hok
  have HAF : Hid (AskFn ga la al (fun j => b.foot bb j ∨ D j) w) := hA
  have HTF : Hid (TellFn gt lt St) := hT
  have HST : Hid (St w [] D) := hst
  have HAP : Hid (∀ j, D j → ¬ b.foot bb j) := hap
  have HS : Hid (o.side = 1 ∨ o.side = 2) := hside
  obtain ⟨s0, hs0, hs1⟩ : ∃ s0 : Nat, s0 < 2 ∧ 3 - o.side = (s0 : Int) + 1 := by
    rcases hside with e | e
    · exact ⟨1, by decide, by rw [e]; rfl⟩
    · exact ⟨0, by decide, by rw [e]; rfl⟩
  have HS1 : Hid (3 - o.side = (s0 : Int) + 1) := hs1
  have hL100 : L.length ≤ 100 := lnk_few h.ok hl
  clear h hl hok hA hT hst hap hside hs1
  go_enter Tryz.func15, Tryz.ntmps15
  go_wp2_with fail
  have hB0 := bel2 w (.cells #[.int .i64 o.id, .int .i64 o.side, .int .i64 o.kind, .int .i64 o.price, .int .i64 o.qty] 40) (.cells #[.int .i64 0, .int .i64 0, .int .i64 0, .int .i64 0, .int .i64 0] 40)
  have hO0 := two_old w (.cells #[.int .i64 o.id, .int .i64 o.side, .int .i64 o.kind, .int .i64 o.price, .int .i64 o.qty] 40) (.cells #[.int .i64 0, .int .i64 0, .int .i64 0, .int .i64 0, .int .i64 0] 40)
  have hR0 := two_new w (.cells #[.int .i64 o.id, .int .i64 o.side, .int .i64 o.kind, .int .i64 o.price, .int .i64 o.qty] 40) (.cells #[.int .i64 0, .int .i64 0, .int .i64 0, .int .i64 0, .int .i64 0] 40)
  generalize (w.alloc (.cells #[.int .i64 o.id, .int .i64 o.side, .int .i64 o.kind, .int .i64 o.price, .int .i64 o.qty] 40)).alloc (.cells #[.int .i64 0, .int .i64 0, .int .i64 0, .int .i64 0, .int .i64 0] 40) = w1 at hB0 hO0 hR0 ⊢
  refine (cpOther o.side HS.out w1).mono ?_
  rintro e w1' ⟨rfl, hw⟩
  subst hw
  go_wp2_with fail
  refine (cpLying bb m s0 b L w1' (HA.out.below hB0 (Nat.le_refl _)) HL.out hs0 (3 - o.side) HS1.out).mono ?_
  rintro e w2 ⟨vx, rfl, hrx, hb2⟩
  have hm0 := Mp.start HTF.out HA.out HL.out HST.out HAP.out hB0 hO0 hR0 (Nat.le_refl _) (by omega) (by omega) hrx hb2
  have HM0 : Hid _ := hm0
  have HMO : Hid _ := MOk.start HK.out (3 - o.side) o.qty
  obtain ⟨xa, xc, rfl, _, _⟩ := owns_shape hrx
  have hXl : (sideO (3 - o.side) L).length ≤ L.length := sideO_len _ _
  generalize hX : sideO (3 - o.side) L = X at *
  have HXE : Hid (sideO (3 - o.side) L = X) := hX
  generalize w1'.heap.size = B at *
  clear hX hrx hb2 hB0 hO0 hR0 hm0 HST HAP HS1 HA HL HK
  go_wp2_with fail
  go_loopw [11, 13, 14, 21] (fun u11 _ _ u21 wr => ∃ (k : Nat) (s : MS) (b' : BkS) (D' : Nat → Prop), u21 = .int .i64 k ∧ k ≤ X.length ∧ meet al o (X.drop k) s = meet al o X ⟨[], L, o.qty, []⟩ ∧ MOk (X.drop k) s ∧ s.fs.length ≤ k ∧ (-9223372036854775808 ≤ s.q ∧ s.q ≤ 9223372036854775807) ∧ Mp w wr bb (m + k) w.heap.size (w.heap.size + 1) B (.slice xa X.length xc) u11 b b' X o s St D D') (fun _ _ _ u21 _ => X.length - (intOf u21).toNat)
  case atStart => exact ⟨0, _, b, D, rfl, Nat.zero_le _, rfl, HMO.out, Nat.le_refl _, hqb, HM0.out⟩
  case round =>
    obtain ⟨k, s, b', D', rfl, hk, hmt, hmo, hfl, hsq, hM⟩ := hrel
    have HMT : Hid (meet al o (X.drop k) s = meet al o X ⟨[], L, o.qty, []⟩) := hmt
    have HM : Hid (Mp w wr bb (m + k) w.heap.size (w.heap.size + 1) B (.slice xa X.length xc) u11 b b' X o s St D D') := hM
    have HMK : Hid (MOk (X.drop k) s) := hmo
    obtain ⟨fa, fc, rfl, _, _⟩ := owns_shape hM.fils
    clear hmt hmo HM0 HMO
    by_cases hk1 : k < X.length
    · have hlt : (k : Int) < (X.length : Int) := by omega
      obtain ⟨g, cap, e, d0, d1, d2, d3, d4⟩ := row_order hM.row hk1
      injection e with e1 _ e2
      subst e1 e2
      have HD : Hid (X.drop k = oAt X k :: X.drop (k + 1)) := xAt_drop hk1
      generalize oAt X k = x at d0 d1 d2 d3 d4 HD
      clear hM
      go_upto_region 5 with fail
      have hbA := bel1 wr (.cells #[.int .i64 x.id, .int .i64 x.side, .int .i64 x.kind, .int .i64 x.price, .int .i64 x.qty] 40)
      have hxA := heap_alloc_new wr (.cells #[.int .i64 x.id, .int .i64 x.side, .int .i64 x.kind, .int .i64 x.price, .int .i64 x.qty] 40)
      have hMW := HM.out.below HTF.out hbA
      generalize wr.alloc (.cells #[.int .i64 x.id, .int .i64 x.side, .int .i64 x.kind, .int .i64 x.price, .int .i64 x.qty] 40) = W at hbA hxA hMW ⊢
      have hR := HM.out.res
      clear hbA HM d0 d1 d2 d3 d4
      have hxb : w.heap.size + 1 < wr.heap.size := lt_of_block hR
      clear hR
      generalize wr.heap.size = xb at hxA hxb ⊢
      have HX : Hid (OrdAt W xb x) := hxA
      have HM : Hid (Mp w W bb (m + k) w.heap.size (w.heap.size + 1) B (.slice (some ⟨g, 0, none⟩) X.length xc) (.slice fa s.fs.length fc) b b' X o s St D D') := hMW
      have x0 := blk_cell (j := 0) hxA rfl
      have x1 := blk_cell (j := 1) hxA rfl
      have x2 := blk_cell (j := 2) hxA rfl
      have x3 := blk_cell (j := 3) hxA rfl
      have x4 := blk_cell (j := 4) hxA rfl
      have hoA : W.heap[w.heap.size]? = some (.cells #[.int .i64 o.id, .int .i64 o.side, .int .i64 o.kind, .int .i64 o.price, .int .i64 s.q] 40 (0, 0)) := hMW.box
      have o0 := blk_cell (j := 0) hoA rfl
      have o1 := blk_cell (j := 1) hoA rfl
      have o2 := blk_cell (j := 2) hoA rfl
      have o3 := blk_cell (j := 3) hoA rfl
      have o4 := blk_cell (j := 4) hoA rfl
      clear hxA hMW hoA
      by_cases hm2 : x.kind = 2
      · have hmb : (x.kind == 2) = true := beq_iff_eq.2 hm2
        have HM2 : Hid (meet al o (X.drop (k + 1)) s = meet al o X ⟨[], L, o.qty, []⟩) := by have := HMT.out; rw [HD.out, meet_next hm2] at this; exact this
        have HK2 : Hid (MOk (X.drop (k + 1)) s) := by have h1 := HMK.out; rw [HD.out] at h1; exact h1.pass
        clear hm2
        go_wp2_with fail
        go_roundw
        case rel => exact ⟨k + 1, s, b', D', by go_num, hk1, HM2.out, HK2.out, by omega, hsq, HM.out.more (by omega) (by omega)⟩
        case measure => simp [RowKit.intOf]; omega
      · have hmb : (x.kind == 2) = false := beq_eq_false_iff_ne.2 hm2
        have HMN : Hid (x.kind ≠ 2) := hm2
        clear hm2
        obtain ⟨cc, hcc⟩ : ∃ cc : Bool, (decide (s.q < 1) || farB o x) = cc := ⟨_, rfl⟩
        have HCC : Hid ((decide (s.q < 1) || farB o x) = cc) := hcc
        clear hcc
        go_upto_region 6 with fail
        go_cut [38] from 22 to 71 (fun u38 wc => u38 = .bool cc ∧ Below W.heap.size W wc)
        case first =>
          by_cases hq : s.q < 1
          · have hqd : decide (s.q < 1) = true := decide_eq_true hq
            have HC2 : Hid (cc = true) := by have := HCC.out; rw [hqd, Bool.true_or] at this; exact this.symm
            go_region
            all_goals go_wp2_with fail
            all_goals go_meet
            all_goals exact ⟨by rw [HC2.out], by (repeat' first | assumption | exact Below.refl _ _ | exact Nat.le_refl _ | refine Below.drew ?_ | refine Below.alloc ?_ ?_ _ | (simp; done) | (simp; omega))⟩
          · have hqd : decide (s.q < 1) = false := decide_eq_false hq
            have HC2 : Hid (cc = !(wilP x.price (leftO o s.q))) := by
              have := HCC.out
              rw [hqd, Bool.false_or] at this
              show cc = !(wilP x.price o)
              rw [wil_far HS.out, Bool.not_not]; exact this.symm
            have hbW := bel1 W (.cells #[.int .i64 x.price] 3)
            have HBW : Hid (Below W.heap.size W (W.alloc (.cells #[.int .i64 x.price] 3)).drew) := by show Below _ _ _; (repeat' first | assumption | exact Below.refl _ _ | exact Nat.le_refl _ | refine Below.drew ?_ | refine Below.alloc ?_ ?_ _ | (simp; done) | (simp; omega))
            have HNW : Hid ((W.alloc (.cells #[.int .i64 x.price] 3)).drew.heap[W.heap.size]? = some (.cells #[.int .i64 x.price] 3)) := by show _ = _; rw [drew_heap]; exact heap_alloc_new _ _
            have hoD := blk_below (B := W.heap.size) HM.out.box hbW (Nat.le_refl _)
            have p0 : (W.alloc (.cells #[.int .i64 x.price] 3)).cell? ⟨w.heap.size, 0, none⟩ = some (.int .i64 o.id) := blk_cell (j := 0) hoD rfl
            have p1 : (W.alloc (.cells #[.int .i64 x.price] 3)).cell? ⟨w.heap.size, 1, none⟩ = some (.int .i64 o.side) := blk_cell (j := 1) hoD rfl
            have p2 : (W.alloc (.cells #[.int .i64 x.price] 3)).cell? ⟨w.heap.size, 2, none⟩ = some (.int .i64 o.kind) := blk_cell (j := 2) hoD rfl
            have p3 : (W.alloc (.cells #[.int .i64 x.price] 3)).cell? ⟨w.heap.size, 3, none⟩ = some (.int .i64 o.price) := blk_cell (j := 3) hoD rfl
            have p4 : (W.alloc (.cells #[.int .i64 x.price] 3)).cell? ⟨w.heap.size, 4, none⟩ = some (.int .i64 s.q) := blk_cell (j := 4) hoD rfl
            clear hoD hbW
            go_region_with (first | (go_at_call 24; refine (cpWilling x.price _).mono ?_; rintro e w5 ⟨rfl, rfl⟩) | (go_at_call 52; refine (cpWil x.price (leftO o s.q) _ _ HNW.out).mono ?_; rintro e w6 ⟨rfl, hb6⟩))
            all_goals go_wp2_with fail
            all_goals go_meet
            all_goals exact ⟨by rw [HC2.out], HBW.out.trans (hb6.mono HBW.out.size)⟩
        case rest =>
          obtain ⟨rfl, hbc⟩ := hcut
          have hMc := HM.out.below HTF.out hbc
          have hXc : OrdAt wc xb x := blk_below HX.out hbc (Nat.le_refl _)
          clear hbc HM HX x0 x1 x2 x3 x4 o0 o1 o2 o3 o4
          have HX : Hid (OrdAt wc xb x) := hXc
          have HM : Hid (Mp w wc bb (m + k) w.heap.size (w.heap.size + 1) B (.slice (some ⟨g, 0, none⟩) X.length xc) (.slice fa s.fs.length fc) b b' X o s St D D') := hMc
          have x0 := blk_cell (j := 0) hXc rfl
          have x1 := blk_cell (j := 1) hXc rfl
          have x2 := blk_cell (j := 2) hXc rfl
          have x3 := blk_cell (j := 3) hXc rfl
          have x4 := blk_cell (j := 4) hXc rfl
          have hoA : wc.heap[w.heap.size]? = some (.cells #[.int .i64 o.id, .int .i64 o.side, .int .i64 o.kind, .int .i64 o.price, .int .i64 s.q] 40 (0, 0)) := hMc.box
          have o0 := blk_cell (j := 0) hoA rfl
          have o1 := blk_cell (j := 1) hoA rfl
          have o2 := blk_cell (j := 2) hoA rfl
          have o3 := blk_cell (j := 3) hoA rfl
          have o4 := blk_cell (j := 4) hoA rfl
          clear hMc hXc hoA
          cases cc with
          | true =>
            have HE0 : Hid (meet al o X ⟨[], L, o.qty, []⟩ = (s, false)) := by
              have h1 := HMT.out
              have h2 := HCC.out
              by_cases hq : s.q < 1
              · rw [meet_done (by omega)] at h1; exact h1.symm
              · rw [decide_eq_false hq, Bool.false_or] at h2
                rw [HD.out, meet_far (by omega) HMN.out h2] at h1; exact h1.symm
            go_wp2_with fail
            have hz := HM.out.res
            have z0 := blk_cell (j := 0) hz rfl
            have z1 := blk_cell (j := 1) hz rfl
            have z2 := blk_cell (j := 2) hz rfl
            have z3 := blk_cell (j := 3) hz rfl
            have z4 := blk_cell (j := 4) hz rfl
            have f0 := blk_free (j := 0) hz
            have f1 := blk_free (j := 1) hz
            have f2 := blk_free (j := 2) hz
            have f3 := blk_free (j := 3) hz
            have f4 := blk_free (j := 4) hz
            have HE : Hid (meet al o (sideO (3 - o.side) L) ⟨[], L, o.qty, []⟩ = (s, false)) := by show _ = _; rw [HXE.out]; exact HE0.out
            have hend := HM.out.done HTF.out
            unfold boxed leftO DBox at hend
            have HEND : Hid _ := hend
            clear hz hend
            go_region
            all_goals go_wp2_with fail
            all_goals generalize (((((wc.setCell ⟨w.heap.size + 1, 0, none⟩ (.int .i64 o.id)).setCell ⟨w.heap.size + 1, 1, none⟩ (.int .i64 o.side)).setCell ⟨w.heap.size + 1, 2, none⟩ (.int .i64 o.kind)).setCell ⟨w.heap.size + 1, 3, none⟩ (.int .i64 o.price)).setCell ⟨w.heap.size + 1, 4, none⟩ (.int .i64 s.q)).drew = wz at HEND ⊢
            all_goals have e0 := blk_cell (j := 0) HEND.out.1 rfl
            all_goals have e1 := blk_cell (j := 1) HEND.out.1 rfl
            all_goals have e2 := blk_cell (j := 2) HEND.out.1 rfl
            all_goals have e3 := blk_cell (j := 3) HEND.out.1 rfl
            all_goals have e4 := blk_cell (j := 4) HEND.out.1 rfl
            all_goals refine bodyPost_ret (by simp [results, Tryz.results15, go_sem, e0, e1, e2, e3, e4]; try rfl) rfl ?_
            all_goals exact meets_p HE.out (by omega) HEND.out.2
          | false =>
            have hq1 : 0 < s.q := by
              have h2 := HCC.out
              by_cases hq : s.q < 1
              · rw [decide_eq_true hq, Bool.true_or] at h2; cases h2
              · omega
            have HFR : Hid (farB o x = false) := by
              have h2 := HCC.out
              rw [Bool.or_eq_false_iff] at h2; exact h2.2
            have HMX : Hid (MOk (x :: X.drop (k + 1)) s) := by have h1 := HMK.out; rw [HD.out] at h1; exact h1
            have HPX : Hid (1 ≤ x.price ∧ x.price ≤ 1000000 ∧ 1 ≤ x.qty ∧ x.qty ≤ 1000000) := HMX.out.ok.ok x (HMX.out.here x (List.mem_cons_self ..))
            go_wp2_with fail
            refine (cpAsk ga la x.price (al x.price) wc HAF.out.enters (fun W' => Below wc.heap.size wc W') (HAF.out.tells wc HM.out.out x.price HPX.out.1 HPX.out.2.1)).mono ?_
            rintro e w4 ⟨rfl, hb4⟩
            have hM4 := HM.out.below HTF.out hb4
            have hX4 : OrdAt w4 xb x := blk_below HX.out hb4 (Nat.le_refl _)
            clear hb4 x0 x1 x2 x3 x4 o0 o1 o2 o3 o4 HM HX
            have HX : Hid (OrdAt w4 xb x) := hX4
            have HM : Hid (Mp w w4 bb (m + k) w.heap.size (w.heap.size + 1) B (.slice (some ⟨g, 0, none⟩) X.length xc) (.slice fa s.fs.length fc) b b' X o s St D D') := hM4
            have x0 := blk_cell (j := 0) hX4 rfl
            have x1 := blk_cell (j := 1) hX4 rfl
            have x2 := blk_cell (j := 2) hX4 rfl
            have x3 := blk_cell (j := 3) hX4 rfl
            have x4 := blk_cell (j := 4) hX4 rfl
            have hoA : w4.heap[w.heap.size]? = some (.cells #[.int .i64 o.id, .int .i64 o.side, .int .i64 o.kind, .int .i64 o.price, .int .i64 s.q] 40 (0, 0)) := hM4.box
            have o0 := blk_cell (j := 0) hoA rfl
            have o1 := blk_cell (j := 1) hoA rfl
            have o2 := blk_cell (j := 2) hoA rfl
            have o3 := blk_cell (j := 3) hoA rfl
            have o4 := blk_cell (j := 4) hoA rfl
            clear hM4 hX4 hoA
            cases ha : al x.price with
            | false =>
              have HE0 : Hid (meet al o X ⟨[], L, o.qty, []⟩ = (s, true)) := by have := HMT.out; rw [HD.out, meet_stop hq1 HMN.out HFR.out ha] at this; exact this.symm
              go_wp2_with fail
              have hz := HM.out.res
              have z0 := blk_cell (j := 0) hz rfl
              have z1 := blk_cell (j := 1) hz rfl
              have z2 := blk_cell (j := 2) hz rfl
              have z3 := blk_cell (j := 3) hz rfl
              have z4 := blk_cell (j := 4) hz rfl
              have f0 := blk_free (j := 0) hz
              have f1 := blk_free (j := 1) hz
              have f2 := blk_free (j := 2) hz
              have f3 := blk_free (j := 3) hz
              have f4 := blk_free (j := 4) hz
              have HE : Hid (meet al o (sideO (3 - o.side) L) ⟨[], L, o.qty, []⟩ = (s, true)) := by show _ = _; rw [HXE.out]; exact HE0.out
              have hend := HM.out.done HTF.out
              unfold boxed leftO DBox at hend
              have HEND : Hid _ := hend
              clear hz hend
              go_region
              all_goals go_wp2_with fail
              all_goals generalize (((((w4.setCell ⟨w.heap.size + 1, 0, none⟩ (.int .i64 o.id)).setCell ⟨w.heap.size + 1, 1, none⟩ (.int .i64 o.side)).setCell ⟨w.heap.size + 1, 2, none⟩ (.int .i64 o.kind)).setCell ⟨w.heap.size + 1, 3, none⟩ (.int .i64 o.price)).setCell ⟨w.heap.size + 1, 4, none⟩ (.int .i64 s.q)).drew = wz at HEND ⊢
              all_goals have e0 := blk_cell (j := 0) HEND.out.1 rfl
              all_goals have e1 := blk_cell (j := 1) HEND.out.1 rfl
              all_goals have e2 := blk_cell (j := 2) HEND.out.1 rfl
              all_goals have e3 := blk_cell (j := 3) HEND.out.1 rfl
              all_goals have e4 := blk_cell (j := 4) HEND.out.1 rfl
              all_goals refine bodyPost_ret (by simp [results, Tryz.results15, go_sem, e0, e1, e2, e3, e4]; try rfl) rfl ?_
              all_goals exact meets_p HE.out (by omega) HEND.out.2
            | true =>
              have HE0 : Hid (meet al o (X.drop (k + 1)) (mstep o x s) = meet al o X ⟨[], L, o.qty, []⟩) := by have := HMT.out; rw [HD.out, meet_trade hq1 HMN.out HFR.out ha] at this; exact this
              have hlots := HMX.out.lots hq1
              go_wp2_with fail
              refine (cpBetween (leftO o s.q) x w4 HS.out).mono ?_
              rintro e w5 ⟨rfl, hb5⟩
              obtain ⟨f, hf⟩ : ∃ f, mfill o x (min s.q x.qty) = f := ⟨_, rfl⟩
              have hff : mfill (leftO o s.q) x (min (leftO o s.q).qty x.qty) = f := hf
              have hfq : f.qty = min s.q x.qty := by rw [← hf]; unfold mfill; split <;> rfl
              rw [hff]
              have HFF : Hid (mfill o x (min s.q x.qty) = f) := hf
              have HFQ : Hid (f.qty = min s.q x.qty) := hfq
              rw [← hfq] at hlots
              have hM5 := HM.out.below HTF.out hb5
              have hX5 : OrdAt w5 xb x := blk_below HX.out hb5 (Nat.le_refl _)
              have hz5 : xb < w5.heap.size := lt_of_block hX5
              clear hb5 x0 x1 x2 x3 x4 o0 o1 o2 o3 o4 HM HX hf hff hfq
              have HX : Hid (OrdAt w5 xb x) := hX5
              have HM : Hid (Mp w w5 bb (m + k) w.heap.size (w.heap.size + 1) B (.slice (some ⟨g, 0, none⟩) X.length xc) (.slice fa s.fs.length fc) b b' X o s St D D') := hM5
              have HNB : Hid (∀ j, (Value.slice fa s.fs.length fc).ownBlock = some j → j < w5.heap.size) := fun j hj => (hM5.fils.lt j hj).2
              clear hM5 hX5
              go_upto_region 10 with fail
              have hb6 := bel1 w5 (.cells #[.int .i64 f.buyer, .int .i64 f.seller, .int .i64 f.price, .int .i64 f.qty] 59)
              have hf6 := heap_alloc_new w5 (.cells #[.int .i64 f.buyer, .int .i64 f.seller, .int .i64 f.price, .int .i64 f.qty] 59)
              generalize w5.alloc (.cells #[.int .i64 f.buyer, .int .i64 f.seller, .int .i64 f.price, .int .i64 f.qty] 59) = w6 at hb6 hf6 ⊢
              have HM6 : Hid _ := HM.out.below HTF.out hb6
              have hX6 : OrdAt w6 xb x := blk_below HX.out hb6 (Nat.le_refl _)
              generalize w5.heap.size = fb at *
              have HF6 : Hid (FBox w6 fb f) := hf6
              have HX6 : Hid (OrdAt w6 xb x) := hX6
              have x0 : w6.cell? ⟨xb, 0, none⟩ = some (.int .i64 x.id) := blk_cell (j := 0) hX6 rfl
              have f3 : w6.cell? ⟨fb, 3, none⟩ = some (.int .i64 f.qty) := blk_cell (j := 3) hf6 rfl
              clear hb6 hf6 hX6 HM HX
              go_wp2_with fail
              refine (cpCut_yes bb (m + k) b' s.L x f.qty w6 HM6.out.bk (by omega) HM6.out.lnk HMX.out.ok (HMX.out.here x (List.mem_cons_self ..)) ⟨hlots.1, hlots.2.1⟩).mono ?_
              rintro e w7 ⟨err, rfl, b2, hl7, hg7⟩
              have HM7 : Hid _ := HM6.out.cut HTF.out hg7 hl7
              have hX7 : OrdAt w7 xb x := blk_out HX6.out hg7.2.1 (HM6.out.bk.farBox HX6.out (by decide) (by decide) (by decide) (by decide) (by decide))
              have hF7 : FBox w7 fb f := blk_out HF6.out hg7.2.1 (HM6.out.bk.farBox HF6.out (by decide) (by decide) (by decide) (by decide) (by decide))
              have HX7 : Hid (OrdAt w7 xb x) := hX7
              have HF7 : Hid (FBox w7 fb f) := hF7
              have hoB : w7.heap[w.heap.size]? = some (.cells #[.int .i64 o.id, .int .i64 o.side, .int .i64 o.kind, .int .i64 o.price, .int .i64 s.q] 40 (0, 0)) := HM7.out.box
              clear x0 f3 hl7 hg7 HM6 HX6 HF6
              have f3 : w7.cell? ⟨fb, 3, none⟩ = some (.int .i64 f.qty) := blk_cell (j := 3) hF7 rfl
              have o4 := blk_cell (j := 4) hoB rfl
              have of4 := blk_free (j := 4) hoB
              have q4 : IntKind.i64.wrap (s.q - f.qty) = s.q - f.qty := IntWalk.i64_in _ (by omega)
              clear hoB hX7 hF7
              go_upto_region 12 with fail
              have hM8 := HM7.out.left HTF.out (s.q - f.qty)
              have hX8 : OrdAt (w7.setCell ⟨w.heap.size, 4, none⟩ (.int .i64 (s.q - f.qty))) xb x := blk_out HX7.out (out_set w7 ⟨w.heap.size, 4, none⟩ (.int .i64 (s.q - f.qty))) (by show ¬ xb = w.heap.size; omega)
              have hF8 : FBox (w7.setCell ⟨w.heap.size, 4, none⟩ (.int .i64 (s.q - f.qty))) fb f := blk_out HF7.out (out_set w7 ⟨w.heap.size, 4, none⟩ (.int .i64 (s.q - f.qty))) (by show ¬ fb = w.heap.size; omega)
              generalize w7.setCell ⟨w.heap.size, 4, none⟩ (.int .i64 (s.q - f.qty)) = w8 at hM8 hX8 hF8 ⊢
              have HM8 : Hid _ := hM8
              have HX8 : Hid (OrdAt w8 xb x) := hX8
              have g0 : w8.cell? ⟨fb, 0, none⟩ = some (.int .i64 f.buyer) := blk_cell (j := 0) hF8 rfl
              have g1 : w8.cell? ⟨fb, 1, none⟩ = some (.int .i64 f.seller) := blk_cell (j := 1) hF8 rfl
              have g2 : w8.cell? ⟨fb, 2, none⟩ = some (.int .i64 f.price) := blk_cell (j := 2) hF8 rfl
              have g3 : w8.cell? ⟨fb, 3, none⟩ = some (.int .i64 f.qty) := blk_cell (j := 3) hF8 rfl
              clear f3 o4 of4 hM8 hX8 hF8 HM7 HX7 HF7
              have hln : s.fs.length ≤ 100 := by omega
              have hwz : w.heap.size ≤ w8.heap.size := HM8.out.out.size
              go_wp2_with (at_builtin; refine wpList_append_own_at _ rfl _ _ 27 rfl w.heap.size 59 iF (.agg #[.int .i64 0, .int .i64 0, .int .i64 0, .int .i64 0]) 4 32 Tryz.underlying27 hiF hF0 hF1 hF2 rfl (by decide) _ s.fs.length (fV s.fs) rfl (HM8.out.fils.alloc _) ⟨w8.heap.size, 0, none⟩ 1 1 [.int .i64 f.buyer, .int .i64 f.seller, .int .i64 f.price, .int .i64 f.qty] rfl rfl (World.news_of_block (cs := #[.int .i64 f.buyer, .int .i64 f.seller, .int .i64 f.price, .int .i64 f.qty]) (t := 59) (fr := (0, 0)) (heap_alloc_new w8 _)) (by simp [Value.oneCell']) (by unfold maxLen; omega) (by omega) (by simp; omega) ?_; intro v9 w9 hown9 hgrow9 _ _; have hX9 : OrdAt w9 xb x := blk_out HX8.out (HM8.out.pushed hgrow9) (owns_type HM8.out.fils HX8.out (by decide)); have x9 : w9.cell? ⟨xb, 3, none⟩ = some (.int .i64 x.price) := blk_cell (j := 3) hX9 rfl; have HM9 : Hid _ := HM8.out.push HTF.out (f := f) hgrow9 hown9; clear hX9 hown9 hgrow9 g0 g1 g2 g3)
              have hone := HMX.out.one
              refine (cpTell gt lt x.price w9 HTF.out.enters _ (HTF.out.tells HM9.out.told (by show s.ts.length ≤ 1000; omega) x.price)).mono ?_
              rintro e w10 ⟨rfl, D2, ht, ho, hd⟩
              have HM10 : Hid _ := HM9.out.tell HTF.out ht ho hd
              have HK2 : Hid (MOk (X.drop (k + 1)) (mstep o x s)) := HMX.out.step o hq1
              have HSTP : Hid (mstep o x s = ⟨s.fs ++ [f], lessF x.id f.qty s.L, s.q - f.qty, s.ts ++ [x.price]⟩) := by show _ = _; unfold mstep; rw [HFF.out, HFQ.out]
              clear ht ho hd HM9 x9
              go_wp2_with fail
              go_roundw
              case rel =>
                refine ⟨k + 1, mstep o x s, b2, D2, by go_num, hk1, HE0.out, HK2.out, ?_, ?_, ?_⟩
                · rw [HSTP.out]
                  show (s.fs ++ [f]).length ≤ k + 1
                  rw [List.length_append, List.length_singleton]; omega
                · rw [HSTP.out]
                  show -9223372036854775808 ≤ s.q - f.qty ∧ s.q - f.qty ≤ 9223372036854775807
                  omega
                · rw [HSTP.out]; exact HM10.out
              case measure => simp [RowKit.intOf]; omega
    · have hkx : k = X.length := by omega
      have hoA : wr.heap[w.heap.size]? = some (.cells #[.int .i64 o.id, .int .i64 o.side, .int .i64 o.kind, .int .i64 o.price, .int .i64 s.q] 40 (0, 0)) := hM.box
      have o0 := blk_cell (j := 0) hoA rfl
      have o1 := blk_cell (j := 1) hoA rfl
      have o2 := blk_cell (j := 2) hoA rfl
      have o3 := blk_cell (j := 3) hoA rfl
      have o4 := blk_cell (j := 4) hoA rfl
      have HE0 : Hid (meet al o X ⟨[], L, o.qty, []⟩ = (s, false)) := by have := HMT.out; rw [List.drop_eq_nil_of_le (by omega)] at this; exact this.symm
      clear hM hoA
      go_wp2_with fail
      have hz := HM.out.res
      have z0 := blk_cell (j := 0) hz rfl
      have z1 := blk_cell (j := 1) hz rfl
      have z2 := blk_cell (j := 2) hz rfl
      have z3 := blk_cell (j := 3) hz rfl
      have z4 := blk_cell (j := 4) hz rfl
      have f0 := blk_free (j := 0) hz
      have f1 := blk_free (j := 1) hz
      have f2 := blk_free (j := 2) hz
      have f3 := blk_free (j := 3) hz
      have f4 := blk_free (j := 4) hz
      have HE : Hid (meet al o (sideO (3 - o.side) L) ⟨[], L, o.qty, []⟩ = (s, false)) := by show _ = _; rw [HXE.out]; exact HE0.out
      have hend := HM.out.done HTF.out
      unfold boxed leftO DBox at hend
      have HEND : Hid _ := hend
      clear hz hend
      go_region
      all_goals go_wp2_with fail
      all_goals generalize (((((wr.setCell ⟨w.heap.size + 1, 0, none⟩ (.int .i64 o.id)).setCell ⟨w.heap.size + 1, 1, none⟩ (.int .i64 o.side)).setCell ⟨w.heap.size + 1, 2, none⟩ (.int .i64 o.kind)).setCell ⟨w.heap.size + 1, 3, none⟩ (.int .i64 o.price)).setCell ⟨w.heap.size + 1, 4, none⟩ (.int .i64 s.q)).drew = wz at HEND ⊢
      all_goals have e0 := blk_cell (j := 0) HEND.out.1 rfl
      all_goals have e1 := blk_cell (j := 1) HEND.out.1 rfl
      all_goals have e2 := blk_cell (j := 2) HEND.out.1 rfl
      all_goals have e3 := blk_cell (j := 3) HEND.out.1 rfl
      all_goals have e4 := blk_cell (j := 4) HEND.out.1 rfl
      all_goals refine bodyPost_ret (by simp [results, Tryz.results15, go_sem, e0, e1, e2, e3, e4]; try rfl) rfl ?_
      all_goals exact meets_p HE.out (by omega) HEND.out.2
end Go.Proofs.YtcoijhofliilmabGreatDoor

/-
  The closures of the law CrossMeets: which prices may be, and what was told, over this seat's translation. Conditions stand in each theorem. (Written by wip/dev/gencm.py.)
-/
namespace Go.Proofs.YtcoijhofliilmabGreatDoor
open Go.RowKit Go.Shelf

def intV (l : List Int) : List Value := l.map (Value.int .i64)
theorem intV_snoc (l : List Int) (x : Int) : intV (l ++ [x]) = intV l ++ [.int .i64 x] := by simp [intV]
theorem intV_at {l : List Int} {k : Nat} (h : k < l.length) : (intV l)[k]? = some (.int .i64 (l.getD k 0)) := by simp [intV, h]
theorem Tryz.infoIn : (Tryz.prog.info? 3).map (fun i => (i.zero, i.size, i.bytes)) = some (some (.int .i64 0), 1, 8) := by kernel_rfl

/-- the law's 'allows' -/
def alB (low high p : Int) : Bool := if low ≤ p then decide (p ≤ high) else false
set_option maxHeartbeats 1000000 in
theorem cmAllows (low high p : Int) (lb hb : Nat) (w : World) (h1 : w.heap[lb]? = some (.cells #[.int .i64 low] 3 (0, 0))) (h2 : w.heap[hb]? = some (.cells #[.int .i64 high] 3 (0, 0))) :
    Calls Tryz.prog 12 #[.int .i64 p, .pointer (some ⟨lb, 0, none⟩), .pointer (some ⟨hb, 0, none⟩)] w fun e w' => e = .returned (.bool (alB low high p)) ∧ w' = w := by
  have c1 := blk_cell (j := 0) h1 rfl
  have c2 := blk_cell (j := 0) h2 rfl
  clear h1 h2
  unfold alB
  by_cases h : low ≤ p
  · have hd : decide (p ≥ low) = true := decide_eq_true h
    rw [if_pos h]
    go_enter Tryz.func12, Tryz.ntmps12
    go_wp2
    go_ret
    exact ⟨rfl, rfl⟩
  · have hd : decide (p ≥ low) = false := decide_eq_false h
    rw [if_neg h]
    go_enter Tryz.func12, Tryz.ntmps12
    go_wp2
    go_ret
    exact ⟨rfl, rfl⟩
theorem askFn1 (low high : Int) (lb hb : Nat) (S : Nat → Prop) (w : World) (h1 : w.heap[lb]? = some (.cells #[.int .i64 low] 3 (0, 0))) (h2 : w.heap[hb]? = some (.cells #[.int .i64 high] 3 (0, 0))) (hS1 : ¬ S lb) (hS2 : ¬ S hb) :
    AskFn 12 #[.pointer (some ⟨lb, 0, none⟩), .pointer (some ⟨hb, 0, none⟩)] (alB low high) S w := by
  refine ⟨enters_of Tryz.func12 (by kernel_rfl) rfl, fun W hW p _ _ => ?_⟩
  refine Calls.mono (cmAllows low high p lb hb W (blk_out h1 hW hS1) (blk_out h2 hW hS2)) ?_
  rintro e W' ⟨he, rfl⟩
  exact ⟨he, Below.refl _ _⟩

/-- prices that were told: a list in a box -/
structure Told (tb base : Nat) (w : World) (ts : List Int) (D : Nat → Prop) : Prop where
  ex : ∃ v, w.heap[tb]? = some (.cells #[v] 43 (0, 0)) ∧ w.ownsRow base 3 1 v ts.length (intV ts) ∧ ∀ j, D j ↔ (j = tb ∨ v.ownBlock = some j)
  bs : base ≤ w.heap.size
theorem Told.keep {tb base : Nat} {w w' : World} {ts : List Int} {D S : Nat → Prop} (h : Told tb base w ts D) (ho : Out S w w') (hd : ∀ j, D j → ¬ S j) : Told tb base w' ts D := by
  obtain ⟨⟨v, h1, h2, h3⟩, h4⟩ := h
  exact ⟨⟨v, blk_out h1 ho (hd _ ((h3 _).2 (Or.inl rfl))), owns_out h2 ho (fun k hk => hd _ ((h3 _).2 (Or.inr hk))), h3⟩, Nat.le_trans h4 ho.size⟩
theorem Told.far {tb base : Nat} {w : World} {ts : List Int} {D : Nat → Prop} (h : Told tb base w ts D) : ∀ j, D j → j < w.heap.size ∧ ∀ vs t fr, w.heap[j]? = some (.cells vs t fr) → t ≠ 40 ∧ t ≠ 59 ∧ t ≠ 52 := by
  obtain ⟨⟨v, h1, h2, h3⟩, h4⟩ := h
  intro j hj
  rcases (h3 j).1 hj with rfl | e
  · refine ⟨lt_of_block h1, fun vs t fr hh => ?_⟩
    rw [h1] at hh
    injection hh with hh
    injection hh with _ hh _
    subst hh
    exact ⟨by decide, by decide, by decide⟩
  · refine ⟨(h2.lt j e).2, fun vs t fr hh => ?_⟩
    refine ⟨fun et => ?_, fun et => ?_, fun et => ?_⟩
    · exact owns_type h2 hh (by rw [et]; decide) e
    · exact owns_type h2 hh (by rw [et]; decide) e
    · exact owns_type h2 hh (by rw [et]; decide) e
theorem Told.start {tb base : Nat} {w : World} (h : w.heap[tb]? = some (.cells #[.slice none 0 0] 43 (0, 0))) (hb : base ≤ w.heap.size) : Told tb base w [] (fun j => j = tb) :=
  ⟨⟨_, h, World.ownsRow_nil _ _ _ _, fun j => ⟨Or.inl, fun e => e.elim id (fun e => by cases e)⟩⟩, hb⟩

set_option maxRecDepth 4000 in
set_option maxHeartbeats 2000000 in
theorem cmTells2 (tb base : Nat) (v : Value) (ts : List Int) (p : Int) (w : World) (h : w.heap[tb]? = some (.cells #[v] 43 (0, 0))) (hr : w.ownsRow base 3 1 v ts.length (intV ts)) (hb : base ≤ w.heap.size) (hl : ts.length ≤ 1000) :
    Calls Tryz.prog 14 #[.int .i64 p, .pointer (some ⟨tb, 0, none⟩)] w fun e w' => e = .returned (.tuple #[]) ∧ ∃ v', w'.heap[tb]? = some (.cells #[v'] 43 (0, 0)) ∧ w'.ownsRow base 3 1 v' (ts ++ [p]).length (intV (ts ++ [p])) ∧ Out (fun j => j = tb ∨ v.ownBlock = some j) w w' ∧ (v'.ownBlock = v.ownBlock ∨ ∀ j, v'.ownBlock = some j → w.heap.size ≤ j) := by
  obtain ⟨iI, hiI, hI0, hI1, hI2⟩ := info_parts Tryz.infoIn
  have c0 := blk_cell (j := 0) h rfl
  have H : Hid (w.heap[tb]? = some (.cells #[v] 43 (0, 0))) := h
  have HR : Hid (w.ownsRow base 3 1 v ts.length (intV ts)) := hr
  obtain ⟨va, vc, rfl, _, _⟩ := owns_shape hr
  clear h hr
  go_enter Tryz.func14, Tryz.ntmps14
  go_wp2_with (at_builtin; refine wpList_append_own_at _ rfl _ _ 43 rfl base 3 iI (.int .i64 0) 1 8 Tryz.underlying43 hiI hI0 hI1 hI2 rfl (by decide) _ ts.length (intV ts) rfl (HR.out.alloc _) ⟨w.heap.size, 0, none⟩ 1 1 [.int .i64 p] rfl rfl (cell_one_new _ _ _) (by simp [Value.oneCell']) (by unfold maxLen; omega) (by omega) (by simp; omega) ?_; intro v1 w1 hown1 hgrow1 _ hwh1; obtain ⟨va1, vc1, rfl, _, _⟩ := owns_shape hown1; have hO1 : Out (fun j => (Value.slice va ts.length vc).ownBlock = some j) w w1 := out_then (out_alloc (Out.refl _ _) _) (Out.of_grown hgrow1 (fun _ hk => hk)); have h1 := blk_out H.out hO1 (owns_type HR.out H.out (by decide)); have f1 := blk_free (j := 0) h1; have e1 := blk_cell (j := 0) h1 rfl; have HO1 : Hid _ := hO1; have HW1 : Hid _ := hown1; have HB1 : Hid _ := hwh1; have H1 : Hid _ := h1; clear hown1 hgrow1 hO1 hwh1 h1)
  have h2 := blk_set (j := 0) (.slice va1 (ts.length + 1) vc1) H1.out
  have hlt : tb < w1.heap.size := lt_of_block H1.out
  have ho2 := out_set w1 ⟨tb, 0, none⟩ (.slice va1 (ts.length + 1) vc1)
  refine bodyPost_end (results_none rfl _ _ _) rfl ?_
  refine ⟨rfl, _, h2, ?_, ?_, ?_⟩
  · rw [intV_snoc, List.length_append, List.length_singleton]
    exact owns_out HW1.out ho2 (fun k hk e => owns_type HW1.out H1.out (by decide) (hk.trans (congrArg some e)))
  · exact (HO1.out.mono (fun k hk => Or.inr hk)).trans ho2 (fun k hk => Or.inl (Or.inl hk))
  · rcases HB1.out with e | e
    · exact Or.inl e
    · refine Or.inr (fun j hj => ?_)
      rw [e] at hj
      injection hj with hj
      simp at hj
      omega
theorem toldFn2 (tb base : Nat) : TellFn 14 #[.pointer (some ⟨tb, 0, none⟩)] (Told tb base) := by
  refine ⟨enters_of Tryz.func14 (by kernel_rfl) rfl, fun h ho hd => h.keep ho hd, fun h => h.far, ?_⟩
  intro W ts D ⟨⟨v, h1, h2, h3⟩, h4⟩ hl p
  refine Calls.mono (cmTells2 tb base v ts p W h1 h2 h4 hl) ?_
  rintro e W' ⟨he, v', g1, g2, g3, g4⟩
  refine ⟨he, fun j => j = tb ∨ v'.ownBlock = some j, ⟨⟨v', g1, g2, fun _ => Iff.rfl⟩, Nat.le_trans h4 g3.size⟩, g3.mono (fun k hk => (h3 k).2 hk), fun j hj => ?_⟩
  rcases hj with hj | hj
  · exact Or.inl ((h3 j).2 (Or.inl hj))
  · rcases g4 with e | e
    · exact Or.inl ((h3 j).2 (Or.inr (by rw [← e]; exact hj)))
    · exact Or.inr (e j hj)

set_option maxRecDepth 4000 in
set_option maxHeartbeats 2000000 in
theorem cmTells3 (tb base : Nat) (v : Value) (ts : List Int) (p : Int) (w : World) (h : w.heap[tb]? = some (.cells #[v] 43 (0, 0))) (hr : w.ownsRow base 3 1 v ts.length (intV ts)) (hb : base ≤ w.heap.size) (hl : ts.length ≤ 1000) :
    Calls Tryz.prog 16 #[.int .i64 p, .pointer (some ⟨tb, 0, none⟩)] w fun e w' => e = .returned (.tuple #[]) ∧ ∃ v', w'.heap[tb]? = some (.cells #[v'] 43 (0, 0)) ∧ w'.ownsRow base 3 1 v' (ts ++ [p]).length (intV (ts ++ [p])) ∧ Out (fun j => j = tb ∨ v.ownBlock = some j) w w' ∧ (v'.ownBlock = v.ownBlock ∨ ∀ j, v'.ownBlock = some j → w.heap.size ≤ j) := by
  obtain ⟨iI, hiI, hI0, hI1, hI2⟩ := info_parts Tryz.infoIn
  have c0 := blk_cell (j := 0) h rfl
  have H : Hid (w.heap[tb]? = some (.cells #[v] 43 (0, 0))) := h
  have HR : Hid (w.ownsRow base 3 1 v ts.length (intV ts)) := hr
  obtain ⟨va, vc, rfl, _, _⟩ := owns_shape hr
  clear h hr
  go_enter Tryz.func16, Tryz.ntmps16
  go_wp2_with (at_builtin; refine wpList_append_own_at _ rfl _ _ 43 rfl base 3 iI (.int .i64 0) 1 8 Tryz.underlying43 hiI hI0 hI1 hI2 rfl (by decide) _ ts.length (intV ts) rfl (HR.out.alloc _) ⟨w.heap.size, 0, none⟩ 1 1 [.int .i64 p] rfl rfl (cell_one_new _ _ _) (by simp [Value.oneCell']) (by unfold maxLen; omega) (by omega) (by simp; omega) ?_; intro v1 w1 hown1 hgrow1 _ hwh1; obtain ⟨va1, vc1, rfl, _, _⟩ := owns_shape hown1; have hO1 : Out (fun j => (Value.slice va ts.length vc).ownBlock = some j) w w1 := out_then (out_alloc (Out.refl _ _) _) (Out.of_grown hgrow1 (fun _ hk => hk)); have h1 := blk_out H.out hO1 (owns_type HR.out H.out (by decide)); have f1 := blk_free (j := 0) h1; have e1 := blk_cell (j := 0) h1 rfl; have HO1 : Hid _ := hO1; have HW1 : Hid _ := hown1; have HB1 : Hid _ := hwh1; have H1 : Hid _ := h1; clear hown1 hgrow1 hO1 hwh1 h1)
  have h2 := blk_set (j := 0) (.slice va1 (ts.length + 1) vc1) H1.out
  have hlt : tb < w1.heap.size := lt_of_block H1.out
  have ho2 := out_set w1 ⟨tb, 0, none⟩ (.slice va1 (ts.length + 1) vc1)
  refine bodyPost_end (results_none rfl _ _ _) rfl ?_
  refine ⟨rfl, _, h2, ?_, ?_, ?_⟩
  · rw [intV_snoc, List.length_append, List.length_singleton]
    exact owns_out HW1.out ho2 (fun k hk e => owns_type HW1.out H1.out (by decide) (hk.trans (congrArg some e)))
  · exact (HO1.out.mono (fun k hk => Or.inr hk)).trans ho2 (fun k hk => Or.inl (Or.inl hk))
  · rcases HB1.out with e | e
    · exact Or.inl e
    · refine Or.inr (fun j hj => ?_)
      rw [e] at hj
      injection hj with hj
      simp at hj
      omega
theorem toldFn3 (tb base : Nat) : TellFn 16 #[.pointer (some ⟨tb, 0, none⟩)] (Told tb base) := by
  refine ⟨enters_of Tryz.func16 (by kernel_rfl) rfl, fun h ho hd => h.keep ho hd, fun h => h.far, ?_⟩
  intro W ts D ⟨⟨v, h1, h2, h3⟩, h4⟩ hl p
  refine Calls.mono (cmTells3 tb base v ts p W h1 h2 h4 hl) ?_
  rintro e W' ⟨he, v', g1, g2, g3, g4⟩
  refine ⟨he, fun j => j = tb ∨ v'.ownBlock = some j, ⟨⟨v', g1, g2, fun _ => Iff.rfl⟩, Nat.le_trans h4 g3.size⟩, g3.mono (fun k hk => (h3 k).2 hk), fun j hj => ?_⟩
  rcases hj with hj | hj
  · exact Or.inl ((h3 j).2 (Or.inl hj))
  · rcases g4 with e | e
    · exact Or.inl ((h3 j).2 (Or.inr (by rw [← e]; exact hj)))
    · exact Or.inr (e j hj)
end Go.Proofs.YtcoijhofliilmabGreatDoor
