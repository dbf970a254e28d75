/-
  What the program's Meets (8.2) returns, over this seat's translation. Conditions stand in the theorem. (Written by wip/dev/genme.py: the walk's ends are one text.)
-/
import Derived.Test.YtjdkagafdnchhaaGreatDoorLN
import Derived.Deep.RegionWith
namespace Go.Proofs.YtjdkagafdnchhaaGreatDoor
open Go.RowKit

theorem Mp.more {w W : World} {bb m m' ob rb B : Nat} {vx vf : Value} {b b' : BkS} {X : List Ord} {o : Ord} {s : MS} {St : World → List Int → (Nat → Prop) → Prop} {D0 D : Nat → Prop} (h : Mp w W bb m ob rb B vx vf b b' X o s St D0 D) (hm : m ≤ m') (hs : m' ≤ 900000) : Mp w W bb m' ob rb B vx vf b b' X o s St D0 D :=
  ⟨h.old, h.row, h.box, h.res, h.bk.more hm hs, h.lnk, h.fils, h.told, h.out, h.went, h.dees, h.apart⟩
theorem xAt_drop {X : List Ord} {k : Nat} (h : k < X.length) : X.drop k = oAt X k :: X.drop (k + 1) := by
  rw [List.drop_eq_getElem_cons h]
  congr 1
  simp [oAt, h]

set_option maxRecDepth 4000 in
set_option maxHeartbeats 8000000 in
theorem cpMeetsE (bb m : Nat) (b : BkS) (L : List Ord) (o : Ord) (ga gt : Nat) (fa0 la ft0 lt : Array Value) (al : List Int → Int → Bool) (St : World → List Int → (Nat → Prop) → Prop) (D : Nat → Prop) (w : World) (h : Bk w bb m b) (hm : m ≤ 800000) (hl : Lnk b.S L) (hok : LOk L) (hside : o.side = 1 ∨ o.side = 2) (hqb : -9223372036854775808 ≤ o.qty ∧ o.qty ≤ 9223372036854775807) (hF : StE St) (hA : AskE ga fa0 la al St) (hT : TellE gt ft0 lt St) (hst : St w [] D) (hap : ∀ j, D j → ¬ b.foot bb j) :
    Calls Tryz.prog 94 #[.pointer (some ⟨bb, 0, none⟩), .agg #[.int .i64 o.id, .int .i64 o.side, .int .i64 o.kind, .int .i64 o.price, .int .i64 o.qty], .func (.func ga) fa0 la, .func (.func gt) ft0 lt] w
      fun e w' => MeetsE al o L bb m b St D w e w' := by
  obtain ⟨iF, hiF, hF0, hF1, hF2⟩ := info_parts Tryz.infoFp
  have HA : Hid (Bk w bb m b) := h
  have HL : Hid (Lnk b.S L) := hl
  have HK : Hid (LOk L) := hok
  have HFF0 : Hid (StE St) := hF
  have HAF : Hid (AskE ga fa0 la al St) := hA
  have HTF : Hid (TellE gt ft0 lt St) := hT
  have HST : Hid (St w [] D) := hst
  have HAP : Hid (∀ j, D j → ¬ b.foot bb j) := hap
  have HS : Hid (o.side = 1 ∨ o.side = 2) := hside
  obtain ⟨s0, hs0, hs1⟩ : ∃ s0 : Nat, s0 < 2 ∧ 3 - o.side = (s0 : Int) + 1 := by
    rcases hside with e | e
    · exact ⟨1, by decide, by rw [e]; rfl⟩
    · exact ⟨0, by decide, by rw [e]; rfl⟩
  have HS1 : Hid (3 - o.side = (s0 : Int) + 1) := hs1
  have hL100 : L.length ≤ 100 := lnk_few h.ok hl
  clear h hl hok hA hT hst hap hside hs1 hF
  go_enter Tryz.func94, Tryz.ntmps94
  go_wp2_with fail
  have hB0 := bel2 w (.cells #[.int .i64 o.id, .int .i64 o.side, .int .i64 o.kind, .int .i64 o.price, .int .i64 o.qty] 41) (.cells #[.int .i64 0, .int .i64 0, .int .i64 0, .int .i64 0, .int .i64 0] 41)
  have hO0 := two_old w (.cells #[.int .i64 o.id, .int .i64 o.side, .int .i64 o.kind, .int .i64 o.price, .int .i64 o.qty] 41) (.cells #[.int .i64 0, .int .i64 0, .int .i64 0, .int .i64 0, .int .i64 0] 41)
  have hR0 := two_new w (.cells #[.int .i64 o.id, .int .i64 o.side, .int .i64 o.kind, .int .i64 o.price, .int .i64 o.qty] 41) (.cells #[.int .i64 0, .int .i64 0, .int .i64 0, .int .i64 0, .int .i64 0] 41)
  generalize (w.alloc (.cells #[.int .i64 o.id, .int .i64 o.side, .int .i64 o.kind, .int .i64 o.price, .int .i64 o.qty] 41)).alloc (.cells #[.int .i64 0, .int .i64 0, .int .i64 0, .int .i64 0, .int .i64 0] 41) = w1 at hB0 hO0 hR0 ⊢
  refine (cpOther o.side HS.out w1).mono ?_
  rintro e w1' ⟨rfl, hw⟩
  subst hw
  go_wp2_with fail
  refine (cpLying bb m s0 b L w1' (HA.out.below hB0 (Nat.le_refl _)) HL.out hs0 (3 - o.side) HS1.out).mono ?_
  rintro e w2 ⟨vx, rfl, hrx, hb2⟩
  have hm0 := Mp.start HFF0.out HA.out HL.out HST.out HAP.out hB0 hO0 hR0 (Nat.le_refl _) (by omega) (by omega) hrx hb2
  have HM0 : Hid _ := hm0
  have HMO : Hid _ := MOk.start HK.out (3 - o.side) o.qty
  obtain ⟨xa, xc, rfl, _, _⟩ := owns_shape hrx
  have hXl : (sideO (3 - o.side) L).length ≤ L.length := sideO_len _ _
  generalize hX : sideO (3 - o.side) L = X at *
  have HXE : Hid (sideO (3 - o.side) L = X) := hX
  generalize w1'.heap.size = B at *
  clear hX hrx hb2 hB0 hO0 hR0 hm0 HST HAP HS1 HA HL HK
  go_wp2_with fail
  go_loopw [11, 13, 14, 21] (fun u11 _ _ u21 wr => ∃ (k : Nat) (s : MS) (b' : BkS) (D' : Nat → Prop), u21 = .int .i64 k ∧ k ≤ X.length ∧ meetS al o (X.drop k) s = meetS al o X ⟨[], L, o.qty, []⟩ ∧ MOk (X.drop k) s ∧ s.fs.length ≤ k ∧ (-9223372036854775808 ≤ s.q ∧ s.q ≤ 9223372036854775807) ∧ Mp w wr bb (m + k) w.heap.size (w.heap.size + 1) B (.slice xa X.length xc) u11 b b' X o s St D D') (fun _ _ _ u21 _ => X.length - (intOf u21).toNat)
  case atStart => exact ⟨0, _, b, D, rfl, Nat.zero_le _, rfl, HMO.out, Nat.le_refl _, hqb, HM0.out⟩
  case round =>
    obtain ⟨k, s, b', D', rfl, hk, hmt, hmo, hfl, hsq, hM⟩ := hrel
    have HMT : Hid (meetS al o (X.drop k) s = meetS al o X ⟨[], L, o.qty, []⟩) := hmt
    have HM : Hid (Mp w wr bb (m + k) w.heap.size (w.heap.size + 1) B (.slice xa X.length xc) u11 b b' X o s St D D') := hM
    have HMK : Hid (MOk (X.drop k) s) := hmo
    obtain ⟨fa, fc, rfl, _, _⟩ := owns_shape hM.fils
    clear hmt hmo HM0 HMO
    by_cases hk1 : k < X.length
    · have hlt : (k : Int) < (X.length : Int) := by omega
      obtain ⟨g, cap, e, d0, d1, d2, d3, d4⟩ := row_order hM.row hk1
      injection e with e1 _ e2
      subst e1 e2
      have HD : Hid (X.drop k = oAt X k :: X.drop (k + 1)) := xAt_drop hk1
      generalize oAt X k = x at d0 d1 d2 d3 d4 HD
      clear hM
      go_upto_region 5 with fail
      have hbA := bel1 wr (.cells #[.int .i64 x.id, .int .i64 x.side, .int .i64 x.kind, .int .i64 x.price, .int .i64 x.qty] 41)
      have hxA := heap_alloc_new wr (.cells #[.int .i64 x.id, .int .i64 x.side, .int .i64 x.kind, .int .i64 x.price, .int .i64 x.qty] 41)
      have hMW := HM.out.below HFF0.out hbA
      generalize wr.alloc (.cells #[.int .i64 x.id, .int .i64 x.side, .int .i64 x.kind, .int .i64 x.price, .int .i64 x.qty] 41) = W at hbA hxA hMW ⊢
      have hR := HM.out.res
      clear hbA HM d0 d1 d2 d3 d4
      have hxb : w.heap.size + 1 < wr.heap.size := lt_of_block hR
      clear hR
      generalize wr.heap.size = xb at hxA hxb ⊢
      have HX : Hid (OrdAt W xb x) := hxA
      have HM : Hid (Mp w W bb (m + k) w.heap.size (w.heap.size + 1) B (.slice (some ⟨g, 0, none⟩) X.length xc) (.slice fa s.fs.length fc) b b' X o s St D D') := hMW
      have x0 := blk_cell (j := 0) hxA rfl
      have x1 := blk_cell (j := 1) hxA rfl
      have x2 := blk_cell (j := 2) hxA rfl
      have x3 := blk_cell (j := 3) hxA rfl
      have x4 := blk_cell (j := 4) hxA rfl
      have hoA : W.heap[w.heap.size]? = some (.cells #[.int .i64 o.id, .int .i64 o.side, .int .i64 o.kind, .int .i64 o.price, .int .i64 s.q] 41 (0, 0)) := hMW.box
      have o0 := blk_cell (j := 0) hoA rfl
      have o1 := blk_cell (j := 1) hoA rfl
      have o2 := blk_cell (j := 2) hoA rfl
      have o3 := blk_cell (j := 3) hoA rfl
      have o4 := blk_cell (j := 4) hoA rfl
      clear hxA hMW hoA
      by_cases hm2 : x.kind = 2
      · have hmb : (x.kind == 2) = true := beq_iff_eq.2 hm2
        have HM2 : Hid (meetS al o (X.drop (k + 1)) s = meetS al o X ⟨[], L, o.qty, []⟩) := by have := HMT.out; rw [HD.out, meetS_next hm2] at this; exact this
        have HK2 : Hid (MOk (X.drop (k + 1)) s) := by have h1 := HMK.out; rw [HD.out] at h1; exact h1.pass
        clear hm2
        go_wp2_with fail
        go_roundw
        case rel => exact ⟨k + 1, s, b', D', by go_num, hk1, HM2.out, HK2.out, by omega, hsq, HM.out.more (by omega) (by omega)⟩
        case measure => first | (simp [RowKit.intOf]; omega) | (show X.length - (k + 1) < X.length - k; omega) | omega
      · have hmb : (x.kind == 2) = false := beq_eq_false_iff_ne.2 hm2
        have HMN : Hid (x.kind ≠ 2) := hm2
        clear hm2
        obtain ⟨cc, hcc⟩ : ∃ cc : Bool, (decide (s.q < 1) || farB o x) = cc := ⟨_, rfl⟩
        have HCC : Hid ((decide (s.q < 1) || farB o x) = cc) := hcc
        clear hcc
        go_upto_region 6 with fail
        go_cut [38] from 22 to 71 (fun u38 wc => u38 = .bool cc ∧ Below W.heap.size W wc)
        case first =>
          by_cases hq : s.q < 1
          · have hqd : decide (s.q < 1) = true := decide_eq_true hq
            have HC2 : Hid (cc = true) := by have := HCC.out; rw [hqd, Bool.true_or] at this; exact this.symm
            go_region
            all_goals go_wp2_with fail
            all_goals go_meet
            all_goals exact ⟨by rw [HC2.out], by (repeat' first | assumption | exact Below.refl _ _ | exact Nat.le_refl _ | refine Below.drew ?_ | refine Below.alloc ?_ ?_ _ | (simp; done) | (simp; omega))⟩
          · have hqd : decide (s.q < 1) = false := decide_eq_false hq
            have HC2 : Hid (cc = !(wilP x.price (leftO o s.q))) := by
              have := HCC.out
              rw [hqd, Bool.false_or] at this
              show cc = !(wilP x.price o)
              rw [wil_far HS.out, Bool.not_not]; exact this.symm
            have hbW := bel1 W (.cells #[.int .i64 x.price] 3)
            have HBW : Hid (Below W.heap.size W (W.alloc (.cells #[.int .i64 x.price] 3)).drew) := by show Below _ _ _; (repeat' first | assumption | exact Below.refl _ _ | exact Nat.le_refl _ | refine Below.drew ?_ | refine Below.alloc ?_ ?_ _ | (simp; done) | (simp; omega))
            have HNW : Hid ((W.alloc (.cells #[.int .i64 x.price] 3)).drew.heap[W.heap.size]? = some (.cells #[.int .i64 x.price] 3)) := by show _ = _; rw [drew_heap]; exact heap_alloc_new _ _
            have hoD := blk_below (B := W.heap.size) HM.out.box hbW (Nat.le_refl _)
            have p0 : (W.alloc (.cells #[.int .i64 x.price] 3)).cell? ⟨w.heap.size, 0, none⟩ = some (.int .i64 o.id) := blk_cell (j := 0) hoD rfl
            have p1 : (W.alloc (.cells #[.int .i64 x.price] 3)).cell? ⟨w.heap.size, 1, none⟩ = some (.int .i64 o.side) := blk_cell (j := 1) hoD rfl
            have p2 : (W.alloc (.cells #[.int .i64 x.price] 3)).cell? ⟨w.heap.size, 2, none⟩ = some (.int .i64 o.kind) := blk_cell (j := 2) hoD rfl
            have p3 : (W.alloc (.cells #[.int .i64 x.price] 3)).cell? ⟨w.heap.size, 3, none⟩ = some (.int .i64 o.price) := blk_cell (j := 3) hoD rfl
            have p4 : (W.alloc (.cells #[.int .i64 x.price] 3)).cell? ⟨w.heap.size, 4, none⟩ = some (.int .i64 s.q) := blk_cell (j := 4) hoD rfl
            clear hoD hbW
            go_region_with (first | (go_at_call 142; refine (cpWilling x.price _).mono ?_; rintro e w5 ⟨rfl, rfl⟩) | (go_at_call 183; refine (cpWil x.price (leftO o s.q) _ _ HNW.out).mono ?_; rintro e w6 ⟨rfl, hb6⟩))
            all_goals go_wp2_with fail
            all_goals go_meet
            all_goals exact ⟨by rw [HC2.out], HBW.out.trans (hb6.mono HBW.out.size)⟩
        case rest =>
          obtain ⟨rfl, hbc⟩ := hcut
          have hMc := HM.out.below HFF0.out hbc
          have hXc : OrdAt wc xb x := blk_below HX.out hbc (Nat.le_refl _)
          clear hbc HM HX x0 x1 x2 x3 x4 o0 o1 o2 o3 o4
          have HX : Hid (OrdAt wc xb x) := hXc
          have HM : Hid (Mp w wc bb (m + k) w.heap.size (w.heap.size + 1) B (.slice (some ⟨g, 0, none⟩) X.length xc) (.slice fa s.fs.length fc) b b' X o s St D D') := hMc
          have x0 := blk_cell (j := 0) hXc rfl
          have x1 := blk_cell (j := 1) hXc rfl
          have x2 := blk_cell (j := 2) hXc rfl
          have x3 := blk_cell (j := 3) hXc rfl
          have x4 := blk_cell (j := 4) hXc rfl
          have hoA : wc.heap[w.heap.size]? = some (.cells #[.int .i64 o.id, .int .i64 o.side, .int .i64 o.kind, .int .i64 o.price, .int .i64 s.q] 41 (0, 0)) := hMc.box
          have o0 := blk_cell (j := 0) hoA rfl
          have o1 := blk_cell (j := 1) hoA rfl
          have o2 := blk_cell (j := 2) hoA rfl
          have o3 := blk_cell (j := 3) hoA rfl
          have o4 := blk_cell (j := 4) hoA rfl
          clear hMc hXc hoA
          cases cc with
          | true =>
            have HE0 : Hid (meetS al o X ⟨[], L, o.qty, []⟩ = (s, false)) := by
              have h1 := HMT.out
              have h2 := HCC.out
              by_cases hq : s.q < 1
              · rw [meetS_done (by omega)] at h1; exact h1.symm
              · rw [decide_eq_false hq, Bool.false_or] at h2
                rw [HD.out, meetS_far (by omega) HMN.out h2] at h1; exact h1.symm
            go_wp2_with fail
            have hz := HM.out.res
            have z0 := blk_cell (j := 0) hz rfl
            have z1 := blk_cell (j := 1) hz rfl
            have z2 := blk_cell (j := 2) hz rfl
            have z3 := blk_cell (j := 3) hz rfl
            have z4 := blk_cell (j := 4) hz rfl
            have f0 := blk_free (j := 0) hz
            have f1 := blk_free (j := 1) hz
            have f2 := blk_free (j := 2) hz
            have f3 := blk_free (j := 3) hz
            have f4 := blk_free (j := 4) hz
            have HE : Hid (meetS al o (sideO (3 - o.side) L) ⟨[], L, o.qty, []⟩ = (s, false)) := by show _ = _; rw [HXE.out]; exact HE0.out
            have hend := HM.out.done HFF0.out
            unfold boxed leftO DBox at hend
            have HEND : Hid _ := hend
            clear hz hend
            go_region
            all_goals go_wp2_with fail
            all_goals generalize (((((wc.setCell ⟨w.heap.size + 1, 0, none⟩ (.int .i64 o.id)).setCell ⟨w.heap.size + 1, 1, none⟩ (.int .i64 o.side)).setCell ⟨w.heap.size + 1, 2, none⟩ (.int .i64 o.kind)).setCell ⟨w.heap.size + 1, 3, none⟩ (.int .i64 o.price)).setCell ⟨w.heap.size + 1, 4, none⟩ (.int .i64 s.q)).drew = wz at HEND ⊢
            all_goals have e0 := blk_cell (j := 0) HEND.out.1 rfl
            all_goals have e1 := blk_cell (j := 1) HEND.out.1 rfl
            all_goals have e2 := blk_cell (j := 2) HEND.out.1 rfl
            all_goals have e3 := blk_cell (j := 3) HEND.out.1 rfl
            all_goals have e4 := blk_cell (j := 4) HEND.out.1 rfl
            all_goals refine bodyPost_ret (by simp [results, Tryz.results94, go_sem, e0, e1, e2, e3, e4]; try rfl) rfl ?_
            all_goals exact meets_e HE.out (by omega) HEND.out.2
          | false =>
            have hq1 : 0 < s.q := by
              have h2 := HCC.out
              by_cases hq : s.q < 1
              · rw [decide_eq_true hq, Bool.true_or] at h2; cases h2
              · omega
            have HFR : Hid (farB o x = false) := by
              have h2 := HCC.out
              rw [Bool.or_eq_false_iff] at h2; exact h2.2
            have HMX : Hid (MOk (x :: X.drop (k + 1)) s) := by have h1 := HMK.out; rw [HD.out] at h1; exact h1
            have HPX : Hid (1 ≤ x.price ∧ x.price ≤ 1000000 ∧ 1 ≤ x.qty ∧ x.qty ≤ 1000000) := HMX.out.ok.ok x (HMX.out.here x (List.mem_cons_self ..))
            go_wp2_with fail
            refine (cpAskE ga fa0 la x.price (al s.ts x.price) wc HAF.out.enters (fun W' => Below wc.heap.size wc W') (HAF.out.tells HM.out.told x.price HPX.out.1 HPX.out.2.1)).mono ?_
            rintro e w4 ⟨rfl, hb4⟩
            have hM4 := HM.out.below HFF0.out hb4
            have hX4 : OrdAt w4 xb x := blk_below HX.out hb4 (Nat.le_refl _)
            clear hb4 x0 x1 x2 x3 x4 o0 o1 o2 o3 o4 HM HX
            have HX : Hid (OrdAt w4 xb x) := hX4
            have HM : Hid (Mp w w4 bb (m + k) w.heap.size (w.heap.size + 1) B (.slice (some ⟨g, 0, none⟩) X.length xc) (.slice fa s.fs.length fc) b b' X o s St D D') := hM4
            have x0 := blk_cell (j := 0) hX4 rfl
            have x1 := blk_cell (j := 1) hX4 rfl
            have x2 := blk_cell (j := 2) hX4 rfl
            have x3 := blk_cell (j := 3) hX4 rfl
            have x4 := blk_cell (j := 4) hX4 rfl
            have hoA : w4.heap[w.heap.size]? = some (.cells #[.int .i64 o.id, .int .i64 o.side, .int .i64 o.kind, .int .i64 o.price, .int .i64 s.q] 41 (0, 0)) := hM4.box
            have o0 := blk_cell (j := 0) hoA rfl
            have o1 := blk_cell (j := 1) hoA rfl
            have o2 := blk_cell (j := 2) hoA rfl
            have o3 := blk_cell (j := 3) hoA rfl
            have o4 := blk_cell (j := 4) hoA rfl
            clear hM4 hX4 hoA
            cases ha : al s.ts x.price with
            | false =>
              have HE0 : Hid (meetS al o X ⟨[], L, o.qty, []⟩ = (s, true)) := by have := HMT.out; rw [HD.out, meetS_stop hq1 HMN.out HFR.out ha] at this; exact this.symm
              go_wp2_with fail
              have hz := HM.out.res
              have z0 := blk_cell (j := 0) hz rfl
              have z1 := blk_cell (j := 1) hz rfl
              have z2 := blk_cell (j := 2) hz rfl
              have z3 := blk_cell (j := 3) hz rfl
              have z4 := blk_cell (j := 4) hz rfl
              have f0 := blk_free (j := 0) hz
              have f1 := blk_free (j := 1) hz
              have f2 := blk_free (j := 2) hz
              have f3 := blk_free (j := 3) hz
              have f4 := blk_free (j := 4) hz
              have HE : Hid (meetS al o (sideO (3 - o.side) L) ⟨[], L, o.qty, []⟩ = (s, true)) := by show _ = _; rw [HXE.out]; exact HE0.out
              have hend := HM.out.done HFF0.out
              unfold boxed leftO DBox at hend
              have HEND : Hid _ := hend
              clear hz hend
              go_region
              all_goals go_wp2_with fail
              all_goals generalize (((((w4.setCell ⟨w.heap.size + 1, 0, none⟩ (.int .i64 o.id)).setCell ⟨w.heap.size + 1, 1, none⟩ (.int .i64 o.side)).setCell ⟨w.heap.size + 1, 2, none⟩ (.int .i64 o.kind)).setCell ⟨w.heap.size + 1, 3, none⟩ (.int .i64 o.price)).setCell ⟨w.heap.size + 1, 4, none⟩ (.int .i64 s.q)).drew = wz at HEND ⊢
              all_goals have e0 := blk_cell (j := 0) HEND.out.1 rfl
              all_goals have e1 := blk_cell (j := 1) HEND.out.1 rfl
              all_goals have e2 := blk_cell (j := 2) HEND.out.1 rfl
              all_goals have e3 := blk_cell (j := 3) HEND.out.1 rfl
              all_goals have e4 := blk_cell (j := 4) HEND.out.1 rfl
              all_goals refine bodyPost_ret (by simp [results, Tryz.results94, go_sem, e0, e1, e2, e3, e4]; try rfl) rfl ?_
              all_goals exact meets_e HE.out (by omega) HEND.out.2
            | true =>
              have HE0 : Hid (meetS al o (X.drop (k + 1)) (mstep o x s) = meetS al o X ⟨[], L, o.qty, []⟩) := by have := HMT.out; rw [HD.out, meetS_trade hq1 HMN.out HFR.out ha] at this; exact this
              have hlots := HMX.out.lots hq1
              go_wp2_with fail
              refine (cpBetween (leftO o s.q) x w4 HS.out).mono ?_
              rintro e w5 ⟨rfl, hb5⟩
              obtain ⟨f, hf⟩ : ∃ f, mfill o x (min s.q x.qty) = f := ⟨_, rfl⟩
              have hff : mfill (leftO o s.q) x (min (leftO o s.q).qty x.qty) = f := hf
              have hfq : f.qty = min s.q x.qty := by rw [← hf]; unfold mfill; split <;> rfl
              rw [hff]
              have HFF : Hid (mfill o x (min s.q x.qty) = f) := hf
              have HFQ : Hid (f.qty = min s.q x.qty) := hfq
              rw [← hfq] at hlots
              have hM5 := HM.out.below HFF0.out hb5
              have hX5 : OrdAt w5 xb x := blk_below HX.out hb5 (Nat.le_refl _)
              have hz5 : xb < w5.heap.size := lt_of_block hX5
              clear hb5 x0 x1 x2 x3 x4 o0 o1 o2 o3 o4 HM HX hf hff hfq
              have HX : Hid (OrdAt w5 xb x) := hX5
              have HM : Hid (Mp w w5 bb (m + k) w.heap.size (w.heap.size + 1) B (.slice (some ⟨g, 0, none⟩) X.length xc) (.slice fa s.fs.length fc) b b' X o s St D D') := hM5
              have HNB : Hid (∀ j, (Value.slice fa s.fs.length fc).ownBlock = some j → j < w5.heap.size) := fun j hj => (hM5.fils.lt j hj).2
              clear hM5 hX5
              go_upto_region 10 with fail
              have hb6 := bel1 w5 (.cells #[.int .i64 f.buyer, .int .i64 f.seller, .int .i64 f.price, .int .i64 f.qty] 115)
              have hf6 := heap_alloc_new w5 (.cells #[.int .i64 f.buyer, .int .i64 f.seller, .int .i64 f.price, .int .i64 f.qty] 115)
              generalize w5.alloc (.cells #[.int .i64 f.buyer, .int .i64 f.seller, .int .i64 f.price, .int .i64 f.qty] 115) = w6 at hb6 hf6 ⊢
              have HM6 : Hid _ := HM.out.below HFF0.out hb6
              have hX6 : OrdAt w6 xb x := blk_below HX.out hb6 (Nat.le_refl _)
              generalize w5.heap.size = fb at *
              have HF6 : Hid (FBox w6 fb f) := hf6
              have HX6 : Hid (OrdAt w6 xb x) := hX6
              have x0 : w6.cell? ⟨xb, 0, none⟩ = some (.int .i64 x.id) := blk_cell (j := 0) hX6 rfl
              have f3 : w6.cell? ⟨fb, 3, none⟩ = some (.int .i64 f.qty) := blk_cell (j := 3) hf6 rfl
              clear hb6 hf6 hX6 HM HX
              go_wp2_with fail
              refine (cpCut_yes bb (m + k) b' s.L x f.qty w6 HM6.out.bk (by omega) HM6.out.lnk HMX.out.ok (HMX.out.here x (List.mem_cons_self ..)) ⟨hlots.1, hlots.2.1⟩).mono ?_
              rintro e w7 ⟨err, rfl, b2, hl7, hg7⟩
              have HM7 : Hid _ := HM6.out.cut HFF0.out hg7 hl7
              have hX7 : OrdAt w7 xb x := blk_out HX6.out hg7.2.1 (HM6.out.bk.farBox HX6.out (by decide) (by decide) (by decide) (by decide) (by decide))
              have hF7 : FBox w7 fb f := blk_out HF6.out hg7.2.1 (HM6.out.bk.farBox HF6.out (by decide) (by decide) (by decide) (by decide) (by decide))
              have HX7 : Hid (OrdAt w7 xb x) := hX7
              have HF7 : Hid (FBox w7 fb f) := hF7
              have hoB : w7.heap[w.heap.size]? = some (.cells #[.int .i64 o.id, .int .i64 o.side, .int .i64 o.kind, .int .i64 o.price, .int .i64 s.q] 41 (0, 0)) := HM7.out.box
              clear x0 f3 hl7 hg7 HM6 HX6 HF6
              have f3 : w7.cell? ⟨fb, 3, none⟩ = some (.int .i64 f.qty) := blk_cell (j := 3) hF7 rfl
              have o4 := blk_cell (j := 4) hoB rfl
              have of4 := blk_free (j := 4) hoB
              have q4 : IntKind.i64.wrap (s.q - f.qty) = s.q - f.qty := IntWalk.i64_in _ (by omega)
              clear hoB hX7 hF7
              go_upto_region 12 with fail
              have hM8 := HM7.out.left HFF0.out (s.q - f.qty)
              have hX8 : OrdAt (w7.setCell ⟨w.heap.size, 4, none⟩ (.int .i64 (s.q - f.qty))) xb x := blk_out HX7.out (out_set w7 ⟨w.heap.size, 4, none⟩ (.int .i64 (s.q - f.qty))) (by show ¬ xb = w.heap.size; omega)
              have hF8 : FBox (w7.setCell ⟨w.heap.size, 4, none⟩ (.int .i64 (s.q - f.qty))) fb f := blk_out HF7.out (out_set w7 ⟨w.heap.size, 4, none⟩ (.int .i64 (s.q - f.qty))) (by show ¬ fb = w.heap.size; omega)
              generalize w7.setCell ⟨w.heap.size, 4, none⟩ (.int .i64 (s.q - f.qty)) = w8 at hM8 hX8 hF8 ⊢
              have HM8 : Hid _ := hM8
              have HX8 : Hid (OrdAt w8 xb x) := hX8
              have g0 : w8.cell? ⟨fb, 0, none⟩ = some (.int .i64 f.buyer) := blk_cell (j := 0) hF8 rfl
              have g1 : w8.cell? ⟨fb, 1, none⟩ = some (.int .i64 f.seller) := blk_cell (j := 1) hF8 rfl
              have g2 : w8.cell? ⟨fb, 2, none⟩ = some (.int .i64 f.price) := blk_cell (j := 2) hF8 rfl
              have g3 : w8.cell? ⟨fb, 3, none⟩ = some (.int .i64 f.qty) := blk_cell (j := 3) hF8 rfl
              clear f3 o4 of4 hM8 hX8 hF8 HM7 HX7 HF7
              have hln : s.fs.length ≤ 100 := by omega
              have hwz : w.heap.size ≤ w8.heap.size := HM8.out.out.size
              go_wp2_with (at_builtin; refine wpList_append_own_at _ rfl _ _ 44 rfl w.heap.size 115 iF (.agg #[.int .i64 0, .int .i64 0, .int .i64 0, .int .i64 0]) 4 32 Tryz.underlying44 hiF hF0 hF1 hF2 rfl (by decide) _ s.fs.length (fV s.fs) rfl (HM8.out.fils.alloc _) ⟨w8.heap.size, 0, none⟩ 1 1 [.int .i64 f.buyer, .int .i64 f.seller, .int .i64 f.price, .int .i64 f.qty] rfl rfl (World.news_of_block (cs := #[.int .i64 f.buyer, .int .i64 f.seller, .int .i64 f.price, .int .i64 f.qty]) (t := 115) (fr := (0, 0)) (heap_alloc_new w8 _)) (by simp [Value.oneCell']) (by unfold maxLen; omega) (by omega) (by simp; omega) ?_; intro v9 w9 hown9 hgrow9 _ _; have hX9 : OrdAt w9 xb x := blk_out HX8.out (HM8.out.pushed hgrow9) (owns_type HM8.out.fils HX8.out (by decide)); have x9 : w9.cell? ⟨xb, 3, none⟩ = some (.int .i64 x.price) := blk_cell (j := 3) hX9 rfl; have HM9 : Hid _ := HM8.out.push HFF0.out (f := f) hgrow9 hown9; clear hX9 hown9 hgrow9 g0 g1 g2 g3)
              have hone := HMX.out.one
              refine (cpTellE gt ft0 lt x.price w9 HTF.out.enters _ (HTF.out.tells HM9.out.told (by show s.ts.length ≤ 1000; omega) x.price HPX.out.1 HPX.out.2.1)).mono ?_
              rintro e w10 ⟨rfl, D2, ht, ho, hd⟩
              have HM10 : Hid _ := HM9.out.tell HFF0.out ht ho hd
              have HK2 : Hid (MOk (X.drop (k + 1)) (mstep o x s)) := HMX.out.step o hq1
              have HSTP : Hid (mstep o x s = ⟨s.fs ++ [f], lessF x.id f.qty s.L, s.q - f.qty, s.ts ++ [x.price]⟩) := by show _ = _; unfold mstep; rw [HFF.out, HFQ.out]
              clear ht ho hd HM9 x9
              go_wp2_with fail
              go_roundw
              case rel =>
                refine ⟨k + 1, mstep o x s, b2, D2, by go_num, hk1, HE0.out, HK2.out, ?_, ?_, ?_⟩
                · rw [HSTP.out]
                  show (s.fs ++ [f]).length ≤ k + 1
                  rw [List.length_append, List.length_singleton]; omega
                · rw [HSTP.out]
                  show -9223372036854775808 ≤ s.q - f.qty ∧ s.q - f.qty ≤ 9223372036854775807
                  omega
                · rw [HSTP.out]; exact HM10.out
              case measure => first | (simp [RowKit.intOf]; omega) | (show X.length - (k + 1) < X.length - k; omega) | omega
    · have hkx : k = X.length := by omega
      have hoA : wr.heap[w.heap.size]? = some (.cells #[.int .i64 o.id, .int .i64 o.side, .int .i64 o.kind, .int .i64 o.price, .int .i64 s.q] 41 (0, 0)) := hM.box
      have o0 := blk_cell (j := 0) hoA rfl
      have o1 := blk_cell (j := 1) hoA rfl
      have o2 := blk_cell (j := 2) hoA rfl
      have o3 := blk_cell (j := 3) hoA rfl
      have o4 := blk_cell (j := 4) hoA rfl
      have HE0 : Hid (meetS al o X ⟨[], L, o.qty, []⟩ = (s, false)) := by have := HMT.out; rw [List.drop_eq_nil_of_le (by omega)] at this; exact this.symm
      clear hM hoA
      go_wp2_with fail
      have hz := HM.out.res
      have z0 := blk_cell (j := 0) hz rfl
      have z1 := blk_cell (j := 1) hz rfl
      have z2 := blk_cell (j := 2) hz rfl
      have z3 := blk_cell (j := 3) hz rfl
      have z4 := blk_cell (j := 4) hz rfl
      have f0 := blk_free (j := 0) hz
      have f1 := blk_free (j := 1) hz
      have f2 := blk_free (j := 2) hz
      have f3 := blk_free (j := 3) hz
      have f4 := blk_free (j := 4) hz
      have HE : Hid (meetS al o (sideO (3 - o.side) L) ⟨[], L, o.qty, []⟩ = (s, false)) := by show _ = _; rw [HXE.out]; exact HE0.out
      have hend := HM.out.done HFF0.out
      unfold boxed leftO DBox at hend
      have HEND : Hid _ := hend
      clear hz hend
      go_region
      all_goals go_wp2_with fail
      all_goals generalize (((((wr.setCell ⟨w.heap.size + 1, 0, none⟩ (.int .i64 o.id)).setCell ⟨w.heap.size + 1, 1, none⟩ (.int .i64 o.side)).setCell ⟨w.heap.size + 1, 2, none⟩ (.int .i64 o.kind)).setCell ⟨w.heap.size + 1, 3, none⟩ (.int .i64 o.price)).setCell ⟨w.heap.size + 1, 4, none⟩ (.int .i64 s.q)).drew = wz at HEND ⊢
      all_goals have e0 := blk_cell (j := 0) HEND.out.1 rfl
      all_goals have e1 := blk_cell (j := 1) HEND.out.1 rfl
      all_goals have e2 := blk_cell (j := 2) HEND.out.1 rfl
      all_goals have e3 := blk_cell (j := 3) HEND.out.1 rfl
      all_goals have e4 := blk_cell (j := 4) HEND.out.1 rfl
      all_goals refine bodyPost_ret (by simp [results, Tryz.results94, go_sem, e0, e1, e2, e3, e4]; try rfl) rfl ?_
      all_goals exact meets_e HE.out (by omega) HEND.out.2
end Go.Proofs.YtjdkagafdnchhaaGreatDoor
