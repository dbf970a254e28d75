/-
  What the program's Of returns, over this seat's translation. Conditions stand in the theorem: where the orders lie, that they are at most 1000, and that prices are ints.
-/
import Derived.Test.YtahmeoafoedebabCuPoints
import Derived.Test.YtahmeoafoedebabCuArg
import Derived.Deep.RegionWith
import Derived.Deep.CutRange
namespace Go.Proofs.Ytahmeoafoedebab
open Go.RowKit

/-- the lots that any price suits, in a block of their own -/
def MkAt (w : World) (mb : Nat) (a b : Int) : Prop := w.heap[mb]? = some (.cells #[.int .i64 a, .int .i64 b] 45 (0, 0))
theorem MkAt.below {w w' : World} {mb : Nat} {a b : Int} (h : MkAt w mb a b) (hb : Below w.heap.size w w') : MkAt w' mb a b := cu_keep h hb
theorem MkAt.set {w : World} {mb : Nat} {a b : Int} (h : MkAt w mb a b) (a' b' : Int) : MkAt ((w.setCell ⟨mb, 0, none⟩ (.int .i64 a')).setCell ⟨mb, 1, none⟩ (.int .i64 b')) mb a' b' :=
  cu_set (j := 1) _ (cu_set (j := 0) (.int .i64 a') h)
theorem row_set {w : World} {base : Nat} {e t : TypeId} {size : Nat} {v : Value} {n : Nat} {xs : List Value} {mb j : Nat} {vs : Array Value} {u : Value} (h : w.ownsRow base e size v n xs) (hb : w.heap[mb]? = some (.cells vs t (0, 0))) (ht : e ≠ t) : (w.setCell ⟨mb, j, none⟩ u).ownsRow base e size v n xs := by
  refine ⟨h.1, h.2.imp id (fun ⟨g, cap, cur, e1, hg, hh, r⟩ => ⟨g, cap, cur, e1, hg, (Below.heap_setCell _ _ _ _ (fun e2 => ?_)).trans hh, r⟩)⟩
  have e3 : g = mb := e2
  rw [e3, hb] at hh
  simp at hh
  exact ht hh.2.symm
theorem row_map {w : World} {base : Nat} {e : TypeId} {size : Nat} {v : Value} {n : Nat} {xs : List Value} {B : Nat} {l : List Ord} {more : Int} (h : w.ownsRow base e size v n xs) (hL : LotsAt w B l more) : ∀ k, v.ownBlock = some k → (some B : Option Nat) ≠ some k := fun k hk e2 => by
  obtain ⟨D, ⟨es, clock, e1, _⟩, _⟩ := hL
  rcases h.2 with ⟨rfl, _⟩ | ⟨g, cap, cur, rfl, _, hh, _⟩
  · simp [Value.ownBlock] at hk
  · simp [Value.ownBlock] at hk
    injection e2 with e2
    subst hk
    subst e2
    rw [hh] at e1
    simp at e1
theorem and_mkB {o : Ord} {F : List Ord} {k : Nat} (h : k < F.length) (ho : oAt F k = o) (hk : o.kind = 2) : andB o (sumQ mkBB (F.take k)) = sumQ mkBB (F.take (k + 1)) := by
  rw [sumQ_take _ h, ho]
  unfold andB mkBB
  by_cases hs : o.side = 1 <;> simp [hs, hk]
theorem and_mkS {o : Ord} {F : List Ord} {k : Nat} (h : k < F.length) (ho : oAt F k = o) (hk : o.kind = 2) : andS o (sumQ mkSB (F.take k)) = sumQ mkSB (F.take (k + 1)) := by
  rw [sumQ_take _ h, ho]
  unfold andS mkSB
  by_cases hs : o.side = 1 <;> simp [hs, hk]
theorem and_limB {o : Ord} (l : List Ord) (hk : o.kind ≠ 2) : andB o (sumQ (limBB o.price) l) = sumQ (limBB o.price) (l ++ [o]) := by
  rw [sumQ_snoc]
  unfold andB limBB
  by_cases hs : o.side = 1 <;> simp [hs, hk]
theorem and_limS {o : Ord} (l : List Ord) (hk : o.kind ≠ 2) : andS o (sumQ (limSB o.price) l) = sumQ (limSB o.price) (l ++ [o]) := by
  rw [sumQ_snoc]
  unfold andS limSB
  by_cases hs : o.side = 1 <;> simp [hs, hk]
theorem mk_off {F : List Ord} {k : Nat} {q : Ord → Bool} (h : k < F.length) (hq : q (oAt F k) = false) : sumQ q (F.take (k + 1)) = sumQ q (F.take k) := sumQ_no h hq
theorem take_snoc {F : List Ord} {k : Nat} (h : k < F.length) : F.take (k + 1) = F.take k ++ [oAt F k] := by rw [List.take_succ_eq_append_getElem h, oAt_eq h]
theorem names_of {o : Ord} (h : okO o = true) (hk : o.kind ≠ 2) : namesO o = true := by unfold namesO; rw [h]; simp [hk]
/-- the map as it is made -/
theorem lots_made (w : World) (o : Obj) (more : Int) (hm : ¬ 0 < more) : LotsAt ((w.alloc o).alloc (.map #[] 0)) (w.heap.size + 1) [] more := by
  have h := World.ownsMap_made (w.alloc o) Try.prog 3 lotR
  rw [show (w.alloc o).heap.size = w.heap.size + 1 by simp] at h
  exact ⟨_, h.mono (by simp), ⟨_, rfl⟩, LotD.start hm⟩
theorem lots_more (w : World) (o : Obj) {more : Int} (hm : 0 < more) (hw : (Lit.int .i64 more).wf = true) :
    ∃ w', (Instr.mapUpdate 46 (.map (some (w.heap.size + 1))) (.int .i64 more) (.agg #[.int .i64 0, .int .i64 0])).run Try.prog ((w.alloc o).alloc (.map #[] 0)) = .ok () w' ∧ LotsAt w' (w.heap.size + 1) [] more ∧ ((w.alloc o).alloc (.map #[] 0)).grownBy w' (some (w.heap.size + 1)) := by
  have h := World.ownsMap_made (w.alloc o) Try.prog 3 lotR
  rw [show (w.alloc o).heap.size = w.heap.size + 1 by simp] at h
  obtain ⟨w', hr, ho', hg⟩ := h.update Try.keyInt Try.underlying46 (by unfold maxLen; omega) (Try.keyIs hw) (lotR_mk _ _)
  exact ⟨w', hr, ⟨_, ho'.mono (by simp), ⟨_, rfl⟩, LotD.more hm⟩, hg⟩

set_option maxRecDepth 4000 in
set_option maxHeartbeats 4000000 in
theorem cuOf (a : Option Addr) (cap : Nat) (l : List Ord) (more : Int) (w : World) (h : OrdsIn w a l) (hl : l.length ≤ 1000) (hw : ∀ o ∈ l, o.Wf) (hm : wf64 more) :
    Calls Try.prog 8 #[.slice a l.length cap, .int .i64 more] w fun e w' => ∃ v', e = .returned v' ∧ w'.ownsRow w.heap.size 41 3 v' (curveL l more).length (ptV (curveL l more)) ∧ Below w.heap.size w w' := by
  have HA : Hid (OrdsIn w a l) := h
  have HWF : Hid (∀ o ∈ l, o.Wf) := hw
  have hmm := @run_makeMap Try.prog
  clear h hw
  go_enter Try.func8, Try.ntmps8
  go_upto_if 11 with fail
  go_cut [] from 10 to 14 (fun wc => LotsAt wc (w.heap.size + 1) [] more ∧ MkAt wc w.heap.size 0 0 ∧ Below w.heap.size w wc)
  case first =>
    have hb2 : Below w.heap.size w ((w.alloc (.cells #[.int .i64 0, .int .i64 0] 45)).alloc (.map #[] 0)) := cu_then (cu_bel1 w _) (cu_bel1 _ _)
    have hk2 : MkAt ((w.alloc (.cells #[.int .i64 0, .int .i64 0] 45)).alloc (.map #[] 0)) w.heap.size 0 0 := cu_keep (heap_alloc_new w _) (cu_bel1 _ _)
    by_cases hmp : 0 < more
    · obtain ⟨w1, r1, hL1, hg1⟩ := lots_more w (.cells #[.int .i64 0, .int .i64 0] 45) hmp hm
      have HL1 : Hid (LotsAt w1 (w.heap.size + 1) [] more) := hL1
      have HK1 : Hid (MkAt w1 w.heap.size 0 0) := (hg1.block w.heap.size (lt_of_block hk2) (by simp)).trans hk2
      have HB1 : Hid (Below w.heap.size w w1) := hb2.grown hg1 (by simp; omega) (fun q hq => by injection hq with hq; omega)
      clear hL1 hg1 hb2 hk2
      go_wp2_with fail
      go_meet
      exact ⟨HL1.out, HK1.out, HB1.out⟩
    · have HL1 : Hid (LotsAt ((w.alloc (.cells #[.int .i64 0, .int .i64 0] 45)).alloc (.map #[] 0)) (w.heap.size + 1) [] more) := lots_made w _ more hmp
      have HB1 : Hid (Below w.heap.size w ((w.alloc (.cells #[.int .i64 0, .int .i64 0] 45)).alloc (.map #[] 0))) := hb2
      have HK1 : Hid (MkAt ((w.alloc (.cells #[.int .i64 0, .int .i64 0] 45)).alloc (.map #[] 0)) w.heap.size 0 0) := hk2
      clear hb2 hk2
      go_wp2_with fail
      go_meet
      exact ⟨HL1.out, HK1.out, HB1.out⟩
  case rest =>
    obtain ⟨hL, hK, hb⟩ := hcut
    have HL : Hid (LotsAt wc (w.heap.size + 1) [] more) := hL
    have HK : Hid (MkAt wc w.heap.size 0 0) := hK
    have HB : Hid (Below w.heap.size w wc) := hb
    clear hL hK hb hmm
    go_wp2_with fail
    refine (cuKeep a _ l wc (HA.out.below HB.out) hl).mono ?_
    rintro e w2 ⟨v2, rfl, hown, hb2⟩
    have HW2 : Hid (w2.ownsRow w.heap.size 35 5 v2 (l.filter okO).length (oV (l.filter okO))) := owns_base hown HB.out.size
    have HL2 : Hid (LotsAt w2 (w.heap.size + 1) ((l.filter okO).take 0) more) := HL.out.below hb2
    have HK2 : Hid (MkAt w2 w.heap.size (sumQ mkBB ((l.filter okO).take 0)) (sumQ mkSB ((l.filter okO).take 0))) := HK.out.below hb2
    have HB2 : Hid (Below w.heap.size w w2) := cu_then HB.out hb2
    have HF : Hid (∀ o ∈ l.filter okO, okO o = true) := fun o ho => (List.mem_filter.1 ho).2
    have HFW : Hid (∀ o ∈ l.filter okO, wf64 o.price) := fun o ho => (HWF.out o (List.mem_filter.1 ho).1).2.2.2.1
    have hfl : (l.filter okO).length ≤ 1000 := Nat.le_trans (List.length_filter_le _ _) hl
    have HCU : Hid (∀ xs : List Int, xs.Pairwise (· < ·) → (∀ p, p ∈ xs ↔ p ∈ pricesO (l.filter okO) more) → ptsX xs (l.filter okO) = curveL l more) := fun xs h1 h2 => ptsX_curve h1 h2
    obtain ⟨ao, vc, rfl, _, _⟩ := bk_shape hown
    clear hown hb2 HL HK HB HA HWF
    generalize l.filter okO = F at HW2 HL2 HK2 HF HFW hfl HCU ⊢
    go_wp2_with fail
    go_loopw [18] (fun i wr => ∃ k : Nat, k ≤ F.length ∧ i = .int .i64 k ∧ MkAt wr w.heap.size (sumQ mkBB (F.take k)) (sumQ mkSB (F.take k)) ∧ LotsAt wr (w.heap.size + 1) (F.take k) more ∧ wr.ownsRow w.heap.size 35 5 (.slice ao F.length vc) F.length (oV F) ∧ Below w.heap.size w wr) (fun i _ => F.length - (RowKit.intOf i).toNat)
    case atStart => exact ⟨0, Nat.zero_le _, rfl, HK2.out, HL2.out, HW2.out, HB2.out⟩
    case round =>
      obtain ⟨k, hk, rfl, hmk, hlo, hro, hb⟩ := hrel
      have HK : Hid (MkAt wr w.heap.size (sumQ mkBB (F.take k)) (sumQ mkSB (F.take k))) := hmk
      have HL : Hid (LotsAt wr (w.heap.size + 1) (F.take k) more) := hlo
      have HR : Hid (wr.ownsRow w.heap.size 35 5 (.slice ao F.length vc) F.length (oV F)) := hro
      have HB : Hid (Below w.heap.size w wr) := hb
      clear HK2 HL2 HW2 HB2 hmk hlo hb
      by_cases hk1 : k < F.length
      · have hlt : (k : Int) < (F.length : Int) := by omega
        obtain ⟨g, cap', hv, d0, d1, d2, d3, d4⟩ := row_order hro hk1
        simp only [Value.slice.injEq, true_and] at hv
        obtain ⟨rfl, rfl⟩ := hv
        have HOK : Hid (okO (oAt F k) = true) := HF.out _ (by rw [oAt_eq hk1]; exact List.getElem_mem hk1)
        have HPW : Hid (wf64 (oAt F k).price) := HFW.out _ (by rw [oAt_eq hk1]; exact List.getElem_mem hk1)
        have HTS : Hid (F.take (k + 1) = F.take k ++ [oAt F k]) := take_snoc hk1
        have hqb := (okO_qty HOK.out).2
        have hs1 := sumQ_small (q := mkBB) (ok_take HF.out k) (by rw [List.length_take]; omega)
        have hs2 := sumQ_small (q := mkSB) (ok_take HF.out k) (by rw [List.length_take]; omega)
        have HMB : Hid ((oAt F k).kind = 2 → andB (oAt F k) (sumQ mkBB (F.take k)) = sumQ mkBB (F.take (k + 1))) := and_mkB hk1 rfl
        have HMS : Hid ((oAt F k).kind = 2 → andS (oAt F k) (sumQ mkSB (F.take k)) = sumQ mkSB (F.take (k + 1))) := and_mkS hk1 rfl
        have HNB : Hid ((oAt F k).kind ≠ 2 → sumQ mkBB (F.take (k + 1)) = sumQ mkBB (F.take k)) := fun e => sumQ_no hk1 (by unfold mkBB; simp [e])
        have HNS : Hid ((oAt F k).kind ≠ 2 → sumQ mkSB (F.take (k + 1)) = sumQ mkSB (F.take k)) := fun e => sumQ_no hk1 (by unfold mkSB; simp [e])
        have htl : (F.take k).length ≤ 1000 := by rw [List.length_take]; omega
        have HOT : Hid (∀ o ∈ F.take k, okO o = true) := ok_take HF.out k
        clear hro
        generalize oAt F k = x at d0 d1 d2 d3 d4 HOK HPW HTS hqb HMB HMS HNB HNS
        have hX : OdBox (wr.alloc (.cells #[.int .i64 x.id, .int .i64 x.side, .int .i64 x.kind, .int .i64 x.price, .int .i64 x.qty] 35)) wr.heap.size x := heap_alloc_new wr _
        have hbA := cu_bel1 wr (.cells #[.int .i64 x.id, .int .i64 x.side, .int .i64 x.kind, .int .i64 x.price, .int .i64 x.qty] 35)
        by_cases hkd : x.kind = 2
        · have hkb : (x.kind == 2) = true := beq_iff_eq.2 hkd
          have m0 := cu_blk (j := 0) (HK.out.below hbA) rfl
          have m1 := cu_blk (j := 1) (HK.out.below hbA) rfl
          have HLS : Hid (LotsAt wr (w.heap.size + 1) (F.take (k + 1)) more) := by rw [HTS.out]; exact HL.out.same hkd
          have HM1 : Hid (andB x (sumQ mkBB (F.take k)) = sumQ mkBB (F.take (k + 1))) := HMB.out hkd
          have HM2 : Hid (andS x (sumQ mkSB (F.take k)) = sumQ mkSB (F.take (k + 1))) := HMS.out hkd
          clear hX HMB HMS HNB HNS HL hkd
          generalize sumQ mkBB (F.take k) = sb at hs1 HK m0 HM1
          generalize sumQ mkSB (F.take k) = ssl at hs2 HK m1 HM2
          go_wp2_with fail
          have HX : Hid (OdBox (wr.alloc (.cells #[.int .i64 x.id, .int .i64 x.side, .int .i64 x.kind, .int .i64 x.price, .int .i64 x.qty] 35)) wr.heap.size x) := heap_alloc_new wr _
          have HBA : Hid (Below wr.heap.size wr (wr.alloc (.cells #[.int .i64 x.id, .int .i64 x.side, .int .i64 x.kind, .int .i64 x.price, .int .i64 x.qty] 35))) := hbA
          clear hbA
          generalize wr.alloc (.cells #[.int .i64 x.id, .int .i64 x.side, .int .i64 x.kind, .int .i64 x.price, .int .i64 x.qty] 35) = V at m0 m1 HX HBA ⊢
          refine (cuAnd sb ssl x V (by omega) (by omega) (by omega)).mono ?_
          rintro e w5 ⟨rfl, hb5⟩
          have hk5 := (HK.out.below HBA.out).below hb5
          have HK5 : Hid (MkAt w5 w.heap.size sb ssl) := hk5
          have n0 := cu_blk (j := 0) hk5 rfl
          have n1 := cu_blk (j := 1) hk5 rfl
          have f0 := cu_free (j := 0) hk5
          have f1 := cu_free (j := 1) hk5
          have hb05 := cu_then HBA.out hb5
          have HL5 : Hid (LotsAt w5 (w.heap.size + 1) (F.take (k + 1)) more) := HLS.out.below hb05
          have HR5 : Hid (w5.ownsRow w.heap.size 35 5 (.slice (some ⟨g, 0, none⟩) F.length vc) F.length (oV F)) := bk_below HR.out hb05 (Nat.le_refl _)
          have HB5 : Hid (Below w.heap.size w w5) := cu_then HB.out hb05
          clear hk5 hb5 hb05 m0 m1 HX HBA HLS HK HR HB
          rw [HM1.out, HM2.out]
          go_wp2_with fail
          go_roundw
          case rel =>
            refine ⟨k + 1, hk1, by go_num, HK5.out.set _ _, HL5.out.block ?_, row_set (row_set HR5.out HK5.out (by decide)) (cu_set (j := 0) _ HK5.out) (by decide), (HB5.out.setCell (Nat.le_refl _) _).setCell (Nat.le_refl _) _⟩
            exact (Below.heap_setCell _ _ _ _ (by simp)).trans (Below.heap_setCell _ _ _ _ (by simp))
          case measure => simp [RowKit.intOf]; omega
        · have hkb : (x.kind == 2) = false := beq_eq_false_iff_ne.2 hkd
          have HM1 : Hid (sumQ mkBB (F.take (k + 1)) = sumQ mkBB (F.take k)) := HNB.out hkd
          have HM2 : Hid (sumQ mkSB (F.take (k + 1)) = sumQ mkSB (F.take k)) := HNS.out hkd
          have hq1 := sumQ_small (q := limBB x.price) HOT.out htl
          have hq2 := sumQ_small (q := limSB x.price) HOT.out htl
          have HA1 : Hid (andB x (sumQ (limBB x.price) (F.take k)) = sumQ (limBB x.price) (F.take k ++ [x])) := and_limB _ hkd
          have HA2 : Hid (andS x (sumQ (limSB x.price) (F.take k)) = sumQ (limSB x.price) (F.take k ++ [x])) := and_limS _ hkd
          have HNM : Hid (namesO x = true) := names_of HOK.out hkd
          clear HMB HMS HNB HNS
          go_upto_region 10 with fail
          have HX : Hid (OdBox (wr.alloc (.cells #[.int .i64 x.id, .int .i64 x.side, .int .i64 x.kind, .int .i64 x.price, .int .i64 x.qty] 35)) wr.heap.size x) := hX
          have HBA : Hid (Below wr.heap.size wr (wr.alloc (.cells #[.int .i64 x.id, .int .i64 x.side, .int .i64 x.kind, .int .i64 x.price, .int .i64 x.qty] 35))) := hbA
          have HLV : Hid (LotsAt (wr.alloc (.cells #[.int .i64 x.id, .int .i64 x.side, .int .i64 x.kind, .int .i64 x.price, .int .i64 x.qty] 35)) (w.heap.size + 1) (F.take k) more) := HL.out.below hbA
          clear hX hbA d0 d1 d2 d3 d4
          generalize wr.alloc (.cells #[.int .i64 x.id, .int .i64 x.side, .int .i64 x.kind, .int .i64 x.price, .int .i64 x.qty] 35) = V at HX HBA HLV ⊢
          generalize wr.heap.size = xb at HX ⊢
          have hlk : (Instr.lookup 46 (.map (some (w.heap.size + 1))) (.int .i64 x.price) false).run Try.prog V.drew = .ok (.agg #[.int .i64 (sumQ (limBB x.price) (F.take k)), .int .i64 (sumQ (limSB x.price) (F.take k))]) V.drew := (HLV.out.block (w' := V.drew) rfl).look HPW.out
          have x0 := cu_blk (j := 0) HX.out rfl
          have x1 := cu_blk (j := 1) HX.out rfl
          have x2 := cu_blk (j := 2) HX.out rfl
          have x3 := cu_blk (j := 3) HX.out rfl
          have x4 := cu_blk (j := 4) HX.out rfl
          go_region_with (go_at_call 23; refine (cuAnd _ _ x _ ?_ ?_ ?_).mono ?_; (omega); (omega); (omega); rintro e w5 ⟨rfl, hb5⟩; rw [HA1.out, HA2.out]; (have y3 := cu_blk (j := 3) (cu_keep (w := V.drew) HX.out hb5) rfl; obtain ⟨w6, hr6, hL6, hg6⟩ := LotsAt.store (HLV.out.block (w' := w5) (hb5.block _ HLV.out.lt)) HNM.out HPW.out htl))
          all_goals
            have HL6 : Hid (LotsAt w6 (w.heap.size + 1) (F.take (k + 1)) more) := by rw [HTS.out]; exact hL6
            have hk5 := (HK.out.below HBA.out).below (w := V) (w' := V.drew) (Below.refl _ V).drew
            have hk6 := hk5.below hb5
            have HK6 : Hid (MkAt w6 w.heap.size (sumQ mkBB (F.take k)) (sumQ mkSB (F.take k))) := (hg6.block w.heap.size (lt_of_block hk6) (by simp)).trans hk6
            have hr5 := bk_below HR.out (cu_then HBA.out (cu_then (w1 := V.drew) (Below.refl _ V).drew hb5)) (Nat.le_refl _)
            have HR6 : Hid (w6.ownsRow w.heap.size 35 5 (.slice (some ⟨g, 0, none⟩) F.length vc) F.length (oV F)) := row_other hr5 hg6 (row_map hr5 (HLV.out.block (w' := w5) (hb5.block _ HLV.out.lt)))
            have hb05 := cu_then HB.out (cu_then HBA.out (cu_then (w1 := V.drew) (Below.refl _ V).drew hb5))
            have HB6 : Hid (Below w.heap.size w w6) := hb05.grown hg6 hb05.size (fun q hq => by injection hq with hq; omega)
            clear hb05 hr5 hk6 hk5 hL6 hg6 hr6 y3 hb5 x0 x1 x2 x3 x4 hlk
            go_wp2_with fail
            go_roundw
            case rel => exact ⟨k + 1, hk1, by go_num, by rw [HM1.out, HM2.out]; exact HK6.out, HL6.out, HR6.out, HB6.out⟩
            case measure => simp [RowKit.intOf]; omega
      · obtain rfl : k = F.length := by omega
        rw [List.take_length] at HK HL
        have m0 := cu_blk (j := 0) HK.out rfl
        have m1 := cu_blk (j := 1) HK.out rfl
        clear hro
        go_wp2_with fail
        refine (cuPoints _ F more wr HL.out HF.out hfl).mono ?_
        rintro e w7 ⟨v7, xs, rfl, hx1, hx2, hown7, hb7⟩
        have HO7 : Hid (w7.ownsRow w.heap.size 41 3 v7 (curveL l more).length (ptV (curveL l more))) := by
          rw [← HCU.out xs hx1 hx2]
          exact owns_base hown7 HB.out.size
        have HB7 : Hid (Below w.heap.size w w7) := cu_then HB.out hb7
        clear hx1 hx2 hown7 hb7 m0 m1
        go_wp2_with fail
        go_ret
        exact ⟨_, rfl, HO7.out, HB7.out⟩
end Go.Proofs.Ytahmeoafoedebab
