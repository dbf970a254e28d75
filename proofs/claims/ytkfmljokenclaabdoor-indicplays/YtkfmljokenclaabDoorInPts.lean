/-
  What the program's Points and Quote return of an Indic that has just the lots of some orders, over this seat's translation. Conditions stand in each theorem.
-/
import Derived.Test.YtkfmljokenclaabDoorInMem
import Derived.Test.YtkfmljokenclaabDoorCuWay
import Derived.Test.YtkfmljokenclaabDoorCuIn
import Derived.Deep.CutBlock
import Derived.Lib.MinMax
namespace Go.Proofs.YtkfmljokenclaabDoor
open Go.RowKit

theorem Tryd.infoQp : (Tryd.prog.info? 62).map (fun i => (i.zero, i.size, i.bytes)) = some (some (.agg #[.int .i64 0, .int .i64 0, .int .i64 0]), 3, 24) := by kernel_rfl
/-- levels at just the prices of orders and of one more, each with its lots -/
structure PtL (L : List Lv) (G : List Ord) (more : Int) : Prop where
  rises : RiseL L
  prices : ∀ p, (∃ x ∈ L, x.price = p) ↔ p ∈ pricesO G more
  lots : ∀ x ∈ L, x.buy = sumQ (limBB x.price) G ∧ x.sell = sumQ (limSB x.price) G
theorem sumQ_pos {q : Ord → Bool} : ∀ {G : List Ord}, (∀ o ∈ G, okO o = true) → (sumQ q G ≠ 0 ↔ ∃ o ∈ G, q o = true)
  | [], _ => by simp [sumQ]
  | o :: G, h => by
    have ih := sumQ_pos (q := q) (G := G) (fun x hx => h x (List.mem_cons_of_mem _ hx))
    have hi := sumQ_in (q := q) (l := G) (fun x hx => h x (List.mem_cons_of_mem _ hx))
    have ho := (okO_qty (h o (List.mem_cons_self ..))).2
    rw [sumQ_cons]
    by_cases hq : q o = true
    · rw [if_pos hq]
      exact ⟨fun _ => ⟨o, List.mem_cons_self .., hq⟩, fun _ => by omega⟩
    · rw [if_neg hq]
      rw [show (0 : Int) + sumQ q G = sumQ q G by omega, ih]
      constructor
      · rintro ⟨x, hx, h1⟩; exact ⟨x, List.mem_cons_of_mem _ hx, h1⟩
      · rintro ⟨x, hx, h1⟩
        rw [List.mem_cons] at hx
        rcases hx with rfl | hx
        · exact absurd h1 hq
        · exact ⟨x, hx, h1⟩
theorem names_lots {G : List Ord} (h : ∀ o ∈ G, okO o = true) {p : Int} : (∃ o ∈ G, namesO o = true ∧ o.price = p) ↔ (sumQ (limBB p) G ≠ 0 ∨ sumQ (limSB p) G ≠ 0) := by
  rw [sumQ_pos h, sumQ_pos h]
  constructor
  · rintro ⟨o, ho, h1, rfl⟩
    unfold namesO at h1
    rw [Bool.and_eq_true] at h1
    cases hs : (o.side == 1) with
    | true => exact Or.inl ⟨o, ho, by unfold limBB; rw [h1.2, hs]; simp⟩
    | false => exact Or.inr ⟨o, ho, by unfold limSB; rw [h1.2, hs]; simp⟩
  · rintro (⟨o, ho, h1⟩ | ⟨o, ho, h1⟩)
    · unfold limBB at h1
      simp only [Bool.and_eq_true, beq_iff_eq] at h1
      exact ⟨o, ho, by unfold namesO; rw [h o ho, h1.1]; rfl, h1.2.1⟩
    · unfold limSB at h1
      simp only [Bool.and_eq_true, beq_iff_eq] at h1
      exact ⟨o, ho, by unfold namesO; rw [h o ho, h1.1]; rfl, h1.2.1⟩
theorem PtL.none {l : List Lv} {G : List Ord} {more : Int} (h : LvInv l (fun p => sumQ (limBB p) G) (fun p => sumQ (limSB p) G)) (hG : ∀ o ∈ G, okO o = true) (hm : ¬ 0 < more) : PtL l G more := by
  refine ⟨h.rises, fun p => ?_, h.here⟩
  rw [pricesO_mem, names_lots hG]
  constructor
  · rintro ⟨x, hx, rfl⟩
    have := h.lots x hx
    rw [(h.here x hx).1, (h.here x hx).2] at this
    exact Or.inr this
  · rintro (⟨h1, _⟩ | h1)
    · exact absurd h1 hm
    · exact h.some p h1
theorem PtL.more {l : List Lv} {G : List Ord} {more : Int} (h : LvInv l (fun p => sumQ (limBB p) G) (fun p => sumQ (limSB p) G)) (hG : ∀ o ∈ G, okO o = true) (hm : 0 < more) : PtL (withL more l) G more := by
  obtain ⟨h1, h2, h3, _, _⟩ := h.with more
  refine ⟨h1, fun p => ?_, h2⟩
  rw [h3, pricesO_mem, names_lots hG]
  constructor
  · rintro (rfl | h4)
    · exact Or.inl ⟨hm, rfl⟩
    · exact Or.inr h4
  · rintro (⟨_, h4⟩ | h4)
    · exact Or.inl h4
    · exact Or.inr h4
theorem rise_map {L : List Lv} (h : RiseL L) : (L.map Lv.price).Pairwise (· < ·) := by
  rw [List.pairwise_map]; exact h
theorem map_getD {L : List Lv} {k : Nat} (hk : k < L.length) : (L.map Lv.price).getD k 0 = (lvAt L k).price := by simp [lvAt, hk]
theorem PtL.xs {L : List Lv} {G : List Ord} {more : Int} (h : PtL L G more) {p : Int} : p ∈ L.map Lv.price ↔ p ∈ pricesO G more := by
  rw [List.mem_map]; exact h.prices p
theorem filter_ok {G : List Ord} (hG : ∀ o ∈ G, okO o = true) : G.filter okO = G := List.filter_eq_self.2 hG
theorem PtL.curve {L : List Lv} {G : List Ord} {more : Int} (h : PtL L G more) (hG : ∀ o ∈ G, okO o = true) : ptsX (L.map Lv.price) G = curveL G more := by
  have := ptsX_curve (l := G) (more := more) (rise_map h.rises) (fun p => by rw [filter_ok hG]; exact h.xs)
  rwa [filter_ok hG] at this
theorem PtL.names {L : List Lv} {G : List Ord} {more : Int} (h : PtL L G more) : ∀ o ∈ G, namesO o = true → o.price ∈ L.map Lv.price := fun o ho hn => h.xs.2 (pricesO_mem.2 (Or.inr ⟨o, ho, hn, rfl⟩))

set_option maxRecDepth 4000 in
set_option maxHeartbeats 8000000 in
theorem inPoints (xb : Nat) (v : Value) (G : List Ord) (m : Nat) (more : Int) (w : World) (h : IndAt w xb v (fun p => sumQ (limBB p) G) (fun p => sumQ (limSB p) G) (sumQ mkBB G) (sumQ mkSB G) m) (hm : m < 1000) (hG : ∀ o ∈ G, okO o = true) (hl : G.length ≤ 1000) :
    Calls Tryd.prog 9 #[.pointer (some ⟨xb, 0, none⟩), .int .i64 more] w fun e w' => ∃ v', e = .returned v' ∧ w'.ownsRow w.heap.size 62 3 v' (curveL G more).length (ptV (curveL G more)) ∧ Below w.heap.size w w' := by
  obtain ⟨iP, hiP, hP0, hP1, hP2⟩ := info_parts Tryd.infoQp
  obtain ⟨hblk, l, hrow, hinv, hlm⟩ := h
  obtain ⟨a, cap, rfl, hin⟩ := LvsIn.of_row hrow
  have HG : Hid (∀ o ∈ G, okO o = true) := hG
  have HX : Hid (w.heap[xb]? = some (.cells #[.slice a l.length cap, .int .i64 0, .int .i64 (sumQ mkBB G), .int .i64 (sumQ mkSB G)] 27 (0, 0))) := hblk
  have HR : Hid (w.ownsRow 0 67 4 (.slice a l.length cap) l.length (lvV l)) := hrow
  have HI : Hid (LvInv l (fun p => sumQ (limBB p) G) (fun p => sumQ (limSB p) G)) := hinv
  have HLV : Hid (LvsIn w a l) := hin
  have hmB := sumQ_small (q := mkBB) hG hl
  have hmS := sumQ_small (q := mkSB) hG hl
  have x0 := blk_cell (j := 0) hblk rfl
  clear hblk hrow hinv hin hG
  go_enter Tryd.func9, Tryd.ntmps9
  by_cases hm0 : 0 < more
  · go_wp2_with fail
    refine (lvClone _ l w HR.out (by omega)).mono ?_
    rintro e w1 ⟨v1, rfl, hrow1, hb1⟩
    obtain ⟨a1, cap1, rfl, _, _⟩ := owns_shape hrow1
    have HR1 : Hid (w1.ownsRow w.heap.size 67 4 (.slice a1 l.length cap1) l.length (lvV l)) := hrow1
    have HB1 : Hid (Below w.heap.size w w1) := hb1
    clear hrow1 hb1
    go_wp2_with fail
    refine (inWith _ l more w1 ⟨HR1.out.1, HR1.out.2.imp id (fun ⟨g, c, cur, e, _, r⟩ => ⟨g, c, cur, e, Nat.zero_le _, r⟩)⟩ HI.out.rises (by omega)).mono ?_
    rintro e w2 ⟨v2, rfl, hrow2, hout2, hat2⟩
    have hlL := withL_len more l
    have HPL : Hid (PtL (withL more l) G more) := PtL.more HI.out HG.out hm0
    have HB2 : Hid (Below w.heap.size w w2) := HB1.out.trans (hout2.below (fun k hk => (HR1.out.lt k hk).1) HB1.out.size)
    obtain ⟨a2, cap2, rfl, hin2⟩ := LvsIn.of_row hrow2
    have HL2 : Hid (LvsIn w2 a2 (withL more l)) := hin2
    clear hrow2 hout2 hat2 HR1 HB1 hin2 x0
    have x1 := blk_cell (j := 2) (blk_below HX.out HB2.out (Nat.le_refl _)) rfl
    have x2 := blk_cell (j := 3) (blk_below HX.out HB2.out (Nat.le_refl _)) rfl
    generalize withL more l = L at hlL HPL HL2 ⊢
    go_wp2_with fail
    go_quiet (fail)
    have HB3 : Hid (Below w.heap.size w (w2.drewN nq)) := below_drewN HB2.out _
    have HL3 : Hid (LvsIn (w2.drewN nq) a2 L) := HL2.out.below (below_drewN (Below.refl _ _) _)
    generalize w2.drewN nq = W at HB3 HL3 ⊢
    clear HB2 HL2 x1 x2
    have hxl : (L.map Lv.price).length = L.length := List.length_map ..
    have HXR : Hid ((L.map Lv.price).Pairwise (· < ·)) := rise_map HPL.out.rises
    have HNM : Hid (∀ o ∈ G, namesO o = true → o.price ∈ L.map Lv.price) := HPL.out.names
    have HCV : Hid (ptsX (L.map Lv.price) G = curveL G more) := HPL.out.curve HG.out
    have HLT : Hid (∀ k, k < L.length → (lvAt L k).price = (L.map Lv.price).getD k 0 ∧ (lvAt L k).buy = sumQ (limBB ((L.map Lv.price).getD k 0)) G ∧ (lvAt L k).sell = sumQ (limSB ((L.map Lv.price).getD k 0)) G) := fun k hk => by
      rw [map_getD hk]; exact ⟨rfl, HPL.out.lots _ (lvAt_mem hk)⟩
    clear HPL
    generalize L.map Lv.price = xs at hxl HXR HNM HCV HLT
    have hM0 : sumQ mkBB G = sumQ mkBB G + sumX limBB (xs.take 0) G := by rw [List.take_zero, sumX_nil]; omega
    have HM0 : Hid (sumQ mkBB G = sumQ mkBB G + sumX limBB (xs.take 0) G) := hM0
    clear hM0
    go_wp2_with fail
    go_loopw [6, 9, 35] (fun d _ i wr => ∃ k : Nat, k ≤ L.length ∧ i = .int .i64 k ∧ d = .int .i64 (sumQ mkBB G + sumX limBB (xs.take k) G) ∧ Below W.heap.size W wr) (fun _ _ i _ => L.length - (RowKit.intOf i).toNat)
    case atStart => exact ⟨0, Nat.zero_le _, rfl, by rw [← HM0.out], Below.refl _ _⟩
    case round =>
      obtain ⟨k, hk, rfl, rfl, hb⟩ := hrel
      have HB : Hid (Below W.heap.size W wr) := hb
      have hq3 : 0 ≤ sumX limBB (xs.take k) G ∧ sumX limBB (xs.take k) G ≤ 1000000000 := by
        rw [sumB_is ((rises_nodup HXR.out).sublist (List.take_sublist ..))]; exact sumQ_small HG.out hl
      clear HM0
      by_cases hk1 : k < L.length
      · have hlt : (k : Int) < (L.length : Int) := by omega
        obtain ⟨g, off, rfl, d0, d1, d2, d3⟩ := HL3.out.below hb k hk1
        obtain ⟨l0, l1, l2⟩ := HLT.out k hk1
        rw [l0] at d0
        rw [l1] at d2
        rw [l2] at d3
        have HST : Hid (sumX limBB (xs.take (k + 1)) G = sumX limBB (xs.take k) G + sumQ (limBB (xs.getD k 0)) G) := sumX_take G (by omega)
        have hq1 := sumQ_small (q := limBB (xs.getD k 0)) HG.out hl
        clear hb l0 l1 l2
        generalize xs.getD k 0 = p at d0 d2 d3 HST hq1
        generalize hSK : sumX limBB (xs.take k) G = sk at HST hq3 ⊢
        clear hSK
        go_wp2_with fail
        go_roundw
        case rel =>
          refine ⟨k + 1, hk1, by go_num, by rw [HST.out, Int.add_assoc], HB.out.alloc HB.out.size _⟩
        case measure => simp [RowKit.intOf]; omega
      · obtain rfl : k = L.length := by omega
        have e0 : xs.take L.length = xs.drop 0 := by rw [← hxl, List.take_length, List.drop_zero]
        rw [e0] at hq3 ⊢
        have hS0 : sumQ mkSB G = sumQ mkSB G + sumX limSB (xs.take 0) G := by rw [List.take_zero, sumX_nil]; omega
        have HS0 : Hid (sumQ mkSB G = sumQ mkSB G + sumX limSB (xs.take 0) G) := hS0
        clear hS0 e0 hb
        go_wp2_with (at_make; refine wpList_make_own _ rfl _ _ 43 rfl wr.heap.size 62 iP (.agg #[.int .i64 0, .int .i64 0, .int .i64 0]) 3 Tryd.underlying43 hiP hP0 hP1 _ _ _ L.length rfl rfl rfl (by rw [hP2]; omega) (by unfold maxLen; omega) (Nat.le_refl _) ?_; intro w3 hown3 hg3)
        have HB3' : Hid (Below W.heap.size W w3) := HB.out.grown hg3 HB.out.size (fun q hq => by cases hq)
        have HW3 : Hid (w3.ownsRow W.heap.size 62 3 (.slice (some ⟨wr.heap.size, 0, none⟩) 0 L.length) 0 []) := owns_base hown3 HB.out.size
        clear hown3 hg3 HB
        go_loopw [6, 7, 10, 12, 50] (fun d s o _ i w6 => ∃ k : Nat, k ≤ L.length ∧ i = .int .i64 k ∧ d = .int .i64 (sumQ mkBB G + sumX limBB (xs.drop k) G) ∧ s = .int .i64 (sumQ mkSB G + sumX limSB (xs.take k) G) ∧ w6.ownsRow W.heap.size 62 3 o (ptsX (xs.take k) G).length (ptV (ptsX (xs.take k) G)) ∧ Below W.heap.size W w6) (fun _ _ _ _ i _ => L.length - (RowKit.intOf i).toNat)
        case atStart => exact ⟨0, Nat.zero_le _, rfl, rfl, by rw [← HS0.out], HW3.out, HB3'.out⟩
        case round =>
          obtain ⟨k, hk, rfl, rfl, rfl, ho, hb⟩ := hrel
          have HW : Hid (wr.ownsRow W.heap.size 62 3 u10 (ptsX (xs.take k) G).length (ptV (ptsX (xs.take k) G))) := ho
          have HB : Hid (Below W.heap.size W wr) := hb
          have hpl : (ptsX (xs.take k) G).length ≤ 1001 := by
            unfold ptsX
            rw [List.length_map, List.length_take]
            omega
          obtain ⟨oao, ocap, rfl, _, _⟩ := owns_shape ho
          clear HW3 HB3' HS0 ho hq3
          by_cases hk1 : k < L.length
          · have hlt : (k : Int) < (L.length : Int) := by omega
            have hkx : k < xs.length := by omega
            obtain ⟨g, off, rfl, d0, d1, d2, d3⟩ := HL3.out.below hb k hk1
            obtain ⟨l0, l1, l2⟩ := HLT.out k hk1
            rw [l0] at d0
            rw [l1] at d2
            rw [l2] at d3
            have HST : Hid (sumX limSB (xs.take (k + 1)) G = sumX limSB (xs.take k) G + sumQ (limSB (xs.getD k 0)) G) := sumX_take G hkx
            have HDT : Hid (sumX limBB (xs.drop k) G = sumQ (limBB (xs.getD k 0)) G + sumX limBB (xs.drop (k + 1)) G) := sumX_drop G hkx
            have HPT : Hid (ptsX (xs.take (k + 1)) G = ptsX (xs.take k) G ++ [⟨xs.getD k 0, sumQ mkBB G + sumX limBB (xs.drop k) G, sumQ mkSB G + sumX limSB (xs.take k) G + sumQ (limSB (xs.getD k 0)) G⟩]) := by
              rw [ptsX_take G hkx, dem_at HG.out HXR.out HNM.out hkx, ← sup_at HG.out HXR.out HNM.out hkx, HST.out, Int.add_assoc]
              rfl
            have hq1 := sumQ_small (q := limBB (xs.getD k 0)) HG.out hl
            have hq2 := sumQ_small (q := limSB (xs.getD k 0)) HG.out hl
            have hq3 : 0 ≤ sumX limBB (xs.drop k) G ∧ sumX limBB (xs.drop k) G ≤ 1000000000 := by
              rw [sumB_is ((rises_nodup HXR.out).sublist (List.drop_sublist ..))]; exact sumQ_small HG.out hl
            have hq4 : 0 ≤ sumX limSB (xs.take k) G ∧ sumX limSB (xs.take k) G ≤ 1000000000 := by
              rw [sumS_is ((rises_nodup HXR.out).sublist (List.take_sublist ..))]; exact sumQ_small HG.out hl
            clear hb l0 l1 l2
            generalize xs.getD k 0 = p at d0 d2 d3 HST HDT HPT hq1 hq2
            generalize hDK : sumX limBB (xs.drop k) G = dk at HDT HPT hq3 ⊢
            generalize hSK : sumX limSB (xs.take k) G = sk at HST HPT hq4 ⊢
            generalize ptsX (xs.take k) G = acc at HPT HW hpl ⊢
            clear hDK hSK
            go_wp2_with (at_builtin; refine wpList_append_own_at _ rfl _ _ 43 rfl W.heap.size 62 iP (.agg #[.int .i64 0, .int .i64 0, .int .i64 0]) 3 24 Tryd.underlying43 hiP hP0 hP1 hP2 rfl (by decide) _ acc.length (ptV acc) rfl ((HW.out.alloc _).alloc _) ⟨wr.heap.size + 1, 0, none⟩ 1 1 [.int .i64 p, .int .i64 (sumQ mkBB G + dk), .int .i64 (sumQ mkSB G + sk + sumQ (limSB p) G)] rfl rfl (World.news_of_block (cs := #[.int .i64 p, .int .i64 (sumQ mkBB G + dk), .int .i64 (sumQ mkSB G + sk + sumQ (limSB p) G)]) (t := 62) (fr := (0, 0)) (two_new wr _ _)) (by simp [Value.oneCell']) (by unfold maxLen; omega) (by omega) (by have := HB.out.size; simp; omega) ?_; intro v' w6 hown6 hgrow6 _ _; have hA6 := (hgrow6.block wr.heap.size (by simp; omega) (fun e => by have := (HW.out.lt _ e.symm).2; omega)).trans (two_old wr _ _); have c6 := blk_cell (j := 2) hA6 rfl)
            go_roundw
            case rel =>
              refine ⟨k + 1, hk1, by go_num, ?_, ?_, ?_, ((HB.out.alloc HB.out.size _).alloc (by have := HB.out.size; simp; omega) _).grown hgrow6 (by have := HB.out.size; simp; omega) (fun q hq => (HW.out.lt q hq).1)⟩
              · rw [HDT.out]; congr 1; omega
              · rw [HST.out, Int.add_assoc]
              · rw [HPT.out, ptV_snoc, List.length_append, List.length_singleton]
                exact hown6
            case measure => simp [RowKit.intOf]; omega
          · obtain rfl : k = L.length := by omega
            rw [show xs.take L.length = xs by rw [← hxl, List.take_length]] at HW ⊢
            clear hb
            go_wp2_with fail
            go_ret
            refine ⟨_, rfl, ?_, bel_then HB3.out HB.out⟩
            rw [← HCV.out]
            exact owns_base HW.out HB3.out.size
  · have HPL : Hid (PtL l G more) := PtL.none HI.out HG.out hm0
    have x1 := blk_cell (j := 2) HX.out rfl
    have x2 := blk_cell (j := 3) HX.out rfl
    go_wp2_with fail
    go_quiet (fail)
    have HB3 : Hid (Below w.heap.size w (w.drewN nq)) := below_drewN (Below.refl _ _) _
    have HL3 : Hid (LvsIn (w.drewN nq) a l) := HLV.out.below HB3.out
    generalize w.drewN nq = W at HB3 HL3 ⊢
    clear x0 x1 x2
    have hlL : l.length ≤ l.length + 1 := by omega
    have hxl : (l.map Lv.price).length = l.length := List.length_map ..
    have HXR : Hid ((l.map Lv.price).Pairwise (· < ·)) := rise_map HPL.out.rises
    have HNM : Hid (∀ o ∈ G, namesO o = true → o.price ∈ l.map Lv.price) := HPL.out.names
    have HCV : Hid (ptsX (l.map Lv.price) G = curveL G more) := HPL.out.curve HG.out
    have HLT : Hid (∀ k, k < l.length → (lvAt l k).price = (l.map Lv.price).getD k 0 ∧ (lvAt l k).buy = sumQ (limBB ((l.map Lv.price).getD k 0)) G ∧ (lvAt l k).sell = sumQ (limSB ((l.map Lv.price).getD k 0)) G) := fun k hk => by
      rw [map_getD hk]; exact ⟨rfl, HPL.out.lots _ (lvAt_mem hk)⟩
    clear HPL
    generalize l.map Lv.price = xs at hxl HXR HNM HCV HLT
    have hM0 : sumQ mkBB G = sumQ mkBB G + sumX limBB (xs.take 0) G := by rw [List.take_zero, sumX_nil]; omega
    have HM0 : Hid (sumQ mkBB G = sumQ mkBB G + sumX limBB (xs.take 0) G) := hM0
    clear hM0
    go_wp2_with fail
    go_loopw [6, 9, 35] (fun d _ i wr => ∃ k : Nat, k ≤ l.length ∧ i = .int .i64 k ∧ d = .int .i64 (sumQ mkBB G + sumX limBB (xs.take k) G) ∧ Below W.heap.size W wr) (fun _ _ i _ => l.length - (RowKit.intOf i).toNat)
    case atStart => exact ⟨0, Nat.zero_le _, rfl, by rw [← HM0.out], Below.refl _ _⟩
    case round =>
      obtain ⟨k, hk, rfl, rfl, hb⟩ := hrel
      have HB : Hid (Below W.heap.size W wr) := hb
      have hq3 : 0 ≤ sumX limBB (xs.take k) G ∧ sumX limBB (xs.take k) G ≤ 1000000000 := by
        rw [sumB_is ((rises_nodup HXR.out).sublist (List.take_sublist ..))]; exact sumQ_small HG.out hl
      clear HM0
      by_cases hk1 : k < l.length
      · have hlt : (k : Int) < (l.length : Int) := by omega
        obtain ⟨g, off, rfl, d0, d1, d2, d3⟩ := HL3.out.below hb k hk1
        obtain ⟨l0, l1, l2⟩ := HLT.out k hk1
        rw [l0] at d0
        rw [l1] at d2
        rw [l2] at d3
        have HST : Hid (sumX limBB (xs.take (k + 1)) G = sumX limBB (xs.take k) G + sumQ (limBB (xs.getD k 0)) G) := sumX_take G (by omega)
        have hq1 := sumQ_small (q := limBB (xs.getD k 0)) HG.out hl
        clear hb l0 l1 l2
        generalize xs.getD k 0 = p at d0 d2 d3 HST hq1
        generalize hSK : sumX limBB (xs.take k) G = sk at HST hq3 ⊢
        clear hSK
        go_wp2_with fail
        go_roundw
        case rel =>
          refine ⟨k + 1, hk1, by go_num, by rw [HST.out, Int.add_assoc], HB.out.alloc HB.out.size _⟩
        case measure => simp [RowKit.intOf]; omega
      · obtain rfl : k = l.length := by omega
        have e0 : xs.take l.length = xs.drop 0 := by rw [← hxl, List.take_length, List.drop_zero]
        rw [e0] at hq3 ⊢
        have hS0 : sumQ mkSB G = sumQ mkSB G + sumX limSB (xs.take 0) G := by rw [List.take_zero, sumX_nil]; omega
        have HS0 : Hid (sumQ mkSB G = sumQ mkSB G + sumX limSB (xs.take 0) G) := hS0
        clear hS0 e0 hb
        go_wp2_with (at_make; refine wpList_make_own _ rfl _ _ 43 rfl wr.heap.size 62 iP (.agg #[.int .i64 0, .int .i64 0, .int .i64 0]) 3 Tryd.underlying43 hiP hP0 hP1 _ _ _ l.length rfl rfl rfl (by rw [hP2]; omega) (by unfold maxLen; omega) (Nat.le_refl _) ?_; intro w3 hown3 hg3)
        have HB3' : Hid (Below W.heap.size W w3) := HB.out.grown hg3 HB.out.size (fun q hq => by cases hq)
        have HW3 : Hid (w3.ownsRow W.heap.size 62 3 (.slice (some ⟨wr.heap.size, 0, none⟩) 0 l.length) 0 []) := owns_base hown3 HB.out.size
        clear hown3 hg3 HB
        go_loopw [6, 7, 10, 12, 50] (fun d s o _ i w6 => ∃ k : Nat, k ≤ l.length ∧ i = .int .i64 k ∧ d = .int .i64 (sumQ mkBB G + sumX limBB (xs.drop k) G) ∧ s = .int .i64 (sumQ mkSB G + sumX limSB (xs.take k) G) ∧ w6.ownsRow W.heap.size 62 3 o (ptsX (xs.take k) G).length (ptV (ptsX (xs.take k) G)) ∧ Below W.heap.size W w6) (fun _ _ _ _ i _ => l.length - (RowKit.intOf i).toNat)
        case atStart => exact ⟨0, Nat.zero_le _, rfl, rfl, by rw [← HS0.out], HW3.out, HB3'.out⟩
        case round =>
          obtain ⟨k, hk, rfl, rfl, rfl, ho, hb⟩ := hrel
          have HW : Hid (wr.ownsRow W.heap.size 62 3 u10 (ptsX (xs.take k) G).length (ptV (ptsX (xs.take k) G))) := ho
          have HB : Hid (Below W.heap.size W wr) := hb
          have hpl : (ptsX (xs.take k) G).length ≤ 1001 := by
            unfold ptsX
            rw [List.length_map, List.length_take]
            omega
          obtain ⟨oao, ocap, rfl, _, _⟩ := owns_shape ho
          clear HW3 HB3' HS0 ho hq3
          by_cases hk1 : k < l.length
          · have hlt : (k : Int) < (l.length : Int) := by omega
            have hkx : k < xs.length := by omega
            obtain ⟨g, off, rfl, d0, d1, d2, d3⟩ := HL3.out.below hb k hk1
            obtain ⟨l0, l1, l2⟩ := HLT.out k hk1
            rw [l0] at d0
            rw [l1] at d2
            rw [l2] at d3
            have HST : Hid (sumX limSB (xs.take (k + 1)) G = sumX limSB (xs.take k) G + sumQ (limSB (xs.getD k 0)) G) := sumX_take G hkx
            have HDT : Hid (sumX limBB (xs.drop k) G = sumQ (limBB (xs.getD k 0)) G + sumX limBB (xs.drop (k + 1)) G) := sumX_drop G hkx
            have HPT : Hid (ptsX (xs.take (k + 1)) G = ptsX (xs.take k) G ++ [⟨xs.getD k 0, sumQ mkBB G + sumX limBB (xs.drop k) G, sumQ mkSB G + sumX limSB (xs.take k) G + sumQ (limSB (xs.getD k 0)) G⟩]) := by
              rw [ptsX_take G hkx, dem_at HG.out HXR.out HNM.out hkx, ← sup_at HG.out HXR.out HNM.out hkx, HST.out, Int.add_assoc]
              rfl
            have hq1 := sumQ_small (q := limBB (xs.getD k 0)) HG.out hl
            have hq2 := sumQ_small (q := limSB (xs.getD k 0)) HG.out hl
            have hq3 : 0 ≤ sumX limBB (xs.drop k) G ∧ sumX limBB (xs.drop k) G ≤ 1000000000 := by
              rw [sumB_is ((rises_nodup HXR.out).sublist (List.drop_sublist ..))]; exact sumQ_small HG.out hl
            have hq4 : 0 ≤ sumX limSB (xs.take k) G ∧ sumX limSB (xs.take k) G ≤ 1000000000 := by
              rw [sumS_is ((rises_nodup HXR.out).sublist (List.take_sublist ..))]; exact sumQ_small HG.out hl
            clear hb l0 l1 l2
            generalize xs.getD k 0 = p at d0 d2 d3 HST HDT HPT hq1 hq2
            generalize hDK : sumX limBB (xs.drop k) G = dk at HDT HPT hq3 ⊢
            generalize hSK : sumX limSB (xs.take k) G = sk at HST HPT hq4 ⊢
            generalize ptsX (xs.take k) G = acc at HPT HW hpl ⊢
            clear hDK hSK
            go_wp2_with (at_builtin; refine wpList_append_own_at _ rfl _ _ 43 rfl W.heap.size 62 iP (.agg #[.int .i64 0, .int .i64 0, .int .i64 0]) 3 24 Tryd.underlying43 hiP hP0 hP1 hP2 rfl (by decide) _ acc.length (ptV acc) rfl ((HW.out.alloc _).alloc _) ⟨wr.heap.size + 1, 0, none⟩ 1 1 [.int .i64 p, .int .i64 (sumQ mkBB G + dk), .int .i64 (sumQ mkSB G + sk + sumQ (limSB p) G)] rfl rfl (World.news_of_block (cs := #[.int .i64 p, .int .i64 (sumQ mkBB G + dk), .int .i64 (sumQ mkSB G + sk + sumQ (limSB p) G)]) (t := 62) (fr := (0, 0)) (two_new wr _ _)) (by simp [Value.oneCell']) (by unfold maxLen; omega) (by omega) (by have := HB.out.size; simp; omega) ?_; intro v' w6 hown6 hgrow6 _ _; have hA6 := (hgrow6.block wr.heap.size (by simp; omega) (fun e => by have := (HW.out.lt _ e.symm).2; omega)).trans (two_old wr _ _); have c6 := blk_cell (j := 2) hA6 rfl)
            go_roundw
            case rel =>
              refine ⟨k + 1, hk1, by go_num, ?_, ?_, ?_, ((HB.out.alloc HB.out.size _).alloc (by have := HB.out.size; simp; omega) _).grown hgrow6 (by have := HB.out.size; simp; omega) (fun q hq => (HW.out.lt q hq).1)⟩
              · rw [HDT.out]; congr 1; omega
              · rw [HST.out, Int.add_assoc]
              · rw [HPT.out, ptV_snoc, List.length_append, List.length_singleton]
                exact hown6
            case measure => simp [RowKit.intOf]; omega
          · obtain rfl : k = l.length := by omega
            rw [show xs.take l.length = xs by rw [← hxl, List.take_length]] at HW ⊢
            clear hb
            go_wp2_with fail
            go_ret
            refine ⟨_, rfl, ?_, bel_then HB3.out HB.out⟩
            rw [← HCV.out]
            exact owns_base HW.out HB3.out.size
end Go.Proofs.YtkfmljokenclaabDoor
