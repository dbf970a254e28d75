/-
  The law's own 'sameOrders' and 'same', over two books that are of one mind. Conditions stand in each theorem.
-/
import Derived.Test.YtcoijhofliilmabGreatDoorGG
import Derived.Test.YtcoijhofliilmabGreatDoorGK
import Derived.Test.YtcoijhofliilmabGreatDoorGL
import Derived.Lib.QuietBelow
namespace Go.Proofs.YtcoijhofliilmabGreatDoor
open Go.RowKit

set_option maxRecDepth 100000 in
set_option maxHeartbeats 1000000 in
theorem sameOrders_yes (B1 B2 : Nat) (v1 v2 : Value) (l : List Ord) (w : World) (h1 : w.ownsRow B1 40 5 v1 l.length (oV l)) (h2 : w.ownsRow B2 40 5 v2 l.length (oV l)) (hl : l.length ≤ 1000) :
    Calls Tryz.prog 32 #[v1, v2] w fun e W' => e = .returned (.bool true) ∧ Below w.heap.size w W' := by
  obtain ⟨a1, c1, rfl, _, _⟩ := bk_shape h1
  obtain ⟨a2, c2, rfl, _, _⟩ := bk_shape h2
  have H1 : Hid (w.ownsRow B1 40 5 (.slice a1 l.length c1) l.length (oV l)) := h1
  have H2 : Hid (w.ownsRow B2 40 5 (.slice a2 l.length c2) l.length (oV l)) := h2
  clear h1 h2
  go_enter Tryz.func32, Tryz.ntmps32
  go_wp2_with fail
  go_loopw [5] (fun v wx => ∃ j : Nat, j ≤ l.length ∧ v = .int .i64 j ∧ Below w.heap.size w wx) (fun v _ => l.length - (intOf v).toNat)
  case atStart => exact ⟨0, Nat.zero_le _, rfl, Below.refl _ _⟩
  case round =>
    obtain ⟨j, hj, rfl, hb6⟩ := hrel
    have HB6 : Hid (Below w.heap.size w wr) := hb6
    by_cases hjl : j < l.length
    · obtain ⟨gv, cv', hev, k0, k1, k2, k3, k4⟩ := row_order (bk_below H1.out hb6 (Nat.le_refl _)) hjl
      obtain ⟨go, co', heo, d0, d1, d2, d3, d4⟩ := row_order (bk_below H2.out hb6 (Nat.le_refl _)) hjl
      simp only [Value.slice.injEq, true_and] at hev heo
      obtain ⟨hev1, _⟩ := hev
      obtain ⟨heo1, _⟩ := heo
      subst hev1 heo1
      have q2 : (0 : Int) ≤ (j : Int) := by omega
      have q3 : (j : Int) < (l.length : Int) := by omega
      clear hb6
      go_wp2_with fail
      go_region
      go_wp2_with fail
      go_roundw
      case rel => exact ⟨j + 1, by omega, by go_num, by first | exact HB6.out.drew | exact below_drewN HB6.out _⟩
      case measure => simp [intOf]; omega
    · have q3 : ¬ (j : Int) < (l.length : Int) := by omega
      go_wp2_with fail
      go_ret
      exact ⟨rfl, HB6.out⟩
end Go.Proofs.YtcoijhofliilmabGreatDoor

/-
  The law's own 'same', over two books that are of one mind. Conditions stand in each theorem.
-/
namespace Go.Proofs.YtcoijhofliilmabGreatDoor
open Go.RowKit

set_option maxRecDepth 100000 in
set_option maxHeartbeats 4000000 in
theorem same_yes (bb rb base m : Nat) (b : BkS) (vr : Value) (L : List Ord) (w : World) (h : Bk w bb m b) (hr : BookIs w base rb vr L) (hk : Lnk b.S L) (he : ErrT w) :
    Calls Tryz.prog 10 #[.pointer (some ⟨bb, 0, none⟩), .pointer (some ⟨rb, 0, none⟩)] w fun e W' => e = .returned (.bool true) ∧ Below w.heap.size w W' := by
  have H : Hid (Bk w bb m b) := h
  have HR : Hid (BookIs w base rb vr L) := hr
  have HK : Hid (Lnk b.S L) := hk
  have HE : Hid (ErrT w) := he
  have hL : L.length ≤ 100 := by have := h.ok.most; have := hk.len; omega
  have HP : Hid (∀ o ∈ L, -1000000000 ≤ o.price ∧ o.price ≤ 1000000000) := fun o ho => by have := hk.ok h.ok o ho; omega
  have HQ : Hid (∀ o ∈ L, 0 ≤ o.qty ∧ o.qty ≤ 1000000) := fun o ho => by have := hk.ok h.ok o ho; omega
  clear h hr hk he
  go_enter Tryz.func10, Tryz.ntmps10
  go_wp2_with fail
  go_loopw [5] (fun v wx => ∃ s : Nat, s ≤ 2 ∧ v = .int .i64 ((s : Int) + 1) ∧ Below w.heap.size w wx) (fun v _ => 3 - (intOf v).toNat)
  case atStart => exact ⟨0, by omega, rfl, Below.refl _ _⟩
  case round =>
    obtain ⟨s, hs, rfl, hb⟩ := hrel
    have HB : Hid (Below w.heap.size w wr) := hb
    clear hb
    by_cases hlt : s < 2
    · have q1 : (s : Int) + 1 ≤ 2 := by omega
      have HSD : Hid ((b.S s).map Ly.o = sideO ((s : Int) + 1) L) := HK.out.side s hlt
      have hll : (sideO ((s : Int) + 1) L).length ≤ 1000 := by have := sideO_len ((s : Int) + 1) L; omega
      go_wp2_with fail
      refine (bkSide base rb vr L _ _ (HR.out.below HB.out (Nat.le_refl _)) (by omega) HP.out).mono ?_
      rintro e w1 ⟨v1, rfl, ho1, hb1⟩
      have HB1 : Hid (Below w.heap.size w w1) := bel_then HB.out hb1
      clear hb1
      go_wp2_with fail
      refine (pbSideOf bb m s b _ (H.out.below HB1.out (Nat.le_refl _)) hlt _ (by go_num)).mono ?_
      rintro e w2 ⟨v2, rfl, ho2, hb2⟩
      have HB2 : Hid (Below w.heap.size w w2) := bel_then HB1.out hb2
      have ho1 := owns_below ho1 hb2 (Nat.le_refl _)
      have hl2 : (b.S s).length = (sideO ((s : Int) + 1) L).length := by rw [← HSD.out, List.length_map]
      rw [HSD.out, hl2] at ho2
      have HO1 : Hid (w2.ownsRow wr.heap.size 40 5 v1 (sideO ((s : Int) + 1) L).length (oV (sideO ((s : Int) + 1) L))) := ho1
      have HO2 : Hid (w2.ownsRow w1.heap.size 40 5 v2 (sideO ((s : Int) + 1) L).length (oV (sideO ((s : Int) + 1) L))) := ho2
      clear hb2 ho2 hl2
      go_wp2_with fail
      refine (sameOrders_yes _ _ v2 v1 _ _ HO2.out HO1.out hll).mono ?_
      rintro e w3 ⟨rfl, hb3⟩
      have HB3 : Hid (Below w.heap.size w w3) := bel_then HB2.out hb3
      have HO3 : Hid (w3.ownsRow wr.heap.size 40 5 v1 (sideO ((s : Int) + 1) L).length (oV (sideO ((s : Int) + 1) L))) := owns_below HO1.out hb3 (Nat.le_refl _)
      clear hb3 HO1 HO2 ho1
      go_wp2_with fail
      refine (pbBest bb m s b _ (H.out.below HB3.out (Nat.le_refl _)) hlt _ (by go_num)).mono ?_
      rintro e w4 ⟨rfl, hb4⟩
      have HB4 : Hid (Below w.heap.size w w4) := bel_then HB3.out hb4
      have ho4 := owns_below HO3.out hb4 (Nat.le_refl _)
      rw [HSD.out]
      clear hb4 HO3
      obtain ⟨a1, c1, rfl, _, _⟩ := bk_shape ho4
      cases hl : sideO ((s : Int) + 1) L with
      | nil =>
        rw [hl] at ho4
        simp only [List.length_nil]
        unfold bestV Ord.agg Ord.none_
        go_wp2_with fail
        have hbA := bel_then HB4.out (bel1 w4 (.cells #[.int .i64 0, .int .i64 0, .int .i64 0, .int .i64 0, .int .i64 0] 40))
        generalize w4.alloc (.cells #[.int .i64 0, .int .i64 0, .int .i64 0, .int .i64 0, .int .i64 0] 40) = W at hbA ⊢
        have cB : ∀ d os, Calls Tryz.prog 8 #[.iface 28 (.int .i64 8), .int .i64 8] (Go.Sort.grow (redrawn W d) os) fun e w'' => e = .returned (.bool true) ∧ ∃ p : Regrown, w'' = Go.Sort.grow (redrawn W p.d) p.os := fun d os => Calls.regrown_of (bare_yes _ 8 _ (HE.out.below (bel_then hbA (below_regrown W d os))) (Or.inr (Or.inl ⟨rfl, rfl⟩)))
        refine wp_region_quiet_below (by kernel_rfl) (by kernel_rfl) ?_
        repeat (go_big_quiet_step (exact cB _ _))
        refine wpQuiet_nil ?_
        intro _ hw'
        obtain ⟨⟨dq, osq⟩, hw''⟩ := hw'
        subst hw''
        have hW5 := bel_then hbA (below_regrown W dq osq)
        generalize Go.Sort.grow (redrawn W dq) osq = W5 at hW5 ⊢
        clear cB hbA
        have HSD : Hid ((b.S s).map Ly.o = sideO ((s : Int) + 1) L) := HK.out.side s hlt
        have HW : Hid (Below w.heap.size w W5) := hW5
        clear hW5 ho4 hl
        go_wp2_with fail
        refine (bkDepth base rb vr L _ _ (HR.out.below HW.out (Nat.le_refl _)) (by omega) HP.out HQ.out).mono ?_
        rintro e w6 ⟨v6, rfl, ho6, hb6⟩
        have HB6 : Hid (Below w.heap.size w w6) := bel_then HW.out hb6
        clear hb6
        go_wp2_with fail
        refine (pbDepth bb m s b _ (H.out.below HB6.out (Nat.le_refl _)) hlt _ (by go_num)).mono ?_
        rintro e w7 ⟨v7, rfl, ho7, hb7⟩
        have HB7 : Hid (Below w.heap.size w w7) := bel_then HB6.out hb7
        have ho6 := owns_below ho6 hb7 (Nat.le_refl _)
        rw [HSD.out] at ho7
        clear hb7
        have hdl : (depth (sideO ((s : Int) + 1) L)).length ≤ 1000 := by
          have h1 := depth_ok (l := sideO ((s : Int) + 1) L) (fun o ho => HQ.out o (sideO_mem.1 ho).1) _ (Nat.le_refl _)
          have h2 := h1.len
          rw [List.take_length] at h2
          have h3 := sideO_len ((s : Int) + 1) L
          omega
        generalize depth (sideO ((s : Int) + 1) L) = dl at ho6 ho7 hdl
        obtain ⟨a6, c6, rfl, _, _⟩ := bk_shape ho6
        obtain ⟨a7, c7, rfl, _, _⟩ := bk_shape ho7
        have HO6 : Hid (w7.ownsRow W5.heap.size 80 3 (.slice a6 dl.length c6) dl.length (lvV dl)) := ho6
        have HO7 : Hid (w7.ownsRow w6.heap.size 80 3 (.slice a7 dl.length c7) dl.length (lvV dl)) := ho7
        clear ho6 ho7
        go_wp2_with fail
        go_loopw [12] (fun v wx => ∃ j : Nat, j ≤ dl.length ∧ v = .int .i64 j ∧ Below w7.heap.size w7 wx) (fun v _ => dl.length - (intOf v).toNat)
        case atStart => exact ⟨0, Nat.zero_le _, rfl, Below.refl _ _⟩
        case round =>
          obtain ⟨j, hj, rfl, hb8⟩ := hrel
          have HB8 : Hid (Below w7.heap.size w7 wr) := hb8
          by_cases hjl : j < dl.length
          · obtain ⟨gv, cv', hev, k0, k1, k2, _, _⟩ := row_last (owns_below HO6.out hb8 (Nat.le_refl _)) hjl
            obtain ⟨go, co', heo, d0, d1, d2, _, _⟩ := row_last (owns_below HO7.out hb8 (Nat.le_refl _)) hjl
            simp only [Value.slice.injEq, true_and] at hev heo
            obtain ⟨hev1, _⟩ := hev
            obtain ⟨heo1, _⟩ := heo
            subst hev1 heo1
            have p2 : (0 : Int) ≤ (j : Int) := by omega
            have p3 : (j : Int) < (dl.length : Int) := by omega
            clear hb8
            go_wp2_with fail
            go_region
            go_wp2_with fail
            go_roundw
            case rel => exact ⟨j + 1, by omega, by go_num, by first | exact HB8.out.drew | exact below_drewN HB8.out _⟩
            case measure => simp [intOf]; omega
          · have p3 : ¬ (j : Int) < (dl.length : Int) := by omega
            go_wp2_with fail
            go_roundw
            case rel => exact ⟨s + 1, by omega, by go_num, bel_then HB7.out HB8.out⟩
            case measure => simp [intOf]; omega
      | cons o lr =>
        rw [hl] at ho4
        simp only [List.length_cons]
        unfold bestV Ord.agg
        have hlr : lr.length + 1 ≤ 1000 := by rw [hl] at hll; simpa using hll
        go_wp2_with fail
        have hbA1 := bel1 w4 (.cells #[.int .i64 o.id, .int .i64 o.side, .int .i64 o.kind, .int .i64 o.price, .int .i64 o.qty] 40)
        have hoA := owns_below ho4 hbA1 (Nat.le_refl _)
        have hA := heap_alloc_new w4 (.cells #[.int .i64 o.id, .int .i64 o.side, .int .i64 o.kind, .int .i64 o.price, .int .i64 o.qty] 40)
        have hbA := bel_then HB4.out hbA1
        generalize w4.alloc (.cells #[.int .i64 o.id, .int .i64 o.side, .int .i64 o.kind, .int .i64 o.price, .int .i64 o.qty] 40) = W at hbA hoA hA hbA1 ⊢
        obtain ⟨g1, c1', hv, x0, x1, x2, x3, x4⟩ := row_order hoA (k := 0) (by simp)
        simp only [Value.slice.injEq, true_and] at hv
        obtain ⟨hv1, _⟩ := hv
        subst hv1
        have d0 : W.cell? ⟨g1, 0, none⟩ = some (.int .i64 o.id) := x0
        have d1 : W.cell? ⟨g1, 1, none⟩ = some (.int .i64 o.side) := x1
        have d2 : W.cell? ⟨g1, 2, none⟩ = some (.int .i64 o.kind) := x2
        have d3 : W.cell? ⟨g1, 3, none⟩ = some (.int .i64 o.price) := x3
        have d4 : W.cell? ⟨g1, 4, none⟩ = some (.int .i64 o.qty) := x4
        clear x0 x1 x2 x3 x4
        have e0 := blk_cell (j := 0) hA rfl
        have e1 := blk_cell (j := 1) hA rfl
        have e2 := blk_cell (j := 2) hA rfl
        have e3 := blk_cell (j := 3) hA rfl
        have e4 := blk_cell (j := 4) hA rfl
        have g0 : (((lr.length : Int) + 1) == 0) = false := beq_eq_false_iff_ne.2 (by omega)
        have g1 : decide (((lr.length : Int) + 1) > 0) = true := decide_eq_true (by omega)
        go_quiet (fail)
        have hW5 := bel_then hbA (below_drewN (Below.refl W.heap.size W) nq)
        generalize W.drewN nq = W5 at hW5 ⊢
        clear d0 d1 d2 d3 d4 e0 e1 e2 e3 e4 hA hoA hbA hbA1 g0 g1
        have HSD : Hid ((b.S s).map Ly.o = sideO ((s : Int) + 1) L) := HK.out.side s hlt
        have HW : Hid (Below w.heap.size w W5) := hW5
        clear hW5 ho4 hl hlr
        go_wp2_with fail
        refine (bkDepth base rb vr L _ _ (HR.out.below HW.out (Nat.le_refl _)) (by omega) HP.out HQ.out).mono ?_
        rintro e w6 ⟨v6, rfl, ho6, hb6⟩
        have HB6 : Hid (Below w.heap.size w w6) := bel_then HW.out hb6
        clear hb6
        go_wp2_with fail
        refine (pbDepth bb m s b _ (H.out.below HB6.out (Nat.le_refl _)) hlt _ (by go_num)).mono ?_
        rintro e w7 ⟨v7, rfl, ho7, hb7⟩
        have HB7 : Hid (Below w.heap.size w w7) := bel_then HB6.out hb7
        have ho6 := owns_below ho6 hb7 (Nat.le_refl _)
        rw [HSD.out] at ho7
        clear hb7
        have hdl : (depth (sideO ((s : Int) + 1) L)).length ≤ 1000 := by
          have h1 := depth_ok (l := sideO ((s : Int) + 1) L) (fun o ho => HQ.out o (sideO_mem.1 ho).1) _ (Nat.le_refl _)
          have h2 := h1.len
          rw [List.take_length] at h2
          have h3 := sideO_len ((s : Int) + 1) L
          omega
        generalize depth (sideO ((s : Int) + 1) L) = dl at ho6 ho7 hdl
        obtain ⟨a6, c6, rfl, _, _⟩ := bk_shape ho6
        obtain ⟨a7, c7, rfl, _, _⟩ := bk_shape ho7
        have HO6 : Hid (w7.ownsRow W5.heap.size 80 3 (.slice a6 dl.length c6) dl.length (lvV dl)) := ho6
        have HO7 : Hid (w7.ownsRow w6.heap.size 80 3 (.slice a7 dl.length c7) dl.length (lvV dl)) := ho7
        clear ho6 ho7
        go_wp2_with fail
        go_loopw [12] (fun v wx => ∃ j : Nat, j ≤ dl.length ∧ v = .int .i64 j ∧ Below w7.heap.size w7 wx) (fun v _ => dl.length - (intOf v).toNat)
        case atStart => exact ⟨0, Nat.zero_le _, rfl, Below.refl _ _⟩
        case round =>
          obtain ⟨j, hj, rfl, hb8⟩ := hrel
          have HB8 : Hid (Below w7.heap.size w7 wr) := hb8
          by_cases hjl : j < dl.length
          · obtain ⟨gv, cv', hev, k0, k1, k2, _, _⟩ := row_last (owns_below HO6.out hb8 (Nat.le_refl _)) hjl
            obtain ⟨go, co', heo, d0, d1, d2, _, _⟩ := row_last (owns_below HO7.out hb8 (Nat.le_refl _)) hjl
            simp only [Value.slice.injEq, true_and] at hev heo
            obtain ⟨hev1, _⟩ := hev
            obtain ⟨heo1, _⟩ := heo
            subst hev1 heo1
            have p2 : (0 : Int) ≤ (j : Int) := by omega
            have p3 : (j : Int) < (dl.length : Int) := by omega
            clear hb8
            go_wp2_with fail
            go_region
            go_wp2_with fail
            go_roundw
            case rel => exact ⟨j + 1, by omega, by go_num, by first | exact HB8.out.drew | exact below_drewN HB8.out _⟩
            case measure => simp [intOf]; omega
          · have p3 : ¬ (j : Int) < (dl.length : Int) := by omega
            go_wp2_with fail
            go_roundw
            case rel => exact ⟨s + 1, by omega, by go_num, bel_then HB7.out HB8.out⟩
            case measure => simp [intOf]; omega
    · have hs2 : s = 2 := by omega
      subst hs2
      obtain ⟨ar, cr, hvr, _, _⟩ := bk_shape HR.out.all
      subst hvr
      have cV := blk_cell (j := 0) (HR.out.below HB.out (Nat.le_refl _)).box rfl
      have hlen : (L.length : Int) = ((b.S 0).length + (b.S 1).length : Nat) := by have := HK.out.len; omega
      go_wp2_with fail
      have cM : ∀ d os, Calls Tryz.prog 35 #[.pointer (some ⟨bb, 0, none⟩)] (Go.Sort.grow (redrawn wr d) os) fun e w'' => e = .returned (.int .i64 L.length) ∧ ∃ p : Regrown, w'' = Go.Sort.grow (redrawn wr p.d) p.os := fun d os => by
        rw [hlen]
        exact Calls.regrown_of (pbMany bb m b _ (H.out.below (bel_then HB.out (below_regrown wr d os)) (Nat.le_refl _)))
      have kV := cell_regrown cV
      refine wp_region_quiet_below (by kernel_rfl) (by kernel_rfl) ?_
      repeat (go_big_quiet_step (exact cM _ _))
      refine wpQuiet_nil ?_
      intro _ hw'
      obtain ⟨⟨dq, osq⟩, hw''⟩ := hw'
      subst hw''
      go_wp2_with fail
      go_ret
      exact ⟨rfl, bel_then HB.out (below_regrown wr dq osq)⟩
end Go.Proofs.YtcoijhofliilmabGreatDoor

/-
  What Order, Cancel and Cut are (4.1), as plain functions of the document's list of orders; and what a cut that may be does to each side. No program is named here.
-/
namespace Go.Proofs.YtcoijhofliilmabGreatDoor
open Go.RowKit

/-! 4.1, as plain functions of the document's list -/
def canO (id : Int) (L : List Ord) : Ord := if idxO id L = -1 then Ord.none_ else oAt L (idxO id L).toNat
def canN (id : Int) (L : List Ord) : Int := if idxO id L = -1 then 7 else 0
def canL (id : Int) (L : List Ord) : List Ord := if idxO id L = -1 then L else goneL (idxO id L).toNat L
def cutN (id q : Int) (L : List Ord) : Int := if idxO id L = -1 then 7 else if (decide (1 ≤ q) && decide (q ≤ (oAt L (idxO id L).toNat).qty)) = false then 2 else 0
def cutM (id q : Int) (L : List Ord) : List Ord := if idxO id L = -1 then L else if (decide (1 ≤ q) && decide (q ≤ (oAt L (idxO id L).toNat).qty)) = false then L else if (oAt L (idxO id L).toNat).qty = q then goneL (idxO id L).toNat L else L.set (idxO id L).toNat (cutO q (oAt L (idxO id L).toNat))

end Go.Proofs.YtcoijhofliilmabGreatDoor

/-
  What the program's Add, Cancel and Cut do to a book in memory, in the words of the document's list of orders. Conditions stand in each theorem.
-/
namespace Go.Proofs.YtcoijhofliilmabGreatDoor
open Go.RowKit

/-- an error of the program's and the document's number for it -/
def ErrVal (err : Value) (n : Int) : Prop := (err = .nilIface ∧ n = 0) ∨ err = .iface 28 (.int .i64 n)
section
variable {w0 w : World} {bb rb m : Nat} {b : BkS} {v : Value} {L : List Ord}
theorem lnk_few {S : Nat → List Ly} {n : Nat} {rs : List Sot} {fr : List Nat} (hp : Pb n rs fr S) (hl : Lnk S L) : L.length ≤ 100 := by have := hp.most; have := hl.len; omega
theorem idx_at (hl : Lnk b.S L) {s : Nat} (hs : s < 2) {x : Ly} (hx : x ∈ b.S s) : ∃ k, k < L.length ∧ idxO x.o.id L = k ∧ oAt L k = x.o := by
  rcases idxF_in x.o.id L 0 with h | ⟨k, hk, h1, h2⟩
  · have h3 : idxO x.o.id L = -1 := h
    have := hl.idx_yes hs hx
    omega
  · exact ⟨k, hk, by have : idxO x.o.id L = ((0 + k : Nat) : Int) := h1; rw [this]; congr 1; omega, hl.at hs hx hk h2⟩
theorem prog_add (h : Bk w bb m b) (hm : m + 1 ≤ 900) (hl : Lnk b.S L) (o : Ord) (hw : (Lit.int .i64 o.id).wf = true) :
    Calls Tryz.prog 18 #[.pointer (some ⟨bb, 0, none⟩), o.agg] w fun e W' => ∃ err, e = .returned err ∧ ErrVal err (addN o L) ∧ ∃ b', Lnk b'.S (addL o L) ∧ Goes w W' bb (m + 1) b b' := by
  have stay : ∀ n : Int, n ≠ 0 → addN o L = n → addL o L = L := fun n h1 h2 => by unfold addL; rw [if_neg (by rw [h2]; exact h1)]
  refine (pbAdd bb m b o w h hm hw).mono ?_
  rintro e W' (⟨h1, rfl, hg⟩ | ⟨h1, h2, h3, rfl, hg⟩ | ⟨h1, h2, h3, h4, rfl, hg⟩ | ⟨h1, h2, h3, h4, h5, rfl, hg⟩ | ⟨h1, h2, h3, h4, h5, rfl, b', s, k, a, hs, hsd, hS, hg⟩)
  · have hn : addN o L = 1 := addN_arg (by rw [← sideP_is]; exact h1)
    exact ⟨_, rfl, Or.inr (by rw [hn]), b, by rw [stay 1 (by decide) hn]; exact hl, hg⟩
  · have hn : addN o L = 2 := addN_range (by rw [← sideP_is]; exact h1) h2 h3
    exact ⟨_, rfl, Or.inr (by rw [hn]), b, by rw [stay 2 (by decide) hn]; exact hl, hg⟩
  · have hn : addN o L = 9 := by
      rw [addN_rest (by rw [← sideP_is]; exact h1) h2 h3]
      obtain ⟨s, hs, x, hx, he⟩ := h4
      rw [if_pos (by rw [← he]; exact hl.idx_yes hs hx)]
    exact ⟨_, rfl, Or.inr (by rw [hn]), b, by rw [stay 9 (by decide) hn]; exact hl, hg⟩
  · have hlen := hl.len
    have hn : addN o L = 12 := by
      rw [addN_rest (by rw [← sideP_is]; exact h1) h2 h3, hl.idx_no h4, if_neg (by decide), if_pos (by omega)]
    exact ⟨_, rfl, Or.inr (by rw [hn]), b, by rw [stay 12 (by decide) hn]; exact hl, hg⟩
  · have hlen := hl.len
    have hn : addN o L = 0 := by
      rw [addN_rest (by rw [← sideP_is]; exact h1) h2 h3, hl.idx_no h4, if_neg (by decide), if_neg (by omega)]
    obtain ⟨hp1, _⟩ : inB 1 1000000 (lieP o).price = true ∧ inB 1 1000000 (lieP o).qty = true := by simpa [rightB] using h3
    have hpr := inB_true hp1
    refine ⟨_, rfl, Or.inl ⟨rfl, hn⟩, b', ?_, hg⟩
    unfold addL
    rw [if_pos hn, hS, ← lie_same]
    exact hl.add hs (by rw [lieP_side]; exact hsd) hpr (fun y hy => by have := hl.ok h.ok y hy; omega) (by rw [lieP_id]; exact hl.none h4)
theorem prog_cancel (h : Bk w bb m b) (hm : m + 1 ≤ 900) (hl : Lnk b.S L) (id : Int) (hw : (Lit.int .i64 id).wf = true) :
    Calls Tryz.prog 55 #[.pointer (some ⟨bb, 0, none⟩), .int .i64 id] w fun e W' => ∃ err, e = .returned (.tuple #[(canO id L).agg, err]) ∧ ErrVal err (canN id L) ∧ ∃ b', Lnk b'.S (canL id L) ∧ Goes w W' bb (m + 1) b b' := by
  rcases lies_dec b.S id with ⟨s, hs, x, hx, rfl⟩ | hno
  · obtain ⟨k, hk, hi, ho⟩ := idx_at hl hs hx
    have hne : ¬ idxO x.o.id L = -1 := by omega
    have hkk : (idxO x.o.id L).toNat = k := by omega
    refine (cancel_yes bb m s b x w h hm hs hx).mono ?_
    rintro e W' ⟨rfl, b', ⟨i, hi2, hix, hS⟩, hg⟩
    refine ⟨.nilIface, by unfold canO; rw [if_neg hne, hkk, ho], Or.inl ⟨rfl, by unfold canN; rw [if_neg hne]⟩, b', ?_, hg⟩
    unfold canL
    rw [if_neg hne, hkk, hS]
    exact hl.gone h.ok hs hi2 hix hk (by rw [ho])
  · have h1 := hl.idx_no hno
    refine (cancel_no bb m b id w h hw hno).mono ?_
    rintro e W' ⟨rfl, hb⟩
    exact ⟨_, by unfold canO; rw [if_pos h1], Or.inr (by unfold canN; rw [if_pos h1]), b, by unfold canL; rw [if_pos h1]; exact hl, Goes.stay h hb (Nat.le_succ _) hm⟩
theorem prog_cut (h : Bk w bb m b) (hm : m + 1 ≤ 900) (hl : Lnk b.S L) (id q : Int) (hw : (Lit.int .i64 id).wf = true) :
    Calls Tryz.prog 28 #[.pointer (some ⟨bb, 0, none⟩), .int .i64 id, .int .i64 q] w fun e W' => ∃ err, e = .returned err ∧ ErrVal err (cutN id q L) ∧ ∃ b', Lnk b'.S (cutM id q L) ∧ Goes w W' bb (m + 1) b b' := by
  rcases lies_dec b.S id with ⟨s, hs, x, hx, rfl⟩ | hno
  · obtain ⟨k, hk, hi, ho⟩ := idx_at hl hs hx
    have hne : ¬ idxO x.o.id L = -1 := by omega
    have hkk : (idxO x.o.id L).toNat = k := by omega
    by_cases hq : q < 1 ∨ x.o.qty < q
    · have h3 : (decide (1 ≤ q) && decide (q ≤ (oAt L k).qty)) = false := by
        rw [ho]
        rcases hq with hq | hq
        · rw [decide_eq_false (by omega)]; rfl
        · rw [decide_eq_false (p := q ≤ x.o.qty) (by omega)]; exact Bool.and_false _
      refine (cut_range bb m s b x q w h hs hx hq).mono ?_
      rintro e W' ⟨rfl, hb⟩
      exact ⟨_, rfl, Or.inr (by unfold cutN; rw [if_neg hne, hkk, if_pos h3]), b, by unfold cutM; rw [if_neg hne, hkk, if_pos h3]; exact hl, Goes.stay h hb (Nat.le_succ _) hm⟩
    · have h3 : ¬ (decide (1 ≤ q) && decide (q ≤ (oAt L k).qty)) = false := by
        rw [ho, decide_eq_true (by omega : 1 ≤ q), decide_eq_true (by omega : q ≤ x.o.qty)]; decide
      by_cases he : q = x.o.qty
      · subst he
        refine (cut_all bb m s b x w h hm hs hx (by omega)).mono ?_
        rintro e W' ⟨rfl, b', ⟨i, hi2, hix, hS⟩, hg⟩
        refine ⟨_, rfl, Or.inl ⟨rfl, by unfold cutN; rw [if_neg hne, hkk, if_neg h3]⟩, b', ?_, hg⟩
        unfold cutM
        rw [if_neg hne, hkk, if_neg h3, if_pos (by rw [ho]), hS]
        exact hl.gone h.ok hs hi2 hix hk (by rw [ho])
      · refine (cut_part bb m s b x q w h hm hs hx (by omega) (by omega)).mono ?_
        rintro e W' ⟨rfl, hg⟩
        refine ⟨_, rfl, Or.inl ⟨rfl, by unfold cutN; rw [if_neg hne, hkk, if_neg h3]⟩, _, ?_, hg⟩
        unfold cutM
        rw [if_neg hne, hkk, if_neg h3, if_neg (by rw [ho]; omega)]
        exact hl.cut h.ok hs hx hk (by rw [ho])
  · have h1 := hl.idx_no hno
    refine (cut_no bb m b id q w h hw hno).mono ?_
    rintro e W' ⟨rfl, hb⟩
    exact ⟨_, rfl, Or.inr (by unfold cutN; rw [if_pos h1]), b, by unfold cutM; rw [if_pos h1]; exact hl, Goes.stay h hb (Nat.le_succ _) hm⟩
end
end Go.Proofs.YtcoijhofliilmabGreatDoor

/-
  The program's book and the document's in memory, side by side: what each call of the law does to them. Conditions stand in each theorem.
-/
namespace Go.Proofs.YtcoijhofliilmabGreatDoor
open Go.RowKit

theorem ErrVal.is {err : Value} {n : Int} (h : ErrVal err n) (w : World) : ErrIs w err n (-1) := by
  rcases h with ⟨rfl, rfl⟩ | rfl
  · exact Or.inl ⟨rfl, rfl, rfl⟩
  · exact Or.inr (Or.inl ⟨rfl, rfl⟩)

/-! nothing of the program's book is a row of orders, nor of another type -/
theorem Bk.farRow {w : World} {bb m base n : Nat} {b : BkS} {v : Value} {xs : List Value} (h : Bk w bb m b) (hr : w.ownsRow base 40 5 v n xs) : ∀ k, v.ownBlock = some k → ¬ b.foot bb k := fun k hk e => by
  rcases e with e | e | e | e | e
  · exact owns_type hr h.at_.box (by decide) (by rw [hk, e])
  · rcases e with e | e | e
    · exact owns_type hr h.at_.ar.box (by decide) (by rw [hk, e])
    · exact owns_types hr h.at_.ar.slots (by decide) hk e
    · exact owns_types hr h.at_.ar.free (by decide) hk e
  · exact owns_notMap hr h.at_.map (by rw [hk, e])
  · exact owns_types hr h.at_.row0 (by decide) hk e
  · exact owns_types hr h.at_.row1 (by decide) hk e
theorem Bk.farBlk {w : World} {bb m k : Nat} {b : BkS} {vs : Array Value} {t : TypeId} (h : Bk w bb m b) (hk : w.heap[k]? = some (.cells vs t (0, 0))) (h1 : t ≠ 93) (h2 : t ≠ 118) (h3 : t ≠ 123) (h4 : t ≠ 3) (h5 : t ≠ 96) : ¬ b.foot bb k := fun e => by
  rcases e with e | e | e | e | e
  · exact blk_apart hk h.at_.box h1 e
  · rcases e with e | e | e
    · exact blk_apart hk h.at_.ar.box h2 e
    · exact owns_type h.at_.ar.slots hk h3 e
    · exact owns_type h.at_.ar.free hk h4 e
  · exact h.at_.map.ne hk e
  · exact owns_type h.at_.row0 hk h5 e
  · exact owns_type h.at_.row1 hk h5 e

/-- both books, of a call's own -/
structure Pair (w0 w : World) (bb rb m : Nat) (b : BkS) (v : Value) (L : List Ord) : Prop where
  my : MyBk w0 w bb m b
  ref : BookIs w w0.heap.size rb v L
  err : ErrT w0
  base : w0.heap.size ≤ rb
section
variable {w0 w w' : World} {bb rb m m' : Nat} {b b' : BkS} {v v' : Value} {L L' : List Ord}
theorem Pair.errT (h : Pair w0 w bb rb m b v L) : ErrT w := h.err.below h.my.bel
theorem Pair.notRb (h : Pair w0 w bb rb m b v L) : ¬ b.foot bb rb := h.my.bk.farBlk h.ref.box (by decide) (by decide) (by decide) (by decide) (by decide)
theorem Pair.below (h : Pair w0 w bb rb m b v L) (hb : Below w.heap.size w w') : Pair w0 w' bb rb m b v L := ⟨h.my.below hb, h.ref.below hb (Nat.le_refl _), h.err, h.base⟩
theorem Pair.goes (h : Pair w0 w bb rb m b v L) (hg : Goes w w' bb m' b b') : Pair w0 w' bb rb m' b' v L :=
  ⟨h.my.goes hg, ⟨blk_out h.ref.box hg.2.1 h.notRb, owns_out h.ref.all hg.2.1 (h.my.bk.farRow h.ref.all)⟩, h.err, h.base⟩
theorem Pair.doc (h : Pair w0 w bb rb m b v L) (ho : Out (fun j => j = rb) w w') (hr : BookIs w' w0.heap.size rb v' L') : Pair w0 w' bb rb m b v' L' :=
  ⟨⟨h.my.bk.out ho (fun k hk e => h.notRb (e ▸ hk)), bel_of_out ho (fun k e => by rw [show k = rb from e]; exact h.base) h.my.bel, h.my.mine⟩, hr, h.err, h.base⟩
end

section
variable {w0 w : World} {bb rb m : Nat} {b : BkS} {v : Value} {L : List Ord}
theorem doc_add (h : Pair w0 w bb rb m b v L) (hL : L.length ≤ 100) (o : Ord) : Calls Tryz.prog 19 #[.pointer (some ⟨rb, 0, none⟩), o.agg] w fun e w' => e = .returned (.int .i64 (addN o L)) ∧ ∃ v', Pair w0 w' bb rb m b v' (addL o L) ∧ Out (fun j => j = rb) w w' :=
  (bkAdd w0.heap.size rb v L o w h.ref hL h.my.bel.size).mono fun _ _ ⟨he, v', hr, ho⟩ => ⟨he, v', h.doc ho hr, ho⟩
theorem doc_cancel (h : Pair w0 w bb rb m b v L) (hL : L.length ≤ 100) (id : Int) : Calls Tryz.prog 51 #[.pointer (some ⟨rb, 0, none⟩), .int .i64 id] w fun e w' => e = .returned (.tuple #[(canO id L).agg, .int .i64 (canN id L)]) ∧ ∃ v', Pair w0 w' bb rb m b v' (canL id L) ∧ Out (fun j => j = rb) w w' := by
  refine (bkCancel w0.heap.size rb v L id w h.ref hL h.my.bel.size).mono ?_
  rintro e w' ⟨ho, v', ⟨h1, rfl, hr⟩ | ⟨k, hk, h1, h2, rfl, hr⟩⟩
  · refine ⟨by unfold canO canN; rw [if_pos h1, if_pos h1], v', h.doc ho (by unfold canL; rw [if_pos h1]; exact hr), ho⟩
  · have hne : ¬ idxO id L = -1 := by omega
    have hkk : (idxO id L).toNat = k := by omega
    refine ⟨by unfold canO canN; rw [if_neg hne, if_neg hne, hkk], v', h.doc ho (by unfold canL; rw [if_neg hne, hkk]; exact hr), ho⟩
theorem doc_order (h : Pair w0 w bb rb m b v L) (hL : L.length ≤ 100) (id : Int) : Calls Tryz.prog 11 #[.pointer (some ⟨rb, 0, none⟩), .int .i64 id] w fun e w' => e = .returned (.tuple #[(canO id L).agg, .int .i64 (canN id L)]) ∧ Below w.heap.size w w' := by
  refine (bkOrder w0.heap.size rb v L id w h.ref (by omega)).mono ?_
  rintro e w' ⟨hb, ⟨h1, rfl⟩ | ⟨k, hk, h1, h2, rfl⟩⟩
  · exact ⟨by unfold canO canN; rw [if_pos h1, if_pos h1], hb⟩
  · have hne : ¬ idxO id L = -1 := by omega
    have hkk : (idxO id L).toNat = k := by omega
    exact ⟨by unfold canO canN; rw [if_neg hne, if_neg hne, hkk], hb⟩
theorem doc_cut (h : Pair w0 w bb rb m b v L) (hL : L.length ≤ 100) (hq : ∀ o ∈ L, o.qty ≤ 1000000) (id q : Int) : Calls Tryz.prog 23 #[.pointer (some ⟨rb, 0, none⟩), .int .i64 id, .int .i64 q] w fun e w' => e = .returned (.int .i64 (cutN id q L)) ∧ ∃ v', Pair w0 w' bb rb m b v' (cutM id q L) ∧ Out (fun j => j = rb) w w' := by
  have hqs : ∀ k, (oAt L k).qty ≤ 1000000 := fun k => by
    by_cases hk : k < L.length
    · exact hq _ (oAt_in hk)
    · have : oAt L k = Ord.none_ := by simp [oAt, hk]
      rw [this]; decide
  refine (bkCut w0.heap.size rb v L id q w h.ref hL h.my.bel.size hqs).mono ?_
  rintro e w' ⟨ho, v', ⟨h1, rfl, hr⟩ | ⟨k, hk, h1, h2, ⟨h3, rfl, hr⟩ | ⟨h3, rfl, hr⟩⟩⟩
  · exact ⟨by unfold cutN; rw [if_pos h1], v', h.doc ho (by unfold cutM; rw [if_pos h1]; exact hr), ho⟩
  · have hne : ¬ idxO id L = -1 := by omega
    have hkk : (idxO id L).toNat = k := by omega
    exact ⟨by unfold cutN; rw [if_neg hne, hkk, if_pos h3], v', h.doc ho (by unfold cutM; rw [if_neg hne, hkk, if_pos h3]; exact hr), ho⟩
  · have hne : ¬ idxO id L = -1 := by omega
    have hkk : (idxO id L).toNat = k := by omega
    have h3' : ¬ (decide (1 ≤ q) && decide (q ≤ (oAt L k).qty)) = false := by rw [h3]; decide
    exact ⟨by unfold cutN; rw [if_neg hne, hkk, if_neg h3'], v', h.doc ho (by unfold cutM; rw [if_neg hne, hkk, if_neg h3']; exact hr), ho⟩

/-! the program's calls: what the document's list tells -/
end
end Go.Proofs.YtcoijhofliilmabGreatDoor

/-
  Who trades with whom at an auction's price, as plain lists (8.1): lots of the willing, the best of both sides, and what stays true from trade to trade. No program is named here.
-/
namespace Go.Proofs.YtcoijhofliilmabGreatDoor
open Go.RowKit

/-- a trade -/
structure Fil where
  buyer : Int
  seller : Int
  price : Int
  qty : Int
def fV : List Fil → List Value
  | [] => []
  | x :: l => .int .i64 x.buyer :: .int .i64 x.seller :: .int .i64 x.price :: .int .i64 x.qty :: fV l
def Fil.none_ : Fil := ⟨0, 0, 0, 0⟩
def fAt (l : List Fil) (k : Nat) : Fil := l.getD k Fil.none_
theorem fV_length (l : List Fil) : (fV l).length = l.length * 4 := by
  induction l with
  | nil => rfl
  | cons o l ih => simp [fV, ih]; omega
theorem fV_append (a b : List Fil) : fV (a ++ b) = fV a ++ fV b := by
  induction a with
  | nil => rfl
  | cons o a ih => simp [fV, ih]
theorem fV_snoc (a : List Fil) (x : Fil) : fV (a ++ [x]) = fV a ++ [.int .i64 x.buyer, .int .i64 x.seller, .int .i64 x.price, .int .i64 x.qty] := by rw [fV_append]; rfl
theorem fV_at {l : List Fil} {k : Nat} (h : k < l.length) : (fV l)[k * 4]? = some (.int .i64 (fAt l k).buyer) ∧ (fV l)[k * 4 + 1]? = some (.int .i64 (fAt l k).seller) ∧ (fV l)[k * 4 + 2]? = some (.int .i64 (fAt l k).price) ∧ (fV l)[k * 4 + 3]? = some (.int .i64 (fAt l k).qty) := by
  induction l generalizing k with
  | nil => simp at h
  | cons o l ih =>
    cases k with
    | zero => exact ⟨rfl, rfl, rfl, rfl⟩
    | succ k =>
      have := ih (k := k) (by simpa using h)
      rw [show (k + 1) * 4 = k * 4 + 1 + 1 + 1 + 1 by omega]
      have e : fAt (o :: l) (k + 1) = fAt l k := by simp [fAt]
      rw [e]
      simpa [fV] using this

/-- orders that lie: each of a side, of its own number, with a price and lots that may be -/
structure LOk (L : List Ord) : Prop where
  side : ∀ o ∈ L, o.side = 1 ∨ o.side = 2
  ids : (L.map Ord.id).Nodup
  ok : ∀ o ∈ L, 1 ≤ o.price ∧ o.price ≤ 1000000 ∧ 1 ≤ o.qty ∧ o.qty ≤ 1000000
/-- n lots of one order less; with none left it goes -/
def lessF (id n : Int) (L : List Ord) : List Ord := (L.map (cutF id n)).filter fun o => decide (0 < o.qty)
theorem cutF_qty {id n : Int} {o : Ord} (h : o.id ≠ id) : cutF id n o = o := if_neg h
theorem cutF_hit (n : Int) (o : Ord) : cutF o.id n o = cutO n o := if_pos rfl
theorem lessF_out (id n : Int) : ∀ L : List Ord, (∀ o ∈ L, o.id = id → o.qty = n) → (∀ o ∈ L, 1 ≤ o.qty) → lessF id n L = L.filter (fun o => decide (o.id ≠ id))
  | [], _, _ => rfl
  | o :: L, h1, h2 => by
    have ih := lessF_out id n L (fun x hx => h1 x (List.mem_cons_of_mem _ hx)) (fun x hx => h2 x (List.mem_cons_of_mem _ hx))
    unfold lessF at ih ⊢
    have hq := h2 o (List.mem_cons_self ..)
    by_cases e : o.id = id
    · have hn := h1 o (List.mem_cons_self ..) e
      have hc : (cutF id n o).qty = 0 := by unfold cutF; rw [if_pos e]; show o.qty - n = 0; omega
      rw [List.map_cons, List.filter_cons_of_neg (by rw [hc]; decide), ih, List.filter_cons_of_neg (by simp [e])]
    · rw [List.map_cons, cutF_qty e, List.filter_cons_of_pos (by simpa using (show 0 < o.qty by omega)), ih, List.filter_cons_of_pos (by simpa using e)]
theorem lessF_stay (id n : Int) : ∀ L : List Ord, (∀ o ∈ L, o.id = id → n < o.qty) → (∀ o ∈ L, 1 ≤ o.qty) → lessF id n L = L.map (cutF id n)
  | [], _, _ => rfl
  | o :: L, h1, h2 => by
    have ih := lessF_stay id n L (fun x hx => h1 x (List.mem_cons_of_mem _ hx)) (fun x hx => h2 x (List.mem_cons_of_mem _ hx))
    unfold lessF at ih ⊢
    have hq := h2 o (List.mem_cons_self ..)
    have hp : 0 < (cutF id n o).qty := by
      by_cases e : o.id = id
      · have hn := h1 o (List.mem_cons_self ..) e
        unfold cutF; rw [if_pos e]; show 0 < o.qty - n; omega
      · rw [cutF_qty e]; omega
    rw [List.map_cons, List.filter_cons_of_pos (by simpa using hp), ih]
theorem idx_of {L : List Ord} (h : LOk L) {o : Ord} (ho : o ∈ L) : ∃ k : Nat, k < L.length ∧ idxO o.id L = k ∧ oAt L k = o := by
  rcases idxF_in o.id L 0 with h1 | ⟨k, hk, h1, h2⟩
  · have := idxF_some o.id L 0 ⟨o, ho, rfl⟩
    omega
  · exact ⟨k, hk, by show idxF o.id 0 L = k; rw [h1]; congr 1; omega, id_inj h.ids (oAt_in hk) ho h2⟩
theorem cut_is {L : List Ord} (h : LOk L) {o : Ord} (ho : o ∈ L) {n : Int} (hn : 1 ≤ n ∧ n ≤ o.qty) : cutM o.id n L = lessF o.id n L ∧ cutN o.id n L = 0 := by
  obtain ⟨k, hk, h1, h2⟩ := idx_of h ho
  have hne : ¬ idxO o.id L = -1 := by omega
  have hkk : (idxO o.id L).toNat = k := by omega
  have hd : ¬ (decide (1 ≤ n) && decide (n ≤ o.qty)) = false := by simp [hn.1, hn.2]
  have hone : ∀ x ∈ L, x.id = o.id → x = o := fun x hx e => id_inj h.ids hx ho e
  unfold cutM cutN
  rw [if_neg hne, if_neg hne, hkk, h2, if_neg hd, if_neg hd]
  refine ⟨?_, rfl⟩
  by_cases e : o.qty = n
  · rw [if_pos e, goneL_filter h.ids hk, h2, lessF_out o.id n L (fun x hx e' => by rw [hone x hx e']; exact e) (fun x hx => (h.ok x hx).2.2.1)]
  · rw [if_neg e]
    have := set_map n h.ids hk
    rw [h2] at this
    rw [this, lessF_stay o.id n L (fun x hx e' => by rw [hone x hx e']; omega) (fun x hx => (h.ok x hx).2.2.1)]
theorem less_mem {id n : Int} {L : List Ord} {x : Ord} (h : x ∈ lessF id n L) : ∃ y ∈ L, x = cutF id n y ∧ 0 < x.qty := by
  unfold lessF at h
  rw [List.mem_filter, List.mem_map] at h
  obtain ⟨⟨y, hy, rfl⟩, h2⟩ := h
  exact ⟨y, hy, rfl, by simpa using h2⟩
theorem cutF_le {id n : Int} {o : Ord} (hn : 0 ≤ n) : (cutF id n o).qty ≤ o.qty := by
  unfold cutF; split
  · show o.qty - n ≤ o.qty; omega
  · exact Int.le_refl _
theorem LOk.less {L : List Ord} (h : LOk L) (id : Int) {n : Int} (hn : 0 ≤ n) : LOk (lessF id n L) := by
  refine ⟨fun x hx => ?_, ?_, fun x hx => ?_⟩
  · obtain ⟨y, hy, rfl, _⟩ := less_mem hx
    rw [cutF_side]; exact h.side y hy
  · unfold lessF
    refine (List.Nodup.sublist ?_ h.ids)
    have e : (L.map (cutF id n)).map Ord.id = L.map Ord.id := by
      rw [List.map_map]
      exact List.map_congr_left (fun o _ => cutF_id id n o)
    rw [← e]
    exact (List.filter_sublist).map _
  · obtain ⟨y, hy, rfl, h2⟩ := less_mem hx
    have h3 := h.ok y hy
    have h4 := cutF_le (id := id) (o := y) hn
    rw [cutF_price]; omega
theorem side_less (s id n : Int) (L : List Ord) : sideO s (lessF id n L) = ((sideO s L).map (cutF id n)).filter fun o => decide (0 < o.qty) := by
  unfold lessF
  rw [sideO_filter, sideO_map s (cutF_side id n) (cutF_kind id n) (cutF_price id n)]
/-- who is not there loses nothing -/
theorem less_none {id n : Int} : ∀ {l : List Ord}, (∀ o ∈ l, o.id ≠ id) → (∀ o ∈ l, 1 ≤ o.qty) → (l.map (cutF id n)).filter (fun o => decide (0 < o.qty)) = l
  | [], _, _ => rfl
  | o :: l, h1, h2 => by
    have hq := h2 o (List.mem_cons_self ..)
    rw [List.map_cons, cutF_qty (h1 o (List.mem_cons_self ..)), List.filter_cons_of_pos (by simpa using (show 0 < o.qty by omega)), less_none (fun x hx => h1 x (List.mem_cons_of_mem _ hx)) (fun x hx => h2 x (List.mem_cons_of_mem _ hx))]
theorem side_ids {L : List Ord} (h : LOk L) (s : Int) : ((sideO s L).map Ord.id).Nodup := by
  have h1 : (onSide s L).Sublist L := List.filter_sublist
  have h2 := (h1.map Ord.id).nodup h.ids
  exact ((ssort_perm (rankO s) (onSide s L)).map Ord.id).nodup_iff.2 h2
/-- the best one has lots less, or goes; all others stay -/
theorem side_best {L : List Ord} (h : LOk L) {s n : Int} {x : Ord} {T : List Ord} (hs : sideO s L = x :: T) (hq : n ≤ x.qty) : sideO s (lessF x.id n L) = if x.qty = n then T else cutO n x :: T := by
  have hnd := side_ids h s
  rw [hs, List.map_cons, List.nodup_cons] at hnd
  have hT : ∀ o ∈ T, o.id ≠ x.id := fun o ho e => hnd.1 (List.mem_map.2 ⟨o, ho, e⟩)
  have hTq : ∀ o ∈ T, 1 ≤ o.qty := fun o ho => (h.ok o (sideO_mem.1 (show o ∈ sideO s L by rw [hs]; exact List.mem_cons_of_mem _ ho)).1).2.2.1
  rw [side_less, hs, List.map_cons, cutF_hit]
  by_cases e : x.qty = n
  · rw [if_pos e, List.filter_cons_of_neg (by show ¬ decide (0 < x.qty - n) = true; simp; omega), less_none hT hTq]
  · rw [if_neg e, List.filter_cons_of_pos (by show decide (0 < x.qty - n) = true; simp; omega), less_none hT hTq]
theorem side_other {L : List Ord} (h : LOk L) {s t n : Int} {x : Ord} (hx : x ∈ sideO s L) (hne : t ≠ s) : sideO t (lessF x.id n L) = sideO t L := by
  obtain ⟨hxL, hxs⟩ := sideO_mem.1 hx
  rw [side_less]
  refine less_none (fun o ho e => ?_) (fun o ho => (h.ok o (sideO_mem.1 ho).1).2.2.1)
  obtain ⟨hoL, hos⟩ := sideO_mem.1 ho
  have := id_inj h.ids hoL hxL e
  rw [this, hxs] at hos
  exact hne hos.symm

/-- 8.1: is an order willing at a price? -/
def wilB (s p : Int) (o : Ord) : Bool := (o.kind == 2) || (((s == 1) && decide (p ≤ o.price)) || ((s == 2) && decide (o.price ≤ p)))
def wilL (s p : Int) (L : List Ord) : Int := (L.map fun o => if (o.side == s && wilB s p o) = true then o.qty else 0).sum
theorem wilL_cons (s p : Int) (o : Ord) (L : List Ord) : wilL s p (o :: L) = (if (o.side == s && wilB s p o) = true then o.qty else 0) + wilL s p L := by simp [wilL]
theorem wilL_in (s p : Int) : ∀ {L : List Ord}, LOk L → 0 ≤ wilL s p L ∧ wilL s p L ≤ 1000000 * (L.length : Int)
  | [], _ => by simp [wilL]
  | o :: L, h => by
    have h' : LOk L := ⟨fun x hx => h.side x (List.mem_cons_of_mem _ hx), (List.nodup_cons.1 h.ids).2, fun x hx => h.ok x (List.mem_cons_of_mem _ hx)⟩
    have ih := wilL_in s p h'
    have ho := h.ok o (List.mem_cons_self ..)
    rw [wilL_cons, List.length_cons]
    split <;> omega
theorem wil_some {s p : Int} : ∀ {L : List Ord}, (∀ o ∈ L, 1 ≤ o.qty) → 0 < wilL s p L → ∃ o ∈ L, o.side = s ∧ wilB s p o = true
  | [], _, h => by simp [wilL] at h
  | o :: L, hq, h => by
    rw [wilL_cons] at h
    by_cases e : (o.side == s && wilB s p o) = true
    · rw [Bool.and_eq_true, beq_iff_eq] at e
      exact ⟨o, List.mem_cons_self .., e.1, e.2⟩
    · rw [if_neg e] at h
      obtain ⟨x, hx, h1⟩ := wil_some (fun y hy => hq y (List.mem_cons_of_mem _ hy)) (show 0 < wilL s p L by omega)
      exact ⟨x, List.mem_cons_of_mem _ hx, h1⟩
theorem wil_less {s p id n : Int} : ∀ {L : List Ord}, (L.map Ord.id).Nodup → (∀ o ∈ L, 1 ≤ o.qty) → (∀ o ∈ L, o.id = id → n ≤ o.qty) → wilL s p (lessF id n L) = wilL s p L - (if ∃ o ∈ L, o.id = id ∧ (o.side == s && wilB s p o) = true then n else 0)
  | [], _, _, _ => by simp [wilL, lessF]
  | o :: L, hd, hq, hn => by
    rw [List.map_cons, List.nodup_cons] at hd
    have ih := wil_less (s := s) (p := p) (id := id) (n := n) hd.2 (fun x hx => hq x (List.mem_cons_of_mem _ hx)) (fun x hx => hn x (List.mem_cons_of_mem _ hx))
    have hqo := hq o (List.mem_cons_self ..)
    have hw : ∀ (q : Int), (({ o with qty := q } : Ord).side == s && wilB s p { o with qty := q }) = (o.side == s && wilB s p o) := fun q => rfl
    by_cases e : o.id = id
    · have hno : ¬ ∃ x ∈ L, x.id = id ∧ (x.side == s && wilB s p x) = true := fun ⟨x, hx, h1, _⟩ => hd.1 (List.mem_map.2 ⟨x, hx, by rw [h1, e]⟩)
      rw [if_neg hno] at ih
      have hqn := hn o (List.mem_cons_self ..) e
      have hc : cutF id n o = { o with qty := o.qty - n } := by unfold cutF; rw [if_pos e]; rfl
      have hL : lessF id n (o :: L) = if 0 < o.qty - n then { o with qty := o.qty - n } :: lessF id n L else lessF id n L := by
        unfold lessF
        rw [List.map_cons, hc, List.filter_cons]
        simp
      by_cases hwo : (o.side == s && wilB s p o) = true
      · have hex : ∃ x ∈ o :: L, x.id = id ∧ (x.side == s && wilB s p x) = true := ⟨o, List.mem_cons_self .., e, hwo⟩
        have e1 : wilL s p (o :: L) = o.qty + wilL s p L := by rw [wilL_cons, if_pos hwo]
        rw [hL, e1, if_pos hex]
        by_cases hp : 0 < o.qty - n
        · have e2 : wilL s p ({ o with qty := o.qty - n } :: lessF id n L) = (o.qty - n) + wilL s p (lessF id n L) := by rw [wilL_cons, hw, if_pos hwo]
          rw [if_pos hp, e2, ih]; omega
        · rw [if_neg hp, ih]; omega
      · have hno2 : ¬ ∃ x ∈ o :: L, x.id = id ∧ (x.side == s && wilB s p x) = true := fun ⟨x, hx, h1, h2⟩ => by
          rw [List.mem_cons] at hx
          rcases hx with rfl | hx
          · exact hwo h2
          · exact hno ⟨x, hx, h1, h2⟩
        have e1 : wilL s p (o :: L) = 0 + wilL s p L := by rw [wilL_cons, if_neg hwo]
        rw [hL, e1, if_neg hno2]
        by_cases hp : 0 < o.qty - n
        · have e2 : wilL s p ({ o with qty := o.qty - n } :: lessF id n L) = 0 + wilL s p (lessF id n L) := by rw [wilL_cons, hw, if_neg hwo]
          rw [if_pos hp, e2, ih]; omega
        · rw [if_neg hp, ih]; omega
    · have hL : lessF id n (o :: L) = o :: lessF id n L := by
        unfold lessF
        rw [List.map_cons, cutF_qty e, List.filter_cons_of_pos (by simpa using (show 0 < o.qty by omega))]
      have hiff : (∃ x ∈ o :: L, x.id = id ∧ (x.side == s && wilB s p x) = true) ↔ ∃ x ∈ L, x.id = id ∧ (x.side == s && wilB s p x) = true := by
        constructor
        · rintro ⟨x, hx, h1, h2⟩
          rw [List.mem_cons] at hx
          rcases hx with rfl | hx
          · exact absurd h1 e
          · exact ⟨x, hx, h1, h2⟩
        · rintro ⟨x, hx, h1, h2⟩; exact ⟨x, List.mem_cons_of_mem _ hx, h1, h2⟩
      rw [hL, wilL_cons, wilL_cons, ih]
      simp only [hiff]
      omega
/-- where somebody is willing, the best one is -/
theorem best_wil {L : List Ord} (h : LOk L) {s p : Int} (hs : s = 1 ∨ s = 2) (hw : 0 < wilL s p L) : ∃ x T, sideO s L = x :: T ∧ x ∈ L ∧ x.side = s ∧ wilB s p x = true := by
  obtain ⟨o, ho, h1, h2⟩ := wil_some (fun y hy => (h.ok y hy).2.2.1) hw
  have hm : o ∈ sideO s L := sideO_mem.2 ⟨ho, h1⟩
  match hS : sideO s L with
  | [] => rw [hS] at hm; cases hm
  | x :: T =>
    have hx : x ∈ sideO s L := by rw [hS]; exact List.mem_cons_self ..
    obtain ⟨hxL, hxs⟩ := sideO_mem.1 hx
    refine ⟨x, T, rfl, hxL, hxs, ?_⟩
    have hr : rankO s x ≤ rankO s o := by
      have hsrt := ssort_srt (rank := rankO s) (onSide s L)
      rw [show ssort (rankO s) (onSide s L) = x :: T from hS, List.pairwise_cons] at hsrt
      rw [hS, List.mem_cons] at hm
      rcases hm with rfl | hm
      · exact Int.le_refl _
      · exact hsrt.1 o hm
    have px := h.ok x hxL
    have po := h.ok o ho
    unfold rankO rankI at hr
    unfold wilB at h2 ⊢
    by_cases kx : x.kind = 2
    · rw [kx]; rfl
    · rw [if_neg kx] at hr
      by_cases ko : o.kind = 2
      · rw [if_pos ko] at hr
        split at hr <;> omega
      · rw [if_neg ko] at hr
        have kob : (o.kind == 2) = false := beq_eq_false_iff_ne.2 ko
        have kxb : (x.kind == 2) = false := beq_eq_false_iff_ne.2 kx
        rw [kob, Bool.false_or] at h2
        rw [kxb, Bool.false_or]
        rcases hs with rfl | rfl
        · rw [if_pos rfl, if_pos rfl] at hr
          simp at h2 ⊢; omega
        · rw [if_neg (by decide), if_neg (by decide)] at hr
          simp at h2 ⊢; omega

/-- trades so far, the orders that lie, the lots that are left -/
structure FS where
  fs : List Fil
  L : List Ord
  q : Int
def bestO (s : Int) (L : List Ord) : Ord := oAt (sideO s L) 0
def lotN (s : FS) : Int := min s.q (min (bestO 1 s.L).qty (bestO 2 s.L).qty)
def fstep (p : Int) (s : FS) : FS := ⟨s.fs ++ [⟨(bestO 1 s.L).id, (bestO 2 s.L).id, p, lotN s⟩], cutM (bestO 2 s.L).id (lotN s) (cutM (bestO 1 s.L).id (lotN s) s.L), s.q - lotN s⟩
def fiter (p : Int) (s : FS) : Nat → FS
  | 0 => s
  | k + 1 => fstep p (fiter p s k)
structure FOk (p : Int) (s : FS) : Prop where
  ok : LOk s.L
  nn : 0 ≤ s.q
  buy : s.q ≤ wilL 1 p s.L
  sell : s.q ≤ wilL 2 p s.L
/-- one trade more -/
theorem fstep_ok {p : Int} {s : FS} (h : FOk p s) (hq : 0 < s.q) :
    (∃ x T y U, sideO 1 s.L = x :: T ∧ sideO 2 s.L = y :: U ∧ bestO 1 s.L = x ∧ bestO 2 s.L = y ∧ x ∈ s.L ∧ y ∈ s.L ∧ y ∈ lessF x.id (lotN s) s.L ∧ 1 ≤ lotN s ∧ lotN s ≤ s.q ∧ lotN s ≤ x.qty ∧ lotN s ≤ y.qty ∧ cutM x.id (lotN s) s.L = lessF x.id (lotN s) s.L ∧ (fstep p s).L = lessF y.id (lotN s) (lessF x.id (lotN s) s.L)
      ∧ cutN x.id (lotN s) s.L = 0 ∧ cutN y.id (lotN s) (lessF x.id (lotN s) s.L) = 0 ∧ LOk (lessF x.id (lotN s) s.L)) ∧ FOk p (fstep p s) := by
  obtain ⟨hok, _, hb, hs⟩ := h
  obtain ⟨x, T, hS1, hxL, hxs, hxw⟩ := best_wil hok (s := 1) (p := p) (Or.inl rfl) (by omega)
  obtain ⟨y, U, hS2, hyL, hys, hyw⟩ := best_wil hok (s := 2) (p := p) (Or.inr rfl) (by omega)
  have hbx : bestO 1 s.L = x := by unfold bestO; rw [hS1]; rfl
  have hby : bestO 2 s.L = y := by unfold bestO; rw [hS2]; rfl
  have px := hok.ok x hxL
  have py := hok.ok y hyL
  have hn : lotN s = min s.q (min x.qty y.qty) := by unfold lotN; rw [hbx, hby]
  obtain ⟨n, hnn⟩ : ∃ n, lotN s = n := ⟨_, rfl⟩
  have n1 : 1 ≤ n ∧ n ≤ s.q ∧ n ≤ x.qty ∧ n ≤ y.qty := by omega
  obtain ⟨c1, c2⟩ := cut_is hok hxL (n := n) (by omega)
  have ok1 := hok.less x.id (n := n) (by omega)
  have hy1 : y ∈ lessF x.id n s.L := by
    have : y ∈ sideO 2 (lessF x.id n s.L) := by
      rw [side_other hok (s := 1) (t := 2) (x := x) (by rw [hS1]; exact List.mem_cons_self ..) (by decide), hS2]
      exact List.mem_cons_self ..
    exact (sideO_mem.1 this).1
  obtain ⟨c3, c4⟩ := cut_is ok1 hy1 (n := n) (by omega)
  have ok2 := ok1.less y.id (n := n) (by omega)
  have hL : (fstep p s).L = lessF y.id n (lessF x.id n s.L) := by
    show cutM (bestO 2 s.L).id (lotN s) (cutM (bestO 1 s.L).id (lotN s) s.L) = _
    rw [hbx, hby, hnn, c1, c3]
  have hq' : (fstep p s).q = s.q - n := by show s.q - lotN s = _; rw [hnn]
  have one : ∀ {L : List Ord}, LOk L → ∀ {z : Ord}, z ∈ L → n ≤ z.qty → ∀ t, wilL t p (lessF z.id n L) = wilL t p L - (if (z.side == t && wilB t p z) = true then n else 0) := fun {L} hL {z} hz hzq t => by
    rw [wil_less hL.ids (fun o ho => (hL.ok o ho).2.2.1) (fun o ho e => by rw [id_inj hL.ids ho hz e]; exact hzq)]
    congr 1
    by_cases hw : (z.side == t && wilB t p z) = true
    · rw [if_pos hw, if_pos ⟨z, hz, rfl, hw⟩]
    · rw [if_neg hw, if_neg]
      rintro ⟨o, ho, e, h2⟩
      rw [id_inj hL.ids ho hz e] at h2
      exact hw h2
  have w1 := one hok hxL n1.2.2.1 1
  have w2 := one hok hxL n1.2.2.1 2
  have w3 := one ok1 hy1 n1.2.2.2 1
  have w4 := one ok1 hy1 n1.2.2.2 2
  rw [if_pos (by rw [hxs, hxw]; rfl)] at w1
  rw [if_neg (by rw [hxs]; simp)] at w2
  rw [if_neg (by rw [hys]; simp)] at w3
  rw [if_pos (by rw [hys, hyw]; rfl)] at w4
  rw [hnn]
  refine ⟨⟨x, T, y, U, hS1, hS2, hbx, hby, hxL, hyL, hy1, n1.1, n1.2.1, n1.2.2.1, n1.2.2.2, c1, hL, c2, c4, ok1⟩, ?_⟩
  refine ⟨by rw [hL]; exact ok2, by rw [hq']; omega, ?_, ?_⟩
  · rw [hL, hq', w3, w1]; omega
  · rw [hL, hq', w4, w2]; omega
theorem fiter_ok {p : Int} {s : FS} (h : FOk p s) : ∀ k, (∀ j, j < k → 0 < (fiter p s j).q) → FOk p (fiter p s k)
  | 0, _ => h
  | k + 1, hq => (fstep_ok (fiter_ok h k (fun j hj => hq j (by omega))) (hq k (by omega))).2
end Go.Proofs.YtcoijhofliilmabGreatDoor

/-
  Both books, filled by one list of orders: the law's laid, over this seat's translation. Conditions stand in the theorem.
-/
namespace Go.Proofs.YtcoijhofliilmabGreatDoor
open Go.RowKit

/-- orders that a slice leads to -/
def LdIn (w : World) (a : Option Addr) (l : List Ord) : Prop := ∀ k, k < l.length → ∃ g off, a = some ⟨g, off, none⟩ ∧ w.cell? ⟨g, off + k * 5, none⟩ = some (.int .i64 (oAt l k).id) ∧ w.cell? ⟨g, off + k * 5 + 1, none⟩ = some (.int .i64 (oAt l k).side) ∧ w.cell? ⟨g, off + k * 5 + 2, none⟩ = some (.int .i64 (oAt l k).kind) ∧ w.cell? ⟨g, off + k * 5 + 3, none⟩ = some (.int .i64 (oAt l k).price) ∧ w.cell? ⟨g, off + k * 5 + 4, none⟩ = some (.int .i64 (oAt l k).qty)
theorem ld_cell {w w' : World} {p : Addr} {v : Value} (hb : Below w.heap.size w w') (h : w.cell? p = some v) : w'.cell? p = some v := (hb.cell (World.block_lt_of_cell? w _ h)).trans h
theorem LdIn.below {w w' : World} {a : Option Addr} {l : List Ord} (h : LdIn w a l) (hb : Below w.heap.size w w') : LdIn w' a l := fun k hk => by
  obtain ⟨g, off, e, d0, d1, d2, d3, d4⟩ := h k hk
  exact ⟨g, off, e, ld_cell hb d0, ld_cell hb d1, ld_cell hb d2, ld_cell hb d3, ld_cell hb d4⟩
/-- what lies in a book that may be may lie in the document's -/
theorem lok_of {w : World} {bb m : Nat} {b : BkS} {L : List Ord} (h : Bk w bb m b) (hl : Lnk b.S L) : LOk L := ⟨hl.all, hl.ids, hl.ok h.ok⟩
def laidL (l : List Ord) : List Ord := l.foldl (fun L o => addL o L) []
theorem laid_take {l : List Ord} {k : Nat} (h : k < l.length) : laidL (l.take (k + 1)) = addL (oAt l k) (laidL (l.take k)) := by
  unfold laidL
  rw [List.take_succ_eq_append_getElem h, List.foldl_append]
  have e : oAt l k = l[k] := by simp [oAt, h]
  rw [e]; rfl

set_option maxRecDepth 4000 in
set_option maxHeartbeats 4000000 in
theorem crLaid (a : Option Addr) (cap : Nat) (l : List Ord) (w : World) (h : LdIn w a l) (hl : l.length ≤ 100) (hE : ErrT w) (hid : ∀ o ∈ l, (Lit.int .i64 o.id).wf = true) :
    Calls Tryz.prog 5 #[.slice a l.length cap] w fun e w' => ∃ (rb m : Nat) (b : BkS) (v : Value), e = .returned (.tuple #[.pointer (some ⟨w.heap.size + 2, 0, none⟩), .pointer (some ⟨rb, 0, none⟩)]) ∧ m ≤ l.length ∧ Pair w w' (w.heap.size + 2) rb m b v (laidL l) ∧ Lnk b.S (laidL l) := by
  have HA : Hid (LdIn w a l) := h
  have HI : Hid (∀ o ∈ l, (Lit.int .i64 o.id).wf = true) := hid
  clear h hid
  go_enter Tryz.func5, Tryz.ntmps5
  go_wp2_with fail
  refine (pbNew w).mono ?_
  rintro e w1 ⟨rfl, hbk, hb1⟩
  have HN : Hid (MyBk w w1 (w.heap.size + 2) 0 (BkS.none_ w.heap.size)) := MyBk.start hbk hb1
  have hz : w.heap.size ≤ w1.heap.size := hb1.size
  have HP : Hid (Pair w (w1.alloc (.cells #[.slice none 0 0] 52)) (w.heap.size + 2) w1.heap.size 0 (BkS.none_ w.heap.size) (.slice none 0 0) []) := ⟨HN.out.below (bel1 w1 _), ⟨heap_alloc_new w1 _, World.ownsRow_nil _ _ _ _⟩, hE, hz⟩
  clear hbk hb1 HN
  go_wp2_with fail
  generalize w1.alloc (.cells #[.slice none 0 0] 52) = w2 at HP ⊢
  generalize w1.heap.size = rb at HP ⊢
  go_loopw [6] (fun u6 wr => ∃ (k m : Nat) (b : BkS) (v : Value), u6 = .int .i64 k ∧ k ≤ l.length ∧ m ≤ k ∧ Pair w wr (w.heap.size + 2) rb m b v (laidL (l.take k)) ∧ Lnk b.S (laidL (l.take k))) (fun u6 _ => l.length - (intOf u6).toNat)
  case atStart => exact ⟨0, 0, _, _, rfl, Nat.zero_le _, Nat.le_refl _, HP.out, Lnk.start⟩
  case round =>
    obtain ⟨k, m, b, v, rfl, hk, hmk, hp, hlk⟩ := hrel
    clear HP
    have HP : Hid (Pair w wr (w.heap.size + 2) rb m b v (laidL (l.take k))) := hp
    have HL : Hid (Lnk b.S (laidL (l.take k))) := hlk
    by_cases hk1 : k < l.length
    · have hlt : (k : Int) < (l.length : Int) := by omega
      obtain ⟨g, off, rfl, d0, d1, d2, d3, d4⟩ := (HA.out.below hp.my.bel) k hk1
      have HS : Hid (laidL (l.take (k + 1)) = addL (oAt l k) (laidL (l.take k))) := laid_take hk1
      have HW : Hid ((Lit.int .i64 (oAt l k).id).wf = true) := HI.out _ (oAt_in hk1)
      have HX : Hid (LdIn w (some ⟨g, off, none⟩) l) := HA.out
      clear hp hlk
      go_wp2_with fail
      refine (prog_add HP.out.my.bk (by omega) HL.out (oAt l k) HW.out).mono ?_
      rintro e w4 ⟨err, rfl, _, b', hl', hg⟩
      have hp4 := HP.out.goes hg
      have HP4 : Hid _ := hp4
      have HL4 : Hid _ := hl'
      clear d0 d1 d2 d3 d4
      obtain ⟨g', off', e1, d0, d1, d2, d3, d4⟩ := (HX.out.below hp4.my.bel) k hk1
      injection e1 with e1
      injection e1 with e1 e2 _
      subst e1 e2
      have hfew := lnk_few HP.out.my.bk.ok HL.out
      clear hp4 hl' hg
      go_wp2_with fail
      refine (doc_add HP4.out hfew (oAt l k)).mono ?_
      rintro e w5 ⟨rfl, v', hp5, _⟩
      have HP5 : Hid _ := hp5
      clear hp5 d0 d1 d2 d3 d4
      go_wp2_with fail
      go_roundw
      case rel => exact ⟨k + 1, m + 1, b', v', by go_num, hk1, by omega, by rw [HS.out]; exact HP5.out, by rw [HS.out]; exact HL4.out⟩
      case measure => simp [RowKit.intOf]; omega
    · obtain rfl : k = l.length := by omega
      rw [List.take_length] at HP HL
      clear hp hlk
      go_wp2_with fail
      go_ret2
      exact ⟨rb, m, b, v, rfl, hmk, HP.out, HL.out⟩
end Go.Proofs.YtcoijhofliilmabGreatDoor

/-
  Trades in memory, and what the law's own comparison of trades returns of two lists of one mind, over this seat's translation. Conditions stand in each theorem.
-/
namespace Go.Proofs.YtcoijhofliilmabGreatDoor
open Go.RowKit

/-- trades that lie one behind the other, from an address on -/
def FilsIn (w : World) (a : Option Addr) (l : List Fil) : Prop := ∀ k, k < l.length → ∃ b off, a = some ⟨b, off, none⟩ ∧ w.cell? ⟨b, off + k * 4, none⟩ = some (.int .i64 (fAt l k).buyer) ∧ w.cell? ⟨b, off + k * 4 + 1, none⟩ = some (.int .i64 (fAt l k).seller) ∧ w.cell? ⟨b, off + k * 4 + 2, none⟩ = some (.int .i64 (fAt l k).price) ∧ w.cell? ⟨b, off + k * 4 + 3, none⟩ = some (.int .i64 (fAt l k).qty)
theorem fi_cell {w w' : World} {p : Addr} {v : Value} (hb : Below w.heap.size w w') (h : w.cell? p = some v) : w'.cell? p = some v := (hb.cell (World.block_lt_of_cell? w _ h)).trans h
theorem FilsIn.below {w w' : World} {a : Option Addr} {l : List Fil} (h : FilsIn w a l) (hb : Below w.heap.size w w') : FilsIn w' a l := fun k hk => by
  obtain ⟨b, off, e, h0, h1, h2, h3⟩ := h k hk
  exact ⟨b, off, e, fi_cell hb h0, fi_cell hb h1, fi_cell hb h2, fi_cell hb h3⟩
theorem FilsIn.of_row {w : World} {base : Nat} {v : Value} {l : List Fil} (h : w.ownsRow base 59 4 v l.length (fV l)) : ∃ a cap, v = .slice a l.length cap ∧ FilsIn w a l := by
  obtain ⟨a, cap, rfl, _, _⟩ := owns_shape h
  refine ⟨a, cap, rfl, fun k hk => ?_⟩
  obtain ⟨g, cap', e, _, _⟩ := h.form (by omega)
  simp only [Value.slice.injEq, true_and] at e
  obtain ⟨rfl, rfl⟩ := e
  obtain ⟨h1, h2, h3, h4⟩ := fV_at hk
  exact ⟨g, 0, rfl, by simpa using (h.cellAt _ (by omega)).trans h1, by simpa using (h.cellAt _ (by omega)).trans h2, by simpa using (h.cellAt _ (by omega)).trans h3, by simpa using (h.cellAt _ (by omega)).trans h4⟩

set_option maxRecDepth 4000 in
set_option maxHeartbeats 4000000 in
theorem cfSame (a b : Option Addr) (ca cb : Nat) (l : List Fil) (w : World) (h : FilsIn w a l) (h' : FilsIn w b l) (hl : l.length ≤ 1000000000) :
    Calls Tryz.prog 9 #[.slice a l.length ca, .slice b l.length cb] w fun e w' => e = .returned (.bool true) ∧ Below w.heap.size w w' := by
  have HA : Hid (FilsIn w a l) := h
  have HB : Hid (FilsIn w b l) := h'
  clear h h'
  go_enter Tryz.func9, Tryz.ntmps9
  go_wp2_with fail
  go_loopw [5] (fun i wr => ∃ k : Nat, k ≤ l.length ∧ i = .int .i64 k ∧ Below w.heap.size w wr) (fun i _ => l.length - (intOf i).toNat)
  case atStart => exact ⟨0, Nat.zero_le _, rfl, Below.refl _ _⟩
  case round =>
    obtain ⟨k, hk, rfl, hb⟩ := hrel
    have HW : Hid (Below w.heap.size w wr) := hb
    by_cases hk1 : k < l.length
    · have q0 : (0 : Int) ≤ (k : Int) := by omega
      have hlt : (k : Int) < (l.length : Int) := by omega
      obtain ⟨g, off, rfl, d0, d1, d2, d3⟩ := HA.out.below hb k hk1
      obtain ⟨g', off', rfl, e0, e1, e2, e3⟩ := HB.out.below hb k hk1
      clear hb
      generalize fAt l k = x at d0 d1 d2 d3 e0 e1 e2 e3
      go_wp2_with fail
      go_quiet (fail)
      go_wp2_with fail
      go_roundw
      case rel => exact ⟨k + 1, hk1, by go_num, below_drewN HW.out _⟩
      case measure => simp [intOf]; omega
    · obtain rfl : k = l.length := by omega
      clear hb
      go_wp2_with fail
      go_ret
      exact ⟨rfl, HW.out⟩
end Go.Proofs.YtcoijhofliilmabGreatDoor
