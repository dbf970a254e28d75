/-
  The law BookGone, walked. Conditions stand in each theorem.
-/
import Derived.Test.YtcpijeehgdbjbaaPbSit
namespace Go.Proofs.Ytcpijeehgdbjbaa
open Go.RowKit

set_option maxRecDepth 100000 in
set_option maxHeartbeats 2000000 in
theorem gone_walk (a1 a2 : Option Addr) (n1 n2 c1 c2 : Nat) (X1 X2 : Nat → Ord) (turn : Int) (w : World) (h1 : Giv w a1 n1 X1) (h2 : Giv w a2 n2 X2) (hn1 : n1 ≤ 40) (hn2 : n2 ≤ 40) :
    Calls Try.prog 6 #[.slice a1 n1 c1, .slice a2 n2 c2, .int .i64 turn] w fun e W' => e = .returned (.bool true) ∧ Below w.heap.size w W' := by
  have H1 : Hid (Giv w a1 n1 X1) := h1
  have H2 : Hid (Giv w a2 n2 X2) := h2
  clear h1 h2
  have k1 : decide ((n1 : Int) > 40) = false := decide_eq_false (by omega)
  have k2 : decide ((n2 : Int) > 40) = false := decide_eq_false (by omega)
  go_enter Try.func6, Try.ntmps6
  go_wp2_with fail
  refine (pbNew w).mono ?_
  rintro e w1 ⟨rfl, g1, g2⟩
  have M1 : Hid (MyBk w w1 (w.heap.size + 2) 0 (BkS.none_ w.heap.size)) := MyBk.start g1 g2
  clear g1 g2
  go_wp2_with fail
  refine (laid_yes w1).mono ?_
  rintro e w2 ⟨rfl, hb2⟩
  have M2 : Hid (MyBk w w2 (w.heap.size + 2) 0 (BkS.none_ w.heap.size)) := M1.out.below hb2
  clear M1 hb2
  go_wp2_with fail
  go_loopw [8] (fun v wr => ∃ (i : Nat) (b : BkS), i ≤ n1 ∧ v = .int .i64 i ∧ MyBk w wr (w.heap.size + 2) i b) (fun v _ => n1 - (intOf v).toNat)
  case atStart => exact ⟨0, _, Nat.zero_le _, rfl, M2.out⟩
  case round =>
    obtain ⟨i, b, hi, rfl, hM⟩ := hrel
    have HM : Hid (MyBk w wr (w.heap.size + 2) i b) := hM
    by_cases hlt : i < n1
    · rcases (H1.out.later hM.bel).cells with h0 | ⟨b0, off, e0, hc⟩
      · omega
      subst e0
      obtain ⟨c0, c1, c2, c3, c4⟩ := hc i hlt
      have q0 : (0 : Int) ≤ (i : Int) := by omega
      have q1 : (i : Int) < (n1 : Int) := by omega
      clear hM hc
      go_wp2_with fail
      refine (pbAdd_my HM.out (X1 i) (by omega) (H1.out.wf i hlt)).mono ?_
      rintro e w3 hpost
      have hnew : ∃ v b', e = .returned v ∧ MyBk w w3 (w.heap.size + 2) (i + 1) b' := by
        rcases hpost with ⟨n, rfl, _, h⟩ | ⟨rfl, b', _, _, _, _, _, _, _, _, h⟩
        · exact ⟨_, _, rfl, h⟩
        · exact ⟨_, _, rfl, h⟩
      obtain ⟨v, b', rfl, hM3⟩ := hnew
      have HM3 : Hid (MyBk w w3 (w.heap.size + 2) (i + 1) b') := hM3
      clear hpost hM3 c0 c1 c2 c3 c4 HM
      go_wp2_with fail
      go_roundw
      case rel => exact ⟨i + 1, b', by omega, by go_num, HM3.out⟩
      case measure => simp [intOf]; omega
    · have q1 : ¬ (i : Int) < (n1 : Int) := by omega
      go_wp2_with fail
      have hi40 : i ≤ 40 := by omega
      clear hM hlt hi q1
      have hbA := bel1 wr (.cells #[.slice none 0 0, .slice none 0 0] 44)
      have hA := heap_alloc_new wr (.cells #[.slice none 0 0, .slice none 0 0] 44)
      have HMA := HM.out.below hbA
      have hfl : ∀ k, b.foot (w.heap.size + 2) k → k < wr.heap.size := fun k hk => HM.out.bk.lt hk
      have hwB : w.heap.size ≤ wr.heap.size := HM.out.bel.size
      generalize wr.alloc (.cells #[.slice none 0 0, .slice none 0 0] 44) = wa at hA HMA hbA ⊢
      clear HM hbA
      generalize wr.heap.size = B at hA hfl hwB ⊢
      go_loopw [10] (fun v wx => ∃ (s : Nat) (v0 v1 : Value), s ≤ 2 ∧ v = .int .i64 s ∧ MyBk w wx (w.heap.size + 2) i b ∧ wx.heap[B]? = some (.cells #[v0, v1] 44 (0, 0)) ∧ (0 < s → wx.ownsRow B 43 5 v0 (b.S 0).length (oV ((b.S 0).map Ly.o))) ∧ (1 < s → wx.ownsRow B 43 5 v1 (b.S 1).length (oV ((b.S 1).map Ly.o)))) (fun v _ => 2 - (intOf v).toNat)
      case atStart => exact ⟨0, _, _, by omega, rfl, HMA, hA, fun h => absurd h (by decide), fun h => absurd h (by decide)⟩
      case round =>
        obtain ⟨s, v0, v1, hs, rfl, hMx, hbx, hr0, hr1⟩ := hrel
        have HMx : Hid (MyBk w wr (w.heap.size + 2) i b) := hMx
        have HBx : Hid (wr.heap[B]? = some (.cells #[v0, v1] 44 (0, 0))) := hbx
        clear hMx hbx hA HMA
        by_cases hlt : s < 2
        · have q0 : (0 : Int) ≤ (s : Int) := by omega
          have q1 : (s : Int) < 2 := by omega
          go_wp2_with fail
          refine (pbSideOf _ i s b _ HMx.out.bk hlt _ (by go_num)).mono ?_
          rintro e w3 ⟨v, rfl, hown, hb3⟩
          have HB3 : Hid (w3.heap[B]? = some (.cells #[v0, v1] 44 (0, 0))) := blk_below HBx.out hb3 (Nat.le_refl _)
          have HM3 : Hid (MyBk w w3 (w.heap.size + 2) i b) := HMx.out.below hb3
          have HR0 : Hid (0 < s → w3.ownsRow B 43 5 v0 (b.S 0).length (oV ((b.S 0).map Ly.o))) := fun h => owns_below (hr0 h) hb3 (Nat.le_refl _)
          have HO : Hid (w3.ownsRow B 43 5 v (b.S s).length (oV ((b.S s).map Ly.o))) := owns_mono hown (Nat.le_of_lt (lt_of_some HBx.out))
          obtain ⟨u, hu⟩ : ∃ u, #[v0, v1][s]? = some u := by
            match s, hlt with
            | 0, _ => exact ⟨v0, rfl⟩
            | 1, _ => exact ⟨v1, rfl⟩
          have d0 := blk_cell (j := s) HB3.out hu
          have d1 := blk_free (j := s) HB3.out
          obtain ⟨av, cv, hv, _, _⟩ := owns_shape hown
          clear hb3 hown hr0 hr1 HMx HBx hu
          subst hv
          go_wp2_with fail
          have o1 := out_set w3 ⟨B, s, none⟩ (.slice av (b.S s).length cv)
          have hbxn := blk_set (j := s) (.slice av (b.S s).length cv) HB3.out
          have hnB : ∀ k, b.foot (w.heap.size + 2) k → ¬ (k = B) := fun k hk e => by have := hfl k hk; omega
          have hMn : MyBk w (w3.setCell ⟨B, s, none⟩ (.slice av (b.S s).length cv)) (w.heap.size + 2) i b := ⟨HM3.out.bk.out o1 hnB, bel_of_out o1 (fun k e => by subst e; exact hwB) HM3.out.bel, HM3.out.mine⟩
          have keep : ∀ {v' : Value} {l : List Ord} {n : Nat}, w3.ownsRow B 43 5 v' n (oV l) → (w3.setCell ⟨B, s, none⟩ (.slice av (b.S s).length cv)).ownsRow B 43 5 v' n (oV l) := fun h => owns_out h o1 (fun k hk e => owns_type h HB3.out (by decide) (by rw [hk, e]))
          go_roundw
          case rel =>
            match s, hlt with
            | 0, _ => exact ⟨1, _, v1, by omega, by go_num, hMn, hbxn, fun _ => keep HO.out, fun h => absurd h (by decide)⟩
            | 1, _ => exact ⟨2, v0, _, by omega, by go_num, hMn, hbxn, fun _ => keep (HR0.out (by decide)), fun _ => keep HO.out⟩
          case measure => simp [intOf]; omega
        · have hs2 : s = 2 := by omega
          subst hs2
          go_wp2_with fail
          refine (pbMany _ i b _ HMx.out.bk).mono ?_
          rintro e w4 ⟨rfl, hb4⟩
          have HS4 : Hid (Sit w w4 (w.heap.size + 2) B i b v0 v1 (.slice none 0 0) ((b.S 0).map Ly.o) ((b.S 1).map Ly.o) []) := (Sit.none HMx.out HBx.out (by rw [List.length_map]; exact hr0 (by decide)) (by rw [List.length_map]; exact hr1 (by decide)) hfl (Nat.le_refl _) hwB).below hb4
          clear hb4 hr0 hr1 HMx HBx hfl hlt hs
          go_wp2_with fail
          go_loopw [12, 13] (fun u v wx => ∃ (i3 : Nat) (b3 : BkS) (ids : List Int), i3 ≤ n2 ∧ v = .int .i64 i3 ∧ ids.length ≤ i3 ∧ ids.Nodup ∧ Kept b.S b3.S ids ∧ Sit w wx (w.heap.size + 2) B (i + i3) b3 v0 v1 u ((b.S 0).map Ly.o) ((b.S 1).map Ly.o) ids) (fun _ v _ => n2 - (intOf v).toNat)
          case atStart => exact ⟨0, b, [], Nat.zero_le _, rfl, Nat.le_refl _, List.nodup_nil, Kept.start _, HS4.out⟩
          case round =>
            obtain ⟨i3, b3, ids, hi3, rfl, hl3, hnd, hK, hS⟩ := hrel
            clear HS4
            obtain ⟨ai, ci, hvi, hci, _⟩ := owns_shape hS.ri
            subst hvi
            have HS : Hid (Sit w wr (w.heap.size + 2) B (i + i3) b3 v0 v1 (.slice ai ids.length ci) ((b.S 0).map Ly.o) ((b.S 1).map Ly.o) ids) := hS
            have HK : Hid (Kept b.S b3.S ids) := hK
            have HN : Hid ids.Nodup := hnd
            clear hK hnd
            by_cases hlt : i3 < n2
            · rcases (H2.out.later hS.my.bel).cells with h0 | ⟨b0, off, e0, hc⟩
              · omega
              subst e0
              obtain ⟨c0, c1, c2, c3, c4⟩ := hc i3 hlt
              have q0 : (0 : Int) ≤ (i3 : Int) := by omega
              have q1 : (i3 : Int) < (n2 : Int) := by omega
              clear hS hc
              go_wp2_with fail
              refine (pbAdd_my HS.out.my (X2 i3) (by omega) (H2.out.wf i3 hlt)).mono ?_
              rintro e w5 (⟨n, rfl, hg, _⟩ | ⟨rfl, b', s, n, x, hs, hxi, hno, hS', hg, _⟩)
              · have HS5 : Hid _ := HS.out.goes hg
                clear hg c0 c1 c2 c3 c4 HS
                go_wp2_with fail
                go_roundw
                case rel => exact ⟨i3 + 1, b3, ids, by omega, by go_num, by omega, HN.out, HK.out, HS5.out⟩
                case measure => simp [intOf]; omega
              · have HS5 := HS.out.goes hg
                have hG := (H2.out.later HS5.my.bel).cells
                rcases hG with h0 | ⟨b0', off', e0', hc⟩
                · omega
                obtain ⟨e1, e2⟩ : b0 = b0' ∧ off = off' := by simpa using e0'
                subst e1 e2
                have c0' := (hc i3 hlt).1
                have hK5 : Kept b.S b'.S (ids ++ [x.o.id]) := by rw [hS']; exact HK.out.add hs hno
                have hN5 : (ids ++ [x.o.id]).Nodup := by
                  rw [List.nodup_append]
                  refine ⟨HN.out, by simp, fun a ha c hc' => ?_⟩
                  simp only [List.mem_singleton] at hc'
                  subst hc'
                  obtain ⟨t, ht, y, hy, he⟩ := HK.out.lie a ha
                  rw [← he]
                  exact hno t ht y hy
                rw [hxi] at hK5 hN5
                have HK5 : Hid _ := hK5
                have HN5 : Hid _ := hN5
                have HS5' : Hid _ := HS5
                have hbz : w.heap.size ≤ w5.heap.size := HS5.my.bel.size
                clear hg c0 c1 c2 c3 c4 HS hc hno hS' hs hxi e0' hK5 hN5 HS5 HK HN
                obtain ⟨i0, hi, hz0, hz1, hz2⟩ := info_parts Try.infoNumO
                go_wp2_with (at_builtin; refine wpList_append_own_at _ rfl _ _ 48 rfl w.heap.size 3 i0 (.int .i64 0) 1 8 Try.underlying48 hi hz0 hz1 hz2 rfl (by decide) _ ids.length (iV ids) rfl (HS5'.out.ri.alloc _) ⟨w5.heap.size, 0, none⟩ 1 1 [.int .i64 (X2 i3).id] rfl rfl (cell_one_new _ _ _) (by simp [Value.oneCell']) (by unfold maxLen; omega) (by omega) (by simp; omega) ?_; intro v' w6 hown hgrow hnil hat)
                have HS6 : Hid (Sit w w6 (w.heap.size + 2) B (i + i3 + 1) b' v0 v1 v' ((b.S 0).map Ly.o) ((b.S 1).map Ly.o) (ids ++ [(X2 i3).id])) := (HS5'.out.below (bel1 _ _)).push hown hgrow hat
                clear hown hgrow hnil hat HS5'
                go_roundw
                case rel => exact ⟨i3 + 1, b', ids ++ [(X2 i3).id], by omega, by go_num, by simp; omega, HN5.out, HK5.out, HS6.out⟩
                case measure => simp [intOf]; omega
            · have q1 : ¬ (i3 : Int) < (n2 : Int) := by omega
              clear hS
              go_wp2_with fail
              have hl40 : ids.length ≤ 40 := by omega
              have hi80 : i + i3 ≤ 80 := by omega
              clear hlt hi3 q1 hl3
              generalize i + i3 = m3 at HS hi80
              go_loopw [14] (fun v wx => ∃ (i4 : Nat) (b4 : BkS), i4 ≤ ids.length ∧ v = .int .i64 i4 ∧ Kept b.S b4.S (leftI (decide (pickV turn 2 = 1)) i4 ids) ∧ Sit w wx (w.heap.size + 2) B (m3 + i4) b4 v0 v1 (.slice ai ids.length ci) ((b.S 0).map Ly.o) ((b.S 1).map Ly.o) ids) (fun v _ => ids.length - (intOf v).toNat)
              case atStart => exact ⟨0, b3, Nat.zero_le _, rfl, by rw [left_start]; exact HK.out, HS.out⟩
              case round =>
                obtain ⟨i4, b4, hi4, rfl, hK4, hS4⟩ := hrel
                have HK4 : Hid (Kept b.S b4.S (leftI (decide (pickV turn 2 = 1)) i4 ids)) := hK4
                have HS4 : Hid (Sit w wr (w.heap.size + 2) B (m3 + i4) b4 v0 v1 (.slice ai ids.length ci) ((b.S 0).map Ly.o) ((b.S 1).map Ly.o) ids) := hS4
                clear hK4 HK HS
                by_cases hlt : i4 < ids.length
                · obtain ⟨gi, ci', hvi, _, _⟩ := hS4.ri.form (by omega)
                  simp only [Value.slice.injEq, true_and] at hvi
                  obtain ⟨hvi1, hvi2⟩ := hvi
                  subst hvi1
                  clear hvi2
                  have q0 : (0 : Int) ≤ (i4 : Int) := by omega
                  have q1 : (i4 : Int) < (ids.length : Int) := by omega
                  have cF := (hS4.ri.cellAt i4 (by omega)).trans (iV_at hlt)
                  have cB := (hS4.ri.cellAt (ids.length - 1 - i4) (by omega)).trans (iV_at (by omega))
                  have HX : Hid (nextI (decide (pickV turn 2 = 1)) i4 ids ∈ leftI (decide (pickV turn 2 = 1)) i4 ids ∧ ∀ j, j ∈ leftI (decide (pickV turn 2 = 1)) (i4 + 1) ids ↔ (j ∈ leftI (decide (pickV turn 2 = 1)) i4 ids ∧ j ≠ nextI (decide (pickV turn 2 = 1)) i4 ids)) := left_next HN.out hlt
                  clear hS4
                  go_wp2_with fail
                  refine (pick_is turn 2 _ (by omega)).mono ?_
                  rintro e w7 ⟨rfl, hw7⟩
                  subst hw7
                  by_cases hp : pickV turn 2 = 1
                  · have hnx : nextI (decide (pickV turn 2 = 1)) i4 ids = iAt ids (ids.length - 1 - i4) := by rw [decide_eq_true hp]; rfl
                    rw [hnx] at HX
                    go_wp2_with fail
                    refine (pbCancel_my HS4.out.my HK4.out (by omega) HX.out.1 HX.out.2).mono ?_
                    rintro e w8 ⟨o, b5, rfl, hK5, hg, _⟩
                    have HK5 : Hid _ := hK5
                    have HS5 : Hid _ := HS4.out.goes hg
                    clear hg hK5 HS4 HK4 cF cB
                    unfold Ord.agg
                    go_wp2_with fail
                    go_roundw
                    case rel => exact ⟨i4 + 1, b5, by omega, by go_num, HK5.out, HS5.out.below (bel1 _ _)⟩
                    case measure => simp [intOf]; omega
                  · have hnx : nextI (decide (pickV turn 2 = 1)) i4 ids = iAt ids i4 := by rw [decide_eq_false hp]; rfl
                    rw [hnx] at HX
                    go_wp2_with fail
                    refine (pbCancel_my HS4.out.my HK4.out (by omega) HX.out.1 HX.out.2).mono ?_
                    rintro e w8 ⟨o, b5, rfl, hK5, hg, _⟩
                    have HK5 : Hid _ := hK5
                    have HS5 : Hid _ := HS4.out.goes hg
                    clear hg hK5 HS4 HK4 cF cB
                    unfold Ord.agg
                    go_wp2_with fail
                    go_roundw
                    case rel => exact ⟨i4 + 1, b5, by omega, by go_num, HK5.out, HS5.out.below (bel1 _ _)⟩
                    case measure => simp [intOf]; omega
                · have hi4' : i4 = ids.length := by omega
                  subst hi4'
                  have hK5 : Kept b.S b4.S [] := by have := HK4.out; rwa [left_end] at this
                  have hsame : ∀ s, s < 2 → b4.S s = b.S s := fun s hs => hK5.done hs
                  clear hK5 HK4 hlt hi4 hS4
                  go_wp2_with fail
                  generalize m3 + ids.length = m4 at HS4
                  go_loopw [19] (fun v wx => ∃ s : Nat, s ≤ 2 ∧ v = .int .i64 s ∧ Sit w wx (w.heap.size + 2) B m4 b4 v0 v1 (.slice ai ids.length ci) ((b.S 0).map Ly.o) ((b.S 1).map Ly.o) ids) (fun v _ => 2 - (intOf v).toNat)
                  case atStart => exact ⟨0, by omega, rfl, HS4.out⟩
                  case round =>
                    obtain ⟨s, hs, rfl, hS5⟩ := hrel
                    have HS5 : Hid (Sit w wr (w.heap.size + 2) B m4 b4 v0 v1 (.slice ai ids.length ci) ((b.S 0).map Ly.o) ((b.S 1).map Ly.o) ids) := hS5
                    clear hS5 HS4
                    by_cases hlt : s < 2
                    · have q0 : (0 : Int) ≤ (s : Int) := by omega
                      have q1 : (s : Int) < 2 := by omega
                      have hl : ((b.S s).map Ly.o).length ≤ 1000 := by
                        have h1 := (pb_len b4.S [] hlt).2
                        have h2 := HS5.out.my.bk.ok.most
                        rw [List.length_map, ← hsame s hlt]
                        omega
                      go_wp2_with fail
                      refine (pbSideOf _ _ s b4 _ HS5.out.my.bk hlt _ (by go_num)).mono ?_
                      rintro e w5 ⟨v, rfl, hown, hb5⟩
                      have HS6 : Hid (Sit w w5 (w.heap.size + 2) B m4 b4 v0 v1 (.slice ai ids.length ci) ((b.S 0).map Ly.o) ((b.S 1).map Ly.o) ids) := HS5.out.below hb5
                      have hown' : w5.ownsRow wr.heap.size 43 5 v ((b.S s).map Ly.o).length (oV ((b.S s).map Ly.o)) := by
                        rw [hsame s hlt] at hown
                        rw [List.length_map]
                        exact hown
                      obtain ⟨av, cv, hv, _, _⟩ := owns_shape hown'
                      subst hv
                      obtain ⟨ao, co, hcell, hwas⟩ := HS6.out.side (S := b.S) hlt
                      clear hown hb5 HS5
                      generalize (b.S s).map Ly.o = l at hown' hwas hcell hl ⊢
                      have HO : Hid (w5.ownsRow wr.heap.size 43 5 (.slice av l.length cv) l.length (oV l)) := hown'
                      have HW : Hid (w5.ownsRow w.heap.size 43 5 (.slice ao l.length co) l.length (oV l)) := hwas
                      clear hown' hwas
                      go_wp2_with fail
                      go_loopw [22] (fun v wx => ∃ j : Nat, j ≤ l.length ∧ v = .int .i64 j ∧ Below w5.heap.size w5 wx) (fun v _ => l.length - (intOf v).toNat)
                      case atStart => exact ⟨0, Nat.zero_le _, rfl, Below.refl _ _⟩
                      case round =>
                        obtain ⟨j, hj, rfl, hb6⟩ := hrel
                        have HB6 : Hid (Below w5.heap.size w5 wr) := hb6
                        by_cases hjl : j < l.length
                        · obtain ⟨gv, cv', hev, c0, c1, c2, c3, c4⟩ := row_order (owns_below HO.out hb6 (Nat.le_refl _)) hjl
                          obtain ⟨go, co', heo, d0, d1, d2, d3, d4⟩ := row_order (owns_below HW.out hb6 (Nat.le_refl _)) hjl
                          simp only [Value.slice.injEq, true_and] at hev heo
                          obtain ⟨hev1, _⟩ := hev
                          obtain ⟨heo1, _⟩ := heo
                          subst hev1 heo1
                          have hcell' := cell_later hb6 hcell
                          have q2 : (0 : Int) ≤ (j : Int) := by omega
                          have q3 : (j : Int) < (l.length : Int) := by omega
                          clear hb6
                          go_wp2_with fail
                          go_region
                          go_wp2_with fail
                          go_roundw
                          case rel => exact ⟨j + 1, by omega, by go_num, by first | exact HB6.out.drew | exact below_drewN HB6.out _⟩
                          case measure => simp [intOf]; omega
                        · have q3 : ¬ (j : Int) < (l.length : Int) := by omega
                          go_wp2_with fail
                          go_roundw
                          case rel => exact ⟨s + 1, by omega, by go_num, HS6.out.below HB6.out⟩
                          case measure => simp [intOf]; omega
                    · have hs2 : s = 2 := by omega
                      subst hs2
                      go_wp2_with fail
                      refine (pbMany _ _ b4 _ HS5.out.my.bk).mono ?_
                      rintro e w6 ⟨rfl, hb6⟩
                      rw [hsame 0 (by decide), hsame 1 (by decide)]
                      have HB : Hid (Below w.heap.size w w6) := bel_then HS5.out.my.bel hb6
                      go_wp2_with fail
                      go_ret
                      exact ⟨rfl, HB.out⟩
end Go.Proofs.Ytcpijeehgdbjbaa
