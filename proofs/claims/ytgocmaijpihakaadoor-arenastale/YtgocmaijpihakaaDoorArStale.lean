/-
  The law ArenaStale, walked: whatever the number and the list are it returns true. Conditions stand in each theorem: where the list lies, the cell of errors.errorType (ErrT).
-/
import Derived.Test.YtgocmaijpihakaaDoorArSt
namespace Go.Proofs.YtgocmaijpihakaaDoor.arenaStale
open Go.RowKit

set_option maxRecDepth 4000 in
set_option maxHeartbeats 400000 in
theorem walk_long (most : Int) (a : Option Addr) (n cap : Nat) (w : World) (hn : 150 < n) :
    Calls Tryd.prog 6 #[.int .i64 most, .slice a n cap] w fun e w' => e = .returned (.bool true) ∧ Below w.heap.size w w' := by
  go_enter Tryd.func6, Tryd.ntmps6
  go_wp2_with fail
  go_ret
  exact ⟨rfl, Below.refl _ _⟩

theorem stale_new (w W : World) (most : Int) (h1 : 1 ≤ most) (hb : Below (w.heap.size + 1) (w.alloc (.cells #[.int .i64 most, .slice none 0 0, .slice none 0 0] 92)) W) :
    Stale w W w.heap.size most 0 [] [] (.slice none 0 0) (.slice none 0 0) [] [] (.slice none 0 0) (.slice none 0 0) := by
  refine ⟨⟨(arNew_is w most).below hb (by simp), World.ownsRow_nil _ _ _ _, World.ownsRow_nil _ _ _ _, ?_, ((Below.refl _ _).alloc (Nat.le_refl _) _).trans (hb.mono (by omega))⟩, Sl.start 0, St.start, Nat.le_refl _, by simp [cntS]; omega⟩
  rintro j (rfl | hj | hj)
  · exact Nat.le_refl _
  · cases hj
  · cases hj
theorem Tryd.infoHandle : (Tryd.prog.info? 58).map (fun i => (i.zero, i.size, i.bytes)) = some (some (.agg #[.int .i64 0, .int .i64 0]), 2, 16) := by kernel_rfl
theorem Tryd.infoBool : (Tryd.prog.info? 4).map (fun i => (i.zero, i.size, i.bytes)) = some (some (.bool false), 1, 1) := by kernel_rfl

set_option maxRecDepth 4000 in
set_option maxHeartbeats 40000000 in
theorem walk_rows (most : Int) (a : Option Addr) (b off len cap : Nat) (Z : Nat → Int) (w : World) (ha : 0 < len → a = some ⟨b, off, none⟩) (hZ : ∀ i, i < len → w.cell? ⟨b, off + i, none⟩ = some (.int .i64 (Z i))) (hn : len ≤ 150) (hg : ErrT w) :
    Calls Tryd.prog 6 #[.int .i64 most, .slice a len cap] w fun e w' => e = .returned (.bool true) ∧ Below w.heap.size w w' := by
  obtain ⟨iH, hiH, hH0, hH1, hH2⟩ := info_parts Tryd.infoHandle
  obtain ⟨iB, hiB, hB0, hB1, hB2⟩ := info_parts Tryd.infoBool
  have HA : Hid (0 < len → a = some ⟨b, off, none⟩) := ha
  have HG : Hid (ErrT w) := hg
  have HX : Hid (∀ i, i < len → w.cell? ⟨b, off + i, none⟩ = some (.int .i64 (Z i))) := hZ
  clear hg hZ ha
  go_enter Tryd.func6, Tryd.ntmps6
  go_wp2_with fail
  refine (pick_is most 20 _ (by omega)).mono ?_
  rintro e w0 ⟨rfl, hw⟩
  subst hw
  obtain ⟨hp0, hp1⟩ := pick_in most 20 (by omega)
  generalize pickV most 20 = p at hp0 hp1 ⊢
  go_wp2_with fail
  refine (arNew_any (1 + p) _ (by omega) (by omega)).mono ?_
  rintro e w1 ⟨rfl, hw⟩
  have HW : Hid (w1 = w0.alloc (.cells #[.int .i64 (1 + p), .slice none 0 0, .slice none 0 0] 92)) := hw
  clear hw
  go_wp2_with fail
  refine (given_yes w1 (by rw [HW.out]; exact HG.out.below ((Below.refl _ _).alloc (Nat.le_refl _) _))).mono ?_
  rintro e w2 ⟨rfl, hb2⟩
  have HP : Hid (Stale w0 w2 w0.heap.size (1 + p) 0 [] [] (.slice none 0 0) (.slice none 0 0) [] [] (.slice none 0 0) (.slice none 0 0)) := stale_new w0 w2 (1 + p) (by omega) (by rw [HW.out] at hb2; simpa using hb2)
  clear hb2 HW
  go_wp2_with fail
  go_loopw [7, 8, 9] (fun vh vb i wr => ∃ (k : Nat) (rs : List (Int × Int)) (fr : List Nat) (vs vf : Value) (hs : List (Nat × Int)) (ts : List Bool), k ≤ len ∧ i = .int .i64 k ∧ Stale w0 wr w0.heap.size (1 + p) k rs fr vs vf hs ts vh vb) (fun _ _ i _ => len - (intOf i).toNat)
  case atStart => exact ⟨0, [], [], _, _, [], [], Nat.zero_le _, rfl, HP.out⟩
  case round =>
    obtain ⟨k, rs, fr, vs, vf, hs, ts, hk, rfl, hp⟩ := hrel
    have HQ : Hid _ := hp
    obtain ⟨ho, hc, rfl, hc1, hc2⟩ := owns_shape hp.pile.h
    obtain ⟨bo, bc, rfl, hc3, hc4⟩ := owns_shape hp.pile.t
    clear hp HP hc1 hc2 hc3 hc4
    by_cases hk1 : k < len
    · obtain rfl := HA.out (by omega)
      have e0 := (HQ.out.pile.below.cell (p := ⟨b, off + k, none⟩) (World.block_lt_of_cell? _ _ (HX.out k hk1))).trans (HX.out k hk1)
      have hfew : hs.length ≤ 150 := by have := HQ.out.few; omega
      have hl : rs.length ≤ 150 := by have := HQ.out.ok.small; omega
      generalize Z k = z at e0
      go_wp2_with fail
      refine (pick_is z 3 _ (by omega)).mono ?_
      rintro e w3 ⟨rfl, hw⟩
      subst hw
      obtain ⟨hz0, hz1⟩ := pick_in z 3 (by omega)
      generalize pickV z 3 = y at hz0 hz1 ⊢
      by_cases hcase : y < 2
      · go_wp2_with fail
        by_cases hfull : (rs.length : Int) - fr.length = 1 + p
        · refine (arPut_full _ _ vs vf rs fr hs.length _ HQ.out.pile.ar (by omega) (by have := HQ.out.ok.cnt; omega) hfull).mono ?_
          rintro e w4 ⟨rfl, hb4⟩
          have HP5 : Hid (Stale w0 (w4.alloc (.cells #[.int .i64 0, .int .i64 0] 58)) w0.heap.size (1 + p) (k + 1) rs fr vs vf hs ts (.slice ho hs.length hc) (.slice bo hs.length bc)) := (HQ.out.still hb4 (Nat.le_succ k)).still ((Below.refl _ _).alloc (Nat.le_refl _) _) (Nat.le_refl _)
          clear hb4 e0
          go_wp2_with fail
          go_loopw [16, 17] (fun n iq wi => ∃ j : Nat, j ≤ hs.length ∧ iq = .int .i64 j ∧ n = .int .i64 (cntT (ts.take j)) ∧ Below (w4.alloc (.cells #[.int .i64 0, .int .i64 0] 58)).heap.size (w4.alloc (.cells #[.int .i64 0, .int .i64 0] 58)) wi) (fun _ iq _ => hs.length - (intOf iq).toNat)
          case atStart => exact ⟨0, Nat.zero_le _, rfl, rfl, Below.refl _ _⟩
          case round =>
            obtain ⟨j, hj, rfl, rfl, hbi⟩ := hrel
            have HI : Hid (Stale w0 wr w0.heap.size (1 + p) (k + 1) rs fr vs vf hs ts (.slice ho hs.length hc) (.slice bo hs.length bc)) := HP5.out.still hbi (Nat.le_refl _)
            have HBI : Hid (Below (w4.alloc (.cells #[.int .i64 0, .int .i64 0] 58)).heap.size (w4.alloc (.cells #[.int .i64 0, .int .i64 0] 58)) wr) := hbi
            clear hbi
            have hcj := cntT_le (ts.take j)
            simp only [List.length_take] at hcj
            by_cases hj1 : j < hs.length
            · obtain ⟨gh, ch, hvh, _, _⟩ := HI.out.pile.h.form (by omega)
              obtain ⟨gb, cb, hvb, _, _⟩ := HI.out.pile.t.form (by omega)
              simp only [Value.slice.injEq, true_and] at hvh hvb
              obtain ⟨rfl, rfl⟩ := hvh
              obtain ⟨rfl, rfl⟩ := hvb
              have h0 := (HI.out.pile.h.cellAt (j * 2) (by omega)).trans (hV_at hj1).1
              have h1 := (HI.out.pile.h.cellAt (j * 2 + 1) (by omega)).trans (hV_at hj1).2
              have t0 := (HI.out.pile.t.cellAt j (by omega)).trans (tV_at (by rw [HI.out.st.len]; exact hj1))
              have HC : Hid (cntT (ts.take (j + 1)) = cntT (ts.take j) + (if tAt ts j then 1 else 0)) := cntT_take (by rw [HI.out.st.len]; exact hj1)
              have HH : Hid (hasS rs (hAt hs j).1 (hAt hs j).2 = tAt ts j) := HI.out.st.has hj1
              have hl2 : hs.length ≤ 151 := by have := HI.out.few; omega
              have q1 : (0 : Int) ≤ (j : Int) := by omega
              have q2 : (j : Int) < hs.length := by omega
              have HY : Hid (tAt ts j = true → slAt rs (hAt hs j).1 = ((j : Int), (hAt hs j).2)) := HI.out.st.yes j hj1
              go_wp2_with fail
              refine (arGet _ _ vs vf rs fr (hAt hs j).1 (hAt hs j).2 _ HI.out.pile.ar).mono ?_
              cases ht : tAt ts j with
              | true =>
                rw [ht] at t0
                rintro e w9 ⟨hb9, ⟨hh', _⟩ | ⟨_, s', hsq', _, _, _, rfl⟩⟩
                · rw [HH.out, ht] at hh'; cases hh'
                obtain rfl : (hAt hs j).1 = s' := by omega
                rw [HY.out ht]
                have t9 := (hb9.cell (p := ⟨gb, j, none⟩) (World.block_lt_of_cell? _ _ t0)).trans t0
                have HB9 : Hid (Below (w4.alloc (.cells #[.int .i64 0, .int .i64 0] 58)).heap.size (w4.alloc (.cells #[.int .i64 0, .int .i64 0] 58)) w9) := HBI.out.trans (hb9.mono HBI.out.size)
                have HT : Hid (tAt ts j = true) := ht
                clear hb9 h0 h1 t0 hsq' ht
                go_wp2_with fail
                go_quiet (fail)
                go_wp2_with fail
                go_roundw
                case rel => exact ⟨j + 1, hj1, by go_num, by rw [HC.out, HT.out]; go_num, below_drewN HB9.out _⟩
                case measure => simp [intOf]; omega
              | false =>
                rw [ht] at t0
                rintro e w9 ⟨hb9, ⟨_, rfl⟩ | ⟨hh', _⟩⟩
                · have t9 := (hb9.cell (p := ⟨gb, j, none⟩) (World.block_lt_of_cell? _ _ t0)).trans t0
                  have HB9 : Hid (Below (w4.alloc (.cells #[.int .i64 0, .int .i64 0] 58)).heap.size (w4.alloc (.cells #[.int .i64 0, .int .i64 0] 58)) w9) := HBI.out.trans (hb9.mono HBI.out.size)
                  have HT : Hid (tAt ts j = false) := ht
                  clear hb9 h0 h1 t0 ht
                  go_wp2_with fail
                  go_quiet (fail)
                  go_wp2_with fail
                  go_roundw
                  case rel => exact ⟨j + 1, hj1, by go_num, by rw [HC.out, HT.out]; go_num, below_drewN HB9.out _⟩
                  case measure => simp [intOf]; omega
                · rw [HH.out, ht] at hh'; cases hh'
            · obtain rfl : j = hs.length := by omega
              rw [show ts.take hs.length = ts by rw [← HI.out.st.len]; exact List.take_length, HI.out.st.cnt]
              go_wp2_with fail
              refine (manyS _ _ vs vf rs fr _ HI.out.pile.ar (by have := HI.out.ok.small; omega) HI.out.ok.cnt).mono ?_
              rintro e wz ⟨rfl, hbz⟩
              have HZ : Hid (Stale w0 wz w0.heap.size (1 + p) (k + 1) rs fr vs vf hs ts (.slice ho hs.length hc) (.slice bo hs.length bc)) := HI.out.still hbz (Nat.le_refl _)
              clear hbz
              go_wp2_with fail
              go_roundw
              case rel => exact ⟨k + 1, _, _, _, _, _, _, hk1, by go_num, HZ.out⟩
              case measure => simp [intOf]; omega
        · obtain ⟨k', rs1, fr1, hR, hk', hok', hcnt'⟩ := roomS (x := (hs.length : Int)) HQ.out.ok (by omega)
          have HR : Hid _ := hR
          have HOK : Hid _ := hok'
          have HCN : Hid _ := hcnt'
          clear hR hok' hcnt'
          refine (arPut _ _ vs vf rs fr hs.length k' rs1 fr1 _ HQ.out.pile.ar (by omega) (by have := HQ.out.ok.cnt; omega) hfull HR.out hk' (by omega)).mono ?_
          rintro e w4 ⟨rfl, vs', vf', a1, a2, a3⟩
          have HP4 : Hid (Pile w0 w4 w0.heap.size (1 + p) (rs1.set k' ((hs.length : Int), (slAt rs1 k').2)) fr1 vs' vf' (.slice ho hs.length hc) hs.length (hV hs) (.slice bo hs.length bc) hs.length (tV ts)) := HQ.out.pile.arena a2 a3 a1
          have HST : Hid (St (rs1.set k' ((hs.length : Int), (slAt rs1 k').2)) (hs ++ [(k', (slAt rs1 k').2)]) (ts ++ [true])) := HQ.out.st.put HQ.out.ok HR.out hk' HCN.out
          have hcap : (cntS rs : Int) + 1 ≤ 1 + p := by have := HQ.out.cap; have := HQ.out.ok.cnt; omega
          clear a1 a2 a3 e0
          go_wp2_with (first | (at_builtin; refine wpList_append_lies _ rfl (.tmp 67) (.tmp 69) 70 rfl w0.heap.size 58 iH (.agg #[.int .i64 0, .int .i64 0]) 2 16 Tryd.underlying70 hiH hH0 hH1 hH2 rfl (by decide) (.slice ho hs.length hc) hs.length (hV hs) rfl ((HP4.out.h.alloc _).alloc _) ⟨w4.heap.size + 1, 0, none⟩ 1 1 [.int .i64 k', .int .i64 (slAt rs1 k').2] rfl rfl (World.news_of_block (cs := #[.int .i64 k', .int .i64 (slAt rs1 k').2]) (two_last w4 _ _)) (by simp [Value.oneCell']) (by decide) (by unfold maxLen; omega) (by omega) (Nat.le_trans HP4.out.below.size (two_below _ _ _).size) (w4.heap.size + 2) (by simp) ?_; intro gh ch w5 hoH hgH hatH hltH; have P5 : Hid _ := (HP4.out.still (two_below _ _ _)).pushH hoH hgH; clear hoH hgH hatH hltH) | (at_builtin; refine wpList_append_lies _ rfl (.tmp 71) (.tmp 72) 71 rfl w0.heap.size 4 iB (.bool false) 1 1 Tryd.underlying71 hiB hB0 hB1 hB2 rfl (by decide) (.slice bo hs.length bc) hs.length (tV ts) rfl (P5.out.t.alloc _) ⟨w5.heap.size, 0, none⟩ 1 1 [.bool true] rfl rfl (World.news_of_block (cs := #[.bool true]) (heap_alloc_new w5 _)) (by simp [Value.oneCell']) (by decide) (by unfold maxLen; omega) (by omega) (Nat.le_trans P5.out.below.size (by simp)) (w5.heap.size + 1) (by simp) ?_; intro gb cb w6 hoB hgB hatB hltB; have P6 : Hid _ := (P5.out.still ((Below.refl _ _).alloc (Nat.le_refl _) _)).pushT hoB hgB; clear hoB hgB hatB hltB))
          obtain ⟨hs', hhs⟩ : ∃ x, x = hs ++ [(k', (slAt rs1 k').2)] := ⟨_, rfl⟩
          have hlen' : hs'.length = hs.length + 1 := by rw [hhs]; simp
          have hp5 : Stale w0 w6 w0.heap.size (1 + p) (k + 1) (rs1.set k' ((hs.length : Int), (slAt rs1 k').2)) fr1 vs' vf' hs' (ts ++ [true]) (.slice (some ⟨gh, 0, none⟩) hs'.length ch) (.slice (some ⟨gb, 0, none⟩) hs'.length cb) := by
            refine ⟨?_, HOK.out, by rw [hhs]; exact HST.out, by have := HQ.out.few; omega, by rw [HCN.out]; exact hcap⟩
            rw [hlen', hhs, hV_append, tV_push]
            exact P6.out
          rw [← hlen']
          generalize (some (⟨gh, 0, none⟩ : Addr)) = ho' at hp5 ⊢
          generalize (some (⟨gb, 0, none⟩ : Addr)) = bo' at hp5 ⊢
          have HP5 : Hid _ := hp5
          clear hp5 hhs hlen' P5 P6 HP4 HST hcap
          go_wp2_with fail
          go_loopw [16, 17] (fun n iq wi => ∃ j : Nat, j ≤ hs'.length ∧ iq = .int .i64 j ∧ n = .int .i64 (cntT ((ts ++ [true]).take j)) ∧ Below w6.heap.size w6 wi) (fun _ iq _ => hs'.length - (intOf iq).toNat)
          case atStart => exact ⟨0, Nat.zero_le _, rfl, rfl, Below.refl _ _⟩
          case round =>
            obtain ⟨j, hj, rfl, rfl, hbi⟩ := hrel
            have HI : Hid (Stale w0 wr w0.heap.size (1 + p) (k + 1) (rs1.set k' ((hs.length : Int), (slAt rs1 k').2)) fr1 vs' vf' hs' (ts ++ [true]) (.slice ho' hs'.length ch) (.slice bo' hs'.length cb)) := HP5.out.still hbi (Nat.le_refl _)
            have HBI : Hid (Below w6.heap.size w6 wr) := hbi
            clear hbi
            have hcj := cntT_le ((ts ++ [true]).take j)
            simp only [List.length_take] at hcj
            by_cases hj1 : j < hs'.length
            · obtain ⟨gh, ch, hvh, _, _⟩ := HI.out.pile.h.form (by omega)
              obtain ⟨gb, cb, hvb, _, _⟩ := HI.out.pile.t.form (by omega)
              simp only [Value.slice.injEq, true_and] at hvh hvb
              obtain ⟨rfl, rfl⟩ := hvh
              obtain ⟨rfl, rfl⟩ := hvb
              have h0 := (HI.out.pile.h.cellAt (j * 2) (by omega)).trans (hV_at hj1).1
              have h1 := (HI.out.pile.h.cellAt (j * 2 + 1) (by omega)).trans (hV_at hj1).2
              have t0 := (HI.out.pile.t.cellAt j (by omega)).trans (tV_at (by rw [HI.out.st.len]; exact hj1))
              have HC : Hid (cntT ((ts ++ [true]).take (j + 1)) = cntT ((ts ++ [true]).take j) + (if tAt (ts ++ [true]) j then 1 else 0)) := cntT_take (by rw [HI.out.st.len]; exact hj1)
              have HH : Hid (hasS (rs1.set k' ((hs.length : Int), (slAt rs1 k').2)) (hAt hs' j).1 (hAt hs' j).2 = tAt (ts ++ [true]) j) := HI.out.st.has hj1
              have hl2 : hs'.length ≤ 151 := by have := HI.out.few; omega
              have q1 : (0 : Int) ≤ (j : Int) := by omega
              have q2 : (j : Int) < hs'.length := by omega
              have HY : Hid (tAt (ts ++ [true]) j = true → slAt (rs1.set k' ((hs.length : Int), (slAt rs1 k').2)) (hAt hs' j).1 = ((j : Int), (hAt hs' j).2)) := HI.out.st.yes j hj1
              go_wp2_with fail
              refine (arGet _ _ vs' vf' (rs1.set k' ((hs.length : Int), (slAt rs1 k').2)) fr1 (hAt hs' j).1 (hAt hs' j).2 _ HI.out.pile.ar).mono ?_
              cases ht : tAt (ts ++ [true]) j with
              | true =>
                rw [ht] at t0
                rintro e w9 ⟨hb9, ⟨hh', _⟩ | ⟨_, s', hsq', _, _, _, rfl⟩⟩
                · rw [HH.out, ht] at hh'; cases hh'
                obtain rfl : (hAt hs' j).1 = s' := by omega
                rw [HY.out ht]
                have t9 := (hb9.cell (p := ⟨gb, j, none⟩) (World.block_lt_of_cell? _ _ t0)).trans t0
                have HB9 : Hid (Below w6.heap.size w6 w9) := HBI.out.trans (hb9.mono HBI.out.size)
                have HT : Hid (tAt (ts ++ [true]) j = true) := ht
                clear hb9 h0 h1 t0 hsq' ht
                go_wp2_with fail
                go_quiet (fail)
                go_wp2_with fail
                go_roundw
                case rel => exact ⟨j + 1, hj1, by go_num, by rw [HC.out, HT.out]; go_num, below_drewN HB9.out _⟩
                case measure => simp [intOf]; omega
              | false =>
                rw [ht] at t0
                rintro e w9 ⟨hb9, ⟨_, rfl⟩ | ⟨hh', _⟩⟩
                · have t9 := (hb9.cell (p := ⟨gb, j, none⟩) (World.block_lt_of_cell? _ _ t0)).trans t0
                  have HB9 : Hid (Below w6.heap.size w6 w9) := HBI.out.trans (hb9.mono HBI.out.size)
                  have HT : Hid (tAt (ts ++ [true]) j = false) := ht
                  clear hb9 h0 h1 t0 ht
                  go_wp2_with fail
                  go_quiet (fail)
                  go_wp2_with fail
                  go_roundw
                  case rel => exact ⟨j + 1, hj1, by go_num, by rw [HC.out, HT.out]; go_num, below_drewN HB9.out _⟩
                  case measure => simp [intOf]; omega
                · rw [HH.out, ht] at hh'; cases hh'
            · obtain rfl : j = hs'.length := by omega
              rw [show (ts ++ [true]).take hs'.length = (ts ++ [true]) by rw [← HI.out.st.len]; exact List.take_length, HI.out.st.cnt]
              go_wp2_with fail
              refine (manyS _ _ vs' vf' (rs1.set k' ((hs.length : Int), (slAt rs1 k').2)) fr1 _ HI.out.pile.ar (by have := HI.out.ok.small; omega) HI.out.ok.cnt).mono ?_
              rintro e wz ⟨rfl, hbz⟩
              have HZ : Hid (Stale w0 wz w0.heap.size (1 + p) (k + 1) (rs1.set k' ((hs.length : Int), (slAt rs1 k').2)) fr1 vs' vf' hs' (ts ++ [true]) (.slice ho' hs'.length ch) (.slice bo' hs'.length cb)) := HI.out.still hbz (Nat.le_refl _)
              clear hbz
              go_wp2_with fail
              go_roundw
              case rel => exact ⟨k + 1, _, _, _, _, _, _, hk1, by go_num, HZ.out⟩
              case measure => simp [intOf]; omega
      by_cases hcase2 : hs.length = 0
      · have hd : ((hs.length : Int) == 0) = true := by simp [hcase2]
        have HD : Hid (hs.length = 0) := hcase2
        clear hcase2
        go_wp2_with fail
        by_cases hfull : (rs.length : Int) - fr.length = 1 + p
        · refine (arPut_full _ _ vs vf rs fr hs.length _ HQ.out.pile.ar (by omega) (by have := HQ.out.ok.cnt; omega) hfull).mono ?_
          rintro e w4 ⟨rfl, hb4⟩
          have HP5 : Hid (Stale w0 (w4.alloc (.cells #[.int .i64 0, .int .i64 0] 58)) w0.heap.size (1 + p) (k + 1) rs fr vs vf hs ts (.slice ho hs.length hc) (.slice bo hs.length bc)) := (HQ.out.still hb4 (Nat.le_succ k)).still ((Below.refl _ _).alloc (Nat.le_refl _) _) (Nat.le_refl _)
          clear hb4 e0
          go_wp2_with fail
          go_loopw [16, 17] (fun n iq wi => ∃ j : Nat, j ≤ hs.length ∧ iq = .int .i64 j ∧ n = .int .i64 (cntT (ts.take j)) ∧ Below (w4.alloc (.cells #[.int .i64 0, .int .i64 0] 58)).heap.size (w4.alloc (.cells #[.int .i64 0, .int .i64 0] 58)) wi) (fun _ iq _ => hs.length - (intOf iq).toNat)
          case atStart => exact ⟨0, Nat.zero_le _, rfl, rfl, Below.refl _ _⟩
          case round =>
            obtain ⟨j, hj, rfl, rfl, hbi⟩ := hrel
            have HI : Hid (Stale w0 wr w0.heap.size (1 + p) (k + 1) rs fr vs vf hs ts (.slice ho hs.length hc) (.slice bo hs.length bc)) := HP5.out.still hbi (Nat.le_refl _)
            have HBI : Hid (Below (w4.alloc (.cells #[.int .i64 0, .int .i64 0] 58)).heap.size (w4.alloc (.cells #[.int .i64 0, .int .i64 0] 58)) wr) := hbi
            clear hbi
            have hcj := cntT_le (ts.take j)
            simp only [List.length_take] at hcj
            by_cases hj1 : j < hs.length
            · obtain ⟨gh, ch, hvh, _, _⟩ := HI.out.pile.h.form (by omega)
              obtain ⟨gb, cb, hvb, _, _⟩ := HI.out.pile.t.form (by omega)
              simp only [Value.slice.injEq, true_and] at hvh hvb
              obtain ⟨rfl, rfl⟩ := hvh
              obtain ⟨rfl, rfl⟩ := hvb
              have h0 := (HI.out.pile.h.cellAt (j * 2) (by omega)).trans (hV_at hj1).1
              have h1 := (HI.out.pile.h.cellAt (j * 2 + 1) (by omega)).trans (hV_at hj1).2
              have t0 := (HI.out.pile.t.cellAt j (by omega)).trans (tV_at (by rw [HI.out.st.len]; exact hj1))
              have HC : Hid (cntT (ts.take (j + 1)) = cntT (ts.take j) + (if tAt ts j then 1 else 0)) := cntT_take (by rw [HI.out.st.len]; exact hj1)
              have HH : Hid (hasS rs (hAt hs j).1 (hAt hs j).2 = tAt ts j) := HI.out.st.has hj1
              have hl2 : hs.length ≤ 151 := by have := HI.out.few; omega
              have q1 : (0 : Int) ≤ (j : Int) := by omega
              have q2 : (j : Int) < hs.length := by omega
              have HY : Hid (tAt ts j = true → slAt rs (hAt hs j).1 = ((j : Int), (hAt hs j).2)) := HI.out.st.yes j hj1
              go_wp2_with fail
              refine (arGet _ _ vs vf rs fr (hAt hs j).1 (hAt hs j).2 _ HI.out.pile.ar).mono ?_
              cases ht : tAt ts j with
              | true =>
                rw [ht] at t0
                rintro e w9 ⟨hb9, ⟨hh', _⟩ | ⟨_, s', hsq', _, _, _, rfl⟩⟩
                · rw [HH.out, ht] at hh'; cases hh'
                obtain rfl : (hAt hs j).1 = s' := by omega
                rw [HY.out ht]
                have t9 := (hb9.cell (p := ⟨gb, j, none⟩) (World.block_lt_of_cell? _ _ t0)).trans t0
                have HB9 : Hid (Below (w4.alloc (.cells #[.int .i64 0, .int .i64 0] 58)).heap.size (w4.alloc (.cells #[.int .i64 0, .int .i64 0] 58)) w9) := HBI.out.trans (hb9.mono HBI.out.size)
                have HT : Hid (tAt ts j = true) := ht
                clear hb9 h0 h1 t0 hsq' ht
                go_wp2_with fail
                go_quiet (fail)
                go_wp2_with fail
                go_roundw
                case rel => exact ⟨j + 1, hj1, by go_num, by rw [HC.out, HT.out]; go_num, below_drewN HB9.out _⟩
                case measure => simp [intOf]; omega
              | false =>
                rw [ht] at t0
                rintro e w9 ⟨hb9, ⟨_, rfl⟩ | ⟨hh', _⟩⟩
                · have t9 := (hb9.cell (p := ⟨gb, j, none⟩) (World.block_lt_of_cell? _ _ t0)).trans t0
                  have HB9 : Hid (Below (w4.alloc (.cells #[.int .i64 0, .int .i64 0] 58)).heap.size (w4.alloc (.cells #[.int .i64 0, .int .i64 0] 58)) w9) := HBI.out.trans (hb9.mono HBI.out.size)
                  have HT : Hid (tAt ts j = false) := ht
                  clear hb9 h0 h1 t0 ht
                  go_wp2_with fail
                  go_quiet (fail)
                  go_wp2_with fail
                  go_roundw
                  case rel => exact ⟨j + 1, hj1, by go_num, by rw [HC.out, HT.out]; go_num, below_drewN HB9.out _⟩
                  case measure => simp [intOf]; omega
                · rw [HH.out, ht] at hh'; cases hh'
            · obtain rfl : j = hs.length := by omega
              rw [show ts.take hs.length = ts by rw [← HI.out.st.len]; exact List.take_length, HI.out.st.cnt]
              go_wp2_with fail
              refine (manyS _ _ vs vf rs fr _ HI.out.pile.ar (by have := HI.out.ok.small; omega) HI.out.ok.cnt).mono ?_
              rintro e wz ⟨rfl, hbz⟩
              have HZ : Hid (Stale w0 wz w0.heap.size (1 + p) (k + 1) rs fr vs vf hs ts (.slice ho hs.length hc) (.slice bo hs.length bc)) := HI.out.still hbz (Nat.le_refl _)
              clear hbz
              go_wp2_with fail
              go_roundw
              case rel => exact ⟨k + 1, _, _, _, _, _, _, hk1, by go_num, HZ.out⟩
              case measure => simp [intOf]; omega
        · obtain ⟨k', rs1, fr1, hR, hk', hok', hcnt'⟩ := roomS (x := (hs.length : Int)) HQ.out.ok (by omega)
          have HR : Hid _ := hR
          have HOK : Hid _ := hok'
          have HCN : Hid _ := hcnt'
          clear hR hok' hcnt'
          refine (arPut _ _ vs vf rs fr hs.length k' rs1 fr1 _ HQ.out.pile.ar (by omega) (by have := HQ.out.ok.cnt; omega) hfull HR.out hk' (by omega)).mono ?_
          rintro e w4 ⟨rfl, vs', vf', a1, a2, a3⟩
          have HP4 : Hid (Pile w0 w4 w0.heap.size (1 + p) (rs1.set k' ((hs.length : Int), (slAt rs1 k').2)) fr1 vs' vf' (.slice ho hs.length hc) hs.length (hV hs) (.slice bo hs.length bc) hs.length (tV ts)) := HQ.out.pile.arena a2 a3 a1
          have HST : Hid (St (rs1.set k' ((hs.length : Int), (slAt rs1 k').2)) (hs ++ [(k', (slAt rs1 k').2)]) (ts ++ [true])) := HQ.out.st.put HQ.out.ok HR.out hk' HCN.out
          have hcap : (cntS rs : Int) + 1 ≤ 1 + p := by have := HQ.out.cap; have := HQ.out.ok.cnt; omega
          clear a1 a2 a3 e0
          go_wp2_with (first | (at_builtin; refine wpList_append_lies _ rfl (.tmp 67) (.tmp 69) 70 rfl w0.heap.size 58 iH (.agg #[.int .i64 0, .int .i64 0]) 2 16 Tryd.underlying70 hiH hH0 hH1 hH2 rfl (by decide) (.slice ho hs.length hc) hs.length (hV hs) rfl ((HP4.out.h.alloc _).alloc _) ⟨w4.heap.size + 1, 0, none⟩ 1 1 [.int .i64 k', .int .i64 (slAt rs1 k').2] rfl rfl (World.news_of_block (cs := #[.int .i64 k', .int .i64 (slAt rs1 k').2]) (two_last w4 _ _)) (by simp [Value.oneCell']) (by decide) (by unfold maxLen; omega) (by omega) (Nat.le_trans HP4.out.below.size (two_below _ _ _).size) (w4.heap.size + 2) (by simp) ?_; intro gh ch w5 hoH hgH hatH hltH; have P5 : Hid _ := (HP4.out.still (two_below _ _ _)).pushH hoH hgH; clear hoH hgH hatH hltH) | (at_builtin; refine wpList_append_lies _ rfl (.tmp 71) (.tmp 72) 71 rfl w0.heap.size 4 iB (.bool false) 1 1 Tryd.underlying71 hiB hB0 hB1 hB2 rfl (by decide) (.slice bo hs.length bc) hs.length (tV ts) rfl (P5.out.t.alloc _) ⟨w5.heap.size, 0, none⟩ 1 1 [.bool true] rfl rfl (World.news_of_block (cs := #[.bool true]) (heap_alloc_new w5 _)) (by simp [Value.oneCell']) (by decide) (by unfold maxLen; omega) (by omega) (Nat.le_trans P5.out.below.size (by simp)) (w5.heap.size + 1) (by simp) ?_; intro gb cb w6 hoB hgB hatB hltB; have P6 : Hid _ := (P5.out.still ((Below.refl _ _).alloc (Nat.le_refl _) _)).pushT hoB hgB; clear hoB hgB hatB hltB))
          obtain ⟨hs', hhs⟩ : ∃ x, x = hs ++ [(k', (slAt rs1 k').2)] := ⟨_, rfl⟩
          have hlen' : hs'.length = hs.length + 1 := by rw [hhs]; simp
          have hp5 : Stale w0 w6 w0.heap.size (1 + p) (k + 1) (rs1.set k' ((hs.length : Int), (slAt rs1 k').2)) fr1 vs' vf' hs' (ts ++ [true]) (.slice (some ⟨gh, 0, none⟩) hs'.length ch) (.slice (some ⟨gb, 0, none⟩) hs'.length cb) := by
            refine ⟨?_, HOK.out, by rw [hhs]; exact HST.out, by have := HQ.out.few; omega, by rw [HCN.out]; exact hcap⟩
            rw [hlen', hhs, hV_append, tV_push]
            exact P6.out
          rw [← hlen']
          generalize (some (⟨gh, 0, none⟩ : Addr)) = ho' at hp5 ⊢
          generalize (some (⟨gb, 0, none⟩ : Addr)) = bo' at hp5 ⊢
          have HP5 : Hid _ := hp5
          clear hp5 hhs hlen' P5 P6 HP4 HST hcap
          go_wp2_with fail
          go_loopw [16, 17] (fun n iq wi => ∃ j : Nat, j ≤ hs'.length ∧ iq = .int .i64 j ∧ n = .int .i64 (cntT ((ts ++ [true]).take j)) ∧ Below w6.heap.size w6 wi) (fun _ iq _ => hs'.length - (intOf iq).toNat)
          case atStart => exact ⟨0, Nat.zero_le _, rfl, rfl, Below.refl _ _⟩
          case round =>
            obtain ⟨j, hj, rfl, rfl, hbi⟩ := hrel
            have HI : Hid (Stale w0 wr w0.heap.size (1 + p) (k + 1) (rs1.set k' ((hs.length : Int), (slAt rs1 k').2)) fr1 vs' vf' hs' (ts ++ [true]) (.slice ho' hs'.length ch) (.slice bo' hs'.length cb)) := HP5.out.still hbi (Nat.le_refl _)
            have HBI : Hid (Below w6.heap.size w6 wr) := hbi
            clear hbi
            have hcj := cntT_le ((ts ++ [true]).take j)
            simp only [List.length_take] at hcj
            by_cases hj1 : j < hs'.length
            · obtain ⟨gh, ch, hvh, _, _⟩ := HI.out.pile.h.form (by omega)
              obtain ⟨gb, cb, hvb, _, _⟩ := HI.out.pile.t.form (by omega)
              simp only [Value.slice.injEq, true_and] at hvh hvb
              obtain ⟨rfl, rfl⟩ := hvh
              obtain ⟨rfl, rfl⟩ := hvb
              have h0 := (HI.out.pile.h.cellAt (j * 2) (by omega)).trans (hV_at hj1).1
              have h1 := (HI.out.pile.h.cellAt (j * 2 + 1) (by omega)).trans (hV_at hj1).2
              have t0 := (HI.out.pile.t.cellAt j (by omega)).trans (tV_at (by rw [HI.out.st.len]; exact hj1))
              have HC : Hid (cntT ((ts ++ [true]).take (j + 1)) = cntT ((ts ++ [true]).take j) + (if tAt (ts ++ [true]) j then 1 else 0)) := cntT_take (by rw [HI.out.st.len]; exact hj1)
              have HH : Hid (hasS (rs1.set k' ((hs.length : Int), (slAt rs1 k').2)) (hAt hs' j).1 (hAt hs' j).2 = tAt (ts ++ [true]) j) := HI.out.st.has hj1
              have hl2 : hs'.length ≤ 151 := by have := HI.out.few; omega
              have q1 : (0 : Int) ≤ (j : Int) := by omega
              have q2 : (j : Int) < hs'.length := by omega
              have HY : Hid (tAt (ts ++ [true]) j = true → slAt (rs1.set k' ((hs.length : Int), (slAt rs1 k').2)) (hAt hs' j).1 = ((j : Int), (hAt hs' j).2)) := HI.out.st.yes j hj1
              go_wp2_with fail
              refine (arGet _ _ vs' vf' (rs1.set k' ((hs.length : Int), (slAt rs1 k').2)) fr1 (hAt hs' j).1 (hAt hs' j).2 _ HI.out.pile.ar).mono ?_
              cases ht : tAt (ts ++ [true]) j with
              | true =>
                rw [ht] at t0
                rintro e w9 ⟨hb9, ⟨hh', _⟩ | ⟨_, s', hsq', _, _, _, rfl⟩⟩
                · rw [HH.out, ht] at hh'; cases hh'
                obtain rfl : (hAt hs' j).1 = s' := by omega
                rw [HY.out ht]
                have t9 := (hb9.cell (p := ⟨gb, j, none⟩) (World.block_lt_of_cell? _ _ t0)).trans t0
                have HB9 : Hid (Below w6.heap.size w6 w9) := HBI.out.trans (hb9.mono HBI.out.size)
                have HT : Hid (tAt (ts ++ [true]) j = true) := ht
                clear hb9 h0 h1 t0 hsq' ht
                go_wp2_with fail
                go_quiet (fail)
                go_wp2_with fail
                go_roundw
                case rel => exact ⟨j + 1, hj1, by go_num, by rw [HC.out, HT.out]; go_num, below_drewN HB9.out _⟩
                case measure => simp [intOf]; omega
              | false =>
                rw [ht] at t0
                rintro e w9 ⟨hb9, ⟨_, rfl⟩ | ⟨hh', _⟩⟩
                · have t9 := (hb9.cell (p := ⟨gb, j, none⟩) (World.block_lt_of_cell? _ _ t0)).trans t0
                  have HB9 : Hid (Below w6.heap.size w6 w9) := HBI.out.trans (hb9.mono HBI.out.size)
                  have HT : Hid (tAt (ts ++ [true]) j = false) := ht
                  clear hb9 h0 h1 t0 ht
                  go_wp2_with fail
                  go_quiet (fail)
                  go_wp2_with fail
                  go_roundw
                  case rel => exact ⟨j + 1, hj1, by go_num, by rw [HC.out, HT.out]; go_num, below_drewN HB9.out _⟩
                  case measure => simp [intOf]; omega
                · rw [HH.out, ht] at hh'; cases hh'
            · obtain rfl : j = hs'.length := by omega
              rw [show (ts ++ [true]).take hs'.length = (ts ++ [true]) by rw [← HI.out.st.len]; exact List.take_length, HI.out.st.cnt]
              go_wp2_with fail
              refine (manyS _ _ vs' vf' (rs1.set k' ((hs.length : Int), (slAt rs1 k').2)) fr1 _ HI.out.pile.ar (by have := HI.out.ok.small; omega) HI.out.ok.cnt).mono ?_
              rintro e wz ⟨rfl, hbz⟩
              have HZ : Hid (Stale w0 wz w0.heap.size (1 + p) (k + 1) (rs1.set k' ((hs.length : Int), (slAt rs1 k').2)) fr1 vs' vf' hs' (ts ++ [true]) (.slice ho' hs'.length ch) (.slice bo' hs'.length cb)) := HI.out.still hbz (Nat.le_refl _)
              clear hbz
              go_wp2_with fail
              go_roundw
              case rel => exact ⟨k + 1, _, _, _, _, _, _, hk1, by go_num, HZ.out⟩
              case measure => simp [intOf]; omega
      have hd : ((hs.length : Int) == 0) = false := beq_eq_false_iff_ne.2 (by omega)
      go_wp2_with fail
      refine (pick_is _ hs.length _ (by omega)).mono ?_
      rintro e w4 ⟨rfl, hw⟩
      subst hw
      obtain ⟨hq0, hq1⟩ := pick_in (wrap64 (z.tdiv 3)) hs.length (by omega)
      generalize pickV (wrap64 (z.tdiv 3)) hs.length = q' at hq0 hq1 ⊢
      obtain ⟨q, rfl⟩ : ∃ q : Nat, q' = q := ⟨q'.toNat, by omega⟩
      have hq : q < hs.length := by omega
      obtain ⟨gh, ch, hvh, _, _⟩ := HQ.out.pile.h.form (by omega)
      obtain ⟨gb, cb, hvb, _, _⟩ := HQ.out.pile.t.form (by omega)
      simp only [Value.slice.injEq, true_and] at hvh hvb
      obtain ⟨rfl, rfl⟩ := hvh
      obtain ⟨rfl, rfl⟩ := hvb
      have h0 := (HQ.out.pile.h.cellAt (q * 2) (by omega)).trans (hV_at hq).1
      have h1 := (HQ.out.pile.h.cellAt (q * 2 + 1) (by omega)).trans (hV_at hq).2
      have HH : Hid (hasS rs (hAt hs q).1 (hAt hs q).2 = tAt ts q) := HQ.out.st.has hq
      have HY : Hid (tAt ts q = true → slAt rs (hAt hs q).1 = ((q : Int), (hAt hs q).2)) := HQ.out.st.yes q hq
      have hqt : q < ts.length := by rw [HQ.out.st.len]; exact hq
      have q1 : (0 : Int) ≤ (q : Int) := by omega
      have q2 : (q : Int) < hs.length := by omega
      clear e0
      go_wp2_with fail
      refine (arTake _ _ vs vf rs fr (hAt hs q).1 (hAt hs q).2 _ HQ.out.pile.ar (by omega) (by have := HQ.out.ok.cnt; omega) (fun i => by have := HQ.out.ok.ages i; omega)).mono ?_
      cases ht : tAt ts q with
      | true =>
        rintro e w5 (⟨hh', _⟩ | ⟨_, s', hs', hsl', _, _, rfl, vf', a1, a2, a3⟩)
        · rw [HH.out, ht] at hh'; cases hh'
        obtain rfl : (hAt hs q).1 = s' := by omega
        have p5 := HQ.out.pile.arena a2 a3 a1
        have t5 := (p5.t.cellAt q (by omega)).trans (tV_at hqt)
        have f5 := p5.t.frozenAt q
        rw [ht] at t5
        have HT : Hid (tAt ts q = true) := ht
        have P5 : Hid _ := p5
        rw [show (slAt rs (hAt hs q).1).1 = (q : Int) by rw [HY.out ht]]
        have hth : 0 ≤ (slAt rs (hAt hs q).1).1 := by rw [HY.out ht]; simp
        have HOK : Hid _ := HQ.out.ok.take hsl' hth
        clear a1 a2 a3 p5 ht h0 h1 hs' hth
        go_wp2_with fail
        go_quiet (fail)
        go_wp2_with fail
        obtain ⟨s1, s2⟩ := (P5.out.still (below_drewN (Below.refl _ _) nq)).t.stored q (.bool false)
        have p6 := (P5.out.still (below_drewN (Below.refl _ _) nq)).pushT s1 s2
        rw [← tV_set] at p6
        have hst := HQ.out.st.take hq HT.out
        have hp6 : Stale w0 ((w5.drewN nq).setCell ⟨gb, q, none⟩ (.bool false)) w0.heap.size (1 + p) (k + 1) (rs.set (hAt hs q).1 (-1, (slAt rs (hAt hs q).1).2 + 1)) (fr ++ [(hAt hs q).1]) vs vf' hs (ts.set q false) (.slice (some ⟨gh, 0, none⟩) hs.length hc) (.slice (some ⟨gb, 0, none⟩) hs.length bc) := by
          refine ⟨p6, HOK.out, hst, by have := HQ.out.few; omega, ?_⟩
          have c1 := hst.cnt
          have c2 := cntT_set hqt
          have c3 := HQ.out.st.cnt
          have c4 := HQ.out.cap
          rw [HT.out, if_pos rfl] at c2
          omega
        clear s1 s2 p6 hst t5 f5
        generalize (w5.drewN nq).setCell ⟨gb, q, none⟩ (.bool false) = w6 at hp6 ⊢
        generalize (some (⟨gh, 0, none⟩ : Addr)) = ho' at hp6 ⊢
        generalize (some (⟨gb, 0, none⟩ : Addr)) = bo' at hp6 ⊢
        have HP5 : Hid _ := hp6
        clear hp6 P5
        go_wp2_with fail
        go_loopw [16, 17] (fun n iq wi => ∃ j : Nat, j ≤ hs.length ∧ iq = .int .i64 j ∧ n = .int .i64 (cntT ((ts.set q false).take j)) ∧ Below w6.heap.size w6 wi) (fun _ iq _ => hs.length - (intOf iq).toNat)
        case atStart => exact ⟨0, Nat.zero_le _, rfl, rfl, Below.refl _ _⟩
        case round =>
          obtain ⟨j, hj, rfl, rfl, hbi⟩ := hrel
          have HI : Hid (Stale w0 wr w0.heap.size (1 + p) (k + 1) (rs.set (hAt hs q).1 (-1, (slAt rs (hAt hs q).1).2 + 1)) (fr ++ [(hAt hs q).1]) vs vf' hs (ts.set q false) (.slice ho' hs.length hc) (.slice bo' hs.length bc)) := HP5.out.still hbi (Nat.le_refl _)
          have HBI : Hid (Below w6.heap.size w6 wr) := hbi
          clear hbi
          have hcj := cntT_le ((ts.set q false).take j)
          simp only [List.length_take] at hcj
          by_cases hj1 : j < hs.length
          · obtain ⟨gh, ch, hvh, _, _⟩ := HI.out.pile.h.form (by omega)
            obtain ⟨gb, cb, hvb, _, _⟩ := HI.out.pile.t.form (by omega)
            simp only [Value.slice.injEq, true_and] at hvh hvb
            obtain ⟨rfl, rfl⟩ := hvh
            obtain ⟨rfl, rfl⟩ := hvb
            have h0 := (HI.out.pile.h.cellAt (j * 2) (by omega)).trans (hV_at hj1).1
            have h1 := (HI.out.pile.h.cellAt (j * 2 + 1) (by omega)).trans (hV_at hj1).2
            have t0 := (HI.out.pile.t.cellAt j (by omega)).trans (tV_at (by rw [HI.out.st.len]; exact hj1))
            have hc : Hid (cntT ((ts.set q false).take (j + 1)) = cntT ((ts.set q false).take j) + (if tAt (ts.set q false) j then 1 else 0)) := cntT_take (by rw [HI.out.st.len]; exact hj1)
            have HH : Hid (hasS (rs.set (hAt hs q).1 (-1, (slAt rs (hAt hs q).1).2 + 1)) (hAt hs j).1 (hAt hs j).2 = tAt (ts.set q false) j) := HI.out.st.has hj1
            have hl2 : hs.length ≤ 151 := by have := HI.out.few; omega
            have q1 : (0 : Int) ≤ (j : Int) := by omega
            have q2 : (j : Int) < hs.length := by omega
            have HY : Hid (tAt (ts.set q false) j = true → slAt (rs.set (hAt hs q).1 (-1, (slAt rs (hAt hs q).1).2 + 1)) (hAt hs j).1 = ((j : Int), (hAt hs j).2)) := HI.out.st.yes j hj1
            go_wp2_with fail
            refine (arGet _ _ vs vf' (rs.set (hAt hs q).1 (-1, (slAt rs (hAt hs q).1).2 + 1)) (fr ++ [(hAt hs q).1]) (hAt hs j).1 (hAt hs j).2 _ HI.out.pile.ar).mono ?_
            cases ht : tAt (ts.set q false) j with
            | true =>
              rw [ht] at t0
              rintro e w9 ⟨hb9, ⟨hh', _⟩ | ⟨_, s', hsq', _, _, _, rfl⟩⟩
              · rw [HH.out, ht] at hh'; cases hh'
              obtain rfl : (hAt hs j).1 = s' := by omega
              rw [HY.out ht]
              have t9 := (hb9.cell (p := ⟨gb, j, none⟩) (World.block_lt_of_cell? _ _ t0)).trans t0
              have HB9 : Hid (Below w6.heap.size w6 w9) := HBI.out.trans (hb9.mono HBI.out.size)
              have HT : Hid (tAt (ts.set q false) j = true) := ht
              clear hb9 h0 h1 t0 hsq' ht
              go_wp2_with fail
              go_quiet (fail)
              go_wp2_with fail
              go_roundw
              case rel => exact ⟨j + 1, hj1, by go_num, by rw [hc.out, HT.out]; go_num, below_drewN HB9.out _⟩
              case measure => simp [intOf]; omega
            | false =>
              rw [ht] at t0
              rintro e w9 ⟨hb9, ⟨_, rfl⟩ | ⟨hh', _⟩⟩
              · have t9 := (hb9.cell (p := ⟨gb, j, none⟩) (World.block_lt_of_cell? _ _ t0)).trans t0
                have HB9 : Hid (Below w6.heap.size w6 w9) := HBI.out.trans (hb9.mono HBI.out.size)
                have HT : Hid (tAt (ts.set q false) j = false) := ht
                clear hb9 h0 h1 t0 ht
                go_wp2_with fail
                go_quiet (fail)
                go_wp2_with fail
                go_roundw
                case rel => exact ⟨j + 1, hj1, by go_num, by rw [hc.out, HT.out]; go_num, below_drewN HB9.out _⟩
                case measure => simp [intOf]; omega
              · rw [HH.out, ht] at hh'; cases hh'
          · obtain rfl : j = hs.length := by omega
            rw [show (ts.set q false).take hs.length = (ts.set q false) by rw [← HI.out.st.len]; exact List.take_length, HI.out.st.cnt]
            go_wp2_with fail
            refine (manyS _ _ vs vf' (rs.set (hAt hs q).1 (-1, (slAt rs (hAt hs q).1).2 + 1)) (fr ++ [(hAt hs q).1]) _ HI.out.pile.ar (by have := HI.out.ok.small; omega) HI.out.ok.cnt).mono ?_
            rintro e wz ⟨rfl, hbz⟩
            have HZ : Hid (Stale w0 wz w0.heap.size (1 + p) (k + 1) (rs.set (hAt hs q).1 (-1, (slAt rs (hAt hs q).1).2 + 1)) (fr ++ [(hAt hs q).1]) vs vf' hs (ts.set q false) (.slice ho' hs.length hc) (.slice bo' hs.length bc)) := HI.out.still hbz (Nat.le_refl _)
            clear hbz
            go_wp2_with fail
            go_roundw
            case rel => exact ⟨k + 1, _, _, _, _, _, _, hk1, by go_num, HZ.out⟩
            case measure => simp [intOf]; omega
      | false =>
        rintro e w5 (⟨_, rfl, hb5⟩ | ⟨hh', _⟩)
        · have p5 := HQ.out.pile.still hb5
          have t5 := (p5.t.cellAt q (by omega)).trans (tV_at hqt)
          have f5 := p5.t.frozenAt q
          rw [ht] at t5
          have HT : Hid (tAt ts q = false) := ht
          have P5 : Hid _ := p5
          clear hb5 p5 ht h0 h1
          go_wp2_with fail
          go_quiet (fail)
          go_wp2_with fail
          obtain ⟨s1, s2⟩ := (P5.out.still (below_drewN (Below.refl _ _) nq)).t.stored q (.bool false)
          have p6 := (P5.out.still (below_drewN (Below.refl _ _) nq)).pushT s1 s2
          rw [← tV_set, set_false HT.out] at p6
          have hp6 : Stale w0 ((w5.drewN nq).setCell ⟨gb, q, none⟩ (.bool false)) w0.heap.size (1 + p) (k + 1) rs fr vs vf hs ts (.slice (some ⟨gh, 0, none⟩) hs.length hc) (.slice (some ⟨gb, 0, none⟩) hs.length bc) :=
            ⟨p6, HQ.out.ok.more (Nat.le_succ k), HQ.out.st, by have := HQ.out.few; omega, HQ.out.cap⟩
          clear s1 s2 p6 t5 f5
          generalize (w5.drewN nq).setCell ⟨gb, q, none⟩ (.bool false) = w6 at hp6 ⊢
          generalize (some (⟨gh, 0, none⟩ : Addr)) = ho' at hp6 ⊢
          generalize (some (⟨gb, 0, none⟩ : Addr)) = bo' at hp6 ⊢
          have HP5 : Hid _ := hp6
          clear hp6 P5
          go_wp2_with fail
          go_loopw [16, 17] (fun n iq wi => ∃ j : Nat, j ≤ hs.length ∧ iq = .int .i64 j ∧ n = .int .i64 (cntT (ts.take j)) ∧ Below w6.heap.size w6 wi) (fun _ iq _ => hs.length - (intOf iq).toNat)
          case atStart => exact ⟨0, Nat.zero_le _, rfl, rfl, Below.refl _ _⟩
          case round =>
            obtain ⟨j, hj, rfl, rfl, hbi⟩ := hrel
            have HI : Hid (Stale w0 wr w0.heap.size (1 + p) (k + 1) rs fr vs vf hs ts (.slice ho' hs.length hc) (.slice bo' hs.length bc)) := HP5.out.still hbi (Nat.le_refl _)
            have HBI : Hid (Below w6.heap.size w6 wr) := hbi
            clear hbi
            have hcj := cntT_le (ts.take j)
            simp only [List.length_take] at hcj
            by_cases hj1 : j < hs.length
            · obtain ⟨gh, ch, hvh, _, _⟩ := HI.out.pile.h.form (by omega)
              obtain ⟨gb, cb, hvb, _, _⟩ := HI.out.pile.t.form (by omega)
              simp only [Value.slice.injEq, true_and] at hvh hvb
              obtain ⟨rfl, rfl⟩ := hvh
              obtain ⟨rfl, rfl⟩ := hvb
              have h0 := (HI.out.pile.h.cellAt (j * 2) (by omega)).trans (hV_at hj1).1
              have h1 := (HI.out.pile.h.cellAt (j * 2 + 1) (by omega)).trans (hV_at hj1).2
              have t0 := (HI.out.pile.t.cellAt j (by omega)).trans (tV_at (by rw [HI.out.st.len]; exact hj1))
              have hc : Hid (cntT (ts.take (j + 1)) = cntT (ts.take j) + (if tAt ts j then 1 else 0)) := cntT_take (by rw [HI.out.st.len]; exact hj1)
              have HH : Hid (hasS rs (hAt hs j).1 (hAt hs j).2 = tAt ts j) := HI.out.st.has hj1
              have hl2 : hs.length ≤ 151 := by have := HI.out.few; omega
              have q1 : (0 : Int) ≤ (j : Int) := by omega
              have q2 : (j : Int) < hs.length := by omega
              have HY : Hid (tAt ts j = true → slAt rs (hAt hs j).1 = ((j : Int), (hAt hs j).2)) := HI.out.st.yes j hj1
              go_wp2_with fail
              refine (arGet _ _ vs vf rs fr (hAt hs j).1 (hAt hs j).2 _ HI.out.pile.ar).mono ?_
              cases ht : tAt ts j with
              | true =>
                rw [ht] at t0
                rintro e w9 ⟨hb9, ⟨hh', _⟩ | ⟨_, s', hsq', _, _, _, rfl⟩⟩
                · rw [HH.out, ht] at hh'; cases hh'
                obtain rfl : (hAt hs j).1 = s' := by omega
                rw [HY.out ht]
                have t9 := (hb9.cell (p := ⟨gb, j, none⟩) (World.block_lt_of_cell? _ _ t0)).trans t0
                have HB9 : Hid (Below w6.heap.size w6 w9) := HBI.out.trans (hb9.mono HBI.out.size)
                have HT : Hid (tAt ts j = true) := ht
                clear hb9 h0 h1 t0 hsq' ht
                go_wp2_with fail
                go_quiet (fail)
                go_wp2_with fail
                go_roundw
                case rel => exact ⟨j + 1, hj1, by go_num, by rw [hc.out, HT.out]; go_num, below_drewN HB9.out _⟩
                case measure => simp [intOf]; omega
              | false =>
                rw [ht] at t0
                rintro e w9 ⟨hb9, ⟨_, rfl⟩ | ⟨hh', _⟩⟩
                · have t9 := (hb9.cell (p := ⟨gb, j, none⟩) (World.block_lt_of_cell? _ _ t0)).trans t0
                  have HB9 : Hid (Below w6.heap.size w6 w9) := HBI.out.trans (hb9.mono HBI.out.size)
                  have HT : Hid (tAt ts j = false) := ht
                  clear hb9 h0 h1 t0 ht
                  go_wp2_with fail
                  go_quiet (fail)
                  go_wp2_with fail
                  go_roundw
                  case rel => exact ⟨j + 1, hj1, by go_num, by rw [hc.out, HT.out]; go_num, below_drewN HB9.out _⟩
                  case measure => simp [intOf]; omega
                · rw [HH.out, ht] at hh'; cases hh'
            · obtain rfl : j = hs.length := by omega
              rw [show ts.take hs.length = ts by rw [← HI.out.st.len]; exact List.take_length, HI.out.st.cnt]
              go_wp2_with fail
              refine (manyS _ _ vs vf rs fr _ HI.out.pile.ar (by have := HI.out.ok.small; omega) HI.out.ok.cnt).mono ?_
              rintro e wz ⟨rfl, hbz⟩
              have HZ : Hid (Stale w0 wz w0.heap.size (1 + p) (k + 1) rs fr vs vf hs ts (.slice ho' hs.length hc) (.slice bo' hs.length bc)) := HI.out.still hbz (Nat.le_refl _)
              clear hbz
              go_wp2_with fail
              go_roundw
              case rel => exact ⟨k + 1, _, _, _, _, _, _, hk1, by go_num, HZ.out⟩
              case measure => simp [intOf]; omega
        · rw [HH.out, ht] at hh'; cases hh'
    · go_wp2
      go_ret
      exact ⟨rfl, HQ.out.pile.below⟩
end Go.Proofs.YtgocmaijpihakaaDoor.arenaStale
