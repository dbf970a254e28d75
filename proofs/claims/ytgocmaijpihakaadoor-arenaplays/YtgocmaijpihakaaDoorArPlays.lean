/-
  The law ArenaPlays, walked: whatever the number and the script are it returns true. Conditions stand in each theorem: where the script lies, the cell of errors.errorType (ErrT).
-/
import Derived.Test.YtgocmaijpihakaaDoorArLaw
import Derived.Test.YtgocmaijpihakaaDoorScript
namespace Go.Proofs.YtgocmaijpihakaaDoor.arenaPlays
open Go.RowKit

set_option maxRecDepth 4000 in
set_option maxHeartbeats 400000 in
theorem walk_long (most : Int) (a : Option Addr) (n cap : Nat) (w : World) (hn : 150 < n) :
    Calls Tryd.prog 5 #[.int .i64 most, .slice a n cap] w fun e w' => e = .returned (.bool true) ∧ Below w.heap.size w w' := by
  go_enter Tryd.func5, Tryd.ntmps5
  go_wp2_with fail
  go_ret
  exact ⟨rfl, Below.refl _ _⟩

set_option maxRecDepth 4000 in
set_option maxHeartbeats 400000 in
theorem walk_bad (most : Int) (a : Option Addr) (n cap : Nat) (w : World) (hn : n ≤ 150) (hm : most < 1 ∨ 1000 < most) (hg : ErrT w) :
    Calls Tryd.prog 5 #[.int .i64 most, .slice a n cap] w fun e w' => e = .returned (.bool true) ∧ Below w.heap.size w w' := by
  have HG : Hid (ErrT w) := hg
  clear hg
  rcases hm with hm | hm
  all_goals
    go_enter Tryd.func5, Tryd.ntmps5
    go_wp2_with fail
    refine (arNew_bad most _ (by omega)).mono ?_
    rintro e w1 ⟨rfl, hw⟩
    subst hw
    go_wp2_with fail
    refine (bare_yes _ 2 _ HG.out (Or.inr (Or.inl ⟨rfl, rfl⟩))).mono ?_
    rintro e w2 ⟨rfl, hb⟩
    have HB : Hid _ := hb
    clear hb
    go_wp2
    go_ret
    exact ⟨rfl, HB.out⟩

theorem thing_in (a : Int) : 0 ≤ wrap64 ((IntKind.u64.wrap a).tmod 1000) ∧ wrap64 ((IntKind.u64.wrap a).tmod 1000) < 1000 := by
  have h0 : 0 ≤ IntKind.u64.wrap a := by rw [IntKind.wrap_u64]; omega
  have h1 := Int.tmod_nonneg 1000 h0
  have h2 := Int.tmod_lt_of_pos (IntKind.u64.wrap a) (by decide : (0 : Int) < 1000)
  rw [IntWalk.wrap64_in ((IntKind.u64.wrap a).tmod 1000) (by omega)]
  exact ⟨h1, h2⟩

/-- both are new -/
theorem play_new (w : World) (most : Int) (h1 : 1 ≤ most) :
    Play w ((w.alloc (.cells #[.int .i64 most, .slice none 0 0, .slice none 0 0] 92)).alloc (.cells #[.slice none 0 0, .slice none 0 0, .slice none 0 0, .int .i64 most] 54)) w.heap.size (w.heap.size + 1) most 0 [] [] (.slice none 0 0) (.slice none 0 0) (.slice none 0 0) (.slice none 0 0) (.slice none 0 0) := by
  refine ⟨(arNew_is w most).below ((Below.refl _ _).alloc (Nat.le_refl _) _) (Nat.le_refl _), by simpa using slots_new (w.alloc (.cells #[.int .i64 most, .slice none 0 0, .slice none 0 0] 92)) most, Sl.start 0, by simp [cntS]; omega, ?_, ?_, ?_, ((Below.refl _ _).alloc (Nat.le_refl _) _).alloc (by simp) _⟩
  · rintro j (rfl | hj | hj) (hk | hk | hk | hk)
    all_goals first | omega | cases hj | cases hk
  · rintro j (rfl | hj | hj)
    all_goals first | exact Nat.le_refl _ | cases hj
  · rintro j (rfl | hj | hj | hj)
    all_goals first | omega | cases hj

set_option maxRecDepth 4000 in
set_option maxHeartbeats 40000000 in
theorem walk_rows (most : Int) (a : Option Addr) (b off len cap : Nat) (X : Nat → Nat → Int) (w : World) (ha : 0 < len → a = some ⟨b, off, none⟩) (hX : ∀ i, i < len → ∀ j, j < 4 → w.cell? ⟨b, off + i * 4 + j, none⟩ = some (.int .i64 (X i j))) (hn : len ≤ 150) (h1 : 1 ≤ most) (h2 : most ≤ 1000) (hg : ErrT w) :
    Calls Tryd.prog 5 #[.int .i64 most, .slice a len cap] w fun e w' => e = .returned (.bool true) ∧ Below w.heap.size w w' := by
  have HA : Hid (0 < len → a = some ⟨b, off, none⟩) := ha
  have HG : Hid (ErrT w) := hg
  have HX : Hid (∀ i, i < len → ∀ j, j < 4 → w.cell? ⟨b, off + i * 4 + j, none⟩ = some (.int .i64 (X i j))) := hX
  clear hg hX ha
  go_enter Tryd.func5, Tryd.ntmps5
  go_wp2_with fail
  refine (arNew_any most _ h1 h2).mono ?_
  rintro e w1 ⟨rfl, hw⟩
  subst hw
  go_wp2_with fail
  have HP : Hid _ := play_new w most h1
  go_loopw [8, 9] (fun n i wr => ∃ (k : Nat) (rs : List (Int × Int)) (fr : List Nat) (vs vf vt va vg : Value), k ≤ len ∧ i = .int .i64 k ∧ n = .int .i64 (cntS rs) ∧ Play w wr w.heap.size (w.heap.size + 1) most k rs fr vs vf vt va vg) (fun _ i _ => len - (intOf i).toNat)
  case atStart => exact ⟨0, [], [], _, _, _, _, _, Nat.zero_le _, rfl, rfl, HP.out⟩
  case round =>
    obtain ⟨k, rs, fr, vs, vf, vt, va, vg, hk, rfl, rfl, hp⟩ := hrel
    have HQ : Hid (Play w wr w.heap.size (w.heap.size + 1) most k rs fr vs vf vt va vg) := hp
    clear hp HP
    by_cases hk1 : k < len
    · obtain rfl := HA.out (by omega)
      have e0 := (HQ.out.below.cell (p := ⟨b, off + k * 4 + 0, none⟩) (World.block_lt_of_cell? w _ (HX.out k hk1 0 (by decide)))).trans (HX.out k hk1 0 (by decide))
      have e1 := (HQ.out.below.cell (p := ⟨b, off + k * 4 + 1, none⟩) (World.block_lt_of_cell? w _ (HX.out k hk1 1 (by decide)))).trans (HX.out k hk1 1 (by decide))
      have e2 := (HQ.out.below.cell (p := ⟨b, off + k * 4 + 2, none⟩) (World.block_lt_of_cell? w _ (HX.out k hk1 2 (by decide)))).trans (HX.out k hk1 2 (by decide))
      have e3 := (HQ.out.below.cell (p := ⟨b, off + k * 4 + 3, none⟩) (World.block_lt_of_cell? w _ (HX.out k hk1 3 (by decide)))).trans (HX.out k hk1 3 (by decide))
      rw [Nat.add_zero] at e0
      generalize X k 0 = what at e0
      generalize X k 1 = slot at e1
      generalize X k 2 = age at e2
      generalize X k 3 = is at e3
      go_wp2_with fail
      have hbq := ((Below.refl wr.heap.size wr).alloc (Nat.le_refl _) (.cells #[.int .i64 what, .int .i64 slot, .int .i64 age, .int .i64 is] 56)).alloc (by simp) (.cells #[.int .i64 slot, .int .i64 age] 58)
      have xq := two_old wr (.cells #[.int .i64 what, .int .i64 slot, .int .i64 age, .int .i64 is] 56) (.cells #[.int .i64 slot, .int .i64 age] 58)
      have yq := two_new wr (.cells #[.int .i64 what, .int .i64 slot, .int .i64 age, .int .i64 is] 56) (.cells #[.int .i64 slot, .int .i64 age] 58)
      generalize ((wr.alloc (.cells #[.int .i64 what, .int .i64 slot, .int .i64 age, .int .i64 is] 56)).alloc (.cells #[.int .i64 slot, .int .i64 age] 58)) = wq at hbq xq yq ⊢
      have HP : Hid (Play w wq w.heap.size (w.heap.size + 1) most k rs fr vs vf vt va vg) := HQ.out.still hbq (Nat.le_refl _)
      have HXQ : Hid (wq.heap[wr.heap.size]? = some (.cells #[.int .i64 what, .int .i64 slot, .int .i64 age, .int .i64 is] 56 (0, 0))) := xq
      have HYQ : Hid (wq.heap[wr.heap.size + 1]? = some (.cells #[.int .i64 slot, .int .i64 age] 58 (0, 0))) := yq
      have HKA : Hid (∀ j, arB w.heap.size vs vf j → j < wr.heap.size) := fun j hj => HQ.out.ar.lt hj
      have HKS : Hid (∀ j, slB (w.heap.size + 1) vt va vg j → j < wr.heap.size) := fun j hj => HQ.out.sl.lt hj
      clear hbq xq yq e0 e1 e2 e3 HQ
      have hl : rs.length ≤ 1000 := by have := HP.out.ok.small; omega
      have hcl : cntS rs ≤ 1000 := by have := cntS_le rs; omega
      refine (refHas _ most vt va vg rs fr slot age _ HP.out.sl hl).mono ?_
      rintro e w2 ⟨rfl, hw⟩
      subst hw
      have x0 := blk_cell (j := 0) HXQ.out rfl
      have x1 := blk_cell (j := 1) HXQ.out rfl
      have x2 := blk_cell (j := 2) HXQ.out rfl
      have x3 := blk_cell (j := 3) HXQ.out rfl
      have y0 := blk_cell (j := 0) HYQ.out rfl
      have y1 := blk_cell (j := 1) HYQ.out rfl
      obtain ⟨th, hth⟩ : ∃ th, wrap64 ((IntKind.u64.wrap is).tmod 1000) = th := ⟨_, rfl⟩
      have ht0 : 0 ≤ th := hth ▸ (thing_in is).1
      cases hh : hasS rs slot age with
      | false =>
        have HH : Hid (hasS rs slot age = false) := hh
        clear hh
        by_cases g0 : what = 0
        · subst g0
          go_wp2_with fail
          clear x0 x1 x2 x3 y0 y1
          by_cases hfull : most ≤ cntS rs
          · refine (refPut_full _ most vt va vg rs fr th _ HP.out.sl hl hfull).mono ?_
            rintro e w3 ⟨rfl, hw⟩
            subst hw
            go_wp2_with fail
            refine (arPut_full _ most vs vf rs fr th _ HP.out.ar hl (by have := HP.out.ok.cnt; omega) (by have := HP.out.ok.cnt; have := HP.out.cap; omega)).mono ?_
            rintro e w4 ⟨rfl, hb4⟩
            have HP4 : Hid (Play w (w4.alloc (.cells #[.int .i64 0, .int .i64 0] 58)) w.heap.size (w.heap.size + 1) most (k + 1) rs fr vs vf vt va vg) := (HP.out.still hb4 (Nat.le_succ k)).still ((Below.refl _ _).alloc (Nat.le_refl _) _) (Nat.le_refl _)
            clear hb4
            go_wp2_with fail
            refine (bare_yes _ 12 _ (HG.out.below HP4.out.below) (Or.inr (Or.inl ⟨rfl, rfl⟩))).mono ?_
            rintro e w5 ⟨rfl, hb5⟩
            have z := (hb5.block w4.heap.size (by simp)).trans (heap_alloc_new w4 _)
            have z0 := blk_cell (j := 0) z rfl
            have z1 := blk_cell (j := 1) z rfl
            have HP5 : Hid (Play w w5 w.heap.size (w.heap.size + 1) most (k + 1) rs fr vs vf vt va vg) := HP4.out.still hb5 (Nat.le_refl _)
            clear hb5 z HP4
            go_wp2_with fail
            refine (arMany_is _ most vs vf rs fr (cntS rs) _ HP5.out.ar hl rfl HP5.out.ok.cnt).mono ?_
            rintro e wz ⟨rfl, hbz⟩
            have HZ : Hid (Play w wz w.heap.size (w.heap.size + 1) most (k + 1) rs fr vs vf vt va vg) := HP5.out.still hbz (Nat.le_refl _)
            clear hbz
            go_wp2_with fail
            go_roundw
            case rel => exact ⟨k + 1, _, _, _, _, _, _, _, hk1, by go_num, rfl, HZ.out⟩
            case measure => simp [intOf]; omega
          · obtain ⟨k', rs1, fr1, hR, hk', hok', hcnt'⟩ := room_of (x := th) HP.out.ok ht0
            have HR : Hid _ := hR
            have HOK : Hid _ := hok'
            have HCN : Hid _ := hcnt'
            clear hR hok' hcnt'
            refine (refPut _ most vt va vg rs fr th k' rs1 fr1 _ HP.out.sl hl (by have := HP.out.ok.cnt; omega) hfull HR.out hk').mono ?_
            rintro e w3 ⟨rfl, vt', va', vg', s1, s2, s3⟩
            have S1 : Hid _ := s1
            have S2 : Hid _ := s2
            have S3 : Hid _ := s3
            clear s1 s2 s3
            go_wp2_with fail
            refine (arPut _ most vs vf rs fr th k' rs1 fr1 _ (HP.out.arena S2.out) hl (by have := HP.out.ok.cnt; omega) (by have := HP.out.ok.cnt; omega) HR.out hk' ht0).mono ?_
            rintro e w4 ⟨rfl, vs', vf', a1, a2, a3⟩
            have hp4 : Play w w4 w.heap.size (w.heap.size + 1) most (k + 1) (rs1.set k' (th, (slAt rs1 k').2)) fr1 vs' vf' vt' va' vg' := HP.out.step S2.out S3.out S1.out (Below.refl _ _) a2 a3 a1 HOK.out (by rw [HCN.out]; omega)
            have HP4 : Hid (Play w (w4.alloc (.cells #[.int .i64 k', .int .i64 (slAt rs1 k').2] 58)) w.heap.size (w.heap.size + 1) most (k + 1) (rs1.set k' (th, (slAt rs1 k').2)) fr1 vs' vf' vt' va' vg') := hp4.still ((Below.refl _ _).alloc (Nat.le_refl _) _) (Nat.le_refl _)
            clear a1 a2 a3 hp4 S1 S2 S3
            go_wp2_with fail
            refine (bare_yes _ 0 _ (HG.out.below HP4.out.below) (Or.inl ⟨rfl, rfl, rfl⟩)).mono ?_
            rintro e w5 ⟨rfl, hb5⟩
            have z := (hb5.block w4.heap.size (by simp)).trans (heap_alloc_new w4 _)
            have z0 := blk_cell (j := 0) z rfl
            have z1 := blk_cell (j := 1) z rfl
            have HP5 : Hid (Play w w5 w.heap.size (w.heap.size + 1) most (k + 1) (rs1.set k' (th, (slAt rs1 k').2)) fr1 vs' vf' vt' va' vg') := HP4.out.still hb5 (Nat.le_refl _)
            clear hb5 z HP4
            go_wp2_with fail
            refine (arMany_is _ most vs' vf' (rs1.set k' (th, (slAt rs1 k').2)) fr1 ((cntS rs : Int) + 1) _ HP5.out.ar (by have := HP5.out.ok.small; omega) (by rw [HCN.out]; omega) HP5.out.ok.cnt).mono ?_
            rintro e wz ⟨rfl, hbz⟩
            have HZ : Hid (Play w wz w.heap.size (w.heap.size + 1) most (k + 1) (rs1.set k' (th, (slAt rs1 k').2)) fr1 vs' vf' vt' va' vg') := HP5.out.still hbz (Nat.le_refl _)
            clear hbz
            go_wp2_with fail
            go_roundw
            case rel => exact ⟨k + 1, _, _, _, _, _, _, _, hk1, by go_num, by rw [HCN.out]; go_num, HZ.out⟩
            case measure => simp [intOf]; omega
        by_cases g1 : what = 1
        · subst g1
          go_wp2_with fail
          refine (arGet _ most vs vf rs fr slot age _ HP.out.ar).mono ?_
          rintro e w3 ⟨hb3, ⟨_, rfl⟩ | ⟨hh', _⟩⟩
          · have HP3 : Hid (Play w w3 w.heap.size (w.heap.size + 1) most (k + 1) rs fr vs vf vt va vg) := HP.out.still hb3 (Nat.le_succ k)
            clear hb3 x0 x1 x2 x3 y0 y1
            go_wp2_with fail
            refine (bare_yes _ 7 _ (HG.out.below HP3.out.below) (Or.inr (Or.inl ⟨rfl, rfl⟩))).mono ?_
            rintro e w4 ⟨rfl, hb4⟩
            have HP4 : Hid (Play w w4 w.heap.size (w.heap.size + 1) most (k + 1) rs fr vs vf vt va vg) := HP3.out.still hb4 (Nat.le_refl _)
            clear hb4 HP3
            go_wp2_with fail
            refine (arMany_is _ most vs vf rs fr (cntS rs) _ HP4.out.ar hl rfl HP4.out.ok.cnt).mono ?_
            rintro e wz ⟨rfl, hbz⟩
            have HZ : Hid (Play w wz w.heap.size (w.heap.size + 1) most (k + 1) rs fr vs vf vt va vg) := HP4.out.still hbz (Nat.le_refl _)
            clear hbz
            go_wp2_with fail
            go_roundw
            case rel => exact ⟨k + 1, _, _, _, _, _, _, _, hk1, by go_num, rfl, HZ.out⟩
            case measure => simp [intOf]; omega
          · exact absurd hh' (by rw [HH.out]; decide)
        by_cases g2 : what = 2
        · subst g2
          go_wp2_with fail
          refine (arSet _ most vs vf rs fr slot age th _ HP.out.ar ht0).mono ?_
          rintro e w3 (⟨_, rfl, hb3⟩ | ⟨hh', _⟩)
          · have HP3 : Hid (Play w w3 w.heap.size (w.heap.size + 1) most (k + 1) rs fr vs vf vt va vg) := HP.out.still hb3 (Nat.le_succ k)
            clear hb3 x0 x1 x2 x3 y0 y1
            go_wp2_with fail
            refine (bare_yes _ 7 _ (HG.out.below HP3.out.below) (Or.inr (Or.inl ⟨rfl, rfl⟩))).mono ?_
            rintro e w4 ⟨rfl, hb4⟩
            have HP4 : Hid (Play w w4 w.heap.size (w.heap.size + 1) most (k + 1) rs fr vs vf vt va vg) := HP3.out.still hb4 (Nat.le_refl _)
            clear hb4 HP3
            go_wp2_with fail
            refine (arMany_is _ most vs vf rs fr (cntS rs) _ HP4.out.ar hl rfl HP4.out.ok.cnt).mono ?_
            rintro e wz ⟨rfl, hbz⟩
            have HZ : Hid (Play w wz w.heap.size (w.heap.size + 1) most (k + 1) rs fr vs vf vt va vg) := HP4.out.still hbz (Nat.le_refl _)
            clear hbz
            go_wp2_with fail
            go_roundw
            case rel => exact ⟨k + 1, _, _, _, _, _, _, _, hk1, by go_num, rfl, HZ.out⟩
            case measure => simp [intOf]; omega
          · exact absurd hh' (by rw [HH.out]; decide)
        by_cases g3 : what = 3
        · subst g3
          go_wp2_with fail
          refine (arTake _ most vs vf rs fr slot age _ HP.out.ar hl (by have := HP.out.ok.cnt; omega) (fun i => by have := HP.out.ok.ages i; omega)).mono ?_
          rintro e w3 (⟨_, rfl, hb3⟩ | ⟨hh', _⟩)
          · have HP3 : Hid (Play w w3 w.heap.size (w.heap.size + 1) most (k + 1) rs fr vs vf vt va vg) := HP.out.still hb3 (Nat.le_succ k)
            clear hb3 x0 x1 x2 x3 y0 y1
            go_wp2_with fail
            refine (bare_yes _ 7 _ (HG.out.below HP3.out.below) (Or.inr (Or.inl ⟨rfl, rfl⟩))).mono ?_
            rintro e w4 ⟨rfl, hb4⟩
            have HP4 : Hid (Play w w4 w.heap.size (w.heap.size + 1) most (k + 1) rs fr vs vf vt va vg) := HP3.out.still hb4 (Nat.le_refl _)
            clear hb4 HP3
            go_wp2_with fail
            refine (arMany_is _ most vs vf rs fr (cntS rs) _ HP4.out.ar hl rfl HP4.out.ok.cnt).mono ?_
            rintro e wz ⟨rfl, hbz⟩
            have HZ : Hid (Play w wz w.heap.size (w.heap.size + 1) most (k + 1) rs fr vs vf vt va vg) := HP4.out.still hbz (Nat.le_refl _)
            clear hbz
            go_wp2_with fail
            go_roundw
            case rel => exact ⟨k + 1, _, _, _, _, _, _, _, hk1, by go_num, rfl, HZ.out⟩
            case measure => simp [intOf]; omega
          · exact absurd hh' (by rw [HH.out]; decide)
        have g0' : (what == 0) = false := beq_eq_false_iff_ne.2 g0
        have g1' : (what == 1) = false := beq_eq_false_iff_ne.2 g1
        have g2' : (what == 2) = false := beq_eq_false_iff_ne.2 g2
        have g3' : (what == 3) = false := beq_eq_false_iff_ne.2 g3
        clear g0 g1 g2 g3
        go_wp2_with fail
        have HP4 : Hid (Play w _ w.heap.size (w.heap.size + 1) most (k + 1) rs fr vs vf vt va vg) := HP.out.still (Below.refl _ _) (Nat.le_succ k)
        clear x0 x1 x2 x3 y0 y1
        refine (arMany_is _ most vs vf rs fr (cntS rs) _ HP4.out.ar hl rfl HP4.out.ok.cnt).mono ?_
        rintro e wz ⟨rfl, hbz⟩
        have HZ : Hid (Play w wz w.heap.size (w.heap.size + 1) most (k + 1) rs fr vs vf vt va vg) := HP4.out.still hbz (Nat.le_refl _)
        clear hbz
        go_wp2_with fail
        go_roundw
        case rel => exact ⟨k + 1, _, _, _, _, _, _, _, hk1, by go_num, rfl, HZ.out⟩
        case measure => simp [intOf]; omega
      | true =>
        have HH' : Hid (hasS rs slot age = true) := hh
        obtain ⟨j, rfl, hj, hfj, haj⟩ := hasS_iff.1 hh
        have HH : Hid (hasS rs j age = true) := HH'.out
        have HT : Hid (0 ≤ (slAt rs j).1 ∧ (slAt rs j).2 = age) := ⟨hfj, haj⟩
        clear hh hfj haj HH'
        obtain ⟨g, gc, g', gc', hvt, hva, d0, d1⟩ := HP.out.sl.slot hj
        have c0 := blk_cell (j := 0) HP.out.sl.box rfl
        have HV : Hid (vt = .slice (some ⟨g, 0, none⟩) rs.length gc) := hvt
        rw [hvt] at c0
        have q1 : (0 : Int) ≤ (j : Int) := by omega
        have q2 : (j : Int) < rs.length := by omega
        clear hvt hva d1
        go_wp2_with fail
        go_quiet (fail)
        have hbd := below_drewN (Below.refl w2.heap.size w2) nq
        have hpd := HP.out.still hbd (Nat.le_refl _)
        have xd := (hbd.block _ (lt_of_block HXQ.out)).trans HXQ.out
        have yd := (hbd.block _ (lt_of_block HYQ.out)).trans HYQ.out
        clear HP HXQ HYQ x0 x1 x2 x3 y0 y1 hbd c0 d0
        generalize w2.drewN nq = w2' at hpd xd yd ⊢
        have HP : Hid (Play w w2' w.heap.size (w.heap.size + 1) most k rs fr vs vf vt va vg) := hpd
        have HXQ : Hid _ := xd
        have HYQ : Hid _ := yd
        have x0 := blk_cell (j := 0) HXQ.out rfl
        have x1 := blk_cell (j := 1) HXQ.out rfl
        have x2 := blk_cell (j := 2) HXQ.out rfl
        have x3 := blk_cell (j := 3) HXQ.out rfl
        have y0 := blk_cell (j := 0) HYQ.out rfl
        have y1 := blk_cell (j := 1) HYQ.out rfl
        clear hpd xd yd
        by_cases g0 : what = 0
        · subst g0
          go_wp2_with fail
          clear x0 x1 x2 x3 y0 y1
          by_cases hfull : most ≤ cntS rs
          · refine (refPut_full _ most vt va vg rs fr th _ HP.out.sl hl hfull).mono ?_
            rintro e w3 ⟨rfl, hw⟩
            subst hw
            go_wp2_with fail
            refine (arPut_full _ most vs vf rs fr th _ HP.out.ar hl (by have := HP.out.ok.cnt; omega) (by have := HP.out.ok.cnt; have := HP.out.cap; omega)).mono ?_
            rintro e w4 ⟨rfl, hb4⟩
            have HP4 : Hid (Play w (w4.alloc (.cells #[.int .i64 0, .int .i64 0] 58)) w.heap.size (w.heap.size + 1) most (k + 1) rs fr vs vf vt va vg) := (HP.out.still hb4 (Nat.le_succ k)).still ((Below.refl _ _).alloc (Nat.le_refl _) _) (Nat.le_refl _)
            clear hb4
            go_wp2_with fail
            refine (bare_yes _ 12 _ (HG.out.below HP4.out.below) (Or.inr (Or.inl ⟨rfl, rfl⟩))).mono ?_
            rintro e w5 ⟨rfl, hb5⟩
            have z := (hb5.block w4.heap.size (by simp)).trans (heap_alloc_new w4 _)
            have z0 := blk_cell (j := 0) z rfl
            have z1 := blk_cell (j := 1) z rfl
            have HP5 : Hid (Play w w5 w.heap.size (w.heap.size + 1) most (k + 1) rs fr vs vf vt va vg) := HP4.out.still hb5 (Nat.le_refl _)
            clear hb5 z HP4
            go_wp2_with fail
            refine (arMany_is _ most vs vf rs fr (cntS rs) _ HP5.out.ar hl rfl HP5.out.ok.cnt).mono ?_
            rintro e wz ⟨rfl, hbz⟩
            have HZ : Hid (Play w wz w.heap.size (w.heap.size + 1) most (k + 1) rs fr vs vf vt va vg) := HP5.out.still hbz (Nat.le_refl _)
            clear hbz
            go_wp2_with fail
            go_roundw
            case rel => exact ⟨k + 1, _, _, _, _, _, _, _, hk1, by go_num, rfl, HZ.out⟩
            case measure => simp [intOf]; omega
          · obtain ⟨k', rs1, fr1, hR, hk', hok', hcnt'⟩ := room_of (x := th) HP.out.ok ht0
            have HR : Hid _ := hR
            have HOK : Hid _ := hok'
            have HCN : Hid _ := hcnt'
            clear hR hok' hcnt'
            refine (refPut _ most vt va vg rs fr th k' rs1 fr1 _ HP.out.sl hl (by have := HP.out.ok.cnt; omega) hfull HR.out hk').mono ?_
            rintro e w3 ⟨rfl, vt', va', vg', s1, s2, s3⟩
            have S1 : Hid _ := s1
            have S2 : Hid _ := s2
            have S3 : Hid _ := s3
            clear s1 s2 s3
            go_wp2_with fail
            refine (arPut _ most vs vf rs fr th k' rs1 fr1 _ (HP.out.arena S2.out) hl (by have := HP.out.ok.cnt; omega) (by have := HP.out.ok.cnt; omega) HR.out hk' ht0).mono ?_
            rintro e w4 ⟨rfl, vs', vf', a1, a2, a3⟩
            have hp4 : Play w w4 w.heap.size (w.heap.size + 1) most (k + 1) (rs1.set k' (th, (slAt rs1 k').2)) fr1 vs' vf' vt' va' vg' := HP.out.step S2.out S3.out S1.out (Below.refl _ _) a2 a3 a1 HOK.out (by rw [HCN.out]; omega)
            have HP4 : Hid (Play w (w4.alloc (.cells #[.int .i64 k', .int .i64 (slAt rs1 k').2] 58)) w.heap.size (w.heap.size + 1) most (k + 1) (rs1.set k' (th, (slAt rs1 k').2)) fr1 vs' vf' vt' va' vg') := hp4.still ((Below.refl _ _).alloc (Nat.le_refl _) _) (Nat.le_refl _)
            clear a1 a2 a3 hp4 S1 S2 S3
            go_wp2_with fail
            refine (bare_yes _ 0 _ (HG.out.below HP4.out.below) (Or.inl ⟨rfl, rfl, rfl⟩)).mono ?_
            rintro e w5 ⟨rfl, hb5⟩
            have z := (hb5.block w4.heap.size (by simp)).trans (heap_alloc_new w4 _)
            have z0 := blk_cell (j := 0) z rfl
            have z1 := blk_cell (j := 1) z rfl
            have HP5 : Hid (Play w w5 w.heap.size (w.heap.size + 1) most (k + 1) (rs1.set k' (th, (slAt rs1 k').2)) fr1 vs' vf' vt' va' vg') := HP4.out.still hb5 (Nat.le_refl _)
            clear hb5 z HP4
            go_wp2_with fail
            refine (arMany_is _ most vs' vf' (rs1.set k' (th, (slAt rs1 k').2)) fr1 ((cntS rs : Int) + 1) _ HP5.out.ar (by have := HP5.out.ok.small; omega) (by rw [HCN.out]; omega) HP5.out.ok.cnt).mono ?_
            rintro e wz ⟨rfl, hbz⟩
            have HZ : Hid (Play w wz w.heap.size (w.heap.size + 1) most (k + 1) (rs1.set k' (th, (slAt rs1 k').2)) fr1 vs' vf' vt' va' vg') := HP5.out.still hbz (Nat.le_refl _)
            clear hbz
            go_wp2_with fail
            go_roundw
            case rel => exact ⟨k + 1, _, _, _, _, _, _, _, hk1, by go_num, by rw [HCN.out]; go_num, HZ.out⟩
            case measure => simp [intOf]; omega
        by_cases g1 : what = 1
        · subst g1
          go_wp2_with fail
          refine (arGet _ most vs vf rs fr j age _ HP.out.ar).mono ?_
          rintro e w3 ⟨hb3, ⟨hh', _⟩ | ⟨_, j', hj', _, _, _, rfl⟩⟩
          · exact absurd hh' (by rw [HH.out]; decide)
          · obtain rfl : j = j' := by omega
            have HP3 : Hid (Play w w3 w.heap.size (w.heap.size + 1) most (k + 1) rs fr vs vf vt va vg) := HP.out.still hb3 (Nat.le_succ k)
            clear hb3 x0 x1 x2 x3 y0 y1 hj'
            go_wp2_with fail
            refine (bare_yes _ 0 _ (HG.out.below HP3.out.below) (Or.inl ⟨rfl, rfl, rfl⟩)).mono ?_
            rintro e w4 ⟨rfl, hb4⟩
            have HP4 : Hid (Play w w4 w.heap.size (w.heap.size + 1) most (k + 1) rs fr vs vf vt va vg) := HP3.out.still hb4 (Nat.le_refl _)
            clear hb4 HP3
            go_wp2_with fail
            refine (arMany_is _ most vs vf rs fr (cntS rs) _ HP4.out.ar hl rfl HP4.out.ok.cnt).mono ?_
            rintro e wz ⟨rfl, hbz⟩
            have HZ : Hid (Play w wz w.heap.size (w.heap.size + 1) most (k + 1) rs fr vs vf vt va vg) := HP4.out.still hbz (Nat.le_refl _)
            clear hbz
            go_wp2_with fail
            go_roundw
            case rel => exact ⟨k + 1, _, _, _, _, _, _, _, hk1, by go_num, rfl, HZ.out⟩
            case measure => simp [intOf]; omega
        by_cases g2 : what = 2
        · subst g2
          go_wp2_with fail
          have hts := HP.out.sl
          obtain ⟨g, gc, g', gc', rfl, rfl, d0, d1⟩ := hts.slot hj
          have c0 := blk_cell (j := 0) hts.box rfl
          have f0 := hts.things.frozenAt j
          have hng : wr.heap.size + 1 ≠ g := by have := HKS.out g (Or.inr (Or.inl rfl)); omega
          clear hts
          refine ar_tail 8 (by kernel_rfl) (by kernel_rfl) ?_
          simp only [List.take_succ_cons, List.take_zero, List.drop_succ_cons, List.drop_zero]
          repeat still_step
          try refine wpStill_nil ?_
          go_wp2_with fail
          obtain ⟨t1, t2⟩ := HP.out.sl.setThing (x := th) hj
          have s1 := t1.below (Below.refl (w2'.setCell ⟨g, j, none⟩ (.int .i64 th)).heap.size _).drew (Nat.le_refl _)
          have s2 := (t2.mono (S' := slB (w.heap.size + 1) (.slice (some ⟨g, 0, none⟩) rs.length gc) (.slice (some ⟨g', 0, none⟩) rs.length gc') vg) (fun i hi => Or.inr (Or.inl (by rw [hi]; rfl)))).trans (Out.of_below (Below.refl (w2'.setCell ⟨g, j, none⟩ (.int .i64 th)).heap.size _).drew (Nat.le_refl _)) (Went.refl _ _)
          clear t1 t2 d0 d1 c0 f0 x0 x1 x2 x3 y0 y1
          generalize (w2'.setCell ⟨g, j, none⟩ (.int .i64 th)).drew = w3 at s1 s2 ⊢
          have S1 : Hid _ := s1
          have S2 : Hid _ := s2
          clear s1 s2
          have HCN : Hid (cntS (rs.set j (th, (slAt rs j).2)) = cntS rs) := by
            have := cntS_set (th, (slAt rs j).2) hj
            rw [if_pos HT.out.1, if_pos ht0] at this
            exact Nat.add_right_cancel this
          refine (arSet _ most vs vf rs fr j age th _ (HP.out.arena S2.out) ht0).mono ?_
          rintro e w4 (⟨hh', _⟩ | ⟨_, j', hj', _, rfl, a1, a2⟩)
          · exact absurd hh' (by rw [HH.out]; decide)
          · obtain rfl : j = j' := by omega
            have HP4 : Hid (Play w w4 w.heap.size (w.heap.size + 1) most (k + 1) (rs.set j (th, (slAt rs j).2)) fr vs vf (.slice (some ⟨g, 0, none⟩) rs.length gc) (.slice (some ⟨g', 0, none⟩) rs.length gc') vg) := HP.out.step S2.out (Went.refl _ _) S1.out (Below.refl _ _) a2 (Went.refl _ _) a1 (HP.out.ok.set hj HT.out.1 ht0) (by rw [HCN.out]; exact HP.out.cap)
            clear a1 a2 hj'
            go_wp2_with fail
            refine (bare_yes _ 0 _ (HG.out.below HP4.out.below) (Or.inl ⟨rfl, rfl, rfl⟩)).mono ?_
            rintro e w5 ⟨rfl, hb5⟩
            have HP5 : Hid (Play w w5 w.heap.size (w.heap.size + 1) most (k + 1) (rs.set j (th, (slAt rs j).2)) fr vs vf (.slice (some ⟨g, 0, none⟩) rs.length gc) (.slice (some ⟨g', 0, none⟩) rs.length gc') vg) := HP4.out.still hb5 (Nat.le_refl _)
            clear hb5 HP4
            go_wp2_with fail
            refine (arMany_is _ most vs vf (rs.set j (th, (slAt rs j).2)) fr (cntS rs) _ HP5.out.ar (by have := HP5.out.ok.small; omega) (by rw [HCN.out]) HP5.out.ok.cnt).mono ?_
            rintro e wz ⟨rfl, hbz⟩
            have HZ : Hid (Play w wz w.heap.size (w.heap.size + 1) most (k + 1) (rs.set j (th, (slAt rs j).2)) fr vs vf (.slice (some ⟨g, 0, none⟩) rs.length gc) (.slice (some ⟨g', 0, none⟩) rs.length gc') vg) := HP5.out.still hbz (Nat.le_refl _)
            clear hbz
            go_wp2_with fail
            go_roundw
            case rel => exact ⟨k + 1, _, _, _, _, _, _, _, hk1, by go_num, by rw [HCN.out], HZ.out⟩
            case measure => simp [intOf]; omega
        by_cases g3 : what = 3
        · subst g3
          go_wp2_with fail
          refine (refFree _ most vt va vg rs fr j _ HP.out.sl hl (by have := HP.out.ok.cnt; omega) (by have := HP.out.ok.ages j; omega) hj).mono ?_
          rintro e w3 ⟨⟨xx, rfl⟩, vg', s1, s2, s3⟩
          have hy3 := (s2.block _ (lt_of_block HYQ.out) (fun hi => by have := HKS.out _ hi; omega)).trans HYQ.out
          have S1 : Hid _ := s1
          have S2 : Hid _ := s2
          have S3 : Hid _ := s3
          clear s1 s2 s3 x0 x1 x2 x3 y0 y1
          have y0 := blk_cell (j := 0) hy3 rfl
          have y1 := blk_cell (j := 1) hy3 rfl
          clear hy3
          have HCN : Hid ((cntS (rs.set j (-1, (slAt rs j).2 + 1)) : Int) = (cntS rs : Int) - 1) := by
            have := cntS_set (-1, (slAt rs j).2 + 1) hj
            rw [if_pos HT.out.1, if_neg (show ¬ (0 : Int) ≤ -1 by decide)] at this
            show ((cntS (rs.set j (-1, (slAt rs j).2 + 1)) : Nat) : Int) = (cntS rs : Int) - 1
            omega
          go_wp2_with fail
          refine (arTake _ most vs vf rs fr j age _ (HP.out.arena S2.out) hl (by have := HP.out.ok.cnt; omega) (fun i => by have := HP.out.ok.ages i; omega)).mono ?_
          rintro e w4 (⟨hh', _⟩ | ⟨_, j', hj', _, _, _, rfl, vf', a1, a2, a3⟩)
          · exact absurd hh' (by rw [HH.out]; decide)
          · obtain rfl : j = j' := by omega
            have HP4 : Hid (Play w w4 w.heap.size (w.heap.size + 1) most (k + 1) (rs.set j (-1, (slAt rs j).2 + 1)) (fr ++ [j]) vs vf' vt va vg') := HP.out.step S2.out S3.out S1.out (Below.refl _ _) a2 a3 a1 (HP.out.ok.take hj HT.out.1) (by rw [HCN.out]; have := HP.out.cap; omega)
            clear a1 a2 a3 hj' y0 y1
            go_wp2_with fail
            refine (bare_yes _ 0 _ (HG.out.below HP4.out.below) (Or.inl ⟨rfl, rfl, rfl⟩)).mono ?_
            rintro e w5 ⟨rfl, hb5⟩
            have HP5 : Hid (Play w w5 w.heap.size (w.heap.size + 1) most (k + 1) (rs.set j (-1, (slAt rs j).2 + 1)) (fr ++ [j]) vs vf' vt va vg') := HP4.out.still hb5 (Nat.le_refl _)
            clear hb5 HP4
            go_wp2_with fail
            refine (arMany_is _ most vs vf' (rs.set j (-1, (slAt rs j).2 + 1)) (fr ++ [j]) ((cntS rs : Int) - 1) _ HP5.out.ar (by have := HP5.out.ok.small; omega) HCN.out HP5.out.ok.cnt).mono ?_
            rintro e wz ⟨rfl, hbz⟩
            have HZ : Hid (Play w wz w.heap.size (w.heap.size + 1) most (k + 1) (rs.set j (-1, (slAt rs j).2 + 1)) (fr ++ [j]) vs vf' vt va vg') := HP5.out.still hbz (Nat.le_refl _)
            clear hbz
            go_wp2_with fail
            go_roundw
            case rel => exact ⟨k + 1, _, _, _, _, _, _, _, hk1, by go_num, by rw [HCN.out], HZ.out⟩
            case measure => simp [intOf]; omega
        have g0' : (what == 0) = false := beq_eq_false_iff_ne.2 g0
        have g1' : (what == 1) = false := beq_eq_false_iff_ne.2 g1
        have g2' : (what == 2) = false := beq_eq_false_iff_ne.2 g2
        have g3' : (what == 3) = false := beq_eq_false_iff_ne.2 g3
        clear g0 g1 g2 g3
        go_wp2_with fail
        have HP4 : Hid (Play w _ w.heap.size (w.heap.size + 1) most (k + 1) rs fr vs vf vt va vg) := HP.out.still (Below.refl _ _) (Nat.le_succ k)
        clear x0 x1 x2 x3 y0 y1
        refine (arMany_is _ most vs vf rs fr (cntS rs) _ HP4.out.ar hl rfl HP4.out.ok.cnt).mono ?_
        rintro e wz ⟨rfl, hbz⟩
        have HZ : Hid (Play w wz w.heap.size (w.heap.size + 1) most (k + 1) rs fr vs vf vt va vg) := HP4.out.still hbz (Nat.le_refl _)
        clear hbz
        go_wp2_with fail
        go_roundw
        case rel => exact ⟨k + 1, _, _, _, _, _, _, _, hk1, by go_num, rfl, HZ.out⟩
        case measure => simp [intOf]; omega
    · go_wp2
      go_ret
      exact ⟨rfl, HQ.out.below⟩
end Go.Proofs.YtgocmaijpihakaaDoor.arenaPlays
