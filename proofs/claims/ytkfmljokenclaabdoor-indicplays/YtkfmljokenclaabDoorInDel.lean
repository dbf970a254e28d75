/-
  What slices.Delete of one level does to a row of levels, and slices.Clone of such a row, over this seat's translation. Conditions stand in each theorem.
-/
import Derived.Test.YtkfmljokenclaabDoorInIns
namespace Go.Proofs.YtkfmljokenclaabDoor
open Go.RowKit Go.Shelf

theorem blk_setCells {g : Nat} {t : TypeId} : ∀ (vs : List Value) (o : Nat) (w : World) (cur : Array Value), w.heap[g]? = some (.cells cur t (0, 0)) → o + vs.length ≤ cur.size →
    (w.setCells g o vs).heap[g]? = some (.cells (cur.toList.take o ++ vs ++ cur.toList.drop (o + vs.length)).toArray t (0, 0))
  | [], o, w, cur, h, _ => by
    show w.heap[g]? = _
    rw [h]; simp
  | v :: vs, o, w, cur, h, hs => by
    show ((w.setCell ⟨g, o, none⟩ v).setCells g (o + 1) vs).heap[g]? = _
    rw [List.length_cons] at hs
    rw [blk_setCells vs (o + 1) _ _ (blk_set v h) (by simp; omega)]
    congr 2
    rw [Array.toList_setIfInBounds]
    congr 1
    rw [List.take_set, List.take_succ_eq_append_getElem (by simpa using (by omega : o < cur.size)), List.set_append_right _ _ (by rw [List.length_take]; omega), List.drop_set_of_lt (by omega)]
    have hL : cur.toList.length = cur.size := Array.length_toList
    have e : o - (cur.toList.take o).length = 0 := by rw [List.length_take]; omega
    rw [e]
    simp
    congr 1; omega
theorem out_setCells (g : Nat) : ∀ (vs : List Value) (o : Nat) (w : World), Out (fun j => j = g) w (w.setCells g o vs)
  | [], _, _ => Out.refl _ _
  | v :: vs, o, w => (out_set w ⟨g, o, none⟩ v).trans (out_setCells g vs (o + 1) _) (Went.refl _ _)

theorem Tryd.zeroL (w : World) : (zeroValue 67).run Tryd.prog w = .ok (.agg #[.int .i64 0, .int .i64 0, .int .i64 0, .int .i64 0]) w := by kernel_rfl
/-- clear of one level -/
theorem lvClear (W : World) (g o c : Nat) (cur : Array Value) (t : TypeId) (hg : W.heap[g]? = some (.cells cur t (0, 0))) (hfit : o + 4 ≤ cur.size) :
    ∃ W', (∀ ty, (Builtin.clear_ #[23] ty #[.slice (some ⟨g, o, none⟩) 1 c]).run Tryd.prog W = .ok (.tuple #[]) W')
      ∧ W'.heap[g]? = some (.cells (cur.toList.take o ++ [Value.int .i64 0, Value.int .i64 0, Value.int .i64 0, Value.int .i64 0] ++ cur.toList.drop (o + 4)).toArray t (0, 0)) ∧ Out (fun j => j = g) W W' := by
  refine ⟨W.setRow g (cur.toList.take o ++ [Value.int .i64 0, Value.int .i64 0, Value.int .i64 0, Value.int .i64 0] ++ cur.toList.drop (o + 4)).toArray, fun ty => ?_, setRow_heap W g _ _ t _ hg, ⟨rfl, rfl, rfl, by simp [World.setRow], fun j _ hj => setRow_other W g j _ hj⟩⟩
  have hst := run_storeCells_at Tryd.prog g o t [Value.int .i64 0, Value.int .i64 0, Value.int .i64 0, Value.int .i64 0] 0 cur W hg (by simpa using hfit) (by simp [Value.oneCell'])
  have hz := Tryd.zeroL W
  have hu := run_underlying (P := Tryd.prog) Tryd.underlying23 (w := W)
  simp only [Nat.add_zero, List.length_cons, List.length_nil, Nat.zero_add, Nat.reduceAdd] at hst
  simp [Builtin.clear_, hu, hz, Builtin.zeroCells, Value.cells]
  rw [show List.map (fun i => [Value.int .i64 0, Value.int .i64 0, Value.int .i64 0, Value.int .i64 0][i % 4]?.getD default) (List.range 4) = [Value.int .i64 0, Value.int .i64 0, Value.int .i64 0, Value.int .i64 0] from rfl, hst]
  simp

theorem erase_lvV {l : List Lv} {i : Nat} : lvV (l.eraseIdx i) = lvV (l.take i) ++ lvV (l.drop (i + 1)) := by rw [List.eraseIdx_eq_take_drop_succ, lvV_append]

set_option maxRecDepth 100000 in
set_option maxHeartbeats 4000000 in
theorem lvDel (g cap i : Nat) (l : List Lv) (w : World) (hr : w.ownsRow 0 67 4 (.slice (some ⟨g, 0, none⟩) l.length cap) l.length (lvV l)) (hl : l.length ≤ 1000) (hi : i < l.length) :
    Calls Tryd.prog 29 #[.slice (some ⟨g, 0, none⟩) l.length cap, .int .i64 i, .int .i64 ((i : Int) + 1)] w fun e w' => e = .returned (.slice (some ⟨g, 0, none⟩) (l.length - 1) cap)
      ∧ w'.ownsRow 0 67 4 (.slice (some ⟨g, 0, none⟩) (l.length - 1) cap) (l.length - 1) (lvV (l.eraseIdx i)) ∧ Out (fun j => j = g) w w' := by
  obtain ⟨i0, hi0, hz0, hzs, hzb⟩ := info_parts Tryd.infoL
  rcases hr.2 with ⟨h', _⟩ | ⟨g', cap', cur, h', _, hg, hnc, hcm, hcs, ht⟩
  · simp at h'
  simp only [Value.slice.injEq, Option.some.injEq, Addr.mk.injEq, and_true, true_and] at h'
  obtain ⟨rfl, rfl⟩ := h'
  clear hr
  unfold maxLen at hcm
  have hA : (lvV (l.take i)).length = i * 4 := by rw [lvV_length, List.length_take]; omega
  have hBl : (lvV (l.drop (i + 1))).length = (l.length - (i + 1)) * 4 := by rw [lvV_length, List.length_drop]
  have hcut : cur.toList.take (l.length * 4) = lvV l := ht
  have hgd : w.drew.heap[g]? = some (.cells cur 67 (0, 0)) := hg
  obtain ⟨A, hAd, hsrc⟩ : ∃ A : Addr, (if cap = i + 1 then some (⟨g, 0, none⟩ : Addr) else some ⟨g, (i + 1) * 4, none⟩) = some A ∧ Hid (∀ t u, (lvV (l.drop (i + 1)))[t]? = some u → w.drew.cell? (A.add t) = some u) := by
    by_cases h : cap = i + 1
    · refine ⟨⟨g, 0, none⟩, by simp [h], fun t u hu => ?_⟩
      have := (List.getElem?_eq_some_iff.1 hu).1
      omega
    · refine ⟨⟨g, (i + 1) * 4, none⟩, by simp [h], fun t u hu => ?_⟩
      have hlt := (List.getElem?_eq_some_iff.1 hu).1
      rw [Addr.add_lit]
      refine blk_cell hgd ?_
      have e1 : (cur.toList.take (l.length * 4))[(i + 1) * 4 + t]? = some u := by
        rw [hcut, lvV_split (i + 1) l, List.getElem?_append_right (by rw [lvV_length, List.length_take]; omega), lvV_length, List.length_take]
        rw [show (i + 1) * 4 + t - min (i + 1) l.length * 4 = t by omega]
        exact hu
      rw [List.getElem?_take_of_lt (by omega)] at e1
      rw [← Array.getElem?_toList]; exact e1
  have s3 : Hid (∀ t, t < (lvV (l.drop (i + 1))).length → (w.drew.cell? ⟨g, 0 + i * 4 + t, none⟩).isSome = true ∧ w.drew.frozen? ⟨g, 0 + i * 4 + t, none⟩ = false) := fun t ht' => by
    refine ⟨?_, blk_free hgd⟩
    have hlt : 0 + i * 4 + t < cur.size := by omega
    rw [blk_cell hgd (Array.getElem?_eq_getElem hlt)]; rfl
  have s1 : Hid ((lvV (l.drop (i + 1))).length = (l.length - (i + 1)) * 4) := hBl
  have s2 : Hid (∀ u ∈ lvV (l.drop (i + 1)), u.oneCell' = true) := lvV_one _
  have hg1 := blk_setCells (lvV (l.drop (i + 1))) (0 + i * 4) w.drew cur hgd (by omega)
  have ho1 := out_setCells g (lvV (l.drop (i + 1))) (0 + i * 4) w.drew
  obtain ⟨W1, hW1⟩ : ∃ W1, W1 = w.drew.setCells g (0 + i * 4) (lvV (l.drop (i + 1))) := ⟨_, rfl⟩
  rw [← hW1] at hg1 ho1
  have hW : Hid (W1 = w.drew.setCells g (0 + i * 4) (lvV (l.drop (i + 1)))) := hW1
  obtain ⟨cur1, hcur1⟩ : ∃ cur1 : Array Value, cur1 = (cur.toList.take (0 + i * 4) ++ lvV (l.drop (i + 1)) ++ cur.toList.drop (0 + i * 4 + (lvV (l.drop (i + 1))).length)).toArray := ⟨_, rfl⟩
  rw [← hcur1] at hg1
  have hcz : cur1.size = cap * 4 := by
    rw [hcur1]; simp [hBl]; omega
  obtain ⟨W2, hr2, hg2, ho2⟩ := lvClear W1 g ((l.length - 1) * 4) (cap - (l.length - 1)) cur1 67 hg1 (by omega)
  have HFIN : Hid (W2.ownsRow 0 67 4 (.slice (some ⟨g, 0, none⟩) (l.length - 1) cap) (l.length - 1) (lvV (l.eraseIdx i)) ∧ Out (fun j => j = g) w W2) := by
    refine ⟨⟨by rw [lvV_length, List.length_eraseIdx, if_pos hi], Or.inr ⟨g, cap, _, rfl, Nat.zero_le _, hg2, by omega, by unfold maxLen; omega, ?_, ?_⟩⟩, ?_⟩
    · simp [hcz]; omega
    · rw [List.append_assoc, List.take_append_of_le_length (by rw [List.length_take, Array.length_toList (xs := cur1)]; omega), List.take_take, Nat.min_self, hcur1, erase_lvV]
      show (cur.toList.take (0 + i * 4) ++ lvV (l.drop (i + 1)) ++ _).take _ = _
      rw [Nat.zero_add, List.take_append_of_le_length (by rw [List.length_append, List.length_take, Array.length_toList (xs := cur), hBl]; omega), List.take_of_length_le (by rw [List.length_append, List.length_take, Array.length_toList (xs := cur), hBl]; omega)]
      congr 1
      have := congrArg (List.take (i * 4)) hcut
      rw [List.take_take, Nat.min_eq_left (by omega)] at this
      rw [this, lvV_split i l, List.take_append_of_le_length (by omega), List.take_of_length_le (by omega)]
    · exact (Out.of_below (Below.refl w.heap.size w).drew (Nat.le_refl _)).trans (ho1.trans ho2 (Went.refl _ _)) (Went.refl _ _)
  clear hg1 hg2 ho1 ho2 hcut hA hBl hcur1 hcz hg hgd hcs ht hW1
  have q0 : IntKind.i64.wrap ((i : Int) + 1) = (i : Int) + 1 := IntWalk.i64_in _ (by omega)
  have q1 : (0 : Int) ≤ (i : Int) + 1 := by omega
  have q2 : i ≤ l.length := by omega
  have q3 : ((i : Int) + 1).toNat = i + 1 := by omega
  have q5 : (i : Int) + 1 ≤ (l.length : Int) := by omega
  have q6 : i ≤ cap := by omega
  have q7 : ((i : Int) == (i : Int) + 1) = false := beq_eq_false_iff_ne.2 (by omega)
  have q8 : i + 1 ≤ cap := by omega
  have q9 : i + (l.length - (i + 1)) = l.length - 1 := by omega
  have q10 : l.length - (l.length - 1) = 1 := by omega
  have q11 : ¬ cap = l.length - 1 := by omega
  go_enter Tryd.func29, Tryd.ntmps29
  go_wp2_with fail
  go_region_law (refine step_append_room rfl (.tmp 22) (.tmp 25) 23 rfl 67 i0 4 Tryd.underlying23 hi0 hzs g 0 i cap (by simp [Act.eval, Act.put]) A (l.length - (i + 1)) (cap - (i + 1)) (lvV (l.drop (i + 1))) (by simp [Act.eval, Act.put]) s1.out hsrc.out s2.out (by omega) s3.out ?_; rw [← hW.out, q9])
  go_wp2_with fail
  go_ret
  exact ⟨rfl, HFIN.out⟩

set_option maxRecDepth 100000 in
set_option maxHeartbeats 4000000 in
theorem lvClone (v : Value) (l : List Lv) (w : World) (hr : w.ownsRow 0 67 4 v l.length (lvV l)) (hl : l.length ≤ 1000) :
    Calls Tryd.prog 20 #[v] w fun e w' => ∃ v', e = .returned v' ∧ w'.ownsRow w.heap.size 67 4 v' l.length (lvV l) ∧ Below w.heap.size w w' := by
  obtain ⟨i0, hi0, hz0, hzs, hzb⟩ := info_parts Tryd.infoL
  have hu : ∀ (w : World) (a : Option Addr) (n c n' c' : Nat), (binOp .eql 23 (.slice a n c) (.slice none n' c')).run Tryd.prog w = .ok (.bool a.isNone) w := fun w a n c n' c' => Lib.run_eql_slice_nil w _ _ a n c n' c' Tryd.underlying23
  rcases hr.2 with ⟨rfl, h0⟩ | ⟨g, cap, cur, rfl, _, hg, hnc, hcm, hcs, ht⟩
  · obtain rfl : l = [] := List.length_eq_zero_iff.1 h0
    clear hr
    go_enter Tryd.func20, Tryd.ntmps20
    go_wp2
    go_ret
    exact ⟨_, rfl, World.ownsRow_nil _ _ _ _, Below.refl _ _⟩
  · have HC : Hid (∀ j u, (lvV l)[j]? = some u → w.cell? ⟨g, j, none⟩ = some u) := fun j u hj => by
      refine blk_cell hg ?_
      rw [← ht, List.getElem?_take] at hj
      split at hj
      · rw [← Array.getElem?_toList]; exact hj
      · cases hj
    clear hr hg hcs ht
    go_enter Tryd.func20, Tryd.ntmps20
    go_wp2_with (at_builtin; refine wpList_append_own _ rfl _ _ 23 rfl w.heap.size 67 i0 (.agg #[.int .i64 0, .int .i64 0, .int .i64 0, .int .i64 0]) 4 32 Tryd.underlying23 hi0 hz0 hzs hzb rfl (by decide) _ _ _ rfl (World.ownsRow_made w #[] 0 (Nat.le_refl _) (Nat.zero_le _) (by simp)) ⟨g, 0, none⟩ l.length cap (lvV l) rfl (lvV_length l) (fun j u hj => by rw [Addr.add_lit]; exact Lib.cell?_alloc_some _ (by simpa using HC.out j u hj)) (lvV_one l) (by unfold maxLen; omega) (by omega) (by simp) ?_; intro v' w1 hown hgrow hnil)
    go_ret
    refine ⟨v', rfl, by simpa using hown, ?_⟩
    exact ((Below.refl _ w).alloc (Nat.le_refl _) _).grown hgrow (by simp) (fun k hk => by have e : some w.heap.size = some k := hk; injection e with e; omega)
end Go.Proofs.YtkfmljokenclaabDoor
