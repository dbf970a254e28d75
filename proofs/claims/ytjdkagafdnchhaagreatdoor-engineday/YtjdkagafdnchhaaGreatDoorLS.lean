/-
  What slices.Delete of one order does to a row of orders, slices.Clone of such a row, and slices.IndexFunc by number, over this seat's translation. Conditions stand in each theorem.
-/
import Derived.Test.YtjdkagafdnchhaaGreatDoorLM
import Derived.Shelf.Spec.SlicesInsert
import Derived.Lib.AppendZerosOnto
import Derived.Lib.Overlaps
import Derived.Deep.RegionLaw
import Derived.Test.YtjdkagafdnchhaaGreatDoorLP
import Derived.Test.YtjdkagafdnchhaaGreatDoorLQ
import Derived.Test.YtjdkagafdnchhaaGreatDoorLR
import Derived.Test.YtjdkagafdnchhaaGreatDoorLI
import Derived.Test.YtjdkagafdnchhaaGreatDoorLJ
import Derived.Maps.Own
import Derived.WideKeyEntry
namespace Go.Proofs.YtjdkagafdnchhaaGreatDoor
open Go.RowKit Go.Shelf

theorem blk_setCellsE {g : Nat} {t : TypeId} : ∀ (vs : List Value) (o : Nat) (w : World) (cur : Array Value), w.heap[g]? = some (.cells cur t (0, 0)) → o + vs.length ≤ cur.size →
    (w.setCells g o vs).heap[g]? = some (.cells (cur.toList.take o ++ vs ++ cur.toList.drop (o + vs.length)).toArray t (0, 0))
  | [], o, w, cur, h, _ => by
    show w.heap[g]? = _
    rw [h]; simp
  | v :: vs, o, w, cur, h, hs => by
    show ((w.setCell ⟨g, o, none⟩ v).setCells g (o + 1) vs).heap[g]? = _
    rw [List.length_cons] at hs
    rw [blk_setCellsE vs (o + 1) _ _ (blk_set v h) (by simp; omega)]
    congr 2
    rw [Array.toList_setIfInBounds]
    congr 1
    rw [List.take_set, List.take_succ_eq_append_getElem (by simpa using (by omega : o < cur.size)), List.set_append_right _ _ (by rw [List.length_take]; omega), List.drop_set_of_lt (by omega)]
    have hL : cur.toList.length = cur.size := Array.length_toList
    have e : o - (cur.toList.take o).length = 0 := by rw [List.length_take]; omega
    rw [e]
    simp
    congr 1; omega
theorem out_setCellsE (g : Nat) : ∀ (vs : List Value) (o : Nat) (w : World), Out (fun j => j = g) w (w.setCells g o vs)
  | [], _, _ => Out.refl _ _
  | v :: vs, o, w => (out_set w ⟨g, o, none⟩ v).trans (out_setCellsE g vs (o + 1) _) (Went.refl _ _)

theorem Tryz.zeroOrdE (w : World) : (zeroValue 41).run Tryz.prog w = .ok (.agg #[.int .i64 0, .int .i64 0, .int .i64 0, .int .i64 0, .int .i64 0]) w := by kernel_rfl
/-- clear of one level -/
theorem orClear (W : World) (g o c : Nat) (cur : Array Value) (t : TypeId) (hg : W.heap[g]? = some (.cells cur t (0, 0))) (hfit : o + 5 ≤ cur.size) :
    ∃ W', (∀ ty, (Builtin.clear_ #[59] ty #[.slice (some ⟨g, o, none⟩) 1 c]).run Tryz.prog W = .ok (.tuple #[]) W')
      ∧ W'.heap[g]? = some (.cells (cur.toList.take o ++ [Value.int .i64 0, Value.int .i64 0, Value.int .i64 0, Value.int .i64 0, Value.int .i64 0] ++ cur.toList.drop (o + 5)).toArray t (0, 0)) ∧ Out (fun j => j = g) W W' := by
  refine ⟨W.setRow g (cur.toList.take o ++ [Value.int .i64 0, Value.int .i64 0, Value.int .i64 0, Value.int .i64 0, Value.int .i64 0] ++ cur.toList.drop (o + 5)).toArray, fun ty => ?_, setRow_heap W g _ _ t _ hg, ⟨rfl, rfl, rfl, by simp [World.setRow], fun j _ hj => setRow_other W g j _ hj⟩⟩
  have hst := run_storeCells_at Tryz.prog g o t [Value.int .i64 0, Value.int .i64 0, Value.int .i64 0, Value.int .i64 0, Value.int .i64 0] 0 cur W hg (by simpa using hfit) (by simp [Value.oneCell'])
  have hz := Tryz.zeroOrdE W
  have hu := run_underlying (P := Tryz.prog) Tryz.underlying59 (w := W)
  simp only [Nat.add_zero, List.length_cons, List.length_nil, Nat.zero_add, Nat.reduceAdd] at hst
  simp [Builtin.clear_, hu, hz, Builtin.zeroCells, Value.cells]
  rw [show List.map (fun i => [Value.int .i64 0, Value.int .i64 0, Value.int .i64 0, Value.int .i64 0, Value.int .i64 0][i % 5]?.getD default) (List.range 5) = [Value.int .i64 0, Value.int .i64 0, Value.int .i64 0, Value.int .i64 0, Value.int .i64 0] from rfl, hst]
  simp

theorem oV_splitE (i : Nat) (l : List Ord) : oV l = oV (l.take i) ++ oV (l.drop i) := by rw [← oV_append, List.take_append_drop]
theorem erase_oVE {l : List Ord} {i : Nat} : oV (l.eraseIdx i) = oV (l.take i) ++ oV (l.drop (i + 1)) := by rw [List.eraseIdx_eq_take_drop_succ, oV_append]

set_option maxRecDepth 100000 in
set_option maxHeartbeats 4000000 in
theorem orDel (g cap i : Nat) (l : List Ord) (w : World) (hr : w.ownsRow 0 41 5 (.slice (some ⟨g, 0, none⟩) l.length cap) l.length (oV l)) (hl : l.length ≤ 1000) (hi : i < l.length) :
    Calls Tryz.prog 53 #[.slice (some ⟨g, 0, none⟩) l.length cap, .int .i64 i, .int .i64 ((i : Int) + 1)] w fun e w' => e = .returned (.slice (some ⟨g, 0, none⟩) (l.length - 1) cap)
      ∧ w'.ownsRow 0 41 5 (.slice (some ⟨g, 0, none⟩) (l.length - 1) cap) (l.length - 1) (oV (l.eraseIdx i)) ∧ Out (fun j => j = g) w w' := by
  obtain ⟨i0, hi0, hz0, hzs, hzb⟩ := info_parts Tryz.infoOrdE
  rcases hr.2 with ⟨h', _⟩ | ⟨g', cap', cur, h', _, hg, hnc, hcm, hcs, ht⟩
  · simp at h'
  simp only [Value.slice.injEq, Option.some.injEq, Addr.mk.injEq, and_true, true_and] at h'
  obtain ⟨rfl, rfl⟩ := h'
  clear hr
  unfold maxLen at hcm
  have hA : (oV (l.take i)).length = i * 5 := by rw [oV_length, List.length_take]; omega
  have hBl : (oV (l.drop (i + 1))).length = (l.length - (i + 1)) * 5 := by rw [oV_length, List.length_drop]
  have hcut : cur.toList.take (l.length * 5) = oV l := ht
  have hgd : w.drew.heap[g]? = some (.cells cur 41 (0, 0)) := hg
  obtain ⟨A, hAd, hsrc⟩ : ∃ A : Addr, (if cap = i + 1 then some (⟨g, 0, none⟩ : Addr) else some ⟨g, (i + 1) * 5, none⟩) = some A ∧ Hid (∀ t u, (oV (l.drop (i + 1)))[t]? = some u → w.drew.cell? (A.add t) = some u) := by
    by_cases h : cap = i + 1
    · refine ⟨⟨g, 0, none⟩, by simp [h], fun t u hu => ?_⟩
      have := (List.getElem?_eq_some_iff.1 hu).1
      omega
    · refine ⟨⟨g, (i + 1) * 5, none⟩, by simp [h], fun t u hu => ?_⟩
      have hlt := (List.getElem?_eq_some_iff.1 hu).1
      rw [Addr.add_lit]
      refine blk_cell hgd ?_
      have e1 : (cur.toList.take (l.length * 5))[(i + 1) * 5 + t]? = some u := by
        rw [hcut, oV_splitE (i + 1) l, List.getElem?_append_right (by rw [oV_length, List.length_take]; omega), oV_length, List.length_take]
        rw [show (i + 1) * 5 + t - min (i + 1) l.length * 5 = t by omega]
        exact hu
      rw [List.getElem?_take_of_lt (by omega)] at e1
      rw [← Array.getElem?_toList]; exact e1
  have s3 : Hid (∀ t, t < (oV (l.drop (i + 1))).length → (w.drew.cell? ⟨g, 0 + i * 5 + t, none⟩).isSome = true ∧ w.drew.frozen? ⟨g, 0 + i * 5 + t, none⟩ = false) := fun t ht' => by
    refine ⟨?_, blk_free hgd⟩
    have hlt : 0 + i * 5 + t < cur.size := by omega
    rw [blk_cell hgd (Array.getElem?_eq_getElem hlt)]; rfl
  have s1 : Hid ((oV (l.drop (i + 1))).length = (l.length - (i + 1)) * 5) := hBl
  have s2 : Hid (∀ u ∈ oV (l.drop (i + 1)), u.oneCell' = true) := oV_one _
  have hg1 := blk_setCellsE (oV (l.drop (i + 1))) (0 + i * 5) w.drew cur hgd (by omega)
  have ho1 := out_setCellsE g (oV (l.drop (i + 1))) (0 + i * 5) w.drew
  obtain ⟨W1, hW1⟩ : ∃ W1, W1 = w.drew.setCells g (0 + i * 5) (oV (l.drop (i + 1))) := ⟨_, rfl⟩
  rw [← hW1] at hg1 ho1
  have hW : Hid (W1 = w.drew.setCells g (0 + i * 5) (oV (l.drop (i + 1)))) := hW1
  obtain ⟨cur1, hcur1⟩ : ∃ cur1 : Array Value, cur1 = (cur.toList.take (0 + i * 5) ++ oV (l.drop (i + 1)) ++ cur.toList.drop (0 + i * 5 + (oV (l.drop (i + 1))).length)).toArray := ⟨_, rfl⟩
  rw [← hcur1] at hg1
  have hcz : cur1.size = cap * 5 := by
    rw [hcur1]; simp [hBl]; omega
  obtain ⟨W2, hr2, hg2, ho2⟩ := orClear W1 g ((l.length - 1) * 5) (cap - (l.length - 1)) cur1 41 hg1 (by omega)
  have HFIN : Hid (W2.ownsRow 0 41 5 (.slice (some ⟨g, 0, none⟩) (l.length - 1) cap) (l.length - 1) (oV (l.eraseIdx i)) ∧ Out (fun j => j = g) w W2) := by
    refine ⟨⟨by rw [oV_length, List.length_eraseIdx, if_pos hi], Or.inr ⟨g, cap, _, rfl, Nat.zero_le _, hg2, by omega, by unfold maxLen; omega, ?_, ?_⟩⟩, ?_⟩
    · simp [hcz]; omega
    · rw [List.append_assoc, List.take_append_of_le_length (by rw [List.length_take, Array.length_toList (xs := cur1)]; omega), List.take_take, Nat.min_self, hcur1, erase_oVE]
      show (cur.toList.take (0 + i * 5) ++ oV (l.drop (i + 1)) ++ _).take _ = _
      rw [Nat.zero_add, List.take_append_of_le_length (by rw [List.length_append, List.length_take, Array.length_toList (xs := cur), hBl]; omega), List.take_of_length_le (by rw [List.length_append, List.length_take, Array.length_toList (xs := cur), hBl]; omega)]
      congr 1
      have := congrArg (List.take (i * 5)) hcut
      rw [List.take_take, Nat.min_eq_left (by omega)] at this
      rw [this, oV_splitE i l, List.take_append_of_le_length (by omega), List.take_of_length_le (by omega)]
    · exact (Out.of_below (Below.refl w.heap.size w).drew (Nat.le_refl _)).trans (ho1.trans ho2 (Went.refl _ _)) (Went.refl _ _)
  clear hg1 hg2 ho1 ho2 hcut hA hBl hcur1 hcz hg hgd hcs ht hW1
  have q0 : IntKind.i64.wrap ((i : Int) + 1) = (i : Int) + 1 := IntWalk.i64_in _ (by omega)
  have q1 : (0 : Int) ≤ (i : Int) + 1 := by omega
  have q2 : i ≤ l.length := by omega
  have q3 : ((i : Int) + 1).toNat = i + 1 := by omega
  have q5 : (i : Int) + 1 ≤ (l.length : Int) := by omega
  have q6 : i ≤ cap := by omega
  have q7 : ((i : Int) == (i : Int) + 1) = false := beq_eq_false_iff_ne.2 (by omega)
  have q8 : i + 1 ≤ cap := by omega
  have q9 : i + (l.length - (i + 1)) = l.length - 1 := by omega
  have q10 : l.length - (l.length - 1) = 1 := by omega
  have q11 : ¬ cap = l.length - 1 := by omega
  go_enter Tryz.func53, Tryz.ntmps53
  go_wp2_with fail
  go_region_law (refine step_append_room rfl (.tmp 22) (.tmp 25) 59 rfl 41 i0 5 Tryz.underlying59 hi0 hzs g 0 i cap (by simp [Act.eval, Act.put]) A (l.length - (i + 1)) (cap - (i + 1)) (oV (l.drop (i + 1))) (by simp [Act.eval, Act.put]) s1.out hsrc.out s2.out (by omega) s3.out ?_; rw [← hW.out, q9])
  go_wp2_with fail
  go_ret
  exact ⟨rfl, HFIN.out⟩

set_option maxRecDepth 100000 in
set_option maxHeartbeats 4000000 in
theorem orClone (v : Value) (l : List Ord) (w : World) (hr : w.ownsRow 0 41 5 v l.length (oV l)) (hl : l.length ≤ 1000) :
    Calls Tryz.prog 75 #[v] w fun e w' => ∃ v', e = .returned v' ∧ w'.ownsRow w.heap.size 41 5 v' l.length (oV l) ∧ Below w.heap.size w w' := by
  obtain ⟨i0, hi0, hz0, hzs, hzb⟩ := info_parts Tryz.infoOrdE
  have hu : ∀ (w : World) (a : Option Addr) (n c n' c' : Nat), (binOp .eql 59 (.slice a n c) (.slice none n' c')).run Tryz.prog w = .ok (.bool a.isNone) w := fun w a n c n' c' => Lib.run_eql_slice_nil w _ _ a n c n' c' Tryz.underlying59
  rcases hr.2 with ⟨rfl, h0⟩ | ⟨g, cap, cur, rfl, _, hg, hnc, hcm, hcs, ht⟩
  · obtain rfl : l = [] := List.length_eq_zero_iff.1 h0
    clear hr
    go_enter Tryz.func75, Tryz.ntmps75
    go_wp2
    go_ret
    exact ⟨_, rfl, World.ownsRow_nil _ _ _ _, Below.refl _ _⟩
  · have HC : Hid (∀ j u, (oV l)[j]? = some u → w.cell? ⟨g, j, none⟩ = some u) := fun j u hj => by
      refine blk_cell hg ?_
      rw [← ht, List.getElem?_take] at hj
      split at hj
      · rw [← Array.getElem?_toList]; exact hj
      · cases hj
    clear hr hg hcs ht
    go_enter Tryz.func75, Tryz.ntmps75
    go_wp2_with (at_builtin; refine wpList_append_own _ rfl _ _ 59 rfl w.heap.size 41 i0 (.agg #[.int .i64 0, .int .i64 0, .int .i64 0, .int .i64 0, .int .i64 0]) 5 40 Tryz.underlying59 hi0 hz0 hzs hzb rfl (by decide) _ _ _ rfl (World.ownsRow_made w #[] 0 (Nat.le_refl _) (Nat.zero_le _) (by simp)) ⟨g, 0, none⟩ l.length cap (oV l) rfl (oV_length l) (fun j u hj => by rw [Addr.add_lit]; exact Lib.cell?_alloc_some _ (by simpa using HC.out j u hj)) (oV_one l) (by unfold maxLen; omega) (by omega) (by simp) ?_; intro v' w1 hown hgrow hnil)
    go_ret
    refine ⟨v', rfl, by simpa using hown, ?_⟩
    exact ((Below.refl _ w).alloc (Nat.le_refl _) _).grown hgrow (by simp) (fun k hk => by have e : some w.heap.size = some k := hk; injection e with e; omega)

/-- the closure that looks for a number -/
theorem canClo (pb : Nat) (id : Int) (x : Ord) (w : World) (hp : w.heap[pb]? = some (.cells #[.int .i64 id] 3 (0, 0))) :
    Calls Tryz.prog 52 #[.agg #[.int .i64 x.id, .int .i64 x.side, .int .i64 x.kind, .int .i64 x.price, .int .i64 x.qty], .pointer (some ⟨pb, 0, none⟩)] w fun e w' => e = .returned (.bool (x.id == id)) ∧ Below w.heap.size w w' := by
  have c0 : (w.alloc (.cells #[.int .i64 x.id, .int .i64 x.side, .int .i64 x.kind, .int .i64 x.price, .int .i64 x.qty] 41)).cell? ⟨pb, 0, none⟩ = some (.int .i64 id) := blk_cell (j := 0) (blk_below hp (bel1 _ _) (Nat.le_refl _)) rfl
  clear hp
  go_enter Tryz.func52, Tryz.ntmps52
  go_wp2
  go_ret
  exact ⟨rfl, bel1 _ _⟩
set_option maxRecDepth 4000 in
set_option maxHeartbeats 2000000 in
theorem orIndex (pb : Nat) (id : Int) (a : Option Addr) (cap : Nat) (l : List Ord) (w : World) (hl : l.length ≤ 1000) (hr : OrdsIn w a l) (hp : w.heap[pb]? = some (.cells #[.int .i64 id] 3 (0, 0))) :
    Calls Tryz.prog 51 #[.slice a l.length cap, .func (.func 52) #[] #[.pointer (some ⟨pb, 0, none⟩)]] w fun e w' => e = .returned (.int .i64 (idxO id l)) ∧ Below w.heap.size w w' := by
  have HR : Hid (OrdsIn w a l) := hr
  have HP : Hid (w.heap[pb]? = some (.cells #[.int .i64 id] 3 (0, 0))) := hp
  clear hr hp
  go_enter Tryz.func51, Tryz.ntmps51
  go_wp2_with fail
  go_loopw [8] (fun v wr => ∃ j : Nat, j ≤ l.length ∧ v = .int .i64 j ∧ idxF id j (l.drop j) = idxO id l ∧ Below w.heap.size w wr) (fun v _ => l.length - (intOf v).toNat)
  case atStart => exact ⟨0, Nat.zero_le _, rfl, rfl, Below.refl _ _⟩
  case round =>
    obtain ⟨j, hj, rfl, hix, hb⟩ := hrel
    have HB : Hid (Below w.heap.size w wr) := hb
    have HIX : Hid (idxF id j (l.drop j) = idxO id l) := hix
    clear hix
    by_cases hlt : j < l.length
    · have hlt' : (j : Int) < (l.length : Int) := by omega
      obtain ⟨g, off, e1, c0, c1, c2, c3, c4⟩ := (HR.out.below hb) j hlt
      subst e1
      have HPR : Hid _ := blk_below HP.out hb (Nat.le_refl _)
      clear hb
      go_wp2_with fail
      refine (canClo pb id (oAt l j) _ HPR.out).mono ?_
      rintro e w1 ⟨rfl, hb1⟩
      have HB1 : Hid (Below w.heap.size w w1) := bel_then HB.out hb1
      clear hb1 c0 c1 c2 c3 c4
      by_cases hji : (oAt l j).id = id
      · have HE : Hid (idxO id l = (j : Int)) := by show _ = _; rw [← HIX.out]; exact idxF_hit hlt hji
        rw [beq_iff_eq.2 hji]
        clear hji
        go_wp2_with fail
        go_ret
        exact ⟨by rw [HE.out]; rfl, HB1.out⟩
      · have HE : Hid (idxF id (j + 1) (l.drop (j + 1)) = idxO id l) := by show _ = _; rw [← HIX.out]; exact idxF_step hlt hji
        rw [beq_eq_false_iff_ne.2 hji]
        clear hji
        go_wp2_with fail
        go_roundw
        case rel => exact ⟨j + 1, by omega, by go_num, HE.out, HB1.out⟩
        case measure => first | (simp [intOf]; omega) | (show l.length - (j + 1) < l.length - j; omega) | omega
    · have HE : Hid (idxO id l = -1) := by show _ = _; rw [← HIX.out]; exact idxF_end (by omega)
      go_wp2_with fail
      go_ret
      exact ⟨by rw [HE.out]; rfl, HB.out⟩
end Go.Proofs.YtjdkagafdnchhaaGreatDoor

/-
  What the program's Cancel and Parked (9.1, 9.2) do, over this seat's translation. Conditions stand in each theorem: where the engine lies.
-/
namespace Go.Proofs.YtjdkagafdnchhaaGreatDoor
open Go.RowKit

theorem goneL_erase (i : Nat) (l : List Ord) : goneL i l = l.eraseIdx i := (List.eraseIdx_eq_take_drop_succ l i).symm
theorem egParked (eb : Nat) (k : EgK) (M : Mkt) (w : World) (h : Eg w eb k M) (hP : M.P.length ≤ 1000) :
    Calls Tryz.prog 28 #[.pointer (some ⟨eb, 0, none⟩)] w fun e w' => ∃ v, e = .returned v ∧ w'.ownsRow w.heap.size 41 5 v M.P.length (oV M.P) ∧ Below w.heap.size w w' := by
  have c3 : w.cell? ⟨eb, 3, none⟩ = some k.vp := blk_cell (j := 3) h.box rfl
  have HP : Hid _ := h.pk
  clear h
  go_enter Tryz.func28, Tryz.ntmps28
  go_wp2_with fail
  refine (orClone k.vp M.P w HP.out hP).mono ?_
  rintro e w1 ⟨v', rfl, h1, h2⟩
  have H1 : Hid _ := h1
  have H2 : Hid _ := h2
  clear h1 h2
  go_wp2_with fail
  go_ret
  exact ⟨v', rfl, H1.out, H2.out⟩
/-- the book's Cancel, with its error told apart -/
theorem egBkCancel {w : World} {bb m : Nat} {b : BkS} {L : List Ord} (h : Bk w bb m b) (hm : m + 1 ≤ 900000) (hl : Lnk b.S L) (id : Int) (hw : (Lit.int .i64 id).wf = true) :
    Calls Tryz.prog 54 #[.pointer (some ⟨bb, 0, none⟩), .int .i64 id] w fun e W' => ∃ (x : Ord) (err : Value), e = .returned (.tuple #[.agg #[.int .i64 x.id, .int .i64 x.side, .int .i64 x.kind, .int .i64 x.price, .int .i64 x.qty], err]) ∧ ErrE err (canN id L) ∧ (err = .nilIface ∨ err = .iface 32 (.int .i64 7)) ∧ ∃ b', Lnk b'.S (canL id L) ∧ Goes w W' bb (m + 1) b b' := by
  rcases lies_dec b.S id with ⟨s, hs, x, hx, rfl⟩ | hno
  · obtain ⟨k, hk, hi, ho⟩ := idx_at hl hs hx
    have hne : ¬ idxO x.o.id L = -1 := by omega
    have hkk : (idxO x.o.id L).toNat = k := by omega
    refine (cancel_yes bb m s b x w h hm hs hx).mono ?_
    rintro e W' ⟨rfl, b', ⟨i, hi2, hix, hS⟩, hg⟩
    refine ⟨x.o, .nilIface, rfl, ErrE.yes (by unfold canN; rw [if_neg hne]), Or.inl rfl, b', ?_, hg⟩
    unfold canL
    rw [if_neg hne, hkk, hS]
    exact hl.gone h.ok hs hi2 hix hk (by rw [ho])
  · have h1 := hl.idx_no hno
    refine (cancel_no bb m b id w h hw hno).mono ?_
    rintro e W' ⟨rfl, hb⟩
    exact ⟨Ord.none_, _, rfl, ErrE.no 7 (by unfold canN; rw [if_pos h1]) (by decide), Or.inr rfl, b, by unfold canL; rw [if_pos h1]; exact hl, Goes.stay h hb (Nat.le_succ _) hm⟩
theorem EgGo.boxed5 {w w2 : World} {eb lb : Nat} {k k2 : EgK} {M2 : Mkt} {vs : Array Value} (hg : EgGo w w2 eb k k2 M2) (hz : w2.heap[lb]? = some (.cells vs 41 (0, 0))) (hlb : w.heap.size ≤ lb) (ht : k2.tb ≠ lb ∧ k2.cb ≠ lb) (hv : k2.vp.ownBlock ≠ some lb) (x : Ord) :
    EgGo w (((((w2.setCell ⟨lb, 0, none⟩ (.int .i64 x.id)).setCell ⟨lb, 1, none⟩ (.int .i64 x.side)).setCell ⟨lb, 2, none⟩ (.int .i64 x.kind)).setCell ⟨lb, 3, none⟩ (.int .i64 x.price)).setCell ⟨lb, 4, none⟩ (.int .i64 x.qty)) eb k k2 M2 := hg.boxed hz hlb ht hv x
/-- behind the book's Cancel -/
def CnMid (w : World) (eb : Nat) (k : EgK) (M : Mkt) (id : Int) (u7 : Value) (wc : World) : Prop := ∃ b' : BkS, ErrE u7 (canN id M.L) ∧ EgGo w wc eb k { k with m := k.m + 1, b := b' } { M with L := canL id M.L }
theorem cn_mid {w wc : World} {eb : Nat} {k : EgK} {M : Mkt} {id : Int} {u7 : Value} {b' : BkS} (h1 : ErrE u7 (canN id M.L)) (h2 : EgGo w wc eb k { k with m := k.m + 1, b := b' } { M with L := canL id M.L }) : CnMid w eb k M id u7 wc := ⟨b', h1, h2⟩
set_option maxRecDepth 8000 in
set_option maxHeartbeats 4000000 in
theorem egCancel (eb : Nat) (k : EgK) (M : Mkt) (id : Int) (w : World) (h : Eg w eb k M) (hP : M.P.length ≤ 1000) (hw : (Lit.int .i64 id).wf = true) (hm : k.m ≤ 700000) :
    Calls Tryz.prog 13 #[.pointer (some ⟨eb, 0, none⟩), .int .i64 id] w fun e w' => ∃ err k', e = .returned err ∧ ErrE err (canNM M id) ∧ EgGo w w' eb k k' (canM M id) ∧ k'.m ≤ k.m + 302 := by
  have H : Hid (Eg w eb k M) := h
  have HW : Hid ((Lit.int .i64 id).wf = true) := hw
  have hb1 := bel1 w (.cells #[.int .i64 id] 3)
  have hx1 := heap_alloc_new w (.cells #[.int .i64 id] 3)
  clear h hw
  by_cases h7 : M.ph = 7
  · have HC : Hid (canNM M id = 6 ∧ canM M id = M) := ⟨by unfold canNM; rw [if_pos h7], by unfold canM; rw [if_pos h7]⟩
    have b7 : (M.ph == 7) = true := beq_iff_eq.2 h7
    clear h7
    go_enter Tryz.func13, Tryz.ntmps13
    go_upto_region 1 with fail
    generalize w.alloc (.cells #[.int .i64 id] 3) = w1 at hb1 hx1 ⊢
    have c5 : w1.cell? ⟨eb, 5, none⟩ = some (.int .i64 M.ph) := blk_cell (j := 5) (H.out.below hb1).box rfl
    have HB1 : Hid (Below w.heap.size w w1) := hb1
    clear hb1 hx1
    go_wp2_with fail
    go_ret
    exact ⟨_, k, rfl, ErrE.no 6 HC.out.1 (by decide), by rw [HC.out.2]; exact EgGo.stay H.out HB1.out, Nat.le_add_right _ _⟩
  · have b7 : (M.ph == 7) = false := beq_eq_false_iff_ne.2 h7
    go_enter Tryz.func13, Tryz.ntmps13
    go_upto_region 1 with fail
    generalize w.alloc (.cells #[.int .i64 id] 3) = w1 at hb1 hx1 ⊢
    have h1 := H.out.below hb1
    obtain ⟨pa, pc, hvp, hin⟩ := OrdsIn.of_row h1.pk
    have c5 : w1.cell? ⟨eb, 5, none⟩ = some (.int .i64 M.ph) := blk_cell (j := 5) h1.box rfl
    have c3 : w1.cell? ⟨eb, 3, none⟩ = some (.slice pa M.P.length pc) := (blk_cell (j := 3) (v := k.vp) h1.box rfl).trans (by rw [hvp])
    have HVP : Hid (k.vp = .slice pa M.P.length pc) := hvp
    have HB1 : Hid (Below w.heap.size w w1) := hb1
    have HX1 : Hid (w1.heap[w.heap.size]? = some (.cells #[.int .i64 id] 3 (0, 0))) := hx1
    have HIN : Hid (OrdsIn w1 pa M.P) := hin
    clear hb1 hx1 h1 hvp hin
    go_wp2_with fail
    refine (orIndex w.heap.size id pa pc M.P w1 hP HIN.out HX1.out).mono ?_
    rintro e w2 ⟨rfl, hb2⟩
    have HB2 : Hid (Below w.heap.size w w2) := bel_then HB1.out hb2
    have H2 : Hid (Eg w2 eb k M) := H.out.below HB2.out
    have HX2 : Hid (w2.heap[w.heap.size]? = some (.cells #[.int .i64 id] 3 (0, 0))) := blk_below HX1.out hb2 (Nat.le_refl _)
    clear hb2 c5 c3 HIN HX1 HB1
    by_cases hix : 0 ≤ idxO id M.P
    · have HC : Hid (canNM M id = 0 ∧ canM M id = { M with P := goneL (idxO id M.P).toNat M.P }) := ⟨by unfold canNM; rw [if_neg h7, if_pos hix], by unfold canM; rw [if_neg h7, if_pos hix]⟩
      obtain ⟨i, hi, hie⟩ : ∃ i : Nat, i < M.P.length ∧ idxO id M.P = (i : Int) := by
        rcases idxF_in id M.P 0 with e | ⟨i, hi, e, _⟩
        · have e' : idxO id M.P = -1 := e
          omega
        · refine ⟨i, hi, ?_⟩
          have e' : idxO id M.P = ((0 + i : Nat) : Int) := e
          rw [e']; congr 1; omega
      rw [hie] at HC ⊢
      clear h7 hix hie
      have hrow : w2.ownsRow 0 41 5 (.slice pa M.P.length pc) M.P.length (oV M.P) := by have := H2.out.pk; rw [HVP.out] at this; exact this
      obtain ⟨g, cap, hv, _, _⟩ := hrow.form (by omega)
      simp only [Value.slice.injEq, true_and] at hv
      obtain ⟨rfl, rfl⟩ := hv
      have c3 : w2.cell? ⟨eb, 3, none⟩ = some (.slice (some ⟨g, 0, none⟩) M.P.length pc) := (blk_cell (j := 3) (v := k.vp) H2.out.box rfl).trans (by rw [HVP.out])
      have wr : IntKind.i64.wrap ((i : Int) + 1) = (i : Int) + 1 := IntWalk.i64_in _ (by omega)
      have HROW : Hid _ := hrow
      clear hrow
      go_wp2_with fail
      refine (orDel g pc i M.P w2 HROW.out hP hi).mono ?_
      rintro e w3 ⟨rfl, hr3, ho3⟩
      have ho3' : Out (fun j => k.vp.ownBlock = some j) w2 w3 := ⟨ho3.os, ho3.tape, ho3.output, ho3.size, fun j hj hn => ho3.block j hj (fun e => hn (by rw [HVP.out]; exact congrArg some e.symm))⟩
      have hl3 : (M.P.eraseIdx i).length = M.P.length - 1 := by rw [List.length_eraseIdx, if_pos hi]
      have hfin := H2.out.ofParked (P' := M.P.eraseIdx i) ho3' (by rw [hl3]; exact hr3) (fun j hj => Or.inl (by rw [HVP.out]; exact hj))
      have d3 : w3.cell? ⟨eb, 3, none⟩ = some k.vp := blk_cell (j := 3) (blk_out H2.out.box ho3' H2.out.ebpk) rfl
      have f3 := blk_free (j := 3) (blk_out H2.out.box ho3' H2.out.ebpk)
      have HFIN : Hid (EgGo w (w3.setCell ⟨eb, 3, none⟩ (.slice (some ⟨g, 0, none⟩) (M.P.length - 1) pc)) eb k { k with vp := .slice (some ⟨g, 0, none⟩) (M.P.length - 1) pc } { M with P := M.P.eraseIdx i }) := (EgGo.stay H.out HB2.out).trans hfin
      clear hr3 ho3 ho3' hl3 hfin
      go_wp2_with fail
      go_ret
      exact ⟨_, { k with vp := .slice (some ⟨g, 0, none⟩) (M.P.length - 1) pc }, rfl, ErrE.yes HC.out.1, by rw [HC.out.2, show ((i : Int)).toNat = i from rfl, goneL_erase]; exact HFIN.out, Nat.le_add_right _ _⟩
    · have HC : Hid (canNM M id = canN id M.L ∧ canM M id = { M with L := canL id M.L }) := ⟨by unfold canNM; rw [if_neg h7, if_neg hix], by unfold canM; rw [if_neg h7, if_neg hix]⟩
      have e1 : ¬ (idxO id M.P ≥ 0) := hix
      clear h7
      go_upto_region 7 with fail
      have hfx : ¬ k.b.foot k.bb w.heap.size := fun e => by have := H.out.bk.lt e; omega
      have HS7 : Hid (∀ w', Out (k.b.foot k.bb) w2 w' → w'.cell? ⟨eb, 2, none⟩ = some (.pointer (some ⟨k.bb, 0, none⟩)) ∧ w'.cell? ⟨w.heap.size, 0, none⟩ = some (.int .i64 id) ∧ Out (k.b.foot k.bb) w2 w') := fun w' ho => ⟨blk_cell (j := 2) (blk_out H2.out.box ho H2.out.ebbk) rfl, blk_cell (j := 0) (blk_out HX2.out ho hfx) rfl, ho⟩
      have hnf : ¬ k.b.foot k.bb w2.heap.size := fun e => by have := H2.out.bk.lt e; omega
      have HNF : Hid (¬ k.b.foot k.bb w2.heap.size) := hnf
      have HLB : Hid (k.tb ≠ w2.heap.size ∧ k.cb ≠ w2.heap.size) := ⟨by have := H2.out.tlt'; omega, by have := H2.out.tlt; omega⟩
      have HVN : Hid (k.vp.ownBlock ≠ some w2.heap.size) := fun e => by have := (H2.out.pk.lt _ e).2; omega
      have hm1 : k.m + 1 ≤ 900000 := by omega
      clear hfx hnf
      go_cut [6, 7] from 33 to 41 (fun _ u7 wc => CnMid w eb k M id u7 wc)
      case first =>
        go_region_held3 (fun w' => w'.cell? ⟨eb, 2, none⟩ = some (.pointer (some ⟨k.bb, 0, none⟩)) ∧ w'.cell? ⟨w.heap.size, 0, none⟩ = some (.int .i64 id) ∧ Out (k.b.foot k.bb) w2 w')
          ((refine HS7.out _ ?_; (repeat' first | assumption | exact HO3.out | exact Out.refl _ _ | refine out_drew ?_ | refine out_alloc ?_ _ | refine out_setNew ?_ ?_ | (simp; done) | (simp; omega))))
          ((go_at_call 54; refine (egBkCancel (H2.out.bk.below ?_ (Nat.le_refl _)) hm1 H2.out.lnk id HW.out).mono ?_; ((repeat' first | assumption | exact Below.refl _ _ | exact Nat.le_refl _ | refine Below.drew ?_ | refine Below.alloc ?_ ?_ _ | (simp; done) | (simp; omega))); rintro e w3 ⟨x, err, rfl, he, her, b3, hl3, hg3⟩; have HG3 : Hid (Goes w2 w3 k.bb (k.m + 1) k.b b3) := goes_from H2.out.bk (by (repeat' first | assumption | exact Below.refl _ _ | exact Nat.le_refl _ | refine Below.drew ?_ | refine Below.alloc ?_ ?_ _ | (simp; done) | (simp; omega))) hg3; have HO3 : Hid (Out (k.b.foot k.bb) w2 w3) := HG3.out.2.1; have HL3 : Hid _ := hl3; have HER : Hid _ := he; (try (have hz2 : w3.heap[w2.heap.size]? = some (.cells #[.int .i64 0, .int .i64 0, .int .i64 0, .int .i64 0, .int .i64 0] 41 (0, 0)) := (hg3.2.1.block _ (by simp) HNF.out).trans (heap_alloc_new _ _); have z0 := blk_cell (j := 0) hz2 rfl; have z1 := blk_cell (j := 1) hz2 rfl; have z2 := blk_cell (j := 2) hz2 rfl; have z3 := blk_cell (j := 3) hz2 rfl; have z4 := blk_cell (j := 4) hz2 rfl; have y0 := blk_free (j := 0) hz2; have y1 := blk_free (j := 1) hz2; have y2 := blk_free (j := 2) hz2; have y3 := blk_free (j := 3) hz2; have y4 := blk_free (j := 4) hz2; have HZ2 : Hid (ZBox w3 w2.heap.size) := hz2; clear hz2)); clear hl3 hg3 he))
        all_goals have HGG : Hid (EgGo w w3 eb k { k with m := k.m + 1, b := b3 } { M with L := canL id M.L }) := (EgGo.stay H.out HB2.out).trans (H2.out.ofBook HG3.out HL3.out (Nat.le_succ _))
        all_goals go_wp2_with fail
        all_goals go_meet
        all_goals first | exact cn_mid (b' := b3) HER.out (EgGo.boxed5 HGG.out HZ2.out HB2.out.size HLB.out HVN.out x) | exact cn_mid (b' := b3) HER.out (HGG.out.bel (bel1 _ _))
      case rest =>
        obtain ⟨b3, he, hg⟩ := hcut
        have HE : Hid (ErrE u7 (canN id M.L)) := he
        have HG : Hid (EgGo w wc eb k { k with m := k.m + 1, b := b3 } { M with L := canL id M.L }) := hg
        clear he hg
        go_wp2_with fail
        go_ret
        exact ⟨u7, { k with m := k.m + 1, b := b3 }, rfl, by rw [HC.out.1]; exact HE.out, by rw [HC.out.2]; exact HG.out, by show k.m + 1 ≤ k.m + 302; omega⟩
end Go.Proofs.YtjdkagafdnchhaaGreatDoor

/-
  What holds of a market's day (9.5), at its start, and behind Order, Cancel, Halt and Open; over plain functions and lists. Conditions stand in each theorem.
-/
namespace Go.Proofs.YtjdkagafdnchhaaGreatDoor
open Go.RowKit

section
variable {M : Mkt} {lots side : Int → Int} {since : Int} {hands : Bool}
theorem inv_start {rs : List (Int × Int)} {st dy p ti mo : Int} (htab : tabE rs = (0, -1)) (hrl : rs.length ≤ 60) (hp : 1 ≤ p ∧ p ≤ 1000000) (hs : 0 ≤ st ∧ st ≤ 10000) (hd : 0 ≤ dy ∧ dy ≤ 10000) (hti : 1 ≤ ti ∧ ti ≤ 1000000) (hmo : 0 ≤ mo ∧ mo ≤ 10) : DayInv (newM rs st dy p ti mo) (fun _ => 0) (fun _ => 0) 0 false := by
  have hph : (phaseV rs 0).1 = 1 := by
    obtain ⟨_, h1, h2⟩ := tab_ok htab
    obtain ⟨n, e⟩ := phase_now (now := 0) h2 (by rw [h1]; exact Int.le_refl 0)
    unfold phaseV
    rw [e, h1]
  exact ⟨⟨htab, hrl, hp, hp, ⟨hs, hd⟩, hti, hmo, ⟨Int.le_refl 0, hmo.1⟩, Int.le_refl 0, (fun x hx => by cases hx), (fun x hx => by cases hx), (fun x hx => by cases hx), (fun x hx => by cases hx), Nat.zero_le _, fun _ => ⟨Int.le_refl 0, by decide⟩⟩, Or.inr (Or.inr hph.symm), fun e => absurd (hph.symm.trans e) (by decide), (fun e => absurd (show (1 : Int) = 7 from e) (by decide)), (fun e => absurd (show (1 : Int) = 3 from e) (by decide)), (fun _ e => absurd (show (1 : Int) = 4 from e) (by decide)), ⟨Int.le_refl 0, fun _ => rfl⟩⟩
theorem DayInv.halt (h : DayInv M lots side since false) : DayInv (haltM M) lots side (sinceN (haltM M) since) (decide (haltN M = 0)) := by
  by_cases hp : M.ph = 6 ∨ M.ph = 7
  · have e1 : haltM M = M := by unfold haltM; rw [if_pos hp]
    have e2 : haltN M = 6 := by unfold haltN; rw [if_pos hp]
    rw [e1, e2, sinceN_same h rfl]; exact h
  · have e1 : haltM M = { M with ph := 6 } := by unfold haltM; rw [if_neg hp]
    have e2 : haltN M = 0 := by unfold haltN; rw [if_neg hp]
    have e3 : sinceN { M with ph := 6 } since = 0 := if_neg (by show ¬ (6 : Int) = 4; decide)
    rw [e1, e2, e3]
    exact ⟨⟨h.tab, h.rl, h.an, h.la, h.sh, h.ti, h.mo, h.lo, h.now, h.kp, h.idI, h.dis, h.pP, h.few, h.lb⟩, Or.inl rfl, fun e => absurd (Or.inr (h.fin e)) hp, (fun e => absurd (show (6 : Int) = 7 from e) (by decide)), (fun e => absurd (show (6 : Int) = 3 from e) (by decide)), (fun _ e => absurd (show (6 : Int) = 4 from e) (by decide)), ⟨Int.le_refl 0, fun _ => rfl⟩⟩
theorem DayInv.open_ (h : DayInv M lots side since false) : DayInv (openM M) lots side (sinceN (openM M) since) (decide (openN M = 0)) := by
  by_cases hp : M.ph = 6
  · have e2 : openN M = 0 := by unfold openN; rw [if_pos hp]
    have hn7 : ¬ (phaseV M.rs M.now).1 = 7 := fun e => by have := h.fin e; omega
    have hs : since = 0 := h.sn.2 (by omega)
    have e1 : openM M = if (phaseV M.rs M.now).1 = 3 then volM M else if (phaseV M.rs M.now).1 = 5 then closM M else { M with ph := (phaseV M.rs M.now).1 } := by unfold openM; rw [if_pos hp]
    rw [e2, e1]
    by_cases h3 : (phaseV M.rs M.now).1 = 3
    · rw [if_pos h3]
      have es : sinceN (volM M) since = 0 := by unfold sinceN; rw [hs]; split <;> rfl
      rw [es]
      exact ⟨⟨h.tab, h.rl, h.an, h.la, h.sh, h.ti, h.mo, ⟨Int.le_refl 0, h.mo.1⟩, h.now, h.kp, h.idI, h.dis, h.pP, h.few, h.lb⟩, Or.inr (Or.inl ⟨rfl, h3⟩), fun e => absurd e hn7, (fun e => absurd (show (4 : Int) = 7 from e) (by decide)), (fun e => absurd (show (4 : Int) = 3 from e) (by decide)), (fun e => by simp at e), ⟨Int.le_refl 0, fun _ => rfl⟩⟩
    · rw [if_neg h3]
      by_cases h5 : (phaseV M.rs M.now).1 = 5
      · rw [if_pos h5]
        have es : sinceN (closM M) since = 0 := if_neg (by show ¬ (5 : Int) = 4; decide)
        rw [es]
        exact h.toDayA.clos h5
      · rw [if_neg h5]
        have hfive := phase_five (now := M.now) h.tab
        have es : sinceN { M with ph := (phaseV M.rs M.now).1 } since = 0 := by unfold sinceN; rw [hs]; split <;> rfl
        rw [es]
        exact ⟨⟨h.tab, h.rl, h.an, h.la, h.sh, h.ti, h.mo, h.lo, h.now, h.kp, h.idI, h.dis, h.pP, h.few, h.lb⟩, Or.inr (Or.inr rfl), fun e => absurd e hn7, (fun e => absurd e hn7), (fun e => absurd e h3), (fun e => by simp at e), ⟨Int.le_refl 0, fun _ => rfl⟩⟩
  · have e1 : openM M = M := by unfold openM; rw [if_neg hp]
    have e2 : openN M = 6 := by unfold openN; rw [if_neg hp]
    rw [e1, e2, sinceN_same h rfl]; exact h
theorem canL_mem {id : Int} {L : List Ord} {x : Ord} (h : x ∈ canL id L) : x ∈ L := by
  unfold canL at h
  split at h
  · exact h
  · unfold goneL at h
    rcases List.mem_append.1 h with h | h
    · exact List.mem_of_mem_take h
    · exact List.mem_of_mem_drop h
theorem goneL_mem {i : Nat} {L : List Ord} {x : Ord} (h : x ∈ goneL i L) : x ∈ L := by
  unfold goneL at h
  rcases List.mem_append.1 h with h | h
  · exact List.mem_of_mem_take h
  · exact List.mem_of_mem_drop h
theorem goneL_len (i : Nat) (L : List Ord) : (goneL i L).length ≤ L.length := by
  unfold goneL
  rw [List.length_append, List.length_take, List.length_drop]
  omega
theorem canL_len (id : Int) (L : List Ord) : (canL id L).length ≤ L.length := by
  unfold canL
  split
  · exact Nat.le_refl _
  · exact goneL_len _ _
/-- fewer lie, or wait -/
theorem DayInv.less (h : DayInv M lots side since hands) {L' P' : List Ord} (h1 : ∀ x ∈ L', x ∈ M.L) (h2 : ∀ x ∈ P', x ∈ M.P) (h3 : L'.length ≤ M.L.length) (h4 : P'.length ≤ M.P.length) : DayInv { M with L := L', P := P' } lots side since hands := by
  have hsub : ∀ x ∈ L' ++ P', x ∈ M.L ++ M.P := fun x hx => (List.mem_append.1 hx).elim (fun e => List.mem_append_left _ (h1 x e)) (fun e => List.mem_append_right _ (h2 x e))
  refine ⟨⟨h.tab, h.rl, h.an, h.la, h.sh, h.ti, h.mo, h.lo, h.now, h.kp.sub hsub, fun x hx => h.idI x (hsub x hx), fun x hx y hy => h.dis x (h1 x hx) y (h2 y hy), fun x hx => h.pP x (h2 x hx), ?_, h.lb⟩, h.ph, h.fin, fun e => ?_, fun e => ⟨fun x hx => (h.tr e).1 x (h1 x hx), fun x hx y hy => (h.tr e).2 x (h1 x hx) y (h1 y hy)⟩, h.vol, h.sn⟩
  · have := h.few
    show L'.length + P'.length ≤ 100
    omega
  · obtain ⟨a, b⟩ := h.none e
    rw [a] at h3
    rw [b] at h4
    exact ⟨List.eq_nil_of_length_eq_zero (Nat.le_zero.1 h3), List.eq_nil_of_length_eq_zero (Nat.le_zero.1 h4)⟩
theorem DayInv.cancel (h : DayInv M lots side since hands) (id : Int) : DayInv (canM M id) lots side (sinceN (canM M id) since) hands := by
  have key : DayInv (canM M id) lots side since hands ∧ (canM M id).ph = M.ph := by
    unfold canM
    by_cases h7 : M.ph = 7
    · rw [if_pos h7]; exact ⟨h, rfl⟩
    · rw [if_neg h7]
      by_cases hi : 0 ≤ idxO id M.P
      · rw [if_pos hi]
        exact ⟨h.less (fun _ hx => hx) (fun _ hx => goneL_mem hx) (Nat.le_refl _) (goneL_len _ _), rfl⟩
      · rw [if_neg hi]
        exact ⟨h.less (fun _ hx => canL_mem hx) (fun _ hx => hx) (canL_len _ _) (Nat.le_refl _), rfl⟩
  rw [sinceN_same h key.2]; exact key.1
/-- an order that comes: what it trades, and the day behind it -/
theorem DayInv.order_no (h : DayInv M lots side since hands) {o : Ord} (hn : ordN M o ≠ 0) : (ordM M o).1 = [] ∧ DayInv (ordM M o).2 lots side (sinceN (ordM M o).2 since) hands := by
  have e : ordM M o = ([], M) := by unfold ordM; rw [if_neg hn]
  rw [e]
  refine ⟨rfl, ?_⟩
  show DayInv M lots side (sinceN M since) hands
  rw [sinceN_same h rfl]; exact h
theorem DayInv.taken (h : DayInv M lots side since hands) {p : Ord} (hr : RefOk M p) : DayInv { M with I := M.I ++ [p.id] } (upF lots p.id p.qty) (upF side p.id p.side) since hands := by
  have hne : ∀ x ∈ M.L ++ M.P, x.id ≠ p.id := fun x hx e => hr.new (by rw [← e]; exact h.idI x hx)
  refine ⟨⟨h.tab, h.rl, h.an, h.la, h.sh, h.ti, h.mo, h.lo, h.now, (h.kp.up hne).upS hne, fun x hx => List.mem_append_left _ (h.idI x hx), h.dis, h.pP, h.few, fun id => ?_⟩, h.ph, h.fin, h.none, h.tr, h.vol, h.sn⟩
  by_cases e : id = p.id
  · subst e; rw [upF_same]; have := hr.right; omega
  · rw [upF_other e]; exact h.lb id
theorem sideO_srt (s : Int) (L : List Ord) : (sideO s L).Pairwise (fun a b => rankO s a ≤ rankO s b) := ssort_srt _
theorem DayInv.order_yes (h : DayInv M lots side since hands) {o : Ord} (hL : LOk M.L) (hw : (Lit.int .i64 o.id).wf = true) (hn : ordN M o = 0) :
    FillsOk (upF side o.id o.side) (upF lots o.id o.qty) (ordM M o).1 ∧ BandsOk M.st M.dy M.an M.la (ordM M o).1 ∧ ((ordM M o).1 ≠ [] → M.ph = 3)
      ∧ DayInv (ordM M o).2 (fillsUp (upF lots o.id o.qty) (ordM M o).1) (upF side o.id o.side) (sinceN (ordM M o).2 since) hands := by
  have hr : RefOk M (lieO o) := refN_zero (by rw [← ordN_ref]; exact hn)
  have hT := h.taken hr
  have e : ordM M o = takenM { M with I := M.I ++ [(lieO o).id] } (lieO o) := by unfold ordM; rw [if_pos hn, lieO_id]
  have hwp : (Lit.int .i64 (lieO o).id).wf = true := by rw [lieO_id]; exact hw
  have hnew : ∀ x ∈ M.L ++ M.P, x.id ≠ (lieO o).id := fun x hx e => hr.new (by rw [← e]; exact h.idI x hx)
  have hlie : lieO (lieO o) = lieO o := by
    by_cases hk : o.kind = 2
    · unfold lieO; rw [if_pos hk]; exact if_pos hk
    · unfold lieO; rw [if_neg hk]; exact if_neg hk
  rw [e, show upF side o.id o.side = upF side (lieO o).id (lieO o).side by rw [lieO_id, lieO_side], show upF lots o.id o.qty = upF lots (lieO o).id (lieO o).qty by rw [lieO_id, lieO_qty]]
  generalize lieO o = p at hr hT hwp hnew hlie
  have hkp : Keeps (upF lots p.id p.qty) (upF side p.id p.side) [p] := fun x hx => by rw [List.mem_singleton.1 hx]; exact ⟨upF_same _ _ _, upF_same _ _ _⟩
  have hself : p.id ∈ M.I ++ [p.id] := List.mem_append_right _ (List.mem_singleton.2 rfl)
  have hroom := hr.room
  unfold takenM
  by_cases hpk : p.kind = 4 ∧ M.ph ≠ 5
  · rw [if_pos (show p.kind = 4 ∧ ({ M with I := M.I ++ [p.id] } : Mkt).ph ≠ 5 from hpk)]
    refine ⟨trivial, trivial, fun e => absurd rfl e, ?_⟩
    have es : sinceN { M with I := M.I ++ [p.id], P := M.P ++ [p] } since = since := sinceN_same h rfl
    show DayInv { M with I := M.I ++ [p.id], P := M.P ++ [p] } (upF lots p.id p.qty) (upF side p.id p.side) (sinceN { M with I := M.I ++ [p.id], P := M.P ++ [p] } since) hands
    rw [es]
    refine ⟨⟨h.tab, h.rl, h.an, h.la, h.sh, h.ti, h.mo, h.lo, h.now, ?_, fun x hx => ?_, fun x hx y hy => ?_, fun x hx => ?_, ?_, hT.lb⟩, h.ph, h.fin, fun e => ?_, h.tr, h.vol, h.sn⟩
    · show Keeps _ _ (M.L ++ (M.P ++ [p]))
      rw [← List.append_assoc]
      exact keeps_app hT.kp hkp
    · have hx' : x ∈ (M.L ++ M.P) ++ [p] := by rw [List.append_assoc]; exact hx
      rcases List.mem_append.1 hx' with hx | hx
      · exact hT.idI x hx
      · rw [List.mem_singleton.1 hx]; exact hself
    · rcases List.mem_append.1 hy with hy | hy
      · exact h.dis x hx y hy
      · rw [List.mem_singleton.1 hy]; exact fun e => hnew x (List.mem_append_left _ hx) e.symm
    · rcases List.mem_append.1 hx with hx | hx
      · exact h.pP x hx
      · rw [List.mem_singleton.1 hx]; exact ⟨hpk.1, hwp⟩
    · show M.L.length + (M.P ++ [p]).length ≤ 100
      rw [List.length_append, List.length_singleton]; omega
    · exfalso
      have ht := hr.takes
      have e' : M.ph = 7 := e
      rw [e', hpk.1] at ht
      exact absurd ht (by decide)
  rw [if_neg (show ¬ (p.kind = 4 ∧ ({ M with I := M.I ++ [p.id] } : Mkt).ph ≠ 5) from hpk)]
  have hadd : ∀ {L0 L' : List Ord} {q0 : Ord}, lieO q0 = q0 → L' = addL q0 L0 → (∀ x ∈ L', x ∈ L0 ∨ x = q0) := fun hq e x hx => by
    rw [e] at hx
    rcases addL_mem hx with h1 | h1
    · exact Or.inl h1
    · rw [hq] at h1; exact Or.inr h1
  by_cases h3 : M.ph = 3
  · rw [if_neg (fun e => e (show ({ M with I := M.I ++ [p.id] } : Mkt).ph = 3 from h3))]
    obtain ⟨tk, tap⟩ := h.tr h3
    have hk1 : p.kind = 1 ∨ p.kind = 2 := by
      have ht := hr.takes
      rw [h3] at ht
      have hk := hr.kind
      unfold takesB auctB gathersB at ht
      by_cases k3 : p.kind = 3
      · rw [k3] at ht; exact absurd ht (by decide)
      · by_cases k4 : p.kind = 4
        · exact absurd ⟨k4, by omega⟩ hpk
        · omega
    have hMF0 : MF { M with I := M.I ++ [p.id] } p (upF lots p.id p.qty) (upF side p.id p.side) ⟨[], M.L, p.qty, []⟩ := ⟨trivial, (hT.kp.sub (fun x hx => List.mem_append_left _ hx)), ⟨upF_same _ _ _, upF_same _ _ _⟩, fun x hx => hnew x (List.mem_append_left _ hx), rfl, trivial, by show 0 ≤ p.qty; have := hr.right; omega, fun x hx => ⟨x, hx, rfl, rfl, rfl, rfl⟩, Nat.le_refl _, (fun t ht => by cases ht), (fun f hf => by cases hf)⟩
    have hMF := meetS_fair hr.side (sideO (3 - p.side) M.L) _ hMF0 (MOk.start hL _ _) (fun x hx => (sideO_mem.1 hx).2)
    have hleft := fun s' => meetS_left (M := { M with I := M.I ++ [p.id] }) hr.side (sideO (3 - p.side) M.L) ⟨[], M.L, p.qty, []⟩ s' (MOk.start hL _ _) (sideO_srt _ _) (fun x hx => by rw [tk x (sideO_mem.1 hx).1]; decide) (fun y hy hyS => sideO_mem.2 ⟨hy, hyS⟩)
    unfold tradeM
    have emt : meetM { M with I := M.I ++ [p.id] } p = meetS (alM { M with I := M.I ++ [p.id] }) p (sideO (3 - p.side) M.L) ⟨[], M.L, p.qty, []⟩ := rfl
    rw [← emt] at hMF hleft
    generalize meetM { M with I := M.I ++ [p.id] } p = mt at hMF hleft ⊢
    obtain ⟨s, t⟩ := mt
    dsimp only at hMF hleft ⊢
    refine ⟨hMF.fok, hMF.bands, fun _ => h3, ?_⟩
    have hPk : Keeps (fillsUp (upF lots p.id p.qty) s.fs) (upF side p.id p.side) M.P := keeps_fills (fun f hf x hx => by
      obtain ⟨w1, w2⟩ := hMF.who f hf
      refine ⟨?_, ?_⟩
      · rcases w1 with e | ⟨a, ha, ea⟩
        · rw [e]; exact hnew x (List.mem_append_right _ hx)
        · rw [← ea]; exact h.dis a ha x hx
      · rcases w2 with e | ⟨a, ha, ea⟩
        · rw [e]; exact hnew x (List.mem_append_right _ hx)
        · rw [← ea]; exact h.dis a ha x hx) (hT.kp.sub (fun x hx => List.mem_append_right _ hx))
    generalize hL2 : (if 0 < s.q ∧ p.kind ≠ 2 then addL (leftO p s.q) s.L else s.L) = L2
    have hmem : ∀ x ∈ L2, x ∈ s.L ∨ (x = leftO p s.q ∧ 0 < s.q ∧ p.kind = 1) := fun x hx => by
      by_cases hc : 0 < s.q ∧ p.kind ≠ 2
      · rw [if_pos hc] at hL2
        have hk : p.kind = 1 := hk1.elim id (fun e => absurd e hc.2)
        have hl : lieO (leftO p s.q) = leftO p s.q := if_neg (by show ¬ p.kind = 2; omega)
        rcases hadd hl hL2.symm x hx with h1 | h1
        · exact Or.inl h1
        · exact Or.inr ⟨h1, hc.1, hk⟩
      · rw [if_neg hc] at hL2
        rw [← hL2] at hx
        exact Or.inl hx
    have hlen : L2.length ≤ M.L.length + 1 := by
      have := hMF.len
      have h0 : s.L.length ≤ M.L.length := this
      by_cases hc : 0 < s.q ∧ p.kind ≠ 2
      · rw [if_pos hc] at hL2
        rw [← hL2]
        have := addL_len (leftO p s.q) s.L
        omega
      · rw [if_neg hc] at hL2
        rw [← hL2]; omega
    have hA : DayA { M with I := M.I ++ [p.id], L := L2, la := lastT M.la s.ts } (fillsUp (upF lots p.id p.qty) s.fs) (upF side p.id p.side) := by
      refine ⟨h.tab, h.rl, h.an, ?_, h.sh, h.ti, h.mo, h.lo, h.now, keeps_app (fun x hx => ?_) hPk, fun x hx => ?_, fun x hx y hy => ?_, h.pP, ?_, fills_lb hMF.fok hT.lb⟩
      · show 1 ≤ lastT M.la s.ts ∧ lastT M.la s.ts ≤ 1000000
        exact lastT_in (P := fun t => 1 ≤ t ∧ t ≤ 1000000) h.la hMF.tsr
      · rcases hmem x hx with h1 | ⟨h1, _, _⟩
        · exact hMF.kp x h1
        · rw [h1]; exact hMF.me
      · show x.id ∈ M.I ++ [p.id]
        rcases List.mem_append.1 hx with hx | hx
        · rcases hmem x hx with h1 | ⟨h1, _, _⟩
          · obtain ⟨y, hy, ey, _⟩ := hMF.sub x h1
            rw [← ey]; exact List.mem_append_left _ (h.idI y (List.mem_append_left _ hy))
          · rw [h1]; exact hself
        · exact List.mem_append_left _ (h.idI x (List.mem_append_right _ hx))
      · rcases hmem x hx with h1 | ⟨h1, _, _⟩
        · obtain ⟨z, hz, ez, _⟩ := hMF.sub x h1
          rw [← ez]; exact h.dis z hz y hy
        · rw [h1]; exact hnew y (List.mem_append_right _ hy)
      · show L2.length + M.P.length ≤ 100
        omega
    have hpv3 : (phaseV M.rs M.now).1 = 3 := by
      rcases h.ph with e | ⟨e, _⟩ | e
      · omega
      · omega
      · omega
    have hs0 : since = 0 := h.sn.2 (by omega)
    cases t with
    | true =>
      rw [if_pos rfl]
      have es : sinceN (volM { M with I := M.I ++ [p.id], L := L2, la := lastT M.la s.ts }) since = 0 := by unfold sinceN; rw [hs0]; split <;> rfl
      show DayInv (volM { M with I := M.I ++ [p.id], L := L2, la := lastT M.la s.ts }) _ _ (sinceN (volM { M with I := M.I ++ [p.id], L := L2, la := lastT M.la s.ts }) since) hands
      rw [es]
      refine ⟨⟨hA.tab, hA.rl, hA.an, hA.la, hA.sh, hA.ti, hA.mo, ⟨Int.le_refl 0, h.mo.1⟩, hA.now, hA.kp, hA.idI, hA.dis, hA.pP, hA.few, hA.lb⟩, Or.inr (Or.inl ⟨rfl, hpv3⟩), fun e => absurd (hpv3.symm.trans e) (by decide), (fun e => absurd (show (4 : Int) = 7 from e) (by decide)), (fun e => absurd (show (4 : Int) = 3 from e) (by decide)), (fun _ _ => ?_), ⟨Int.le_refl 0, fun _ => rfl⟩⟩
      show 0 + (M.now + M.ti - M.now) = (0 + 1) * M.ti ∧ 1 ≤ M.now + M.ti - M.now
      have := h.ti
      omega
    | false =>
      rw [if_neg (by decide)]
      have es : sinceN { M with I := M.I ++ [p.id], L := L2, la := lastT M.la s.ts } since = since := sinceN_same h rfl
      show DayInv { M with I := M.I ++ [p.id], L := L2, la := lastT M.la s.ts } _ _ (sinceN { M with I := M.I ++ [p.id], L := L2, la := lastT M.la s.ts } since) hands
      rw [es]
      refine ⟨hA, h.ph, h.fin, fun e => absurd (show M.ph = 7 from e) (by omega), fun _ => ⟨fun x hx => ?_, fun x hx y hy sx sy => ?_⟩, fun _ e => absurd (show M.ph = 4 from e) (by omega), h.sn⟩
      · rcases hmem x hx with h1 | ⟨h1, _, h2⟩
        · obtain ⟨y, hy, _, _, ek, _⟩ := hMF.sub x h1
          rw [← ek]; exact tk y hy
        · rw [h1]; exact h2
      · have far : ∀ {z : Ord}, z ∈ s.L → z.side = 3 - p.side → 0 < s.q → farB p z = true := fun hz hzs hq => hleft s rfl hq _ hz hzs
        have hsd := hr.side
        rcases hmem x hx with h1 | ⟨h1, hq, hk⟩
        · rcases hmem y hy with h2 | ⟨h2, hq, hk⟩
          · obtain ⟨a, ha, _, sa, _, ap⟩ := hMF.sub x h1
            obtain ⟨b, hb, _, sb, _, bp⟩ := hMF.sub y h2
            rw [← ap, ← bp]; exact tap a ha b hb (sa.trans sx) (sb.trans sy)
          · have sp : p.side = 2 := by rw [h2] at sy; exact sy
            have hf := far h1 (by rw [sx, sp]; rfl) hq
            unfold farB at hf
            rw [hk, sp] at hf
            rw [h2]
            show x.price < p.price
            simpa using hf
        · rcases hmem y hy with h2 | ⟨h2, _, _⟩
          · have sp : p.side = 1 := by rw [h1] at sx; exact sx
            have hf := far h2 (by rw [sy, sp]; rfl) hq
            unfold farB at hf
            rw [hk, sp] at hf
            rw [h1]
            show p.price < y.price
            simpa using hf
          · rw [h1] at sx
            rw [h2] at sy
            have a1 : p.side = 1 := sx
            have a2 : p.side = 2 := sy
            omega
  · rw [if_pos (show ({ M with I := M.I ++ [p.id] } : Mkt).ph ≠ 3 from h3)]
    refine ⟨trivial, trivial, fun e => absurd rfl e, ?_⟩
    have es : sinceN { M with I := M.I ++ [p.id], L := addL p M.L } since = since := sinceN_same h rfl
    show DayInv { M with I := M.I ++ [p.id], L := addL p M.L } (upF lots p.id p.qty) (upF side p.id p.side) (sinceN { M with I := M.I ++ [p.id], L := addL p M.L } since) hands
    rw [es]
    have hmem : ∀ x ∈ addL p M.L, x ∈ M.L ∨ x = p := hadd hlie rfl
    refine ⟨⟨h.tab, h.rl, h.an, h.la, h.sh, h.ti, h.mo, h.lo, h.now, ?_, fun x hx => ?_, fun x hx y hy => ?_, h.pP, ?_, hT.lb⟩, h.ph, h.fin, fun e => ?_, fun e => absurd e h3, h.vol, h.sn⟩
    · refine keeps_app (fun x hx => ?_) (hT.kp.sub (fun x hx => List.mem_append_right _ hx))
      rcases hmem x hx with h1 | h1
      · exact hT.kp x (List.mem_append_left _ h1)
      · exact hkp x (List.mem_singleton.2 h1)
    · show x.id ∈ M.I ++ [p.id]
      rcases List.mem_append.1 hx with hx | hx
      · rcases hmem x hx with h1 | h1
        · exact hT.idI x (List.mem_append_left _ h1)
        · rw [h1]; exact hself
      · exact hT.idI x (List.mem_append_right _ hx)
    · rcases hmem x hx with h1 | h1
      · exact h.dis x h1 y hy
      · rw [h1]; exact hnew y (List.mem_append_right _ hy)
    · have := addL_len p M.L
      show (addL p M.L).length + M.P.length ≤ 100
      omega
    · exfalso
      have ht := hr.takes
      have e' : M.ph = 7 := e
      rw [e'] at ht
      have hk := hr.kind
      unfold takesB auctB gathersB at ht
      simp at ht
end
end Go.Proofs.YtjdkagafdnchhaaGreatDoor

/-
  A keeper's map of numbers by numbers, in memory: looked up, written, and written at an entry that was laid ahead. Conditions stand in each theorem.
-/
namespace Go.Proofs.YtjdkagafdnchhaaGreatDoor
open Go.RowKit Go.Maps

/-- an entry found or laid, then written, at keys of any kind that the laws on maps bear -/
theorem entry_keyed {P : Program} {w : World} {t k e : TypeId} {R : Value → Option (DataW Unit × List MemPlace)} {b : Nat} {es : Array MapEntry} {clock : Nat} (K : Maps.Keyed P k) (ht : P.underlying t = some (.map k e)) {z : Value} (hz : ∀ u : World, (zeroValue e).run P u = .ok z u) (hb : w.heap[b]? = some (.map es clock)) (F : WideElems.Fit P k R es clock)
    {key : Value} {kl : Lit} (hkey : keyOf P k key = some kl) :
    ∃ (v0 : Value) (st : Nat) (es1 : Array MapEntry) (clock1 : Nat), (Instr.mapEntry t (.map (some b)) key).run P w = .ok (.tuple #[v0, goInt st]) (ChangeMaps.setBlock w b (.map es1 clock1)) ∧
      ∀ (w2 : World) (val : Value), w2.heap[b]? = some (.map es1 clock1) → ∃ es' clock', (Instr.entryStore t (.map (some b)) (goInt st) val).run P w2 = .ok () (ChangeMaps.setBlock w2 b (.map es' clock')) ∧
        (Instr.mapUpdate t (.map (some b)) key val).run P w = .ok () (ChangeMaps.setBlock w b (.map es' clock')) := by
  have hst := F.stamped
  have at_born : ∀ {xs : Array MapEntry} {j : Nat} {e0 : MapEntry}, (xs.toList.map (·.born)).Nodup → xs.toList[j]? = some e0 → xs.findIdx? (fun e => ((e.born : Nat) : Int) == ((e0.born : Nat) : Int)) = some j := fun hn hj => (WideElems.findIdx_arr _ _).trans (WideElems.findIdx_born hn hj)
  have wrote : ∀ {xs ys : Array MapEntry} {c s j : Nat} {val : Value} {w2 : World}, w2.heap[b]? = some (.map xs c) → xs.findIdx? (fun e => ((e.born : Nat) : Int) == ((s : Nat) : Int)) = some j → xs.modify j (fun e => { e with val := val }) = ys → (Instr.entryStore t (.map (some b)) (goInt s) val).run P w2 = .ok () (ChangeMaps.setBlock w2 b (.map ys c)) := fun {xs ys c s j val w2} h2 hi hm => by
    simp [Instr.entryStore, MapKept.run_getObj_map h2, asInt, asIntOf, goInt, hi, hm, MapKept.run_setObj_map _ h2, Result.andThen, ChangeMaps.setBlock]
  rcases K.find w hkey es.toList F.keys with ⟨f1, _⟩ | ⟨j, e0, f1, f2, f3⟩
  · refine ⟨z, clock, es.push ⟨key, z, clock⟩, clock + 1, ?_, fun w2 val h2 => ⟨es.push ⟨key, val, clock⟩, clock + 1, wrote h2 (at_born (e0 := ⟨key, z, clock⟩) ?_ (by simp : (es.push ⟨key, z, clock⟩).toList[es.size]? = _)) ?_, ?_⟩⟩
    · simp [Instr.mapEntry, run_underlying ht, MapKept.run_getObj_map hb, K.check w false hkey, f1, hz, MapKept.run_setObj_map _ hb, Result.andThen, ChangeMaps.setBlock]
    · rw [Array.toList_push, List.map_append, List.nodup_append]
      refine ⟨hst.2.1, by simp, fun a ha c hc e1 => ?_⟩
      obtain ⟨x, hx, rfl⟩ := List.mem_map.1 ha
      have h1 := hst.1 x hx
      have h2 : c = clock := by simpa using hc
      omega
    · apply Array.ext'
      rw [Array.toList_modify, Array.toList_push, Array.toList_push, ← Array.length_toList, WideElems.modify_last]
    · simp [Instr.mapUpdate, run_underlying ht, MapKept.run_getObj_map hb, K.check w false hkey, f1, MapKept.run_setObj_map _ hb, Result.andThen, ChangeMaps.setBlock]
  · have hj : es[j]? = some e0 := by simpa using f2
    have hk := K.stays w hkey
    have same : es.modify j (fun e => { e with key := key }) = es := by
      apply Array.ext'
      rw [Array.toList_modify, ChangeMaps.modify_eq_set _ _ _ _ f2, show ({ e0 with key := key } : MapEntry) = e0 by rw [← f3]]
      exact WideElems.set_self _ _ _ f2
    refine ⟨e0.val, e0.born, es, clock, ?_, fun w2 val h2 => ⟨es.modify j (fun e' => { e' with key := key, val := val }), clock, wrote h2 (at_born hst.2.1 f2) ?_, ?_⟩⟩
    · simp [Instr.mapEntry, run_underlying ht, MapKept.run_getObj_map hb, K.check w false hkey, f1, hj, f3, hk, same, MapKept.run_setObj_map _ hb, Result.andThen, ChangeMaps.setBlock]
    · apply Array.ext'
      rw [Array.toList_modify, Array.toList_modify, ChangeMaps.modify_eq_set _ _ _ _ f2, ChangeMaps.modify_eq_set _ _ _ _ f2, ← f3]
    · simp [Instr.mapUpdate, run_underlying ht, MapKept.run_getObj_map hb, K.check w false hkey, f1, hj, f3, hk, MapKept.run_setObj_map _ hb, Result.andThen, ChangeMaps.setBlock]
theorem Tryz.zeroN (w : World) : (zeroValue 3).run Tryz.prog w = .ok (.int .i64 0) w := by kernel_rfl
abbrev litN (x : Int) : DataW Unit := .lit (.int .i64 x)
/-- just the numbers f -/
def KdV (D : DataW Unit) (f : Int → Int) : Prop := ∀ id, (Lit.int .i64 id).wf = true → D.atKey (.int .i64 id) (litN 0) = litN (f id)
theorem KdV.put {D : DataW Unit} {f : Int → Int} (h : KdV D f) (hD : Maps.IsMap D) (k x : Int) : KdV (D.put (.int .i64 k) (litN x)) (upF f k x) := fun id hw => by
  by_cases e : id = k
  · subst e
    rw [upF_same]; exact Maps.atKey_put_same hD (isKey _) _ _
  · rw [Maps.atKey_put_other (fun e' => e (lit_inj e')), upF_other e]; exact h id hw
abbrev kdIs (w : World) (B i : Nat) (D : DataW Unit) : Prop := w.ownsMap Tryz.prog 3 (plainElem Tryz.prog 3) B i D
def KdAt (w : World) (B : Nat) (f : Int → Int) (i : Nat) : Prop := ∃ D, kdIs w B i D ∧ KdV D f
section
variable {w w' : World} {B i : Nat} {f : Int → Int} {D : DataW Unit}
theorem kdIs.blk (h : kdIs w B i D) (hb : w'.heap[B]? = w.heap[B]?) : kdIs w' B i D := own_same h hb
theorem KdAt.blk (h : KdAt w B f i) (hb : w'.heap[B]? = w.heap[B]?) : KdAt w' B f i := by
  obtain ⟨D, h1, h2⟩ := h; exact ⟨D, kdIs.blk h1 hb, h2⟩
theorem KdAt.lt (h : KdAt w B f i) : B < w.heap.size := by obtain ⟨D, h1, _⟩ := h; exact h1.lt
theorem KdAt.out {S : Nat → Prop} (h : KdAt w B f i) (ho : Out S w w') (hS : ¬ S B) : KdAt w' B f i := h.blk (ho.block B h.lt hS)
theorem KdAt.below (h : KdAt w B f i) (hb : Below w.heap.size w w') : KdAt w' B f i := h.blk (hb.block B h.lt)
theorem KdAt.ne {b : Nat} {vs : Array Value} {t : TypeId} {fr : Nat × Nat} (h : KdAt w B f i) (hb : w.heap[b]? = some (.cells vs t fr)) : B ≠ b := fun e => by
  obtain ⟨D, ⟨es, clock, e1, _⟩, _⟩ := h
  rw [e, hb] at e1; cases e1
theorem KdAt.more {i' : Nat} (h : KdAt w B f i) (hi : i ≤ i') : KdAt w B f i' := by
  obtain ⟨D, ⟨es, clock, e1, F, hs, e4⟩, h2⟩ := h
  exact ⟨D, ⟨es, clock, e1, F, Nat.le_trans hs hi, e4⟩, h2⟩
theorem kdIs.look (h : kdIs w B i D) (hV : KdV D f) {id : Int} (hw : (Lit.int .i64 id).wf = true) : (Instr.lookup 83 (.map (some B)) (.int .i64 id) false).run Tryz.prog w = .ok (.int .i64 (f id)) w := by
  obtain ⟨c, hr, hc, _⟩ := World.ownsMap.lookup_int h Tryz.keyI Tryz.underlying83 Tryz.underlying3 (Tryz.zeroN w) (Tryz.keyAt hw)
  rw [hV id hw] at hc
  have : f id = c := by simpa [litN] using hc
  rw [hr, this]
theorem KdAt.look (h : KdAt w B f i) {id : Int} (hw : (Lit.int .i64 id).wf = true) : (Instr.lookup 83 (.map (some B)) (.int .i64 id) false).run Tryz.prog w = .ok (.int .i64 (f id)) w := by
  obtain ⟨D, h1, h2⟩ := h; exact h1.look h2 hw
theorem KdAt.store (h : KdAt w B f i) (hi : i ≤ 1000000) {id x : Int} (hw : (Lit.int .i64 id).wf = true) (hx : (Lit.int .i64 x).wf = true) :
    ∃ w', (Instr.mapUpdate 83 (.map (some B)) (.int .i64 id) (.int .i64 x)).run Tryz.prog w = .ok () w' ∧ KdAt w' B (upF f id x) (i + 1) ∧ Out (fun j => j = B) w w' := by
  obtain ⟨D, h1, h2⟩ := h
  obtain ⟨w', hr, h4, h5⟩ := h1.store Tryz.keyI Tryz.underlying83 (by unfold maxLen; omega) (Tryz.keyAt hw) (plainElem_int (H := Unit) Tryz.underlying3 hx)
  exact ⟨w', hr, ⟨_, h4, h2.put (World.ownsMap.isMap h1) id x⟩, turned_out h5⟩
/-- 'm[k] = x' in a statement of several: the entry is found or laid, then written -/
theorem KdAt.entry (h : KdAt w B f i) (hi : i ≤ 1000000) {id : Int} (hw : (Lit.int .i64 id).wf = true) :
    ∃ (v0 : Value) (st : Nat) (w1 : World), (Instr.mapEntry 83 (.map (some B)) (.int .i64 id)).run Tryz.prog w = .ok (.tuple #[v0, .int .i64 st]) w1 ∧ Out (fun j => j = B) w w1 ∧
      ∀ (w2 : World) (x : Int), (Lit.int .i64 x).wf = true → w2.heap[B]? = w1.heap[B]? → ∃ w3, (Instr.entryStore 83 (.map (some B)) (.int .i64 st) (.int .i64 x)).run Tryz.prog w2 = .ok () w3 ∧ Out (fun j => j = B) w2 w3 ∧ KdAt w3 B (upF f id x) (i + 1) := by
  obtain ⟨D, h0, hV⟩ := h
  have h0' := h0
  obtain ⟨es, clock, hb, F, hs, rfl⟩ := h0
  obtain ⟨v0, st, es1, clock1, hr, hst⟩ := entry_keyed Tryz.keyI Tryz.underlying83 Tryz.zeroN hb F (Tryz.keyAt hw)
  have out : ∀ {W : World} {e : Array MapEntry} {c : Nat} (o' : Obj), W.heap[B]? = some (.map e c) → Out (fun j => j = B) W (ChangeMaps.setBlock W B o') := fun {W e c} o' hW => ⟨rfl, rfl, rfl, by simp [ChangeMaps.setBlock], fun j _ hj => ChangeMaps.heap_setBlock_other hW _ (fun e => hj e)⟩
  refine ⟨v0, st, _, hr, out _ hb, fun w2 x hx hw2 => ?_⟩
  have hw2' : w2.heap[B]? = some (.map es1 clock1) := hw2.trans (ChangeMaps.heap_setBlock_same hb _)
  obtain ⟨es', clock', h1, h2⟩ := hst w2 (.int .i64 x) hw2'
  obtain ⟨w', hu, ho, _⟩ := World.ownsMap.update h0' Tryz.keyI Tryz.underlying83 (by unfold maxLen; omega) (Tryz.keyAt hw) (plainElem_int (H := Unit) Tryz.underlying3 hx)
  rw [h2] at hu
  injection hu with _ hu
  refine ⟨_, h1, out _ hw2', _, kdIs.blk ho ?_, hV.put (World.ownsMap.isMap h0') id x⟩
  rw [ChangeMaps.heap_setBlock_same hw2' _, ← hu, ChangeMaps.heap_setBlock_same hb _]
theorem kd_made (w : World) : KdAt (w.alloc (.map #[] 0)) w.heap.size (fun _ => 0) 0 := by
  have := World.ownsMap_made (H := Unit) w Tryz.prog 3 (plainElem Tryz.prog 3)
  exact ⟨_, this, fun _ _ => rfl⟩
end
end Go.Proofs.YtjdkagafdnchhaaGreatDoor
