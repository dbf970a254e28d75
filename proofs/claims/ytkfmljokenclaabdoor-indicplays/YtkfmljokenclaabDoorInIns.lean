/-
  What slices.Insert of one level does to a row of levels, over this seat's translation: at the end, with room, and without. Conditions stand in each theorem.
-/
import Derived.Test.YtkfmljokenclaabDoorInLv
import Derived.Shelf.Spec.SlicesInsert
import Derived.Lib.AppendZerosOnto
import Derived.Lib.Overlaps
import Derived.Deep.RegionLaw
import Derived.Laws.CopyRow
namespace Go.Proofs.YtkfmljokenclaabDoor
open Go.RowKit Go.Shelf

/-- copy of elements of some cells into a block that is known whole -/
theorem run_copy_sz {P : Program} (sz : Nat) (W : World) (dT sT ty elem : TypeId) (g o dLen dCap : Nat) (a : Addr) (sLen sCap : Nat) (cur : Array Value) (t : TypeId) (cs : List Value) (k : Nat)
    (hu : P.underlying dT = some (.slice elem)) (hs : (P.info? elem).map (·.size) = some sz) (hg : W.heap[g]? = some (.cells cur t (0, 0))) (hk : Nat.min sLen dLen = k) (hn : cs.length = k * sz)
    (hsrc : ∀ j v, cs[j]? = some v → W.cell? (a.add j) = some v) (hfit : o + cs.length ≤ cur.size) (h1 : ∀ v ∈ cs, v.oneCell' = true) :
    ∃ W', (Builtin.copy_ #[dT, sT] ty #[.slice (some ⟨g, o, none⟩) dLen dCap, .slice (some a) sLen sCap]).run P W = .ok (goInt k) W'
      ∧ W'.heap[g]? = some (.cells (cur.toList.take o ++ cs ++ cur.toList.drop (o + cs.length)).toArray t (0, 0)) ∧ Out (fun j => j = g) W W' := by
  refine ⟨W.setRow g (cur.toList.take o ++ cs ++ cur.toList.drop (o + cs.length)).toArray, ?_, setRow_heap W g _ _ t _ hg, ⟨rfl, rfl, rfl, by simp [World.setRow], fun j _ hj => setRow_other W g j _ hj⟩⟩
  have hst := run_storeCells_at P g o t cs 0 cur W hg (by simpa using hfit) h1
  cases hq : P.info? elem with
  | none => simp [hq] at hs
  | some i =>
    have hi : i.size = sz := by simpa [hq] using hs
    have hl := run_firstCells_some (P := P) W sz k a sLen sCap cs hn hsrc
    simp [Builtin.copy_, run_underlying hu, Builtin.lenOf, sizeOf, typeInfo, hq, hi, hk, hl, hst]

theorem Tryd.infoL : (Tryd.prog.info? 67).map (fun i => (i.zero, i.size, i.bytes)) = some (some (.agg #[.int .i64 0, .int .i64 0, .int .i64 0, .int .i64 0]), 4, 32) := by kernel_rfl
theorem Tryd.sizeL : (Tryd.prog.info? 67).map (·.size) = some 4 := by kernel_rfl
theorem Tryd.sizeOfL (w : World) : (Go.sizeOf 67).run Tryd.prog w = .ok 4 w := by kernel_rfl

/-- what Insert leaves -/
def LvPost (w W' : World) (ob : Option Nat) (v' : Value) (l' : List Lv) : Prop :=
  ∃ g cap, v' = .slice (some ⟨g, 0, none⟩) l'.length cap ∧ W'.ownsRow 0 67 4 v' l'.length (lvV l') ∧ Out (fun k => ob = some k) w W' ∧ (ob = some g ∨ w.heap.size ≤ g)

set_option maxRecDepth 100000 in
set_option maxHeartbeats 4000000 in
theorem lvIns_end (vb : Nat) (v : Value) (l : List Lv) (x : Lv) (w : World) (hr : w.ownsRow 0 67 4 v l.length (lvV l)) (hl : l.length ≤ 1000) (hvb : w.heap[vb]? = some (.cells #[.int .i64 x.price, .int .i64 0, .int .i64 x.buy, .int .i64 x.sell] 67 (0, 0))) :
    Calls Tryd.prog 30 #[v, .int .i64 l.length, .slice (some ⟨vb, 0, none⟩) 1 1] w fun e W' => ∃ v', e = .returned v' ∧ LvPost w W' v.ownBlock v' (l ++ [x]) := by
  obtain ⟨i0, hi, hz0, hz1, hz2⟩ := info_parts Tryd.infoL
  obtain ⟨ao, cap, rfl, hcap, hcm⟩ := owns_shape hr
  have HR : Hid (w.ownsRow 0 67 4 (.slice ao l.length cap) l.length (lvV l)) := hr
  obtain ⟨ob, hob⟩ : ∃ ob, (Value.slice ao l.length cap).ownBlock = ob := ⟨_, rfl⟩
  rw [hob]
  have HOB : Hid ((Value.slice ao l.length cap).ownBlock = ob) := hob
  clear hr hob
  have q1 : (0 : Int) ≤ (l.length : Int) := by omega
  have q2 : l.length ≤ cap := hcap
  go_enter Tryd.func30, Tryd.ntmps30
  go_wp2_with (at_builtin; refine wpList_append_lies _ rfl _ _ 23 rfl 0 67 i0 (.agg #[.int .i64 0, .int .i64 0, .int .i64 0, .int .i64 0]) 4 32 Tryd.underlying23 hi hz0 hz1 hz2 rfl (by decide) (.slice ao l.length cap) l.length (lvV l) rfl HR.out ⟨vb, 0, none⟩ 1 1 [.int .i64 x.price, .int .i64 0, .int .i64 x.buy, .int .i64 x.sell] rfl rfl (World.news_of_block (cs := #[.int .i64 x.price, .int .i64 0, .int .i64 x.buy, .int .i64 x.sell]) (t := 67) (fr := (0, 0)) hvb) (by simp [Value.oneCell']) (by decide) (by unfold maxLen; omega) (by omega) (Nat.zero_le _) w.heap.size rfl ?_; intro g cg w1 hown hgrow hat hlt)
  all_goals go_ret
  all_goals refine ⟨_, rfl, g, cg, by rw [List.length_append]; rfl, ?_, Out.of_grown hgrow (fun k hk => HOB.out ▸ hk), (HOB.out ▸ hat).imp id (fun e => by omega)⟩
  all_goals rw [List.length_append, List.length_singleton, lvV_append]
  all_goals exact hown

theorem lvRoom_row {A B C : List Value} (x0 x1 x2 x3 : Value) (hC : 4 ≤ C.length) :
    (((A ++ (B ++ C)).take (A.length + 4) ++ B ++ (A ++ (B ++ C)).drop (A.length + 4 + B.length)).take A.length ++ [x0, x1, x2, x3] ++ ((A ++ (B ++ C)).take (A.length + 4) ++ B ++ (A ++ (B ++ C)).drop (A.length + 4 + B.length)).drop (A.length + 4)) = A ++ (x0 :: x1 :: x2 :: x3 :: (B ++ C.drop 4)) := by
  have h1 : (A ++ (B ++ C)).take (A.length + 4) = A ++ (B ++ C).take 4 := by
    rw [List.take_append, List.take_of_length_le (by omega)]
    congr 2; omega
  have h2 : (A ++ (B ++ C)).drop (A.length + 4 + B.length) = C.drop 4 := by
    rw [List.drop_append, List.drop_of_length_le (by omega), List.nil_append, List.drop_append, List.drop_of_length_le (by omega), List.nil_append]
    congr 1; omega
  have h3 : ((B ++ C).take 4).length = 4 := by simp; omega
  rw [h1, h2]
  generalize (B ++ C).take 4 = T at h3
  simp only [List.append_assoc]
  rw [List.take_left', List.drop_append, List.drop_of_length_le (by omega), List.nil_append]
  · rw [show A.length + 4 - A.length = T.length by omega, List.drop_left]; rfl
  · rfl

set_option maxRecDepth 100000 in
set_option maxHeartbeats 4000000 in
theorem lvIns_room (vb g cap i : Nat) (l : List Lv) (x : Lv) (w : World) (hr : w.ownsRow 0 67 4 (.slice (some ⟨g, 0, none⟩) l.length cap) l.length (lvV l)) (hl : l.length ≤ 1000) (hi : i < l.length) (hroom : l.length + 1 ≤ cap)
    (hvb : w.heap[vb]? = some (.cells #[.int .i64 x.price, .int .i64 0, .int .i64 x.buy, .int .i64 x.sell] 67 (0, 0))) (hne : vb ≠ g) :
    Calls Tryd.prog 30 #[.slice (some ⟨g, 0, none⟩) l.length cap, .int .i64 i, .slice (some ⟨vb, 0, none⟩) 1 1] w fun e W' => ∃ v', e = .returned v' ∧ LvPost w W' (some g) v' (insLv i x l) := by
  rcases hr.2 with ⟨h', _⟩ | ⟨g', cap', cur, h', _, hg, hnc, hcm, hcs, ht⟩
  · simp at h'
  simp only [Value.slice.injEq, Option.some.injEq, Addr.mk.injEq, and_true, true_and] at h'
  obtain ⟨rfl, rfl⟩ := h'
  clear hr
  unfold maxLen at hcm
  have hcut : cur.toList = lvV (l.take i) ++ (lvV (l.drop i) ++ cur.toList.drop (l.length * 4)) := by
    rw [← List.append_assoc, ← lvV_split, ← ht, List.take_append_drop]
  have hA : (lvV (l.take i)).length = i * 4 := by rw [lvV_length, List.length_take]; omega
  have hBl : (lvV (l.drop i)).length = (l.length - i) * 4 := by rw [lvV_length, List.length_drop]
  have hCl : (cur.toList.drop (l.length * 4)).length = (cap - l.length) * 4 := by rw [List.length_drop, Array.length_toList, hcs]; omega
  have hsa : w.shape? vb = some (67, 4) := by simp [World.shape?, hvb]
  have hsb : w.shape? g = some (67, cap * 4) := by simp [World.shape?, hg, hcs]
  have hov : ∀ lb cb, (callFunc 48 #[.slice (some ⟨vb, 0, none⟩) 1 1, .slice (some ⟨g, (i + 1) * 4, none⟩) lb cb]).run Tryd.prog w = .ok (.value (.bool false)) w := fun lb cb => by
    rw [run_callFunc_extern Tryd.func48 (by kernel_rfl) (by kernel_rfl) (by kernel_rfl) (e := Extern.SlicesOverlaps.overlaps #[23, 23] #[4]) (by kernel_rfl),
      Lib.run_overlaps_apart w 23 4 67 Tryd.underlying23 4 Tryd.sizeOfL ⟨vb, 0, none⟩ ⟨g, (i + 1) * 4, none⟩ 1 1 lb cb hne 67 67 4 (cap * 4) hsa hsb (by omega) (blk_free hvb) (blk_free hvb)]
    rfl
  have hsrc : ∀ j u, (lvV (l.drop i))[j]? = some u → w.drew.cell? ((⟨g, i * 4, none⟩ : Addr).add j) = some u := fun j u hj => by
    rw [Addr.add_lit]
    refine blk_cell (w := w) hg ?_
    rw [← Array.getElem?_toList, hcut, List.getElem?_append_right (by omega), hA, show i * 4 + j - i * 4 = j by omega, List.getElem?_append_left (by have := (List.getElem?_eq_some_iff.1 hj).1; omega)]
    exact hj
  obtain ⟨W1, hr1, hg1, ho1⟩ := run_copy_sz (P := Tryd.prog) 4 w.drew 23 23 3 67 g ((i + 1) * 4) (l.length + 1 - (i + 1)) (cap - (i + 1)) ⟨g, i * 4, none⟩ (l.length + 1 - i) (cap - i) cur 67 (lvV (l.drop i)) (l.length - i)
    Tryd.underlying23 Tryd.sizeL hg (by simp only [Nat.min_def]; split <;> omega) hBl hsrc (by rw [hBl, hcs]; omega) (lvV_one _)
  have hvb1 : W1.heap[vb]? = some (.cells #[.int .i64 x.price, .int .i64 0, .int .i64 x.buy, .int .i64 x.sell] 67 (0, 0)) := blk_out (w := w.drew) hvb ho1 hne
  generalize hcur1 : (cur.toList.take ((i + 1) * 4) ++ lvV (l.drop i) ++ cur.toList.drop ((i + 1) * 4 + (lvV (l.drop i)).length)).toArray = cur1 at hg1
  have hcz : cur1.size = cap * 4 := by
    rw [← hcur1]; simp [hBl]; omega
  obtain ⟨W2, hr2, hg2, ho2⟩ := run_copy_sz (P := Tryd.prog) 4 W1 23 23 3 67 g (i * 4) (l.length + 1 - i) (cap - i) ⟨vb, 0, none⟩ 1 1 cur1 67 [.int .i64 x.price, .int .i64 0, .int .i64 x.buy, .int .i64 x.sell] 1
    Tryd.underlying23 Tryd.sizeL hg1 (by simp only [Nat.min_def]; split <;> omega) rfl (World.news_of_block (cs := #[.int .i64 x.price, .int .i64 0, .int .i64 x.buy, .int .i64 x.sell]) (t := 67) (fr := (0, 0)) hvb1) (by rw [hcz]; simp; omega) (by simp [Value.oneCell'])
  have HFIN : Hid (LvPost w W2 (some g) (.slice (some ⟨g, 0, none⟩) (l.length + 1) cap) (insLv i x l)) := by
    have hlen := insLv_length x (Nat.le_of_lt hi)
    refine ⟨g, cap, by rw [hlen], ⟨by rw [lvV_length], Or.inr ⟨g, cap, _, by rw [hlen], Nat.zero_le _, hg2, by omega, by unfold maxLen; omega, ?_, ?_⟩⟩, ?_, Or.inl rfl⟩
    · simp [hcz]; omega
    · have hrow := lvRoom_row (A := lvV (l.take i)) (B := lvV (l.drop i)) (C := cur.toList.drop (l.length * 4)) (.int .i64 x.price) (.int .i64 0) (.int .i64 x.buy) (.int .i64 x.sell) (by omega)
      rw [← hcut, hA, show i * 4 + 4 = (i + 1) * 4 by omega, show cur.toList.take ((i + 1) * 4) ++ lvV (l.drop i) ++ cur.toList.drop ((i + 1) * 4 + (lvV (l.drop i)).length) = cur1.toList by rw [← hcur1]] at hrow
      rw [show i * 4 + [Value.int .i64 x.price, Value.int .i64 0, Value.int .i64 x.buy, Value.int .i64 x.sell].length = (i + 1) * 4 by simp; omega]
      dsimp only
      rw [hrow, insLv_lvV, hlen, List.take_append, List.take_of_length_le (by omega), hA, show (l.length + 1) * 4 - i * 4 = (lvV (l.drop i)).length + 1 + 1 + 1 + 1 by omega, List.take_succ_cons, List.take_succ_cons, List.take_succ_cons, List.take_succ_cons, List.take_left]
    · exact (Out.of_below (Below.refl w.heap.size w).drew (Nat.le_refl _)).trans ((ho1.mono (fun j hj => by rw [hj])).trans (ho2.mono (fun j hj => by rw [hj])) (Went.refl _ _)) (Went.refl _ _)
  clear hg1 hg2 ho1 ho2 hsrc hcut hA hBl hCl hsa hsb hcur1 hcz hvb1 hg hcs ht
  have q0 : IntKind.i64.wrap ((i : Int) + 1) = (i : Int) + 1 := IntWalk.i64_in _ (by omega)
  have q1 : (0 : Int) ≤ (i : Int) + 1 := by omega
  have q2 : i ≤ l.length := by omega
  have q3 : ((i : Int) + 1).toNat = i + 1 := by omega
  have q4 : ¬ (cap = i + 1) := by omega
  have q5 : (i : Int) ≤ (l.length : Int) + 1 := by omega
  have q6 : ¬ (cap = i) := by omega
  have q7 : ((i : Int) == (l.length : Int)) = false := beq_eq_false_iff_ne.2 (by omega)
  go_enter Tryd.func30, Tryd.ntmps30
  go_wp2_with (simp only [hov])
  go_region_law (refine step_copy_runI rfl _ _ 23 23 rfl _ _ (by simp [Act.eval, Act.put]) (by simp [Act.eval, Act.put]) hr1 ?_)
  go_wp2_with (at_builtin; refine wpList_copy_runI _ rfl _ _ 23 23 rfl _ _ rfl rfl hr2 ?_)
  go_ret
  exact ⟨_, rfl, HFIN.out⟩

theorem lvZero_len (n : Nat) : (Builtin.zeroCells (Value.agg #[.int .i64 0, .int .i64 0, .int .i64 0, .int .i64 0]).cells n).toList.length = n * 4 := by
  simp [Builtin.zeroCells, Value.cells]
/-- the new row, filled -/
theorem lvGrow_row {A B Z : List Value} (x0 x1 x2 x3 : Value) :
    (((A ++ Z).take A.length ++ [x0, x1, x2, x3] ++ (A ++ Z).drop (A.length + 4)).take (A.length + 4) ++ B ++ ((A ++ Z).take A.length ++ [x0, x1, x2, x3] ++ (A ++ Z).drop (A.length + 4)).drop (A.length + 4 + B.length)) = A ++ (x0 :: x1 :: x2 :: x3 :: (B ++ Z.drop (4 + B.length))) := by
  have h1 : (A ++ Z).take A.length ++ [x0, x1, x2, x3] ++ (A ++ Z).drop (A.length + 4) = A ++ [x0, x1, x2, x3] ++ Z.drop 4 := by
    rw [List.take_left, List.drop_append, List.drop_of_length_le (by omega), List.nil_append]
    congr 2; omega
  rw [h1, List.take_left' (by simp), List.drop_append, List.drop_of_length_le (by simp), List.nil_append, List.drop_drop]
  simp

set_option maxRecDepth 100000 in
set_option maxHeartbeats 4000000 in
theorem lvIns_grow (vb g cap i : Nat) (l : List Lv) (x : Lv) (w : World) (hr : w.ownsRow 0 67 4 (.slice (some ⟨g, 0, none⟩) l.length cap) l.length (lvV l)) (hl : l.length ≤ 1000) (hi : i < l.length) (hroom : cap < l.length + 1)
    (hvb : w.heap[vb]? = some (.cells #[.int .i64 x.price, .int .i64 0, .int .i64 x.buy, .int .i64 x.sell] 67 (0, 0))) :
    Calls Tryd.prog 30 #[.slice (some ⟨g, 0, none⟩) l.length cap, .int .i64 i, .slice (some ⟨vb, 0, none⟩) 1 1] w fun e W' => ∃ v', e = .returned v' ∧ LvPost w W' (some g) v' (insLv i x l) := by
  obtain ⟨i0, hi0, hz0, hzs, hzb⟩ := info_parts Tryd.infoL
  rcases hr.2 with ⟨h', _⟩ | ⟨g', cap', cur, h', _, hg, hnc, hcm, hcs, ht⟩
  · simp at h'
  simp only [Value.slice.injEq, Option.some.injEq, Addr.mk.injEq, and_true, true_and] at h'
  obtain ⟨rfl, rfl⟩ := h'
  clear hr
  obtain rfl : cap = l.length := by omega
  have hcut : cur.toList = lvV l := by
    rw [← ht, List.take_of_length_le (by rw [Array.length_toList, hcs]; omega)]
  have hA : (lvV (l.take i)).length = i * 4 := by rw [lvV_length, List.length_take]; omega
  have hBl : (lvV (l.drop i)).length = (l.length - i) * 4 := by rw [lvV_length, List.length_drop]
  have hold : (Builtin.firstCells i0.size i (.slice (some ⟨g, 0, none⟩) i l.length)).run Tryd.prog w.drew = .ok (lvV (l.take i)).toArray w.drew := by
    rw [hzs]
    exact run_firstCells_some w.drew 4 i ⟨g, 0, none⟩ i l.length (lvV (l.take i)) hA (fun j v hj => by
      rw [Addr.add_lit]
      refine blk_cell (w := w) hg ?_
      rw [← Array.getElem?_toList, hcut, lvV_split i l, Nat.zero_add, List.getElem?_append_left (List.getElem?_eq_some_iff.1 hj).1]
      exact hj)
  have hkk : (l.length : Int) + 1 - (i : Int) = ((l.length + 1 - i : Nat) : Int) := by omega
  have hik : i + (l.length + 1 - i) = l.length + 1 := by omega
  have hrz := Lib.run_append_grow_zeros w 23 3 23 67 i0 _ .i64 .i64 Tryd.underlying23 Tryd.underlying3 hi0 hz0 (some ⟨g, 0, none⟩) i l.length (lvV (l.take i)) hold (l.length + 1 - i) (by omega) (by rw [hzs]; decide) (by omega) (by omega) (by rw [hzb]; omega) (by rw [hzb, hik]; exact growslice_fits (by omega) (by omega))
  rw [hik, ← hkk] at hrz
  have hGn := grownCap_ge w (l.length + 1) l.length 67
  have hGm := grownCap_le_maxLen w (l.length + 1) l.length 67 (by unfold maxLen; omega)
  generalize grownCap w (l.length + 1) l.length 67 = G at hrz hGn hGm
  generalize hrow : (lvV (l.take i)).toArray ++ Builtin.zeroCells (Value.agg #[.int .i64 0, .int .i64 0, .int .i64 0, .int .i64 0]).cells (l.length + 1 - i) ++ Builtin.zeroCells (Value.agg #[.int .i64 0, .int .i64 0, .int .i64 0, .int .i64 0]).cells (G - (l.length + 1)) = ROW at hrz
  have hRL : ∃ Z : List Value, ROW.toList = lvV (l.take i) ++ Z ∧ Z.length = (G - i) * 4 := by
    refine ⟨(Builtin.zeroCells (Value.agg #[.int .i64 0, .int .i64 0, .int .i64 0, .int .i64 0]).cells (l.length + 1 - i)).toList ++ (Builtin.zeroCells (Value.agg #[.int .i64 0, .int .i64 0, .int .i64 0, .int .i64 0]).cells (G - (l.length + 1))).toList, ?_, ?_⟩
    · rw [← hrow]; simp
    · rw [List.length_append, lvZero_len, lvZero_len]; omega
  obtain ⟨Z, hRZ, hZl⟩ := hRL
  have hRs : ROW.size = G * 4 := by
    rw [← Array.length_toList, hRZ, List.length_append, hA, hZl]; omega
  clear hrow hold
  have hgN : (w.drew.alloc (.cells ROW 67)).heap[w.heap.size]? = some (.cells ROW 67 (0, 0)) := heap_alloc_new w.drew _
  have hbN : Below w.heap.size w (w.drew.alloc (.cells ROW 67)) := (Below.refl w.heap.size w).drew.alloc (Nat.le_refl _) _
  generalize w.drew.alloc (.cells ROW 67) = WN at hrz hgN hbN
  have lvb := lt_of_block hvb
  have lg := lt_of_block hg
  obtain ⟨W1, hr1, hg1, ho1⟩ := run_copy_sz (P := Tryd.prog) 4 WN 23 23 3 67 w.heap.size (i * 4) (l.length + 1 - i) (G - i) ⟨vb, 0, none⟩ 1 1 ROW 67 [.int .i64 x.price, .int .i64 0, .int .i64 x.buy, .int .i64 x.sell] 1
    Tryd.underlying23 Tryd.sizeL hgN (by simp only [Nat.min_def]; split <;> omega) rfl (World.news_of_block (cs := #[.int .i64 x.price, .int .i64 0, .int .i64 x.buy, .int .i64 x.sell]) (t := 67) (fr := (0, 0)) (blk_below hvb hbN (Nat.le_refl _))) (by rw [hRs]; simp only [List.length_cons, List.length_nil]; omega) (by simp [Value.oneCell'])
  generalize hcur1 : (ROW.toList.take (i * 4) ++ [Value.int .i64 x.price, Value.int .i64 0, Value.int .i64 x.buy, Value.int .i64 x.sell] ++ ROW.toList.drop (i * 4 + [Value.int .i64 x.price, Value.int .i64 0, Value.int .i64 x.buy, Value.int .i64 x.sell].length)).toArray = cur1 at hg1
  have hcz : cur1.size = G * 4 := by
    rw [← hcur1]; simp only [List.size_toArray, List.length_append, List.length_take, List.length_drop, hRZ, hA, hZl, List.length_cons, List.length_nil]; omega
  have hgW : W1.heap[g]? = some (.cells cur 67 (0, 0)) := blk_out (w := WN) (b := g) (blk_below hg hbN (Nat.le_refl _)) ho1 (fun e => by have e' : g = w.heap.size := e; omega)
  have hg' : W1.drew.heap[g]? = some (.cells cur 67 (0, 0)) := hgW
  have hsrc : ∀ j u, (lvV (l.drop i))[j]? = some u → W1.drew.cell? ((⟨g, i * 4, none⟩ : Addr).add j) = some u := fun j u hj => by
    rw [Addr.add_lit]
    refine blk_cell hg' ?_
    rw [← Array.getElem?_toList, hcut, lvV_split i l, List.getElem?_append_right (by omega), hA, show i * 4 + j - i * 4 = j by omega]
    exact hj
  obtain ⟨W2, hr2, hg2, ho2⟩ := run_copy_sz (P := Tryd.prog) 4 W1.drew 23 23 3 67 w.heap.size ((i + 1) * 4) (l.length + 1 - (i + 1)) (G - (i + 1)) ⟨g, i * 4, none⟩ (l.length - i) (l.length - i) cur1 67 (lvV (l.drop i)) (l.length - i)
    Tryd.underlying23 Tryd.sizeL hg1 (by simp only [Nat.min_def]; split <;> omega) hBl hsrc (by rw [hBl, hcz]; omega) (lvV_one _)
  have HFIN : Hid (LvPost w W2 (some g) (.slice (some ⟨w.heap.size, 0, none⟩) (l.length + 1) G) (insLv i x l)) := by
    have hlen := insLv_length x (Nat.le_of_lt hi)
    refine ⟨w.heap.size, G, by rw [hlen], ⟨by rw [lvV_length], Or.inr ⟨w.heap.size, G, _, by rw [hlen], Nat.zero_le _, hg2, by omega, hGm, ?_, ?_⟩⟩, ?_, Or.inr (Nat.le_refl _)⟩
    · simp [hcz, hBl]; omega
    · have hrow := lvGrow_row (A := lvV (l.take i)) (B := lvV (l.drop i)) (Z := Z) (.int .i64 x.price) (.int .i64 0) (.int .i64 x.buy) (.int .i64 x.sell)
      rw [← hRZ, hA, show i * 4 + 4 = (i + 1) * 4 by omega, show ROW.toList.take (i * 4) ++ [Value.int .i64 x.price, Value.int .i64 0, Value.int .i64 x.buy, Value.int .i64 x.sell] ++ ROW.toList.drop ((i + 1) * 4) = cur1.toList by rw [← hcur1]; simp; omega] at hrow
      dsimp only
      rw [hrow, insLv_lvV, hlen, List.take_append, List.take_of_length_le (by omega), hA, show (l.length + 1) * 4 - i * 4 = (lvV (l.drop i)).length + 1 + 1 + 1 + 1 by omega, List.take_succ_cons, List.take_succ_cons, List.take_succ_cons, List.take_succ_cons, List.take_left]
    · have o1 : Out (fun k => k = w.heap.size) WN W2 := ho1.trans ((Out.of_below (Below.refl W1.heap.size W1).drew (Nat.le_refl _)).trans ho2 (Went.refl _ _)) (Went.refl _ _)
      exact (Out.of_below hbN (Nat.le_refl _)).trans o1 (fun k hk => Or.inr (by omega))
  clear hg1 hg2 ho1 ho2 hsrc hcut hA hBl hcur1 hcz hg hcs ht hg' hgW hgN hbN hRZ hZl hRs hkk hik
  have q0 : IntKind.i64.wrap ((i : Int) + 1) = (i : Int) + 1 := IntWalk.i64_in _ (by omega)
  have q1 : (0 : Int) ≤ (i : Int) + 1 := by omega
  have q2 : i ≤ l.length := by omega
  have q3 : ((i : Int) + 1).toNat = i + 1 := by omega
  have q4 : ¬ (G = i + 1) := by omega
  have q5 : (i : Int) ≤ (l.length : Int) := by omega
  have q6 : ¬ (G = i) := by omega
  have q7 : ((i : Int) == (l.length : Int)) = false := beq_eq_false_iff_ne.2 (by omega)
  have q8 : ¬ (l.length = i) := by omega
  go_enter Tryd.func30, Tryd.ntmps30
  go_wp2_with (first
    | (at_builtin; refine Lib.wpList_append_run _ rfl _ _ _ _ rfl _ _ rfl rfl _ _ hrz ?_)
    | (at_builtin; refine wpList_copy_runI _ rfl _ _ 23 23 rfl _ _ rfl rfl hr1 ?_))
  go_region_law (refine step_copy_runI rfl _ _ 23 23 rfl _ _ (by simp [Act.eval, Act.put]) (by simp [Act.eval, Act.put]) hr2 ?_)
  go_wp2
  go_ret
  exact ⟨_, rfl, HFIN.out⟩

/-- slices.Insert of one level, wherever -/
theorem lvIns (vb i : Nat) (v : Value) (l : List Lv) (x : Lv) (w : World) (hr : w.ownsRow 0 67 4 v l.length (lvV l)) (hl : l.length ≤ 1000) (hi : i ≤ l.length)
    (hvb : w.heap[vb]? = some (.cells #[.int .i64 x.price, .int .i64 0, .int .i64 x.buy, .int .i64 x.sell] 67 (0, 0))) (hne : v.ownBlock ≠ some vb) :
    Calls Tryd.prog 30 #[v, .int .i64 i, .slice (some ⟨vb, 0, none⟩) 1 1] w fun e W' => ∃ v', e = .returned v' ∧ LvPost w W' v.ownBlock v' (insLv i x l) := by
  by_cases h1 : i = l.length
  · subst h1
    rw [insLv_end]
    exact lvIns_end vb v l x w hr hl hvb
  · obtain ⟨g, cap, rfl, _, _⟩ := hr.form (by omega)
    have hg : vb ≠ g := fun e => hne (by rw [e]; rfl)
    by_cases h2 : l.length + 1 ≤ cap
    · exact lvIns_room vb g cap i l x w hr hl (by omega) h2 hvb hg
    · exact lvIns_grow vb g cap i l x w hr hl (by omega) (by omega) hvb
end Go.Proofs.YtkfmljokenclaabDoor
