/-
  What slices.DeleteFunc does to a row of handles when the one that is asked for lies there, over this seat's translation. Conditions stand in each theorem.
-/
import Derived.Test.YtjdkagafdnchhaaGreatDoorLD
import Derived.Laws.StructEq
namespace Go.Proofs.YtjdkagafdnchhaaGreatDoor
open Go.RowKit

theorem hV_set {l : List Ly} {k : Nat} (x : Ly) (h : k < l.length) : ((hV l).set (k * 2) (.int .i64 x.slot)).set (k * 2 + 1) (.int .i64 x.age) = hV (l.set k x) := by
  induction l generalizing k with
  | nil => simp at h
  | cons r rs ih =>
    cases k with
    | zero => rfl
    | succ k =>
      have := ih (k := k) (by simpa using h)
      rw [show (k + 1) * 2 = k * 2 + 1 + 1 by omega]
      simp only [hV, List.set_cons_succ]
      rw [← this]

/-- the row in the midst of it: the places from i on are filled from behind, up to j -/
def shiftL (i j : Nat) (l : List Ly) : List Ly := l.take i ++ ((l.take j).drop (i + 1) ++ l.drop (j - 1))
theorem shiftL_start {i : Nat} {l : List Ly} (_h : i < l.length) : shiftL i (i + 1) l = l := by
  unfold shiftL
  rw [List.drop_of_length_le (by simp; omega), List.nil_append]
  simp
theorem shiftL_length {i j : Nat} {l : List Ly} (h1 : i < j) (h2 : j ≤ l.length) : (shiftL i j l).length = l.length := by
  unfold shiftL
  simp
  omega
theorem shiftL_at {i j : Nat} {l : List Ly} (h1 : i < j) (h2 : j < l.length) : lyAt (shiftL i j l) j = lyAt l j := by
  unfold lyAt shiftL
  rw [List.getD_eq_getElem?_getD, List.getD_eq_getElem?_getD, List.getElem?_append_right (by simp; omega), List.getElem?_append_right (by simp; omega), List.getElem?_drop]
  simp
  congr 2
  omega
theorem shiftL_step {i j : Nat} {l : List Ly} (h1 : i < j) (h2 : j < l.length) : (shiftL i j l).set (j - 1) (lyAt l j) = shiftL i (j + 1) l := by
  have hA : (l.take i).length = i := by simp; omega
  have hB : ((l.take j).drop (i + 1)).length = j - 1 - i := by simp; omega
  unfold shiftL
  rw [List.set_append_right _ _ (by omega), List.set_append_right _ _ (by omega), hA, hB]
  congr 1
  rw [show j - 1 - i - (j - 1 - i) = 0 by omega, show j + 1 - 1 = j by omega]
  obtain ⟨j', rfl⟩ : ∃ j', j = j' + 1 := ⟨j - 1, by omega⟩
  rw [show j' + 1 - 1 = j' by omega, List.drop_eq_getElem_cons (show j' < l.length by omega), List.set_cons_zero]
  have e : (l.take (j' + 1 + 1)).drop (i + 1) = (l.take (j' + 1)).drop (i + 1) ++ [l[j' + 1]] := by
    rw [List.take_succ_eq_append_getElem h2, List.drop_append_of_le_length (by simp; omega)]
  rw [e, List.append_assoc, lyAt_eq h2]
  rfl
/-- one is gone -/
def outAt (i : Nat) (l : List Ly) : List Ly := l.take i ++ l.drop (i + 1)
theorem outAt_length {i : Nat} {l : List Ly} (h : i < l.length) : (outAt i l).length = l.length - 1 := by unfold outAt; simp; omega
theorem outAt_perm {i : Nat} {l : List Ly} (h : i < l.length) : l.Perm (lyAt l i :: outAt i l) := by
  have h1 : l = l.take i ++ lyAt l i :: l.drop (i + 1) := by rw [lyAt_eq h, ← List.drop_eq_getElem_cons h, List.take_append_drop]
  have h2 := List.perm_middle (a := lyAt l i) (l₁ := l.take i) (l₂ := l.drop (i + 1))
  rw [← h1] at h2
  exact h2
theorem shiftL_end {i : Nat} {l : List Ly} (h : i < l.length) : (shiftL i l.length l).take (l.length - 1) = outAt i l := by
  unfold shiftL outAt
  rw [List.take_length, ← List.append_assoc, List.take_left' (by simp; omega)]

/-- is it that handle? -/
def isH (x : Ly) (k : Nat) (a : Int) : Bool := decide (x.slot = k) && decide (x.age = a)

set_option maxHeartbeats 1000000 in
theorem delClo (pb : Nat) (k : Nat) (a : Int) (s : Int) (x : Ly) (w : World) (h : w.heap[pb]? = some (.cells #[.int .i64 k, .int .i64 a, .int .i64 s] 171 (0, 0))) :
    Calls Tryz.prog 101 #[.agg #[.int .i64 x.slot, .int .i64 x.age], .pointer (some ⟨pb, 0, none⟩)] w fun e w' => e = .returned (.bool (isH x k a)) ∧ Below w.heap.size w w' := by
  have c0 := blk_cell (j := 0) h rfl
  have c1 := blk_cell (j := 1) h rfl
  have lp := lt_of_block h
  clear h
  by_cases h1 : x.slot = k
  · by_cases h2 : x.age = a
    · have HR : Hid (isH x k a = true) := by show _ = _; unfold isH; rw [decide_eq_true h1, decide_eq_true h2]; rfl
      have b1 : ((x.slot : Int) == (k : Int)) = true := by rw [h1]; exact beq_self_eq_true _
      have b2 : (x.age == a) = true := by rw [h2]; exact beq_self_eq_true _
      clear h1 h2
      go_enter Tryz.func101, Tryz.ntmps101
      go_wp2
      go_ret
      exact ⟨by rw [HR.out]; rfl, by (repeat' first | assumption | exact Below.refl _ _ | exact Nat.le_refl _ | refine Below.drew ?_ | refine Below.alloc ?_ ?_ _ | (simp; done) | (simp; omega))⟩
    · have HR : Hid (isH x k a = false) := by show _ = _; unfold isH; rw [decide_eq_false h2, Bool.and_false]
      have b1 : ((x.slot : Int) == (k : Int)) = true := by rw [h1]; exact beq_self_eq_true _
      have b2 : (x.age == a) = false := beq_eq_false_iff_ne.2 h2
      clear h1 h2
      go_enter Tryz.func101, Tryz.ntmps101
      go_wp2
      go_ret
      exact ⟨by rw [HR.out]; rfl, by (repeat' first | assumption | exact Below.refl _ _ | exact Nat.le_refl _ | refine Below.drew ?_ | refine Below.alloc ?_ ?_ _ | (simp; done) | (simp; omega))⟩
  · have HR : Hid (isH x k a = false) := by show _ = _; unfold isH; rw [decide_eq_false h1, Bool.false_and]
    have b1 : ((x.slot : Int) == (k : Int)) = false := beq_eq_false_iff_ne.2 (by omega)
    clear h1
    go_enter Tryz.func101, Tryz.ntmps101
    go_wp2
    go_ret
    exact ⟨by rw [HR.out]; rfl, by (repeat' first | assumption | exact Below.refl _ _ | exact Nat.le_refl _ | refine Below.drew ?_ | refine Below.alloc ?_ ?_ _ | (simp; done) | (simp; omega))⟩

set_option maxRecDepth 4000 in
set_option maxHeartbeats 2000000 in
theorem indexF (pb k i g cap : Nat) (a s : Int) (l : List Ly) (w : World) (hr : w.ownsRow 0 169 2 (.slice (some ⟨g, 0, none⟩) l.length cap) l.length (hV l)) (hl : l.length ≤ 1000) (hi : i < l.length) (hat : isH (lyAt l i) k a = true) (hno : ∀ j, j < i → isH (lyAt l j) k a = false)
    (hp : w.heap[pb]? = some (.cells #[.int .i64 k, .int .i64 a, .int .i64 s] 171 (0, 0))) :
    Calls Tryz.prog 153 #[.slice (some ⟨g, 0, none⟩) l.length cap, .func (.func 101) #[] #[.pointer (some ⟨pb, 0, none⟩)]] w fun e w' => e = .returned (.int .i64 i) ∧ Below w.heap.size w w' := by
  have HR : Hid (w.ownsRow 0 169 2 (.slice (some ⟨g, 0, none⟩) l.length cap) l.length (hV l)) := hr
  have HP : Hid (w.heap[pb]? = some (.cells #[.int .i64 k, .int .i64 a, .int .i64 s] 171 (0, 0))) := hp
  have HAT : Hid (isH (lyAt l i) k a = true) := hat
  have HNO : Hid (∀ j, j < i → isH (lyAt l j) k a = false) := hno
  clear hr hp hat hno
  go_enter Tryz.func153, Tryz.ntmps153
  go_wp2_with fail
  go_loopw [8] (fun v wr => ∃ j : Nat, j ≤ i ∧ v = .int .i64 j ∧ Below w.heap.size w wr) (fun v _ => l.length - (intOf v).toNat)
  case atStart => exact ⟨0, Nat.zero_le _, rfl, Below.refl _ _⟩
  case round =>
    obtain ⟨j, hj, rfl, hb⟩ := hrel
    have HB : Hid (Below w.heap.size w wr) := hb
    have hrr := owns_below HR.out hb (Nat.le_refl _)
    have hlt : j < l.length := by omega
    have c0 := (hrr.cellAt (j * 2) (by omega)).trans (hV_at hlt).1
    have c1 := (hrr.cellAt (j * 2 + 1) (by omega)).trans (hV_at hlt).2
    have hpr := blk_below HP.out hb (Nat.le_refl _)
    have HPR : Hid _ := hpr
    clear hrr hb hpr
    go_wp2_with fail
    refine (delClo pb k a s (lyAt l j) _ HPR.out).mono ?_
    rintro e w1 ⟨rfl, hb1⟩
    have HB1 : Hid (Below w.heap.size w w1) := bel_then HB.out hb1
    clear hb1 c0 c1
    by_cases hji : j = i
    · subst hji
      rw [HAT.out]
      go_wp2_with fail
      go_ret
      exact ⟨rfl, HB1.out⟩
    · rw [HNO.out j (by omega)]
      go_wp2_with fail
      go_roundw
      case rel => exact ⟨j + 1, by omega, by go_num, HB1.out⟩
      case measure => simp [intOf]; omega

theorem Tryz.zeroH (w : World) : (zeroValue 169).run Tryz.prog w = .ok (.agg #[.int .i64 0, .int .i64 0]) w := by kernel_rfl
/-- clear of one handle -/
theorem run_clear_one (W : World) (g o c : Nat) (cur : Array Value) (t : TypeId) (hg : W.heap[g]? = some (.cells cur t (0, 0))) (hfit : o + 2 ≤ cur.size) :
    ∃ W', (∀ ty, (Builtin.clear_ #[154] ty #[.slice (some ⟨g, o, none⟩) 1 c]).run Tryz.prog W = .ok (.tuple #[]) W')
      ∧ W'.heap[g]? = some (.cells (cur.toList.take o ++ [Value.int .i64 0, Value.int .i64 0] ++ cur.toList.drop (o + 2)).toArray t (0, 0)) ∧ Out (fun j => j = g) W W' := by
  refine ⟨W.setRow g (cur.toList.take o ++ [Value.int .i64 0, Value.int .i64 0] ++ cur.toList.drop (o + 2)).toArray, fun ty => ?_, setRow_heap W g _ _ t _ hg, ⟨rfl, rfl, rfl, by simp [World.setRow], fun j _ hj => setRow_other W g j _ hj⟩⟩
  have hst := run_storeCells_at Tryz.prog g o t [Value.int .i64 0, Value.int .i64 0] 0 cur W hg (by simpa using hfit) (by simp [Value.oneCell'])
  have hz := Tryz.zeroH W
  have hu := run_underlying (P := Tryz.prog) Tryz.underlying154 (w := W)
  simp only [Nat.add_zero, List.length_cons, List.length_nil, Nat.zero_add, Nat.reduceAdd] at hst
  simp [Builtin.clear_, hu, hz, Builtin.zeroCells, Value.cells]
  rw [show List.map (fun i => [Value.int .i64 0, Value.int .i64 0][i % 2]?.getD default) (List.range 2) = [Value.int .i64 0, Value.int .i64 0] from rfl, hst]
  simp

set_option maxRecDepth 100000 in
set_option maxHeartbeats 4000000 in
theorem deleteF (pb k i g cap : Nat) (a s : Int) (l : List Ly) (w : World) (hr : w.ownsRow 0 169 2 (.slice (some ⟨g, 0, none⟩) l.length cap) l.length (hV l)) (hl : l.length ≤ 1000) (hi : i < l.length) (hat : isH (lyAt l i) k a = true) (hno : ∀ j, j < l.length → j ≠ i → isH (lyAt l j) k a = false)
    (hp : w.heap[pb]? = some (.cells #[.int .i64 k, .int .i64 a, .int .i64 s] 171 (0, 0))) :
    Calls Tryz.prog 100 #[.slice (some ⟨g, 0, none⟩) l.length cap, .func (.func 101) #[] #[.pointer (some ⟨pb, 0, none⟩)]] w
      fun e w' => e = .returned (.slice (some ⟨g, 0, none⟩) (outAt i l).length cap) ∧ w'.ownsRow 0 169 2 (.slice (some ⟨g, 0, none⟩) (outAt i l).length cap) (outAt i l).length (hV (outAt i l)) ∧ Out (fun j => j = g) w w' := by
  have hpg : pb ≠ g := fun e => owns_type hr hp (by decide) (by rw [e]; rfl)
  have hcap : l.length ≤ cap ∧ cap ≤ maxLen := by
    obtain ⟨_, _, e, h1, h2⟩ := owns_shape hr
    simp only [Value.slice.injEq, true_and] at e
    omega
  unfold maxLen at hcap
  have HR : Hid (w.ownsRow 0 169 2 (.slice (some ⟨g, 0, none⟩) l.length cap) l.length (hV l)) := hr
  have HP : Hid (w.heap[pb]? = some (.cells #[.int .i64 k, .int .i64 a, .int .i64 s] 171 (0, 0))) := hp
  have HAT : Hid (isH (lyAt l i) k a = true) := hat
  have HNO : Hid (∀ j, j < l.length → j ≠ i → isH (lyAt l j) k a = false) := hno
  have lg : g < w.heap.size := (hr.lt g rfl).2
  clear hr hp hat hno
  go_enter Tryz.func100, Tryz.ntmps100
  go_wp2_with fail
  refine (indexF pb k i g cap a s l _ HR.out hl hi HAT.out (fun j hj => HNO.out j (by omega) (by omega)) HP.out).mono ?_
  rintro e w0 ⟨rfl, hb0⟩
  have HB0 : Hid (Below w.heap.size w w0) := hb0
  clear hb0
  go_wp2_with fail
  go_loopw [5, 6] (fun v u wr => ∃ n : Nat, i ≤ n ∧ n + 1 ≤ l.length ∧ v = .int .i64 n ∧ u = .int .i64 (n + 1 : Nat) ∧ wr.ownsRow 0 169 2 (.slice (some ⟨g, 0, none⟩) l.length cap) l.length (hV (shiftL i (n + 1) l)) ∧ Out (fun j => j = g) w wr) (fun _ u _ => l.length - (intOf u).toNat)
  case atStart => exact ⟨i, Nat.le_refl _, by omega, rfl, by go_num, by rw [shiftL_start hi]; exact owns_below HR.out HB0.out (Nat.le_refl _), Out.of_below HB0.out (Nat.le_refl _)⟩
  case round =>
    obtain ⟨n, hn1, hn2, rfl, rfl, hrr, hob⟩ := hrel
    have HRR : Hid (wr.ownsRow 0 169 2 (.slice (some ⟨g, 0, none⟩) l.length cap) l.length (hV (shiftL i (n + 1) l))) := hrr
    have HOB : Hid (Out (fun j => j = g) w wr) := hob
    by_cases hlt : n + 1 < l.length
    · have hsl : (shiftL i (n + 1) l).length = l.length := shiftL_length (by omega) (by omega)
      have hv := hV_at (l := shiftL i (n + 1) l) (k := n + 1) (by omega)
      rw [shiftL_at (by omega) hlt] at hv
      have c0 := (hrr.cellAt ((n + 1) * 2) (by omega)).trans hv.1
      have c1 := (hrr.cellAt ((n + 1) * 2 + 1) (by omega)).trans hv.2
      have q0 : (0 : Int) ≤ ((n + 1 : Nat) : Int) := by omega
      have q1 : ((n + 1 : Nat) : Int) < (l.length : Int) := by omega
      clear hrr hob hv
      go_wp2_with fail
      have hbv := bel1 wr (.cells #[.int .i64 (lyAt l (n + 1)).slot, .int .i64 (lyAt l (n + 1)).age] 169)
      have hvv := heap_alloc_new wr (.cells #[.int .i64 (lyAt l (n + 1)).slot, .int .i64 (lyAt l (n + 1)).age] 169)
      refine (delClo pb k a s (lyAt l (n + 1)) _ (blk_below (blk_out HP.out HOB.out hpg) hbv (Nat.le_refl _))).mono ?_
      rintro e w1 ⟨rfl, hb1⟩
      rw [HNO.out (n + 1) hlt (by omega)]
      have hv1 := blk_below hvv hb1 (Nat.le_refl _)
      have hr1 := owns_below HRR.out (bel_then hbv hb1) (Nat.le_refl _)
      have HR1 : Hid (w1.ownsRow 0 169 2 (.slice (some ⟨g, 0, none⟩) l.length cap) l.length (hV (shiftL i (n + 1) l))) := hr1
      have HO1 : Hid (Out (fun j => j = g) w w1) := HOB.out.trans (Out.of_below (bel_then hbv hb1) (Nat.le_refl _)) (Went.refl _ _)
      have hvn : wr.heap.size ≠ g := by have := (HRR.out.lt g rfl).2; omega
      have v0 := blk_cell (j := 0) hv1 rfl
      have v1 := blk_cell (j := 1) hv1 rfl
      have hv := hV_at (l := shiftL i (n + 1) l) (k := n) (by omega)
      have d0 := (hr1.cellAt (n * 2) (by omega)).trans hv.1
      have d1 := (hr1.cellAt (n * 2 + 1) (by omega)).trans hv.2
      have f0 := hr1.frozenAt (n * 2)
      have f1 := hr1.frozenAt (n * 2 + 1)
      have r0 : (0 : Int) ≤ (n : Int) := by omega
      have r1 : (n : Int) < (l.length : Int) := by omega
      clear hb1 hbv hvv hv1 hr1 hv c0 c1
      go_wp2_with fail
      go_roundw
      case rel =>
        obtain ⟨s1, s2⟩ := HR1.out.stored (n * 2) (.int .i64 (lyAt l (n + 1)).slot)
        obtain ⟨s3, s4⟩ := s1.stored (n * 2 + 1) (.int .i64 (lyAt l (n + 1)).age)
        have hst := shiftL_step (i := i) (j := n + 1) (l := l) (by omega) hlt
        rw [show n + 1 - 1 = n by omega] at hst
        rw [hV_set _ (by omega), hst] at s3
        have s5 : Out (fun j => j = g) w _ := (HO1.out.trans (Out.of_grown s2 (fun j hj => by injection hj with hj; exact hj.symm)) (Went.refl _ _)).trans (Out.of_grown s4 (fun j hj => by injection hj with hj; exact hj.symm)) (Went.refl _ _)
        (repeat apply Exists.intro)
        refine ⟨⟨n + 1, by omega, by omega, ?_, ?_, s3, s5⟩, rfl⟩
        · go_num
        · go_num
      case measure => simp [intOf]; omega
    · have hle : l.length = n + 1 := by omega
      have hsl : (shiftL i (n + 1) l).length = l.length := shiftL_length (by omega) (by omega)
      rcases hrr.2 with ⟨h', _⟩ | ⟨g', cap', cur, h', _, hg, hnc, hcm, hcs, ht⟩
      · simp at h'
      simp only [Value.slice.injEq, Option.some.injEq, Addr.mk.injEq, and_true, true_and] at h'
      obtain ⟨rfl, rfl⟩ := h'
      obtain ⟨W1, hrun, hg1, ho1⟩ := run_clear_one wr g (n * 2) (cap - n) cur 169 hg (by rw [hcs]; omega)
      have hol := outAt_length hi
      have HFIN : Hid (W1.ownsRow 0 169 2 (.slice (some ⟨g, 0, none⟩) n cap) n (hV (outAt i l)) ∧ Out (fun j => j = g) w W1 ∧ (outAt i l).length = n) := by
        refine ⟨⟨by rw [hV_length]; omega, Or.inr ⟨g, cap, _, rfl, Nat.zero_le _, hg1, by omega, by unfold maxLen; omega, ?_, ?_⟩⟩, HOB.out.trans ho1 (Went.refl _ _), by omega⟩
        · simp [hcs]; omega
        · dsimp only
          rw [List.append_assoc, List.take_append_of_le_length (by simp [hcs]; omega), List.take_of_length_le (by simp; omega), ← shiftL_end hi, hle, show n + 1 - 1 = n by omega, ← hV_take (by omega), ← ht, List.take_take]
          congr 1
          omega
      have hrun' : ∀ ty, (Builtin.clear_ #[154] ty #[.slice (some ⟨g, n * 2, none⟩) (l.length - n) (cap - n)]).run Tryz.prog wr = .ok (.tuple #[]) W1 := by rw [show l.length - n = 1 by omega]; exact hrun
      have q0 : (0 : Int) ≤ (n : Int) := by omega
      have q1 : (n : Int) ≤ (l.length : Int) := by omega
      have q2 : ¬ (cap = n) := by omega
      have q3 : n ≤ cap := by omega
      have q4 : n ≤ l.length := by omega
      clear hrr hob hrun hg1 ho1 hg hcs ht hsl hol hle
      go_wp2_with fail
      go_ret
      obtain ⟨h1, h2, h3⟩ := HFIN.out
      rw [h3]
      exact ⟨rfl, h1, h2⟩
end Go.Proofs.YtjdkagafdnchhaaGreatDoor

/-
  What the program's find and Order return, over this seat's translation. Conditions stand in each theorem.
-/
namespace Go.Proofs.YtjdkagafdnchhaaGreatDoor
open Go.RowKit

attribute [local go_sem ↓] Go.wp_at_zero Go.wp_at_succ

def five (w : World) (b : Nat) (o : Ord) : World := ((((w.setCell ⟨b, 0, none⟩ (.int .i64 o.id)).setCell ⟨b, 1, none⟩ (.int .i64 o.side)).setCell ⟨b, 2, none⟩ (.int .i64 o.kind)).setCell ⟨b, 3, none⟩ (.int .i64 o.price)).setCell ⟨b, 4, none⟩ (.int .i64 o.qty)
def three (w : World) (b : Nat) (k a s : Int) : World := ((w.setCell ⟨b, 0, none⟩ (.int .i64 k)).setCell ⟨b, 1, none⟩ (.int .i64 a)).setCell ⟨b, 2, none⟩ (.int .i64 s)
theorem five_out (w : World) (b : Nat) (o : Ord) : Out (fun j => j = b) w (five w b o) := out_five w b _ _ _ _ _
theorem three_out (w : World) (b : Nat) (k a s : Int) : Out (fun j => j = b) w (three w b k a s) :=
  ((out_set w ⟨b, 0, none⟩ _).trans (out_set _ ⟨b, 1, none⟩ _) (Went.refl _ _)).trans (out_set _ ⟨b, 2, none⟩ _) (Went.refl _ _)
theorem five_is {w : World} {b : Nat} {u0 u1 u2 u3 u4 : Value} {t : TypeId} (o : Ord) (h : w.heap[b]? = some (.cells #[u0, u1, u2, u3, u4] t (0, 0))) : (five w b o).heap[b]? = some (.cells #[.int .i64 o.id, .int .i64 o.side, .int .i64 o.kind, .int .i64 o.price, .int .i64 o.qty] t (0, 0)) :=
  blk_set (j := 4) _ (blk_set (j := 3) _ (blk_set (j := 2) _ (blk_set (j := 1) _ (blk_set (j := 0) _ h))))
theorem three_is {w : World} {b : Nat} {u0 u1 u2 : Value} {t : TypeId} (k a s : Int) (h : w.heap[b]? = some (.cells #[u0, u1, u2] t (0, 0))) : (three w b k a s).heap[b]? = some (.cells #[.int .i64 k, .int .i64 a, .int .i64 s] t (0, 0)) :=
  blk_set (j := 2) _ (blk_set (j := 1) _ (blk_set (j := 0) _ h))
def plV (x : Ly) (s : Nat) : Value := .agg #[.int .i64 x.slot, .int .i64 x.age, .int .i64 s]

set_option maxRecDepth 100000 in
set_option maxHeartbeats 2000000 in
theorem find_no (bb m : Nat) (b : BkS) (id : Int) (w : World) (h : Bk w bb m b) (hw : (Lit.int .i64 id).wf = true) (hno : ∀ s, s < 2 → ∀ x ∈ b.S s, x.o.id ≠ id) :
    Calls Tryz.prog 99 #[.pointer (some ⟨bb, 0, none⟩), .int .i64 id] w fun e W' => e = .returned (.tuple #[Ord.none_.agg, .agg #[.int .i64 0, .int .i64 0, .int .i64 0], .iface 32 (.int .i64 7)]) ∧ Below w.heap.size w W' := by
  have HB2 := bel2 w (.cells #[.int .i64 0, .int .i64 0, .int .i64 0, .int .i64 0, .int .i64 0] 41) (.cells #[.int .i64 0, .int .i64 0, .int .i64 0] 171)
  have hbk := h.below HB2 (Nat.le_refl _)
  have m1 : w.cell? ⟨bb, 1, none⟩ = some (.map (some b.mb)) := blk_cell (j := 1) h.at_.box rfl
  have hrun := hbk.at_.map.no hno hw
  have lb : bb < w.heap.size := h.lt (Or.inl rfl)
  clear h hbk hno hw HB2
  go_enter Tryz.func99, Tryz.ntmps99
  go_wp2
  refine bodyPost_ret (by simp [results, Tryz.results99, go_sem]; try rfl) rfl ?_
  refine ⟨rfl, ?_⟩
  (repeat' first | assumption | exact Below.refl _ _ | exact Nat.le_refl _ | refine Below.drew ?_ | refine Below.alloc ?_ ?_ _ | (simp; done) | (simp; omega))

set_option maxRecDepth 100000 in
set_option maxHeartbeats 4000000 in
theorem find_yes (bb m s : Nat) (b : BkS) (x : Ly) (w : World) (h : Bk w bb m b) (hs : s < 2) (hx : x ∈ b.S s) :
    Calls Tryz.prog 99 #[.pointer (some ⟨bb, 0, none⟩), .int .i64 x.o.id] w fun e W' => e = .returned (.tuple #[x.o.agg, plV x s, .nilIface]) ∧ Below w.heap.size w W' := by
  have HB2 := bel2 w (.cells #[.int .i64 0, .int .i64 0, .int .i64 0, .int .i64 0, .int .i64 0] 41) (.cells #[.int .i64 0, .int .i64 0, .int .i64 0] 171)
  have hbk := h.below HB2 (Nat.le_refl _)
  have m1 : w.cell? ⟨bb, 1, none⟩ = some (.map (some b.mb)) := blk_cell (j := 1) h.at_.box rfl
  have hrun := hbk.at_.map.yes hs hx (h.ok.ok s hs x hx).2.1
  have lb : bb < w.heap.size := h.lt (Or.inl rfl)
  have HO : Hid (soAt b.rs x.slot = (some x.o, x.age)) := h.ok.there s hs x hx
  have H : Hid (Bk w bb m b) := h
  clear h hbk HB2
  unfold Ord.agg plV
  go_enter Tryz.func99, Tryz.ntmps99
  go_upto_region 4 with fail
  have hb2 := bel2 w (.cells #[.int .i64 0, .int .i64 0, .int .i64 0, .int .i64 0, .int .i64 0] 41) (.cells #[.int .i64 0, .int .i64 0, .int .i64 0] 171)
  have hr1 := two_old w (.cells #[.int .i64 0, .int .i64 0, .int .i64 0, .int .i64 0, .int .i64 0] 41) (.cells #[.int .i64 0, .int .i64 0, .int .i64 0] 171)
  have hr2 := two_new w (.cells #[.int .i64 0, .int .i64 0, .int .i64 0, .int .i64 0, .int .i64 0] 41) (.cells #[.int .i64 0, .int .i64 0, .int .i64 0] 171)
  have hsz : ((w.alloc (.cells #[.int .i64 0, .int .i64 0, .int .i64 0, .int .i64 0, .int .i64 0] 41)).alloc (.cells #[.int .i64 0, .int .i64 0, .int .i64 0] 171)).heap.size = w.heap.size + 1 + 1 := by simp
  generalize (w.alloc (.cells #[.int .i64 0, .int .i64 0, .int .i64 0, .int .i64 0, .int .i64 0] 41)).alloc (.cells #[.int .i64 0, .int .i64 0, .int .i64 0] 171) = wq at hb2 hr1 hr2 hsz ⊢
  have hb3 := bel1 wq (.cells #[.int .i64 x.slot, .int .i64 x.age, .int .i64 s] 171)
  have hr3 := heap_alloc_new wq (.cells #[.int .i64 x.slot, .int .i64 x.age, .int .i64 s] 171)
  rw [hsz] at hr3
  have hr1 := blk_below hr1 hb3 (Nat.le_refl _)
  have hr2 := blk_below hr2 hb3 (Nat.le_refl _)
  have hbp := bel_then hb2 hb3
  generalize wq.alloc (.cells #[.int .i64 x.slot, .int .i64 x.age, .int .i64 s] 171) = wp at hb3 hr1 hr2 hr3 hbp ⊢
  have HB : Hid (Below w.heap.size w wp) := hbp
  have HR1 : Hid (wp.heap[w.heap.size]? = some (.cells #[.int .i64 0, .int .i64 0, .int .i64 0, .int .i64 0, .int .i64 0] 41 (0, 0))) := hr1
  have HR2 : Hid (wp.heap[w.heap.size + 1]? = some (.cells #[.int .i64 0, .int .i64 0, .int .i64 0] 171 (0, 0))) := hr2
  have HR3 : Hid (wp.heap[w.heap.size + 1 + 1]? = some (.cells #[.int .i64 x.slot, .int .i64 x.age, .int .i64 s] 171 (0, 0))) := hr3
  have HBK : Hid (Bk wp bb m b) := H.out.below hbp (Nat.le_refl _)
  clear hb2 hb3 hr1 hr2 hr3 hbp hsz m1 hrun
  have HS : Hid (∀ w', Below wp.heap.size wp w' → (w'.cell? ⟨bb, 0, none⟩ = some (.pointer (some ⟨b.ab, 0, none⟩)) ∧ w'.cell? ⟨w.heap.size + 1 + 1, 0, none⟩ = some (.int .i64 x.slot) ∧ w'.cell? ⟨w.heap.size + 1 + 1, 1, none⟩ = some (.int .i64 x.age) ∧ Below wp.heap.size wp w')) := fun w' hb =>
    ⟨blk_cell (j := 0) (blk_below HBK.out.at_.box hb (Nat.le_refl _)) rfl, blk_cell (j := 0) (blk_below HR3.out hb (Nat.le_refl _)) rfl, blk_cell (j := 1) (blk_below HR3.out hb (Nat.le_refl _)) rfl, hb⟩
  have hs0 := HS.out wp (Below.refl _ _)
  go_cut [9, 10] from 25 to 34 (fun p9 p10 wd => p10 = .nilIface ∧ ∃ xb, p9 = .pointer (some ⟨xb, 0, none⟩) ∧ wp.heap.size ≤ xb ∧ OrdAt wd xb x.o ∧ Below wp.heap.size wp wd)
  case first =>
    go_region_held3 (fun w' => w'.cell? ⟨bb, 0, none⟩ = some (.pointer (some ⟨b.ab, 0, none⟩)) ∧ w'.cell? ⟨w.heap.size + 1 + 1, 0, none⟩ = some (.int .i64 x.slot) ∧ w'.cell? ⟨w.heap.size + 1 + 1, 1, none⟩ = some (.int .i64 x.age) ∧ Below wp.heap.size wp w')
      ((refine HS.out _ ?_; (repeat' first | assumption | exact Below.refl _ _ | exact Nat.le_refl _ | refine Below.drew ?_ | refine Below.alloc ?_ ?_ _ | refine bel_then ?_ hb1 | refine Below.setCell ?_ ?_ _ | (simp; done) | (simp; omega) | (have h9 := hb1.size; simp at h9 ⊢; omega))))
      (first | (go_at_call 152; refine (oaGet b.ab 100 b.vs b.vf b.rs b.fr x.slot x.o x.age _ (HBK.out.at_.ar.below (B := wp.heap.size) ?_ (Nat.le_refl _)) HO.out).mono ?_; (repeat' first | assumption | exact Below.refl _ _ | exact Nat.le_refl _ | refine Below.drew ?_ | refine Below.alloc ?_ ?_ _ | (simp; done) | (simp; omega)); rintro e w1 ⟨hb1, rfl⟩; unfold Ord.agg; try (have hxb := (hb1.block wp.heap.size (by simp)).trans (heap_alloc_new wp _); have y0 := blk_cell (j := 0) hxb rfl; have y1 := blk_cell (j := 1) hxb rfl; have y2 := blk_cell (j := 2) hxb rfl; have y3 := blk_cell (j := 3) hxb rfl; have y4 := blk_cell (j := 4) hxb rfl; have z0 := blk_free (j := 0) hxb; have z1 := blk_free (j := 1) hxb; have z2 := blk_free (j := 2) hxb; have z3 := blk_free (j := 3) hxb; have z4 := blk_free (j := 4) hxb)))
    · go_wp2_with fail
      go_meet
      exact ⟨rfl, w1.heap.size, rfl, hb1.size, heap_alloc_new w1 _, bel_then (w1 := w1) (bel_then (w := wp) (w1 := wp.drew) (Below.refl _ _).drew hb1) (bel1 _ _)⟩
    · go_wp2_with fail
      go_meet
      refine ⟨rfl, wp.heap.size, rfl, Nat.le_refl _, blk_set (j := 4) (.int .i64 x.o.qty) (blk_set (j := 3) (.int .i64 x.o.price) (blk_set (j := 2) (.int .i64 x.o.kind) (blk_set (j := 1) (.int .i64 x.o.side) (blk_set (j := 0) (.int .i64 x.o.id) hxb)))), ?_⟩
      have h8 : Below wp.heap.size wp w1 := bel_then (bel1 wp _).drew hb1
      exact ((((h8.setCell (p := ⟨wp.heap.size, 0, none⟩) (Nat.le_refl _) _).setCell (p := ⟨wp.heap.size, 1, none⟩) (Nat.le_refl _) _).setCell (p := ⟨wp.heap.size, 2, none⟩) (Nat.le_refl _) _).setCell (p := ⟨wp.heap.size, 3, none⟩) (Nat.le_refl _) _).setCell (p := ⟨wp.heap.size, 4, none⟩) (Nat.le_refl _) _
  case rest =>
    obtain ⟨rfl, xb, rfl, hxl, hxo, hbd⟩ := hcut
    have g1 := blk_below HR1.out hbd (Nat.le_refl _)
    have g2 := blk_below HR2.out hbd (Nat.le_refl _)
    have g3 := blk_below HR3.out hbd (Nat.le_refl _)
    have lp : w.heap.size + 1 + 1 < wp.heap.size := lt_of_block HR3.out
    have HBD : Hid (Below w.heap.size w wc) := bel_then HB.out hbd
    have x0 := blk_cell (j := 0) hxo rfl
    have x1 := blk_cell (j := 1) hxo rfl
    have x2 := blk_cell (j := 2) hxo rfl
    have x3 := blk_cell (j := 3) hxo rfl
    have x4 := blk_cell (j := 4) hxo rfl
    have p0 := blk_cell (j := 0) g3 rfl
    have p1 := blk_cell (j := 1) g3 rfl
    have p2 := blk_cell (j := 2) g3 rfl
    have n1 : xb ≠ w.heap.size := by omega
    have n2 : xb ≠ w.heap.size + 1 := by omega
    have HXO : Hid (OrdAt wc xb x.o) := hxo
    have HG3 : Hid (wc.heap[w.heap.size + 1 + 1]? = some (.cells #[.int .i64 x.slot, .int .i64 x.age, .int .i64 s] 171 (0, 0))) := g3
    have HG1 : Hid _ := g1
    have HG2 : Hid _ := g2
    have a0 := blk_cell (j := 0) g1 rfl
    have a1 := blk_cell (j := 1) g1 rfl
    have a2 := blk_cell (j := 2) g1 rfl
    have a3 := blk_cell (j := 3) g1 rfl
    have a4 := blk_cell (j := 4) g1 rfl
    have b0 := blk_cell (j := 0) g2 rfl
    have b1 := blk_cell (j := 1) g2 rfl
    have b2 := blk_cell (j := 2) g2 rfl
    have f0 := blk_free (j := 0) g1
    have f1 := blk_free (j := 1) g1
    have f2 := blk_free (j := 2) g1
    have f3 := blk_free (j := 3) g1
    have f4 := blk_free (j := 4) g1
    have f5 := blk_free (j := 0) g2
    have f6 := blk_free (j := 1) g2
    have f7 := blk_free (j := 2) g2
    clear hs0 HS hbd hxo g1 g2 g3 hxl lp
    go_wp2_with fail
    have HS5 : Hid (∀ w', Out (fun j => j = w.heap.size ∨ j = w.heap.size + 1) wc w' → (w'.cell? ⟨xb, 0, none⟩ = some (.int .i64 x.o.id) ∧ w'.cell? ⟨xb, 1, none⟩ = some (.int .i64 x.o.side) ∧ w'.cell? ⟨xb, 2, none⟩ = some (.int .i64 x.o.kind) ∧ w'.cell? ⟨xb, 3, none⟩ = some (.int .i64 x.o.price) ∧ w'.cell? ⟨xb, 4, none⟩ = some (.int .i64 x.o.qty) ∧ w'.cell? ⟨w.heap.size + 1 + 1, 0, none⟩ = some (.int .i64 x.slot) ∧ w'.cell? ⟨w.heap.size + 1 + 1, 1, none⟩ = some (.int .i64 x.age) ∧ w'.cell? ⟨w.heap.size + 1 + 1, 2, none⟩ = some (.int .i64 s) ∧ Out (fun j => j = w.heap.size ∨ j = w.heap.size + 1) wc w')) := fun w' ho => by
      have k1 := blk_out HXO.out ho (fun e => by rcases e with e | e <;> omega)
      have k2 := blk_out HG3.out ho (fun e => by rcases e with e | e <;> omega)
      exact ⟨blk_cell (j := 0) k1 rfl, blk_cell (j := 1) k1 rfl, blk_cell (j := 2) k1 rfl, blk_cell (j := 3) k1 rfl, blk_cell (j := 4) k1 rfl, blk_cell (j := 0) k2 rfl, blk_cell (j := 1) k2 rfl, blk_cell (j := 2) k2 rfl, ho⟩
    have hs1 := HS5.out wc (Out.refl _ _)
    have hOF : Out (fun j => j = w.heap.size ∨ j = w.heap.size + 1) wc (five wc w.heap.size x.o).drew := out_drew ((five_out wc _ _).mono (fun j hj => Or.inl hj))
    have hOZ : Out (fun j => j = w.heap.size ∨ j = w.heap.size + 1) wc (three (five wc w.heap.size x.o) (w.heap.size + 1) x.slot x.age s).drew := out_drew (((five_out wc _ _).mono (fun j hj => Or.inl hj)).trans ((three_out _ _ _ _ _).mono (fun j hj => Or.inr hj)) (Went.refl _ _))
    have j1 : (three (five wc w.heap.size x.o) (w.heap.size + 1) x.slot x.age s).heap[w.heap.size]? = some (.cells #[.int .i64 x.o.id, .int .i64 x.o.side, .int .i64 x.o.kind, .int .i64 x.o.price, .int .i64 x.o.qty] 41 (0, 0)) := blk_out (five_is (w := wc) x.o HG1.out) (three_out _ _ _ _ _) (fun e => Nat.ne_of_lt (Nat.lt_succ_self _) e)
    have j2 : (three (five wc w.heap.size x.o) (w.heap.size + 1) x.slot x.age s).heap[w.heap.size + 1]? = some (.cells #[.int .i64 x.slot, .int .i64 x.age, .int .i64 s] 171 (0, 0)) := three_is (w := five wc w.heap.size x.o) _ _ _ (blk_out (w := wc) HG2.out (five_out _ _ _) (fun e => Nat.ne_of_gt (Nat.lt_succ_self _) e))
    have k1 : (three (five wc w.heap.size x.o) (w.heap.size + 1) x.slot x.age s).drew.heap[w.heap.size]? = some (.cells #[.int .i64 x.o.id, .int .i64 x.o.side, .int .i64 x.o.kind, .int .i64 x.o.price, .int .i64 x.o.qty] 41 (0, 0)) := by rw [drew_heap]; exact j1
    have k2 : (three (five wc w.heap.size x.o) (w.heap.size + 1) x.slot x.age s).drew.heap[w.heap.size + 1]? = some (.cells #[.int .i64 x.slot, .int .i64 x.age, .int .i64 s] 171 (0, 0)) := by rw [drew_heap]; exact j2
    clear j1 j2
    have k3 : Below w.heap.size w (three (five wc w.heap.size x.o) (w.heap.size + 1) x.slot x.age s).drew := HBD.out.trans (hOZ.below (fun j hj => by rcases hj with hj | hj <;> omega) HBD.out.size)
    unfold three five at hOZ k1 k2 k3
    unfold five at hOF
    have HOF : Hid _ := hOF
    have HOZ : Hid _ := hOZ
    have HK1 : Hid _ := k1
    have HK2 : Hid _ := k2
    have HK3 : Hid _ := k3
    clear hOF hOZ k1 k2 k3
    clear x0 x1 x2 x3 x4 p0 p1 p2
    refine wp_region_late (fun w' => w'.cell? ⟨xb, 0, none⟩ = some (.int .i64 x.o.id) ∧ w'.cell? ⟨xb, 1, none⟩ = some (.int .i64 x.o.side) ∧ w'.cell? ⟨xb, 2, none⟩ = some (.int .i64 x.o.kind) ∧ w'.cell? ⟨xb, 3, none⟩ = some (.int .i64 x.o.price) ∧ w'.cell? ⟨xb, 4, none⟩ = some (.int .i64 x.o.qty) ∧ w'.cell? ⟨w.heap.size + 1 + 1, 0, none⟩ = some (.int .i64 x.slot) ∧ w'.cell? ⟨w.heap.size + 1 + 1, 1, none⟩ = some (.int .i64 x.age) ∧ w'.cell? ⟨w.heap.size + 1 + 1, 2, none⟩ = some (.int .i64 s) ∧ Out (fun j => j = w.heap.size ∨ j = w.heap.size + 1) wc w') (fun _ => false) (by kernel_rfl) (HS5.out _ (out_drew (Out.refl _ _))) (fun hHeld => ?_)
    refine wpAnyL_take (i := 0) (v := ?_) rfl (by kernel_rfl) (by kernel_rfl) (by kernel_rfl) (by kernel_rfl) (by kernel_rfl) (fun _ _ _ h => h) (by rfl) ?_ (by assumption) ?_
    rotate_left
    · intro w hSw
      try dsimp only at hSw
      go_simp
      try rfl
    refine wpAnyL_take (i := 1) (v := ?_) rfl (by kernel_rfl) (by kernel_rfl) (by kernel_rfl) (by kernel_rfl) (by kernel_rfl) (fun _ _ _ h => h) (by rfl) ?_ (by assumption) ?_
    rotate_left
    · intro w hSw
      try dsimp only at hSw
      go_simp
      try rfl
    refine wpAnyL_take (i := 2) (v := ?_) rfl (by kernel_rfl) (by kernel_rfl) (by kernel_rfl) (by kernel_rfl) (by kernel_rfl) (fun _ _ _ h => h) (by rfl) ?_ (by assumption) ?_
    rotate_left
    · intro w hSw
      try dsimp only at hSw
      go_simp
      try rfl
    refine wpAnyL_ready (rs := [3]) (by kernel_rfl) (by simp) ?_
    refine AllReadyL.cons rfl (fun K hK => ?_) AllReadyL.nil
    go_simp
    refine hK.out _ _ (fun _ => HS5.out _ HOF.out) (fun hHeld => ?_)
    replace hHeld := hHeld rfl
    clear hK K
    refine wpAnyL_ready (rs := [4]) (by kernel_rfl) (by simp) ?_
    refine AllReadyL.cons rfl (fun K hK => ?_) AllReadyL.nil
    go_simp
    have hO5 := HOZ.out
    have k1 := HK1.out
    have k2 := HK2.out
    have k3 := HK3.out
    clear HOZ HK1 HK2 HK3
    generalize ((((((((wc.setCell ⟨w.heap.size, 0, none⟩ (.int .i64 x.o.id)).setCell ⟨w.heap.size, 1, none⟩ (.int .i64 x.o.side)).setCell ⟨w.heap.size, 2, none⟩ (.int .i64 x.o.kind)).setCell ⟨w.heap.size, 3, none⟩ (.int .i64 x.o.price)).setCell ⟨w.heap.size, 4, none⟩ (.int .i64 x.o.qty)).setCell ⟨w.heap.size + 1, 0, none⟩ (.int .i64 x.slot)).setCell ⟨w.heap.size + 1, 1, none⟩ (.int .i64 x.age)).setCell ⟨w.heap.size + 1, 2, none⟩ (.int .i64 s)).drew = wz at hO5 k1 k2 k3 ⊢
    refine hK.out _ _ (fun _ => HS5.out _ hO5) (fun hHeld => ?_)
    replace hHeld := hHeld rfl
    have e0 := blk_cell (j := 0) k1 rfl
    have e1 := blk_cell (j := 1) k1 rfl
    have e2 := blk_cell (j := 2) k1 rfl
    have e3 := blk_cell (j := 3) k1 rfl
    have e4 := blk_cell (j := 4) k1 rfl
    have e5 := blk_cell (j := 0) k2 rfl
    have e6 := blk_cell (j := 1) k2 rfl
    have e7 := blk_cell (j := 2) k2 rfl
    clear hK K a0 a1 a2 a3 a4 b0 b1 b2 f0 f1 f2 f3 f4 f5 f6 f7 hs1 hO5 k1 k2
    refine wpAnyL_ready (rs := [5]) (by kernel_rfl) (by simp) ?_
    refine AllReadyL.cons rfl (fun K hK => ?_) AllReadyL.nil
    go_simp
    refine hK.out _ _ (fun _ => hHeld) (fun _ => ?_)
    refine wpAnyL_done (by kernel_rfl) ?_ _
    go_wp2_with fail
    refine bodyPost_ret (by simp [results, Tryz.results99, go_sem, e0, e1, e2, e3, e4, e5, e6, e7]; try rfl) rfl ?_
    exact ⟨rfl, k3⟩
end Go.Proofs.YtjdkagafdnchhaaGreatDoor

/-
  What the program's Cancel does, over this seat's translation. Conditions stand in each theorem.
-/
namespace Go.Proofs.YtjdkagafdnchhaaGreatDoor
open Go.RowKit

attribute [local go_sem ↓] Go.wp_at_zero Go.wp_at_succ

set_option maxRecDepth 100000 in
set_option maxHeartbeats 2000000 in
theorem cancel_no (bb m : Nat) (b : BkS) (id : Int) (w : World) (h : Bk w bb m b) (hw : (Lit.int .i64 id).wf = true) (hno : ∀ s, s < 2 → ∀ x ∈ b.S s, x.o.id ≠ id) :
    Calls Tryz.prog 54 #[.pointer (some ⟨bb, 0, none⟩), .int .i64 id] w fun e W' => e = .returned (.tuple #[Ord.none_.agg, .iface 32 (.int .i64 7)]) ∧ Below w.heap.size w W' := by
  have H : Hid (Bk w bb m b) := h
  have HN : Hid (∀ s, s < 2 → ∀ x ∈ b.S s, x.o.id ≠ id) := hno
  clear h hno
  go_enter Tryz.func54, Tryz.ntmps54
  go_wp2_with fail
  refine (find_no bb m b id _ (H.out.below (bel1 _ _) (Nat.le_refl _)) hw HN.out).mono ?_
  rintro e w1 ⟨rfl, hb1⟩
  unfold Ord.agg Ord.none_
  have hr := blk_below (heap_alloc_new w _) hb1 (Nat.le_refl _)
  have HB1 : Hid (Below w.heap.size w w1) := bel_then (bel1 _ _) hb1
  clear hb1
  go_upto_region 3 with fail
  have hb2 := bel2 w1 (.cells #[.int .i64 0, .int .i64 0, .int .i64 0, .int .i64 0, .int .i64 0] 41) (.cells #[.int .i64 0, .int .i64 0, .int .i64 0] 171)
  have hr := blk_below hr hb2 (Nat.le_refl _)
  generalize (w1.alloc (.cells #[.int .i64 0, .int .i64 0, .int .i64 0, .int .i64 0, .int .i64 0] 41)).alloc (.cells #[.int .i64 0, .int .i64 0, .int .i64 0] 171) = w2 at hb2 hr ⊢
  have HB2 : Hid (Below w.heap.size w w2) := bel_then HB1.out hb2
  have a0 := blk_cell (j := 0) hr rfl
  have a1 := blk_cell (j := 1) hr rfl
  have a2 := blk_cell (j := 2) hr rfl
  have a3 := blk_cell (j := 3) hr rfl
  have a4 := blk_cell (j := 4) hr rfl
  have f0 := blk_free (j := 0) hr
  have f1 := blk_free (j := 1) hr
  have f2 := blk_free (j := 2) hr
  have f3 := blk_free (j := 3) hr
  have f4 := blk_free (j := 4) hr
  clear hb2 hr
  go_wp2
  refine bodyPost_ret (by simp [results, Tryz.results54, go_sem, a0, a1, a2, a3, a4]; try rfl) rfl ?_
  refine ⟨rfl, ?_⟩
  have s0 : Below w.heap.size w2 w2 := Below.refl _ _
  exact HB2.out.trans (((((s0.setCell (p := ⟨w.heap.size, 0, none⟩) (by simp) _).setCell (p := ⟨w.heap.size, 1, none⟩) (by simp) _).setCell (p := ⟨w.heap.size, 2, none⟩) (by simp) _).setCell (p := ⟨w.heap.size, 3, none⟩) (by simp) _).setCell (p := ⟨w.heap.size, 4, none⟩) (by simp) _)

theorem row_form {w : World} {v : Value} {n : Nat} {l : List Value} (h : w.ownsRow 0 169 2 v n l) (hn : 0 < n) : ∃ g cap, v = .slice (some ⟨g, 0, none⟩) n cap := by
  rcases h.2 with ⟨rfl, rfl⟩ | ⟨g, cap, cur, rfl, _⟩
  · exact absurd hn (Nat.lt_irrefl 0)
  · exact ⟨g, cap, rfl⟩
theorem only_one {m s i : Nat} {rs : List Sot} {fr : List Nat} {S : Nat → List Ly} {x : Ly} (h : Pb m rs fr S) (hs : s < 2) (hi : i < (S s).length) (hx : lyAt (S s) i = x) : isH (lyAt (S s) i) x.slot x.age = true ∧ ∀ j, j < (S s).length → j ≠ i → isH (lyAt (S s) j) x.slot x.age = false := by
  have hn : ((S s).map Ly.slot).Nodup := by
    have := h.nd
    rw [List.map_append] at this
    match s, hs with
    | 0, _ => exact (List.nodup_append.1 this).1
    | 1, _ => exact (List.nodup_append.1 this).2.1
  refine ⟨by rw [hx]; simp [isH], fun j hj hji => ?_⟩
  have hne : (lyAt (S s) j).slot ≠ x.slot := fun e => hji (by
    rw [← hx, lyAt_eq hi, lyAt_eq hj] at e
    have h1 : j < ((S s).map Ly.slot).length := by simpa using hj
    have h2 : i < ((S s).map Ly.slot).length := by simpa using hi
    exact (List.getElem_inj (h₀ := h1) (h₁ := h2) hn).1 (by simpa using e))
  simp [isH, hne]
theorem lyAt_of_mem {x : Ly} {l : List Ly} (h : x ∈ l) : ∃ i, i < l.length ∧ lyAt l i = x := by
  obtain ⟨i, hi, e⟩ := List.mem_iff_getElem.1 h
  exact ⟨i, hi, by rw [lyAt_eq hi]; exact e⟩
theorem gone_mem {m s i : Nat} {rs : List Sot} {fr : List Nat} {S : Nat → List Ly} {x : Ly} (h : Pb m rs fr S) (hs : s < 2) (hi : i < (S s).length) (hx : lyAt (S s) i = x) : ∀ t, t < 2 → ∀ y, y ∈ upS S s (outAt i (S s)) t ↔ (y ∈ S t ∧ y.o.id ≠ x.o.id) := by
  have hp := outAt_perm hi
  rw [hx] at hp
  have hall : (S 0 ++ S 1).Perm (x :: (upS S s (outAt i (S s)) 0 ++ upS S s (outAt i (S s)) 1)) := (pb_all S hs).trans ((hp.append_right _).trans ((pb_up S _ hs).symm.cons _))
  have hid := (hall.map fun x => x.o.id).nodup_iff.1 h.ids
  simp only [List.map_cons, List.nodup_cons, List.mem_map, not_exists, not_and] at hid
  intro t ht y
  have hin : y ∈ upS S s (outAt i (S s)) t → y.o.id ≠ x.o.id := fun hy e => hid.1 y (by
    match t, ht with
    | 0, _ => exact List.mem_append_left _ hy
    | 1, _ => exact List.mem_append_right _ hy) e
  by_cases e : t = s
  · subst e
    rw [upS_same] at hin ⊢
    refine ⟨fun hy => ⟨hp.mem_iff.2 (List.mem_cons_of_mem _ hy), hin hy⟩, fun ⟨hy, hne⟩ => ?_⟩
    rcases List.mem_cons.1 (hp.mem_iff.1 hy) with e | e
    · exact absurd (by rw [e]) hne
    · exact e
  · rw [upS_other _ e] at hin ⊢
    exact ⟨fun hy => ⟨hy, hin hy⟩, fun hy => hy.1⟩

def bkGone (b : BkS) (s i : Nat) (x : Ly) (vf' v' : Value) : BkS :=
  ⟨b.ab, b.mb, b.n, b.vs, vf', rowV b.v0 v' s 0, rowV b.v1 v' s 1, b.rs.set x.slot (none, x.age + 1), b.fr ++ [x.slot], upS b.S s (outAt i (b.S s))⟩
/-- the order's slot is free: all is in order again -/
theorem can_fin {w w3 w7 w8 w9 : World} {bb m s i g cap : Nat} {b : BkS} {x : Ly} {vf' : Value} (h : Bk w bb m b) (hm : m + 1 ≤ 900000) (hs : s < 2) (hx : x ∈ b.S s) (hi : i < (b.S s).length) (hix : lyAt (b.S s) i = x)
    (hO : Out (b.foot bb) w w3) (hz : w.heap.size < w3.heap.size) (hvo : (vAt b.v0 b.v1 s).ownBlock = some g) (hT : Out (fun j => j = bb ∨ (vAt b.v0 b.v1 s).ownBlock = some j) w3 w7)
    (hG : BookG w7 bb b.ab b.mb b.n b.vs b.vf (rowV b.v0 (.slice (some ⟨g, 0, none⟩) (outAt i (b.S s)).length cap) s 0) (rowV b.v1 (.slice (some ⟨g, 0, none⟩) (outAt i (b.S s)).length cap) s 1) b.rs b.fr (upS b.S s (outAt i (b.S s))) (upS b.S s (outAt i (b.S s))))
    (ha : ArOr w8 b.ab 100 b.vs vf' (b.rs.set x.slot (none, x.age + 1)) (b.fr ++ [x.slot])) (ho8 : Out (aoB b.ab b.vs b.vf) w7 w8) (hw8 : Went w7 (aoB b.ab b.vs b.vf) (aoB b.ab b.vs vf')) (h9 : Out (fun j => j = w.heap.size) w8 w9) :
    Goes w w9 bb (m + 1) b (bkGone b s i x vf' (.slice (some ⟨g, 0, none⟩) (outAt i (b.S s)).length cap)) := by
  have hp := outAt_perm hi
  rw [hix] at hp
  have hz7 : w.heap.size < w7.heap.size := Nat.lt_of_lt_of_le hz hT.size
  have hw := rowV_went (w := w) (v0 := b.v0) (v1 := b.v1) (v' := .slice (some ⟨g, 0, none⟩) (outAt i (b.S s)).length cap) hs (fun j hj => by
      have e : g = j := by simpa [Value.ownBlock] using hj
      subst e
      exact Or.inl hvo)
  have hold : ∀ j, (rowV b.v0 (.slice (some ⟨g, 0, none⟩) (outAt i (b.S s)).length cap) s 0).ownBlock = some j ∨ (rowV b.v1 (.slice (some ⟨g, 0, none⟩) (outAt i (b.S s)).length cap) s 1).ownBlock = some j → j < w3.heap.size ∧ (b.v0.ownBlock = some j ∨ b.v1.ownBlock = some j) := fun j hj => by
    have h0 : b.v0.ownBlock = some j ∨ b.v1.ownBlock = some j := by
      match s, hs with
      | 0, _ =>
        rcases hj with hj | hj
        · have e : g = j := by simpa [rowV, Value.ownBlock] using hj
          exact Or.inl (e ▸ hvo)
        · exact Or.inr hj
      | 1, _ =>
        rcases hj with hj | hj
        · exact Or.inl hj
        · have e : g = j := by simpa [rowV, Value.ownBlock] using hj
          exact Or.inr (e ▸ hvo)
    exact ⟨Nat.lt_trans (h.lt (Or.inr (Or.inr (Or.inr h0)))) hz, h0⟩
  have hW : Went w (b.foot bb) ((bkGone b s i x vf' (.slice (some ⟨g, 0, none⟩) (outAt i (b.S s)).length cap)).foot bb) := by
    rintro j (hj | hj | hj | hj)
    · exact Or.inl (Or.inl hj)
    · exact (hw8 j hj).imp (fun h => Or.inr (Or.inl h)) (fun h => Nat.le_of_lt (Nat.lt_of_lt_of_le hz7 h))
    · exact Or.inl (Or.inr (Or.inr (Or.inl hj)))
    · exact Or.inl (Or.inr (Or.inr (Or.inr (hold j hj).2)))
  refine ⟨⟨((hG.newAr ho8 ha).out h9 (fun k hk e => ?_)).done, h.ok.gone hs hx hp, Nat.le_succ_of_le h.small, hm⟩, ?_, hW⟩
  · have e' : k = w.heap.size := e
    have nl : ∀ j, b.foot bb j → j ≠ w.heap.size := fun j hj e => by have := h.lt hj; omega
    rcases hk with hk | hk | hk | hk
    · exact nl k (Or.inl hk) e'
    · rcases hw8 k hk with h1 | h1
      · exact nl k (Or.inr (Or.inl h1)) e'
      · omega
    · exact nl k (Or.inr (Or.inr (Or.inl hk))) e'
    · exact nl k (Or.inr (Or.inr (Or.inr (hold k hk).2))) e'
  · have o1 := hO.trans (hT.mono (S' := b.foot bb) (fun j hj => by
      rcases hj with hj | hj
      · exact Or.inl hj
      · exact Or.inr (Or.inr (Or.inr (vAt_own hs hj))))) (Went.refl _ _)
    have o2 := o1.trans (ho8.mono (S' := b.foot bb) (fun j hj => Or.inr (Or.inl hj))) (Went.refl _ _)
    exact o2.trans h9 (fun j hj => Or.inr (by rw [show j = w.heap.size from hj]; exact Nat.le_refl _))

set_option maxRecDepth 100000 in
set_option maxHeartbeats 4000000 in
theorem cancel_yes (bb m s : Nat) (b : BkS) (x : Ly) (w : World) (h : Bk w bb m b) (hm : m + 1 ≤ 900000) (hs : s < 2) (hx : x ∈ b.S s) :
    Calls Tryz.prog 54 #[.pointer (some ⟨bb, 0, none⟩), .int .i64 x.o.id] w fun e W' => e = .returned (.tuple #[x.o.agg, .nilIface]) ∧ ∃ b' : BkS, (∃ i, i < (b.S s).length ∧ lyAt (b.S s) i = x ∧ b'.S = upS b.S s (outAt i (b.S s))) ∧ Goes w W' bb (m + 1) b b' := by
  have H : Hid (Bk w bb m b) := h
  clear h
  unfold Ord.agg
  go_enter Tryz.func54, Tryz.ntmps54
  go_wp2_with fail
  refine (find_yes bb m s b x _ (H.out.below (bel1 _ _) (Nat.le_refl _)) hs hx).mono ?_
  rintro e w1 ⟨rfl, hb1⟩
  unfold Ord.agg plV
  have hr := blk_below (heap_alloc_new w _) hb1 (Nat.le_refl _)
  have HB1 : Hid (Below w.heap.size w w1) := bel_then (bel1 _ _) hb1
  clear hb1
  go_upto_region 4 with fail
  have hb2 := bel2 w1 (.cells #[.int .i64 x.o.id, .int .i64 x.o.side, .int .i64 x.o.kind, .int .i64 x.o.price, .int .i64 x.o.qty] 41) (.cells #[.int .i64 x.slot, .int .i64 x.age, .int .i64 s] 171)
  have hr := blk_below hr hb2 (Nat.le_refl _)
  have hp := two_new w1 (.cells #[.int .i64 x.o.id, .int .i64 x.o.side, .int .i64 x.o.kind, .int .i64 x.o.price, .int .i64 x.o.qty] 41) (.cells #[.int .i64 x.slot, .int .i64 x.age, .int .i64 s] 171)
  have hpl : w.heap.size < w1.heap.size + 1 := Nat.lt_succ_of_le HB1.out.size
  generalize (w1.alloc (.cells #[.int .i64 x.o.id, .int .i64 x.o.side, .int .i64 x.o.kind, .int .i64 x.o.price, .int .i64 x.o.qty] 41)).alloc (.cells #[.int .i64 x.slot, .int .i64 x.age, .int .i64 s] 171) = w2 at hb2 hr hp ⊢
  generalize w1.heap.size + 1 = pb at hp hpl ⊢
  have HB2 : Hid (Below w.heap.size w w2) := bel_then HB1.out hb2
  clear hb2 HB1
  have HBK : Hid (Bk w2 bb m b) := H.out.below HB2.out (Nat.le_refl _)
  obtain ⟨i, hil, hix⟩ := lyAt_of_mem hx
  have m1 : w2.cell? ⟨bb, 1, none⟩ = some (.map (some b.mb)) := blk_cell (j := 1) HBK.out.at_.box rfl
  obtain ⟨w3, hrun, hm3, ho3⟩ := HBK.out.at_.map.del (H.out.ok.ok s hs x hx).2.1 (gone_mem H.out.ok hs hil hix) 0
  have hG3 := HBK.out.at_.mid.newMap ho3 hm3
  have hr := blk_out hr ho3 (HBK.out.at_.map.ne hr)
  have hp := blk_out hp ho3 (HBK.out.at_.map.ne hp)
  have HO3 : Hid (Out (b.foot bb) w w3) := (Out.of_below HB2.out (Nat.le_refl _)).trans (ho3.mono (S' := b.foot bb) (fun j hj => Or.inr (Or.inr (Or.inl hj)))) (Went.refl _ _)
  go_wp2_with fail
  clear hrun m1 hm3 ho3
  obtain ⟨hrow, _, _⟩ := hG3.rowIs hs
  obtain ⟨g, cap, hv⟩ := row_form hrow (by omega)
  have HG3 : Hid (BookG w3 bb b.ab b.mb b.n b.vs b.vf b.v0 b.v1 b.rs b.fr (upS b.S s (outAt i (b.S s))) b.S) := hG3
  have HR3 : Hid (w3.heap[w.heap.size]? = some (.cells #[.int .i64 0, .int .i64 0, .int .i64 0, .int .i64 0, .int .i64 0] 41 (0, 0))) := hr
  have HP3 : Hid (w3.heap[pb]? = some (.cells #[.int .i64 x.slot, .int .i64 x.age, .int .i64 s] 171 (0, 0))) := hp
  have HROW : Hid (w3.ownsRow 0 169 2 (.slice (some ⟨g, 0, none⟩) (b.S s).length cap) (b.S s).length (hV (b.S s))) := by rw [hv] at hrow; exact hrow
  have HV : Hid (vAt b.v0 b.v1 s = .slice (some ⟨g, 0, none⟩) (b.S s).length cap) := hv
  have hgw : g < w.heap.size := by
    have h1 : (vAt b.v0 b.v1 s).ownBlock = some g := by rw [hv]; rfl
    exact ((H.out.at_.mid.rowIs hs).1.lt g h1).2
  have ng : ∀ {j : Nat} {vs : Array Value} {t : TypeId}, w3.heap[j]? = some (.cells vs t (0, 0)) → t ≠ 169 → ¬ (j = g) := fun {j vs t} hj ht e => owns_type HROW.out hj ht (by rw [e]; rfl)
  have HS5 : Hid (∀ w', Out (fun j => j = g) w3 w' → (w'.cell? ⟨pb, 1, none⟩ = some (.int .i64 x.age) ∧ w'.cell? ⟨pb, 2, none⟩ = some (.int .i64 s) ∧ w'.cell? ⟨bb, 2 + s, none⟩ = some (.slice (some ⟨g, 0, none⟩) (b.S s).length cap) ∧ Out (fun j => j = g) w3 w')) := fun w' ho => by
    have g1 := blk_out HP3.out ho (ng HP3.out (by decide))
    have g2 := blk_out HG3.out.box ho (ng HG3.out.box (by decide))
    exact ⟨blk_cell (j := 1) g1 rfl, blk_cell (j := 2) g1 rfl, by rw [← HV.out]; exact (box_cell g2 hs).1, ho⟩
  clear hG3 hr hp hrow hv
  have hln : (b.S s).length ≤ 1000 := by
    have h1 := (pb_len b.S [] hs).2
    have h2 := H.out.ok.most
    omega
  have HON : Hid (isH (lyAt (b.S s) i) x.slot x.age = true ∧ ∀ j, j < (b.S s).length → j ≠ i → isH (lyAt (b.S s) j) x.slot x.age = false) := only_one H.out.ok hs hil hix
  have q1 : (0 : Int) ≤ (s : Int) := by omega
  have q2 : (s : Int) < 2 := by omega
  refine wp_region_late (fun w' => w'.cell? ⟨pb, 1, none⟩ = some (.int .i64 x.age) ∧ w'.cell? ⟨pb, 2, none⟩ = some (.int .i64 s) ∧ w'.cell? ⟨bb, 2 + s, none⟩ = some (.slice (some ⟨g, 0, none⟩) (b.S s).length cap) ∧ Out (fun j => j = g) w3 w') (fun i => i == 15) (by kernel_rfl) (HS5.out _ (out_drew (Out.refl _ _))) (fun hHeld => ?_)
  refine wpAnyL_take (i := 0) (v := ?_) rfl (by kernel_rfl) (by kernel_rfl) (by kernel_rfl) (by kernel_rfl) (by kernel_rfl) (fun _ _ _ h => h) (by rfl) ?_ (by assumption) ?_
  rotate_left
  · intro w hSw
    try dsimp only at hSw
    go_simp
    try rfl
  refine wpAnyL_take (i := 1) (v := ?_) rfl (by kernel_rfl) (by kernel_rfl) (by kernel_rfl) (by kernel_rfl) (by kernel_rfl) (fun _ _ _ h => h) (by rfl) ?_ (by assumption) ?_
  rotate_left
  · intro w hSw
    try dsimp only at hSw
    go_simp
    try rfl
  refine wpAnyL_take (i := 2) (v := ?_) rfl (by kernel_rfl) (by kernel_rfl) (by kernel_rfl) (by kernel_rfl) (by kernel_rfl) (fun _ _ _ h => h) (by rfl) ?_ (by assumption) ?_
  rotate_left
  · intro w hSw
    try dsimp only at hSw
    go_simp
    try rfl
  refine wpAnyL_take (i := 3) (v := ?_) rfl (by kernel_rfl) (by kernel_rfl) (by kernel_rfl) (by kernel_rfl) (by kernel_rfl) (fun _ _ _ h => h) (by rfl) ?_ (by assumption) ?_
  rotate_left
  · intro w hSw
    try dsimp only at hSw
    go_simp
    try rfl
  refine wpAnyL_take (i := 4) (v := ?_) rfl (by kernel_rfl) (by kernel_rfl) (by kernel_rfl) (by kernel_rfl) (by kernel_rfl) (fun _ _ _ h => h) (by rfl) ?_ (by assumption) ?_
  rotate_left
  · intro w hSw
    try dsimp only at hSw
    go_simp
    try rfl
  refine wpAnyL_take (i := 5) (v := ?_) rfl (by kernel_rfl) (by kernel_rfl) (by kernel_rfl) (by kernel_rfl) (by kernel_rfl) (fun _ _ _ h => h) (by rfl) ?_ (by assumption) ?_
  rotate_left
  · intro w hSw
    try dsimp only at hSw
    go_simp
    try rfl
  refine wpAnyL_take (i := 6) (v := ?_) rfl (by kernel_rfl) (by kernel_rfl) (by kernel_rfl) (by kernel_rfl) (by kernel_rfl) (fun _ _ _ h => h) (by rfl) ?_ (by assumption) ?_
  rotate_left
  · intro w hSw
    try dsimp only at hSw
    go_simp
    try rfl
  refine wpAnyL_take (i := 7) (v := ?_) rfl (by kernel_rfl) (by kernel_rfl) (by kernel_rfl) (by kernel_rfl) (by kernel_rfl) (fun _ _ _ h => h) (by rfl) ?_ (by assumption) ?_
  rotate_left
  · intro w hSw
    try dsimp only at hSw
    go_simp
    try rfl
  refine wpAnyL_take (i := 8) (v := ?_) rfl (by kernel_rfl) (by kernel_rfl) (by kernel_rfl) (by kernel_rfl) (by kernel_rfl) (fun _ _ _ h => h) (by rfl) ?_ (by assumption) ?_
  rotate_left
  · intro w hSw
    try dsimp only at hSw
    go_simp
    try rfl
  refine wpAnyL_take (i := 9) (v := ?_) rfl (by kernel_rfl) (by kernel_rfl) (by kernel_rfl) (by kernel_rfl) (by kernel_rfl) (fun _ _ _ h => h) (by rfl) ?_ (by assumption) ?_
  rotate_left
  · intro w hSw
    try dsimp only at hSw
    go_simp
    try rfl
  refine wpAnyL_take (i := 10) (v := ?_) rfl (by kernel_rfl) (by kernel_rfl) (by kernel_rfl) (by kernel_rfl) (by kernel_rfl) (fun _ _ _ h => h) (by rfl) ?_ (by assumption) ?_
  rotate_left
  · intro w hSw
    try dsimp only at hSw
    go_simp
    try rfl
  refine wpAnyL_take (i := 12) (v := ?_) rfl (by kernel_rfl) (by kernel_rfl) (by kernel_rfl) (by kernel_rfl) (by kernel_rfl) (fun _ _ _ h => h) (by rfl) ?_ (by assumption) ?_
  rotate_left
  · intro w hSw
    try dsimp only at hSw
    go_simp
    try rfl
  refine wpAnyL_take (i := 13) (v := ?_) rfl (by kernel_rfl) (by kernel_rfl) (by kernel_rfl) (by kernel_rfl) (by kernel_rfl) (fun _ _ _ h => h) (by rfl) ?_ (by assumption) ?_
  rotate_left
  · intro w hSw
    try dsimp only at hSw
    go_simp
    try rfl
  refine wpAnyL_ready (rs := [11]) (by kernel_rfl) (by simp) ?_
  refine AllReadyL.cons rfl (fun K hK => ?_) AllReadyL.nil
  go_simp
  refine (deleteF pb x.slot i g cap x.age s (b.S s) _ (owns_below HROW.out (Below.refl _ _).drew (Nat.le_refl _)) hln hil HON.out.1 HON.out.2 HP3.out).mono ?_
  rintro e w6 ⟨rfl, hr6, ho6⟩
  dsimp only
  have ho6 : Out (fun j => j = g) w3 w6 := out_then (out_drew (Out.refl _ _)) ho6
  have b6 := box_cell (blk_out HG3.out.box ho6 (ng HG3.out.box (by decide))) hs
  have e6 := b6.1
  have f6 := b6.2
  refine hK.out _ _ (fun _ => HS5.out _ ho6) (fun hHeld => ?_)
  replace hHeld := hHeld rfl
  clear hK K b6
  refine wpAnyL_ready (rs := [14]) (by kernel_rfl) (by simp) ?_
  refine AllReadyL.cons rfl (fun K hK => ?_) AllReadyL.nil
  go_simp
  refine hK.out _ _ (fun _ => HS5.out _ ho6) (fun hHeld => ?_)
  replace hHeld := hHeld rfl
  clear hK K
  refine wpAnyL_ready (rs := [15]) (by kernel_rfl) (by simp) ?_
  refine AllReadyL.cons rfl (fun K hK => ?_) AllReadyL.nil
  go_simp
  refine hK.out _ _ (fun h => by cases h) (fun _ => ?_)
  refine wpAnyL_done (by kernel_rfl) ?_ _
  go_wp2_with fail
  have hvo : (vAt b.v0 b.v1 s).ownBlock = some g := by rw [HV.out]; rfl
  obtain ⟨hG, hT⟩ := HG3.out.newRow hs hr6 (ho6.mono (fun j hj => by rw [show j = g from hj]; exact hvo)) (Or.inl hvo)
  generalize w6.setCell ⟨bb, 2 + s, none⟩ (.slice (some ⟨g, 0, none⟩) (outAt i (b.S s)).length cap) = w7 at hG hT ⊢
  have hz : w.heap.size < w3.heap.size := lt_of_block HR3.out
  have n7 : ∀ {j : Nat} {vs : Array Value} {t : TypeId}, w3.heap[j]? = some (.cells vs t (0, 0)) → t ≠ 157 → t ≠ 169 → ¬ (j = bb ∨ (vAt b.v0 b.v1 s).ownBlock = some j) := fun {j vs t} hj ht ht2 e => by
    rcases e with e | e
    · exact blk_ne hj HG3.out.box ht e
    · rw [hvo] at e
      exact ng hj ht2 (by injection e with e; exact e.symm)
  have hr7 := blk_out HR3.out hT (n7 HR3.out (by decide) (by decide))
  have hp7 := blk_out HP3.out hT (n7 HP3.out (by decide) (by decide))
  have HG7 : Hid (BookG w7 bb b.ab b.mb b.n b.vs b.vf (rowV b.v0 (.slice (some ⟨g, 0, none⟩) (outAt i (b.S s)).length cap) s 0) (rowV b.v1 (.slice (some ⟨g, 0, none⟩) (outAt i (b.S s)).length cap) s 1) b.rs b.fr (upS b.S s (outAt i (b.S s))) (upS b.S s (outAt i (b.S s)))) := hG
  have HT : Hid (Out (fun j => j = bb ∨ (vAt b.v0 b.v1 s).ownBlock = some j) w3 w7) := hT
  have HVO : Hid ((vAt b.v0 b.v1 s).ownBlock = some g) := hvo
  have HR7 : Hid (w7.heap[w.heap.size]? = some (.cells #[.int .i64 0, .int .i64 0, .int .i64 0, .int .i64 0, .int .i64 0] 41 (0, 0))) := hr7
  have HP7 : Hid (w7.heap[pb]? = some (.cells #[.int .i64 x.slot, .int .i64 x.age, .int .i64 s] 171 (0, 0))) := hp7
  have na : ∀ j, aoB b.ab b.vs b.vf j → j < w.heap.size := fun j hj => H.out.lt (Or.inr (Or.inl hj))
  have HS6 : Hid (∀ w', Out (fun j => aoB b.ab b.vs b.vf j ∨ j = w.heap.size) w7 w' → (w'.cell? ⟨bb, 0, none⟩ = some (.pointer (some ⟨b.ab, 0, none⟩)) ∧ w'.cell? ⟨pb, 0, none⟩ = some (.int .i64 x.slot) ∧ w'.cell? ⟨pb, 1, none⟩ = some (.int .i64 x.age) ∧ Out (fun j => aoB b.ab b.vs b.vf j ∨ j = w.heap.size) w7 w')) := fun w' ho => by
    have lb : bb < w.heap.size := H.out.lt (Or.inl rfl)
    have g1 := blk_out HG7.out.box ho (fun e => by
      rcases e with e | e
      · exact H.out.at_.notBox e
      · omega)
    have g2 := blk_out HP7.out ho (fun e => by
      rcases e with e | e
      · have := na _ e; omega
      · omega)
    exact ⟨blk_cell (j := 0) g1 rfl, blk_cell (j := 0) g2 rfl, blk_cell (j := 1) g2 rfl, ho⟩
  have HAT : Hid (soAt b.rs x.slot = (some x.o, x.age)) := H.out.ok.there s hs x hx
  have hcl : b.rs.length ≤ 1000000 := by have := H.out.ok.so.small; have := H.out.steps; omega
  have hfl : b.fr.length ≤ b.rs.length := by have := H.out.ok.so.cnt; omega
  have HAG : Hid (0 ≤ x.age ∧ x.age ≤ 1000000) := by
    have h1 := H.out.ok.so.ages x.slot
    rw [HAT.out] at h1
    have h2 := H.out.steps
    have h3 : 0 ≤ x.age ∧ x.age ≤ (m : Int) := h1
    show _ ∧ _
    omega
  have hs0 := HS6.out w7 (Out.refl _ _)
  clear hr7 hp7 hG hT hvo hr6 ho6 hHeld e6 f6 q1 q2
  go_region_held3 (fun w' => w'.cell? ⟨bb, 0, none⟩ = some (.pointer (some ⟨b.ab, 0, none⟩)) ∧ w'.cell? ⟨pb, 0, none⟩ = some (.int .i64 x.slot) ∧ w'.cell? ⟨pb, 1, none⟩ = some (.int .i64 x.age) ∧ Out (fun j => aoB b.ab b.vs b.vf j ∨ j = w.heap.size) w7 w')
    ((refine HS6.out _ ?_; (repeat' first | assumption | exact out_drew (Out.refl _ _) | refine out_setIn ?_ (Or.inr rfl))))
    (first | (go_at_call 102; refine (oaTake b.ab 100 b.vs b.vf b.rs b.fr x.slot x.o x.age _ (HG7.out.ar.below (Below.refl _ _).drew (Nat.le_refl _)) HAT.out hcl hfl HAG.out).mono ?_; rintro e w8 ⟨rfl, vf', ha8, ho8, hw8⟩; have ho8 : Out (aoB b.ab b.vs b.vf) w7 w8 := out_then (out_drew (Out.refl _ _)) ho8; have hO8 : Out (fun j => aoB b.ab b.vs b.vf j ∨ j = w.heap.size) w7 w8 := ho8.mono (fun _ h => Or.inl h); have hx8 := blk_out HR7.out ho8 (fun e => Nat.lt_irrefl _ (na _ e)); have y0 := blk_free (j := 0) hx8; have y1 := blk_free (j := 1) hx8; have y2 := blk_free (j := 2) hx8; have y3 := blk_free (j := 3) hx8; have y4 := blk_free (j := 4) hx8; have x0 := blk_cell (j := 0) hx8 rfl; have x1 := blk_cell (j := 1) hx8 rfl; have x2 := blk_cell (j := 2) hx8 rfl; have x3 := blk_cell (j := 3) hx8 rfl; have x4 := blk_cell (j := 4) hx8 rfl; unfold Ord.agg; clear hx8))
  go_wp2
  refine bodyPost_ret (by simp [results, Tryz.results54, go_sem, x0, x1, x2, x3, x4]; try rfl) rfl ?_
  refine ⟨rfl, _, ⟨i, hil, hix, rfl⟩, can_fin H.out hm hs hx hil hix HO3.out hz HVO.out HT.out HG7.out ha8 ho8 hw8 ?_⟩
  exact out_setIn (out_setIn (out_setIn (out_setIn (out_setIn (Out.refl _ _) rfl) rfl) rfl) rfl) rfl
end Go.Proofs.YtjdkagafdnchhaaGreatDoor
