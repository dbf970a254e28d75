/-
  What slices.DeleteFunc does to a row of handles when the one that is asked for lies there, over this seat's translation. Conditions stand in each theorem.
-/
import Derived.Test.YtcpijeehgdbjbaaPbOrd
import Derived.Laws.StructEq
namespace Go.Proofs.Ytcpijeehgdbjbaa
open Go.RowKit

theorem hV_set {l : List Ly} {k : Nat} (x : Ly) (h : k < l.length) : ((hV l).set (k * 2) (.int .i64 x.slot)).set (k * 2 + 1) (.int .i64 x.age) = hV (l.set k x) := by
  induction l generalizing k with
  | nil => simp at h
  | cons r rs ih =>
    cases k with
    | zero => rfl
    | succ k =>
      have := ih (k := k) (by simpa using h)
      rw [show (k + 1) * 2 = k * 2 + 1 + 1 by omega]
      simp only [hV, List.set_cons_succ]
      rw [← this]

/-- the row in the midst of it: the places from i on are filled from behind, up to j -/
def shiftL (i j : Nat) (l : List Ly) : List Ly := l.take i ++ ((l.take j).drop (i + 1) ++ l.drop (j - 1))
theorem shiftL_start {i : Nat} {l : List Ly} (_h : i < l.length) : shiftL i (i + 1) l = l := by
  unfold shiftL
  rw [List.drop_of_length_le (by simp; omega), List.nil_append]
  simp
theorem shiftL_length {i j : Nat} {l : List Ly} (h1 : i < j) (h2 : j ≤ l.length) : (shiftL i j l).length = l.length := by
  unfold shiftL
  simp
  omega
theorem shiftL_at {i j : Nat} {l : List Ly} (h1 : i < j) (h2 : j < l.length) : lyAt (shiftL i j l) j = lyAt l j := by
  unfold lyAt shiftL
  rw [List.getD_eq_getElem?_getD, List.getD_eq_getElem?_getD, List.getElem?_append_right (by simp; omega), List.getElem?_append_right (by simp; omega), List.getElem?_drop]
  simp
  congr 2
  omega
theorem shiftL_step {i j : Nat} {l : List Ly} (h1 : i < j) (h2 : j < l.length) : (shiftL i j l).set (j - 1) (lyAt l j) = shiftL i (j + 1) l := by
  have hA : (l.take i).length = i := by simp; omega
  have hB : ((l.take j).drop (i + 1)).length = j - 1 - i := by simp; omega
  unfold shiftL
  rw [List.set_append_right _ _ (by omega), List.set_append_right _ _ (by omega), hA, hB]
  congr 1
  rw [show j - 1 - i - (j - 1 - i) = 0 by omega, show j + 1 - 1 = j by omega]
  obtain ⟨j', rfl⟩ : ∃ j', j = j' + 1 := ⟨j - 1, by omega⟩
  rw [show j' + 1 - 1 = j' by omega, List.drop_eq_getElem_cons (show j' < l.length by omega), List.set_cons_zero]
  have e : (l.take (j' + 1 + 1)).drop (i + 1) = (l.take (j' + 1)).drop (i + 1) ++ [l[j' + 1]] := by
    rw [List.take_succ_eq_append_getElem h2, List.drop_append_of_le_length (by simp; omega)]
  rw [e, List.append_assoc, lyAt_eq h2]
  rfl
/-- one is gone -/
def outAt (i : Nat) (l : List Ly) : List Ly := l.take i ++ l.drop (i + 1)
theorem outAt_length {i : Nat} {l : List Ly} (h : i < l.length) : (outAt i l).length = l.length - 1 := by unfold outAt; simp; omega
theorem outAt_perm {i : Nat} {l : List Ly} (h : i < l.length) : l.Perm (lyAt l i :: outAt i l) := by
  have h1 : l = l.take i ++ lyAt l i :: l.drop (i + 1) := by rw [lyAt_eq h, ← List.drop_eq_getElem_cons h, List.take_append_drop]
  have h2 := List.perm_middle (a := lyAt l i) (l₁ := l.take i) (l₂ := l.drop (i + 1))
  rw [← h1] at h2
  exact h2
theorem shiftL_end {i : Nat} {l : List Ly} (h : i < l.length) : (shiftL i l.length l).take (l.length - 1) = outAt i l := by
  unfold shiftL outAt
  rw [List.take_length, ← List.append_assoc, List.take_left' (by simp; omega)]

/-- is it that handle? -/
def isH (x : Ly) (k : Nat) (a : Int) : Bool := decide (x.slot = k) && decide (x.age = a)

set_option maxHeartbeats 1000000 in
theorem delClo (pb : Nat) (k : Nat) (a : Int) (s : Int) (x : Ly) (w : World) (h : w.heap[pb]? = some (.cells #[.int .i64 k, .int .i64 a, .int .i64 s] 78 (0, 0))) :
    Calls Try.prog 42 #[.agg #[.int .i64 x.slot, .int .i64 x.age], .pointer (some ⟨pb, 0, none⟩)] w fun e w' => e = .returned (.bool (isH x k a)) ∧ Below w.heap.size w w' := by
  have c0 := blk_cell (j := 0) h rfl
  have c1 := blk_cell (j := 1) h rfl
  have lp := lt_of_block h
  clear h
  by_cases h1 : x.slot = k
  · by_cases h2 : x.age = a
    · have HR : Hid (isH x k a = true) := by show _ = _; unfold isH; rw [decide_eq_true h1, decide_eq_true h2]; rfl
      have b1 : ((x.slot : Int) == (k : Int)) = true := by rw [h1]; exact beq_self_eq_true _
      have b2 : (x.age == a) = true := by rw [h2]; exact beq_self_eq_true _
      clear h1 h2
      go_enter Try.func42, Try.ntmps42
      go_wp2
      go_ret
      exact ⟨by rw [HR.out]; rfl, by (repeat' first | assumption | exact Below.refl _ _ | exact Nat.le_refl _ | refine Below.drew ?_ | refine Below.alloc ?_ ?_ _ | (simp; done) | (simp; omega))⟩
    · have HR : Hid (isH x k a = false) := by show _ = _; unfold isH; rw [decide_eq_false h2, Bool.and_false]
      have b1 : ((x.slot : Int) == (k : Int)) = true := by rw [h1]; exact beq_self_eq_true _
      have b2 : (x.age == a) = false := beq_eq_false_iff_ne.2 h2
      clear h1 h2
      go_enter Try.func42, Try.ntmps42
      go_wp2
      go_ret
      exact ⟨by rw [HR.out]; rfl, by (repeat' first | assumption | exact Below.refl _ _ | exact Nat.le_refl _ | refine Below.drew ?_ | refine Below.alloc ?_ ?_ _ | (simp; done) | (simp; omega))⟩
  · have HR : Hid (isH x k a = false) := by show _ = _; unfold isH; rw [decide_eq_false h1, Bool.false_and]
    have b1 : ((x.slot : Int) == (k : Int)) = false := beq_eq_false_iff_ne.2 (by omega)
    clear h1
    go_enter Try.func42, Try.ntmps42
    go_wp2
    go_ret
    exact ⟨by rw [HR.out]; rfl, by (repeat' first | assumption | exact Below.refl _ _ | exact Nat.le_refl _ | refine Below.drew ?_ | refine Below.alloc ?_ ?_ _ | (simp; done) | (simp; omega))⟩

set_option maxRecDepth 4000 in
set_option maxHeartbeats 2000000 in
theorem indexF (pb k i g cap : Nat) (a s : Int) (l : List Ly) (w : World) (hr : w.ownsRow 0 76 2 (.slice (some ⟨g, 0, none⟩) l.length cap) l.length (hV l)) (hl : l.length ≤ 1000) (hi : i < l.length) (hat : isH (lyAt l i) k a = true) (hno : ∀ j, j < i → isH (lyAt l j) k a = false)
    (hp : w.heap[pb]? = some (.cells #[.int .i64 k, .int .i64 a, .int .i64 s] 78 (0, 0))) :
    Calls Try.prog 52 #[.slice (some ⟨g, 0, none⟩) l.length cap, .func (.func 42) #[] #[.pointer (some ⟨pb, 0, none⟩)]] w fun e w' => e = .returned (.int .i64 i) ∧ Below w.heap.size w w' := by
  have HR : Hid (w.ownsRow 0 76 2 (.slice (some ⟨g, 0, none⟩) l.length cap) l.length (hV l)) := hr
  have HP : Hid (w.heap[pb]? = some (.cells #[.int .i64 k, .int .i64 a, .int .i64 s] 78 (0, 0))) := hp
  have HAT : Hid (isH (lyAt l i) k a = true) := hat
  have HNO : Hid (∀ j, j < i → isH (lyAt l j) k a = false) := hno
  clear hr hp hat hno
  go_enter Try.func52, Try.ntmps52
  go_wp2_with fail
  go_loopw [8] (fun v wr => ∃ j : Nat, j ≤ i ∧ v = .int .i64 j ∧ Below w.heap.size w wr) (fun v _ => l.length - (intOf v).toNat)
  case atStart => exact ⟨0, Nat.zero_le _, rfl, Below.refl _ _⟩
  case round =>
    obtain ⟨j, hj, rfl, hb⟩ := hrel
    have HB : Hid (Below w.heap.size w wr) := hb
    have hrr := owns_below HR.out hb (Nat.le_refl _)
    have hlt : j < l.length := by omega
    have c0 := (hrr.cellAt (j * 2) (by omega)).trans (hV_at hlt).1
    have c1 := (hrr.cellAt (j * 2 + 1) (by omega)).trans (hV_at hlt).2
    have hpr := blk_below HP.out hb (Nat.le_refl _)
    have HPR : Hid _ := hpr
    clear hrr hb hpr
    go_wp2_with fail
    refine (delClo pb k a s (lyAt l j) _ HPR.out).mono ?_
    rintro e w1 ⟨rfl, hb1⟩
    have HB1 : Hid (Below w.heap.size w w1) := bel_then HB.out hb1
    clear hb1 c0 c1
    by_cases hji : j = i
    · subst hji
      rw [HAT.out]
      go_wp2_with fail
      go_ret
      exact ⟨rfl, HB1.out⟩
    · rw [HNO.out j (by omega)]
      go_wp2_with fail
      go_roundw
      case rel => exact ⟨j + 1, by omega, by go_num, HB1.out⟩
      case measure => simp [intOf]; omega

theorem Try.zeroH (w : World) : (zeroValue 76).run Try.prog w = .ok (.agg #[.int .i64 0, .int .i64 0]) w := by kernel_rfl
/-- clear of one handle -/
theorem run_clear_one (W : World) (g o c : Nat) (cur : Array Value) (t : TypeId) (hg : W.heap[g]? = some (.cells cur t (0, 0))) (hfit : o + 2 ≤ cur.size) :
    ∃ W', (∀ ty, (Builtin.clear_ #[71] ty #[.slice (some ⟨g, o, none⟩) 1 c]).run Try.prog W = .ok (.tuple #[]) W')
      ∧ W'.heap[g]? = some (.cells (cur.toList.take o ++ [Value.int .i64 0, Value.int .i64 0] ++ cur.toList.drop (o + 2)).toArray t (0, 0)) ∧ Out (fun j => j = g) W W' := by
  refine ⟨W.setRow g (cur.toList.take o ++ [Value.int .i64 0, Value.int .i64 0] ++ cur.toList.drop (o + 2)).toArray, fun ty => ?_, setRow_heap W g _ _ t _ hg, ⟨rfl, rfl, rfl, by simp [World.setRow], fun j _ hj => setRow_other W g j _ hj⟩⟩
  have hst := run_storeCells_at Try.prog g o t [Value.int .i64 0, Value.int .i64 0] 0 cur W hg (by simpa using hfit) (by simp [Value.oneCell'])
  have hz := Try.zeroH W
  have hu := run_underlying (P := Try.prog) Try.underlying71 (w := W)
  simp only [Nat.add_zero, List.length_cons, List.length_nil, Nat.zero_add, Nat.reduceAdd] at hst
  simp [Builtin.clear_, hu, hz, Builtin.zeroCells, Value.cells]
  rw [show List.map (fun i => [Value.int .i64 0, Value.int .i64 0][i % 2]?.getD default) (List.range 2) = [Value.int .i64 0, Value.int .i64 0] from rfl, hst]
  simp

set_option maxRecDepth 100000 in
set_option maxHeartbeats 4000000 in
theorem deleteF (pb k i g cap : Nat) (a s : Int) (l : List Ly) (w : World) (hr : w.ownsRow 0 76 2 (.slice (some ⟨g, 0, none⟩) l.length cap) l.length (hV l)) (hl : l.length ≤ 1000) (hi : i < l.length) (hat : isH (lyAt l i) k a = true) (hno : ∀ j, j < l.length → j ≠ i → isH (lyAt l j) k a = false)
    (hp : w.heap[pb]? = some (.cells #[.int .i64 k, .int .i64 a, .int .i64 s] 78 (0, 0))) :
    Calls Try.prog 41 #[.slice (some ⟨g, 0, none⟩) l.length cap, .func (.func 42) #[] #[.pointer (some ⟨pb, 0, none⟩)]] w
      fun e w' => e = .returned (.slice (some ⟨g, 0, none⟩) (outAt i l).length cap) ∧ w'.ownsRow 0 76 2 (.slice (some ⟨g, 0, none⟩) (outAt i l).length cap) (outAt i l).length (hV (outAt i l)) ∧ Out (fun j => j = g) w w' := by
  have hpg : pb ≠ g := fun e => owns_type hr hp (by decide) (by rw [e]; rfl)
  have hcap : l.length ≤ cap ∧ cap ≤ maxLen := by
    obtain ⟨_, _, e, h1, h2⟩ := owns_shape hr
    simp only [Value.slice.injEq, true_and] at e
    omega
  unfold maxLen at hcap
  have HR : Hid (w.ownsRow 0 76 2 (.slice (some ⟨g, 0, none⟩) l.length cap) l.length (hV l)) := hr
  have HP : Hid (w.heap[pb]? = some (.cells #[.int .i64 k, .int .i64 a, .int .i64 s] 78 (0, 0))) := hp
  have HAT : Hid (isH (lyAt l i) k a = true) := hat
  have HNO : Hid (∀ j, j < l.length → j ≠ i → isH (lyAt l j) k a = false) := hno
  have lg : g < w.heap.size := (hr.lt g rfl).2
  clear hr hp hat hno
  go_enter Try.func41, Try.ntmps41
  go_wp2_with fail
  refine (indexF pb k i g cap a s l _ HR.out hl hi HAT.out (fun j hj => HNO.out j (by omega) (by omega)) HP.out).mono ?_
  rintro e w0 ⟨rfl, hb0⟩
  have HB0 : Hid (Below w.heap.size w w0) := hb0
  clear hb0
  go_wp2_with fail
  go_loopw [5, 6] (fun v u wr => ∃ n : Nat, i ≤ n ∧ n + 1 ≤ l.length ∧ v = .int .i64 n ∧ u = .int .i64 (n + 1 : Nat) ∧ wr.ownsRow 0 76 2 (.slice (some ⟨g, 0, none⟩) l.length cap) l.length (hV (shiftL i (n + 1) l)) ∧ Out (fun j => j = g) w wr) (fun _ u _ => l.length - (intOf u).toNat)
  case atStart => exact ⟨i, Nat.le_refl _, by omega, rfl, by go_num, by rw [shiftL_start hi]; exact owns_below HR.out HB0.out (Nat.le_refl _), Out.of_below HB0.out (Nat.le_refl _)⟩
  case round =>
    obtain ⟨n, hn1, hn2, rfl, rfl, hrr, hob⟩ := hrel
    have HRR : Hid (wr.ownsRow 0 76 2 (.slice (some ⟨g, 0, none⟩) l.length cap) l.length (hV (shiftL i (n + 1) l))) := hrr
    have HOB : Hid (Out (fun j => j = g) w wr) := hob
    by_cases hlt : n + 1 < l.length
    · have hsl : (shiftL i (n + 1) l).length = l.length := shiftL_length (by omega) (by omega)
      have hv := hV_at (l := shiftL i (n + 1) l) (k := n + 1) (by omega)
      rw [shiftL_at (by omega) hlt] at hv
      have c0 := (hrr.cellAt ((n + 1) * 2) (by omega)).trans hv.1
      have c1 := (hrr.cellAt ((n + 1) * 2 + 1) (by omega)).trans hv.2
      have q0 : (0 : Int) ≤ ((n + 1 : Nat) : Int) := by omega
      have q1 : ((n + 1 : Nat) : Int) < (l.length : Int) := by omega
      clear hrr hob hv
      go_wp2_with fail
      have hbv := bel1 wr (.cells #[.int .i64 (lyAt l (n + 1)).slot, .int .i64 (lyAt l (n + 1)).age] 76)
      have hvv := heap_alloc_new wr (.cells #[.int .i64 (lyAt l (n + 1)).slot, .int .i64 (lyAt l (n + 1)).age] 76)
      refine (delClo pb k a s (lyAt l (n + 1)) _ (blk_below (blk_out HP.out HOB.out hpg) hbv (Nat.le_refl _))).mono ?_
      rintro e w1 ⟨rfl, hb1⟩
      rw [HNO.out (n + 1) hlt (by omega)]
      have hv1 := blk_below hvv hb1 (Nat.le_refl _)
      have hr1 := owns_below HRR.out (bel_then hbv hb1) (Nat.le_refl _)
      have HR1 : Hid (w1.ownsRow 0 76 2 (.slice (some ⟨g, 0, none⟩) l.length cap) l.length (hV (shiftL i (n + 1) l))) := hr1
      have HO1 : Hid (Out (fun j => j = g) w w1) := HOB.out.trans (Out.of_below (bel_then hbv hb1) (Nat.le_refl _)) (Went.refl _ _)
      have hvn : wr.heap.size ≠ g := by have := (HRR.out.lt g rfl).2; omega
      have v0 := blk_cell (j := 0) hv1 rfl
      have v1 := blk_cell (j := 1) hv1 rfl
      have hv := hV_at (l := shiftL i (n + 1) l) (k := n) (by omega)
      have d0 := (hr1.cellAt (n * 2) (by omega)).trans hv.1
      have d1 := (hr1.cellAt (n * 2 + 1) (by omega)).trans hv.2
      have f0 := hr1.frozenAt (n * 2)
      have f1 := hr1.frozenAt (n * 2 + 1)
      have r0 : (0 : Int) ≤ (n : Int) := by omega
      have r1 : (n : Int) < (l.length : Int) := by omega
      clear hb1 hbv hvv hv1 hr1 hv c0 c1
      go_wp2_with fail
      go_roundw
      case rel =>
        obtain ⟨s1, s2⟩ := HR1.out.stored (n * 2) (.int .i64 (lyAt l (n + 1)).slot)
        obtain ⟨s3, s4⟩ := s1.stored (n * 2 + 1) (.int .i64 (lyAt l (n + 1)).age)
        have hst := shiftL_step (i := i) (j := n + 1) (l := l) (by omega) hlt
        rw [show n + 1 - 1 = n by omega] at hst
        rw [hV_set _ (by omega), hst] at s3
        have s5 : Out (fun j => j = g) w _ := (HO1.out.trans (Out.of_grown s2 (fun j hj => by injection hj with hj; exact hj.symm)) (Went.refl _ _)).trans (Out.of_grown s4 (fun j hj => by injection hj with hj; exact hj.symm)) (Went.refl _ _)
        (repeat apply Exists.intro)
        refine ⟨⟨n + 1, by omega, by omega, ?_, ?_, s3, s5⟩, rfl⟩
        · go_num
        · go_num
      case measure => simp [intOf]; omega
    · have hle : l.length = n + 1 := by omega
      have hsl : (shiftL i (n + 1) l).length = l.length := shiftL_length (by omega) (by omega)
      rcases hrr.2 with ⟨h', _⟩ | ⟨g', cap', cur, h', _, hg, hnc, hcm, hcs, ht⟩
      · simp at h'
      simp only [Value.slice.injEq, Option.some.injEq, Addr.mk.injEq, and_true, true_and] at h'
      obtain ⟨rfl, rfl⟩ := h'
      obtain ⟨W1, hrun, hg1, ho1⟩ := run_clear_one wr g (n * 2) (cap - n) cur 76 hg (by rw [hcs]; omega)
      have hol := outAt_length hi
      have HFIN : Hid (W1.ownsRow 0 76 2 (.slice (some ⟨g, 0, none⟩) n cap) n (hV (outAt i l)) ∧ Out (fun j => j = g) w W1 ∧ (outAt i l).length = n) := by
        refine ⟨⟨by rw [hV_length]; omega, Or.inr ⟨g, cap, _, rfl, Nat.zero_le _, hg1, by omega, by unfold maxLen; omega, ?_, ?_⟩⟩, HOB.out.trans ho1 (Went.refl _ _), by omega⟩
        · simp [hcs]; omega
        · dsimp only
          rw [List.append_assoc, List.take_append_of_le_length (by simp [hcs]; omega), List.take_of_length_le (by simp; omega), ← shiftL_end hi, hle, show n + 1 - 1 = n by omega, ← hV_take (by omega), ← ht, List.take_take]
          congr 1
          omega
      have hrun' : ∀ ty, (Builtin.clear_ #[71] ty #[.slice (some ⟨g, n * 2, none⟩) (l.length - n) (cap - n)]).run Try.prog wr = .ok (.tuple #[]) W1 := by rw [show l.length - n = 1 by omega]; exact hrun
      have q0 : (0 : Int) ≤ (n : Int) := by omega
      have q1 : (n : Int) ≤ (l.length : Int) := by omega
      have q2 : ¬ (cap = n) := by omega
      have q3 : n ≤ cap := by omega
      have q4 : n ≤ l.length := by omega
      clear hrr hob hrun hg1 ho1 hg hcs ht hsl hol hle
      go_wp2_with fail
      go_ret
      obtain ⟨h1, h2, h3⟩ := HFIN.out
      rw [h3]
      exact ⟨rfl, h1, h2⟩
end Go.Proofs.Ytcpijeehgdbjbaa
