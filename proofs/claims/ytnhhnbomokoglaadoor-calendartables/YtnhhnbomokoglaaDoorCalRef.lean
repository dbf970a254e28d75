/-
  What the document's own Table and Phase (2.1) return, over this seat's translation, told by the same plain functions tabE and phaseV as the program's. Conditions stand in each theorem.
-/
import Derived.Test.YtnhhnbomokoglaaDoorCalPhase
import Derived.Test.YtnhhnbomokoglaaDoorErr
import Derived.Deep.LoopGhost
import Derived.Deep.DeepCutAuto
namespace Go.Proofs.YtnhhnbomokoglaaDoor
open Go.RowKit

/-- the block in which Table lays its answer -/
theorem ans_cells {w w1 : World} (hb : Below (w.heap.size + 1) (w.alloc (.cells #[.int .i64 0, .int .i64 0] 38)) w1) :
    w1.cell? ⟨w.heap.size, 0, none⟩ = some (.int .i64 0) ∧ w1.cell? ⟨w.heap.size, 1, none⟩ = some (.int .i64 0) ∧ w1.frozen? ⟨w.heap.size, 0, none⟩ = false ∧ w1.frozen? ⟨w.heap.size, 1, none⟩ = false ∧ Below w.heap.size w w1 :=
  ⟨(hb.cell (p := ⟨w.heap.size, 0, none⟩) (by simp)).trans (World.cell?_alloc_at _ _ _ _ rfl), (hb.cell (p := ⟨w.heap.size, 1, none⟩) (by simp)).trans (World.cell?_alloc_at _ _ _ _ rfl),
    (hb.frozen (p := ⟨w.heap.size, 0, none⟩) (by simp)).trans (by simp), (hb.frozen (p := ⟨w.heap.size, 1, none⟩) (by simp)).trans (by simp), ((Below.refl _ _).alloc (Nat.le_refl _) _).trans (hb.mono (by omega))⟩

theorem ans_laid {w : World} {B : Nat} {u v : Value} (c0 : w.cell? ⟨B, 0, none⟩ = some u) (c1 : w.cell? ⟨B, 1, none⟩ = some v) (x y : Value) :
    (w.setCell ⟨B, 0, none⟩ x).cell? ⟨B, 0, none⟩ = some x ∧ ((w.setCell ⟨B, 0, none⟩ x).setCell ⟨B, 1, none⟩ y).cell? ⟨B, 1, none⟩ = some y :=
  ⟨World.cell?_setCell_same' _ _ _ (by rw [c0]; rfl), World.cell?_setCell_same' _ _ _ (Option.isSome_iff_exists.2 ⟨v, (World.cell?_setCell_other (w := w) (a := ⟨B, 0, none⟩) (b := ⟨B, 1, none⟩) (v := x) (by simp)).trans c1⟩)⟩

theorem ans_kept {w : World} {B : Nat} {u v : Value} (c0 : w.cell? ⟨B, 0, none⟩ = some u) (c1 : w.cell? ⟨B, 1, none⟩ = some v) (x y : Value) (o : Obj) :
    (((w.setCell ⟨B, 0, none⟩ x).setCell ⟨B, 1, none⟩ y).alloc o).cell? ⟨B, 0, none⟩ = some x ∧ (((w.setCell ⟨B, 0, none⟩ x).setCell ⟨B, 1, none⟩ y).alloc o).cell? ⟨B, 1, none⟩ = some y := by
  obtain ⟨g0, g1⟩ := ans_laid c0 c1 x y
  have hB : B < ((w.setCell ⟨B, 0, none⟩ x).setCell ⟨B, 1, none⟩ y).heap.size := cal_lt (a := ⟨B, 1, none⟩) g1
  have h0 : ((w.setCell ⟨B, 0, none⟩ x).setCell ⟨B, 1, none⟩ y).cell? ⟨B, 0, none⟩ = some x := (World.cell?_setCell_other (w := w.setCell ⟨B, 0, none⟩ x) (a := ⟨B, 1, none⟩) (b := ⟨B, 0, none⟩) (v := y) (by simp)).trans g0
  exact ⟨(World.cell?_alloc_lt _ _ ⟨B, 0, none⟩ hB).trans h0, (World.cell?_alloc_lt _ _ ⟨B, 1, none⟩ hB).trans g1⟩
theorem ans_drawn {w : World} {B : Nat} {u v : Value} (c0 : w.cell? ⟨B, 0, none⟩ = some u) (c1 : w.cell? ⟨B, 1, none⟩ = some v) (x y : Value) (o : Obj) (n : Nat) :
    ((((w.alloc o).drewN n).setCell ⟨B, 0, none⟩ x).cell? ⟨B, 0, none⟩ = some x ∧ ((((w.alloc o).drewN n).setCell ⟨B, 0, none⟩ x).setCell ⟨B, 1, none⟩ y).cell? ⟨B, 1, none⟩ = some y) := by
  have hB : B < w.heap.size := cal_lt (a := ⟨B, 0, none⟩) c0
  have hb : Below w.heap.size w ((w.alloc o).drewN n) := below_drewN ((Below.refl _ _).alloc (Nat.le_refl _) _) n
  exact ans_laid ((hb.cell (p := ⟨B, 0, none⟩) hB).trans c0) ((hb.cell (p := ⟨B, 1, none⟩) hB).trans c1) x y
theorem int_is {x y : Int} (h : x = y) : Value.int .i64 x = .int .i64 y := by rw [h]
theorem box_is {w : World} {t1 x y : Int} {t : TypeId} (h : x = y) : w.alloc (.cells #[.int .i64 t1, .int .i64 x] t) = w.alloc (.cells #[.int .i64 t1, .int .i64 y] t) := by rw [h]

set_option maxHeartbeats 400000 in
theorem refTable_empty (a : Option Addr) (cap : Nat) (w : World) : Calls Tryd.prog 12 #[.slice a 0 cap] w fun e w' => e = .returned (.agg #[.int .i64 8, .int .i64 (-1)]) ∧ Below w.heap.size w w' := by
  go_enter Tryd.func12, Tryd.ntmps12
  go_wp2_with fail
  refine (Bare_any 8 _).mono ?_
  rintro e w1 ⟨rfl, hb⟩
  obtain ⟨c0, c1, f0, f1, hb1⟩ := ans_cells (w := w) (hb.mono (by simp))
  have HB : Hid (Below w.heap.size w w1) := hb1
  clear hb hb1
  obtain ⟨g0, g1⟩ := ans_laid c0 c1 (.int .i64 8) (.int .i64 (-1))
  go_wp2
  refine bodyPost_ret (by simp [results, Tryd.results12, go_sem, g0, g1]; try rfl) rfl ?_
  exact ⟨rfl, (HB.out.setCell (Nat.le_refl _) _).setCell (Nat.le_refl _) _⟩

set_option maxHeartbeats 400000 in
theorem refTable_long (a : Option Addr) (n cap : Nat) (w : World) (hn : 20 < n) (hm : n ≤ 60) : Calls Tryd.prog 12 #[.slice a n cap] w fun e w' => e = .returned (.agg #[.int .i64 4, .int .i64 (-1)]) ∧ Below w.heap.size w w' := by
  go_enter Tryd.func12, Tryd.ntmps12
  go_wp2_with fail
  refine (Bare_any 4 _).mono ?_
  rintro e w1 ⟨rfl, hb⟩
  obtain ⟨c0, c1, f0, f1, hb1⟩ := ans_cells (w := w) (hb.mono (by simp))
  have HB : Hid (Below w.heap.size w w1) := hb1
  clear hb hb1
  obtain ⟨g0, g1⟩ := ans_laid c0 c1 (.int .i64 4) (.int .i64 (-1))
  go_wp2
  refine bodyPost_ret (by simp [results, Tryd.results12, go_sem, g0, g1]; try rfl) rfl ?_
  exact ⟨rfl, (HB.out.setCell (Nat.le_refl _) _).setCell (Nat.le_refl _) _⟩

/-- the document's test: may a phase stand behind a phase -/
def okB (a ph : Int) : Bool := (a == 1 && ph == 2) || (a == 2 && ph == 3) || (a == 3 && (ph == 5 || ph == 7)) || (a == 5 && ph == 7)
theorem okB_iff (a ph : Int) : okB a ph = true ↔ (a = 1 ∧ ph = 2) ∨ (a = 2 ∧ ph = 3) ∨ (a = 3 ∧ (ph = 5 ∨ ph = 7)) ∨ (a = 5 ∧ ph = 7) := by
  unfold okB; simp [or_assoc]
theorem okB_has (a ph : Int) : hasB (folL a) ph = okB a ph := by
  rw [Bool.eq_iff_iff, okB_iff]
  unfold folL
  split
  · simp [hasB]; omega
  split
  · simp [hasB]; omega
  split
  · simp [hasB]; omega
  split
  · simp [hasB]; omega
  · simp [hasB]; omega
theorem okB_is {a ph : Int} {x : Bool} (h : x = true ↔ (a = 1 ∧ ph = 2) ∨ (a = 2 ∧ ph = 3) ∨ (a = 3 ∧ (ph = 5 ∨ ph = 7)) ∨ (a = 5 ∧ ph = 7)) : Value.bool x = .bool (okB a ph) := by
  rw [Bool.eq_iff_iff.2 (h.trans (okB_iff a ph).symm)]
theorem row_bad {t0 a t1 ph : Int} (h : okB a ph = false) : rowE (t0, a) (t1, ph) = 1 := by
  unfold rowE wrongN; rw [okB_has, h]; rfl
theorem row_old {t0 a t1 ph : Int} (h : okB a ph = true) (h1 : t1 ≤ t0) : rowE (t0, a) (t1, ph) = 10 := by
  unfold rowE wrongN; rw [okB_has, if_pos h, if_pos h1]
theorem row_far {t0 a t1 ph : Int} (h : okB a ph = true) (h1 : t0 < t1) (h2 : 1000000 < t1) : rowE (t0, a) (t1, ph) = 2 := by
  unfold rowE wrongN; rw [okB_has, if_pos h, if_neg (by simp; omega), if_pos (by simpa using h2)]
theorem row_good {t0 a t1 ph : Int} (h : okB a ph = true) (h1 : t0 < t1) (h2 : t1 ≤ 1000000) : rowE (t0, a) (t1, ph) = 0 := by
  unfold rowE wrongN; rw [okB_has, if_pos h, if_neg (by simp; omega), if_neg (by simp; omega)]

theorem bne_is {a c : Int} (h : (a != c) = true) : ¬ a = c := by simpa using h
theorem bne_not {a c : Int} (h : (a != c) = false) : a = c := by simpa using h
theorem pair_is {a c x y : Int} (h : a = x) (h' : c = y) : (a, c) = (x, y) := by rw [h, h']

set_option maxRecDepth 4000 in
set_option maxHeartbeats 4000000 in
theorem refTable_any (b cap : Nat) (rs : List (Int × Int)) (w : World) (h : RowsAt w b 0 rs) (hne : 0 < rs.length) (hlen : rs.length ≤ 20) :
    Calls Tryd.prog 12 #[.slice (some ⟨b, 0, none⟩) rs.length cap] w fun e w' => e = .returned (.agg #[.int .i64 (tabE rs).1, .int .i64 (tabE rs).2]) ∧ Below w.heap.size w w' := by
  have HR : Hid (RowsAt (w.alloc (.cells #[.int .i64 0, .int .i64 0] 38)) b 0 rs) := h.below ((Below.refl _ _).alloc (Nat.le_refl _) _) (Nat.le_refl _)
  clear h
  have hz : ((rs.length : Int) == 0) = false := beq_eq_false_iff_ne.2 (by omega)
  have hz2 : decide (20 < (rs.length : Int)) = false := by simp; omega
  go_enter Tryd.func12, Tryd.ntmps12
  go_wp2_with fail
  go_loopg [18] rs.length (fun g i wr => ∃ k : Nat, k ≤ rs.length ∧ g = rs.length - k ∧ i = .int .i64 k ∧ Below (w.heap.size + 1) (w.alloc (.cells #[.int .i64 0, .int .i64 0] 38)) wr ∧ (k = 0 ∨ ∃ m, k = m + 1 ∧ scanE (rowAt rs m) (m + 1) (rs.drop (m + 1)) = tabE rs))
  case atStart => exact ⟨0, Nat.zero_le _, rfl, rfl, Below.refl _ _, Or.inl rfl⟩
  case round =>
    obtain ⟨k, hk, rfl, rfl, hb, hq⟩ := hrel
    obtain ⟨a0, a1, f0, f1, hb1⟩ := ans_cells hb
    have HB : Hid (Below (w.heap.size + 1) (w.alloc (.cells #[.int .i64 0, .int .i64 0] 38)) wr) := hb
    have HB1 : Hid (Below w.heap.size w wr) := hb1
    have hr := HR.out.below (n := w.heap.size + 1) hb (by simp)
    have hsz : w.heap.size < wr.heap.size := by have := hb.size; simp at this; omega
    clear hb hb1
    rcases hq with rfl | ⟨m, rfl, hq⟩
    · have hc0 := (hr.row hne).1
      have hc1 := (hr.row hne).2
      simp only [Nat.zero_mul, Nat.add_zero, Nat.zero_add] at hc0 hc1
      clear hr
      have g0 := fun o => (ans_kept a0 a1 (.int .i64 1) (.int .i64 0) o).1
      have g1 := fun o => (ans_kept a0 a1 (.int .i64 1) (.int .i64 0) o).2
      have HT : Hid (¬ rowAt rs 0 = (0, 1) → tabE rs = (1, 0)) := tab_first hne hlen
      have HS : Hid (rowAt rs 0 = (0, 1) → tabE rs = scanE (rowAt rs 0) 1 (rs.drop 1)) := tab_scan hne hlen
      generalize hr0 : rowAt rs 0 = r at hc0 hc1 HT
      have HR0 : Hid (rowAt rs 0 = r) := hr0
      clear hr0
      obtain ⟨t1, ph⟩ := r
      dsimp only at hc0 hc1
      go_wp2_with fail
      · refine bodyPost_ret (by simp [results, Tryd.results12, go_sem, g0, g1]; try rfl) rfl ?_
        have hT := HT.out (fun e => absurd (congrArg Prod.snd e) (bne_is (by assumption)))
        exact ⟨by rw [hT], ((HB1.out.setCell (Nat.le_refl _) _).setCell (Nat.le_refl _) _).alloc (by simp; omega) _⟩
      · go_roundg (rs.length - 1)
        case measure => omega
        case rel => exact ⟨1, hne, rfl, rfl, HB.out.alloc hsz _, Or.inr ⟨0, rfl, (HS.out (HR0.out.trans (pair_is (by assumption) (bne_not (by assumption))))).symm⟩⟩
      · refine bodyPost_ret (by simp [results, Tryd.results12, go_sem, g0, g1]; try rfl) rfl ?_
        have hT := HT.out (fun e => absurd (congrArg Prod.fst e) (by assumption))
        exact ⟨by rw [hT], ((HB1.out.setCell (Nat.le_refl _) _).setCell (Nat.le_refl _) _).alloc (by simp; omega) _⟩
    · have H1 : Hid (m + 1 < rs.length → rowE (rowAt rs m) (rowAt rs (m + 1)) = 0 → scanE (rowAt rs (m + 1)) (m + 2) (rs.drop (m + 2)) = tabE rs) := fun hm he => (scan_step hm he).symm.trans hq
      have H2 : Hid (m + 1 < rs.length → ¬ rowE (rowAt rs m) (rowAt rs (m + 1)) = 0 → tabE rs = (rowE (rowAt rs m) (rowAt rs (m + 1)), ((m + 1 : Nat) : Int))) := fun hm he => hq.symm.trans (scan_stop hm he)
      have H3 : Hid (rs.length ≤ m + 1 → tabE rs = (0, -1)) := fun hm => hq.symm.trans (scan_end hm)
      obtain ⟨hc0, hc1⟩ := hr.row (k := m) (by omega)
      by_cases hm : rs.length ≤ m + 1
      · clear hc0 hc1 hr hq
        go_wp2_with fail
        refine (Bare_any 0 _).mono ?_
        rintro e w2 ⟨rfl, hb2⟩
        obtain ⟨c0, c1, f0', f1', hb3⟩ := ans_cells (w := w) (HB.out.trans (hb2.mono (by omega)))
        obtain ⟨g0, g1⟩ := ans_laid c0 c1 (.int .i64 0) (.int .i64 (-1))
        have HB3 : Hid (Below w.heap.size w w2) := hb3
        clear hb2 hb3 a0 a1 f0 f1
        go_wp2
        refine bodyPost_ret (by simp [results, Tryd.results12, go_sem, g0, g1]; try rfl) rfl ?_
        have hT := H3.out hm
        exact ⟨by rw [hT], (HB3.out.setCell (Nat.le_refl _) _).setCell (Nat.le_refl _) _⟩
      have hm1 : m + 1 < rs.length := by omega
      obtain ⟨hd0, hd1⟩ := hr.row hm1
      have hbl : b < wr.heap.size := cal_lt (a := ⟨b, 0 + m * 2, none⟩) hc0
      simp only [Nat.zero_add] at hc0 hc1 hd0 hd1
      clear hr hq
      generalize rowAt rs m = p at hc0 hc1 H1 H2
      generalize hr1 : rowAt rs (m + 1) = r at hd0 hd1 H1 H2
      have HRS : Hid (rowAt rs (m + 1) = r) := hr1
      clear hr1
      obtain ⟨t0, a⟩ := p
      obtain ⟨t1, ph⟩ := r
      dsimp only at hc0 hc1 hd0 hd1
      go_upto_region 13 with fail
      go_cut [6, 7] (fun pa ok wc => pa = .int .i64 a ∧ ok = .bool (okB a ph) ∧ wc = wr.alloc (.cells #[.int .i64 t1, .int .i64 ph] 62))
      case first =>
        go_wp2_with fail
        all_goals go_meet
        all_goals exact ⟨int_is (by omega), okB_is (by first | (simp; omega) | (constructor <;> intro <;> simp_all <;> omega)), box_is (by omega)⟩
      case rest =>
        obtain ⟨rfl, rfl, rfl⟩ := hcut
        cases hok : okB a ph with
        | false =>
          have g0 := fun o => (ans_kept a0 a1 (.int .i64 1) (.int .i64 ((m : Int) + 1)) o).1
          have g1 := fun o => (ans_kept a0 a1 (.int .i64 1) (.int .i64 ((m : Int) + 1)) o).2
          go_wp2_with fail
          refine bodyPost_ret (by simp [results, Tryd.results12, go_sem, g0, g1]; try rfl) rfl ?_
          have hT := H2.out hm1 (by rw [row_bad hok]; decide)
          rw [row_bad hok] at hT
          exact ⟨by rw [hT]; rfl, ((HB1.out.setCell (Nat.le_refl _) _).setCell (Nat.le_refl _) _).alloc (by simp; omega) _⟩
        | true =>
          go_wp2_with fail
          go_quiet (fail)
          go_wp2_with fail
          · obtain ⟨g0, g1⟩ := ans_drawn a0 a1 (.int .i64 10) (.int .i64 ((m : Int) + 1)) (.cells #[.int .i64 t1, .int .i64 ph] 62) nq
            refine bodyPost_ret (by simp [results, Tryd.results12, go_sem, g0, g1]; try rfl) rfl ?_
            have hE : rowE (t0, a) (t1, ph) = 10 := row_old hok (by assumption)
            have hT := H2.out hm1 (by rw [hE]; decide)
            rw [hE] at hT
            exact ⟨by rw [hT]; rfl, ((below_drewN (HB1.out.alloc HB1.out.size _) _).setCell (Nat.le_refl _) _).setCell (Nat.le_refl _) _⟩
          · obtain ⟨g0, g1⟩ := ans_drawn a0 a1 (.int .i64 2) (.int .i64 ((m : Int) + 1)) (.cells #[.int .i64 t1, .int .i64 ph] 62) nq
            refine bodyPost_ret (by simp [results, Tryd.results12, go_sem, g0, g1]; try rfl) rfl ?_
            have hE : rowE (t0, a) (t1, ph) = 2 := row_far hok (by assumption) (by assumption)
            have hT := H2.out hm1 (by rw [hE]; decide)
            rw [hE] at hT
            exact ⟨by rw [hT]; rfl, ((below_drewN (HB1.out.alloc HB1.out.size _) _).setCell (Nat.le_refl _) _).setCell (Nat.le_refl _) _⟩
          · go_roundg (rs.length - (m + 2))
            case measure => omega
            case rel => exact ⟨m + 2, by omega, rfl, by go_num, below_drewN (HB.out.alloc hsz _) _, Or.inr ⟨m + 1, rfl, by rw [HRS.out]; exact H1.out hm1 (row_good hok (by assumption) (by assumption))⟩⟩
end Go.Proofs.YtnhhnbomokoglaaDoor
