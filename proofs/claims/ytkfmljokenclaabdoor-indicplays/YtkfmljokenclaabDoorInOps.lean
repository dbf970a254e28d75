/-
  What the program's Add and Take do to an Indic, and return, over this seat's translation. Conditions stand in each theorem.
-/
import Derived.Test.YtkfmljokenclaabDoorInChg
namespace Go.Proofs.YtkfmljokenclaabDoor
open Go.RowKit

/-- so many lots more (or less) where an order's are -/
def addB (b : Int → Int) (o : Ord) (q : Int) : Int → Int := if o.kind = 2 then b else if o.side = 1 then upI b o.price (b o.price + q) else b
def addS (s : Int → Int) (o : Ord) (q : Int) : Int → Int := if o.kind = 2 then s else if o.side = 1 then s else upI s o.price (s o.price + q)
def addMb (mb : Int) (o : Ord) (q : Int) : Int := if o.kind = 2 then (if o.side = 1 then mb + q else mb) else mb
def addMs (ms : Int) (o : Ord) (q : Int) : Int := if o.kind = 2 then (if o.side = 1 then ms else ms + q) else ms
theorem IndAt.more {w : World} {xb : Nat} {v : Value} {b s : Int → Int} {mb ms : Int} {m m' : Nat} (h : IndAt w xb v b s mb ms m) (hm : m ≤ m') : IndAt w xb v b s mb ms m' :=
  ⟨h.blk, by obtain ⟨l, h1, h2, h3⟩ := h.row; exact ⟨l, h1, h2, by omega⟩⟩

/-- change, whatever the order -/
theorem inChange (xb : Nat) (v : Value) (b s : Int → Int) (mb ms : Int) (m : Nat) (o : Ord) (more : Int) (w : World) (h : IndAt w xb v b s mb ms m) (hm : m < 1000) (hs : o.side = 1 ∨ o.side = 2) (hb : SmallF b) (hsf : SmallF s) (hmb : 0 ≤ mb ∧ mb ≤ 1000000000) (hms : 0 ≤ ms ∧ ms ≤ 1000000000) (hq : -1000000 ≤ more ∧ more ≤ 1000000) :
    Calls Tryd.prog 17 #[.pointer (some ⟨xb, 0, none⟩), .agg #[.int .i64 o.id, .int .i64 o.side, .int .i64 o.kind, .int .i64 o.price, .int .i64 o.qty], .int .i64 more] w fun e w' => e = .returned (.tuple #[]) ∧ ∃ v', IndAt w' xb v' (addB b o more) (addS s o more) (addMb mb o more) (addMs ms o more) (m + 1) ∧ Out (IndT xb v) w w' ∧ Went w (IndT xb v) (IndT xb v') := by
  by_cases hk : o.kind = 2
  · refine (inChangeM xb v b s mb ms m o more w h hk hs hmb hms hq).mono ?_
    rintro e w' ⟨rfl, h1, h2⟩
    refine ⟨rfl, v, ?_, h2, Went.refl _ _⟩
    unfold addB addS addMb addMs
    rw [if_pos hk, if_pos hk, if_pos hk, if_pos hk]
    exact h1.more (by omega)
  · refine (inChangeL xb v b s mb ms m o more w h hm hk hs hb hsf hq).mono ?_
    rintro e w' ⟨rfl, v', h1, h2, h3⟩
    refine ⟨rfl, v', ?_, h2, h3⟩
    unfold addB addS addMb addMs
    rw [if_neg hk, if_neg hk, if_neg hk, if_neg hk]
    exact h1
theorem lieB_iff {o : Ord} : lieB o = true ↔ (o.side = 1 ∨ o.side = 2) ∧ (1 ≤ o.qty ∧ o.qty ≤ 1000000) ∧ (o.kind = 2 ∨ (1 ≤ o.price ∧ o.price ≤ 1000000)) := by
  unfold lieB rightB inB
  by_cases hk : o.kind = 2
  · rw [if_pos hk]; simp [hk]
  · rw [if_neg hk]; simp [hk]
    intro _
    constructor
    · rintro ⟨h1, h2⟩; exact ⟨h2, h1⟩
    · rintro ⟨h1, h2⟩; exact ⟨h2, h1⟩

set_option maxRecDepth 4000 in
set_option maxHeartbeats 4000000 in
theorem inAdd_no (xb : Nat) (o : Ord) (w : World) (hl : lieB o = false) :
    Calls Tryd.prog 6 #[.pointer (some ⟨xb, 0, none⟩), .agg #[.int .i64 o.id, .int .i64 o.side, .int .i64 o.kind, .int .i64 o.price, .int .i64 o.qty]] w fun e w' => e = .returned (.iface 35 (.int .i64 1)) ∧ Below w.heap.size w w' := by
  have HL : Hid (lieB o = false) := hl
  clear hl
  go_enter Tryd.func6, Tryd.ntmps6
  go_wp2_with fail
  have hbA := bel1 w (.cells #[.int .i64 o.id, .int .i64 o.side, .int .i64 o.kind, .int .i64 o.price, .int .i64 o.qty] 30)
  generalize w.alloc (.cells #[.int .i64 o.id, .int .i64 o.side, .int .i64 o.kind, .int .i64 o.price, .int .i64 o.qty] 30) = W at hbA ⊢
  refine (inMayLie o W).mono ?_
  rintro e w1 ⟨rfl, hb1⟩
  rw [HL.out]
  go_wp2_with fail
  go_ret
  exact ⟨rfl, bel_then hbA hb1⟩
set_option maxRecDepth 4000 in
set_option maxHeartbeats 4000000 in
theorem inTake_no (xb : Nat) (o : Ord) (w : World) (hl : lieB o = false) :
    Calls Tryd.prog 7 #[.pointer (some ⟨xb, 0, none⟩), .agg #[.int .i64 o.id, .int .i64 o.side, .int .i64 o.kind, .int .i64 o.price, .int .i64 o.qty]] w fun e w' => e = .returned (.iface 35 (.int .i64 1)) ∧ Below w.heap.size w w' := by
  have HL : Hid (lieB o = false) := hl
  clear hl
  go_enter Tryd.func7, Tryd.ntmps7
  go_wp2_with fail
  have hbA := bel1 w (.cells #[.int .i64 o.id, .int .i64 o.side, .int .i64 o.kind, .int .i64 o.price, .int .i64 o.qty] 30)
  generalize w.alloc (.cells #[.int .i64 o.id, .int .i64 o.side, .int .i64 o.kind, .int .i64 o.price, .int .i64 o.qty] 30) = W at hbA ⊢
  refine (inMayLie o W).mono ?_
  rintro e w1 ⟨rfl, hb1⟩
  rw [HL.out]
  go_wp2_with fail
  go_ret
  exact ⟨rfl, bel_then hbA hb1⟩

set_option maxRecDepth 4000 in
set_option maxHeartbeats 4000000 in
theorem inAdd (xb : Nat) (v : Value) (b s : Int → Int) (mb ms : Int) (m : Nat) (o : Ord) (w : World) (h : IndAt w xb v b s mb ms m) (hm : m < 1000) (hl : lieB o = true) (hb : SmallF b) (hsf : SmallF s) (hmb : 0 ≤ mb ∧ mb ≤ 1000000000) (hms : 0 ≤ ms ∧ ms ≤ 1000000000) :
    Calls Tryd.prog 6 #[.pointer (some ⟨xb, 0, none⟩), .agg #[.int .i64 o.id, .int .i64 o.side, .int .i64 o.kind, .int .i64 o.price, .int .i64 o.qty]] w fun e w' => e = .returned .nilIface ∧ ∃ v', IndAt w' xb v' (addB b o o.qty) (addS s o o.qty) (addMb mb o o.qty) (addMs ms o o.qty) (m + 1) ∧ Out (IndT xb v) w w' ∧ Went w (IndT xb v) (IndT xb v') := by
  have HL : Hid (lieB o = true) := hl
  have HX : Hid (IndAt w xb v b s mb ms m) := h
  have HC : Hid (∀ W, IndAt W xb v b s mb ms m → Calls Tryd.prog 17 #[.pointer (some ⟨xb, 0, none⟩), .agg #[.int .i64 o.id, .int .i64 o.side, .int .i64 o.kind, .int .i64 o.price, .int .i64 o.qty], .int .i64 o.qty] W fun e w' => e = .returned (.tuple #[]) ∧ ∃ v', IndAt w' xb v' (addB b o o.qty) (addS s o o.qty) (addMb mb o o.qty) (addMs ms o o.qty) (m + 1) ∧ Out (IndT xb v) W w' ∧ Went W (IndT xb v) (IndT xb v')) := fun W hW => by
    obtain ⟨h1, h2, _⟩ := lieB_iff.1 hl
    exact inChange xb v b s mb ms m o o.qty W hW hm h1 hb hsf hmb hms (by omega)
  clear hl h hb hsf hmb hms
  go_enter Tryd.func6, Tryd.ntmps6
  go_wp2_with fail
  have hA := heap_alloc_new w (.cells #[.int .i64 o.id, .int .i64 o.side, .int .i64 o.kind, .int .i64 o.price, .int .i64 o.qty] 30)
  have hbA := bel1 w (.cells #[.int .i64 o.id, .int .i64 o.side, .int .i64 o.kind, .int .i64 o.price, .int .i64 o.qty] 30)
  generalize w.alloc (.cells #[.int .i64 o.id, .int .i64 o.side, .int .i64 o.kind, .int .i64 o.price, .int .i64 o.qty] 30) = W at hbA hA ⊢
  refine (inMayLie o W).mono ?_
  rintro e w1 ⟨rfl, hb1⟩
  rw [HL.out]
  have hA1 := blk_below hA hb1 (Nat.le_refl _)
  have HB1 : Hid (Below w.heap.size w w1) := bel_then hbA hb1
  clear hA hbA hb1
  have o0 := blk_cell (j := 0) hA1 rfl
  have o1 := blk_cell (j := 1) hA1 rfl
  have o2 := blk_cell (j := 2) hA1 rfl
  have o3 := blk_cell (j := 3) hA1 rfl
  have o4 := blk_cell (j := 4) hA1 rfl
  clear hA1
  go_wp2_with fail
  refine (HC.out w1 (HX.out.below HB1.out)).mono ?_
  rintro e w2 ⟨rfl, v', h1, h2, h3⟩
  have HF : Hid (IndAt w2 xb v' (addB b o o.qty) (addS s o o.qty) (addMb mb o o.qty) (addMs ms o o.qty) (m + 1) ∧ Out (IndT xb v) w w2 ∧ Went w (IndT xb v) (IndT xb v')) := ⟨h1, (Out.of_below HB1.out (Nat.le_refl _)).trans h2 (Went.refl _ _), (Went.refl w (IndT xb v)).trans h3 HB1.out.size⟩
  clear h1 h2 h3 o0 o1 o2 o3 o4
  go_wp2_with fail
  go_ret
  exact ⟨rfl, v', HF.out⟩

set_option maxRecDepth 4000 in
set_option maxHeartbeats 4000000 in
theorem inTake_none (xb : Nat) (v : Value) (b s : Int → Int) (mb ms : Int) (m : Nat) (o : Ord) (w : World) (h : IndAt w xb v b s mb ms m) (hm : m < 1000) (hl : lieB o = true) (hn : lotOf b s mb ms o < o.qty) :
    Calls Tryd.prog 7 #[.pointer (some ⟨xb, 0, none⟩), .agg #[.int .i64 o.id, .int .i64 o.side, .int .i64 o.kind, .int .i64 o.price, .int .i64 o.qty]] w fun e w' => e = .returned (.iface 35 (.int .i64 8)) ∧ Below w.heap.size w w' := by
  have HL : Hid (lieB o = true) := hl
  have HX : Hid (IndAt w xb v b s mb ms m) := h
  have HS : Hid (o.side = 1 ∨ o.side = 2) := (lieB_iff.1 hl).1
  clear hl h
  go_enter Tryd.func7, Tryd.ntmps7
  go_wp2_with fail
  have hA := heap_alloc_new w (.cells #[.int .i64 o.id, .int .i64 o.side, .int .i64 o.kind, .int .i64 o.price, .int .i64 o.qty] 30)
  have hbA := bel1 w (.cells #[.int .i64 o.id, .int .i64 o.side, .int .i64 o.kind, .int .i64 o.price, .int .i64 o.qty] 30)
  generalize w.alloc (.cells #[.int .i64 o.id, .int .i64 o.side, .int .i64 o.kind, .int .i64 o.price, .int .i64 o.qty] 30) = W at hbA hA ⊢
  refine (inMayLie o W).mono ?_
  rintro e w1 ⟨rfl, hb1⟩
  rw [HL.out]
  have hA1 := blk_below hA hb1 (Nat.le_refl _)
  have HB1 : Hid (Below w.heap.size w w1) := bel_then hbA hb1
  have HX1 : Hid (IndAt w1 xb v b s mb ms m) := HX.out.below HB1.out
  clear hA hbA hb1 HX
  go_wp2_with fail
  have o0 := cell_regrown (blk_cell (j := 0) hA1 rfl)
  have o1 := cell_regrown (blk_cell (j := 1) hA1 rfl)
  have o2 := cell_regrown (blk_cell (j := 2) hA1 rfl)
  have o3 := cell_regrown (blk_cell (j := 3) hA1 rfl)
  have o4 := cell_regrown (blk_cell (j := 4) hA1 rfl)
  have cT : ∀ dq os, Calls Tryd.prog 18 #[.pointer (some ⟨xb, 0, none⟩), .agg #[.int .i64 o.id, .int .i64 o.side, .int .i64 o.kind, .int .i64 o.price, .int .i64 o.qty]] (Go.Sort.grow (redrawn w1 dq) os) fun e w'' => e = .returned (.int .i64 (lotOf b s mb ms o)) ∧ ∃ p : Regrown, w'' = Go.Sort.grow (redrawn w1 p.d) p.os := fun dq os => Calls.regrown_of (inThere xb v b s mb ms m o _ (HX1.out.below (below_regrown w1 dq os)) (by omega) HS.out)
  clear hA1
  refine wp_region_quiet_below (by kernel_rfl) (by kernel_rfl) ?_
  repeat (go_big_quiet_step (exact cT _ _))
  refine wpQuiet_nil ?_
  intro _ hw'
  obtain ⟨⟨dq, osq⟩, hw''⟩ := hw'
  subst hw''
  have HB5 : Hid (Below w.heap.size w (Go.Sort.grow (redrawn w1 dq) osq)) := bel_then HB1.out (below_regrown w1 dq osq)
  generalize Go.Sort.grow (redrawn w1 dq) osq = W5 at HB5 ⊢
  clear o0 o1 o2 o3 o4 cT
  go_wp2_with fail
  go_ret
  exact ⟨rfl, HB5.out⟩

set_option maxRecDepth 4000 in
set_option maxHeartbeats 4000000 in
theorem inTake (xb : Nat) (v : Value) (b s : Int → Int) (mb ms : Int) (m : Nat) (o : Ord) (w : World) (h : IndAt w xb v b s mb ms m) (hm : m < 1000) (hl : lieB o = true) (hn : o.qty ≤ lotOf b s mb ms o) (hb : SmallF b) (hsf : SmallF s) (hmb : 0 ≤ mb ∧ mb ≤ 1000000000) (hms : 0 ≤ ms ∧ ms ≤ 1000000000) :
    Calls Tryd.prog 7 #[.pointer (some ⟨xb, 0, none⟩), .agg #[.int .i64 o.id, .int .i64 o.side, .int .i64 o.kind, .int .i64 o.price, .int .i64 o.qty]] w fun e w' => e = .returned .nilIface ∧ ∃ v', IndAt w' xb v' (addB b o (-o.qty)) (addS s o (-o.qty)) (addMb mb o (-o.qty)) (addMs ms o (-o.qty)) (m + 1) ∧ Out (IndT xb v) w w' ∧ Went w (IndT xb v) (IndT xb v') := by
  have HL : Hid (lieB o = true) := hl
  have HX : Hid (IndAt w xb v b s mb ms m) := h
  have HS : Hid (o.side = 1 ∨ o.side = 2) := (lieB_iff.1 hl).1
  have hq := (lieB_iff.1 hl).2.1
  have HC : Hid (∀ W, IndAt W xb v b s mb ms m → Calls Tryd.prog 17 #[.pointer (some ⟨xb, 0, none⟩), .agg #[.int .i64 o.id, .int .i64 o.side, .int .i64 o.kind, .int .i64 o.price, .int .i64 o.qty], .int .i64 (-o.qty)] W fun e w' => e = .returned (.tuple #[]) ∧ ∃ v', IndAt w' xb v' (addB b o (-o.qty)) (addS s o (-o.qty)) (addMb mb o (-o.qty)) (addMs ms o (-o.qty)) (m + 1) ∧ Out (IndT xb v) W w' ∧ Went W (IndT xb v) (IndT xb v')) := fun W hW => by
    obtain ⟨h1, h2, _⟩ := lieB_iff.1 hl
    exact inChange xb v b s mb ms m o (-o.qty) W hW hm h1 hb hsf hmb hms (by omega)
  have hn' : ¬ lotOf b s mb ms o < o.qty := by omega
  clear hl h hb hsf hmb hms
  go_enter Tryd.func7, Tryd.ntmps7
  go_wp2_with fail
  have hA := heap_alloc_new w (.cells #[.int .i64 o.id, .int .i64 o.side, .int .i64 o.kind, .int .i64 o.price, .int .i64 o.qty] 30)
  have hbA := bel1 w (.cells #[.int .i64 o.id, .int .i64 o.side, .int .i64 o.kind, .int .i64 o.price, .int .i64 o.qty] 30)
  generalize w.alloc (.cells #[.int .i64 o.id, .int .i64 o.side, .int .i64 o.kind, .int .i64 o.price, .int .i64 o.qty] 30) = W at hbA hA ⊢
  refine (inMayLie o W).mono ?_
  rintro e w1 ⟨rfl, hb1⟩
  rw [HL.out]
  have hA1 := blk_below hA hb1 (Nat.le_refl _)
  have HB1 : Hid (Below w.heap.size w w1) := bel_then hbA hb1
  have HX1 : Hid (IndAt w1 xb v b s mb ms m) := HX.out.below HB1.out
  clear hA hbA hb1 HX
  go_wp2_with fail
  have o0 := cell_regrown (blk_cell (j := 0) hA1 rfl)
  have o1 := cell_regrown (blk_cell (j := 1) hA1 rfl)
  have o2 := cell_regrown (blk_cell (j := 2) hA1 rfl)
  have o3 := cell_regrown (blk_cell (j := 3) hA1 rfl)
  have o4 := cell_regrown (blk_cell (j := 4) hA1 rfl)
  have cT : ∀ dq os, Calls Tryd.prog 18 #[.pointer (some ⟨xb, 0, none⟩), .agg #[.int .i64 o.id, .int .i64 o.side, .int .i64 o.kind, .int .i64 o.price, .int .i64 o.qty]] (Go.Sort.grow (redrawn w1 dq) os) fun e w'' => e = .returned (.int .i64 (lotOf b s mb ms o)) ∧ ∃ p : Regrown, w'' = Go.Sort.grow (redrawn w1 p.d) p.os := fun dq os => Calls.regrown_of (inThere xb v b s mb ms m o _ (HX1.out.below (below_regrown w1 dq os)) (by omega) HS.out)
  refine wp_region_quiet_below (by kernel_rfl) (by kernel_rfl) ?_
  repeat (go_big_quiet_step (exact cT _ _))
  refine wpQuiet_nil ?_
  intro _ hw'
  obtain ⟨⟨dq, osq⟩, hw''⟩ := hw'
  subst hw''
  have hb5 := below_regrown w1 dq osq
  have hA5 := blk_below hA1 hb5 (Nat.le_refl _)
  have HB5 : Hid (Below w.heap.size w (Go.Sort.grow (redrawn w1 dq) osq)) := bel_then HB1.out hb5
  have HX5 : Hid (IndAt (Go.Sort.grow (redrawn w1 dq) osq) xb v b s mb ms m) := HX1.out.below hb5
  generalize Go.Sort.grow (redrawn w1 dq) osq = W5 at HB5 HX5 hA5 ⊢
  clear o0 o1 o2 o3 o4 cT hb5 hA1
  have o0 := blk_cell (j := 0) hA5 rfl
  have o1 := blk_cell (j := 1) hA5 rfl
  have o2 := blk_cell (j := 2) hA5 rfl
  have o3 := blk_cell (j := 3) hA5 rfl
  have o4 := blk_cell (j := 4) hA5 rfl
  clear hA5
  go_wp2_with fail
  refine (HC.out W5 HX5.out).mono ?_
  rintro e w2 ⟨rfl, v', h1, h2, h3⟩
  have HF : Hid (IndAt w2 xb v' (addB b o (-o.qty)) (addS s o (-o.qty)) (addMb mb o (-o.qty)) (addMs ms o (-o.qty)) (m + 1) ∧ Out (IndT xb v) w w2 ∧ Went w (IndT xb v) (IndT xb v')) := ⟨h1, (Out.of_below HB5.out (Nat.le_refl _)).trans h2 (Went.refl _ _), (Went.refl w (IndT xb v)).trans h3 HB5.out.size⟩
  clear h1 h2 h3 o0 o1 o2 o3 o4
  go_wp2_with fail
  go_ret
  exact ⟨rfl, v', HF.out⟩
end Go.Proofs.YtkfmljokenclaabDoor
