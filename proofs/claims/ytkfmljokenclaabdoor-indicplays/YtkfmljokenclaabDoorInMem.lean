/-
  An Indic in memory, and what the program's own mayLie, with and there do and return, over this seat's translation. Conditions stand in each theorem.
-/
import Derived.Test.YtkfmljokenclaabDoorInSt
import Derived.Test.YtkfmljokenclaabDoorInDel
import Derived.Test.YtkfmljokenclaabDoorInFind
import Derived.Test.YtkfmljokenclaabDoorPbNum
import Derived.Test.YtkfmljokenclaabDoorBkOrd
import Derived.Lib.QuietBelow
namespace Go.Proofs.YtkfmljokenclaabDoor
open Go.RowKit

theorem in_bel1 (w : World) (o : Obj) : Below w.heap.size w (w.alloc o) := bel1 w o
/-- may an order be told of? -/
def lieB (o : Ord) : Bool := ((o.side == 1) || (o.side == 2)) && rightB (if o.kind = 2 then 1 else o.price) o.qty

set_option maxHeartbeats 2000000 in
theorem inMayLie (o : Ord) (w : World) :
    Calls Tryd.prog 16 #[.agg #[.int .i64 o.id, .int .i64 o.side, .int .i64 o.kind, .int .i64 o.price, .int .i64 o.qty]] w fun e w' => e = .returned (.bool (lieB o)) ∧ Below w.heap.size w w' := by
  by_cases hk : o.kind = 2
  · have HL : Hid (lieB o = (((o.side == 1) || (o.side == 2)) && rightB 1 o.qty)) := by show lieB o = _; unfold lieB; rw [if_pos hk]
    have hkb : (o.kind == 2) = true := by rw [hk]; rfl
    clear hk
    go_enter Tryd.func16, Tryd.ntmps16
    go_wp2_with fail
    · refine (Right_any _ _ _).mono ?_
      rintro e w1 ⟨rfl, hb1⟩
      go_wp2_with fail
      go_ret
      exact ⟨by rw [HL.out, ‹o.side = 1›]; rfl, bel_then (by (repeat' first | assumption | exact Below.refl _ _ | exact Nat.le_refl _ | refine Below.drew ?_ | refine Below.alloc ?_ ?_ _ | (simp; done) | (simp; omega))) hb1⟩
    · refine (Right_any _ _ _).mono ?_
      rintro e w1 ⟨rfl, hb1⟩
      go_wp2_with fail
      go_ret
      exact ⟨by rw [HL.out, ‹o.side = 2›]; rfl, bel_then (by (repeat' first | assumption | exact Below.refl _ _ | exact Nat.le_refl _ | refine Below.drew ?_ | refine Below.alloc ?_ ?_ _ | (simp; done) | (simp; omega))) hb1⟩
    · go_ret
      exact ⟨by rw [HL.out, beq_eq_false_iff_ne.2 ‹¬ o.side = 1›, beq_eq_false_iff_ne.2 ‹¬ o.side = 2›]; rfl, by (repeat' first | assumption | exact Below.refl _ _ | exact Nat.le_refl _ | refine Below.drew ?_ | refine Below.alloc ?_ ?_ _ | (simp; done) | (simp; omega))⟩
  · have HL : Hid (lieB o = (((o.side == 1) || (o.side == 2)) && rightB o.price o.qty)) := by show lieB o = _; unfold lieB; rw [if_neg hk]
    have hkb : (o.kind == 2) = false := beq_eq_false_iff_ne.2 hk
    clear hk
    go_enter Tryd.func16, Tryd.ntmps16
    go_wp2_with fail
    · refine (Right_any _ _ _).mono ?_
      rintro e w1 ⟨rfl, hb1⟩
      go_wp2_with fail
      go_ret
      exact ⟨by rw [HL.out, ‹o.side = 1›]; rfl, bel_then (by (repeat' first | assumption | exact Below.refl _ _ | exact Nat.le_refl _ | refine Below.drew ?_ | refine Below.alloc ?_ ?_ _ | (simp; done) | (simp; omega))) hb1⟩
    · refine (Right_any _ _ _).mono ?_
      rintro e w1 ⟨rfl, hb1⟩
      go_wp2_with fail
      go_ret
      exact ⟨by rw [HL.out, ‹o.side = 2›]; rfl, bel_then (by (repeat' first | assumption | exact Below.refl _ _ | exact Nat.le_refl _ | refine Below.drew ?_ | refine Below.alloc ?_ ?_ _ | (simp; done) | (simp; omega))) hb1⟩
    · go_ret
      exact ⟨by rw [HL.out, beq_eq_false_iff_ne.2 ‹¬ o.side = 1›, beq_eq_false_iff_ne.2 ‹¬ o.side = 2›]; rfl, by (repeat' first | assumption | exact Below.refl _ _ | exact Nat.le_refl _ | refine Below.drew ?_ | refine Below.alloc ?_ ?_ _ | (simp; done) | (simp; omega))⟩

/-- levels with a price among them: what 'with' leaves -/
theorem inWith (v : Value) (l : List Lv) (p : Int) (w : World) (h : w.ownsRow 0 67 4 v l.length (lvV l)) (hr : RiseL l) (hl : l.length ≤ 1000) :
    Calls Tryd.prog 19 #[v, .int .i64 p] w fun e w' => ∃ v', e = .returned v' ∧ w'.ownsRow 0 67 4 v' (withL p l).length (lvV (withL p l)) ∧ Out (fun k => v.ownBlock = some k) w w' ∧ ∀ k, v'.ownBlock = some k → v.ownBlock = some k ∨ w.heap.size ≤ k := by
  obtain ⟨a, cap, rfl, hin⟩ := LvsIn.of_row h
  have HA : Hid (LvsIn w a l) := hin
  have HO : Hid (w.ownsRow 0 67 4 (.slice a l.length cap) l.length (lvV l)) := h
  have HR : Hid (RiseL l) := hr
  clear h hin hr
  go_enter Tryd.func19, Tryd.ntmps19
  go_wp2_with fail
  refine (inFind a cap l p w HA.out HR.out hl).mono ?_
  rintro e w1 ⟨rfl, hb1⟩
  have HO1 : Hid (w1.ownsRow 0 67 4 (.slice a l.length cap) l.length (lvV l)) := owns_below HO.out hb1 (Nat.le_refl _)
  have HB1 : Hid (Below w.heap.size w w1) := hb1
  clear hb1
  cases hh : hasL p l with
  | true =>
    have HW : Hid (withL p l = l) := if_pos hh
    clear hh
    go_wp2_with fail
    go_ret
    exact ⟨_, rfl, by rw [HW.out]; exact HO1.out, Out.of_below HB1.out (Nat.le_refl _), fun k hk => Or.inl hk⟩
  | false =>
    have HW : Hid (withL p l = insLv (posL p l) ⟨p, 0, 0⟩ l) := if_neg (by rw [hh]; decide)
    clear hh
    go_wp2_with fail
    have hv := heap_alloc_new w1 (.cells #[.int .i64 p, .int .i64 0, .int .i64 0, .int .i64 0] 67)
    have hbA := bel1 w1 (.cells #[.int .i64 p, .int .i64 0, .int .i64 0, .int .i64 0] 67)
    have HOA : Hid ((w1.alloc (.cells #[.int .i64 p, .int .i64 0, .int .i64 0, .int .i64 0] 67)).ownsRow 0 67 4 (.slice a l.length cap) l.length (lvV l)) := HO1.out.alloc _
    have HNE : Hid ((Value.slice a l.length cap).ownBlock ≠ some w1.heap.size) := fun e => by have := (HO1.out.lt _ e).2; omega
    generalize w1.alloc (.cells #[.int .i64 p, .int .i64 0, .int .i64 0, .int .i64 0] 67) = W at hv hbA HOA ⊢
    refine (lvIns w1.heap.size (posL p l) _ l ⟨p, 0, 0⟩ W HOA.out hl (posL_le p l) hv HNE.out).mono ?_
    rintro e w2 ⟨v', rfl, g, cg, rfl, hrow, hout, hat⟩
    have HF : Hid (w2.ownsRow 0 67 4 (.slice (some ⟨g, 0, none⟩) (insLv (posL p l) ⟨p, 0, 0⟩ l).length cg) (insLv (posL p l) ⟨p, 0, 0⟩ l).length (lvV (insLv (posL p l) ⟨p, 0, 0⟩ l)) ∧ Out (fun k => (Value.slice a l.length cap).ownBlock = some k) W w2 ∧ ((Value.slice a l.length cap).ownBlock = some g ∨ W.heap.size ≤ g)) := ⟨hrow, hout, hat⟩
    have HBW : Hid (Below w.heap.size w W) := bel_then HB1.out hbA
    clear hrow hout hat hbA hv
    go_wp2_with fail
    go_ret
    refine ⟨_, rfl, by rw [HW.out]; exact HF.out.1, (Out.of_below HBW.out (Nat.le_refl _)).trans HF.out.2.1 (Went.refl _ _), fun k hk => ?_⟩
    have e : some g = some k := hk
    injection e with e
    subst e
    rcases HF.out.2.2 with h1 | h1
    · exact Or.inl h1
    · exact Or.inr (Nat.le_trans HBW.out.size h1)

/-- an Indic in a block, its levels in a row of their own; at most m levels -/
structure IndAt (w : World) (xb : Nat) (v : Value) (b s : Int → Int) (mb ms : Int) (m : Nat) : Prop where
  blk : w.heap[xb]? = some (.cells #[v, .int .i64 0, .int .i64 mb, .int .i64 ms] 27 (0, 0))
  row : ∃ l : List Lv, w.ownsRow 0 67 4 v l.length (lvV l) ∧ LvInv l b s ∧ l.length ≤ m
theorem IndAt.below {w w' : World} {xb : Nat} {v : Value} {b s : Int → Int} {mb ms : Int} {m : Nat} (h : IndAt w xb v b s mb ms m) (hb : Below w.heap.size w w') : IndAt w' xb v b s mb ms m :=
  ⟨blk_below h.blk hb (Nat.le_refl _), by obtain ⟨l, h1, h2⟩ := h.row; exact ⟨l, owns_below h1 hb (Nat.le_refl _), h2⟩⟩
/-- its blocks -/
def IndT (xb : Nat) (v : Value) (k : Nat) : Prop := k = xb ∨ v.ownBlock = some k
/-- the lots of a side -/
def lotOf (b s : Int → Int) (mb ms : Int) (o : Ord) : Int := if o.kind = 2 then (if o.side = 1 then mb else ms) else (if o.side = 1 then b o.price else s o.price)

set_option maxRecDepth 4000 in
set_option maxHeartbeats 4000000 in
theorem inThere (xb : Nat) (v : Value) (b s : Int → Int) (mb ms : Int) (m : Nat) (o : Ord) (w : World) (h : IndAt w xb v b s mb ms m) (hm : m ≤ 1000) (hs : o.side = 1 ∨ o.side = 2) :
    Calls Tryd.prog 18 #[.pointer (some ⟨xb, 0, none⟩), .agg #[.int .i64 o.id, .int .i64 o.side, .int .i64 o.kind, .int .i64 o.price, .int .i64 o.qty]] w fun e w' => e = .returned (.int .i64 (lotOf b s mb ms o)) ∧ Below w.heap.size w w' := by
  obtain ⟨hblk, l, hrow, hinv, hlm⟩ := h
  obtain ⟨a, cap, rfl, hin⟩ := LvsIn.of_row hrow
  obtain ⟨id, side, kind, price, qty⟩ := o
  have HL : Hid (LvsIn w a l) := hin
  have HI : Hid (LvInv l b s) := hinv
  have HBLK : Hid (w.heap[xb]? = some (.cells #[.slice a l.length cap, .int .i64 0, .int .i64 mb, .int .i64 ms] 27 (0, 0))) := hblk
  clear hblk hrow hinv hin
  have hbA := bel1 w (.cells #[.int .i64 id, .int .i64 side, .int .i64 kind, .int .i64 price, .int .i64 qty] 30)
  have hA := heap_alloc_new w (.cells #[.int .i64 id, .int .i64 side, .int .i64 kind, .int .i64 price, .int .i64 qty] 30)
  by_cases hk : kind = 2
  · subst hk
    rcases hs with rfl | rfl
    all_goals
      go_enter Tryd.func18, Tryd.ntmps18
      go_wp2_with fail
      have x1 := blk_cell (j := 2) (blk_below HBLK.out hbA (Nat.le_refl _)) rfl
      have x2 := blk_cell (j := 3) (blk_below HBLK.out hbA (Nat.le_refl _)) rfl
      go_quiet (fail)
      go_wp2_with fail
      go_ret
      exact ⟨rfl, below_drewN hbA _⟩
  · have hkb : (kind == 2) = false := beq_eq_false_iff_ne.2 hk
    have HLO : Hid (∀ side, lotOf b s mb ms ⟨id, side, kind, price, qty⟩ = if side = 1 then b price else s price) := fun side => if_neg hk
    clear hk
    go_enter Tryd.func18, Tryd.ntmps18
    go_wp2_with fail
    have x0 := blk_cell (j := 0) (blk_below HBLK.out hbA (Nat.le_refl _)) rfl
    have HLW : Hid (LvsIn (w.alloc (.cells #[.int .i64 id, .int .i64 side, .int .i64 kind, .int .i64 price, .int .i64 qty] 30)) a l) := HL.out.below hbA
    have HXW : Hid ((w.alloc (.cells #[.int .i64 id, .int .i64 side, .int .i64 kind, .int .i64 price, .int .i64 qty] 30)).heap[xb]? = _) := blk_below HBLK.out hbA (Nat.le_refl _)
    generalize w.alloc (.cells #[.int .i64 id, .int .i64 side, .int .i64 kind, .int .i64 price, .int .i64 qty] 30) = W at hbA hA x0 HLW HXW ⊢
    have o3 := cell_regrown (blk_cell (j := 3) hA rfl)
    have x3 := cell_regrown x0
    have cF : ∀ dq os, Calls Tryd.prog 28 #[.slice a l.length cap, .int .i64 price] (Go.Sort.grow (redrawn W dq) os) fun e w'' => e = .returned (.tuple #[.int .i64 (posL price l), .bool (hasL price l)]) ∧ ∃ p : Regrown, w'' = Go.Sort.grow (redrawn W p.d) p.os := fun dq os => Calls.regrown_of (inFind a cap l price _ (HLW.out.below (below_regrown W dq os)) HI.out.rises (by omega))
    refine wp_region_quiet_below (by kernel_rfl) (by kernel_rfl) ?_
    repeat (go_big_quiet_step (exact cF _ _))
    refine wpQuiet_nil ?_
    intro _ hw'
    obtain ⟨⟨dq, osq⟩, hw''⟩ := hw'
    subst hw''
    have hb5 := below_regrown W dq osq
    have hA5 := blk_below hA hb5 (Nat.le_refl _)
    have hX5 := blk_below HXW.out hb5 (Nat.le_refl _)
    have HL5 : Hid (LvsIn (Go.Sort.grow (redrawn W dq) osq) a l) := HLW.out.below hb5
    have HB5 : Hid (Below w.heap.size w (Go.Sort.grow (redrawn W dq) osq)) := bel_then hbA hb5
    generalize Go.Sort.grow (redrawn W dq) osq = W5 at hA5 hX5 HL5 HB5 ⊢
    clear hb5 cF o3 x3 HLW HXW x0 hA hbA
    cases hh : hasL price l with
    | false =>
      have HN : Hid (b price = 0 ∧ s price = 0) := HI.out.no hh
      clear hh
      go_wp2_with fail
      go_ret
      refine ⟨?_, HB5.out⟩
      rw [HLO.out, HN.out.1, HN.out.2]
      simp
    | true =>
      obtain ⟨hlt, hpr, hbu, hse⟩ := HI.out.yes hh
      obtain ⟨bb, off, rfl, d0, d1, d2, d3⟩ := HL5.out (posL price l) hlt
      rw [hbu] at d2
      rw [hse] at d3
      have hlt' : ((posL price l : Nat) : Int) < (l.length : Int) := by omega
      have q0 : (0 : Int) ≤ (posL price l : Int) := by omega
      have x0 := blk_cell (j := 0) hX5 rfl
      have o1 := blk_cell (j := 1) hA5 rfl
      clear hh hpr hbu hse d0 d1 HL5
      rcases hs with rfl | rfl
      all_goals
        go_wp2_with fail
        go_quiet (fail)
        go_wp2_with fail
        go_ret
        exact ⟨by rw [HLO.out]; rfl, below_drewN HB5.out _⟩
end Go.Proofs.YtkfmljokenclaabDoor
