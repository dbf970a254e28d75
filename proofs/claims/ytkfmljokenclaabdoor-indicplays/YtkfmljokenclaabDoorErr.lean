/-
  What api.Tell, plain.Place and the laws' own 'is' and 'bare' return of the errors that the program makes (nil, an Errno, an At), over this seat's translation. Conditions stand in each theorem: the cell of errors.errorType (ErrT), the cells of the At.
-/
import Derived.Test.YtkfmljokenclaabDoorErrAs
import Derived.BigQuiet
namespace Go.Proofs.YtkfmljokenclaabDoor
open Go.RowKit Go.Extern.Stop Go.Stop Go.Extern

/-- In the world w the error value 'err' is of number n at place k (-1: none). -/
def ErrIs (w : World) (err : Value) (n k : Int) : Prop :=
  (err = .nilIface ∧ n = 0 ∧ k = -1) ∨ (err = .iface 35 (.int .i64 n) ∧ k = -1)
    ∨ (∃ b o : Nat, err = .iface 85 (.pointer (some ⟨b, o, none⟩)) ∧ w.cell? ⟨b, o, none⟩ = some (.int .i64 n) ∧ w.cell? ⟨b, o + 1, none⟩ = some (.int .i64 k))
theorem ErrIs.below {w w' : World} {err : Value} {n k : Int} (h : ErrIs w err n k) (hb : Below w.heap.size w w') : ErrIs w' err n k := by
  rcases h with h | h | ⟨b, o, h1, h2, h3⟩
  · exact Or.inl h
  · exact Or.inr (Or.inl h)
  · exact Or.inr (Or.inr ⟨b, o, h1, (hb.cell (p := ⟨b, o, none⟩) (lt_of_cell (a := ⟨b, o, none⟩) h2)).trans h2, (hb.cell (p := ⟨b, o + 1, none⟩) (lt_of_cell (a := ⟨b, o, none⟩) h2)).trans h3⟩)

theorem after_as {w W w' : World} {t : Addr} {n : Int} {o1 o2 : Obj} {old : Value} (hb : Below w.heap.size w W) (ht : W.cell? t = some old) (hw : w' = ((W.alloc o1).alloc o2).setCell t (.int .i64 n)) (B : Nat) (hBt : B ≤ t.block) (hBw : B ≤ w.heap.size) :
    w'.cell? t = some (.int .i64 n) ∧ Below B w w' := by
  have htl := lt_of_cell ht
  have hs := hb.size
  subst hw
  refine ⟨World.cell?_setCell_same' _ _ _ ?_, ?_⟩
  · rw [alloc_lt _ (by simp; omega), alloc_lt _ htl, ht]; rfl
  · exact (((hb.mono hBw).alloc (by omega) _).alloc (by simp; omega) _).setCell hBt _

set_option maxHeartbeats 400000 in
theorem tell_nil (w : World) : Calls Tryd.prog 43 #[.nilIface] w fun e w' => e = .returned (.int .i64 0) ∧ w' = w := by
  go_enter Tryd.func43, Tryd.ntmps43
  go_wp2
  go_ret
  exact ⟨rfl, rfl⟩

theorem As_errno (n : Int) (t : Addr) (w : World) (hg : ErrT w) (ht : w.cell? t = some (.int .i64 0)) (hf : w.frozen? t = false) :
    Calls Tryd.prog 55 #[.iface 35 (.int .i64 n), .iface 102 (.pointer (some t))] w fun e w' => e = .returned (.bool true) ∧ w'.cell? t = some (.int .i64 n) ∧ Below t.block w w' :=
  As_of _ _ t w hg _ fun W hb ha => (as_errno n t _ (.int .i64 0) W ha ((hb.cell (lt_of_cell ht)).trans ht) ((hb.frozen (lt_of_cell ht)).trans hf)).mono fun _ _ ⟨he, hw⟩ =>
    have h := after_as hb ((hb.cell (lt_of_cell ht)).trans ht) hw t.block (Nat.le_refl _) (Nat.le_of_lt (lt_of_cell ht))
    ⟨⟨_, he⟩, he, h.1, h.2⟩

theorem As_at (n : Int) (b o : Nat) (t : Addr) (w : World) (hg : ErrT w) (hn : w.cell? ⟨b, o, none⟩ = some (.int .i64 n)) (ht : w.cell? t = some (.int .i64 0)) (hf : w.frozen? t = false) :
    Calls Tryd.prog 55 #[.iface 85 (.pointer (some ⟨b, o, none⟩)), .iface 102 (.pointer (some t))] w fun e w' => e = .returned (.bool true) ∧ w'.cell? t = some (.int .i64 n) ∧ Below t.block w w' :=
  As_of _ _ t w hg _ fun W hb ha => (as_at n b o t _ (.int .i64 0) W ((hb.cell (p := ⟨b, o, none⟩) (lt_of_cell (a := ⟨b, o, none⟩) hn)).trans hn) ha ((hb.cell (lt_of_cell ht)).trans ht) ((hb.frozen (lt_of_cell ht)).trans hf)).mono fun _ _ ⟨he, hw⟩ =>
    have h := after_as hb ((hb.cell (lt_of_cell ht)).trans ht) hw t.block (Nat.le_refl _) (Nat.le_of_lt (lt_of_cell ht))
    ⟨⟨_, he⟩, he, h.1, h.2⟩

set_option maxHeartbeats 400000 in
theorem tell_errno (n : Int) (w : World) (hg : ErrT w) : Calls Tryd.prog 43 #[.iface 35 (.int .i64 n)] w fun e w' => e = .returned (.int .i64 n) ∧ Below w.heap.size w w' := by
  have hg1 : ErrT (w.alloc (.cells #[.int .i64 0] 35)) := hg.below ((Below.refl _ _).alloc (Nat.le_refl _) _)
  go_enter Tryd.func43, Tryd.ntmps43
  go_wp2_with fail
  refine (As_errno n ⟨w.heap.size, 0, none⟩ _ hg1 (by simp) (by simp)).mono ?_
  rintro e w1 ⟨rfl, hc, hb⟩
  go_wp2
  go_ret
  exact ⟨rfl, ((Below.refl _ _).alloc (Nat.le_refl _) _).trans hb⟩

set_option maxHeartbeats 400000 in
theorem tell_at (n : Int) (b o : Nat) (w : World) (hg : ErrT w) (hn : w.cell? ⟨b, o, none⟩ = some (.int .i64 n)) : Calls Tryd.prog 43 #[.iface 85 (.pointer (some ⟨b, o, none⟩))] w fun e w' => e = .returned (.int .i64 n) ∧ Below w.heap.size w w' := by
  have hg1 : ErrT (w.alloc (.cells #[.int .i64 0] 35)) := hg.below ((Below.refl _ _).alloc (Nat.le_refl _) _)
  have hn1 : Hid ((w.alloc (.cells #[.int .i64 0] 35)).cell? ⟨b, o, none⟩ = some (.int .i64 n)) := (alloc_lt (a := ⟨b, o, none⟩) _ (lt_of_cell (a := ⟨b, o, none⟩) hn)).trans hn
  go_enter Tryd.func43, Tryd.ntmps43
  go_wp2_with fail
  refine (As_at n b o ⟨w.heap.size, 0, none⟩ _ hg1 hn1.out (by simp) (by simp)).mono ?_
  rintro e w1 ⟨rfl, hc, hb⟩
  go_wp2
  go_ret
  exact ⟨rfl, ((Below.refl _ _).alloc (Nat.le_refl _) _).trans hb⟩

theorem tell_any (err : Value) (n k : Int) (w : World) (hg : ErrT w) (h : ErrIs w err n k) : Calls Tryd.prog 43 #[err] w fun e w' => e = .returned (.int .i64 n) ∧ Below w.heap.size w w' := by
  rcases h with ⟨rfl, rfl, rfl⟩ | ⟨rfl, rfl⟩ | ⟨b, o, rfl, h1, h2⟩
  · exact (tell_nil w).mono fun _ _ ⟨he, hw⟩ => ⟨he, by subst hw; exact Below.refl _ _⟩
  · exact tell_errno n w hg
  · exact tell_at n b o w hg h1

set_option maxHeartbeats 400000 in
theorem place_nil (w : World) : Calls Tryd.prog 26 #[.nilIface] w fun e w' => e = .returned (.tuple #[.int .i64 0, .int .i64 (-1)]) ∧ w' = w := by
  go_enter Tryd.func26, Tryd.ntmps26
  go_wp2_with fail
  refine (tell_nil _).mono ?_
  rintro e w1 ⟨rfl, rfl⟩
  go_wp2_with fail
  refine wp_loop_rounds 1 ?_
  rw [rounds_succ]
  go_wp2
  go_ret2
  exact ⟨rfl, rfl⟩

set_option maxHeartbeats 400000 in
theorem place_errno (n : Int) (w : World) (hg : ErrT w) : Calls Tryd.prog 26 #[.iface 35 (.int .i64 n)] w fun e w' => e = .returned (.tuple #[.int .i64 n, .int .i64 (-1)]) ∧ Below w.heap.size w w' := by
  have nU := Tryd.noUnwrapE
  have tA := Tryd.toAtE
  go_enter Tryd.func26, Tryd.ntmps26
  go_wp2_with fail
  refine (tell_errno n _ hg).mono ?_
  rintro e w1 ⟨rfl, hb⟩
  go_wp2_with fail
  refine wp_loop_rounds 1 ?_
  rw [rounds_succ]
  go_wp2
  go_ret2
  exact ⟨rfl, hb⟩

set_option maxHeartbeats 400000 in
theorem place_at (n k : Int) (b o : Nat) (w : World) (hg : ErrT w) (hn : w.cell? ⟨b, o, none⟩ = some (.int .i64 n)) (hk : w.cell? ⟨b, o + 1, none⟩ = some (.int .i64 k)) : Calls Tryd.prog 26 #[.iface 85 (.pointer (some ⟨b, o, none⟩))] w fun e w' => e = .returned (.tuple #[.int .i64 n, .int .i64 k]) ∧ Below w.heap.size w w' := by
  go_enter Tryd.func26, Tryd.ntmps26
  go_wp2_with fail
  refine (tell_at n b o _ hg hn).mono ?_
  have tA := Tryd.toAtA
  rintro e w1 ⟨rfl, hb⟩
  have hk1 : w1.cell? ⟨b, o + 1, none⟩ = some (.int .i64 k) := (hb.cell (p := ⟨b, o + 1, none⟩) (lt_of_cell (a := ⟨b, o, none⟩) hn)).trans hk
  go_wp2_with fail
  refine wp_loop_rounds 1 ?_
  rw [rounds_succ]
  go_wp2
  go_quiet (fail)
  go_wp2
  go_ret2
  exact ⟨rfl, below_drewN hb _⟩

theorem place_any (err : Value) (n k : Int) (w : World) (hg : ErrT w) (h : ErrIs w err n k) : Calls Tryd.prog 26 #[err] w fun e w' => e = .returned (.tuple #[.int .i64 n, .int .i64 k]) ∧ Below w.heap.size w w' := by
  rcases h with ⟨rfl, rfl, rfl⟩ | ⟨rfl, rfl⟩ | ⟨b, o, rfl, h1, h2⟩
  · exact (place_nil w).mono fun _ _ ⟨he, hw⟩ => ⟨he, by subst hw; exact Below.refl _ _⟩
  · exact place_errno n w hg
  · exact place_at n k b o w hg h1 h2

set_option maxHeartbeats 400000 in
theorem is_yes (err : Value) (n k : Int) (w : World) (hg : ErrT w) (h : ErrIs w err n k) :
    Calls Tryd.prog 14 #[err, .agg #[.int .i64 n, .int .i64 k]] w fun e w' => e = .returned (.bool true) ∧ Below w.heap.size w w' := by
  have hb0 : Below w.heap.size w (w.alloc (.cells #[.int .i64 n, .int .i64 k] 55)) := (Below.refl _ _).alloc (Nat.le_refl _) _
  have HG : Hid (ErrT (w.alloc (.cells #[.int .i64 n, .int .i64 k] 55))) := hg.below hb0
  have HE : Hid (ErrIs (w.alloc (.cells #[.int .i64 n, .int .i64 k] 55)) err n k) := h.below hb0
  clear hb0
  go_enter Tryd.func14, Tryd.ntmps14
  go_wp2_with fail
  refine (place_any err n k _ HG.out HE.out).mono ?_
  rintro e w1 ⟨rfl, hb⟩
  have hc0 : w1.cell? ⟨w.heap.size, 0, none⟩ = some (.int .i64 n) := (hb.cell (p := ⟨w.heap.size, 0, none⟩) (by simp)).trans (World.cell?_alloc_at _ _ _ _ rfl)
  have hc1 : w1.cell? ⟨w.heap.size, 1, none⟩ = some (.int .i64 k) := (hb.cell (p := ⟨w.heap.size, 1, none⟩) (by simp)).trans (World.cell?_alloc_at _ _ _ _ rfl)
  go_wp2
  go_ret
  exact ⟨rfl, ((Below.refl _ _).alloc (Nat.le_refl _) _).trans (hb.mono (by simp))⟩

set_option maxHeartbeats 400000 in
theorem Bare_any (n : Int) (w : World) :
    Calls Tryd.prog 15 #[.int .i64 n] w fun e w' => e = .returned (.agg #[.int .i64 n, .int .i64 (-1)]) ∧ Below w.heap.size w w' := by
  go_enter Tryd.func15, Tryd.ntmps15
  go_wp2
  go_returns
  exact ⟨rfl, by go_grown⟩

set_option maxHeartbeats 400000 in
theorem bare_yes (err : Value) (n : Int) (w : World) (hg : ErrT w) (h : ErrIs w err n (-1)) :
    Calls Tryd.prog 5 #[err, .int .i64 n] w fun e w' => e = .returned (.bool true) ∧ Below w.heap.size w w' := by
  have HE : Hid (ErrIs w err n (-1)) := h
  clear h
  go_enter Tryd.func5, Tryd.ntmps5
  go_wp2_with fail
  refine (Bare_any n _).mono ?_
  rintro e w1 ⟨rfl, hb⟩
  go_wp2_with fail
  refine (is_yes err n (-1) _ (hg.below hb) (HE.out.below hb)).mono ?_
  rintro e w2 ⟨rfl, hb2⟩
  go_wp2
  go_ret
  exact ⟨rfl, hb.trans (hb2.mono hb.size)⟩
end Go.Proofs.YtkfmljokenclaabDoor
