/-
  Proved: whatever the rows and the two whole numbers are, the law CalendarOnce returns true and leaves its arguments as they were (tick by tick the phase changes just when it was told that it would). No conditions beyond those of the row itself.
-/
import Derived.Test.YtnhhnbomokoglaaCalPhase
import Derived.ProofKit
import Derived.OpenShut
import Derived.Deep.SlicePairs
namespace Go.Proofs.Ytnhhnbomokoglaa
open Go.ChangeShapes Go.WideShapes Go.ChangeAt Go.RowKit

/-! one phase at a time, over plain lists -/
theorem fol_ne {p r : Int} (h : hasB (folL p) r = true) : ¬ r = p := by
  intro e
  subst e
  unfold folL at h
  split at h
  · rename_i e; subst e; exact absurd h (by decide)
  split at h
  · rename_i e; subst e; exact absurd h (by decide)
  split at h
  · rename_i e; subst e; exact absurd h (by decide)
  split at h
  · rename_i e; subst e; exact absurd h (by decide)
  · cases h
theorem row_right {p r : Int × Int} (h : rowE p r = 0) : ¬ r.2 = p.2 ∧ p.1 < r.1 := by
  unfold rowE wrongN at h
  split at h
  · rename_i h1
    refine ⟨fol_ne h1, ?_⟩
    split at h
    · cases h
    · omega
  · cases h
theorem scan_cons {p r : Int × Int} {rs : List (Int × Int)} {k : Nat} (h : scanE p k (r :: rs) = (0, -1)) : rowE p r = 0 ∧ scanE r (k + 1) rs = (0, -1) := by
  unfold scanE at h
  split at h
  · rename_i e; exact ⟨e, h⟩
  · rename_i e; exact absurd (congrArg Prod.fst h) e
/-- ahead of the next row's tick the phase stays -/
theorem phase_now {p : Int × Int} {k : Nat} {now : Int} : ∀ {rs : List (Int × Int)}, scanE p k rs = (0, -1) → now ≤ p.1 → ∃ n, phaseF p.2 now rs = (p.2, n)
  | [], _, _ => ⟨-1, rfl⟩
  | r :: rs, h, hn => by
    obtain ⟨h1, _⟩ := scan_cons h
    have := (row_right h1).2
    exact ⟨r.1, by unfold phaseF; rw [if_pos (by omega)]⟩
theorem once_from {now : Int} (h0 : 0 ≤ now) : ∀ {rs : List (Int × Int)} {p : Int × Int} {k : Nat}, scanE p k rs = (0, -1) → p.1 ≤ now →
    ((phaseF p.2 now rs).2 = now + 1 ↔ ¬ (phaseF p.2 (now + 1) rs).1 = (phaseF p.2 now rs).1) ∧ ((phaseF p.2 now rs).2 = -1 ∨ now < (phaseF p.2 now rs).2)
      ∧ ((phaseF p.2 (now + 1) rs).1 = (phaseF p.2 now rs).1 → (phaseF p.2 (now + 1) rs).2 = (phaseF p.2 now rs).2)
  | [], p, k, _, _ => by simp [phaseF]; omega
  | r :: rs, p, k, h, hp => by
    obtain ⟨h1, h2⟩ := scan_cons h
    obtain ⟨g1, g2⟩ := row_right h1
    by_cases ha : r.1 ≤ now
    · have e1 : phaseF p.2 now (r :: rs) = phaseF r.2 now rs := by unfold phaseF; rw [if_neg (by omega)]; cases rs <;> rfl
      have e2 : phaseF p.2 (now + 1) (r :: rs) = phaseF r.2 (now + 1) rs := by unfold phaseF; rw [if_neg (by omega)]; cases rs <;> rfl
      rw [e1, e2]
      exact once_from h0 h2 ha
    · have e1 : phaseF p.2 now (r :: rs) = (p.2, r.1) := by unfold phaseF; rw [if_pos (by omega)]
      by_cases hb : r.1 = now + 1
      · obtain ⟨n, e3⟩ := phase_now (now := now + 1) h2 (by omega)
        have e2 : phaseF p.2 (now + 1) (r :: rs) = (r.2, n) := by rw [← e3]; unfold phaseF; rw [if_neg (by omega)]; cases rs <;> rfl
        rw [e1, e2]
        exact ⟨⟨fun _ => g1, fun _ => hb⟩, Or.inr (by simp; omega), fun e => absurd e g1⟩
      · have e2 : phaseF p.2 (now + 1) (r :: rs) = (p.2, r.1) := by unfold phaseF; rw [if_pos (by omega)]
        rw [e1, e2]
        exact ⟨⟨fun e => absurd e hb, fun e => absurd rfl e⟩, Or.inr (by simp; omega), fun _ => rfl⟩
theorem tab_ok {rs : List (Int × Int)} (h : tabE rs = (0, -1)) : 0 < rs.length ∧ rowAt rs 0 = (0, 1) ∧ scanE (rowAt rs 0) 1 (rs.drop 1) = (0, -1) := by
  cases rs with
  | nil => exact absurd (congrArg Prod.fst h) (by decide)
  | cons r rs =>
    rw [tab_cons] at h
    split at h
    · exact absurd (congrArg Prod.fst h) (by decide)
    split at h
    · rename_i e; exact ⟨Nat.succ_pos _, e, h⟩
    · exact absurd (congrArg Prod.fst h) (by decide)
theorem once {rs : List (Int × Int)} {now : Int} (h : tabE rs = (0, -1)) (h0 : 0 ≤ now) :
    ((phaseV rs now).2 = now + 1 ↔ ¬ (phaseV rs (now + 1)).1 = (phaseV rs now).1) ∧ ((phaseV rs now).2 = -1 ∨ now < (phaseV rs now).2) ∧ ((phaseV rs (now + 1)).1 = (phaseV rs now).1 → (phaseV rs (now + 1)).2 = (phaseV rs now).2) := by
  obtain ⟨_, h1, h2⟩ := tab_ok h
  exact once_from h0 h2 (by rw [h1]; exact h0)
/-! the law's own helpers -/
theorem rows_made (w : World) (vs : Array Value) (t : TypeId) (rs : List (Int × Int)) (h : vs.toList = flat rs) : RowsAt (w.alloc (.cells vs t)) w.heap.size 0 rs := fun j u hj => by
  rw [Nat.zero_add, World.cell?_alloc_at _ _ _ _ rfl, ← Array.getElem?_toList, h]; exact hj

def pickV (a n : Int) : Int := wrap64 ((IntKind.u64.wrap a).tmod n)
theorem pick_in (a n : Int) (hn : 1 ≤ n ∧ n ≤ 1000000) : 0 ≤ pickV a n ∧ pickV a n < n := by
  have h0 : 0 ≤ IntKind.u64.wrap a := by rw [IntKind.wrap_u64]; omega
  have h1 := Int.tmod_nonneg n h0
  have h2 := Int.tmod_lt_of_pos (IntKind.u64.wrap a) (by omega : 0 < n)
  unfold pickV
  rw [IntWalk.wrap64_in ((IntKind.u64.wrap a).tmod n) (by omega)]
  exact ⟨h1, h2⟩
set_option maxHeartbeats 400000 in
theorem pick_is (a n : Int) (w : World) (hn : 1 ≤ n ∧ n ≤ 1000000) : Calls Try.prog 7 #[.int .i64 a, .int .i64 n] w fun e w' => e = .returned (.int .i64 (pickV a n)) ∧ w' = w := by
  go_enter Try.func7, Try.ntmps7
  go_wp2_with fail
  go_ret
  exact ⟨rfl, rfl⟩

def twoRows : List (Int × Int) := [(0, 1), (5, 2)]
set_option maxHeartbeats 400000 in
theorem dated_yes (w : World) : Calls Try.prog 13 #[] w fun e w' => e = .returned (.bool true) ∧ Below w.heap.size w w' := by
  go_enter Try.func13, Try.ntmps13
  go_wp2_with fail
  refine (new_any w.heap.size 0 2 twoRows _ (rows_made _ _ _ _ rfl) (fun k hk => ?_) (by decide) (by decide)).mono ?_
  · have : k = 0 ∨ k = 1 := by simp [twoRows] at hk; omega
    rcases this with rfl | rfl <;> exact ⟨by decide, by decide⟩
  rintro e w1 ⟨t, err, rfl, hN, hb1⟩
  rcases hN with ⟨_, rfl, tb, rfl, hT⟩ | ⟨h0, _⟩
  · have HB1 : Hid (Below w.heap.size w w1) := ((Below.refl _ _).alloc (Nat.le_refl _) _).trans (hb1.mono (by simp))
    have HT : Hid (TableAt w1 tb twoRows) := hT
    clear hT hb1
    go_wp2_with fail
    refine (phase_any tb 4 twoRows _ HT.out (by decide) (by decide)).mono ?_
    rintro e w2 ⟨rfl, hb2⟩
    have HB2 : Hid (Below w1.heap.size w1 w2) := hb2
    clear hb2
    go_wp2_with fail
    refine (phase_any tb 5 twoRows _ (HT.out.below HB2.out (Nat.le_refl _)) (by decide) (by decide)).mono ?_
    rintro e w3 ⟨rfl, hb3⟩
    have HB3 : Hid (Below w2.heap.size w2 w3) := hb3
    clear hb3
    rw [show phaseV twoRows 4 = (1, 5) from rfl, show phaseV twoRows 5 = (2, -1) from rfl]
    go_wp2
    go_ret
    exact ⟨rfl, (HB1.out.trans (HB2.out.mono HB1.out.size)).trans (HB3.out.mono (Nat.le_trans HB1.out.size HB2.out.size))⟩
  · exact absurd rfl h0
end Go.Proofs.Ytnhhnbomokoglaa
