/-
  What a Table's Phase returns, over this seat's translation: the phase of the last row whose At is at most now (of the first one, if none is), and the next row's At. Conditions stand in the theorem: where the table lies, that it has a row and at most 60.
-/
import Derived.Test.YtnhhnbomokoglaaDoorCalTab
namespace Go.Proofs.YtnhhnbomokoglaaDoor
open Go.RowKit

/-- 2.1: Phase. -/
def phaseF (cur now : Int) : List (Int × Int) → Int × Int
  | [] => (cur, -1)
  | r :: rs => if now < r.1 then (cur, r.1) else phaseF r.2 now rs
def phaseV (rs : List (Int × Int)) (now : Int) : Int × Int := phaseF (rowAt rs 0).2 now (rs.drop 1)
theorem phase_step {p now : Int} {rs : List (Int × Int)} {k : Nat} (h : k < rs.length) (he : (rowAt rs k).1 ≤ now) : phaseF p now (rs.drop k) = phaseF (rowAt rs k).2 now (rs.drop (k + 1)) := by
  rw [List.drop_eq_getElem_cons h]
  have : rs[k] = rowAt rs k := by simp [rowAt, h]
  rw [this]; simp [phaseF]; omega
theorem phase_stop {p now : Int} {rs : List (Int × Int)} {k : Nat} (h : k < rs.length) (he : now < (rowAt rs k).1) : phaseF p now (rs.drop k) = (p, (rowAt rs k).1) := by
  rw [List.drop_eq_getElem_cons h]
  have : rs[k] = rowAt rs k := by simp [rowAt, h]
  rw [this]; simp [phaseF]; omega
theorem phase_end {p now : Int} {rs : List (Int × Int)} {k : Nat} (h : rs.length ≤ k) : phaseF p now (rs.drop k) = (p, -1) := by
  rw [List.drop_eq_nil_of_le h]; rfl
theorem phase_ret {v : Int × Int} {a b : Int} (h : v = (a, b)) : Ending.returned (.tuple #[.int .i64 a, .int .i64 b]) = .returned (.tuple #[.int .i64 v.1, .int .i64 v.2]) := by rw [h]

set_option maxHeartbeats 1000000 in
theorem phase_any (tb : Nat) (now : Int) (rs : List (Int × Int)) (w : World) (h : TableAt w tb rs) (hne : 0 < rs.length) (hlen : rs.length ≤ 60) :
    Calls Tryd.prog 16 #[.pointer (some ⟨tb, 0, none⟩), .int .i64 now] w
      fun e w' => e = .returned (.tuple #[.int .i64 (phaseV rs now).1, .int .i64 (phaseV rs now).2]) ∧ Below w.heap.size w w' := by
  obtain ⟨cb, c, ht, hr⟩ := h
  have HR : Hid (RowsAt w cb 0 rs) := hr
  clear hr
  go_enter Tryd.func16, Tryd.ntmps16
  go_wp2_with fail
  go_loopw [4, 13] (fun p i wr => ∃ (k : Nat) (q : Int), k ≤ rs.length ∧ i = .int .i64 k ∧ p = .int .i64 q ∧ Below w.heap.size w wr ∧ (k = 0 ∨ (0 < k ∧ phaseF q now (rs.drop k) = phaseV rs now))) (fun _ i _ => rs.length - (intOf i).toNat)
  case atStart => exact ⟨0, 0, Nat.zero_le _, rfl, rfl, Below.refl _ _, Or.inl rfl⟩
  case round =>
    obtain ⟨k, q, hk, rfl, rfl, hb, hq⟩ := hrel
    have HB : Hid (Below w.heap.size w wr) := hb
    have hc0 : k < rs.length → wr.cell? ⟨cb, k * 2, none⟩ = some (.int .i64 (rowAt rs k).1) := fun hk => by simpa using ((HR.out.below hb (Nat.le_refl _)).row hk).1
    have hc1 : k < rs.length → wr.cell? ⟨cb, k * 2 + 1, none⟩ = some (.int .i64 (rowAt rs k).2) := fun hk => by simpa using ((HR.out.below hb (Nat.le_refl _)).row hk).2
    clear hb
    rcases hq with rfl | ⟨hk0, hq⟩
    · go_wp2_with fail
      go_roundw
      case rel => exact ⟨1, (rowAt rs 0).2, hne, rfl, rfl, HB.out.alloc HB.out.size _, Or.inr ⟨Nat.one_pos, rfl⟩⟩
      case measure => simp [intOf]; omega
    · have HQ : Hid (phaseF q now (rs.drop k) = phaseV rs now) := hq
      clear hq
      go_wp2_with fail
      · go_quiet (fail)
        go_wp2
        go_ret2
        exact ⟨phase_ret (HQ.out.symm.trans (phase_stop (by assumption) (by assumption))), below_drewN (HB.out.alloc HB.out.size _) _⟩
      · go_roundw
        case rel => exact ⟨k + 1, (rowAt rs k).2, by omega, by go_num, rfl, HB.out.alloc HB.out.size _, Or.inr ⟨Nat.succ_pos _, (phase_step (by assumption) (by assumption)).symm.trans HQ.out⟩⟩
        case measure => simp [intOf]; omega
      · go_ret2
        exact ⟨phase_ret (HQ.out.symm.trans (phase_end (by omega))), HB.out⟩
end Go.Proofs.YtnhhnbomokoglaaDoor
