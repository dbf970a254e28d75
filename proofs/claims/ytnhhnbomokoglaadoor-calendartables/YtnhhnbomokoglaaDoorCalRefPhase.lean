/-
  What the document's own Phase (2.1) returns, over this seat's translation, told by the same plain function phaseV as the program's. Conditions stand in the theorem.
-/
import Derived.Test.YtnhhnbomokoglaaDoorCalPhase
namespace Go.Proofs.YtnhhnbomokoglaaDoor
open Go.RowKit

set_option maxRecDepth 4000 in
set_option maxHeartbeats 1000000 in
theorem refPhase_any (b cap : Nat) (now : Int) (rs : List (Int × Int)) (w : World) (h : RowsAt w b 0 rs) (hne : 0 < rs.length) (hlen : rs.length ≤ 60) :
    Calls Tryd.prog 15 #[.slice (some ⟨b, 0, none⟩) rs.length cap, .int .i64 now] w
      fun e w' => e = .returned (.tuple #[.int .i64 (phaseV rs now).1, .int .i64 (phaseV rs now).2]) ∧ Below w.heap.size w w' := by
  have HR : Hid (RowsAt w b 0 rs) := h
  clear h
  go_enter Tryd.func15, Tryd.ntmps15
  go_wp2_with fail
  go_loop [6] (fun i => ∃ k : Nat, k < rs.length ∧ i = .int .i64 k ∧ phaseF (rowAt rs k).2 now (rs.drop (k + 1)) = phaseV rs now) (fun i => rs.length - (intOf i).toNat)
  case atStart => exact ⟨0, hne, rfl, rfl⟩
  case round =>
    obtain ⟨k, hk, rfl, hq⟩ := hrel
    have H1 : Hid (k + 1 < rs.length → (rowAt rs (k + 1)).1 ≤ now → phaseF (rowAt rs (k + 1)).2 now (rs.drop (k + 1 + 1)) = phaseV rs now) := fun hm he => (phase_step hm he).symm.trans hq
    have H2 : Hid (k + 1 < rs.length → now < (rowAt rs (k + 1)).1 → phaseV rs now = ((rowAt rs k).2, (rowAt rs (k + 1)).1)) := fun hm he => hq.symm.trans (phase_stop hm he)
    have H3 : Hid (rs.length ≤ k + 1 → phaseV rs now = ((rowAt rs k).2, -1)) := fun hm => hq.symm.trans (phase_end hm)
    obtain ⟨hc0, hc1⟩ := HR.out.row hk
    simp only [Nat.zero_add] at hc0 hc1
    clear hq
    by_cases hm : rs.length ≤ k + 1
    · go_wp2_with fail
      go_ret2
      exact ⟨phase_ret (H3.out hm), Below.refl _ _⟩
    · have hm1 : k + 1 < rs.length := by omega
      obtain ⟨hd0, hd1⟩ := HR.out.row hm1
      simp only [Nat.zero_add] at hd0 hd1
      have q2 : (k : Int) < rs.length := by omega
      have q3 : (k : Int) + 1 < rs.length := by omega
      have q4 : (0 : Int) ≤ (k : Int) + 1 := by omega
      have q5 : ((k : Int) + 1).toNat = k + 1 := by omega
      go_wp2_with fail
      · go_round
        case rel => exact ⟨k + 1, hm1, by go_num, H1.out hm1 (by assumption)⟩
        case measure => simp [intOf]; omega
      · go_quiet (fail)
        go_wp2
        go_ret2
        exact ⟨phase_ret (H2.out hm1 (by assumption)), below_drewN (Below.refl _ _) _⟩
end Go.Proofs.YtnhhnbomokoglaaDoor
