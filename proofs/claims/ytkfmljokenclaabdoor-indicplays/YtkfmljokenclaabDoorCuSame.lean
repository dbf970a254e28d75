/-
  What the law's own comparison of points returns of two lists of one mind, and the keep's own counting at a price, over this seat's translation. Conditions stand in each theorem: where the lists lie.
-/
import Derived.Test.YtkfmljokenclaabDoorChRef
namespace Go.Proofs.YtkfmljokenclaabDoor
open Go.RowKit

set_option maxRecDepth 4000 in
set_option maxHeartbeats 4000000 in
theorem cuSame (a b : Option Addr) (ca cb : Nat) (l : List Pt) (w : World) (h : PtsIn w a l) (h' : PtsIn w b l) (hl : l.length ≤ 2000) :
    Calls Tryd.prog 8 #[.slice a l.length ca, .slice b l.length cb] w fun e w' => e = .returned (.bool true) ∧ Below w.heap.size w w' := by
  have HA : Hid (PtsIn w a l) := h
  have HB : Hid (PtsIn w b l) := h'
  clear h h'
  go_enter Tryd.func8, Tryd.ntmps8
  go_wp2_with fail
  go_loopw [5] (fun i wr => ∃ k : Nat, k ≤ l.length ∧ i = .int .i64 k ∧ Below w.heap.size w wr) (fun i _ => l.length - (intOf i).toNat)
  case atStart => exact ⟨0, Nat.zero_le _, rfl, Below.refl _ _⟩
  case round =>
    obtain ⟨k, hk, rfl, hb⟩ := hrel
    have HW : Hid (Below w.heap.size w wr) := hb
    by_cases hk1 : k < l.length
    · have q0 : (0 : Int) ≤ (k : Int) := by omega
      have hlt : (k : Int) < (l.length : Int) := by omega
      obtain ⟨g, off, rfl, d0, d1, d2⟩ := HA.out.below hb k hk1
      obtain ⟨g', off', rfl, e0, e1, e2⟩ := HB.out.below hb k hk1
      clear hb
      generalize ptAt l k = x at d0 d1 d2 e0 e1 e2
      go_wp2_with fail
      go_quiet (fail)
      go_wp2_with fail
      go_roundw
      case rel => exact ⟨k + 1, hk1, by go_num, below_drewN HW.out _⟩
      case measure => simp [intOf]; omega
    · clear hb
      go_wp2_with fail
      go_ret
      exact ⟨rfl, HW.out⟩
end Go.Proofs.YtkfmljokenclaabDoor
