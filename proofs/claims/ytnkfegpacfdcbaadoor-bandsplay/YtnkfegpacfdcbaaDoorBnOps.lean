/-
  What the functions of package bands return, and what they change, and the document's own Calm and Allows, over this seat's translation. Conditions stand in each theorem: where the bands, or the market, lie.
-/
import Derived.Test.YtnkfegpacfdcbaaDoorBnMem
namespace Go.Proofs.YtnkfegpacfdcbaaDoor
open Go.RowKit

/-- 5.1: may bands be of these? -/
def newOk (s d p : Int) : Bool := bandOk p s && bandOk p d
theorem bandEV_ok {p s : Int} (h : bandOk p s = true) : bandEV p s = .nilIface := if_pos h
theorem bandEV_no {p s : Int} (h : bandOk p s = false) : bandEV p s = .iface 22 (.int .i64 2) := if_neg (by rw [h]; decide)

set_option maxRecDepth 4000 in
set_option maxHeartbeats 4000000 in
theorem bnNew_no (s d p : Int) (w : World) (h : newOk s d p = false) :
    Calls Tryd.prog 45 #[.int .i64 s, .int .i64 d, .int .i64 p] w fun e w' => e = .returned (.tuple #[.pointer none, .iface 22 (.int .i64 2)]) ∧ Below w.heap.size w w' := by
  have HN : Hid (newOk s d p = false) := h
  clear h
  go_enter Tryd.func45, Tryd.ntmps45
  go_wp2_with fail
  have hb0 := bn_bel1 w (.cells #[.int .i64 s, .int .i64 d, .int .i64 p, .int .i64 p] 168)
  have hn0 : BnAt (w.alloc (.cells #[.int .i64 s, .int .i64 d, .int .i64 p, .int .i64 p] 168)) w.heap.size s d p p := heap_alloc_new w _
  generalize w.alloc (.cells #[.int .i64 s, .int .i64 d, .int .i64 p, .int .i64 p] 168) = w0 at hb0 hn0 ⊢
  have HB : Hid (Below w.heap.size w w0) := hb0
  have HA : Hid (BnAt w0 w.heap.size s d p p) := hn0
  clear hb0 hn0
  go_loopw [21] (fun v wr => ∃ k : Nat, k ≤ 1 ∧ v = .int .i64 k ∧ Below w.heap.size w wr ∧ BnAt wr w.heap.size s d p p ∧ (k = 1 → bandOk p s = true)) (fun v _ => 2 - (intOf v).toNat)
  case atStart => exact ⟨0, by omega, rfl, HB.out, HA.out, fun h => absurd h (by decide)⟩
  case round =>
    obtain ⟨k, hk, rfl, hb, ha, hq⟩ := hrel
    have HQ : Hid (k = 1 → bandOk p s = true) := hq
    have HB : Hid (Below w.heap.size w wr) := hb
    have HA : Hid (BnAt wr w.heap.size s d p p) := ha
    have k0 := cell_regrown (bn_cell (j := 0) ha rfl)
    have k1 := cell_regrown (bn_cell (j := 1) ha rfl)
    have k2 := cell_regrown (bn_cell (j := 2) ha rfl)
    have k3 := cell_regrown (bn_cell (j := 3) ha rfl)
    clear hq hb ha
    have hk01 : k = 0 ∨ k = 1 := by omega
    rcases hk01 with rfl | rfl
    · have cB : ∀ dq os, Calls Tryd.prog 10 #[.int .i64 p, .int .i64 s] (Go.Sort.grow (redrawn wr dq) os) fun e w'' => e = .returned (.tuple #[.int .i64 (bandL p s), .int .i64 (bandH p s), bandEV p s]) ∧ ∃ p : Regrown, w'' = Go.Sort.grow (redrawn wr p.d) p.os := fun dq os => Calls.regrown_of (Band_is p s _)
      go_wp2_with fail
      refine wp_region_quiet_below (by kernel_rfl) (by kernel_rfl) ?_
      repeat (go_big_quiet_step (exact cB _ _))
      refine wpQuiet_nil ?_
      intro _ hw'
      obtain ⟨⟨dq, osq⟩, hw''⟩ := hw'
      subst hw''
      have hbw := below_regrown wr dq osq
      generalize Go.Sort.grow (redrawn wr dq) osq = w5 at hbw ⊢
      have HB5 : Hid (Below w.heap.size w w5) := bn_then HB.out hbw
      have HA5 : Hid (BnAt w5 w.heap.size s d p p) := HA.out.below hbw
      clear hbw k0 k1 k2 k3 cB
      cases ho : bandOk p s with
      | true =>
        have HO : Hid (bandOk p s = true) := ho
        rw [bandEV_ok ho]
        clear ho
        go_wp2
        go_roundw
        case rel => exact ⟨1, by omega, rfl, HB5.out, HA5.out, fun _ => HO.out⟩
        case measure => simp [intOf]
      | false =>
        rw [bandEV_no ho]
        clear ho
        go_wp2
        go_ret2
        exact ⟨rfl, HB5.out⟩
    · have cB : ∀ dq os, Calls Tryd.prog 10 #[.int .i64 p, .int .i64 d] (Go.Sort.grow (redrawn wr dq) os) fun e w'' => e = .returned (.tuple #[.int .i64 (bandL p d), .int .i64 (bandH p d), bandEV p d]) ∧ ∃ p : Regrown, w'' = Go.Sort.grow (redrawn wr p.d) p.os := fun dq os => Calls.regrown_of (Band_is p d _)
      go_wp2_with fail
      refine wp_region_quiet_below (by kernel_rfl) (by kernel_rfl) ?_
      repeat (go_big_quiet_step (exact cB _ _))
      refine wpQuiet_nil ?_
      intro _ hw'
      obtain ⟨⟨dq, osq⟩, hw''⟩ := hw'
      subst hw''
      have hbw := below_regrown wr dq osq
      generalize Go.Sort.grow (redrawn wr dq) osq = w5 at hbw ⊢
      have HB5 : Hid (Below w.heap.size w w5) := bn_then HB.out hbw
      clear hbw k0 k1 k2 k3 cB
      have ho : bandOk p d = false := by
        have h := HN.out
        unfold newOk at h
        rw [HQ.out (by trivial)] at h
        simpa using h
      rw [bandEV_no ho]
      clear ho
      go_wp2
      go_ret2
      exact ⟨rfl, HB5.out⟩

set_option maxRecDepth 4000 in
set_option maxHeartbeats 4000000 in
theorem bnNew_ok (s d p : Int) (w : World) (h : newOk s d p = true) :
    Calls Tryd.prog 45 #[.int .i64 s, .int .i64 d, .int .i64 p] w fun e w' => e = .returned (.tuple #[.pointer (some ⟨w.heap.size, 0, none⟩), .nilIface]) ∧ Below w.heap.size w w' ∧ BnAt w' w.heap.size s d p p := by
  have h2 : bandOk p s = true ∧ bandOk p d = true := by unfold newOk at h; simpa using h
  have HN : Hid (bandOk p s = true ∧ bandOk p d = true) := h2
  clear h2
  clear h
  go_enter Tryd.func45, Tryd.ntmps45
  go_wp2_with fail
  have hb0 := bn_bel1 w (.cells #[.int .i64 s, .int .i64 d, .int .i64 p, .int .i64 p] 168)
  have hn0 : BnAt (w.alloc (.cells #[.int .i64 s, .int .i64 d, .int .i64 p, .int .i64 p] 168)) w.heap.size s d p p := heap_alloc_new w _
  generalize w.alloc (.cells #[.int .i64 s, .int .i64 d, .int .i64 p, .int .i64 p] 168) = w0 at hb0 hn0 ⊢
  have HB : Hid (Below w.heap.size w w0) := hb0
  have HA : Hid (BnAt w0 w.heap.size s d p p) := hn0
  clear hb0 hn0
  go_loopw [21] (fun v wr => ∃ k : Nat, k ≤ 2 ∧ v = .int .i64 k ∧ Below w.heap.size w wr ∧ BnAt wr w.heap.size s d p p) (fun v _ => 2 - (intOf v).toNat)
  case atStart => exact ⟨0, by omega, rfl, HB.out, HA.out⟩
  case round =>
    obtain ⟨k, hk, rfl, hb, ha⟩ := hrel
    have HB : Hid (Below w.heap.size w wr) := hb
    have HA : Hid (BnAt wr w.heap.size s d p p) := ha
    have k0 := cell_regrown (bn_cell (j := 0) ha rfl)
    have k1 := cell_regrown (bn_cell (j := 1) ha rfl)
    have k2 := cell_regrown (bn_cell (j := 2) ha rfl)
    have k3 := cell_regrown (bn_cell (j := 3) ha rfl)
    clear hb ha
    have hk01 : k = 0 ∨ k = 1 ∨ k = 2 := by omega
    rcases hk01 with rfl | rfl | rfl
    · have cB : ∀ dq os, Calls Tryd.prog 10 #[.int .i64 p, .int .i64 s] (Go.Sort.grow (redrawn wr dq) os) fun e w'' => e = .returned (.tuple #[.int .i64 (bandL p s), .int .i64 (bandH p s), bandEV p s]) ∧ ∃ p : Regrown, w'' = Go.Sort.grow (redrawn wr p.d) p.os := fun dq os => Calls.regrown_of (Band_is p s _)
      go_wp2_with fail
      refine wp_region_quiet_below (by kernel_rfl) (by kernel_rfl) ?_
      repeat (go_big_quiet_step (exact cB _ _))
      refine wpQuiet_nil ?_
      intro _ hw'
      obtain ⟨⟨dq, osq⟩, hw''⟩ := hw'
      subst hw''
      have hbw := below_regrown wr dq osq
      generalize Go.Sort.grow (redrawn wr dq) osq = w5 at hbw ⊢
      have HB5 : Hid (Below w.heap.size w w5) := bn_then HB.out hbw
      have HA5 : Hid (BnAt w5 w.heap.size s d p p) := HA.out.below hbw
      clear hbw k0 k1 k2 k3 cB
      rw [bandEV_ok HN.out.1]
      go_wp2
      go_roundw
      case rel => exact ⟨1, by omega, rfl, HB5.out, HA5.out⟩
      case measure => simp [intOf]
    · have cB : ∀ dq os, Calls Tryd.prog 10 #[.int .i64 p, .int .i64 d] (Go.Sort.grow (redrawn wr dq) os) fun e w'' => e = .returned (.tuple #[.int .i64 (bandL p d), .int .i64 (bandH p d), bandEV p d]) ∧ ∃ p : Regrown, w'' = Go.Sort.grow (redrawn wr p.d) p.os := fun dq os => Calls.regrown_of (Band_is p d _)
      go_wp2_with fail
      refine wp_region_quiet_below (by kernel_rfl) (by kernel_rfl) ?_
      repeat (go_big_quiet_step (exact cB _ _))
      refine wpQuiet_nil ?_
      intro _ hw'
      obtain ⟨⟨dq, osq⟩, hw''⟩ := hw'
      subst hw''
      have hbw := below_regrown wr dq osq
      generalize Go.Sort.grow (redrawn wr dq) osq = w5 at hbw ⊢
      have HB5 : Hid (Below w.heap.size w w5) := bn_then HB.out hbw
      have HA5 : Hid (BnAt w5 w.heap.size s d p p) := HA.out.below hbw
      clear hbw k0 k1 k2 k3 cB
      rw [bandEV_ok HN.out.2]
      go_wp2
      go_roundw
      case rel => exact ⟨2, by omega, rfl, HB5.out, HA5.out⟩
      case measure => simp [intOf]
    · clear k0 k1 k2 k3
      go_wp2
      go_ret2
      exact ⟨rfl, HB.out, HA.out⟩

theorem bnStatic (bb : Nat) (s d a l : Int) (w : World) (h : BnAt w bb s d a l) :
    Calls Tryd.prog 48 #[.pointer (some ⟨bb, 0, none⟩)] w fun e w' => e = .returned (.tuple #[.int .i64 (bandL a s), .int .i64 (bandH a s)]) ∧ Below w.heap.size w w' := by
  go_enter Tryd.func48, Tryd.ntmps48
  go_wp2_with fail
  refine (bnBand0 bb s d a l _ h).mono ?_
  rintro e w' ⟨rfl, hb⟩
  go_wp2
  go_ret2
  exact ⟨rfl, hb⟩
theorem bnDynamic (bb : Nat) (s d a l : Int) (w : World) (h : BnAt w bb s d a l) :
    Calls Tryd.prog 49 #[.pointer (some ⟨bb, 0, none⟩)] w fun e w' => e = .returned (.tuple #[.int .i64 (bandL l d), .int .i64 (bandH l d)]) ∧ Below w.heap.size w w' := by
  go_enter Tryd.func49, Tryd.ntmps49
  go_wp2_with fail
  refine (bnBand1 bb s d a l _ h).mono ?_
  rintro e w' ⟨rfl, hb⟩
  go_wp2
  go_ret2
  exact ⟨rfl, hb⟩
theorem bnAnchor (bb : Nat) (s d a l : Int) (w : World) (h : BnAt w bb s d a l) :
    Calls Tryd.prog 50 #[.pointer (some ⟨bb, 0, none⟩)] w fun e w' => e = .returned (.int .i64 a) ∧ Below w.heap.size w w' := by
  have c := bn_cell (j := 2) h rfl
  clear h
  go_enter Tryd.func50, Tryd.ntmps50
  go_wp2
  go_ret
  exact ⟨rfl, Below.refl _ _⟩
theorem bnLast (bb : Nat) (s d a l : Int) (w : World) (h : BnAt w bb s d a l) :
    Calls Tryd.prog 51 #[.pointer (some ⟨bb, 0, none⟩)] w fun e w' => e = .returned (.int .i64 l) ∧ Below w.heap.size w w' := by
  have c := bn_cell (j := 3) h rfl
  clear h
  go_enter Tryd.func51, Tryd.ntmps51
  go_wp2
  go_ret
  exact ⟨rfl, Below.refl _ _⟩
end Go.Proofs.YtnkfegpacfdcbaaDoor
