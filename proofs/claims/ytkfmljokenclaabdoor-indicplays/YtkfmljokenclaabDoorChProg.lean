/-
  What the program's Choose returns, over this seat's translation. Conditions stand in each theorem: where the points lie, that they are at most 1000, and that their numbers are within 2^40.
-/
import Derived.Test.YtkfmljokenclaabDoorChMost
import Derived.Deep.CutBlock
import Derived.Lib.MinMax
namespace Go.Proofs.YtkfmljokenclaabDoor
open Go.RowKit

set_option maxHeartbeats 1000000 in
theorem prTraded (x : Pt) (w : World) :
    Calls Tryd.prog 33 #[.agg #[.int .i64 x.price, .int .i64 x.dem, .int .i64 x.sup]] w fun e w' => e = .returned (.int .i64 (trB x)) ∧ Below w.heap.size w w' := by
  have HT : Hid (trB x = min x.dem x.sup) := rfl
  go_enter Tryd.func33, Tryd.ntmps33
  go_wp2
  go_ret
  exact ⟨by rw [HT.out]; first | rfl | (congr 2; omega), cu_bel1 w _⟩
set_option maxHeartbeats 1000000 in
theorem prSurplus (x : Pt) (hx : x.Small) (w : World) :
    Calls Tryd.prog 40 #[.agg #[.int .i64 x.price, .int .i64 x.dem, .int .i64 x.sup]] w fun e w' => e = .returned (.int .i64 (surB x)) ∧ Below w.heap.size w w' := by
  have HT : Hid (surB x = x.dem - x.sup) := rfl
  obtain ⟨_, ⟨hd1, hd2⟩, ⟨hs1, hs2⟩⟩ := hx
  go_enter Tryd.func40, Tryd.ntmps40
  go_wp2
  go_ret
  exact ⟨by rw [HT.out]; rfl, cu_bel1 w _⟩
set_option maxHeartbeats 1000000 in
theorem prApart (a b : Int) (ha : -1099511627776 ≤ a ∧ a ≤ 1099511627776) (hb : -1099511627776 ≤ b ∧ b ≤ 1099511627776) (w : World) :
    Calls Tryd.prog 36 #[.int .i64 a, .int .i64 b] w fun e w' => e = .returned (.int .i64 (apB a b)) ∧ w' = w := by
  have HT : Hid (apB a b = max a b - min a b) := rfl
  obtain ⟨ha1, ha2⟩ := ha
  obtain ⟨hb1, hb2⟩ := hb
  go_enter Tryd.func36, Tryd.ntmps36
  go_wp2
  go_ret
  exact ⟨by rw [HT.out]; rfl, rfl⟩
theorem fnTraded (l : List Pt) (w : World) : NumFn 33 #[] trB l w :=
  ⟨enters_of Tryd.func33 (by kernel_rfl) rfl, fun W _ x _ => prTraded x W⟩
set_option maxHeartbeats 1000000 in
theorem fnLeft {l : List Pt} (hs : ∀ x ∈ l, x.Small) (w : World) : NumFn 35 #[] lfP l w := by
  refine ⟨enters_of Tryd.func35 (by kernel_rfl) rfl, fun W _ x hx => ?_⟩
  show Calls Tryd.prog 35 #[.agg #[.int .i64 x.price, .int .i64 x.dem, .int .i64 x.sup]] W _
  have HT : Hid (lfP x = apB x.dem x.sup) := rfl
  have HX : Hid x.Small := hs x hx
  clear hs hx
  go_enter Tryd.func35, Tryd.ntmps35
  go_wp2_with fail
  refine (prApart _ _ HX.out.d HX.out.s _).mono ?_
  rintro e w5 ⟨rfl, hw⟩
  subst hw
  go_wp2_with fail
  go_ret
  exact ⟨by rw [HT.out]; rfl, cu_bel1 W _⟩
set_option maxHeartbeats 1000000 in
theorem fnPrice (l : List Pt) (w : World) : NumFn 37 #[] Pt.price l w := by
  refine ⟨enters_of Tryd.func37 (by kernel_rfl) rfl, fun W _ x hx => ?_⟩
  show Calls Tryd.prog 37 #[.agg #[.int .i64 x.price, .int .i64 x.dem, .int .i64 x.sup]] W _
  go_enter Tryd.func37, Tryd.ntmps37
  go_wp2_with fail
  go_ret
  exact ⟨rfl, cu_bel1 W _⟩
set_option maxHeartbeats 1000000 in
theorem fnUp {l : List Pt} (hs : ∀ x ∈ l, x.Small) (w : World) : BoolFn 39 #[] upB l w := by
  refine ⟨enters_of Tryd.func39 (by kernel_rfl) rfl, fun W _ x hx => ?_⟩
  show Calls Tryd.prog 39 #[.agg #[.int .i64 x.price, .int .i64 x.dem, .int .i64 x.sup]] W _
  have HT : Hid (upB x = decide (surB x > 0)) := rfl
  have HX : Hid x.Small := hs x hx
  clear hs hx
  go_enter Tryd.func39, Tryd.ntmps39
  go_wp2_with fail
  refine (prSurplus x HX.out _).mono ?_
  rintro e w5 ⟨rfl, hb⟩
  have HB : Hid (Below W.heap.size W w5) := cu_then (cu_bel1 W _) hb
  clear hb
  go_wp2_with fail
  go_ret
  exact ⟨by rw [HT.out]; rfl, HB.out⟩
set_option maxHeartbeats 1000000 in
theorem fnDown {l : List Pt} (hs : ∀ x ∈ l, x.Small) (w : World) : BoolFn 41 #[] downB l w := by
  refine ⟨enters_of Tryd.func41 (by kernel_rfl) rfl, fun W _ x hx => ?_⟩
  show Calls Tryd.prog 41 #[.agg #[.int .i64 x.price, .int .i64 x.dem, .int .i64 x.sup]] W _
  have HT : Hid (downB x = decide (surB x < 0)) := rfl
  have HX : Hid x.Small := hs x hx
  clear hs hx
  go_enter Tryd.func41, Tryd.ntmps41
  go_wp2_with fail
  refine (prSurplus x HX.out _).mono ?_
  rintro e w5 ⟨rfl, hb⟩
  have HB : Hid (Below W.heap.size W w5) := cu_then (cu_bel1 W _) hb
  clear hb
  go_wp2_with fail
  go_ret
  exact ⟨by rw [HT.out]; rfl, HB.out⟩
set_option maxHeartbeats 1000000 in
theorem fnNear {l : List Pt} (hs : ∀ x ∈ l, x.Small) {w : World} {ab : Nat} {around : Int} (ha : -1099511627776 ≤ around ∧ around ≤ 1099511627776) (hc : w.cell? ⟨ab, 0, none⟩ = some (.int .i64 around)) : NumFn 42 #[.pointer (some ⟨ab, 0, none⟩)] (nearP around) l w := by
  refine ⟨enters_of Tryd.func42 (by kernel_rfl) rfl, fun W hW x hx => ?_⟩
  show Calls Tryd.prog 42 #[.agg #[.int .i64 x.price, .int .i64 x.dem, .int .i64 x.sup], .pointer (some ⟨ab, 0, none⟩)] W _
  have HT : Hid (nearP around x = apB x.price around) := rfl
  have HX : Hid x.Small := hs x hx
  have c1 := cu_cell (cu_bel1 W (.cells #[.int .i64 x.price, .int .i64 x.dem, .int .i64 x.sup] 62)) (cu_cell hW hc)
  clear hs hx hW hc
  go_enter Tryd.func42, Tryd.ntmps42
  go_wp2_with fail
  refine (prApart _ _ HX.out.p ha _).mono ?_
  rintro e w5 ⟨rfl, hw⟩
  subst hw
  go_wp2_with fail
  go_ret
  exact ⟨by rw [HT.out]; rfl, cu_bel1 W _⟩
end Go.Proofs.YtkfmljokenclaabDoor
