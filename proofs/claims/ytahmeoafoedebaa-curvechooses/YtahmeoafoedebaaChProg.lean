/-
  What the program's Choose returns, over this seat's translation. Conditions stand in each theorem: where the points lie, that they are at most 1000, and that their numbers are within 2^40.
-/
import Derived.Test.YtahmeoafoedebaaChMost
import Derived.Deep.CutBlock
import Derived.Lib.MinMax
namespace Go.Proofs.Ytahmeoafoedebaa
open Go.RowKit

set_option maxHeartbeats 1000000 in
theorem prTraded (x : Pt) (w : World) :
    Calls Try.prog 58 #[.agg #[.int .i64 x.price, .int .i64 x.dem, .int .i64 x.sup]] w fun e w' => e = .returned (.int .i64 (trB x)) ∧ Below w.heap.size w w' := by
  have HT : Hid (trB x = min x.dem x.sup) := rfl
  go_enter Try.func58, Try.ntmps58
  go_wp2
  go_ret
  exact ⟨by rw [HT.out]; first | rfl | (congr 2; omega), cu_bel1 w _⟩
set_option maxHeartbeats 1000000 in
theorem prSurplus (x : Pt) (hx : x.Small) (w : World) :
    Calls Try.prog 65 #[.agg #[.int .i64 x.price, .int .i64 x.dem, .int .i64 x.sup]] w fun e w' => e = .returned (.int .i64 (surB x)) ∧ Below w.heap.size w w' := by
  have HT : Hid (surB x = x.dem - x.sup) := rfl
  obtain ⟨_, ⟨hd1, hd2⟩, ⟨hs1, hs2⟩⟩ := hx
  go_enter Try.func65, Try.ntmps65
  go_wp2
  go_ret
  exact ⟨by rw [HT.out]; rfl, cu_bel1 w _⟩
set_option maxHeartbeats 1000000 in
theorem prApart (a b : Int) (ha : -1099511627776 ≤ a ∧ a ≤ 1099511627776) (hb : -1099511627776 ≤ b ∧ b ≤ 1099511627776) (w : World) :
    Calls Try.prog 61 #[.int .i64 a, .int .i64 b] w fun e w' => e = .returned (.int .i64 (apB a b)) ∧ w' = w := by
  have HT : Hid (apB a b = max a b - min a b) := rfl
  obtain ⟨ha1, ha2⟩ := ha
  obtain ⟨hb1, hb2⟩ := hb
  go_enter Try.func61, Try.ntmps61
  go_wp2
  go_ret
  exact ⟨by rw [HT.out]; rfl, rfl⟩
theorem fnTraded (l : List Pt) (w : World) : NumFn 58 #[] trB l w :=
  ⟨enters_of Try.func58 (by kernel_rfl) rfl, fun W _ x _ => prTraded x W⟩
set_option maxHeartbeats 1000000 in
theorem fnLeft {l : List Pt} (hs : ∀ x ∈ l, x.Small) (w : World) : NumFn 60 #[] lfP l w := by
  refine ⟨enters_of Try.func60 (by kernel_rfl) rfl, fun W _ x hx => ?_⟩
  show Calls Try.prog 60 #[.agg #[.int .i64 x.price, .int .i64 x.dem, .int .i64 x.sup]] W _
  have HT : Hid (lfP x = apB x.dem x.sup) := rfl
  have HX : Hid x.Small := hs x hx
  clear hs hx
  go_enter Try.func60, Try.ntmps60
  go_wp2_with fail
  refine (prApart _ _ HX.out.d HX.out.s _).mono ?_
  rintro e w5 ⟨rfl, hw⟩
  subst hw
  go_wp2_with fail
  go_ret
  exact ⟨by rw [HT.out]; rfl, cu_bel1 W _⟩
set_option maxHeartbeats 1000000 in
theorem fnPrice (l : List Pt) (w : World) : NumFn 62 #[] Pt.price l w := by
  refine ⟨enters_of Try.func62 (by kernel_rfl) rfl, fun W _ x hx => ?_⟩
  show Calls Try.prog 62 #[.agg #[.int .i64 x.price, .int .i64 x.dem, .int .i64 x.sup]] W _
  go_enter Try.func62, Try.ntmps62
  go_wp2_with fail
  go_ret
  exact ⟨rfl, cu_bel1 W _⟩
set_option maxHeartbeats 1000000 in
theorem fnUp {l : List Pt} (hs : ∀ x ∈ l, x.Small) (w : World) : BoolFn 64 #[] upB l w := by
  refine ⟨enters_of Try.func64 (by kernel_rfl) rfl, fun W _ x hx => ?_⟩
  show Calls Try.prog 64 #[.agg #[.int .i64 x.price, .int .i64 x.dem, .int .i64 x.sup]] W _
  have HT : Hid (upB x = decide (surB x > 0)) := rfl
  have HX : Hid x.Small := hs x hx
  clear hs hx
  go_enter Try.func64, Try.ntmps64
  go_wp2_with fail
  refine (prSurplus x HX.out _).mono ?_
  rintro e w5 ⟨rfl, hb⟩
  have HB : Hid (Below W.heap.size W w5) := cu_then (cu_bel1 W _) hb
  clear hb
  go_wp2_with fail
  go_ret
  exact ⟨by rw [HT.out]; rfl, HB.out⟩
set_option maxHeartbeats 1000000 in
theorem fnDown {l : List Pt} (hs : ∀ x ∈ l, x.Small) (w : World) : BoolFn 66 #[] downB l w := by
  refine ⟨enters_of Try.func66 (by kernel_rfl) rfl, fun W _ x hx => ?_⟩
  show Calls Try.prog 66 #[.agg #[.int .i64 x.price, .int .i64 x.dem, .int .i64 x.sup]] W _
  have HT : Hid (downB x = decide (surB x < 0)) := rfl
  have HX : Hid x.Small := hs x hx
  clear hs hx
  go_enter Try.func66, Try.ntmps66
  go_wp2_with fail
  refine (prSurplus x HX.out _).mono ?_
  rintro e w5 ⟨rfl, hb⟩
  have HB : Hid (Below W.heap.size W w5) := cu_then (cu_bel1 W _) hb
  clear hb
  go_wp2_with fail
  go_ret
  exact ⟨by rw [HT.out]; rfl, HB.out⟩
set_option maxHeartbeats 1000000 in
theorem fnNear {l : List Pt} (hs : ∀ x ∈ l, x.Small) {w : World} {ab : Nat} {around : Int} (ha : -1099511627776 ≤ around ∧ around ≤ 1099511627776) (hc : w.cell? ⟨ab, 0, none⟩ = some (.int .i64 around)) : NumFn 67 #[.pointer (some ⟨ab, 0, none⟩)] (nearP around) l w := by
  refine ⟨enters_of Try.func67 (by kernel_rfl) rfl, fun W hW x hx => ?_⟩
  show Calls Try.prog 67 #[.agg #[.int .i64 x.price, .int .i64 x.dem, .int .i64 x.sup], .pointer (some ⟨ab, 0, none⟩)] W _
  have HT : Hid (nearP around x = apB x.price around) := rfl
  have HX : Hid x.Small := hs x hx
  have c1 := cu_cell (cu_bel1 W (.cells #[.int .i64 x.price, .int .i64 x.dem, .int .i64 x.sup] 59)) (cu_cell hW hc)
  clear hs hx hW hc
  go_enter Try.func67, Try.ntmps67
  go_wp2_with fail
  refine (prApart _ _ HX.out.p ha _).mono ?_
  rintro e w5 ⟨rfl, hw⟩
  subst hw
  go_wp2_with fail
  go_ret
  exact ⟨by rw [HT.out]; rfl, cu_bel1 W _⟩
end Go.Proofs.Ytahmeoafoedebaa
