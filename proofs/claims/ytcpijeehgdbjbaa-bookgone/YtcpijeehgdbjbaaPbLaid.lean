/-
  The law's own fact 'laid'. Conditions stand in each theorem.
-/
import Derived.Test.YtcpijeehgdbjbaaPbMy
namespace Go.Proofs.Ytcpijeehgdbjbaa
open Go.RowKit

set_option maxRecDepth 100000 in
set_option maxHeartbeats 2000000 in
theorem laid_yes (w : World) : Calls Try.prog 18 #[] w fun e W' => e = .returned (.bool true) ∧ Below w.heap.size w W' := by
  go_enter Try.func18, Try.ntmps18
  go_wp2_with fail
  refine (pbNew w).mono ?_
  rintro e w1 ⟨rfl, h1, h2⟩
  have M1 : Hid (MyBk w w1 (w.heap.size + 2) 0 (BkS.none_ w.heap.size)) := MyBk.start h1 h2
  clear h1 h2
  go_wp2_with fail
  refine (pbAdd_yes _ 0 _ ⟨1, 1, 1, 5, 3⟩ _ M1.out.bk (by omega) (by decide) (by decide) (by decide) (by decide) (fun s _ x hx => by cases hx) (by show 0 + 0 < 100; decide)).mono ?_
  rintro e w2 ⟨rfl, b2, s, k, a, hs, hsd, hS, hg⟩
  have e0 : s = 0 := by have : (1 : Int) = (s : Int) + 1 := hsd; omega
  subst e0
  have M2 : Hid (MyBk w w2 (w.heap.size + 2) 1 b2) := M1.out.goes hg
  have S0 : Hid (b2.S 0 = [⟨k, a, ⟨1, 1, 1, 5, 3⟩⟩]) := by show _ = _; rw [hS]; rfl
  have S1 : Hid (b2.S 1 = []) := by show _ = _; rw [hS]; rfl
  clear hg hS hsd M1 hs
  go_wp2_with fail
  refine (pbAdd_yes _ 1 _ ⟨2, 1, 1, 7, 3⟩ _ M2.out.bk (by omega) (by decide) (by decide) (by decide) (by decide) (fun s hs x hx => ?_) (by rw [S0.out, S1.out]; show 1 + 0 < 100; decide)).mono ?_
  · match s, hs with
    | 0, _ => rw [S0.out] at hx; simp at hx; subst hx; show (1 : Int) ≠ 2; decide
    | 1, _ => rw [S1.out] at hx; cases hx
  rintro e w3 ⟨rfl, b3, s, k', a', hs, hsd, hS, hg⟩
  have e0 : s = 0 := by have : (1 : Int) = (s : Int) + 1 := hsd; omega
  subst e0
  have M3 : Hid (MyBk w w3 (w.heap.size + 2) 2 b3) := M2.out.goes hg
  have T0 : Hid (b3.S 0 = [⟨k', a', ⟨2, 1, 1, 7, 3⟩⟩, ⟨k, a, ⟨1, 1, 1, 5, 3⟩⟩]) := by show _ = _; rw [hS, upS_same, S0.out]; rfl
  have T1 : Hid (b3.S 1 = []) := by show _ = _; rw [hS, upS_other _ (by decide)]; exact S1.out
  clear hg hS hsd hs M2 S0 S1
  go_wp2_with fail
  refine (pbBest _ 2 0 b3 _ M3.out.bk (by decide) 1 rfl).mono ?_
  rintro e w4 ⟨rfl, hb4⟩
  have M4 : Hid (MyBk w w4 (w.heap.size + 2) 2 b3) := M3.out.below hb4
  have hbv : bestV ((b3.S 0).map Ly.o) = .tuple #[.agg #[.int .i64 2, .int .i64 1, .int .i64 1, .int .i64 7, .int .i64 3], .nilIface] := by rw [T0.out]; rfl
  rw [hbv]
  clear hb4 M3
  go_wp2_with fail
  refine (pbMany _ 2 b3 _ (M4.out.below (bel1 _ _)).bk).mono ?_
  rintro e w5 ⟨rfl, hb5⟩
  have hn : (b3.S 0).length + (b3.S 1).length = 2 := by rw [T0.out, T1.out]; rfl
  rw [hn]
  have HB : Hid (Below w.heap.size w w5) := bel_then (bel_then M4.out.bel (bel1 _ _)) hb5
  clear hb5
  go_wp2_with fail
  go_ret
  exact ⟨rfl, HB.out⟩
end Go.Proofs.Ytcpijeehgdbjbaa
