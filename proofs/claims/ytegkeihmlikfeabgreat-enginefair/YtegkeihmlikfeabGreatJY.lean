/-
  Proved: whatever the numbers, the table's steps and the day's steps are, the law EngineFair returns true and leaves its arguments as they were (whoever comes, no trade of Trading is outside of the bands; nobody trades more than it has; in Trading nobody lies who could trade; a volatility auction is over in time). No conditions beyond those of the row itself.
-/
import Derived.Test.YtegkeihmlikfeabGreatJX
namespace Go.Proofs.YtegkeihmlikfeabGreat.engineFair
open Go.ChangeShapes Go.WideShapes Go.ChangeAt Go.RowKit

theorem own : ownKnob Tryz.prog.godebug = none := by kernel_rfl
theorem laidOut : laidOutB Tryz.prog = true := by kernel_rfl
set_option maxRecDepth 8000 in
set_option maxHeartbeats 1000000 in
theorem long (a b c0 e0 f0 : Int) (wa : Option Addr) (m ca : Nat) (la : Option Addr) (n cap : Nat) (w : World) (h : 200 < n ∨ 10 < m) :
    Calls Tryz.prog 3 #[.int .i64 a, .int .i64 b, .int .i64 c0, .int .i64 e0, .int .i64 f0, .slice wa m ca, .slice la n cap] w fun e w' => e = .returned (.bool true) ∧ Below w.heap.size w w' := by
  by_cases hn : 200 < n
  · have k1 : decide ((n : Int) > 200) = true := decide_eq_true (by omega)
    go_enter Tryz.func3, Tryz.ntmps3
    go_wp2_with fail
    go_ret
    exact ⟨rfl, Below.refl _ _⟩
  · have k1 : decide ((n : Int) > 200) = false := decide_eq_false (by omega)
    have k2 : decide ((m : Int) > 10) = true := decide_eq_true (by omega)
    go_enter Tryz.func3, Tryz.ntmps3
    go_wp2_with fail
    go_ret
    exact ⟨rfl, Below.refl _ _⟩
theorem walk (a b c0 e0 f0 : Int) (wa : Option Addr) (m ca : Nat) (la : Option Addr) (n cap : Nat) (w : World)
    (hw : m = 0 ∨ ∃ (b off : Nat) (Z : Nat → Int), wa = some ⟨b, off, none⟩ ∧ ∀ i, i < m → w.cell? ⟨b, off + i, none⟩ = some (.int .i64 (Z i)))
    (hl : n = 0 ∨ ∃ (b off : Nat) (X : Nat → Nat → Int), la = some ⟨b, off, none⟩ ∧ ∀ i, i < n → ∀ j, j < 6 → w.cell? ⟨b, off + i * 6 + j, none⟩ = some (.int .i64 (X i j)) ∧ (Lit.int .i64 (X i j)).wf = true) :
    Calls Tryz.prog 3 #[.int .i64 a, .int .i64 b, .int .i64 c0, .int .i64 e0, .int .i64 f0, .slice wa m ca, .slice la n cap] w fun e w' => e = .returned (.bool true) ∧ Below w.heap.size w w' := by
  by_cases hlong : 200 < n ∨ 10 < m
  · exact long a b c0 e0 f0 wa m ca la n cap w hlong
  have hX : ∃ X, StepsIn w la n X := by
    rcases hl with rfl | ⟨b, off, X, e, hX⟩
    · exact ⟨fun _ _ => 0, fun i hi => by omega⟩
    · exact ⟨X, fun i hi => ⟨b, off, e, fun j hj => (hX i hi j hj).1⟩⟩
  have hW : ∃ ws : List Int, ws.length = m ∧ ∀ (j : Nat) (z : Int), ws[j]? = some z → ∃ gb go, wa = some ⟨gb, go, none⟩ ∧ w.cell? ⟨gb, go + j, none⟩ = some (.int .i64 z) := by
    rcases hw with rfl | ⟨b, off, Z, e, hZ⟩
    · exact ⟨[], rfl, fun j z hj => by simp at hj⟩
    · refine ⟨(List.range m).map Z, by simp, fun j z hj => ⟨b, off, e, ?_⟩⟩
      have hjl : j < m := by have := (List.getElem?_eq_some_iff.1 hj).1; simpa using this
      have ez : z = Z j := by simp [hjl] at hj; exact hj.symm
      rw [ez]
      exact hZ j hjl
  obtain ⟨X, hX⟩ := hX
  obtain ⟨ws, rfl, hW⟩ := hW
  exact fair_walk a b c0 e0 f0 wa ca ws la n cap X w hW (by omega) (by omega) hX

set_option maxRecDepth 100000 in
theorem lifted (os : Os) (started : os.Started) (H : Type) (enc : TypeId × Value → H) :
    ReturnsInHanded {} Tryz.checked os 3 .any (Rows.engineFairSpec.pre6 enc Tryz.prog Tryz.f3 Rows.engineFairRow.domain false) (Rows.engineFairSpec.post enc Tryz.prog Tryz.f3 false true false false) := by
  refine returnsInHanded_of_change (C := Tryz.checked) own started (by kernel_rfl) Tryz.func3
    (ChangeSpec.witness6 (enc := enc) (C := Tryz.checked) false ⟨#[], #[.int .i64 0, .int .i64 0, .int .i64 0, .int .i64 0, .int .i64 0, .slice none 0 0, .slice none 0 0], []⟩ 8 (by kernel_rfl) (by kernel_rfl) (by kernel_rfl) (by kernel_rfl)) ?_
  intro W base args ds gs before hval0 hW hcnd _
  have hval : ∀ (j : Nat) t v, Tryz.f3.params[j]? = some t → args[j]? = some v → Value.okWide Tryz.prog W .any base t v := hval0
  have hW' := hW
  obtain ⟨p, q, hA0, hV, rfl, hfz, hnd⟩ := hW
  have hA : DataW.TrodAll enc Tryz.prog W 0 (fun _ => true) true Tryz.f3.params.toList args.toList ds p := hA0
  rw [Tryz.params3] at hA hval
  obtain ⟨v0, vs0, d0, ds0, p0, q0, hargs, rfl, rfl, h0, r0⟩ := trodAll_cons hA
  obtain ⟨v1, vs1, d1, ds1, p1, q1, rfl, rfl, rfl, h1, r1⟩ := trodAll_cons r0
  obtain ⟨v2, vs2, d2, ds2, p2, q2, rfl, rfl, rfl, h2, r2⟩ := trodAll_cons r1
  obtain ⟨v3, vs3, d3, ds3, p3, q3, rfl, rfl, rfl, h3, r3⟩ := trodAll_cons r2
  obtain ⟨v4, vs4, d4, ds4, p4, q4, rfl, rfl, rfl, h4, r4⟩ := trodAll_cons r3
  obtain ⟨v5, vs5, d5, ds5, p5, q5, rfl, rfl, rfl, h5, r5⟩ := trodAll_cons r4
  obtain ⟨v6, vs6, d6, ds6, p6, q6, rfl, rfl, rfl, h6, r6⟩ := trodAll_cons r5
  obtain ⟨rfl, rfl, rfl⟩ := trodAll_nil r6
  obtain rfl : args = #[v0, v1, v2, v3, v4, v5, v6] := by cases args; simp_all
  obtain ⟨rfl, rfl⟩ := trodVars_none hV
  obtain ⟨a0, rfl, rfl, rfl, w0⟩ := open_int Tryz.underlying3 (hval 0 3 v0 rfl rfl) h0
  obtain ⟨a1, rfl, rfl, rfl, w1⟩ := open_int Tryz.underlying3 (hval 1 3 v1 rfl rfl) h1
  obtain ⟨a2, rfl, rfl, rfl, w2⟩ := open_int Tryz.underlying3 (hval 2 3 v2 rfl rfl) h2
  obtain ⟨a3, rfl, rfl, rfl, w3⟩ := open_int Tryz.underlying3 (hval 3 3 v3 rfl rfl) h3
  obtain ⟨a4, rfl, rfl, rfl, w4⟩ := open_int Tryz.underlying3 (hval 4 3 v4 rfl rfl) h4
  obtain ⟨wa, m, ca, rfl⟩ := okWide_slice Tryz.underlying22 (hval 5 22 v5 rfl rfl)
  obtain ⟨la, n, cap, rfl⟩ := okWide_slice Tryz.underlying23 (hval 6 23 v6 rfl rfl)
  clear hA0 hval0
  simp only [List.append_nil, List.nil_append] at hW'
  have hlt : ∀ x ∈ p5 ++ p6, x.block < W.heap.size := fun x hx => by simpa using hW'.lt x (by simpa using hx)
  refine (walk a0 a1 a2 a3 a4 wa m ca la n cap W (ints_open h5) (step_open h6)).mono fun e W' ⟨he, hb⟩ => ?_
  subst he
  refine ⟨_, rfl, _, _, _, [], p5 ++ p6, [], hW', ?_, ?_, ?_, hb.frame _, fun h => by cases h⟩
  · exact trodAll_cons_mk (shut_bool Tryz.underlying4 _) trodAll_mk0
  · have t5 := Below.trod laidOut (by kernel_rfl) (of_decide_eq_true (by kernel_rfl)) h5 hb (fun x hx => hlt x (List.mem_append_left _ hx))
    have t6 := Below.trod laidOut (by kernel_rfl) (of_decide_eq_true (by kernel_rfl)) h6 hb (fun x hx => hlt x (List.mem_append_right _ hx))
    have := trodAll_cons_mk (shut_int Tryz.underlying3 w0) (trodAll_cons_mk (shut_int Tryz.underlying3 w1) (trodAll_cons_mk (shut_int Tryz.underlying3 w2) (trodAll_cons_mk (shut_int Tryz.underlying3 w3) (trodAll_cons_mk (shut_int Tryz.underlying3 w4) (trodAll_cons_mk t5 (trodAll_cons_mk t6 trodAll_mk0))))))
    simp only [List.nil_append, List.append_nil] at this
    exact this
  · rfl

theorem over : Rows.engineFairRow.holds Tryz.pinned (OpenSpec.ofChange Rows.engineFairSpec) :=
  OpenClaim.holds_of_wide 3 Tryz.f3 rfl rfl rfl rfl rfl rfl rfl ⟨rfl, rfl, rfl, rfl, rfl⟩ rfl rfl rfl rfl rfl (by kernel_rfl) Tryz.func3 (by kernel_rfl)
    (of_decide_eq_true (by kernel_rfl)) (by unfold Func.isWrapper; first | (rw [if_pos (by decide +kernel)]; kernel_rfl) | (rw [if_neg (by decide +kernel)]; exact ⟨rfl, rfl⟩))
    (fun os started H enc _ => lifted os started H enc)

end Go.Proofs.YtegkeihmlikfeabGreat.engineFair
namespace Go.Proofs.YtegkeihmlikfeabGreat
theorem engineFair_holds : Rows.EngineFairSaid := engineFair.over
#print axioms engineFair_holds
end Go.Proofs.YtegkeihmlikfeabGreat
