/-
  Proved: whatever the numbers, the table's steps and the day's steps are, the law EngineDay returns true and leaves its arguments as they were (tick by tick, whatever came ahead, a market whose table has an end comes to it just then; then nothing lies, nor waits, and nothing is taken). Condition of the row: the package variable errors.errorType reads as the program's text lays it; the card ties it to the program's own initialisers (the translator's report, over a pruned copy of the project).
-/
import Derived.Test.YtjdkagafdnchhaaGreatDoorLY
import Derived.Test.YtjdkagafdnchhaaGreatDoorCards
import Derived.Test.YtjdkagafdnchhaaGreatDoorTie
import Derived.ProofKit
import Derived.OpenShut
import Derived.ChangeVars
import Derived.Deep.Fields
import Derived.Deep.DeepHandedRow
import Derived.SevenTiedAt
namespace Go.Proofs.YtjdkagafdnchhaaGreatDoor.engineDay
open Go.ChangeShapes Go.WideShapes Go.ChangeAt Go.RowKit Go.Deep

set_option maxRecDepth 8000 in
set_option maxHeartbeats 1000000 in
theorem long (a b c0 e0 f0 : Int) (wa : Option Addr) (m ca : Nat) (la : Option Addr) (n cap : Nat) (w : World) (h : 100 < n ∨ 10 < m) :
    Calls Tryz.prog 4 #[.int .i64 a, .int .i64 b, .int .i64 c0, .int .i64 e0, .int .i64 f0, .slice wa m ca, .slice la n cap] w fun e w' => e = .returned (.bool true) ∧ Below w.heap.size w w' := by
  by_cases hn : 100 < n
  · have k1 : decide ((n : Int) > 100) = true := decide_eq_true (by omega)
    go_enter Tryz.func4, Tryz.ntmps4
    go_wp2_with fail
    go_ret
    exact ⟨rfl, Below.refl _ _⟩
  · have k1 : decide ((n : Int) > 100) = false := decide_eq_false (by omega)
    have k2 : decide ((m : Int) > 10) = true := decide_eq_true (by omega)
    go_enter Tryz.func4, Tryz.ntmps4
    go_wp2_with fail
    go_ret
    exact ⟨rfl, Below.refl _ _⟩
theorem walk (a b c0 e0 f0 : Int) (wa : Option Addr) (m ca : Nat) (la : Option Addr) (n cap : Nat) (w : World)
    (hw : m = 0 ∨ ∃ (b off : Nat) (Z : Nat → Int), wa = some ⟨b, off, none⟩ ∧ ∀ i, i < m → w.cell? ⟨b, off + i, none⟩ = some (.int .i64 (Z i)))
    (hl : n = 0 ∨ ∃ (b off : Nat) (X : Nat → Nat → Int), la = some ⟨b, off, none⟩ ∧ ∀ i, i < n → ∀ j, j < 6 → w.cell? ⟨b, off + i * 6 + j, none⟩ = some (.int .i64 (X i j)) ∧ (Lit.int .i64 (X i j)).wf = true) (hg : ErrT w) :
    Calls Tryz.prog 4 #[.int .i64 a, .int .i64 b, .int .i64 c0, .int .i64 e0, .int .i64 f0, .slice wa m ca, .slice la n cap] w fun e w' => e = .returned (.bool true) ∧ Below w.heap.size w w' := by
  by_cases hlong : 100 < n ∨ 10 < m
  · exact long a b c0 e0 f0 wa m ca la n cap w hlong
  have hX : ∃ X, StepsIn w la n X := by
    rcases hl with rfl | ⟨b, off, X, e, hX⟩
    · exact ⟨fun _ _ => 0, fun i hi => by omega⟩
    · exact ⟨X, fun i hi => ⟨b, off, e, fun j hj => (hX i hi j hj).1⟩⟩
  have hW : ∃ ws : List Int, ws.length = m ∧ ∀ (j : Nat) (z : Int), ws[j]? = some z → ∃ gb go, wa = some ⟨gb, go, none⟩ ∧ w.cell? ⟨gb, go + j, none⟩ = some (.int .i64 z) := by
    rcases hw with rfl | ⟨b, off, Z, e, hZ⟩
    · exact ⟨[], rfl, fun j z hj => by simp at hj⟩
    · refine ⟨(List.range m).map Z, by simp, fun j z hj => ⟨b, off, e, ?_⟩⟩
      have hjl : j < m := by have := (List.getElem?_eq_some_iff.1 hj).1; simpa using this
      have ez : z = Z j := by simp [hjl] at hj; exact hj.symm
      rw [ez]
      exact hZ j hjl
  obtain ⟨X, hX⟩ := hX
  obtain ⟨ws, rfl, hW⟩ := hW
  exact day_walk a b c0 e0 f0 wa ca ws la n cap X w hW (by omega) (by omega) hX hg


theorem laidOut : laidOutB Tryz.prog = true := by kernel_rfl

theorem laid_met (os : Os) : laidMetH Tryz.prog Rows.engineDayRow.laid ((withErrT (World.holding Tryz.prog os ⟨#[], #[], []⟩)).forCall (fun _ _ => 0) ⟨#[], #[.int .i64 0, .int .i64 0, .int .i64 0, .int .i64 0, .int .i64 0, .slice none 0 0, .slice none 0 0], []⟩).memory :=
  laidMetH_of_parts (laidMet_nil _ _) (by kernel_rfl)
theorem reads (os : Os) {H : Type} (enc : TypeId × Value → H) : ∃ places, DataW.whole enc Tryz.prog ((withErrT (World.holding Tryz.prog os ⟨#[], #[], []⟩)).forCall (fun _ _ => 0) ⟨#[], #[.int .i64 0, .int .i64 0, .int .i64 0, .int .i64 0, .int .i64 0, .slice none 0 0, .slice none 0 0], []⟩).memory Tryz.f4.params.toList Rows.engineDaySpec.vars false #[Value.int .i64 0, Value.int .i64 0, Value.int .i64 0, Value.int .i64 0, Value.int .i64 0, Value.slice none 0 0, Value.slice none 0 0].toList 8 = some ([.lit (.int .i64 0), .lit (.int .i64 0), .lit (.int .i64 0), .lit (.int .i64 0), .lit (.int .i64 0), .nil, .nil], [], places) :=
  ⟨[], by kernel_rfl⟩

set_option maxRecDepth 100000 in
theorem contract (H : Type) (enc : TypeId × Value → H) (W : World) (base : Nat) (args : Array Value) (ds gs : List (DataW H)) (before : List MemPlace)
    (hval : ∀ (j : Nat) t v, Tryz.f4.params[j]? = some t → args[j]? = some v → Value.okWide Tryz.prog W .any base t v)
    (hW : DataW.Whole enc Tryz.prog Tryz.f4.params.toList Rows.engineDaySpec.vars false W args.toList ds gs before) (hL : laidMetH Tryz.prog Rows.engineDayRow.laid W) :
    Calls Tryz.prog 4 args W fun e W' => ∃ v, e = .returned v ∧ Rows.engineDaySpec.post enc Tryz.prog Tryz.f4 false true false false W args v W' := by
  have hW' := hW
  obtain ⟨p, q, hA0, hV, rfl, hfz, hnd⟩ := hW
  have hA : DataW.TrodAll enc Tryz.prog W 0 (fun _ => true) true Tryz.f4.params.toList args.toList ds p := hA0
  rw [Tryz.params4] at hA hval
  obtain ⟨v0, vs0, d0, ds0, p0, q0, hargs, rfl, rfl, h0, r0⟩ := trodAll_cons hA
  obtain ⟨v1, vs1, d1, ds1, p1, q1, rfl, rfl, rfl, h1, r1⟩ := trodAll_cons r0
  obtain ⟨v2, vs2, d2, ds2, p2, q2, rfl, rfl, rfl, h2, r2⟩ := trodAll_cons r1
  obtain ⟨v3, vs3, d3, ds3, p3, q3, rfl, rfl, rfl, h3, r3⟩ := trodAll_cons r2
  obtain ⟨v4, vs4, d4, ds4, p4, q4, rfl, rfl, rfl, h4, r4⟩ := trodAll_cons r3
  obtain ⟨v5, vs5, d5, ds5, p5, q5, rfl, rfl, rfl, h5, r5⟩ := trodAll_cons r4
  obtain ⟨v6, vs6, d6, ds6, p6, q6, rfl, rfl, rfl, h6, r6⟩ := trodAll_cons r5
  obtain ⟨rfl, rfl, rfl⟩ := trodAll_nil r6
  obtain rfl : args = #[v0, v1, v2, v3, v4, v5, v6] := by cases args; simp_all
  obtain ⟨rfl, rfl⟩ := trodVars_none hV
  obtain ⟨a0, rfl, rfl, rfl, w0⟩ := open_int Tryz.underlying3 (hval 0 3 v0 rfl rfl) h0
  obtain ⟨a1, rfl, rfl, rfl, w1⟩ := open_int Tryz.underlying3 (hval 1 3 v1 rfl rfl) h1
  obtain ⟨a2, rfl, rfl, rfl, w2⟩ := open_int Tryz.underlying3 (hval 2 3 v2 rfl rfl) h2
  obtain ⟨a3, rfl, rfl, rfl, w3⟩ := open_int Tryz.underlying3 (hval 3 3 v3 rfl rfl) h3
  obtain ⟨a4, rfl, rfl, rfl, w4⟩ := open_int Tryz.underlying3 (hval 4 3 v4 rfl rfl) h4
  obtain ⟨wa, m, ca, rfl⟩ := okWide_slice Tryz.underlying65 (hval 5 65 v5 rfl rfl)
  obtain ⟨la, n, cap, rfl⟩ := okWide_slice Tryz.underlying75 (hval 6 75 v6 rfl rfl)
  clear hA0
  simp only [List.append_nil, List.nil_append] at hW'
  have hlt : ∀ x ∈ p5 ++ p6, x.block < W.heap.size := fun x hx => by simpa using hW'.lt x (by simpa using hx)
  refine (walk a0 a1 a2 a3 a4 wa m ca la n cap W (ints_open h5) (step_open h6) (errT_of_laid hL)).mono fun e W' ⟨he, hb⟩ => ?_
  subst he
  refine ⟨_, rfl, _, _, _, [], p5 ++ p6, [], hW', ?_, ?_, ?_, hb.frame _, fun h => by cases h⟩
  · exact trodAll_cons_mk (shut_bool Tryz.underlying4 _) trodAll_mk0
  · have t5 := Below.trod laidOut (by kernel_rfl) (of_decide_eq_true (by kernel_rfl)) h5 hb (fun x hx => hlt x (List.mem_append_left _ hx))
    have t6 := Below.trod laidOut (by kernel_rfl) (of_decide_eq_true (by kernel_rfl)) h6 hb (fun x hx => hlt x (List.mem_append_right _ hx))
    have := trodAll_cons_mk (shut_int Tryz.underlying3 w0) (trodAll_cons_mk (shut_int Tryz.underlying3 w1) (trodAll_cons_mk (shut_int Tryz.underlying3 w2) (trodAll_cons_mk (shut_int Tryz.underlying3 w3) (trodAll_cons_mk (shut_int Tryz.underlying3 w4) (trodAll_cons_mk t5 (trodAll_cons_mk t6 trodAll_mk0))))))
    simp only [List.nil_append, List.append_nil] at this
    exact this
  · rfl

set_option maxRecDepth 100000 in
theorem lifted (os : Os) (started : os.Started) (H : Type) (enc : TypeId × Value → H) (F : Stop.Interp) :
    ReturnsInHanded {} Tryz.checked os 4 .any ((OpenSpec.ofChange Rows.engineDaySpec).preRow enc Tryz.prog Tryz.f4 Rows.engineDayRow.domain false Rows.engineDayRow.laid) (((OpenSpec.ofChange Rows.engineDaySpec).at F).post enc Tryz.prog Tryz.f4 false true false false) := by
  obtain ⟨places, hx⟩ := reads os enc
  refine returnsInHanded_of_row (C := Tryz.checked) (s := OpenSpec.ofChange Rows.engineDaySpec) Tryz.own started (by kernel_rfl) Tryz.func4
    (witness_row_at (enc := enc) (C := Tryz.checked) false (withErrT (World.holding Tryz.prog os ⟨#[], #[], []⟩)) #[.int .i64 0, .int .i64 0, .int .i64 0, .int .i64 0, .int .i64 0, .slice none 0 0, .slice none 0 0] rfl (by kernel_rfl) (by kernel_rfl) (by kernel_rfl)
      (OpenSpec.preRow_of_cond 8 hx (by kernel_rfl) (fun k hk => by cases hk) (by kernel_rfl) (laid_met os))) ?_
  intro W base args ds gs before hval hW _ _ _ hL _ _
  exact contract H enc W base args ds gs before hval hW hL

theorem said : Rows.EngineDaySaid :=
  OpenClaim.holds_of_cond 4 Tryz.f4 rfl rfl rfl rfl rfl rfl rfl ⟨rfl, rfl, rfl, rfl, rfl⟩ rfl rfl rfl rfl rfl (by kernel_rfl) Tryz.func4 (by kernel_rfl)
    (of_decide_eq_true (by kernel_rfl)) (by unfold Func.isWrapper; first | (rw [if_pos (by decide +kernel)]; kernel_rfl) | (rw [if_neg (by decide +kernel)]; exact ⟨rfl, rfl⟩))
    (fun os started H enc _ F => by rw [OpenClaim.pre_eq_preRow]; exact lifted os started H enc F)

theorem plain (f : FuncId) (fn : Func) (hf : Tryz.pinned.checked.prog.funcNamed Rows.engineDayRow.func = some f) (hfn : Tryz.pinned.checked.prog.funcs[f]? = some fn) :
    true = Tryz.pinned.checked.prog.looks [] ∧ ∀ (j : Nat) t, fn.params[j]? = some t → Tryz.pinned.checked.prog.wantsStandIn t = false := by
  obtain rfl : f = 4 := Option.some.inj ((show Tryz.prog.funcNamed Rows.engineDayRow.func = some 4 by kernel_rfl).symm.trans hf) |>.symm
  obtain rfl : fn = Tryz.f4 := (Option.some.inj (Tryz.func4.symm.trans hfn)).symm
  refine ⟨by kernel_rfl, fun j t ht => ?_⟩
  rw [Tryz.params4] at ht
  have hm : t = 3 ∨ t = 65 ∨ t = 75 := by simpa using Array.mem_of_getElem? ht
  rcases hm with rfl | rfl | rfl
  · exact (show Tryz.prog.wantsStandIn 3 = false by kernel_rfl)
  · exact (show Tryz.prog.wantsStandIn 65 = false by kernel_rfl)
  · exact (show Tryz.prog.wantsStandIn 75 = false by kernel_rfl)
end Go.Proofs.YtjdkagafdnchhaaGreatDoor.engineDay
namespace Go.Proofs.YtjdkagafdnchhaaGreatDoor
theorem engineDay_card_holds : Rows.EngineDayCardSaid :=
  Claim7.holds_tied_plain_at .later [] _ _ _ _ engineDay.said (fun _ h => by cases h) (by kernel_rfl) (fun _ h => by cases h) engineDay_row_tie rfl ⟨rfl, rfl⟩ (by kernel_rfl) rfl engineDay.plain (by kernel_rfl)
#print axioms engineDay_card_holds
end Go.Proofs.YtjdkagafdnchhaaGreatDoor
