/-
  Proved: whatever the orders and the price more are, the law CurveOf returns true and leaves its arguments as they were (how much would be bought, and sold, at each price is the document's). No conditions beyond those of the row itself.
-/
import Derived.Test.YtahmeoafoedebaaCuOf
import Derived.Test.YtahmeoafoedebaaCuSame
import Derived.Test.YtahmeoafoedebaaCuArg
import Derived.Test.YtahmeoafoedebaaCuBest
namespace Go.Proofs.Ytahmeoafoedebaa.curveOf
open Go.ChangeShapes Go.WideShapes Go.ChangeAt Go.RowKit

set_option maxHeartbeats 400000 in
theorem walk_long (a : Option Addr) (n cap : Nat) (more : Int) (w : World) (hn : 100 < n) :
    Calls Try.prog 7 #[.slice a n cap, .int .i64 more] w fun e w' => e = .returned (.bool true) ∧ Below w.heap.size w w' := by
  go_enter Try.func7, Try.ntmps7
  go_wp2_with fail
  go_ret
  exact ⟨rfl, Below.refl _ _⟩

set_option maxHeartbeats 1000000 in
theorem walk (a : Option Addr) (cap : Nat) (l : List Ord) (more : Int) (w : World) (h : OrdsIn w a l) (hw : ∀ o ∈ l, o.Wf) (hm : wf64 more) :
    Calls Try.prog 7 #[.slice a l.length cap, .int .i64 more] w fun e w' => e = .returned (.bool true) ∧ Below w.heap.size w w' := by
  by_cases hn : 100 < l.length
  · exact walk_long a _ cap more w hn
  have HA : Hid (OrdsIn w a l) := h
  have HW : Hid (∀ o ∈ l, o.Wf) := hw
  have HM : Hid (wf64 more) := hm
  clear h hw hm
  have hcl := curve_len l more
  go_enter Try.func7, Try.ntmps7
  go_wp2_with fail
  refine (cuOf a _ l more w HA.out (by omega) HW.out HM.out).mono ?_
  rintro e w1 ⟨v1, rfl, hown1, hb1⟩
  obtain ⟨a1, c1, rfl, hp1⟩ := PtsIn.of_row hown1
  have HP1 : Hid (PtsIn w1 a1 (curveL l more)) := hp1
  have HB1 : Hid (Below w.heap.size w w1) := hb1
  clear hown1 hp1 hb1
  go_wp2_with fail
  refine (cuCurve a _ l more w1 (HA.out.below HB1.out) (by omega)).mono ?_
  rintro e w2 ⟨v2, rfl, hown2, hb2⟩
  obtain ⟨a2, c2, rfl, hp2⟩ := PtsIn.of_row hown2
  have HP2 : Hid (PtsIn w2 a2 (curveL l more)) := hp2
  have HP3 : Hid (PtsIn w2 a1 (curveL l more)) := HP1.out.below hb2
  have HB2 : Hid (Below w.heap.size w w2) := cu_then HB1.out hb2
  clear hown2 hp2 hb2 HP1 HB1
  generalize curveL l more = pl at HP2 HP3 hcl ⊢
  go_wp2_with fail
  refine (cuSame a1 a2 _ _ pl w2 HP3.out HP2.out (by omega)).mono ?_
  rintro e w3 ⟨rfl, hb3⟩
  have HB3 : Hid (Below w.heap.size w w3) := cu_then HB2.out hb3
  clear hb3
  go_wp2_with fail
  go_ret
  exact ⟨rfl, HB3.out⟩
theorem own : ownKnob Try.prog.godebug = none := by kernel_rfl
theorem laidOut : laidOutB Try.prog = true := by kernel_rfl

set_option maxRecDepth 100000 in
theorem lifted (os : Os) (started : os.Started) (H : Type) (enc : TypeId × Value → H) :
    ReturnsInHanded {} Try.checked os 7 .any (Rows.curveOfSpec.pre6 enc Try.prog Try.f7 Rows.curveOfRow.domain false) (Rows.curveOfSpec.post enc Try.prog Try.f7 false true false false) := by
  refine returnsInHanded_of_change (C := Try.checked) own started (by kernel_rfl) Try.func7
    (ChangeSpec.witness6 (enc := enc) (C := Try.checked) false ⟨#[], #[.slice none 0 0, .int .i64 0], []⟩ 8 (by kernel_rfl) (by kernel_rfl) (by kernel_rfl) (by kernel_rfl)) ?_
  intro W base args ds gs before hval0 hW hcnd _
  have hval : ∀ (j : Nat) t v, Try.f7.params[j]? = some t → args[j]? = some v → Value.okWide Try.prog W .any base t v := hval0
  have hW' := hW
  obtain ⟨p, q, hA0, hV, rfl, hfz, hnd⟩ := hW
  have hA : DataW.TrodAll enc Try.prog W 0 (fun _ => true) true Try.f7.params.toList args.toList ds p := hA0
  rw [Try.params7] at hA hval
  obtain ⟨v0, vs0, d0, ds0, p0, q0, hargs, rfl, rfl, h0, r0⟩ := trodAll_cons hA
  obtain ⟨v1, vs1, d1, ds1, p1, q1, rfl, rfl, rfl, h1, r1⟩ := trodAll_cons r0
  obtain ⟨rfl, rfl, rfl⟩ := trodAll_nil r1
  obtain rfl : args = #[v0, v1] := by cases args; simp_all
  obtain ⟨rfl, rfl⟩ := trodVars_none hV
  obtain ⟨a0, len, cap, rfl⟩ := okWide_slice Try.underlying38 (hval 0 38 v0 rfl rfl)
  obtain ⟨a1, rfl, rfl, rfl, w1⟩ := open_int Try.underlying3 (hval 1 3 v1 rfl rfl) h1
  clear hA0 hval0
  simp only [List.append_nil] at hW'
  have hlt : ∀ x ∈ p0, x.block < W.heap.size := fun x hx => by simpa using hW'.lt x hx
  obtain ⟨l, rfl, hin, hwf⟩ := ords_open h0
  refine (walk a0 cap l a1 W hin hwf w1).mono fun e W' ⟨he, hb⟩ => ?_
  subst he
  refine ⟨_, rfl, _, _, _, [], p0 ++ ([] ++ []), [], hW', ?_, ?_, ?_, hb.frame _, fun h => by cases h⟩
  · exact trodAll_cons_mk (shut_bool Try.underlying4 _) trodAll_mk0
  · exact trodAll_cons_mk (Below.trod laidOut (by kernel_rfl) (of_decide_eq_true (by kernel_rfl)) h0 hb hlt) (trodAll_cons_mk (shut_int Try.underlying3 w1) trodAll_mk0)
  · rfl

theorem over : Rows.curveOfRow.holds Try.pinned (OpenSpec.ofChange Rows.curveOfSpec) :=
  OpenClaim.holds_of_wide 7 Try.f7 rfl rfl rfl rfl rfl rfl rfl ⟨rfl, rfl, rfl, rfl, rfl⟩ rfl rfl rfl rfl rfl (by kernel_rfl) Try.func7 (by kernel_rfl)
    (of_decide_eq_true (by kernel_rfl)) (by unfold Func.isWrapper; first | (rw [if_pos (by decide +kernel)]; kernel_rfl) | (rw [if_neg (by decide +kernel)]; exact ⟨rfl, rfl⟩))
    (fun os started H enc _ => lifted os started H enc)

end Go.Proofs.Ytahmeoafoedebaa.curveOf
namespace Go.Proofs.Ytahmeoafoedebaa
theorem curveOf_holds : Rows.CurveOfSaid := curveOf.over
#print axioms curveOf_holds
end Go.Proofs.Ytahmeoafoedebaa
