/-
  Proved: whatever the two whole numbers are, the law NumBands returns true and leaves its arguments as they were (Band, Mid and Right answer as chapter 1 of the document says). Condition of the row: the package variable errors.errorType reads as the program's text lays it; the card ties it.
-/
import Derived.Test.YtnhhnbomokoglaaDoorNum
import Derived.Test.YtnhhnbomokoglaaDoorLaid
import Derived.Test.YtnhhnbomokoglaaDoorCards
import Derived.Test.YtnhhnbomokoglaaDoorTie
import Derived.ProofKit
import Derived.OpenShut
import Derived.ChangeVars
import Derived.Deep.DeepHandedRow
import Derived.SevenTiedAt
namespace Go.Proofs.YtnhhnbomokoglaaDoor
open Go.ChangeShapes Go.WideShapes Go.ChangeAt Go.RowKit

theorem mid_of {a b : Int} (ha : inB 1 1000000 a = true) (hb : inB 1 1000000 b = true) : midV a b = (a + b) / 2 ∧ midE a b = 0 := by
  have h : midOk a b = true := by unfold midOk; rw [ha, hb]; rfl
  exact ⟨if_pos h, if_pos h⟩
theorem mid_not {a b : Int} (h : (inB 1 1000000 a && inB 1 1000000 b) = false) : midV a b = 0 ∧ midE a b = 2 := by
  have h' : midOk a b = false := h
  exact ⟨if_neg (by rw [h']; decide), if_neg (by rw [h']; decide)⟩

set_option maxHeartbeats 1000000 in
theorem law_walk (p s : Int) (w : World) (hg : ErrT w) :
    Calls Tryd.prog 3 #[.int .i64 p, .int .i64 s] w fun e w' => e = .returned (.bool true) ∧ Below w.heap.size w w' := by
  go_enter Tryd.func3, Tryd.ntmps3
  go_wp2_with fail
  refine (refBand_any p s _).mono ?_
  rintro e w' ⟨rfl, rfl⟩
  go_wp2_with fail
  refine (Band_any p s _).mono ?_
  rintro e wa ⟨err, rfl, ha, hba⟩
  have HA : Hid (ErrIs wa err (bandE p s) (-1)) := ha
  clear ha
  go_wp2_with fail
  refine (Mid_any p s _).mono ?_
  rintro e wb ⟨oth, rfl, hb, hbb⟩
  have HB : Hid (ErrIs wb oth (midE p s) (-1)) := hb
  clear hb
  go_wp2_with fail
  refine (refRight_any p 1 wb).mono ?_
  rintro e wb' ⟨rfl, hwb⟩
  subst hwb
  rw [rightB_one]
  cases hp : inB 1 1000000 p with
  | false =>
    obtain ⟨hv, he⟩ := mid_not (a := p) (b := s) (by rw [hp]; rfl)
    have HV : Hid (midV p s = 0) := hv
    have HE : Hid (midE p s = 2) := he
    clear hv he hp
    go_wp2_with fail
    refine (bare_yes err (bandE p s) _ ((hg.below hba).below hbb) (HA.out.below hbb)).mono ?_
    rintro e wc ⟨rfl, hbc⟩
    go_wp2_with fail
    refine (bare_yes oth 2 _ (((hg.below hba).below hbb).below hbc) (by have h := HB.out.below hbc; rw [HE.out] at h; exact h)).mono ?_
    rintro e wd ⟨rfl, hbd⟩
    rw [HV.out]
    go_wp2_with fail
    refine (Right_any p s _).mono ?_
    rintro e we ⟨rfl, hbe⟩
    go_wp2_with fail
    refine (refRight_any p s we).mono ?_
    rintro e we' ⟨rfl, hwe⟩
    subst hwe
    go_wp2_with fail
    go_ret
    exact ⟨rfl, hba.trans ((hbb.trans ((hbc.trans ((hbd.trans (hbe.mono hbd.size)).mono hbc.size)).mono hbb.size)).mono hba.size)⟩
  | true =>
    go_wp2_with fail
    refine (refRight_any s 1 wb').mono ?_
    rintro e wb' ⟨rfl, hwb⟩
    subst hwb
    rw [rightB_one]
    cases hs : inB 1 1000000 s with
    | false =>
      obtain ⟨hv, he⟩ := mid_not (a := p) (b := s) (by rw [hp, hs]; rfl)
      have HV : Hid (midV p s = 0) := hv
      have HE : Hid (midE p s = 2) := he
      clear hv he hp hs
      go_wp2_with fail
      refine (bare_yes err (bandE p s) _ ((hg.below hba).below hbb) (HA.out.below hbb)).mono ?_
      rintro e wc ⟨rfl, hbc⟩
      go_wp2_with fail
      refine (bare_yes oth 2 _ (((hg.below hba).below hbb).below hbc) (by have h := HB.out.below hbc; rw [HE.out] at h; exact h)).mono ?_
      rintro e wd ⟨rfl, hbd⟩
      rw [HV.out]
      go_wp2_with fail
      refine (Right_any p s _).mono ?_
      rintro e we ⟨rfl, hbe⟩
      go_wp2_with fail
      refine (refRight_any p s we).mono ?_
      rintro e we' ⟨rfl, hwe⟩
      subst hwe
      go_wp2_with fail
      go_ret
      exact ⟨rfl, hba.trans ((hbb.trans ((hbc.trans ((hbd.trans (hbe.mono hbd.size)).mono hbc.size)).mono hbb.size)).mono hba.size)⟩
    | true =>
      obtain ⟨hv, he⟩ := mid_of hp hs
      have HV : Hid (midV p s = (p + s) / 2) := hv
      have HE : Hid (midE p s = 0) := he
      have hp' := inB_true hp
      have hs' := inB_true hs
      clear hv he hp hs
      go_wp2_with fail
      refine (bare_yes err (bandE p s) _ ((hg.below hba).below hbb) (HA.out.below hbb)).mono ?_
      rintro e wc ⟨rfl, hbc⟩
      go_wp2_with fail
      refine (bare_yes oth 0 _ (((hg.below hba).below hbb).below hbc) (by have h := HB.out.below hbc; rw [HE.out] at h; exact h)).mono ?_
      rintro e wd ⟨rfl, hbd⟩
      rw [HV.out]
      go_wp2_with fail
      refine (Right_any p s _).mono ?_
      rintro e we ⟨rfl, hbe⟩
      go_wp2_with fail
      refine (refRight_any p s we).mono ?_
      rintro e we' ⟨rfl, hwe⟩
      subst hwe
      go_wp2_with fail
      go_ret
      exact ⟨rfl, hba.trans ((hbb.trans ((hbc.trans ((hbd.trans (hbe.mono hbd.size)).mono hbc.size)).mono hbb.size)).mono hba.size)⟩


theorem laid_met (os : Os) : laidMetH Tryd.prog Rows.numBandsRow.laid ((withErrT (World.holding Tryd.prog os ⟨#[], #[], []⟩)).forCall (fun _ _ => 0) ⟨#[], #[.int .i64 0, .int .i64 0], []⟩).memory :=
  laidMetH_of_parts (laidMet_nil _ _) (by kernel_rfl)
theorem reads (os : Os) {H : Type} (enc : TypeId × Value → H) : ∃ places, DataW.whole enc Tryd.prog ((withErrT (World.holding Tryd.prog os ⟨#[], #[], []⟩)).forCall (fun _ _ => 0) ⟨#[], #[.int .i64 0, .int .i64 0], []⟩).memory Tryd.f3.params.toList Rows.numBandsSpec.vars false #[Value.int .i64 0, Value.int .i64 0].toList 8 = some ([.lit (.int .i64 0), .lit (.int .i64 0)], [], places) :=
  ⟨[], by kernel_rfl⟩

set_option maxRecDepth 100000 in
theorem contract (H : Type) (enc : TypeId × Value → H) (W : World) (base : Nat) (args : Array Value) (ds gs : List (DataW H)) (before : List MemPlace)
    (hval : ∀ (j : Nat) t v, Tryd.f3.params[j]? = some t → args[j]? = some v → Value.okWide Tryd.prog W .any base t v)
    (hW : DataW.Whole enc Tryd.prog Tryd.f3.params.toList Rows.numBandsSpec.vars false W args.toList ds gs before) (hL : laidMetH Tryd.prog Rows.numBandsRow.laid W) :
    Calls Tryd.prog 3 args W fun e W' => ∃ v, e = .returned v ∧ Rows.numBandsSpec.post enc Tryd.prog Tryd.f3 false true false false W args v W' := by
  have hW' := hW
  obtain ⟨p, q, hA0, hV, rfl, hfz, hnd⟩ := hW
  have hA : DataW.TrodAll enc Tryd.prog W 0 (fun _ => true) true Tryd.f3.params.toList args.toList ds p := hA0
  rw [Tryd.params3] at hA hval
  obtain ⟨v0, vs0, d0, ds0, p0, q0, hargs, rfl, rfl, h0, r0⟩ := trodAll_cons hA
  obtain ⟨v1, vs1, d1, ds1, p1, q1, rfl, rfl, rfl, h1, r1⟩ := trodAll_cons r0
  obtain ⟨rfl, rfl, rfl⟩ := trodAll_nil r1
  obtain rfl : args = #[v0, v1] := by cases args; simp_all
  obtain ⟨rfl, rfl⟩ := trodVars_none hV
  obtain ⟨a0, rfl, rfl, rfl, w0⟩ := open_int Tryd.underlying3 (hval 0 3 v0 rfl rfl) h0
  obtain ⟨a1, rfl, rfl, rfl, w1⟩ := open_int Tryd.underlying3 (hval 1 3 v1 rfl rfl) h1
  clear hA0
  simp only [List.append_nil] at hW'
  refine (law_walk a0 a1 W (errT_of_laid hL)).mono fun e W' ⟨he, hb⟩ => ?_
  subst he
  refine ⟨_, rfl, _, _, _, [], [], [], hW', ?_, ?_, ?_, hb.frame _, fun h => by cases h⟩
  · exact trodAll_cons_mk (shut_bool Tryd.underlying4 _) trodAll_mk0
  · exact trodAll_cons_mk (shut_int Tryd.underlying3 w0) (trodAll_cons_mk (shut_int Tryd.underlying3 w1) trodAll_mk0)
  · rfl

set_option maxRecDepth 100000 in
theorem lifted (os : Os) (started : os.Started) (H : Type) (enc : TypeId × Value → H) (F : Stop.Interp) :
    ReturnsInHanded {} Tryd.checked os 3 .any ((OpenSpec.ofChange Rows.numBandsSpec).preRow enc Tryd.prog Tryd.f3 Rows.numBandsRow.domain false Rows.numBandsRow.laid) (((OpenSpec.ofChange Rows.numBandsSpec).at F).post enc Tryd.prog Tryd.f3 false true false false) := by
  obtain ⟨places, hx⟩ := reads os enc
  refine returnsInHanded_of_row (C := Tryd.checked) (s := OpenSpec.ofChange Rows.numBandsSpec) Tryd.own started (by kernel_rfl) Tryd.func3
    (witness_row_at (enc := enc) (C := Tryd.checked) false (withErrT (World.holding Tryd.prog os ⟨#[], #[], []⟩)) #[.int .i64 0, .int .i64 0] rfl (by kernel_rfl) (by kernel_rfl) (by kernel_rfl)
      (OpenSpec.preRow_of_cond 8 hx (by kernel_rfl) (fun k hk => by cases hk) (by kernel_rfl) (laid_met os))) ?_
  intro W base args ds gs before hval hW _ _ _ hL _ _
  exact contract H enc W base args ds gs before hval hW hL

theorem said : Rows.NumBandsSaid :=
  OpenClaim.holds_of_cond 3 Tryd.f3 rfl rfl rfl rfl rfl rfl rfl ⟨rfl, rfl, rfl, rfl, rfl⟩ rfl rfl rfl rfl rfl (by kernel_rfl) Tryd.func3 (by kernel_rfl)
    (of_decide_eq_true (by kernel_rfl)) (by unfold Func.isWrapper; first | (rw [if_pos (by decide +kernel)]; kernel_rfl) | (rw [if_neg (by decide +kernel)]; exact ⟨rfl, rfl⟩))
    (fun os started H enc _ F => by rw [OpenClaim.pre_eq_preRow]; exact lifted os started H enc F)

theorem plain (f : FuncId) (fn : Func) (hf : Tryd.pinned.checked.prog.funcNamed Rows.numBandsRow.func = some f) (hfn : Tryd.pinned.checked.prog.funcs[f]? = some fn) :
    true = Tryd.pinned.checked.prog.looks [] ∧ ∀ (j : Nat) t, fn.params[j]? = some t → Tryd.pinned.checked.prog.wantsStandIn t = false := by
  obtain rfl : f = 3 := Option.some.inj ((show Tryd.prog.funcNamed Rows.numBandsRow.func = some 3 by kernel_rfl).symm.trans hf) |>.symm
  obtain rfl : fn = Tryd.f3 := (Option.some.inj (Tryd.func3.symm.trans hfn)).symm
  refine ⟨by kernel_rfl, fun j t ht => ?_⟩
  rw [Tryd.params3] at ht
  obtain rfl : t = 3 := by simpa using Array.mem_of_getElem? ht
  exact (show Tryd.prog.wantsStandIn 3 = false by kernel_rfl)

theorem numBands_card_holds : Rows.NumBandsCardSaid :=
  Claim7.holds_tied_plain_at .later [] _ _ _ _ said (fun _ h => by cases h) (by kernel_rfl) (fun _ h => by cases h) numBands_row_tie rfl ⟨rfl, rfl⟩ (by kernel_rfl) rfl plain (by kernel_rfl)
#print axioms numBands_card_holds
end Go.Proofs.YtnhhnbomokoglaaDoor
