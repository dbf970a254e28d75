/-
  Proved: whatever the rows and the two whole numbers are, the law CalendarOnce returns true and leaves its arguments as they were (tick by tick the phase changes just when it was told that it would). No conditions beyond those of the row itself.
-/
import Derived.Test.YtnhhnbomokoglaaOnce
import Derived.Test.YtnhhnbomokoglaaCalArg
namespace Go.Proofs.Ytnhhnbomokoglaa.calendarOnce
open Go.ChangeShapes Go.WideShapes Go.ChangeAt Go.RowKit

set_option maxHeartbeats 400000 in
theorem walk_long (a : Option Addr) (n cap : Nat) (from_ many : Int) (w : World) (hn : 30 < n) :
    Calls Try.prog 5 #[.slice a n cap, .int .i64 from_, .int .i64 many] w fun e w' => e = .returned (.bool true) ∧ Below w.heap.size w w' := by
  go_enter Try.func5, Try.ntmps5
  go_wp2_with fail
  go_ret
  exact ⟨rfl, Below.refl _ _⟩

set_option maxHeartbeats 400000 in
theorem walk_none (a : Option Addr) (cap : Nat) (from_ many : Int) (w : World) :
    Calls Try.prog 5 #[.slice a 0 cap, .int .i64 from_, .int .i64 many] w fun e w' => e = .returned (.bool true) ∧ Below w.heap.size w w' := by
  go_enter Try.func5, Try.ntmps5
  go_wp2_with fail
  refine (dated_yes _).mono ?_
  rintro e w1 ⟨rfl, hb1⟩
  go_wp2_with fail
  refine (new_empty a cap _).mono ?_
  rintro e w2 ⟨rfl, hw⟩
  subst hw
  go_wp2
  go_ret
  exact ⟨rfl, hb1⟩

set_option maxHeartbeats 1000000 in
theorem walk_rows (b off cap : Nat) (rs : List (Int × Int)) (from_ many : Int) (w : World) (h : RowsAt w b off rs) (hwf : wfRows rs) (hne : 0 < rs.length) (hlen : rs.length ≤ 30) :
    Calls Try.prog 5 #[.slice (some ⟨b, off, none⟩) rs.length cap, .int .i64 from_, .int .i64 many] w fun e w' => e = .returned (.bool true) ∧ Below w.heap.size w w' := by
  have HR : Hid (RowsAt w b off rs) := h
  have HW : Hid (wfRows rs) := hwf
  clear h hwf
  go_enter Try.func5, Try.ntmps5
  go_wp2_with fail
  refine (dated_yes _).mono ?_
  rintro e w1 ⟨rfl, hb1⟩
  have HB1 : Hid (Below w.heap.size w w1) := hb1
  clear hb1
  go_wp2_with fail
  refine (new_any b off cap rs _ (HR.out.below HB1.out (Nat.le_refl _)) HW.out hne (by omega)).mono ?_
  rintro e w2 ⟨t, err, rfl, hN, hb2⟩
  have HB2 : Hid (Below w.heap.size w w2) := HB1.out.trans (hb2.mono HB1.out.size)
  clear hb2
  rcases hN with ⟨hE, rfl, tb, rfl, hT⟩ | ⟨h0, rfl, hE⟩
  · have HE : Hid (tabE rs = (0, -1)) := hE
    have HT : Hid (TableAt w2 tb rs) := hT
    clear hE hT
    go_wp2_with fail
    refine (pick_is from_ 1000000 _ (by omega)).mono ?_
    rintro e w2' ⟨rfl, hw⟩
    subst hw
    obtain ⟨hf0, hf1⟩ := pick_in from_ 1000000 (by omega)
    obtain ⟨hm0, hm1⟩ := pick_in many 200 (by omega)
    generalize pickV from_ 1000000 = f at hf0 hf1 ⊢
    generalize hM : pickV many 200 = M at hm0 hm1
    have HM : Hid (pickV many 200 = M) := hM
    clear hM
    go_wp2_with fail
    refine (phase_any tb f rs _ HT.out hne (by omega)).mono ?_
    rintro e w3 ⟨rfl, hb3⟩
    have HB3 : Hid (Below w.heap.size w w3) := HB2.out.trans (hb3.mono HB2.out.size)
    have HT3 : Hid (TableAt w3 tb rs) := HT.out.below hb3 (Nat.le_refl _)
    clear hb3
    go_wp2_with fail
    go_loopw [9, 10, 11] (fun p n i wr => ∃ k : Nat, k ≤ 200 ∧ i = .int .i64 ((k + 1 : Nat) : Int) ∧ p = .int .i64 (phaseV rs (f + k)).1 ∧ n = .int .i64 (phaseV rs (f + k)).2 ∧ Below w.heap.size w wr ∧ TableAt wr tb rs) (fun _ _ i _ => 300 - (intOf i).toNat)
    case atStart => exact ⟨0, by omega, rfl, by simp, by simp, HB3.out, HT3.out⟩
    case round =>
      obtain ⟨k, hk, rfl, rfl, rfl, hb, ht⟩ := hrel
      have HB : Hid (Below w.heap.size w wr) := hb
      have HT : Hid (TableAt wr tb rs) := ht
      clear hb ht
      go_wp2_with fail
      refine (pick_is many 200 _ (by omega)).mono ?_
      rintro e w4 ⟨rfl, hw⟩
      subst hw
      rw [HM.out]
      go_wp2_with fail
      · refine (phase_any tb _ rs _ HT.out hne (by omega)).mono ?_
        rintro e w5 ⟨rfl, hb5⟩
        have HB5 : Hid (Below w.heap.size w w5) := HB.out.trans (hb5.mono HB.out.size)
        have HT5 : Hid (TableAt w5 tb rs) := HT.out.below hb5 (Nat.le_refl _)
        clear hb5
        obtain ⟨o1, o2, o3⟩ := once (now := f + k) HE.out (by omega)
        rw [show f + (k : Int) + 1 = f + ((k : Int) + 1) by omega] at o1 o3
        have HP : Hid (phaseV rs (f + ((k + 1 : Nat) : Int)) = phaseV rs (f + ((k : Int) + 1))) := by rw [show ((k + 1 : Nat) : Int) = (k : Int) + 1 by omega]; exact rfl
        generalize phaseV rs (f + k) = pn at o1 o2 o3 ⊢
        generalize phaseV rs (f + ((k : Int) + 1)) = qn at o1 o3 HP ⊢
        obtain ⟨p, n⟩ := pn
        obtain ⟨q, n'⟩ := qn
        dsimp only at o1 o2 o3 ⊢
        by_cases hq : q = p
        · have hn : ¬ n = f + (k + 1) := fun e => (o1.1 (by omega)) hq
          have hn' : n' = n := o3 hq
          subst hq
          subst hn'
          clear o1 o3
          rcases o2 with o2 | o2
          · subst o2
            go_wp2_with fail
            go_roundw
            case rel => exact ⟨k + 1, by omega, by go_num, by rw [HP.out], by rw [HP.out], HB5.out, HT5.out⟩
            case measure => simp [intOf]; omega
          · have hbe : (n' == f + ((k : Int) + 1)) = false := by simp; omega
            go_wp2_with fail
            go_roundw
            case rel => exact ⟨k + 1, by omega, by go_num, by rw [HP.out], by rw [HP.out], HB5.out, HT5.out⟩
            case measure => simp [intOf]; omega
        · have hn : n = f + (k + 1) := by have := o1.2 hq; omega
          clear o1 o2 o3
          subst hn
          have hqb : (q != p) = true := by simpa using hq
          go_wp2_with fail
          go_roundw
          case rel => exact ⟨k + 1, by omega, by go_num, by rw [HP.out], by rw [HP.out], HB5.out, HT5.out⟩
          case measure => simp [intOf]; omega
      · go_ret
        exact ⟨rfl, HB.out⟩
  · rcases hE with ⟨_, rfl⟩ | ⟨b', rfl, _, _⟩
    · go_wp2
      go_ret
      exact ⟨rfl, HB2.out⟩
    · go_wp2
      go_ret
      exact ⟨rfl, HB2.out⟩
theorem own : ownKnob Try.prog.godebug = none := by kernel_rfl
theorem laidOut : laidOutB Try.prog = true := by kernel_rfl

theorem walk (a : Option Addr) (n cap : Nat) (from_ many : Int) (w : World) (h : n = 0 ∨ ∃ (b off : Nat) (rs : List (Int × Int)), a = some ⟨b, off, none⟩ ∧ rs.length = n ∧ RowsAt w b off rs ∧ wfRows rs) :
    Calls Try.prog 5 #[.slice a n cap, .int .i64 from_, .int .i64 many] w fun e w' => e = .returned (.bool true) ∧ Below w.heap.size w w' := by
  by_cases hn : 30 < n
  · exact walk_long a n cap from_ many w hn
  rcases h with rfl | ⟨b, off, rs, rfl, rfl, h1, h2⟩
  · exact walk_none a cap from_ many w
  · by_cases h0 : rs.length = 0
    · rw [h0]; exact walk_none _ cap from_ many w
    · exact walk_rows b off cap rs from_ many w h1 h2 (by omega) (by omega)

set_option maxRecDepth 100000 in
theorem lifted (os : Os) (started : os.Started) (H : Type) (enc : TypeId × Value → H) :
    ReturnsInHanded {} Try.checked os 5 .any (Rows.calendarOnceSpec.pre6 enc Try.prog Try.f5 Rows.calendarOnceRow.domain false) (Rows.calendarOnceSpec.post enc Try.prog Try.f5 false true false false) := by
  refine returnsInHanded_of_change (C := Try.checked) own started (by kernel_rfl) Try.func5
    (ChangeSpec.witness6 (enc := enc) (C := Try.checked) false ⟨#[], #[.slice none 0 0, .int .i64 0, .int .i64 0], []⟩ 8 (by kernel_rfl) (by kernel_rfl) (by kernel_rfl) (by kernel_rfl)) ?_
  intro W base args ds gs before hval0 hW hcnd _
  have hval : ∀ (j : Nat) t v, Try.f5.params[j]? = some t → args[j]? = some v → Value.okWide Try.prog W .any base t v := hval0
  have hW' := hW
  obtain ⟨p, q, hA0, hV, rfl, hfz, hnd⟩ := hW
  have hA : DataW.TrodAll enc Try.prog W 0 (fun _ => true) true Try.f5.params.toList args.toList ds p := hA0
  rw [Try.params5] at hA hval
  obtain ⟨v0, vs0, d0, ds0, p0, q0, hargs, rfl, rfl, h0, r0⟩ := trodAll_cons hA
  obtain ⟨v1, vs1, d1, ds1, p1, q1, rfl, rfl, rfl, h1, r1⟩ := trodAll_cons r0
  obtain ⟨v2, vs2, d2, ds2, p2, q2, rfl, rfl, rfl, h2, r2⟩ := trodAll_cons r1
  obtain ⟨rfl, rfl, rfl⟩ := trodAll_nil r2
  obtain rfl : args = #[v0, v1, v2] := by cases args; simp_all
  obtain ⟨rfl, rfl⟩ := trodVars_none hV
  obtain ⟨a0, len, cap, rfl⟩ := okWide_slice Try.underlying31 (hval 0 31 v0 rfl rfl)
  obtain ⟨a1, rfl, rfl, rfl, w1⟩ := open_int Try.underlying3 (hval 1 3 v1 rfl rfl) h1
  obtain ⟨a2, rfl, rfl, rfl, w2⟩ := open_int Try.underlying3 (hval 2 3 v2 rfl rfl) h2
  clear hA0 hval0
  simp only [List.append_nil] at hW'
  have hlt : ∀ x ∈ p0, x.block < W.heap.size := fun x hx => by simpa using hW'.lt x hx
  refine (walk a0 len cap a1 a2 W (rows_open h0)).mono fun e W' ⟨he, hb⟩ => ?_
  subst he
  refine ⟨_, rfl, _, _, _, [], p0 ++ ([] ++ ([] ++ [])), [], hW', ?_, ?_, ?_, hb.frame _, fun h => by cases h⟩
  · exact trodAll_cons_mk (shut_bool Try.underlying4 _) trodAll_mk0
  · exact trodAll_cons_mk (Below.trod laidOut (by kernel_rfl) (of_decide_eq_true (by kernel_rfl)) h0 hb hlt) (trodAll_cons_mk (shut_int Try.underlying3 w1) (trodAll_cons_mk (shut_int Try.underlying3 w2) trodAll_mk0))
  · rfl

theorem over : Rows.calendarOnceRow.holds Try.pinned (OpenSpec.ofChange Rows.calendarOnceSpec) :=
  OpenClaim.holds_of_wide 5 Try.f5 rfl rfl rfl rfl rfl rfl rfl ⟨rfl, rfl, rfl, rfl, rfl⟩ rfl rfl rfl rfl rfl (by kernel_rfl) Try.func5 (by kernel_rfl)
    (of_decide_eq_true (by kernel_rfl)) (by unfold Func.isWrapper; first | (rw [if_pos (by decide +kernel)]; kernel_rfl) | (rw [if_neg (by decide +kernel)]; exact ⟨rfl, rfl⟩))
    (fun os started H enc _ => lifted os started H enc)

end Go.Proofs.Ytnhhnbomokoglaa.calendarOnce
namespace Go.Proofs.Ytnhhnbomokoglaa
theorem calendarOnce_holds : Rows.CalendarOnceSaid := calendarOnce.over
#print axioms calendarOnce_holds
end Go.Proofs.Ytnhhnbomokoglaa
