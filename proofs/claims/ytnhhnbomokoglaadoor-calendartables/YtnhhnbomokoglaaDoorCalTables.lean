/-
  Proved: whatever the rows and the whole number are, the law CalendarTables returns true and leaves its arguments as they were (which tables may be, what is wrong first and where, and which phase there is when, is as chapter 2 of the document says). Condition of the row: the package variable errors.errorType reads as the program's text lays it; the card ties it.
-/
import Derived.Test.YtnhhnbomokoglaaDoorCalRef
import Derived.Test.YtnhhnbomokoglaaDoorCalRefPhase
import Derived.Test.YtnhhnbomokoglaaDoorCalRows
import Derived.Test.YtnhhnbomokoglaaDoorCalArg
import Derived.Test.YtnhhnbomokoglaaDoorLaid
import Derived.Test.YtnhhnbomokoglaaDoorCards
import Derived.Test.YtnhhnbomokoglaaDoorTie
import Derived.ProofKit
import Derived.OpenShut
import Derived.ChangeVars
import Derived.Deep.DeepHandedRow
import Derived.SevenTiedAt
namespace Go.Proofs.YtnhhnbomokoglaaDoor.calendarTables
open Go.ChangeShapes Go.WideShapes Go.ChangeAt Go.RowKit

set_option maxHeartbeats 400000 in
theorem walk_long (a : Option Addr) (n cap : Nat) (now : Int) (w : World) (hn : 60 < n) :
    Calls Tryd.prog 4 #[.slice a n cap, .int .i64 now] w fun e w' => e = .returned (.bool true) ∧ Below w.heap.size w w' := by
  go_enter Tryd.func4, Tryd.ntmps4
  go_wp2_with fail
  go_ret
  exact ⟨rfl, Below.refl _ _⟩

set_option maxHeartbeats 400000 in
theorem walk_none (a : Option Addr) (cap : Nat) (now : Int) (w : World) (hg : ErrT w) :
    Calls Tryd.prog 4 #[.slice a 0 cap, .int .i64 now] w fun e w' => e = .returned (.bool true) ∧ Below w.heap.size w w' := by
  have HG : Hid (ErrT w) := hg
  clear hg
  go_enter Tryd.func4, Tryd.ntmps4
  go_wp2_with fail
  refine (new_empty a cap _).mono ?_
  rintro e w1 ⟨rfl, hw⟩
  subst hw
  go_wp2_with fail
  refine (rows_empty a cap _).mono ?_
  rintro e w2 ⟨rfl, hw⟩
  subst hw
  go_wp2_with fail
  refine (refTable_empty none 0 _).mono ?_
  rintro e w3 ⟨rfl, hb3⟩
  have HB3 : Hid (Below w2.heap.size w2 w3) := hb3
  clear hb3
  go_wp2_with fail
  refine (is_yes _ 8 (-1) _ (HG.out.below (HB3.out.alloc HB3.out.size _)) (Or.inr (Or.inl ⟨rfl, rfl⟩))).mono ?_
  rintro e w4 ⟨rfl, hb4⟩
  have HB4 : Hid (Below w2.heap.size w2 w4) := (HB3.out.alloc HB3.out.size _).trans (hb4.mono (by simp; have := HB3.out.size; omega))
  clear hb4
  go_wp2
  go_ret
  exact ⟨rfl, HB4.out⟩

/-- the document's table, for every number of rows up to 60 -/
theorem refTable_all (b cap : Nat) (rs : List (Int × Int)) (w : World) (h : RowsAt w b 0 rs) (hne : 0 < rs.length) (hlen : rs.length ≤ 60) :
    Calls Tryd.prog 12 #[.slice (some ⟨b, 0, none⟩) rs.length cap] w fun e w' => e = .returned (.agg #[.int .i64 (tabE rs).1, .int .i64 (tabE rs).2]) ∧ Below w.heap.size w w' := by
  by_cases h20 : 20 < rs.length
  · rw [tab_long h20]; exact refTable_long _ _ cap w h20 hlen
  · exact refTable_any b cap rs w h hne (by omega)

theorem errIs_of {w : World} {rs : List (Int × Int)} {err : Value} (h : ((tabE rs).2 = -1 ∧ err = .iface 22 (.int .i64 (tabE rs).1)) ∨ ∃ b : Nat, err = .iface 53 (.pointer (some ⟨b, 0, none⟩)) ∧ w.cell? ⟨b, 0, none⟩ = some (.int .i64 (tabE rs).1) ∧ w.cell? ⟨b, 1, none⟩ = some (.int .i64 (tabE rs).2)) :
    ErrIs w err (tabE rs).1 (tabE rs).2 := by
  rcases h with ⟨h1, h2⟩ | ⟨b, h1, h2, h3⟩
  · exact Or.inr (Or.inl ⟨h2, h1⟩)
  · exact Or.inr (Or.inr ⟨b, 0, h1, h2, h3⟩)

set_option maxHeartbeats 1000000 in
theorem walk_rows (b off cap : Nat) (rs : List (Int × Int)) (now : Int) (w : World) (h : RowsAt w b off rs) (hwf : wfRows rs) (hne : 0 < rs.length) (hlen : rs.length ≤ 60) (hg : ErrT w) :
    Calls Tryd.prog 4 #[.slice (some ⟨b, off, none⟩) rs.length cap, .int .i64 now] w fun e w' => e = .returned (.bool true) ∧ Below w.heap.size w w' := by
  have HG : Hid (ErrT w) := hg
  have HR : Hid (RowsAt w b off rs) := h
  have HW : Hid (wfRows rs) := hwf
  clear h hwf hg
  go_enter Tryd.func4, Tryd.ntmps4
  go_wp2_with fail
  refine (new_any b off cap rs _ HR.out HW.out hne hlen).mono ?_
  rintro e w1 ⟨t, err, rfl, hN, hb1⟩
  have HB1 : Hid (Below w.heap.size w w1) := hb1
  have HN : Hid (NewIs w1 rs t err) := hN
  clear hb1 hN
  go_wp2_with fail
  refine (rows_any b off cap rs _ (HR.out.below HB1.out (Nat.le_refl _)) hne hlen).mono ?_
  rintro e w2 ⟨cb, c, rfl, hr2, hb2⟩
  have HR2 : Hid (RowsAt w2 cb 0 rs) := hr2
  have HB2 : Hid (Below w1.heap.size w1 w2) := hb2
  clear hr2 hb2
  go_wp2_with fail
  refine (refTable_all cb c rs _ HR2.out hne hlen).mono ?_
  rintro e w3 ⟨rfl, hb3⟩
  have HB3 : Hid (Below w2.heap.size w2 w3) := hb3
  clear hb3
  have H13 : Hid (Below w1.heap.size w1 w3) := HB2.out.trans (HB3.out.mono HB2.out.size)
  have H03 : Hid (Below w.heap.size w w3) := HB1.out.trans (H13.out.mono HB1.out.size)
  rcases HN.out with ⟨hE, rfl, tb, rfl, hT⟩ | ⟨h0, rfl, hE⟩
  · have HT : Hid (TableAt w1 tb rs) := hT
    clear hT HN
    rw [hE]
    clear hE
    go_wp2_with fail
    refine (rows_any b off cap rs _ (HR.out.below (H03.out.alloc H03.out.size _) (Nat.le_refl _)) hne hlen).mono ?_
    rintro e w5 ⟨cb', c', rfl, hr5, hb5⟩
    have HR5 : Hid (RowsAt w5 cb' 0 rs) := hr5
    have H15 : Hid (Below w1.heap.size w1 w5) := (H13.out.alloc H13.out.size _).trans (hb5.mono (by simp; have := H13.out.size; omega))
    clear hr5 hb5
    go_wp2_with fail
    refine (refPhase_any cb' c' now rs _ HR5.out hne hlen).mono ?_
    rintro e w6 ⟨rfl, hb6⟩
    have H16 : Hid (Below w1.heap.size w1 w6) := H15.out.trans (hb6.mono H15.out.size)
    clear hb6
    go_wp2_with fail
    refine (phase_any tb now rs _ (HT.out.below H16.out (Nat.le_refl _)) hne hlen).mono ?_
    rintro e w7 ⟨rfl, hb7⟩
    have H07 : Hid (Below w.heap.size w w7) := HB1.out.trans ((H16.out.trans (hb7.mono H16.out.size)).mono HB1.out.size)
    clear hb7
    go_wp2
    go_ret
    exact ⟨rfl, H07.out⟩
  · have hv : ((tabE rs).1 != 0) = true := by simpa using h0
    have HE : Hid (ErrIs w1 err (tabE rs).1 (tabE rs).2) := errIs_of hE
    clear h0 hE HN
    go_wp2_with fail
    refine (is_yes err _ _ _ ((HG.out.below H03.out).below ((Below.refl _ _).alloc (Nat.le_refl _) _)) (HE.out.below (H13.out.alloc H13.out.size _))).mono ?_
    rintro e w5 ⟨rfl, hb5⟩
    have H05 : Hid (Below w.heap.size w w5) := (H03.out.alloc H03.out.size _).trans (hb5.mono (by simp; have := H03.out.size; omega))
    clear hb5
    go_wp2
    go_ret
    exact ⟨rfl, H05.out⟩

theorem walk (a : Option Addr) (n cap : Nat) (now : Int) (w : World) (h : n = 0 ∨ ∃ (b off : Nat) (rs : List (Int × Int)), a = some ⟨b, off, none⟩ ∧ rs.length = n ∧ RowsAt w b off rs ∧ wfRows rs) (hg : ErrT w) :
    Calls Tryd.prog 4 #[.slice a n cap, .int .i64 now] w fun e w' => e = .returned (.bool true) ∧ Below w.heap.size w w' := by
  by_cases hn : 60 < n
  · exact walk_long a n cap now w hn
  rcases h with rfl | ⟨b, off, rs, rfl, rfl, h1, h2⟩
  · exact walk_none a cap now w hg
  · by_cases h0 : rs.length = 0
    · rw [h0]; exact walk_none _ cap now w hg
    · exact walk_rows b off cap rs now w h1 h2 (by omega) (by omega) hg

theorem laidOut : laidOutB Tryd.prog = true := by kernel_rfl

theorem laid_met (os : Os) : laidMetH Tryd.prog Rows.calendarTablesRow.laid ((withErrT (World.holding Tryd.prog os ⟨#[], #[], []⟩)).forCall (fun _ _ => 0) ⟨#[], #[.slice none 0 0, .int .i64 0], []⟩).memory :=
  laidMetH_of_parts (laidMet_nil _ _) (by kernel_rfl)
theorem reads (os : Os) {H : Type} (enc : TypeId × Value → H) : ∃ places, DataW.whole enc Tryd.prog ((withErrT (World.holding Tryd.prog os ⟨#[], #[], []⟩)).forCall (fun _ _ => 0) ⟨#[], #[.slice none 0 0, .int .i64 0], []⟩).memory Tryd.f4.params.toList Rows.calendarTablesSpec.vars false #[Value.slice none 0 0, Value.int .i64 0].toList 8 = some ([.nil, .lit (.int .i64 0)], [], places) :=
  ⟨[], by kernel_rfl⟩

set_option maxRecDepth 100000 in
theorem contract (H : Type) (enc : TypeId × Value → H) (W : World) (base : Nat) (args : Array Value) (ds gs : List (DataW H)) (before : List MemPlace)
    (hval : ∀ (j : Nat) t v, Tryd.f4.params[j]? = some t → args[j]? = some v → Value.okWide Tryd.prog W .any base t v)
    (hW : DataW.Whole enc Tryd.prog Tryd.f4.params.toList Rows.calendarTablesSpec.vars false W args.toList ds gs before) (hL : laidMetH Tryd.prog Rows.calendarTablesRow.laid W) :
    Calls Tryd.prog 4 args W fun e W' => ∃ v, e = .returned v ∧ Rows.calendarTablesSpec.post enc Tryd.prog Tryd.f4 false true false false W args v W' := by
  have hW' := hW
  obtain ⟨p, q, hA0, hV, rfl, hfz, hnd⟩ := hW
  have hA : DataW.TrodAll enc Tryd.prog W 0 (fun _ => true) true Tryd.f4.params.toList args.toList ds p := hA0
  rw [Tryd.params4] at hA hval
  obtain ⟨v0, vs0, d0, ds0, p0, q0, hargs, rfl, rfl, h0, r0⟩ := trodAll_cons hA
  obtain ⟨v1, vs1, d1, ds1, p1, q1, rfl, rfl, rfl, h1, r1⟩ := trodAll_cons r0
  obtain ⟨rfl, rfl, rfl⟩ := trodAll_nil r1
  obtain rfl : args = #[v0, v1] := by cases args; simp_all
  obtain ⟨rfl, rfl⟩ := trodVars_none hV
  obtain ⟨a0, len, cap, rfl⟩ := okWide_slice Tryd.underlying33 (hval 0 33 v0 rfl rfl)
  obtain ⟨a1, rfl, rfl, rfl, w1⟩ := open_int Tryd.underlying3 (hval 1 3 v1 rfl rfl) h1
  clear hA0
  simp only [List.append_nil] at hW'
  have hlt : ∀ x ∈ p0, x.block < W.heap.size := fun x hx => by simpa using hW'.lt x hx
  refine (walk a0 len cap a1 W (rows_open h0) (errT_of_laid hL)).mono fun e W' ⟨he, hb⟩ => ?_
  subst he
  refine ⟨_, rfl, _, _, _, [], p0 ++ ([] ++ []), [], hW', ?_, ?_, ?_, hb.frame _, fun h => by cases h⟩
  · exact trodAll_cons_mk (shut_bool Tryd.underlying4 _) trodAll_mk0
  · exact trodAll_cons_mk (Below.trod laidOut (by kernel_rfl) (of_decide_eq_true (by kernel_rfl)) h0 hb hlt) (trodAll_cons_mk (shut_int Tryd.underlying3 w1) trodAll_mk0)
  · rfl

set_option maxRecDepth 100000 in
theorem lifted (os : Os) (started : os.Started) (H : Type) (enc : TypeId × Value → H) (F : Stop.Interp) :
    ReturnsInHanded {} Tryd.checked os 4 .any ((OpenSpec.ofChange Rows.calendarTablesSpec).preRow enc Tryd.prog Tryd.f4 Rows.calendarTablesRow.domain false Rows.calendarTablesRow.laid) (((OpenSpec.ofChange Rows.calendarTablesSpec).at F).post enc Tryd.prog Tryd.f4 false true false false) := by
  obtain ⟨places, hx⟩ := reads os enc
  refine returnsInHanded_of_row (C := Tryd.checked) (s := OpenSpec.ofChange Rows.calendarTablesSpec) Tryd.own started (by kernel_rfl) Tryd.func4
    (witness_row_at (enc := enc) (C := Tryd.checked) false (withErrT (World.holding Tryd.prog os ⟨#[], #[], []⟩)) #[.slice none 0 0, .int .i64 0] rfl (by kernel_rfl) (by kernel_rfl) (by kernel_rfl)
      (OpenSpec.preRow_of_cond 8 hx (by kernel_rfl) (fun k hk => by cases hk) (by kernel_rfl) (laid_met os))) ?_
  intro W base args ds gs before hval hW _ _ _ hL _ _
  exact contract H enc W base args ds gs before hval hW hL

theorem said : Rows.CalendarTablesSaid :=
  OpenClaim.holds_of_cond 4 Tryd.f4 rfl rfl rfl rfl rfl rfl rfl ⟨rfl, rfl, rfl, rfl, rfl⟩ rfl rfl rfl rfl rfl (by kernel_rfl) Tryd.func4 (by kernel_rfl)
    (of_decide_eq_true (by kernel_rfl)) (by unfold Func.isWrapper; first | (rw [if_pos (by decide +kernel)]; kernel_rfl) | (rw [if_neg (by decide +kernel)]; exact ⟨rfl, rfl⟩))
    (fun os started H enc _ F => by rw [OpenClaim.pre_eq_preRow]; exact lifted os started H enc F)

theorem plain (f : FuncId) (fn : Func) (hf : Tryd.pinned.checked.prog.funcNamed Rows.calendarTablesRow.func = some f) (hfn : Tryd.pinned.checked.prog.funcs[f]? = some fn) :
    true = Tryd.pinned.checked.prog.looks [] ∧ ∀ (j : Nat) t, fn.params[j]? = some t → Tryd.pinned.checked.prog.wantsStandIn t = false := by
  obtain rfl : f = 4 := Option.some.inj ((show Tryd.prog.funcNamed Rows.calendarTablesRow.func = some 4 by kernel_rfl).symm.trans hf) |>.symm
  obtain rfl : fn = Tryd.f4 := (Option.some.inj (Tryd.func4.symm.trans hfn)).symm
  refine ⟨by kernel_rfl, fun j t ht => ?_⟩
  rw [Tryd.params4] at ht
  have hm : t = 33 ∨ t = 3 := by simpa using Array.mem_of_getElem? ht
  rcases hm with rfl | rfl
  · exact (show Tryd.prog.wantsStandIn 33 = false by kernel_rfl)
  · exact (show Tryd.prog.wantsStandIn 3 = false by kernel_rfl)
end Go.Proofs.YtnhhnbomokoglaaDoor.calendarTables
namespace Go.Proofs.YtnhhnbomokoglaaDoor
theorem calendarTables_card_holds : Rows.CalendarTablesCardSaid :=
  Claim7.holds_tied_plain_at .later [] _ _ _ _ calendarTables.said (fun _ h => by cases h) (by kernel_rfl) (fun _ h => by cases h) calendarTables_row_tie rfl ⟨rfl, rfl⟩ (by kernel_rfl) rfl calendarTables.plain (by kernel_rfl)
#print axioms calendarTables_card_holds
end Go.Proofs.YtnhhnbomokoglaaDoor
