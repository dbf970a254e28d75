/-
  Proved: whatever the script and the price are, the law IndicPlays returns true and leaves its arguments as they were (whatever lies, and goes, points and quotes are what they would be of all anew, as chapter 7 of the document says). Condition of the row: the package variable errors.errorType reads as the program's text lays it; the card ties it to the program's own initialisers (the translator's report, over a pruned copy of the project).
-/
import Derived.Test.YtkfmljokenclaabDoorInPlays
import Derived.Test.YtkfmljokenclaabDoorScript
import Derived.Test.YtkfmljokenclaabDoorLaid
import Derived.Test.YtkfmljokenclaabDoorCards
import Derived.Test.YtkfmljokenclaabDoorTie
import Derived.ProofKit
import Derived.OpenShut
import Derived.ChangeVars
import Derived.Deep.Fields
import Derived.Deep.DeepHandedRow
import Derived.SevenTiedAt
namespace Go.Proofs.YtkfmljokenclaabDoor.indicPlays
open Go.ChangeShapes Go.WideShapes Go.ChangeAt Go.RowKit Go.Deep

set_option maxRecDepth 100000 in
set_option maxHeartbeats 400000 in
theorem walk_long (a : Option Addr) (n cap : Nat) (more : Int) (w : World) (hn : 100 < n) :
    Calls Tryd.prog 3 #[.slice a n cap, .int .i64 more] w fun e w' => e = .returned (.bool true) ∧ Below w.heap.size w w' := by
  have k1 : decide ((n : Int) > 100) = true := decide_eq_true (by omega)
  go_enter Tryd.func3, Tryd.ntmps3
  go_wp2_with fail
  go_ret
  exact ⟨rfl, Below.refl _ _⟩
set_option maxRecDepth 100000 in
set_option maxHeartbeats 400000 in
theorem walk_high (a : Option Addr) (n cap : Nat) (more : Int) (w : World) (hn : ¬ 100 < n) (hm : 1000000 < more) :
    Calls Tryd.prog 3 #[.slice a n cap, .int .i64 more] w fun e w' => e = .returned (.bool true) ∧ Below w.heap.size w w' := by
  have k1 : decide ((n : Int) > 100) = false := decide_eq_false (by omega)
  have k2 : decide (more > 1000000) = true := decide_eq_true (by omega)
  go_enter Tryd.func3, Tryd.ntmps3
  go_wp2_with fail
  go_ret
  exact ⟨rfl, Below.refl _ _⟩
set_option maxRecDepth 100000 in
set_option maxHeartbeats 400000 in
theorem walk_low (a : Option Addr) (n cap : Nat) (more : Int) (w : World) (hn : ¬ 100 < n) (hm : more < -1099511627776) :
    Calls Tryd.prog 3 #[.slice a n cap, .int .i64 more] w fun e w' => e = .returned (.bool true) ∧ Below w.heap.size w w' := by
  have k1 : decide ((n : Int) > 100) = false := decide_eq_false (by omega)
  have k2 : decide (more > 1000000) = false := decide_eq_false (by omega)
  have k3 : decide (more < -1099511627776) = true := decide_eq_true (by omega)
  go_enter Tryd.func3, Tryd.ntmps3
  go_wp2_with fail
  go_ret
  exact ⟨rfl, Below.refl _ _⟩
theorem walk (a : Option Addr) (n cap : Nat) (more : Int) (w : World) (h : n = 0 ∨ ∃ (b off : Nat) (X : Nat → Nat → Int), a = some ⟨b, off, none⟩ ∧ ∀ i, i < n → ∀ j, j < 6 → w.cell? ⟨b, off + i * 6 + j, none⟩ = some (.int .i64 (X i j)) ∧ (Lit.int .i64 (X i j)).wf = true) (hg : ErrT w) :
    Calls Tryd.prog 3 #[.slice a n cap, .int .i64 more] w fun e w' => e = .returned (.bool true) ∧ Below w.heap.size w w' := by
  by_cases hn : 100 < n
  · exact walk_long a n cap more w hn
  by_cases h1 : 1000000 < more
  · exact walk_high a n cap more w hn h1
  by_cases h2 : more < -1099511627776
  · exact walk_low a n cap more w hn h2
  rcases h with rfl | ⟨b, off, X, rfl, hX⟩
  · exact in_rows a 0 0 0 cap (fun _ => 0) (fun _ => Ord.none_) more w (fun h => absurd h (by decide)) (fun i hi => absurd hi (by omega)) (by omega) (by omega) hg
  · exact in_rows _ b off n cap (fun i => X i 0) (fun i => ⟨X i 1, X i 2, X i 3, X i 4, X i 5⟩) more w (fun _ => rfl) (fun i hi => ⟨(hX i hi 0 (by decide)).1, (hX i hi 1 (by decide)).1, (hX i hi 2 (by decide)).1, (hX i hi 3 (by decide)).1, (hX i hi 4 (by decide)).1, (hX i hi 5 (by decide)).1⟩) (by omega) (by omega) hg

theorem Tryd.cellsI : Tryd.prog.cellsOf 3 = 1 := by kernel_rfl
theorem Tryd.cellsO : Tryd.prog.cellsOf 30 = 5 := by kernel_rfl
theorem Tryd.cellsL : Tryd.prog.cellsOf 32 = 6 := by kernel_rfl
/-- one cell that is a whole number -/
theorem int_cell {H : Type} {enc : TypeId × Value → H} {W : World} {fuel k : Nat} {cs : List Value} {y : DataW H × List MemPlace} (hk : k < cs.length) (g : DataW.trod enc Tryd.prog W 0 (fun _ => true) true fuel 3 ((cs.drop k).take (Tryd.prog.cellsOf 3)) = some y) : ∃ z, cs[k]? = some (.int .i64 z) ∧ (Lit.int .i64 z).wf = true := by
  rw [Tryd.cellsI, take1_drop cs k undef hk] at g
  obtain ⟨z, e1, _, w1⟩ := DataW.trod_int Tryd.underlying3 g
  simp only [List.cons.injEq, and_true] at e1
  rw [List.getD_eq_getElem?_getD, List.getElem?_eq_getElem hk, Option.getD_some] at e1
  exact ⟨z, by rw [List.getElem?_eq_getElem hk, e1], w1⟩
theorem some_of {α : Type} {l : List α} {n k : Nat} (h : l.length = n) (hk : k < n) : ∃ y, l[k]? = some y := ⟨l[k]'(by omega), List.getElem?_eq_getElem (by omega)⟩
theorem lots_open {H : Type} {enc : TypeId × Value → H} {W : World} {a0 : Option Addr} {len cap : Nat} {d : DataW H} {ps : List MemPlace} (h : DataW.Trod enc Tryd.prog W 0 (fun _ => true) true 22 (.slice a0 len cap) d ps) :
    len = 0 ∨ ∃ (b off : Nat) (X : Nat → Nat → Int), a0 = some ⟨b, off, none⟩ ∧ ∀ i, i < len → ∀ j, j < 6 → W.cell? ⟨b, off + i * 6 + j, none⟩ = some (.int .i64 (X i j)) ∧ (Lit.int .i64 (X i j)).wf = true := by
  obtain ⟨fuel, hf⟩ := h
  rcases open_slice Tryd.underlying22 hf with ⟨hcs, _⟩ | ⟨a, len', cap', m, n, D, Pl, hcs, _, hl, _, hmm, _, hi⟩
  · simp [Value.cells] at hcs
    exact Or.inl hcs.2.1
  simp [Value.cells] at hcs
  obtain ⟨rfl, rfl, rfl⟩ := hcs
  simp only [if_true] at hmm
  subst hmm
  by_cases h0 : len = 0
  · exact Or.inl h0
  right
  obtain ⟨b, off, spot⟩ := a
  have each : ∀ i, i < len → ∃ f : Nat → Int, ∀ j, j < 6 → W.cell? (((⟨b, off, spot⟩ : Addr).add (i * 6)).add j) = some (.int .i64 (f j)) ∧ (Lit.int .i64 (f j)).wf = true := by
    intro i hil
    obtain ⟨cs, hc, ht'⟩ := hi i (by omega)
    obtain ⟨_, hlen, hcell⟩ := World.cells?_some hc
    rw [Tryd.cellsL] at hlen hcell
    obtain ⟨xs, n', _, _, _, hxl, hfl⟩ := DataW.trod_struct Tryd.underlying32 ht'
    have hxl3 : xs.length = 2 := hxl
    obtain ⟨y0, e0⟩ := some_of hxl3 (k := 0) (by decide)
    obtain ⟨y1, e1⟩ := some_of hxl3 (k := 1) (by decide)
    have g0 := (hfl 0 _ rfl).trans e0
    have g1 := (hfl 1 _ rfl).trans e1
    have i0 := int_cell (k := 0) (by omega) g0
    obtain ⟨xs2, n2, _, _, _, hxl2, hfl2⟩ := DataW.trod_struct Tryd.underlying30 g1
    have hl2 : ((cs.drop 1).take (Tryd.prog.cellsOf 30)).length = 5 := by rw [Tryd.cellsO, List.length_take, List.length_drop, hlen]; rfl
    have hx5 : xs2.length = 5 := hxl2
    have inner : ∀ k, k < 5 → (∀ y, DataW.trod enc Tryd.prog W 0 (fun _ => true) true n2 3 ((((cs.drop 1).take (Tryd.prog.cellsOf 30)).drop k).take (Tryd.prog.cellsOf 3)) = some y → ∃ z, cs[1 + k]? = some (.int .i64 z) ∧ (Lit.int .i64 z).wf = true) := fun k hk y g => by
      obtain ⟨z, hz, hw⟩ := int_cell (k := k) (by rw [hl2]; exact hk) g
      rw [Tryd.cellsO, List.getElem?_take, if_pos hk, List.getElem?_drop] at hz
      exact ⟨z, hz, hw⟩
    obtain ⟨z0, u0⟩ := some_of hx5 (k := 0) (by decide)
    obtain ⟨z1, u1⟩ := some_of hx5 (k := 1) (by decide)
    obtain ⟨z2, u2⟩ := some_of hx5 (k := 2) (by decide)
    obtain ⟨z3, u3⟩ := some_of hx5 (k := 3) (by decide)
    obtain ⟨z4, u4⟩ := some_of hx5 (k := 4) (by decide)
    have j0 := inner 0 (by decide) z0 ((hfl2 0 _ rfl).trans u0)
    have j1 := inner 1 (by decide) z1 ((hfl2 1 _ rfl).trans u1)
    have j2 := inner 2 (by decide) z2 ((hfl2 2 _ rfl).trans u2)
    have j3 := inner 3 (by decide) z3 ((hfl2 3 _ rfl).trans u3)
    have j4 := inner 4 (by decide) z4 ((hfl2 4 _ rfl).trans u4)
    refine choose_lt (p := fun j z => W.cell? (((⟨b, off, spot⟩ : Addr).add (i * 6)).add j) = some (.int .i64 z) ∧ (Lit.int .i64 z).wf = true) fun j hj => ?_
    have all : ∃ z, cs[j]? = some (.int .i64 z) ∧ (Lit.int .i64 z).wf = true := by
      match j, hj with
      | 0, _ => exact i0
      | 1, _ => exact j0
      | 2, _ => exact j1
      | 3, _ => exact j2
      | 4, _ => exact j3
      | 5, _ => exact j4
    obtain ⟨z, hz, hw⟩ := all
    exact ⟨z, (hcell j hj).trans hz, hw⟩
  obtain ⟨X, hX⟩ := choose_lt (p := fun i (f : Nat → Int) => ∀ j, j < 6 → W.cell? (((⟨b, off, spot⟩ : Addr).add (i * 6)).add j) = some (.int .i64 (f j)) ∧ (Lit.int .i64 (f j)).wf = true) each
  have hspot : spot = none := by simpa [Addr.add] using World.cell?_spot (hX 0 (by omega) 0 (by decide)).1
  subst hspot
  refine ⟨b, off, X, rfl, fun i hil j hj => ?_⟩
  have := hX i hil j hj
  rwa [add_plain, add_plain] at this
theorem laidOut : laidOutB Tryd.prog = true := by kernel_rfl

theorem laid_met (os : Os) : laidMetH Tryd.prog Rows.indicPlaysRow.laid ((withErrT (World.holding Tryd.prog os ⟨#[], #[], []⟩)).forCall (fun _ _ => 0) ⟨#[], #[.slice none 0 0, .int .i64 0], []⟩).memory :=
  laidMetH_of_parts (laidMet_nil _ _) (by kernel_rfl)
theorem reads (os : Os) {H : Type} (enc : TypeId × Value → H) : ∃ places, DataW.whole enc Tryd.prog ((withErrT (World.holding Tryd.prog os ⟨#[], #[], []⟩)).forCall (fun _ _ => 0) ⟨#[], #[.slice none 0 0, .int .i64 0], []⟩).memory Tryd.f3.params.toList Rows.indicPlaysSpec.vars false #[Value.slice none 0 0, Value.int .i64 0].toList 8 = some ([.nil, .lit (.int .i64 0)], [], places) :=
  ⟨[], by kernel_rfl⟩

set_option maxRecDepth 100000 in
theorem contract (H : Type) (enc : TypeId × Value → H) (W : World) (base : Nat) (args : Array Value) (ds gs : List (DataW H)) (before : List MemPlace)
    (hval : ∀ (j : Nat) t v, Tryd.f3.params[j]? = some t → args[j]? = some v → Value.okWide Tryd.prog W .any base t v)
    (hW : DataW.Whole enc Tryd.prog Tryd.f3.params.toList Rows.indicPlaysSpec.vars false W args.toList ds gs before) (hL : laidMetH Tryd.prog Rows.indicPlaysRow.laid W) :
    Calls Tryd.prog 3 args W fun e W' => ∃ v, e = .returned v ∧ Rows.indicPlaysSpec.post enc Tryd.prog Tryd.f3 false true false false W args v W' := by
  have hW' := hW
  obtain ⟨p, q, hA0, hV, rfl, hfz, hnd⟩ := hW
  have hA : DataW.TrodAll enc Tryd.prog W 0 (fun _ => true) true Tryd.f3.params.toList args.toList ds p := hA0
  rw [Tryd.params3] at hA hval
  obtain ⟨v0, vs0, d0, ds0, p0, q0, hargs, rfl, rfl, h0, r0⟩ := trodAll_cons hA
  obtain ⟨v1, vs1, d1, ds1, p1, q1, rfl, rfl, rfl, h1, r1⟩ := trodAll_cons r0
  obtain ⟨rfl, rfl, rfl⟩ := trodAll_nil r1
  obtain rfl : args = #[v0, v1] := by cases args; simp_all
  obtain ⟨rfl, rfl⟩ := trodVars_none hV
  obtain ⟨a0, len, cap, rfl⟩ := okWide_slice Tryd.underlying22 (hval 0 22 v0 rfl rfl)
  obtain ⟨a1, rfl, rfl, rfl, w1⟩ := open_int Tryd.underlying3 (hval 1 3 v1 rfl rfl) h1
  clear hA0
  simp only [List.append_nil] at hW'
  have hlt : ∀ x ∈ p0, x.block < W.heap.size := fun x hx => by simpa using hW'.lt x hx
  refine (walk a0 len cap a1 W (lots_open h0) (errT_of_laid hL)).mono fun e W' ⟨he, hb⟩ => ?_
  subst he
  refine ⟨_, rfl, _, _, _, [], p0 ++ ([] ++ []), [], hW', ?_, ?_, ?_, hb.frame _, fun h => by cases h⟩
  · exact trodAll_cons_mk (shut_bool Tryd.underlying4 _) trodAll_mk0
  · exact trodAll_cons_mk (Below.trod laidOut (by kernel_rfl) (of_decide_eq_true (by kernel_rfl)) h0 hb hlt) (trodAll_cons_mk (shut_int Tryd.underlying3 w1) trodAll_mk0)
  · rfl

set_option maxRecDepth 100000 in
theorem lifted (os : Os) (started : os.Started) (H : Type) (enc : TypeId × Value → H) (F : Stop.Interp) :
    ReturnsInHanded {} Tryd.checked os 3 .any ((OpenSpec.ofChange Rows.indicPlaysSpec).preRow enc Tryd.prog Tryd.f3 Rows.indicPlaysRow.domain false Rows.indicPlaysRow.laid) (((OpenSpec.ofChange Rows.indicPlaysSpec).at F).post enc Tryd.prog Tryd.f3 false true false false) := by
  obtain ⟨places, hx⟩ := reads os enc
  refine returnsInHanded_of_row (C := Tryd.checked) (s := OpenSpec.ofChange Rows.indicPlaysSpec) Tryd.own started (by kernel_rfl) Tryd.func3
    (witness_row_at (enc := enc) (C := Tryd.checked) false (withErrT (World.holding Tryd.prog os ⟨#[], #[], []⟩)) #[.slice none 0 0, .int .i64 0] rfl (by kernel_rfl) (by kernel_rfl) (by kernel_rfl)
      (OpenSpec.preRow_of_cond 8 hx (by kernel_rfl) (fun k hk => by cases hk) (by kernel_rfl) (laid_met os))) ?_
  intro W base args ds gs before hval hW _ _ _ hL _ _
  exact contract H enc W base args ds gs before hval hW hL

theorem said : Rows.IndicPlaysSaid :=
  OpenClaim.holds_of_cond 3 Tryd.f3 rfl rfl rfl rfl rfl rfl rfl ⟨rfl, rfl, rfl, rfl, rfl⟩ rfl rfl rfl rfl rfl (by kernel_rfl) Tryd.func3 (by kernel_rfl)
    (of_decide_eq_true (by kernel_rfl)) (by unfold Func.isWrapper; first | (rw [if_pos (by decide +kernel)]; kernel_rfl) | (rw [if_neg (by decide +kernel)]; exact ⟨rfl, rfl⟩))
    (fun os started H enc _ F => by rw [OpenClaim.pre_eq_preRow]; exact lifted os started H enc F)

theorem plain (f : FuncId) (fn : Func) (hf : Tryd.pinned.checked.prog.funcNamed Rows.indicPlaysRow.func = some f) (hfn : Tryd.pinned.checked.prog.funcs[f]? = some fn) :
    true = Tryd.pinned.checked.prog.looks [] ∧ ∀ (j : Nat) t, fn.params[j]? = some t → Tryd.pinned.checked.prog.wantsStandIn t = false := by
  obtain rfl : f = 3 := Option.some.inj ((show Tryd.prog.funcNamed Rows.indicPlaysRow.func = some 3 by kernel_rfl).symm.trans hf) |>.symm
  obtain rfl : fn = Tryd.f3 := (Option.some.inj (Tryd.func3.symm.trans hfn)).symm
  refine ⟨by kernel_rfl, fun j t ht => ?_⟩
  rw [Tryd.params3] at ht
  have hm : t = 22 ∨ t = 3 := by simpa using Array.mem_of_getElem? ht
  rcases hm with rfl | rfl
  · exact (show Tryd.prog.wantsStandIn 22 = false by kernel_rfl)
  · exact (show Tryd.prog.wantsStandIn 3 = false by kernel_rfl)
end Go.Proofs.YtkfmljokenclaabDoor.indicPlays
namespace Go.Proofs.YtkfmljokenclaabDoor
theorem indicPlays_card_holds : Rows.IndicPlaysCardSaid :=
  Claim7.holds_tied_plain_at .later [] _ _ _ _ indicPlays.said (fun _ h => by cases h) (by kernel_rfl) (fun _ h => by cases h) indicPlays_row_tie rfl ⟨rfl, rfl⟩ (by kernel_rfl) rfl indicPlays.plain (by kernel_rfl)
#print axioms indicPlays_card_holds
end Go.Proofs.YtkfmljokenclaabDoor
