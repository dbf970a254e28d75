/-
  Proved: whatever the orders, the order that comes and the two prices are, the law CrossMeets returns true and leaves its arguments as they were (whom an order meets, and where it is stopped, is as chapter 8 of the document says). Condition of the row: the package variable errors.errorType reads as the program's text lays it; the card ties it to the program's own initialisers (the translator's report, over a pruned copy of the project).
-/
import Derived.Test.YtcoijhofliilmabGreatDoorGS
import Derived.Test.YtcoijhofliilmabGreatDoorCards
import Derived.Test.YtcoijhofliilmabGreatDoorTie
import Derived.ProofKit
import Derived.OpenShut
import Derived.ChangeVars
import Derived.Deep.Fields
import Derived.Deep.DeepHandedRow
import Derived.SevenTiedAt
namespace Go.Proofs.YtcoijhofliilmabGreatDoor.crossMeets
open Go.ChangeShapes Go.WideShapes Go.ChangeAt Go.RowKit Go.Deep

set_option maxRecDepth 100000 in
set_option maxHeartbeats 400000 in
theorem walk_long (a : Option Addr) (n cap : Nat) (o : Ord) (p q : Int) (w : World) (hn : 100 < n) :
    Calls Tryz.prog 4 #[.slice a n cap, .agg #[.int .i64 o.id, .int .i64 o.side, .int .i64 o.kind, .int .i64 o.price, .int .i64 o.qty], .int .i64 p, .int .i64 q] w fun e w' => e = .returned (.bool true) ∧ Below w.heap.size w w' := by
  have k1 : decide ((n : Int) > 100) = true := decide_eq_true (by omega)
  go_enter Tryz.func4, Tryz.ntmps4
  go_wp2_with fail
  go_ret
  exact ⟨rfl, (((Below.refl _ _).alloc (Nat.le_refl _) _).alloc (by simp) _).alloc (by simp; omega) _⟩
set_option maxRecDepth 100000 in
set_option maxHeartbeats 400000 in
theorem walk_side (a : Option Addr) (n cap : Nat) (o : Ord) (p q : Int) (w : World) (hn : ¬ 100 < n) (h1 : o.side ≠ 1) (h2 : o.side ≠ 2) :
    Calls Tryz.prog 4 #[.slice a n cap, .agg #[.int .i64 o.id, .int .i64 o.side, .int .i64 o.kind, .int .i64 o.price, .int .i64 o.qty], .int .i64 p, .int .i64 q] w fun e w' => e = .returned (.bool true) ∧ Below w.heap.size w w' := by
  have k1 : decide ((n : Int) > 100) = false := decide_eq_false (by omega)
  have e1 : (o.side != 1) = true := bne_iff_ne.2 h1
  have e2 : (o.side != 2) = true := bne_iff_ne.2 h2
  clear h1 h2
  go_enter Tryz.func4, Tryz.ntmps4
  go_wp2_with fail
  go_ret
  exact ⟨rfl, (((Below.refl _ _).alloc (Nat.le_refl _) _).alloc (by simp) _).alloc (by simp; omega) _⟩
theorem walk (a : Option Addr) (n cap : Nat) (o : Ord) (p q : Int) (w : World) (h : ∃ l : List Ord, l.length = n ∧ LdIn w a l ∧ ∀ o ∈ l, (Lit.int .i64 o.id).wf = true) (hq : -9223372036854775808 ≤ o.qty ∧ o.qty ≤ 9223372036854775807) (hg : ErrT w) :
    Calls Tryz.prog 4 #[.slice a n cap, .agg #[.int .i64 o.id, .int .i64 o.side, .int .i64 o.kind, .int .i64 o.price, .int .i64 o.qty], .int .i64 p, .int .i64 q] w fun e w' => e = .returned (.bool true) ∧ Below w.heap.size w w' := by
  by_cases hn : 100 < n
  · exact walk_long a n cap o p q w hn
  by_cases h1 : o.side = 1
  · obtain ⟨l, rfl, h3, h4⟩ := h
    exact meets_walk a cap l o p q w h3 (by omega) hg h4 (Or.inl h1) hq
  by_cases h2 : o.side = 2
  · obtain ⟨l, rfl, h3, h4⟩ := h
    exact meets_walk a cap l o p q w h3 (by omega) hg h4 (Or.inr h2) hq
  exact walk_side a n cap o p q w hn h1 h2

theorem Tryz.cellsI : Tryz.prog.cellsOf 3 = 1 := by kernel_rfl
theorem Tryz.cellsO : Tryz.prog.cellsOf 40 = 5 := by kernel_rfl
/-- one cell that is a whole number -/
theorem int_cell {H : Type} {enc : TypeId × Value → H} {W : World} {fuel k : Nat} {cs : List Value} {y : DataW H × List MemPlace} (hk : k < cs.length) (g : DataW.trod enc Tryz.prog W 0 (fun _ => true) true fuel 3 ((cs.drop k).take (Tryz.prog.cellsOf 3)) = some y) : ∃ z, cs[k]? = some (.int .i64 z) ∧ (Lit.int .i64 z).wf = true := by
  rw [Tryz.cellsI, take1_drop cs k undef hk] at g
  obtain ⟨z, e1, _, w1⟩ := DataW.trod_int Tryz.underlying3 g
  simp only [List.cons.injEq, and_true] at e1
  rw [List.getD_eq_getElem?_getD, List.getElem?_eq_getElem hk, Option.getD_some] at e1
  exact ⟨z, by rw [List.getElem?_eq_getElem hk, e1], w1⟩
theorem some_of {α : Type} {l : List α} {n k : Nat} (h : l.length = n) (hk : k < n) : ∃ y, l[k]? = some y := ⟨l[k]'(by omega), List.getElem?_eq_getElem (by omega)⟩
theorem five {l : List Value} {a b c d e : Value} (h : l.length = 5) (i0 : l[0]? = some a) (i1 : l[1]? = some b) (i2 : l[2]? = some c) (i3 : l[3]? = some d) (i4 : l[4]? = some e) : l = [a, b, c, d, e] := by
  refine List.ext_getElem? (fun k => ?_)
  match k with
  | 0 => rw [i0]; rfl
  | 1 => rw [i1]; rfl
  | 2 => rw [i2]; rfl
  | 3 => rw [i3]; rfl
  | 4 => rw [i4]; rfl
  | k + 5 => rw [List.getElem?_eq_none (by omega), List.getElem?_eq_none (by simp)]
/-- an argument that is an order, taken apart -/
theorem order_open {H : Type} {enc : TypeId × Value → H} {W : World} {cs : Array Value} {d : DataW H} {ps : List MemPlace} (hc : cs.size = 5) (h : DataW.Trod enc Tryz.prog W 0 (fun _ => true) true 40 (.agg cs) d ps) :
    ∃ o : Ord, cs = #[.int .i64 o.id, .int .i64 o.side, .int .i64 o.kind, .int .i64 o.price, .int .i64 o.qty] ∧ (Lit.int .i64 o.qty).wf = true := by
  obtain ⟨fuel, hf⟩ := h
  obtain ⟨xs2, n2, _, _, _, hxl2, hfl2⟩ := DataW.trod_struct Tryz.underlying40 hf
  have hx5 : xs2.length = 5 := hxl2
  obtain ⟨l⟩ := cs
  have hl5 : l.length = 5 := hc
  obtain ⟨z0, u0⟩ := some_of hx5 (k := 0) (by decide)
  obtain ⟨z1, u1⟩ := some_of hx5 (k := 1) (by decide)
  obtain ⟨z2, u2⟩ := some_of hx5 (k := 2) (by decide)
  obtain ⟨z3, u3⟩ := some_of hx5 (k := 3) (by decide)
  obtain ⟨z4, u4⟩ := some_of hx5 (k := 4) (by decide)
  obtain ⟨y0, i0, _⟩ := int_cell (cs := l) (k := 0) (by omega) ((hfl2 0 _ rfl).trans u0)
  obtain ⟨y1, i1, _⟩ := int_cell (cs := l) (k := 1) (by omega) ((hfl2 1 _ rfl).trans u1)
  obtain ⟨y2, i2, _⟩ := int_cell (cs := l) (k := 2) (by omega) ((hfl2 2 _ rfl).trans u2)
  obtain ⟨y3, i3, _⟩ := int_cell (cs := l) (k := 3) (by omega) ((hfl2 3 _ rfl).trans u3)
  obtain ⟨y4, i4, w4⟩ := int_cell (cs := l) (k := 4) (by omega) ((hfl2 4 _ rfl).trans u4)
  refine ⟨⟨y0, y1, y2, y3, y4⟩, ?_, w4⟩
  rw [five hl5 i0 i1 i2 i3 i4]

theorem laidOut : laidOutB Tryz.prog = true := by kernel_rfl

theorem laid_met (os : Os) : laidMetH Tryz.prog Rows.crossMeetsRow.laid ((withErrT (World.holding Tryz.prog os ⟨#[], #[], []⟩)).forCall (fun _ _ => 0) ⟨#[], #[.slice none 0 0, .agg #[.int .i64 0, .int .i64 0, .int .i64 0, .int .i64 0, .int .i64 0], .int .i64 0, .int .i64 0], []⟩).memory :=
  laidMetH_of_parts (laidMet_nil _ _) (by kernel_rfl)
theorem reads (os : Os) {H : Type} (enc : TypeId × Value → H) : ∃ places, DataW.whole enc Tryz.prog ((withErrT (World.holding Tryz.prog os ⟨#[], #[], []⟩)).forCall (fun _ _ => 0) ⟨#[], #[.slice none 0 0, .agg #[.int .i64 0, .int .i64 0, .int .i64 0, .int .i64 0, .int .i64 0], .int .i64 0, .int .i64 0], []⟩).memory Tryz.f4.params.toList Rows.crossMeetsSpec.vars false #[Value.slice none 0 0, Value.agg #[.int .i64 0, .int .i64 0, .int .i64 0, .int .i64 0, .int .i64 0], Value.int .i64 0, Value.int .i64 0].toList 8 = some ([.nil, .agg [.lit (.int .i64 0), .lit (.int .i64 0), .lit (.int .i64 0), .lit (.int .i64 0), .lit (.int .i64 0)], .lit (.int .i64 0), .lit (.int .i64 0)], [], places) :=
  ⟨[], by kernel_rfl⟩

set_option maxRecDepth 100000 in
theorem contract (H : Type) (enc : TypeId × Value → H) (W : World) (base : Nat) (args : Array Value) (ds gs : List (DataW H)) (before : List MemPlace)
    (hval : ∀ (j : Nat) t v, Tryz.f4.params[j]? = some t → args[j]? = some v → Value.okWide Tryz.prog W .any base t v)
    (hW : DataW.Whole enc Tryz.prog Tryz.f4.params.toList Rows.crossMeetsSpec.vars false W args.toList ds gs before) (hL : laidMetH Tryz.prog Rows.crossMeetsRow.laid W) :
    Calls Tryz.prog 4 args W fun e W' => ∃ v, e = .returned v ∧ Rows.crossMeetsSpec.post enc Tryz.prog Tryz.f4 false true false false W args v W' := by
  have hW' := hW
  obtain ⟨p, q, hA0, hV, rfl, hfz, hnd⟩ := hW
  have hA : DataW.TrodAll enc Tryz.prog W 0 (fun _ => true) true Tryz.f4.params.toList args.toList ds p := hA0
  rw [Tryz.params4] at hA hval
  obtain ⟨v0, vs0, d0, ds0, p0, q0, hargs, rfl, rfl, h0, r0⟩ := trodAll_cons hA
  obtain ⟨v1, vs1, d1, ds1, p1, q1, rfl, rfl, rfl, h1, r1⟩ := trodAll_cons r0
  obtain ⟨v2, vs2, d2, ds2, p2, q2, rfl, rfl, rfl, h2, r2⟩ := trodAll_cons r1
  obtain ⟨v3, vs3, d3, ds3, p3, q3, rfl, rfl, rfl, h3, r3⟩ := trodAll_cons r2
  obtain ⟨rfl, rfl, rfl⟩ := trodAll_nil r3
  obtain rfl : args = #[v0, v1, v2, v3] := by cases args; simp_all
  obtain ⟨rfl, rfl⟩ := trodVars_none hV
  obtain ⟨a0, len, cap, rfl⟩ := okWide_slice Tryz.underlying22 (hval 0 22 v0 rfl rfl)
  obtain ⟨cs, rfl, hcs⟩ := okWide_struct Tryz.underlying40 (hval 1 40 v1 rfl rfl)
  rw [Tryz.cellsO] at hcs
  obtain ⟨a2, rfl, rfl, rfl, w2⟩ := open_int Tryz.underlying3 (hval 2 3 v2 rfl rfl) h2
  obtain ⟨a3, rfl, rfl, rfl, w3⟩ := open_int Tryz.underlying3 (hval 3 3 v3 rfl rfl) h3
  obtain ⟨o, rfl, wq⟩ := order_open hcs h1
  clear hA0
  simp only [List.append_nil] at hW'
  have hlt : ∀ x ∈ p0, x.block < W.heap.size := fun x hx => hW'.lt x (List.mem_append_left _ hx)
  have hlt1 : ∀ x ∈ p1, x.block < W.heap.size := fun x hx => hW'.lt x (List.mem_append_right _ (by simpa using hx))
  refine (walk a0 len cap o a2 a3 W (ld_open h0) (bounds_i64 wq) (errT_of_laid hL)).mono fun e W' ⟨he, hb⟩ => ?_
  subst he
  refine ⟨_, rfl, _, _, _, [], p0 ++ (p1 ++ ([] ++ ([] ++ []))), [], hW', ?_, ?_, ?_, hb.frame _, fun h => by cases h⟩
  · exact trodAll_cons_mk (shut_bool Tryz.underlying4 _) trodAll_mk0
  · exact trodAll_cons_mk (Below.trod laidOut (by kernel_rfl) (of_decide_eq_true (by kernel_rfl)) h0 hb hlt) (trodAll_cons_mk (Below.trod laidOut (by kernel_rfl) (of_decide_eq_true (by kernel_rfl)) h1 hb hlt1) (trodAll_cons_mk (shut_int Tryz.underlying3 w2) (trodAll_cons_mk (shut_int Tryz.underlying3 w3) trodAll_mk0)))
  · rfl

set_option maxRecDepth 100000 in
theorem lifted (os : Os) (started : os.Started) (H : Type) (enc : TypeId × Value → H) (F : Stop.Interp) :
    ReturnsInHanded {} Tryz.checked os 4 .any ((OpenSpec.ofChange Rows.crossMeetsSpec).preRow enc Tryz.prog Tryz.f4 Rows.crossMeetsRow.domain false Rows.crossMeetsRow.laid) (((OpenSpec.ofChange Rows.crossMeetsSpec).at F).post enc Tryz.prog Tryz.f4 false true false false) := by
  obtain ⟨places, hx⟩ := reads os enc
  refine returnsInHanded_of_row (C := Tryz.checked) (s := OpenSpec.ofChange Rows.crossMeetsSpec) Tryz.own started (by kernel_rfl) Tryz.func4
    (witness_row_at (enc := enc) (C := Tryz.checked) false (withErrT (World.holding Tryz.prog os ⟨#[], #[], []⟩)) #[.slice none 0 0, .agg #[.int .i64 0, .int .i64 0, .int .i64 0, .int .i64 0, .int .i64 0], .int .i64 0, .int .i64 0] rfl (by kernel_rfl) (by kernel_rfl) (by kernel_rfl)
      (OpenSpec.preRow_of_cond 8 hx (by kernel_rfl) (fun k hk => by cases hk) (by kernel_rfl) (laid_met os))) ?_
  intro W base args ds gs before hval hW _ _ _ hL _ _
  exact contract H enc W base args ds gs before hval hW hL

theorem said : Rows.CrossMeetsSaid :=
  OpenClaim.holds_of_cond 4 Tryz.f4 rfl rfl rfl rfl rfl rfl rfl ⟨rfl, rfl, rfl, rfl, rfl⟩ rfl rfl rfl rfl rfl (by kernel_rfl) Tryz.func4 (by kernel_rfl)
    (of_decide_eq_true (by kernel_rfl)) (by unfold Func.isWrapper; first | (rw [if_pos (by decide +kernel)]; kernel_rfl) | (rw [if_neg (by decide +kernel)]; exact ⟨rfl, rfl⟩))
    (fun os started H enc _ F => by rw [OpenClaim.pre_eq_preRow]; exact lifted os started H enc F)

theorem plain (f : FuncId) (fn : Func) (hf : Tryz.pinned.checked.prog.funcNamed Rows.crossMeetsRow.func = some f) (hfn : Tryz.pinned.checked.prog.funcs[f]? = some fn) :
    true = Tryz.pinned.checked.prog.looks [] ∧ ∀ (j : Nat) t, fn.params[j]? = some t → Tryz.pinned.checked.prog.wantsStandIn t = false := by
  obtain rfl : f = 4 := Option.some.inj ((show Tryz.prog.funcNamed Rows.crossMeetsRow.func = some 4 by kernel_rfl).symm.trans hf) |>.symm
  obtain rfl : fn = Tryz.f4 := (Option.some.inj (Tryz.func4.symm.trans hfn)).symm
  refine ⟨by kernel_rfl, fun j t ht => ?_⟩
  rw [Tryz.params4] at ht
  have hm : t = 22 ∨ t = 40 ∨ t = 3 := by simpa using Array.mem_of_getElem? ht
  rcases hm with rfl | rfl | rfl
  · exact (show Tryz.prog.wantsStandIn 22 = false by kernel_rfl)
  · exact (show Tryz.prog.wantsStandIn 40 = false by kernel_rfl)
  · exact (show Tryz.prog.wantsStandIn 3 = false by kernel_rfl)
end Go.Proofs.YtcoijhofliilmabGreatDoor.crossMeets
namespace Go.Proofs.YtcoijhofliilmabGreatDoor
theorem crossMeets_card_holds : Rows.CrossMeetsCardSaid :=
  Claim7.holds_tied_plain_at .later [] _ _ _ _ crossMeets.said (fun _ h => by cases h) (by kernel_rfl) (fun _ h => by cases h) crossMeets_row_tie rfl ⟨rfl, rfl⟩ (by kernel_rfl) rfl crossMeets.plain (by kernel_rfl)
#print axioms crossMeets_card_holds
end Go.Proofs.YtcoijhofliilmabGreatDoor
