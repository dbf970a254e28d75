/-
  Proved: whatever the two lists of orders and the whole number are, the law BookGone returns true and leaves its arguments as they were (behind orders that are added, and cancelled in whichever order, the book is what it was). No conditions beyond those of the row itself.
-/
import Derived.Test.YtcpijeehgdbjbaaPbGone
import Derived.Test.YtcpijeehgdbjbaaScript
import Derived.ProofKit
import Derived.OpenShut
namespace Go.Proofs.Ytcpijeehgdbjbaa.bookGone
open Go.ChangeShapes Go.WideShapes Go.ChangeAt Go.RowKit

def allInt (P : Program) (fs : Array Field) : Bool := (List.range fs.size).all fun i => match fs[i]? with
  | some f => (match P.underlying f.type with | some (.int .i64) => true | _ => false)
  | none => false
theorem hint_of {P : Program} {fs : Array Field} (h : allInt P fs = true) : ∀ (i : Nat) (f : Field), fs[i]? = some f → P.underlying f.type = some (.int .i64) := by
  intro i f hi
  have hlt : i < fs.size := (Array.getElem?_eq_some_iff.1 hi).1
  have := List.all_eq_true.1 h i (List.mem_range.2 hlt)
  simp only [hi] at this
  split at this
  · assumption
  · cases this

set_option maxHeartbeats 400000 in
theorem walk_long1 (a1 a2 : Option Addr) (n1 n2 c1 c2 : Nat) (turn : Int) (w : World) (hn : 40 < n1) :
    Calls Try.prog 6 #[.slice a1 n1 c1, .slice a2 n2 c2, .int .i64 turn] w fun e w' => e = .returned (.bool true) ∧ Below w.heap.size w w' := by
  have k1 : decide ((n1 : Int) > 40) = true := decide_eq_true (by omega)
  go_enter Try.func6, Try.ntmps6
  go_wp2_with fail
  go_ret
  exact ⟨rfl, Below.refl _ _⟩
set_option maxHeartbeats 400000 in
theorem walk_long2 (a1 a2 : Option Addr) (n1 n2 c1 c2 : Nat) (turn : Int) (w : World) (hn1 : ¬ 40 < n1) (hn : 40 < n2) :
    Calls Try.prog 6 #[.slice a1 n1 c1, .slice a2 n2 c2, .int .i64 turn] w fun e w' => e = .returned (.bool true) ∧ Below w.heap.size w w' := by
  have k1 : decide ((n1 : Int) > 40) = false := decide_eq_false (by omega)
  have k2 : decide ((n2 : Int) > 40) = true := decide_eq_true (by omega)
  go_enter Try.func6, Try.ntmps6
  go_wp2_with fail
  go_ret
  exact ⟨rfl, Below.refl _ _⟩
theorem walk (a1 a2 : Option Addr) (n1 n2 c1 c2 : Nat) (turn : Int) (w : World) (h1 : ∃ X, Giv w a1 n1 X) (h2 : ∃ X, Giv w a2 n2 X) :
    Calls Try.prog 6 #[.slice a1 n1 c1, .slice a2 n2 c2, .int .i64 turn] w fun e w' => e = .returned (.bool true) ∧ Below w.heap.size w w' := by
  by_cases hn1 : 40 < n1
  · exact walk_long1 a1 a2 n1 n2 c1 c2 turn w hn1
  by_cases hn2 : 40 < n2
  · exact walk_long2 a1 a2 n1 n2 c1 c2 turn w hn1 hn2
  obtain ⟨X1, h1⟩ := h1
  obtain ⟨X2, h2⟩ := h2
  exact gone_walk a1 a2 n1 n2 c1 c2 X1 X2 turn w h1 h2 (by omega) (by omega)

theorem own : ownKnob Try.prog.godebug = none := by kernel_rfl
theorem laidOut : laidOutB Try.prog = true := by kernel_rfl
theorem giv_open {H : Type} {enc : TypeId × Value → H} {W : World} {a0 : Option Addr} {len cap : Nat} {d : DataW H} {ps : List MemPlace} (h : DataW.Trod enc Try.prog W 0 (fun _ => true) true 38 (.slice a0 len cap) d ps) :
    ∃ X, Giv W a0 len X := by
  have hX : len = 0 ∨ ∃ (b off : Nat) (X : Nat → Nat → Int), a0 = some ⟨b, off, none⟩ ∧ ∀ i, i < len → ∀ j, j < 5 → W.cell? ⟨b, off + i * 5 + j, none⟩ = some (.int .i64 (X i j)) ∧ (Lit.int .i64 (X i j)).wf = true :=
    script_open Try.underlying38 Try.underlying43 (Deep.hone_of (by kernel_rfl)) (by kernel_rfl) (hint_of (by kernel_rfl)) (by decide) h
  rcases hX with rfl | ⟨b, off, X, rfl, hX⟩
  · exact ⟨fun _ => Ord.none_, Or.inl rfl, fun i hi => absurd hi (by omega)⟩
  · refine ⟨fun i => ⟨X i 0, X i 1, X i 2, X i 3, X i 4⟩, Or.inr ⟨b, off, rfl, fun i hi => ?_⟩, fun i hi => (hX i hi 0 (by decide)).2⟩
    exact ⟨(hX i hi 0 (by decide)).1, (hX i hi 1 (by decide)).1, (hX i hi 2 (by decide)).1, (hX i hi 3 (by decide)).1, (hX i hi 4 (by decide)).1⟩

set_option maxRecDepth 100000 in
theorem lifted (os : Os) (started : os.Started) (H : Type) (enc : TypeId × Value → H) :
    ReturnsInHanded {} Try.checked os 6 .any (Rows.bookGoneSpec.pre6 enc Try.prog Try.f6 Rows.bookGoneRow.domain false) (Rows.bookGoneSpec.post enc Try.prog Try.f6 false true false false) := by
  refine returnsInHanded_of_change (C := Try.checked) own started (by kernel_rfl) Try.func6
    (ChangeSpec.witness6 (enc := enc) (C := Try.checked) false ⟨#[], #[.slice none 0 0, .slice none 0 0, .int .i64 0], []⟩ 8 (by kernel_rfl) (by kernel_rfl) (by kernel_rfl) (by kernel_rfl)) ?_
  intro W base args ds gs before hval0 hW hcnd _
  have hval : ∀ (j : Nat) t v, Try.f6.params[j]? = some t → args[j]? = some v → Value.okWide Try.prog W .any base t v := hval0
  have hW' := hW
  obtain ⟨p, q, hA0, hV, rfl, hfz, hnd⟩ := hW
  have hA : DataW.TrodAll enc Try.prog W 0 (fun _ => true) true Try.f6.params.toList args.toList ds p := hA0
  rw [Try.params6] at hA hval
  obtain ⟨v0, vs0, d0, ds0, p0, q0, hargs, rfl, rfl, h0, r0⟩ := trodAll_cons hA
  obtain ⟨v1, vs1, d1, ds1, p1, q1, rfl, rfl, rfl, h1, r1⟩ := trodAll_cons r0
  obtain ⟨v2, vs2, d2, ds2, p2, q2, rfl, rfl, rfl, h2, r2⟩ := trodAll_cons r1
  obtain ⟨rfl, rfl, rfl⟩ := trodAll_nil r2
  obtain rfl : args = #[v0, v1, v2] := by cases args; simp_all
  obtain ⟨rfl, rfl⟩ := trodVars_none hV
  obtain ⟨a0, len, cap, rfl⟩ := okWide_slice Try.underlying38 (hval 0 38 v0 rfl rfl)
  obtain ⟨a1, len1, cap1, rfl⟩ := okWide_slice Try.underlying38 (hval 1 38 v1 rfl rfl)
  obtain ⟨a2, rfl, rfl, rfl, w2⟩ := open_int Try.underlying3 (hval 2 3 v2 rfl rfl) h2
  clear hA0 hval0
  simp only [List.append_nil] at hW'
  have hlt0 : ∀ x ∈ p0, x.block < W.heap.size := fun x hx => hW'.lt x (by simp [hx])
  have hlt1 : ∀ x ∈ p1, x.block < W.heap.size := fun x hx => hW'.lt x (by simp [hx])
  refine (walk a0 a1 len len1 cap cap1 a2 W (giv_open h0) (giv_open h1)).mono fun e W' ⟨he, hb⟩ => ?_
  subst he
  refine ⟨_, rfl, _, _, _, [], p0 ++ (p1 ++ ([] ++ [])), [], hW', ?_, ?_, ?_, hb.frame _, fun h => by cases h⟩
  · exact trodAll_cons_mk (shut_bool Try.underlying4 _) trodAll_mk0
  · exact trodAll_cons_mk (Below.trod laidOut (by kernel_rfl) (of_decide_eq_true (by kernel_rfl)) h0 hb hlt0) (trodAll_cons_mk (Below.trod laidOut (by kernel_rfl) (of_decide_eq_true (by kernel_rfl)) h1 hb hlt1) (trodAll_cons_mk (shut_int Try.underlying3 w2) trodAll_mk0))
  · rfl

theorem over : Rows.bookGoneRow.holds Try.pinned (OpenSpec.ofChange Rows.bookGoneSpec) :=
  OpenClaim.holds_of_wide 6 Try.f6 rfl rfl rfl rfl rfl rfl rfl ⟨rfl, rfl, rfl, rfl, rfl⟩ rfl rfl rfl rfl rfl (by kernel_rfl) Try.func6 (by kernel_rfl)
    (of_decide_eq_true (by kernel_rfl)) (by unfold Func.isWrapper; first | (rw [if_pos (by decide +kernel)]; kernel_rfl) | (rw [if_neg (by decide +kernel)]; exact ⟨rfl, rfl⟩))
    (fun os started H enc _ => lifted os started H enc)

end Go.Proofs.Ytcpijeehgdbjbaa.bookGone
namespace Go.Proofs.Ytcpijeehgdbjbaa
theorem bookGone_holds : Rows.BookGoneSaid := bookGone.over
#print axioms bookGone_holds
end Go.Proofs.Ytcpijeehgdbjbaa
