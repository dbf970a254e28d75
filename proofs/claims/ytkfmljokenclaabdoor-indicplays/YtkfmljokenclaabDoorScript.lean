/-
  An argument that is a list of structs of whole numbers, taken apart: it has no element, or all lie in one block, each number an int. No conditions beyond the reading itself.
-/
import Derived.Test.YtkfmljokenclaabDoorRows
import Derived.ProofKit
import Derived.OpenShut
import Derived.Deep.Fields
namespace Go.Proofs.YtkfmljokenclaabDoor
open Go.ChangeShapes Go.WideShapes Go.ChangeAt Go.RowKit Go.Deep

theorem script_open {H : Type} {enc : TypeId × Value → H} {P : Program} {W : World} {t e : TypeId} {fs : Array Field} {a0 : Option Addr} {len cap : Nat} {d : DataW H} {ps : List MemPlace} (ht : P.underlying t = some (.slice e)) (hs : P.underlying e = some (.struct fs))
    (hone : ∀ (i : Nat) (f : Field), fs[i]? = some f → f.offset = i ∧ P.cellsOf f.type = 1) (hC : P.cellsOf e = fs.size) (hint : ∀ (i : Nat) (f : Field), fs[i]? = some f → P.underlying f.type = some (.int .i64)) (hpos : 0 < fs.size)
    (h : DataW.Trod enc P W 0 (fun _ => true) true t (.slice a0 len cap) d ps) :
    len = 0 ∨ ∃ (b off : Nat) (X : Nat → Nat → Int), a0 = some ⟨b, off, none⟩ ∧ ∀ i, i < len → ∀ j, j < fs.size → W.cell? ⟨b, off + i * fs.size + j, none⟩ = some (.int .i64 (X i j)) ∧ (Lit.int .i64 (X i j)).wf = true := by
  obtain ⟨fuel, hf⟩ := h
  rcases open_slice ht hf with ⟨hcs, _⟩ | ⟨a, len', cap', m, n, D, Pl, hcs, _, hl, _, hmm, _, hi⟩
  · simp [Value.cells] at hcs
    exact Or.inl hcs.2.1
  simp [Value.cells] at hcs
  obtain ⟨rfl, rfl, rfl⟩ := hcs
  simp only [if_true] at hmm
  subst hmm
  by_cases h0 : len = 0
  · exact Or.inl h0
  right
  obtain ⟨b, off, spot⟩ := a
  have each : ∀ i, i < len → ∃ f : Nat → Int, ∀ j, j < fs.size → W.cell? (((⟨b, off, spot⟩ : Addr).add (i * fs.size)).add j) = some (.int .i64 (f j)) ∧ (Lit.int .i64 (f j)).wf = true := by
    intro i hil
    obtain ⟨cs, hc, ht'⟩ := hi i (by omega)
    obtain ⟨_, hlen, hcell⟩ := World.cells?_some hc
    rw [hC] at hlen hcell
    obtain ⟨xs, n', _, _, _, hxl, hfl⟩ := DataW.trod_struct hs ht'
    refine choose_lt (p := fun j z => W.cell? (((⟨b, off, spot⟩ : Addr).add (i * fs.size)).add j) = some (.int .i64 z) ∧ (Lit.int .i64 z).wf = true) fun j hj => ?_
    have hfj : fs[j]? = some fs[j] := Array.getElem?_eq_getElem hj
    obtain ⟨ho, hc1⟩ := hone j _ hfj
    have g := hfl j _ hfj
    rw [ho, hc1, take1_drop cs j undef (by omega), List.getElem?_eq_getElem (by omega)] at g
    obtain ⟨z, e1, _, w1⟩ := DataW.trod_int (hint j _ hfj) g
    have h1 := hcell j hj
    rw [List.getElem?_eq_getElem (by omega)] at h1
    simp only [List.cons.injEq, and_true] at e1
    rw [List.getD_eq_getElem?_getD, List.getElem?_eq_getElem (by omega), Option.getD_some] at e1
    exact ⟨z, by rw [h1, e1], w1⟩
  obtain ⟨X, hX⟩ := choose_lt (p := fun i (f : Nat → Int) => ∀ j, j < fs.size → W.cell? (((⟨b, off, spot⟩ : Addr).add (i * fs.size)).add j) = some (.int .i64 (f j)) ∧ (Lit.int .i64 (f j)).wf = true) each
  have hspot : spot = none := by simpa [Addr.add] using World.cell?_spot (hX 0 (by omega) 0 hpos).1
  subst hspot
  refine ⟨b, off, X, rfl, fun i hil j hj => ?_⟩
  have := hX i hil j hj
  rwa [add_plain, add_plain] at this
end Go.Proofs.YtkfmljokenclaabDoor
