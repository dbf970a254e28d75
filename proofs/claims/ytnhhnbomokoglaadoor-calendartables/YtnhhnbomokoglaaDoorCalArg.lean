/-
  An argument that is a list of rows, taken apart: it has no row, or its rows lie in one block, each number an int (RowsAt, wfRows). No conditions beyond the reading itself.
-/
import Derived.Test.YtnhhnbomokoglaaDoorCalTab
import Derived.ProofKit
import Derived.OpenShut
import Derived.Deep.SlicePairs
namespace Go.Proofs.YtnhhnbomokoglaaDoor
open Go.ChangeShapes Go.WideShapes Go.ChangeAt Go.RowKit

theorem flat_inv {rs : List (Int × Int)} {j : Nat} {u : Value} (h : (flat rs)[j]? = some u) : ∃ i, i < rs.length ∧ ((j = i * 2 ∧ u = .int .i64 (rowAt rs i).1) ∨ (j = i * 2 + 1 ∧ u = .int .i64 (rowAt rs i).2)) := by
  have hj : j < (flat rs).length := (List.getElem?_eq_some_iff.1 h).1
  rw [flat_length] at hj
  refine ⟨j / 2, by omega, ?_⟩
  obtain ⟨h1, h2⟩ := flat_at rs (j / 2) (by omega)
  rcases Nat.mod_two_eq_zero_or_one j with hm | hm
  · have : j = j / 2 * 2 := by omega
    rw [← this, h] at h1
    exact Or.inl ⟨this, Option.some.inj h1⟩
  · have : j = j / 2 * 2 + 1 := by omega
    rw [← this, h] at h2
    exact Or.inr ⟨this, Option.some.inj h2⟩

theorem Tryd.cellsInt : Tryd.prog.cellsOf 3 = 1 := by kernel_rfl
theorem Tryd.cellsRow : Tryd.prog.cellsOf 52 = 2 := by kernel_rfl

theorem rows_open {H : Type} {enc : TypeId × Value → H} {W : World} {a0 : Option Addr} {len cap : Nat} {d : DataW H} {ps : List MemPlace} (h : DataW.Trod enc Tryd.prog W 0 (fun _ => true) true 33 (.slice a0 len cap) d ps) :
    len = 0 ∨ ∃ (b off : Nat) (rs : List (Int × Int)), a0 = some ⟨b, off, none⟩ ∧ rs.length = len ∧ RowsAt W b off rs ∧ wfRows rs := by
  obtain ⟨fuel, hf⟩ := h
  rcases Deep.open_slice_pairs Tryd.underlying33 Tryd.underlying52 Tryd.cellsRow rfl rfl Tryd.cellsInt Tryd.cellsInt hf with ⟨hcs, _⟩ | ⟨a, len', cap', m, n, V0, V1, D0, D1, P0, P1, hcs, _, hl, hm, hmm, _, hi⟩
  · simp [Value.cells] at hcs
    exact Or.inl hcs.2.1
  simp [Value.cells] at hcs
  obtain ⟨rfl, rfl, rfl⟩ := hcs
  simp only [if_true] at hmm
  subst hmm
  by_cases h0 : len = 0
  · exact Or.inl h0
  right
  obtain ⟨b, off, spot⟩ := a
  have hspot : spot = none := by simpa [Addr.add] using World.cell?_spot (hi 0 (by omega)).1
  subst hspot
  have each : ∀ i, i < len → ∃ x y : Int, V0 i = .int .i64 x ∧ V1 i = .int .i64 y ∧ (Lit.int .i64 x).wf = true ∧ (Lit.int .i64 y).wf = true := by
    intro i hil
    obtain ⟨_, _, t0, t1⟩ := hi i (by omega)
    obtain ⟨x, e1, _, w1⟩ := DataW.trod_int Tryd.underlying3 t0
    obtain ⟨y, e2, _, w2⟩ := DataW.trod_int Tryd.underlying3 t1
    exact ⟨x, y, by simpa using e1, by simpa using e2, w1, w2⟩
  let rs : List (Int × Int) := (List.range len).map fun i => (intOf (V0 i), intOf (V1 i))
  have hlen : rs.length = len := by simp [rs]
  have hrow : ∀ i, i < len → rowAt rs i = (intOf (V0 i), intOf (V1 i)) := fun i hil => by simp [rs, rowAt, hil]
  refine ⟨b, off, rs, rfl, hlen, fun j u hj => ?_, fun i hil => ?_⟩
  · obtain ⟨i, hil, hh⟩ := flat_inv hj
    rw [hlen] at hil
    obtain ⟨x, y, e1, e2, _, _⟩ := each i hil
    obtain ⟨c0, c1, _, _⟩ := hi i (by omega)
    rw [add_plain] at c0 c1
    rw [hrow i hil] at hh
    rcases hh with ⟨rfl, rfl⟩ | ⟨rfl, rfl⟩
    · rw [c0, e1]; rfl
    · rw [c1, e2]; rfl
  · rw [hlen] at hil
    obtain ⟨x, y, e1, e2, w1, w2⟩ := each i hil
    rw [hrow i hil, e1, e2]
    exact ⟨w1, w2⟩
end Go.Proofs.YtnhhnbomokoglaaDoor
