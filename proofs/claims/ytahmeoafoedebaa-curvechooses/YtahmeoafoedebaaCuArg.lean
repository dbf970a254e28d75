/-
  An argument that is a list of orders, or of points, taken apart: they lie one behind the other from an address on, each number an int. No conditions beyond the reading itself.
-/
import Derived.Test.YtahmeoafoedebaaCuIn
import Derived.Test.YtahmeoafoedebaaScript
namespace Go.Proofs.Ytahmeoafoedebaa
open Go.ChangeShapes Go.WideShapes Go.ChangeAt Go.RowKit

def cuAllInt (P : Program) (fs : Array Field) : Bool := (List.range fs.size).all fun i => match fs[i]? with
  | some f => (match P.underlying f.type with | some (.int .i64) => true | _ => false)
  | none => false
theorem cuHint_of {P : Program} {fs : Array Field} (h : cuAllInt P fs = true) : ∀ (i : Nat) (f : Field), fs[i]? = some f → P.underlying f.type = some (.int .i64) := by
  intro i f hi
  have hlt : i < fs.size := (Array.getElem?_eq_some_iff.1 hi).1
  have := List.all_eq_true.1 h i (List.mem_range.2 hlt)
  simp only [hi] at this
  split at this
  · assumption
  · cases this
def wf64 (z : Int) : Prop := (Lit.int .i64 z).wf = true
/-- each number of an order is an int -/
def Ord.Wf (o : Ord) : Prop := wf64 o.id ∧ wf64 o.side ∧ wf64 o.kind ∧ wf64 o.price ∧ wf64 o.qty
def Pt.Wf (x : Pt) : Prop := wf64 x.price ∧ wf64 x.dem ∧ wf64 x.sup
theorem ords_open {H : Type} {enc : TypeId × Value → H} {W : World} {a0 : Option Addr} {len cap : Nat} {d : DataW H} {ps : List MemPlace} (h : DataW.Trod enc Try.prog W 0 (fun _ => true) true 38 (.slice a0 len cap) d ps) :
    ∃ l : List Ord, l.length = len ∧ OrdsIn W a0 l ∧ ∀ o ∈ l, o.Wf := by
  have h' := script_open Try.underlying38 Try.underlying43 (Deep.hone_of (by kernel_rfl)) (by kernel_rfl) (cuHint_of (by kernel_rfl)) (by decide) h
  rcases h' with rfl | ⟨b, off, X, rfl, hX⟩
  · exact ⟨[], rfl, fun k hk => by simp at hk, fun o ho => by cases ho⟩
  · have hX' : ∀ i, i < len → ∀ j, j < 5 → W.cell? ⟨b, off + i * 5 + j, none⟩ = some (.int .i64 (X i j)) ∧ (Lit.int .i64 (X i j)).wf = true := hX
    refine ⟨(List.range len).map fun i => ⟨X i 0, X i 1, X i 2, X i 3, X i 4⟩, by simp, fun k hk => ?_, fun o ho => ?_⟩
    · have hk' : k < len := by simpa using hk
      have e : oAt ((List.range len).map fun i => (⟨X i 0, X i 1, X i 2, X i 3, X i 4⟩ : Ord)) k = ⟨X k 0, X k 1, X k 2, X k 3, X k 4⟩ := by simp [oAt, hk']
      rw [e]
      exact ⟨b, off, rfl, (hX' k hk' 0 (by decide)).1, (hX' k hk' 1 (by decide)).1, (hX' k hk' 2 (by decide)).1, (hX' k hk' 3 (by decide)).1, (hX' k hk' 4 (by decide)).1⟩
    · obtain ⟨i, hi, rfl⟩ := List.mem_map.1 ho
      have hi' := List.mem_range.1 hi
      exact ⟨(hX' i hi' 0 (by decide)).2, (hX' i hi' 1 (by decide)).2, (hX' i hi' 2 (by decide)).2, (hX' i hi' 3 (by decide)).2, (hX' i hi' 4 (by decide)).2⟩
theorem pts_open {H : Type} {enc : TypeId × Value → H} {W : World} {a0 : Option Addr} {len cap : Nat} {d : DataW H} {ps : List MemPlace} (h : DataW.Trod enc Try.prog W 0 (fun _ => true) true 53 (.slice a0 len cap) d ps) :
    ∃ l : List Pt, l.length = len ∧ PtsIn W a0 l ∧ ∀ x ∈ l, x.Wf := by
  have h' := script_open Try.underlying53 Try.underlying59 (Deep.hone_of (by kernel_rfl)) (by kernel_rfl) (cuHint_of (by kernel_rfl)) (by decide) h
  rcases h' with rfl | ⟨b, off, X, rfl, hX⟩
  · exact ⟨[], rfl, fun k hk => by simp at hk, fun o ho => by cases ho⟩
  · have hX' : ∀ i, i < len → ∀ j, j < 3 → W.cell? ⟨b, off + i * 3 + j, none⟩ = some (.int .i64 (X i j)) ∧ (Lit.int .i64 (X i j)).wf = true := hX
    refine ⟨(List.range len).map fun i => ⟨X i 0, X i 1, X i 2⟩, by simp, fun k hk => ?_, fun o ho => ?_⟩
    · have hk' : k < len := by simpa using hk
      have e : ptAt ((List.range len).map fun i => (⟨X i 0, X i 1, X i 2⟩ : Pt)) k = ⟨X k 0, X k 1, X k 2⟩ := by simp [ptAt, hk']
      rw [e]
      exact ⟨b, off, rfl, (hX' k hk' 0 (by decide)).1, (hX' k hk' 1 (by decide)).1, (hX' k hk' 2 (by decide)).1⟩
    · obtain ⟨i, hi, rfl⟩ := List.mem_map.1 ho
      have hi' := List.mem_range.1 hi
      exact ⟨(hX' i hi' 0 (by decide)).2, (hX' i hi' 1 (by decide)).2, (hX' i hi' 2 (by decide)).2⟩
end Go.Proofs.Ytahmeoafoedebaa
