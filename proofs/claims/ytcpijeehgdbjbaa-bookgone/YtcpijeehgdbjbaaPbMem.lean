/-
  The map of places of the program's book, and the book itself, in memory, over this seat's translation, told by the plain lists of PbSl. Conditions stand in each theorem.
-/
import Derived.Test.YtcpijeehgdbjbaaPbArT
import Derived.Maps.OwnSet
namespace Go.Proofs.Ytcpijeehgdbjbaa
open Go.RowKit Go.Maps

def plE (k a s : Int) : DataW Unit := .agg [.lit (.int .i64 k), .lit (.int .i64 a), .lit (.int .i64 s)]
/-- what a place reads as -/
def plR (v : Value) : Option (DataW Unit × List MemPlace) :=
  match v with
  | .agg ⟨[.int .i64 k, .int .i64 a, .int .i64 s]⟩ => some (plE k a s, [])
  | _ => none
theorem plR_mk (k a s : Int) : plR (.agg #[.int .i64 k, .int .i64 a, .int .i64 s]) = some (plE k a s, []) := rfl
theorem plR_inv {v : Value} {k a s : Int} {ps : List MemPlace} (h : plR v = some (plE k a s, ps)) : v = .agg #[.int .i64 k, .int .i64 a, .int .i64 s] := by
  unfold plR at h
  split at h
  · simp only [plE, Option.some.injEq, Prod.mk.injEq, DataW.agg.injEq, List.cons.injEq, DataW.lit.injEq, Lit.int.injEq, true_and, and_true] at h
    obtain ⟨⟨rfl, rfl, rfl⟩, _⟩ := h
    rfl
  · cases h
theorem Try.keyI : Maps.Keyed Try.prog 3 := Maps.int_keyed Try.underlying3
theorem Try.keyAt {a : Int} (h : (Lit.int .i64 a).wf = true) : keyOf Try.prog 3 (.int .i64 a) = some (.int .i64 a) := Maps.keyOf_int_mk Try.underlying3 h
theorem Try.zeroPl (w : World) : (zeroValue 78).run Try.prog w = .ok (.agg #[.int .i64 0, .int .i64 0, .int .i64 0]) w := by kernel_rfl
theorem lit_inj {a b : Int} (h : Lit.int .i64 a = Lit.int .i64 b) : a = b := by injection h
theorem isKey (a : Int) : WideAt.IsKeyLit (.int .i64 a) := trivial

/-- In w block mb is the map of the places of all that lie. -/
def PlMap (w : World) (mb n : Nat) (S : Nat → List Ly) : Prop :=
  ∃ D : DataW Unit, w.ownsMap Try.prog 3 plR mb n D ∧ (∀ s, s < 2 → ∀ x ∈ S s, Maps.has D (.int .i64 x.o.id) = true ∧ ∀ z, D.atKey (.int .i64 x.o.id) z = plE x.slot x.age s)
    ∧ ∀ id : Int, (∀ s, s < 2 → ∀ x ∈ S s, x.o.id ≠ id) → Maps.has D (.int .i64 id) = false
theorem own_same {w w' : World} {P : Program} {k : TypeId} {R : Value → Option (DataW Unit × List MemPlace)} {b n : Nat} {D : DataW Unit} (h : w.ownsMap P k R b n D) (hb : w'.heap[b]? = w.heap[b]?) : w'.ownsMap P k R b n D := by
  obtain ⟨es, clock, h1, r⟩ := h
  exact ⟨es, clock, hb.trans h1, r⟩
theorem PlMap.same {w w' : World} {mb n : Nat} {S : Nat → List Ly} (h : PlMap w mb n S) (hb : w'.heap[mb]? = w.heap[mb]?) : PlMap w' mb n S := by
  obtain ⟨D, h1, r⟩ := h
  exact ⟨D, own_same h1 hb, r⟩
theorem PlMap.lt {w : World} {mb n : Nat} {S : Nat → List Ly} (h : PlMap w mb n S) : mb < w.heap.size := by
  obtain ⟨D, h1, r⟩ := h
  exact h1.lt
theorem PlMap.isMap {w : World} {mb n : Nat} {S : Nat → List Ly} (h : PlMap w mb n S) : ∃ es clock, w.heap[mb]? = some (.map es clock) := by
  obtain ⟨D, ⟨es, clock, h1, _⟩, _⟩ := h
  exact ⟨es, clock, h1⟩
theorem PlMap.ne {w : World} {mb n b : Nat} {S : Nat → List Ly} {vs : Array Value} {t : TypeId} {f : Nat × Nat} (h : PlMap w mb n S) (hb : w.heap[b]? = some (.cells vs t f)) : b ≠ mb := fun e => by
  obtain ⟨es, clock, h1⟩ := h.isMap
  rw [e, h1] at hb; cases hb
theorem PlMap.yes {w : World} {mb n s : Nat} {S : Nat → List Ly} {x : Ly} (h : PlMap w mb n S) (hs : s < 2) (hx : x ∈ S s) (hw : (Lit.int .i64 x.o.id).wf = true) :
    (Instr.lookup 70 (.map (some mb)) (.int .i64 x.o.id) true).run Try.prog w = .ok (.tuple #[.agg #[.int .i64 x.slot, .int .i64 x.age, .int .i64 s], .bool true]) w := by
  obtain ⟨D, h1, h2, _⟩ := h
  obtain ⟨v, ps, hr, hv⟩ := h1.look_ok Try.keyI Try.underlying70 (Try.zeroPl w) (zd := plE 0 0 0) (zp := []) rfl (Try.keyAt hw)
  obtain ⟨h3, h4⟩ := h2 s hs x hx
  rw [h3] at hr
  rw [h4] at hv
  rw [hr, plR_inv hv]
theorem PlMap.no {w : World} {mb n : Nat} {S : Nat → List Ly} {id : Int} (h : PlMap w mb n S) (hx : ∀ s, s < 2 → ∀ x ∈ S s, x.o.id ≠ id) (hw : (Lit.int .i64 id).wf = true) :
    (Instr.lookup 70 (.map (some mb)) (.int .i64 id) true).run Try.prog w = .ok (.tuple #[.agg #[.int .i64 0, .int .i64 0, .int .i64 0], .bool false]) w := by
  obtain ⟨D, h1, _, h2⟩ := h
  obtain ⟨v, ps, hr, hv⟩ := h1.look_ok Try.keyI Try.underlying70 (Try.zeroPl w) (zd := plE 0 0 0) (zp := []) rfl (Try.keyAt hw)
  have h3 := h2 id hx
  rw [h3] at hr
  rw [Maps.atKey_of_not_has h3] at hv
  rw [hr, plR_inv hv]
theorem turned_out {w w' : World} {mb : Nat} (h : w.mapTurned w' mb) : Out (fun j => j = mb) w w' := Out.of_grown h.grown (fun k hk => by injection hk with hk; exact hk.symm)
/-- one more lies -/
theorem PlMap.put {w : World} {mb n s : Nat} {S S' : Nat → List Ly} {x : Ly} (h : PlMap w mb n S) (hs : s < 2) (hw : (Lit.int .i64 x.o.id).wf = true) (hn : n < 1000) (hno : ∀ t, t < 2 → ∀ y ∈ S t, y.o.id ≠ x.o.id)
    (hS : ∀ t, t < 2 → ∀ y, y ∈ S' t ↔ ((t = s ∧ y = x) ∨ y ∈ S t)) :
    ∃ w', (Instr.mapUpdate 70 (.map (some mb)) (.int .i64 x.o.id) (.agg #[.int .i64 x.slot, .int .i64 x.age, .int .i64 s])).run Try.prog w = .ok () w' ∧ PlMap w' mb (n + 1) S' ∧ Out (fun j => j = mb) w w' := by
  obtain ⟨D, h1, h2, h3⟩ := h
  obtain ⟨w', hr, h4, h5⟩ := h1.store Try.keyI Try.underlying70 (by unfold maxLen; omega) (Try.keyAt hw) (plR_mk x.slot x.age s)
  refine ⟨w', hr, ⟨_, h4, fun t ht y hy => ?_, fun id hid => ?_⟩, turned_out h5⟩
  · rcases (hS t ht y).1 hy with ⟨rfl, rfl⟩ | hy
    · exact ⟨Maps.has_put_same h1.isMap (isKey _) _, fun z => Maps.atKey_put_same h1.isMap (isKey _) _ _⟩
    · have hne : Lit.int .i64 y.o.id ≠ Lit.int .i64 x.o.id := fun e => hno t ht y hy (lit_inj e)
      rw [Maps.has_put_other hne]
      exact ⟨(h2 t ht y hy).1, fun z => by rw [Maps.atKey_put_other hne]; exact (h2 t ht y hy).2 z⟩
  · have hne : Lit.int .i64 id ≠ Lit.int .i64 x.o.id := fun e => hid s hs x ((hS s hs x).2 (Or.inl ⟨rfl, rfl⟩)) (lit_inj e).symm
    rw [Maps.has_put_other hne]
    exact h3 id (fun t ht y hy => hid t ht y ((hS t ht y).2 (Or.inr hy)))
/-- one lies no more -/
theorem PlMap.del {w : World} {mb n : Nat} {S S' : Nat → List Ly} {x : Ly} (h : PlMap w mb n S) (hw : (Lit.int .i64 x.o.id).wf = true)
    (hS : ∀ t, t < 2 → ∀ y, y ∈ S' t ↔ (y ∈ S t ∧ y.o.id ≠ x.o.id)) (ty : TypeId) :
    ∃ w', (Builtin.delete_ #[70, 3] ty #[.map (some mb), .int .i64 x.o.id]).run Try.prog w = .ok (.tuple #[]) w' ∧ PlMap w' mb n S' ∧ Out (fun j => j = mb) w w' := by
  obtain ⟨D, h1, h2, h3⟩ := h
  obtain ⟨w', hr, h4, h5⟩ := h1.drop Try.keyI Try.underlying70 (Try.keyAt hw) ty
  refine ⟨w', hr, ⟨_, h4, fun t ht y hy => ?_, fun id hid => ?_⟩, turned_out h5⟩
  · obtain ⟨hy, hne'⟩ := (hS t ht y).1 hy
    have hne : Lit.int .i64 y.o.id ≠ Lit.int .i64 x.o.id := fun e => hne' (lit_inj e)
    rw [Maps.has_del_other hne]
    exact ⟨(h2 t ht y hy).1, fun z => by rw [Maps.atKey_del_other hne]; exact (h2 t ht y hy).2 z⟩
  · by_cases e : id = x.o.id
    · subst e; exact Maps.has_del_same
    · have hne : Lit.int .i64 id ≠ Lit.int .i64 x.o.id := fun e' => e (lit_inj e')
      rw [Maps.has_del_other hne]
      exact h3 id (fun t ht y hy e' => hid t ht y ((hS t ht y).2 ⟨hy, fun e'' => e (e'.symm.trans e'')⟩) e')
/-- some are changed, but not their places -/
theorem PlMap.like {w : World} {mb n : Nat} {S S' : Nat → List Ly} (h : PlMap w mb n S) (h1 : ∀ t, t < 2 → ∀ y ∈ S' t, ∃ z ∈ S t, z.o.id = y.o.id ∧ z.slot = y.slot ∧ z.age = y.age) (h2 : ∀ t, t < 2 → ∀ z ∈ S t, ∃ y ∈ S' t, y.o.id = z.o.id) : PlMap w mb n S' := by
  obtain ⟨D, a, b, c⟩ := h
  refine ⟨D, a, fun t ht y hy => ?_, fun id hid => c id (fun t ht z hz => ?_)⟩
  · obtain ⟨z, hz, e1, e2, e3⟩ := h1 t ht y hy
    rw [← e1, ← e2, ← e3]; exact b t ht z hz
  · obtain ⟨y, hy, e⟩ := h2 t ht z hz
    rw [← e]; exact hid t ht y hy

/-- In w block bb is the program's book. -/
structure BookAt (w : World) (bb ab mb n : Nat) (vs vf v0 v1 : Value) (rs : List Sot) (fr : List Nat) (S : Nat → List Ly) : Prop where
  box : w.heap[bb]? = some (.cells #[.pointer (some ⟨ab, 0, none⟩), .map (some mb), v0, v1] 74 (0, 0))
  ar : ArOr w ab 100 vs vf rs fr
  map : PlMap w mb n S
  row0 : w.ownsRow 0 76 2 v0 (S 0).length (hV (S 0))
  row1 : w.ownsRow 0 76 2 v1 (S 1).length (hV (S 1))
  apart : ∀ k, v0.ownBlock = some k → v1.ownBlock ≠ some k
/-- its blocks -/
def pbB (bb ab mb : Nat) (vs vf v0 v1 : Value) (k : Nat) : Prop := k = bb ∨ aoB ab vs vf k ∨ k = mb ∨ v0.ownBlock = some k ∨ v1.ownBlock = some k
section
variable {w w' : World} {bb ab mb n : Nat} {vs vf v0 v1 : Value} {rs : List Sot} {fr : List Nat} {S : Nat → List Ly}
theorem BookAt.lt (h : BookAt w bb ab mb n vs vf v0 v1 rs fr S) {k : Nat} (hk : pbB bb ab mb vs vf v0 v1 k) : k < w.heap.size := by
  rcases hk with rfl | hk | rfl | hk | hk
  · exact lt_of_block h.box
  · exact h.ar.lt hk
  · exact h.map.lt
  · exact (h.row0.lt k hk).2
  · exact (h.row1.lt k hk).2
theorem BookAt.out {T : Nat → Prop} (h : BookAt w bb ab mb n vs vf v0 v1 rs fr S) (ho : Out T w w') (hT : ∀ k, pbB bb ab mb vs vf v0 v1 k → ¬ T k) : BookAt w' bb ab mb n vs vf v0 v1 rs fr S :=
  ⟨blk_out h.box ho (hT bb (Or.inl rfl)), h.ar.out ho (fun k hk => hT k (Or.inr (Or.inl hk))), h.map.same (ho.block mb h.map.lt (hT mb (Or.inr (Or.inr (Or.inl rfl))))),
    owns_out h.row0 ho (fun k hk => hT k (Or.inr (Or.inr (Or.inr (Or.inl hk))))), owns_out h.row1 ho (fun k hk => hT k (Or.inr (Or.inr (Or.inr (Or.inr hk))))), h.apart⟩
theorem BookAt.below {B : Nat} (h : BookAt w bb ab mb n vs vf v0 v1 rs fr S) (hb : Below B w w') (hB : w.heap.size ≤ B) : BookAt w' bb ab mb n vs vf v0 v1 rs fr S :=
  h.out (T := fun _ => False) (Out.of_below hb hB) (fun _ _ e => e)
/-- at any change whatever above the book's blocks -/
theorem BookAt.above {B : Nat} (h : BookAt w bb ab mb n vs vf v0 v1 rs fr S) (hb : Below B w w') (hB : ∀ k, pbB bb ab mb vs vf v0 v1 k → k < B) : BookAt w' bb ab mb n vs vf v0 v1 rs fr S :=
  h.out (T := fun k => B ≤ k) ⟨hb.os, hb.tape, hb.output, hb.size, fun k hk hT => hb.block k (by omega)⟩ (fun k hk e => by have := hB k hk; omega)
/-- the box is none of the arena's blocks -/
theorem BookAt.notBox (h : BookAt w bb ab mb n vs vf v0 v1 rs fr S) : ¬ aoB ab vs vf bb := fun e => by
  rcases e with e | e | e
  · exact blk_ne h.box h.ar.box (by decide) e
  · exact owns_type h.ar.slots h.box (by decide) e
  · exact owns_type h.ar.free h.box (by decide) e
/-- nor is a side's row -/
theorem BookAt.notRow0 (h : BookAt w bb ab mb n vs vf v0 v1 rs fr S) {k : Nat} (hk : v0.ownBlock = some k) : ¬ aoB ab vs vf k := fun e => by
  rcases e with e | e | e
  · exact owns_type h.row0 (e ▸ h.ar.box) (by decide) hk
  · exact owns_types h.row0 h.ar.slots (by decide) hk e
  · exact owns_types h.row0 h.ar.free (by decide) hk e
theorem BookAt.notRow1 (h : BookAt w bb ab mb n vs vf v0 v1 rs fr S) {k : Nat} (hk : v1.ownBlock = some k) : ¬ aoB ab vs vf k := fun e => by
  rcases e with e | e | e
  · exact owns_type h.row1 (e ▸ h.ar.box) (by decide) hk
  · exact owns_types h.row1 h.ar.slots (by decide) hk e
  · exact owns_types h.row1 h.ar.free (by decide) hk e
theorem owns_notMap {base : Nat} {e : TypeId} {size : Nat} {v : Value} {k : Nat} {xs : List Value} (h : w.ownsRow base e size v k xs) (hm : PlMap w mb n S) : v.ownBlock ≠ some mb := fun hv => by
  rcases h.2 with ⟨rfl, _⟩ | ⟨g, cap, cur, rfl, _, hh, _⟩
  · cases hv
  · simp [Value.ownBlock] at hv; subst hv; exact hm.ne hh rfl
theorem BookAt.notMap (h : BookAt w bb ab mb n vs vf v0 v1 rs fr S) : ¬ aoB ab vs vf mb := fun e => by
  rcases e with e | e | e
  · exact h.map.ne h.ar.box e.symm
  · exact owns_notMap h.ar.slots h.map e
  · exact owns_notMap h.ar.free h.map e
/-- the arena has moved: all else is as it was -/
theorem BookAt.newAr {vs' vf' : Value} {rs' : List Sot} {fr' : List Nat} (h : BookAt w bb ab mb n vs vf v0 v1 rs fr S) (ho : Out (aoB ab vs vf) w w') (ha : ArOr w' ab 100 vs' vf' rs' fr') : BookAt w' bb ab mb n vs' vf' v0 v1 rs' fr' S :=
  ⟨blk_out h.box ho h.notBox, ha, h.map.same (ho.block mb h.map.lt h.notMap), owns_out h.row0 ho (fun _ hk => h.notRow0 hk), owns_out h.row1 ho (fun _ hk => h.notRow1 hk), h.apart⟩
/-- a side's row, by its number -/
def vAt (v0 v1 : Value) (s : Nat) : Value := if s = 0 then v0 else v1
theorem BookAt.row (h : BookAt w bb ab mb n vs vf v0 v1 rs fr S) {s : Nat} (hs : s < 2) : w.ownsRow 0 76 2 (vAt v0 v1 s) (S s).length (hV (S s)) ∧ w.cell? ⟨bb, 2 + s, none⟩ = some (vAt v0 v1 s) ∧ w.frozen? ⟨bb, 2 + s, none⟩ = false := by
  match s, hs with
  | 0, _ => exact ⟨h.row0, blk_cell (j := 2) h.box rfl, blk_free h.box⟩
  | 1, _ => exact ⟨h.row1, blk_cell (j := 3) h.box rfl, blk_free h.box⟩
end
end Go.Proofs.Ytcpijeehgdbjbaa
