/-
  The map of places of the program's book, and the book itself, in memory, over this seat's translation, told by the plain lists of PbSl. Conditions stand in each theorem.
-/
import Derived.Test.YtcoijhofliilmabHB
import Derived.Maps.OwnSet
import Derived.RangeFuncNested
import Derived.RangeFuncBound
import Derived.RangeFuncCalls
import Derived.RangeFuncLeaves
import Derived.Shelf.Abstract
import Derived.Shelf.RegionOpen
import Derived.OwnWalkIn
import Derived.TacticsInMore
import Derived.LoopNIn
import Derived.LoopIn
import Derived.Maps.AppendAt
namespace Go.Proofs.Ytcoijhofliilmab
open Go.RowKit Go.Maps

def plE (k a s : Int) : DataW Unit := .agg [.lit (.int .i64 k), .lit (.int .i64 a), .lit (.int .i64 s)]
/-- what a place reads as -/
def plR (v : Value) : Option (DataW Unit × List MemPlace) :=
  match v with
  | .agg ⟨[.int .i64 k, .int .i64 a, .int .i64 s]⟩ => some (plE k a s, [])
  | _ => none
theorem plR_mk (k a s : Int) : plR (.agg #[.int .i64 k, .int .i64 a, .int .i64 s]) = some (plE k a s, []) := rfl
theorem plR_inv {v : Value} {k a s : Int} {ps : List MemPlace} (h : plR v = some (plE k a s, ps)) : v = .agg #[.int .i64 k, .int .i64 a, .int .i64 s] := by
  unfold plR at h
  split at h
  · simp only [plE, Option.some.injEq, Prod.mk.injEq, DataW.agg.injEq, List.cons.injEq, DataW.lit.injEq, Lit.int.injEq, true_and, and_true] at h
    obtain ⟨⟨rfl, rfl, rfl⟩, _⟩ := h
    rfl
  · cases h
theorem Try.keyI : Maps.Keyed Try.prog 3 := Maps.int_keyed Try.underlying3
theorem Try.keyAt {a : Int} (h : (Lit.int .i64 a).wf = true) : keyOf Try.prog 3 (.int .i64 a) = some (.int .i64 a) := Maps.keyOf_int_mk Try.underlying3 h
theorem Try.zeroPl (w : World) : (zeroValue 80).run Try.prog w = .ok (.agg #[.int .i64 0, .int .i64 0, .int .i64 0]) w := by kernel_rfl
theorem lit_inj {a b : Int} (h : Lit.int .i64 a = Lit.int .i64 b) : a = b := by injection h
theorem isKey (a : Int) : WideAt.IsKeyLit (.int .i64 a) := trivial

/-- In w block mb is the map of the places of all that lie. -/
def PlMap (w : World) (mb n : Nat) (S : Nat → List Ly) : Prop :=
  ∃ D : DataW Unit, w.ownsMap Try.prog 3 plR mb n D ∧ (∀ s, s < 2 → ∀ x ∈ S s, Maps.has D (.int .i64 x.o.id) = true ∧ ∀ z, D.atKey (.int .i64 x.o.id) z = plE x.slot x.age s)
    ∧ ∀ id : Int, (∀ s, s < 2 → ∀ x ∈ S s, x.o.id ≠ id) → Maps.has D (.int .i64 id) = false
theorem own_same {w w' : World} {P : Program} {k : TypeId} {R : Value → Option (DataW Unit × List MemPlace)} {b n : Nat} {D : DataW Unit} (h : w.ownsMap P k R b n D) (hb : w'.heap[b]? = w.heap[b]?) : w'.ownsMap P k R b n D := by
  obtain ⟨es, clock, h1, r⟩ := h
  exact ⟨es, clock, hb.trans h1, r⟩
theorem PlMap.same {w w' : World} {mb n : Nat} {S : Nat → List Ly} (h : PlMap w mb n S) (hb : w'.heap[mb]? = w.heap[mb]?) : PlMap w' mb n S := by
  obtain ⟨D, h1, r⟩ := h
  exact ⟨D, own_same h1 hb, r⟩
theorem PlMap.lt {w : World} {mb n : Nat} {S : Nat → List Ly} (h : PlMap w mb n S) : mb < w.heap.size := by
  obtain ⟨D, h1, r⟩ := h
  exact h1.lt
theorem PlMap.isMap {w : World} {mb n : Nat} {S : Nat → List Ly} (h : PlMap w mb n S) : ∃ es clock, w.heap[mb]? = some (.map es clock) := by
  obtain ⟨D, ⟨es, clock, h1, _⟩, _⟩ := h
  exact ⟨es, clock, h1⟩
theorem PlMap.ne {w : World} {mb n b : Nat} {S : Nat → List Ly} {vs : Array Value} {t : TypeId} {f : Nat × Nat} (h : PlMap w mb n S) (hb : w.heap[b]? = some (.cells vs t f)) : b ≠ mb := fun e => by
  obtain ⟨es, clock, h1⟩ := h.isMap
  rw [e, h1] at hb; cases hb
theorem PlMap.yes {w : World} {mb n s : Nat} {S : Nat → List Ly} {x : Ly} (h : PlMap w mb n S) (hs : s < 2) (hx : x ∈ S s) (hw : (Lit.int .i64 x.o.id).wf = true) :
    (Instr.lookup 69 (.map (some mb)) (.int .i64 x.o.id) true).run Try.prog w = .ok (.tuple #[.agg #[.int .i64 x.slot, .int .i64 x.age, .int .i64 s], .bool true]) w := by
  obtain ⟨D, h1, h2, _⟩ := h
  obtain ⟨v, ps, hr, hv⟩ := h1.look_ok Try.keyI Try.underlying69 (Try.zeroPl w) (zd := plE 0 0 0) (zp := []) rfl (Try.keyAt hw)
  obtain ⟨h3, h4⟩ := h2 s hs x hx
  rw [h3] at hr
  rw [h4] at hv
  rw [hr, plR_inv hv]
theorem PlMap.no {w : World} {mb n : Nat} {S : Nat → List Ly} {id : Int} (h : PlMap w mb n S) (hx : ∀ s, s < 2 → ∀ x ∈ S s, x.o.id ≠ id) (hw : (Lit.int .i64 id).wf = true) :
    (Instr.lookup 69 (.map (some mb)) (.int .i64 id) true).run Try.prog w = .ok (.tuple #[.agg #[.int .i64 0, .int .i64 0, .int .i64 0], .bool false]) w := by
  obtain ⟨D, h1, _, h2⟩ := h
  obtain ⟨v, ps, hr, hv⟩ := h1.look_ok Try.keyI Try.underlying69 (Try.zeroPl w) (zd := plE 0 0 0) (zp := []) rfl (Try.keyAt hw)
  have h3 := h2 id hx
  rw [h3] at hr
  rw [Maps.atKey_of_not_has h3] at hv
  rw [hr, plR_inv hv]
theorem turned_out {w w' : World} {mb : Nat} (h : w.mapTurned w' mb) : Out (fun j => j = mb) w w' := Out.of_grown h.grown (fun k hk => by injection hk with hk; exact hk.symm)
/-- one more lies -/
theorem PlMap.put {w : World} {mb n s : Nat} {S S' : Nat → List Ly} {x : Ly} (h : PlMap w mb n S) (hs : s < 2) (hw : (Lit.int .i64 x.o.id).wf = true) (hn : n < 1000) (hno : ∀ t, t < 2 → ∀ y ∈ S t, y.o.id ≠ x.o.id)
    (hS : ∀ t, t < 2 → ∀ y, y ∈ S' t ↔ ((t = s ∧ y = x) ∨ y ∈ S t)) :
    ∃ w', (Instr.mapUpdate 69 (.map (some mb)) (.int .i64 x.o.id) (.agg #[.int .i64 x.slot, .int .i64 x.age, .int .i64 s])).run Try.prog w = .ok () w' ∧ PlMap w' mb (n + 1) S' ∧ Out (fun j => j = mb) w w' := by
  obtain ⟨D, h1, h2, h3⟩ := h
  obtain ⟨w', hr, h4, h5⟩ := h1.store Try.keyI Try.underlying69 (by unfold maxLen; omega) (Try.keyAt hw) (plR_mk x.slot x.age s)
  refine ⟨w', hr, ⟨_, h4, fun t ht y hy => ?_, fun id hid => ?_⟩, turned_out h5⟩
  · rcases (hS t ht y).1 hy with ⟨rfl, rfl⟩ | hy
    · exact ⟨Maps.has_put_same h1.isMap (isKey _) _, fun z => Maps.atKey_put_same h1.isMap (isKey _) _ _⟩
    · have hne : Lit.int .i64 y.o.id ≠ Lit.int .i64 x.o.id := fun e => hno t ht y hy (lit_inj e)
      rw [Maps.has_put_other hne]
      exact ⟨(h2 t ht y hy).1, fun z => by rw [Maps.atKey_put_other hne]; exact (h2 t ht y hy).2 z⟩
  · have hne : Lit.int .i64 id ≠ Lit.int .i64 x.o.id := fun e => hid s hs x ((hS s hs x).2 (Or.inl ⟨rfl, rfl⟩)) (lit_inj e).symm
    rw [Maps.has_put_other hne]
    exact h3 id (fun t ht y hy => hid t ht y ((hS t ht y).2 (Or.inr hy)))
/-- one lies no more -/
theorem PlMap.del {w : World} {mb n : Nat} {S S' : Nat → List Ly} {x : Ly} (h : PlMap w mb n S) (hw : (Lit.int .i64 x.o.id).wf = true)
    (hS : ∀ t, t < 2 → ∀ y, y ∈ S' t ↔ (y ∈ S t ∧ y.o.id ≠ x.o.id)) (ty : TypeId) :
    ∃ w', (Builtin.delete_ #[69, 3] ty #[.map (some mb), .int .i64 x.o.id]).run Try.prog w = .ok (.tuple #[]) w' ∧ PlMap w' mb n S' ∧ Out (fun j => j = mb) w w' := by
  obtain ⟨D, h1, h2, h3⟩ := h
  obtain ⟨w', hr, h4, h5⟩ := h1.drop Try.keyI Try.underlying69 (Try.keyAt hw) ty
  refine ⟨w', hr, ⟨_, h4, fun t ht y hy => ?_, fun id hid => ?_⟩, turned_out h5⟩
  · obtain ⟨hy, hne'⟩ := (hS t ht y).1 hy
    have hne : Lit.int .i64 y.o.id ≠ Lit.int .i64 x.o.id := fun e => hne' (lit_inj e)
    rw [Maps.has_del_other hne]
    exact ⟨(h2 t ht y hy).1, fun z => by rw [Maps.atKey_del_other hne]; exact (h2 t ht y hy).2 z⟩
  · by_cases e : id = x.o.id
    · subst e; exact Maps.has_del_same
    · have hne : Lit.int .i64 id ≠ Lit.int .i64 x.o.id := fun e' => e (lit_inj e')
      rw [Maps.has_del_other hne]
      exact h3 id (fun t ht y hy e' => hid t ht y ((hS t ht y).2 ⟨hy, fun e'' => e (e'.symm.trans e'')⟩) e')
/-- some are changed, but not their places -/
theorem PlMap.like {w : World} {mb n : Nat} {S S' : Nat → List Ly} (h : PlMap w mb n S) (h1 : ∀ t, t < 2 → ∀ y ∈ S' t, ∃ z ∈ S t, z.o.id = y.o.id ∧ z.slot = y.slot ∧ z.age = y.age) (h2 : ∀ t, t < 2 → ∀ z ∈ S t, ∃ y ∈ S' t, y.o.id = z.o.id) : PlMap w mb n S' := by
  obtain ⟨D, a, b, c⟩ := h
  refine ⟨D, a, fun t ht y hy => ?_, fun id hid => c id (fun t ht z hz => ?_)⟩
  · obtain ⟨z, hz, e1, e2, e3⟩ := h1 t ht y hy
    rw [← e1, ← e2, ← e3]; exact b t ht z hz
  · obtain ⟨y, hy, e⟩ := h2 t ht z hz
    rw [← e]; exact hid t ht y hy

/-- In w block bb is the program's book. -/
structure BookAt (w : World) (bb ab mb n : Nat) (vs vf v0 v1 : Value) (rs : List Sot) (fr : List Nat) (S : Nat → List Ly) : Prop where
  box : w.heap[bb]? = some (.cells #[.pointer (some ⟨ab, 0, none⟩), .map (some mb), v0, v1] 73 (0, 0))
  ar : ArOr w ab 100 vs vf rs fr
  map : PlMap w mb n S
  row0 : w.ownsRow 0 78 2 v0 (S 0).length (hV (S 0))
  row1 : w.ownsRow 0 78 2 v1 (S 1).length (hV (S 1))
  apart : ∀ k, v0.ownBlock = some k → v1.ownBlock ≠ some k
/-- its blocks -/
def pbB (bb ab mb : Nat) (vs vf v0 v1 : Value) (k : Nat) : Prop := k = bb ∨ aoB ab vs vf k ∨ k = mb ∨ v0.ownBlock = some k ∨ v1.ownBlock = some k
section
variable {w w' : World} {bb ab mb n : Nat} {vs vf v0 v1 : Value} {rs : List Sot} {fr : List Nat} {S : Nat → List Ly}
theorem BookAt.lt (h : BookAt w bb ab mb n vs vf v0 v1 rs fr S) {k : Nat} (hk : pbB bb ab mb vs vf v0 v1 k) : k < w.heap.size := by
  rcases hk with rfl | hk | rfl | hk | hk
  · exact lt_of_block h.box
  · exact h.ar.lt hk
  · exact h.map.lt
  · exact (h.row0.lt k hk).2
  · exact (h.row1.lt k hk).2
theorem BookAt.out {T : Nat → Prop} (h : BookAt w bb ab mb n vs vf v0 v1 rs fr S) (ho : Out T w w') (hT : ∀ k, pbB bb ab mb vs vf v0 v1 k → ¬ T k) : BookAt w' bb ab mb n vs vf v0 v1 rs fr S :=
  ⟨blk_out h.box ho (hT bb (Or.inl rfl)), h.ar.out ho (fun k hk => hT k (Or.inr (Or.inl hk))), h.map.same (ho.block mb h.map.lt (hT mb (Or.inr (Or.inr (Or.inl rfl))))),
    owns_out h.row0 ho (fun k hk => hT k (Or.inr (Or.inr (Or.inr (Or.inl hk))))), owns_out h.row1 ho (fun k hk => hT k (Or.inr (Or.inr (Or.inr (Or.inr hk))))), h.apart⟩
theorem BookAt.below {B : Nat} (h : BookAt w bb ab mb n vs vf v0 v1 rs fr S) (hb : Below B w w') (hB : w.heap.size ≤ B) : BookAt w' bb ab mb n vs vf v0 v1 rs fr S :=
  h.out (T := fun _ => False) (Out.of_below hb hB) (fun _ _ e => e)
/-- at any change whatever above the book's blocks -/
theorem BookAt.above {B : Nat} (h : BookAt w bb ab mb n vs vf v0 v1 rs fr S) (hb : Below B w w') (hB : ∀ k, pbB bb ab mb vs vf v0 v1 k → k < B) : BookAt w' bb ab mb n vs vf v0 v1 rs fr S :=
  h.out (T := fun k => B ≤ k) ⟨hb.os, hb.tape, hb.output, hb.size, fun k hk hT => hb.block k (by omega)⟩ (fun k hk e => by have := hB k hk; omega)
/-- the box is none of the arena's blocks -/
theorem BookAt.notBox (h : BookAt w bb ab mb n vs vf v0 v1 rs fr S) : ¬ aoB ab vs vf bb := fun e => by
  rcases e with e | e | e
  · exact blk_ne h.box h.ar.box (by decide) e
  · exact owns_type h.ar.slots h.box (by decide) e
  · exact owns_type h.ar.free h.box (by decide) e
/-- nor is a side's row -/
theorem BookAt.notRow0 (h : BookAt w bb ab mb n vs vf v0 v1 rs fr S) {k : Nat} (hk : v0.ownBlock = some k) : ¬ aoB ab vs vf k := fun e => by
  rcases e with e | e | e
  · exact owns_type h.row0 (e ▸ h.ar.box) (by decide) hk
  · exact owns_types h.row0 h.ar.slots (by decide) hk e
  · exact owns_types h.row0 h.ar.free (by decide) hk e
theorem BookAt.notRow1 (h : BookAt w bb ab mb n vs vf v0 v1 rs fr S) {k : Nat} (hk : v1.ownBlock = some k) : ¬ aoB ab vs vf k := fun e => by
  rcases e with e | e | e
  · exact owns_type h.row1 (e ▸ h.ar.box) (by decide) hk
  · exact owns_types h.row1 h.ar.slots (by decide) hk e
  · exact owns_types h.row1 h.ar.free (by decide) hk e
theorem owns_notMap {base : Nat} {e : TypeId} {size : Nat} {v : Value} {k : Nat} {xs : List Value} (h : w.ownsRow base e size v k xs) (hm : PlMap w mb n S) : v.ownBlock ≠ some mb := fun hv => by
  rcases h.2 with ⟨rfl, _⟩ | ⟨g, cap, cur, rfl, _, hh, _⟩
  · cases hv
  · simp [Value.ownBlock] at hv; subst hv; exact hm.ne hh rfl
theorem BookAt.notMap (h : BookAt w bb ab mb n vs vf v0 v1 rs fr S) : ¬ aoB ab vs vf mb := fun e => by
  rcases e with e | e | e
  · exact h.map.ne h.ar.box e.symm
  · exact owns_notMap h.ar.slots h.map e
  · exact owns_notMap h.ar.free h.map e
/-- the arena has moved: all else is as it was -/
theorem BookAt.newAr {vs' vf' : Value} {rs' : List Sot} {fr' : List Nat} (h : BookAt w bb ab mb n vs vf v0 v1 rs fr S) (ho : Out (aoB ab vs vf) w w') (ha : ArOr w' ab 100 vs' vf' rs' fr') : BookAt w' bb ab mb n vs' vf' v0 v1 rs' fr' S :=
  ⟨blk_out h.box ho h.notBox, ha, h.map.same (ho.block mb h.map.lt h.notMap), owns_out h.row0 ho (fun _ hk => h.notRow0 hk), owns_out h.row1 ho (fun _ hk => h.notRow1 hk), h.apart⟩
/-- a side's row, by its number -/
def vAt (v0 v1 : Value) (s : Nat) : Value := if s = 0 then v0 else v1
theorem BookAt.row (h : BookAt w bb ab mb n vs vf v0 v1 rs fr S) {s : Nat} (hs : s < 2) : w.ownsRow 0 78 2 (vAt v0 v1 s) (S s).length (hV (S s)) ∧ w.cell? ⟨bb, 2 + s, none⟩ = some (vAt v0 v1 s) ∧ w.frozen? ⟨bb, 2 + s, none⟩ = false := by
  match s, hs with
  | 0, _ => exact ⟨h.row0, blk_cell (j := 2) h.box rfl, blk_free h.box⟩
  | 1, _ => exact ⟨h.row1, blk_cell (j := 3) h.box rfl, blk_free h.box⟩
end
end Go.Proofs.Ytcoijhofliilmab

/-
  The iterator over a side of the program's book (the closure that lying hands back), over this seat's translation: it hands over the side's orders one by one, for every loop body that keeps the book. Conditions stand in each theorem.
-/
namespace Go.Proofs.Ytcoijhofliilmab
open Go.RowKit Go.Shelf

attribute [local go_sem] Oper.semAt_some
attribute [local go_sem ↓] Go.wp_at_zero Go.wp_at_succ

/-- what a round that goes on keeps: all below m, and the box of the receiver -/
structure KpL (m Bb : Nat) (W W' : World) : Prop where
  below : Below m W W'
  box : ∀ vs t, W.heap[Bb]? = some (.cells vs t (0, 0)) → W'.heap[Bb]? = some (.cells vs t (0, 0))
theorem KpL.refl (m Bb : Nat) (W : World) : KpL m Bb W W := ⟨Below.refl _ _, fun _ _ h => h⟩
theorem KpL.trans {m Bb : Nat} {A B C : World} (h : KpL m Bb A B) (k : KpL m Bb B C) : KpL m Bb A C := ⟨h.below.trans k.below, fun vs t e => k.box vs t (h.box vs t e)⟩
theorem kpl_t {m Bb : Nat} {A B C : World} (h : KpL m Bb A B) (k : KpL m Bb B C) : KpL m Bb A C := h.trans k
theorem kpl_b {m Bb : Nat} {w : World} (hm : m ≤ w.heap.size) (W : World) (l : Nat) (o o' : Obj) (hl : w.heap.size ≤ l) (h : W.heap[l]? = some o) (hc : o.isCells = false) (hw : o.isWalk = false) : KpL m Bb W (W.putObj l o') :=
  ⟨belowK_b hm W l o o' hl h hc hw, fun vs t e => by
    have hne : l ≠ Bb := fun e' => by subst e'; rw [e] at h; injection h with h; subst h; cases hc
    exact (World.putObj_heap_other (Ne.symm hne)).trans e⟩
theorem KpL.of_below {m Bb : Nat} {W W' : World} (h : Below W.heap.size W W') (hm : m ≤ W.heap.size) : KpL m Bb W W' := ⟨h.mono hm, fun _ _ e => blk_below e h (Nat.le_refl _)⟩
theorem grown_of_below {W W' : World} (h : Below W.heap.size W W') : W.grownBy W' none := ⟨h.os, h.tape, h.output, h.size, fun k hk _ => h.block k hk⟩

theorem bel_more {w w1 w2 : World} {n : Nat} (h : Below n w w1) (h1 : Below w1.heap.size w1 w2) (hn : n ≤ w1.heap.size) : Below n w w2 := h.trans (h1.mono hn)
theorem take_snoc {l : List Ly} {k : Nat} (h : k < l.length) : (l.take (k + 1)).map Ly.o = (l.take k).map Ly.o ++ [(lyAt l k).o] := by
  rw [List.take_succ_eq_append_getElem h, List.map_append, lyAt_eq h]; rfl

set_option maxRecDepth 100000 in
set_option maxHeartbeats 4000000 in
theorem lyIt (n : Nat) (hn : 1 ≤ n) (l Bb Bs m bb ab mb nn s : Nat) (vs vf v0 v1 : Value) (rs : List Sot) (fr : List Nat) (S : Nat → List Ly) (J Jx : List Ord → World → Prop) (hs : s < 2) (hlen : (S s).length ≤ 1000)
    (hth : ∀ x ∈ S s, soAt rs x.slot = (some x.o, x.age)) (hm : ∀ k, pbB bb ab mb vs vf v0 v1 k → k < m)
    (W : World) (hmW : m ≤ W.heap.size) (hB : BookAt W bb ab mb nn vs vf v0 v1 rs fr S) (hbb : W.heap[Bb]? = some (.cells #[.pointer (some ⟨bb, 0, none⟩)] 34 (0, 0))) (hbs : W.cell? ⟨Bs, 0, none⟩ = some (.int .i64 s))
    (hJ : AbidesFrom W.heap.size J)
    (hY : ∀ pre x W, J pre W → pre.length < (S s).length → YieldAt Fence.wide (n - 1) Try.prog l #[Ord.agg x] W fun e W' =>
      (e = .returned (.bool true) ∧ J (pre ++ [x]) W' ∧ KpL m Bb W W') ∨ (e = .returned (.bool false) ∧ Jx (pre ++ [x]) W'))
    (h0 : J [] W) :
    CallsIn Fence.wide n Try.prog 59 #[.func (.yield l) #[] #[], .pointer (some ⟨Bb, 0, none⟩), .pointer (some ⟨Bs, 0, none⟩)] W fun e W' => (∃ v, e = .returned v) ∧
      ((∃ ys, ys = (S s).map Ly.o ∧ J ys W') ∨ (∃ pre, pre <+: (S s).map Ly.o ∧ Jx pre W')) := by
  obtain ⟨hrow, hc, _⟩ := hB.row hs
  have HBK : Hid (BookAt W bb ab mb nn vs vf v0 v1 rs fr S) := hB
  have HM : Hid (∀ k, pbB bb ab mb vs vf v0 v1 k → k < m) := hm
  have HTH : Hid (∀ x ∈ S s, soAt rs x.slot = (some x.o, x.age)) := hth
  have HJ : Hid (AbidesFrom W.heap.size J) := hJ
  have HY : Hid _ := hY
  have HBB : Hid (W.heap[Bb]? = some (.cells #[.pointer (some ⟨bb, 0, none⟩)] 34 (0, 0))) := hbb
  have cb := blk_cell (j := 0) hbb rfl
  have HROW : Hid _ := hrow
  obtain ⟨ao, cap, hv, _, _⟩ := owns_shape hrow
  rw [hv] at hc HROW
  have q1 : (0 : Int) ≤ (s : Int) := by omega
  have q2 : (s : Int) < 2 := by omega
  clear hB hm hth hJ hY hbb hrow
  refine callsIn_of_wp Try.func59 rfl trivial ?_ rfl
  simp only [Try.ntmps59, List.size_toArray, List.length_cons, List.length_nil, Nat.reduceAdd, Nat.reduceSub, Array.replicate_succ, Array.replicate_zero, List.push_toArray, List.append_toArray, List.nil_append, List.cons_append]
  gi_wp2_with fail
  refine wpIn_wide.2 ?_
  go_quiet (fail)
  have HJ0 : Hid (J ((([] : List Ly)).map Ly.o) (W.drewN nq)) := HJ.out [] W _ none h0 (grown_of_below (below_drewN (Below.refl _ _) nq)) (fun r e => by cases e)
  have HK0 : Hid (KpL m Bb W (W.drewN nq)) := KpL.of_below (below_drewN (Below.refl _ _) nq) hmW
  generalize W.drewN nq = Wd at HJ0 HK0 ⊢
  clear h0 hbs hc cb
  gi_wp2_with fail
  gi_loopw [15] (fun i wr => ∃ k : Nat, k ≤ (S s).length ∧ i = .int .i64 k ∧ J (((S s).take k).map Ly.o) wr ∧ KpL m Bb W wr)
    (fun i _ => (S s).length - (intOf i).toNat)
  case atStart => exact ⟨0, Nat.zero_le _, rfl, HJ0.out, HK0.out⟩
  case round =>
    obtain ⟨k, hk, rfl, hJs, hkp⟩ := hrel
    have HJS : Hid (J (((S s).take k).map Ly.o) wr) := hJs
    have HKP : Hid (KpL m Bb W wr) := hkp
    have hmr : m ≤ wr.heap.size := Nat.le_trans hmW hkp.below.size
    clear hJs hkp
    by_cases hlt : k < (S s).length
    · have HBR : Hid (BookAt wr bb ab mb nn vs vf v0 v1 rs fr S) := HBK.out.above HKP.out.below HM.out
      have hrr := (HBR.out.row hs).1
      rw [hv] at hrr
      obtain ⟨g, cap', hv', _, _⟩ := hrr.form (by omega)
      simp only [Value.slice.injEq, true_and] at hv'
      obtain ⟨rfl, rfl⟩ := hv'
      have c0 := (hrr.cellAt (k * 2) (by omega)).trans (hV_at hlt).1
      have c1 := (hrr.cellAt (k * 2 + 1) (by omega)).trans (hV_at hlt).2
      have hth := HTH.out _ (lyAt_mem hlt)
      have HO : Hid _ := hth
      generalize hx : lyAt (S s) k = x at c0 c1 hth HO
      have HX : Hid (lyAt (S s) k = x) := hx
      clear hrr hx hth
      gi_wp2_with fail
      refine wpIn_wide.2 ?_
      have hbh := bel1 wr (.cells #[.int .i64 x.slot, .int .i64 x.age] 78)
      have hhh := heap_alloc_new wr (.cells #[.int .i64 x.slot, .int .i64 x.age] 78)
      generalize wr.alloc (.cells #[.int .i64 x.slot, .int .i64 x.age] 78) = wh at hbh hhh ⊢
      generalize wr.heap.size = hb0 at hhh ⊢
      have HBH : Hid (Below wr.heap.size wr wh) := hbh
      have HBW : Hid (BookAt wh bb ab mb nn vs vf v0 v1 rs fr S) := HBR.out.below hbh (Nat.le_refl _)
      have hBb := blk_below (HKP.out.box _ _ HBB.out) hbh (Nat.le_refl _)
      have e0 : wh.cell? ⟨Bb, 0, none⟩ = some (.pointer (some ⟨bb, 0, none⟩)) := blk_cell (j := 0) hBb rfl
      have e1 : wh.cell? ⟨bb, 0, none⟩ = some (.pointer (some ⟨ab, 0, none⟩)) := blk_cell (j := 0) HBW.out.box rfl
      have e2 : wh.cell? ⟨hb0, 0, none⟩ = some (.int .i64 x.slot) := blk_cell (j := 0) hhh rfl
      have e3 : wh.cell? ⟨hb0, 1, none⟩ = some (.int .i64 x.age) := blk_cell (j := 1) hhh rfl
      have HS : Hid (∀ w', Below wh.heap.size wh w' → (w'.cell? ⟨Bb, 0, none⟩ = some (.pointer (some ⟨bb, 0, none⟩)) ∧ w'.cell? ⟨bb, 0, none⟩ = some (.pointer (some ⟨ab, 0, none⟩)) ∧ w'.cell? ⟨hb0, 0, none⟩ = some (.int .i64 x.slot) ∧ w'.cell? ⟨hb0, 1, none⟩ = some (.int .i64 x.age) ∧ Below wh.heap.size wh w')) :=
        fun w' h => ⟨cell_later h e0, cell_later h e1, cell_later h e2, cell_later h e3, h⟩
      clear hbh hhh hBb e0 e1 e2 e3 c0 c1
      have hs0 := HS.out wh (Below.refl _ _)
      go_region_held3 (fun w' => w'.cell? ⟨Bb, 0, none⟩ = some (.pointer (some ⟨bb, 0, none⟩)) ∧ w'.cell? ⟨bb, 0, none⟩ = some (.pointer (some ⟨ab, 0, none⟩)) ∧ w'.cell? ⟨hb0, 0, none⟩ = some (.int .i64 x.slot) ∧ w'.cell? ⟨hb0, 1, none⟩ = some (.int .i64 x.age) ∧ Below wh.heap.size wh w')
        ((refine HS.out _ ?_; (repeat' first | assumption | exact Below.refl _ _ | exact Nat.le_refl _ | refine Below.drew ?_ | refine Below.alloc ?_ ?_ _ | refine bel_then ?_ hb1 | refine Below.setCell ?_ ?_ _ | (simp; done) | (simp; omega) | (have h9 := hb1.size; simp at h9 ⊢; omega))))
        (first | (go_at_call 60; refine (oaGet ab 100 vs vf rs fr x.slot x.o x.age _ (HBW.out.ar.below (B := wh.heap.size) ?_ (Nat.le_refl _)) HO.out).mono ?_; (repeat' first | assumption | exact Below.refl _ _ | exact Nat.le_refl _ | refine Below.drew ?_ | refine Below.alloc ?_ ?_ _ | refine bel_then ?_ hb1 | refine Below.setCell ?_ ?_ _ | (simp; done) | (simp; omega) | (have h9 := hb1.size; simp at h9 ⊢; omega)); rintro e w1 ⟨hb1, rfl⟩; unfold Ord.agg; try (have hxb := (hb1.block wh.heap.size (by simp)).trans (heap_alloc_new wh _); have y0 := blk_cell (j := 0) hxb rfl; have y1 := blk_cell (j := 1) hxb rfl; have y2 := blk_cell (j := 2) hxb rfl; have y3 := blk_cell (j := 3) hxb rfl; have y4 := blk_cell (j := 4) hxb rfl; have z0 := blk_free (j := 0) hxb; have z1 := blk_free (j := 1) hxb; have z2 := blk_free (j := 2) hxb; have z3 := blk_free (j := 3) hxb; have z4 := blk_free (j := 4) hxb)))
      rotate_right
      · have hz := blk_set (j := 4) (.int .i64 x.o.qty) (blk_set (j := 3) (.int .i64 x.o.price) (blk_set (j := 2) (.int .i64 x.o.kind) (blk_set (j := 1) (.int .i64 x.o.side) (blk_set (j := 0) (.int .i64 x.o.id) hxb))))
        replace hz : (((((w1.setCell ⟨wh.heap.size, 0, none⟩ (.int .i64 x.o.id)).setCell ⟨wh.heap.size, 1, none⟩ (.int .i64 x.o.side)).setCell ⟨wh.heap.size, 2, none⟩ (.int .i64 x.o.kind)).setCell ⟨wh.heap.size, 3, none⟩ (.int .i64 x.o.price)).setCell ⟨wh.heap.size, 4, none⟩ (.int .i64 x.o.qty)).heap[wh.heap.size]? = some (.cells #[.int .i64 x.o.id, .int .i64 x.o.side, .int .i64 x.o.kind, .int .i64 x.o.price, .int .i64 x.o.qty] 40 (0, 0)) := hz
        have hbz : Below wr.heap.size wr (((((w1.setCell ⟨wh.heap.size, 0, none⟩ (.int .i64 x.o.id)).setCell ⟨wh.heap.size, 1, none⟩ (.int .i64 x.o.side)).setCell ⟨wh.heap.size, 2, none⟩ (.int .i64 x.o.kind)).setCell ⟨wh.heap.size, 3, none⟩ (.int .i64 x.o.price)).setCell ⟨wh.heap.size, 4, none⟩ (.int .i64 x.o.qty)) := by
          refine bel_then HBH.out ?_
          have h9 := hb1.size
          have h8 : Below wh.heap.size wh w1 := bel_then (bel1 wh _).drew hb1
          exact ((((h8.setCell (p := ⟨wh.heap.size, 0, none⟩) (Nat.le_refl _) _).setCell (p := ⟨wh.heap.size, 1, none⟩) (Nat.le_refl _) _).setCell (p := ⟨wh.heap.size, 2, none⟩) (Nat.le_refl _) _).setCell (p := ⟨wh.heap.size, 3, none⟩) (Nat.le_refl _) _).setCell (p := ⟨wh.heap.size, 4, none⟩) (Nat.le_refl _) _
        generalize ((((w1.setCell ⟨wh.heap.size, 0, none⟩ (.int .i64 x.o.id)).setCell ⟨wh.heap.size, 1, none⟩ (.int .i64 x.o.side)).setCell ⟨wh.heap.size, 2, none⟩ (.int .i64 x.o.kind)).setCell ⟨wh.heap.size, 3, none⟩ (.int .i64 x.o.price)).setCell ⟨wh.heap.size, 4, none⟩ (.int .i64 x.o.qty) = wz at hz hbz ⊢
        generalize wh.heap.size = xb at hz ⊢
        have x0 := blk_cell (j := 0) hz rfl
        have x1 := blk_cell (j := 1) hz rfl
        have x2 := blk_cell (j := 2) hz rfl
        have x3 := blk_cell (j := 3) hz rfl
        have x4 := blk_cell (j := 4) hz rfl
        obtain ⟨fn, tmps, assign, body, hy, hR⟩ := HY.out _ x.o wz (HJ.out _ wr wz none HJS.out (grown_of_below hbz) (fun r e => by cases e)) (by simp; omega)
        unfold Ord.agg at hy
        have HBZ : Hid (Below wr.heap.size wr wz) := hbz
        clear hbz hz hs0
        gi_wp2
        refine hR.mono ?_
        rintro e W3 (⟨rfl, hJ3, hk3⟩ | ⟨rfl, hJx3⟩)
        · have HJ3 : Hid _ := hJ3
          have HK3 : Hid _ := hk3
          clear hJ3 hk3 hy hR x0 x1 x2 x3 x4
          gi_wp2
          go_roundw
          case rel => exact ⟨k + 1, by omega, by simp, by rw [take_snoc hlt, HX.out]; exact HJ3.out, (HKP.out.trans (KpL.of_below HBZ.out hmr)).trans HK3.out⟩
          case measure => simp [intOf]; omega
        · have HJ3 : Hid _ := hJx3
          clear hJx3 hy hR x0 x1 x2 x3 x4
          gi_wp2
          refine bodyPost_ret (results_none rfl _ _ _) rfl ?_
          refine ⟨⟨_, rfl⟩, .inr ⟨_, ?_, HJ3.out⟩⟩
          rw [← HX.out, ← take_snoc hlt]
          exact (List.take_prefix _ _).map _
      · have hz := heap_alloc_new w1 (.cells #[.int .i64 x.o.id, .int .i64 x.o.side, .int .i64 x.o.kind, .int .i64 x.o.price, .int .i64 x.o.qty] 40)
        have hbz : Below wr.heap.size wr (w1.alloc (.cells #[.int .i64 x.o.id, .int .i64 x.o.side, .int .i64 x.o.kind, .int .i64 x.o.price, .int .i64 x.o.qty] 40)) := bel_then HBH.out (bel_then (w1 := w1) (bel_then (w := wh) (w1 := wh.drew) (Below.refl _ _).drew hb1) (bel1 _ _))
        generalize w1.alloc (.cells #[.int .i64 x.o.id, .int .i64 x.o.side, .int .i64 x.o.kind, .int .i64 x.o.price, .int .i64 x.o.qty] 40) = wz at hz hbz ⊢
        generalize w1.heap.size = xb at hz ⊢
        have x0 := blk_cell (j := 0) hz rfl
        have x1 := blk_cell (j := 1) hz rfl
        have x2 := blk_cell (j := 2) hz rfl
        have x3 := blk_cell (j := 3) hz rfl
        have x4 := blk_cell (j := 4) hz rfl
        obtain ⟨fn, tmps, assign, body, hy, hR⟩ := HY.out _ x.o wz (HJ.out _ wr wz none HJS.out (grown_of_below hbz) (fun r e => by cases e)) (by simp; omega)
        unfold Ord.agg at hy
        have HBZ : Hid (Below wr.heap.size wr wz) := hbz
        clear hbz hz hs0
        gi_wp2
        refine hR.mono ?_
        rintro e W3 (⟨rfl, hJ3, hk3⟩ | ⟨rfl, hJx3⟩)
        · have HJ3 : Hid _ := hJ3
          have HK3 : Hid _ := hk3
          clear hJ3 hk3 hy hR x0 x1 x2 x3 x4
          gi_wp2
          go_roundw
          case rel => exact ⟨k + 1, by omega, by simp, by rw [take_snoc hlt, HX.out]; exact HJ3.out, (HKP.out.trans (KpL.of_below HBZ.out hmr)).trans HK3.out⟩
          case measure => simp [intOf]; omega
        · have HJ3 : Hid _ := hJx3
          clear hJx3 hy hR x0 x1 x2 x3 x4
          gi_wp2
          refine bodyPost_ret (results_none rfl _ _ _) rfl ?_
          refine ⟨⟨_, rfl⟩, .inr ⟨_, ?_, HJ3.out⟩⟩
          rw [← HX.out, ← take_snoc hlt]
          exact (List.take_prefix _ _).map _
    · obtain rfl : k = (S s).length := by omega
      gi_wp2_with fail
      go_end0
      refine ⟨⟨_, rfl⟩, .inl ⟨_, rfl, ?_⟩⟩
      have := HJS.out
      rwa [List.take_length] at this

/-- **the iterator that lying hands back** -/
theorem lySeq (n : Nat) (hn : 1 ≤ n) (Bb Bs m bb ab mb nn s : Nat) (vs vf v0 v1 : Value) (rs : List Sot) (fr : List Nat) (S : Nat → List Ly) (hs : s < 2) (hlen : (S s).length ≤ 1000)
    (hth : ∀ x ∈ S s, soAt rs x.slot = (some x.o, x.age)) (hm : ∀ k, pbB bb ab mb vs vf v0 v1 k → k < m)
    (w : World) (hmW : m ≤ w.heap.size) (hB : BookAt w bb ab mb nn vs vf v0 v1 rs fr S) (hbb : w.heap[Bb]? = some (.cells #[.pointer (some ⟨bb, 0, none⟩)] 34 (0, 0))) (hbs : w.heap[Bs]? = some (.cells #[.int .i64 s] 3 (0, 0))) :
    SeqStopsK Fence.wide n Try.prog 59 #[.pointer (some ⟨Bb, 0, none⟩), .pointer (some ⟨Bs, 0, none⟩)] (fun x : Ord => #[Ord.agg x]) (KpL m Bb) (fun ys => ys = (S s).map Ly.o) (fun pre => pre <+: (S s).map Ly.o) (S s).length w :=
  fun l J Jx W hW hJ _ hY h0 => lyIt n hn l Bb Bs m bb ab mb nn s vs vf v0 v1 rs fr S J Jx hs hlen hth hm W (Nat.le_trans hmW hW.size) (hB.below hW (Nat.le_refl _)) (blk_below hbb hW (Nat.le_refl _)) (blk_cell (j := 0) (blk_below hbs hW (Nat.le_refl _)) rfl) hJ hY h0

set_option maxHeartbeats 1000000 in
theorem lying_any (bb : Nat) (s : Int) (w : World) : Calls Try.prog 40 #[.pointer (some ⟨bb, 0, none⟩), .int .i64 s] w fun e w' => e = .returned (.func (.func 59) #[] #[.pointer (some ⟨w.heap.size, 0, none⟩), .pointer (some ⟨w.heap.size + 1, 0, none⟩)])
    ∧ w' = (w.alloc (.cells #[.pointer (some ⟨bb, 0, none⟩)] 34)).alloc (.cells #[.int .i64 s] 3) := by
  go_enter Try.func40, Try.ntmps40
  go_wp2
  go_ret
  exact ⟨rfl, rfl⟩
set_option maxHeartbeats 1000000 in
theorem isSide_any (s : Int) (w : World) : Calls Try.prog 34 #[.int .i64 s] w fun e w' => e = .returned (.bool (s == 1 || s == 2)) ∧ w' = w := by
  cases h1 : (s == 1) with
  | true =>
    go_enter Try.func34, Try.ntmps34
    go_wp2
    go_ret
    exact ⟨rfl, rfl⟩
  | false =>
    cases h2 : (s == 2) with
    | true =>
      go_enter Try.func34, Try.ntmps34
      go_wp2
      go_ret
      exact ⟨rfl, rfl⟩
    | false =>
      go_enter Try.func34, Try.ntmps34
      go_wp2
      go_ret
      exact ⟨rfl, rfl⟩
end Go.Proofs.Ytcoijhofliilmab

/-
  What the program's Side returns (by slices.Collect and slices.AppendSeq over the iterator), over this seat's translation. Conditions stand in each theorem.
-/
namespace Go.Proofs.Ytcoijhofliilmab
open Go.RowKit Go.Shelf

attribute [local go_sem] Oper.semAt_some

theorem blk_kept {W W' : World} {row : Option Nat} {b : Nat} {vs : Array Value} {t : TypeId} {f : Nat × Nat} (h : W.heap[b]? = some (.cells vs t f)) (hg : W.grownBy W' row) (hr : ∀ r, row = some r → ∃ o : Obj, W.heap[r]? = some o ∧ o.isCells = false) : W'.heap[b]? = some (.cells vs t f) :=
  (hg.block b (lt_of_block h) (fun e => by
    obtain ⟨o, ho, hc⟩ := hr b e.symm
    rw [h] at ho; injection ho with ho; subst ho; cases hc)).trans h
/-- an order's cells in a block of their own -/
def OrdAt (W : World) (b : Nat) (x : Ord) : Prop := W.heap[b]? = some (.cells #[.int .i64 x.id, .int .i64 x.side, .int .i64 x.kind, .int .i64 x.price, .int .i64 x.qty] 40 (0, 0))

theorem Try.infoO : (Try.prog.info? 40).map (fun i => (i.zero, i.size, i.bytes)) = some (some (.agg #[.int .i64 0, .int .i64 0, .int .i64 0, .int .i64 0, .int .i64 0]), 5, 40) := by kernel_rfl
theorem oV_snoc (l : List Ord) (x : Ord) : oV (l ++ [x]) = oV l ++ [.int .i64 x.id, .int .i64 x.side, .int .i64 x.kind, .int .i64 x.price, .int .i64 x.qty] := by rw [oV_append]; rfl

set_option maxRecDepth 100000 in
set_option maxHeartbeats 4000000 in
theorem appendSeq_any (Bb Bs bb ab mb nn s : Nat) (vs vf v0 v1 : Value) (rs : List Sot) (fr : List Nat) (S : Nat → List Ly) (hs : s < 2) (hlen : (S s).length ≤ 1000)
    (hth : ∀ x ∈ S s, soAt rs x.slot = (some x.o, x.age)) (w : World) (hB : BookAt w bb ab mb nn vs vf v0 v1 rs fr S) (hbb : w.heap[Bb]? = some (.cells #[.pointer (some ⟨bb, 0, none⟩)] 34 (0, 0))) (hbs : w.heap[Bs]? = some (.cells #[.int .i64 s] 3 (0, 0))) :
    Calls Try.prog 58 #[.slice none 0 0, .func (.func 59) #[] #[.pointer (some ⟨Bb, 0, none⟩), .pointer (some ⟨Bs, 0, none⟩)]] w
      fun e W' => ∃ v, e = .returned v ∧ W'.ownsRow w.heap.size 40 5 v (S s).length (oV ((S s).map Ly.o)) ∧ Below w.heap.size w W' := by
  obtain ⟨i0, hi, hz0, hz1, hz2⟩ := info_parts Try.infoO
  refine (callsIn_wide (n := 4)).1 ?_
  refine callsIn_of_wp_marks Try.func58 rfl trivial ?_ rfl
  simp only [Try.ntmps58, List.size_toArray, List.length_cons, List.length_nil, Nat.reduceAdd, Nat.reduceSub, Array.replicate_succ, Array.replicate_zero, List.push_toArray, List.append_toArray, List.nil_append, List.cons_append]
  gi_wp2_with fail
  have bO := Boxed.new w 22 (.slice none 0 0)
  have hB0 := bel1 w (.cells #[.slice none 0 0] 22)
  have HK : ∀ k, pbB bb ab mb vs vf v0 v1 k → k < w.heap.size := fun k hk => hB.lt hk
  have lBb := lt_of_block hbb
  obtain ⟨W0, hW0⟩ : ∃ W0, w.alloc (.cells #[.slice none 0 0] 22) = W0 := ⟨_, rfl⟩
  have hsz : W0.heap.size = w.heap.size + 1 := by rw [← hW0]; simp
  rw [hW0] at bO hB0 ⊢
  clear hW0
  refine wpIn_rangeFunc_ownH (F := Fence.wide) (n := 4) rfl (by decide) (gf := 59) (lb := #[.pointer (some ⟨Bb, 0, none⟩), .pointer (some ⟨Bs, 0, none⟩)]) rfl trivial (enters_of Try.func59 (by kernel_rfl) rfl)
    (lySeq 3 (by decide) Bb Bs w.heap.size bb ab mb nn s vs vf v0 v1 rs fr S hs hlen hth HK W0 (by omega) (hB.below hB0 (Nat.le_refl _)) (blk_below hbb hB0 (Nat.le_refl _)) (blk_below hbs hB0 (Nat.le_refl _))) kpl_t (kpl_b (by omega)) (Below.refl _ _) (fun _ => rfl)
    (fun pre W => (∃ v, Boxed W w.heap.size 22 v ∧ W.ownsRow w.heap.size 40 5 v pre.length (oV pre) ∧ True) ∧ Below w.heap.size w W)
    (fun _ _ _ => False)
    (OwnFrom.and (Own.from (holdsRow_own w.heap.size w.heap.size 22 40 5 (fun pre => pre.length) (fun pre => oV pre) (fun _ _ => True)) _) (ownFrom_below (Nat.le_refl _) (by omega)))
    (fun _ _ _ _ _ hs _ _ => hs)
    ⟨⟨_, bO, World.ownsRow_nil _ _ _ _, trivial⟩, hB0⟩
    (fun x a' W => ∃ Bx, w.heap.size < Bx ∧ OrdAt W Bx x ∧ a' = { tmps := #[.slice none 0 0, .func (.func 59) #[] #[.pointer (some ⟨Bb, 0, none⟩), .pointer (some ⟨Bs, 0, none⟩)], .pointer (some ⟨w.heap.size, 0, none⟩), undef, .slice none 0 0, .pointer (some ⟨Bx, 0, none⟩), .func (.func 59) #[] #[.pointer (some ⟨Bb, 0, none⟩), .pointer (some ⟨Bs, 0, none⟩)], Ord.agg x, undef, undef, undef, undef, undef], defers := [] })
    (fun x a' _ X Y row hs hg hr => by obtain ⟨Bx, h1, h2, h3⟩ := hs; exact ⟨Bx, h1, blk_kept h2 hg (fun r e => (hr r e).2), h3⟩)
    ?assign ?body ?done ?stop
  case assign =>
    rintro l pre x W K ⟨⟨v, hv, hrow, _⟩, hBW⟩ hK
    unfold Ord.agg at hK ⊢
    gi_wp2
    refine hK _ _ ((KeepsOthers.alloc _ _).from _) (KpL.of_below (bel1 _ _) hBW.size) ⟨⟨v, hv.alloc _, hrow.alloc _, trivial⟩, hBW.alloc hBW.size _⟩ ⟨W.heap.size, hv.lt, heap_alloc_new _ _, rfl⟩
  case body =>
    rintro l pre x a' W hl ⟨r, hr⟩ ⟨⟨v, hv, hrow, _⟩, hBW⟩ ⟨Bx, hBx, bX, rfl⟩ hlt
    have hc := hv.cell
    have c0 := blk_cell (j := 0) bX rfl
    have c1 := blk_cell (j := 1) bX rfl
    have c2 := blk_cell (j := 2) bX rfl
    have c3 := blk_cell (j := 3) bX rfl
    have c4 := blk_cell (j := 4) bX rfl
    have HBS := hBW.size
    unfold Ord.agg
    gi_wp2_with (gi_at_builtin; refine wpListIn_append_own _ rfl _ _ 22 rfl w.heap.size 40 i0 (.agg #[.int .i64 0, .int .i64 0, .int .i64 0, .int .i64 0, .int .i64 0]) 5 40 Try.underlying22 hi hz0 hz1 hz2 rfl (by decide) _ _ _ rfl (hrow.alloc _) ⟨W.heap.size, 0, none⟩ 1 1 [.int .i64 x.id, .int .i64 x.side, .int .i64 x.kind, .int .i64 x.price, .int .i64 x.qty] rfl rfl (World.news_of_block (cs := #[.int .i64 x.id, .int .i64 x.side, .int .i64 x.kind, .int .i64 x.price, .int .i64 x.qty]) (t := 40) (fr := (0, 0)) (heap_alloc_new W _)) (by simp [Value.oneCell']) (by unfold maxLen; omega) (by omega) (by simp; omega) ?_; intro v' w1 hown' hgrow _; obtain ⟨g', cap', rfl⟩ := ownsRow_succ hown'; obtain ⟨hv1, hv2, hr2, hk2, hb2⟩ := hv.appended (by decide) hrow hBW.size (Nat.le_refl _) hown' hgrow; have hc1 := hv1.cell; have hf1 := hv1.frozen)
    exact ⟨hk2.from _, ⟨hb2, fun _ _ e => (hb2.block Bb lBb).trans e⟩, ⟨_, hv2, by rw [oV_snoc, List.length_append]; exact hr2, trivial⟩, hBW.trans hb2⟩
  case done =>
    rintro D ys W hD rfl ⟨⟨v, hv, hrow, _⟩, hBW⟩ hK
    have hc := hv.cell
    gi_wp2
    refine ⟨by simp, .inl ⟨_, _, rfl, run_takeDeferred hK, ?_⟩⟩
    exact ⟨_, results_tmp rfl _ _ _, v, rfl, by simpa using ownsRow_putObj hrow _ hK rfl, hBW.trans (belowK_b (w := w) (Nat.le_refl _) W D _ _ (by omega) hK rfl rfl)⟩
  case stop =>
    rintro D c pre W _ _ h _
    exact h.elim

set_option maxHeartbeats 1000000 in
theorem collect_any (Bb Bs bb ab mb nn s : Nat) (vs vf v0 v1 : Value) (rs : List Sot) (fr : List Nat) (S : Nat → List Ly) (hs : s < 2) (hlen : (S s).length ≤ 1000)
    (hth : ∀ x ∈ S s, soAt rs x.slot = (some x.o, x.age)) (w : World) (hB : BookAt w bb ab mb nn vs vf v0 v1 rs fr S) (hbb : w.heap[Bb]? = some (.cells #[.pointer (some ⟨bb, 0, none⟩)] 34 (0, 0))) (hbs : w.heap[Bs]? = some (.cells #[.int .i64 s] 3 (0, 0))) :
    Calls Try.prog 39 #[.func (.func 59) #[] #[.pointer (some ⟨Bb, 0, none⟩), .pointer (some ⟨Bs, 0, none⟩)]] w
      fun e W' => ∃ v, e = .returned v ∧ W'.ownsRow w.heap.size 40 5 v (S s).length (oV ((S s).map Ly.o)) ∧ Below w.heap.size w W' := by
  have H : Hid (BookAt w bb ab mb nn vs vf v0 v1 rs fr S) := hB
  have HT : Hid (∀ x ∈ S s, soAt rs x.slot = (some x.o, x.age)) := hth
  have H3 : Hid _ := hbb
  have H4 : Hid _ := hbs
  clear hB hbb hbs hth
  go_enter Try.func39, Try.ntmps39
  go_wp2_with fail
  refine (appendSeq_any Bb Bs bb ab mb nn s vs vf v0 v1 rs fr S hs hlen HT.out w H.out H3.out H4.out).mono ?_
  rintro e w1 ⟨v, rfl, h1, h2⟩
  have H1 : Hid _ := h1
  have H2 : Hid _ := h2
  clear h1 h2
  go_wp2
  go_ret
  exact ⟨v, rfl, H1.out, H2.out⟩

/-- 4.2, Side: its orders, the best first -/
theorem pbSide (bb ab mb nn s : Nat) (vs vf v0 v1 : Value) (rs : List Sot) (fr : List Nat) (S : Nat → List Ly) (hs : s < 2) (hlen : (S s).length ≤ 1000)
    (hth : ∀ x ∈ S s, soAt rs x.slot = (some x.o, x.age)) (w : World) (hB : BookAt w bb ab mb nn vs vf v0 v1 rs fr S) (side : Int) (hsd : side = (s : Int) + 1) :
    Calls Try.prog 14 #[.pointer (some ⟨bb, 0, none⟩), .int .i64 side] w
      fun e W' => ∃ v, e = .returned (.tuple #[v, .nilIface]) ∧ W'.ownsRow w.heap.size 40 5 v (S s).length (oV ((S s).map Ly.o)) ∧ Below w.heap.size w W' := by
  have hss : (side == 1 || side == 2) = true := by
    subst hsd
    match s, hs with
    | 0, _ => rfl
    | 1, _ => rfl
  have HS : Hid ((side == 1 || side == 2) = true) := hss
  have hsub : IntKind.i64.wrap (side - 1) = (s : Int) := by rw [hsd, show (s : Int) + 1 - 1 = s by omega]; exact IntWalk.i64_in _ (by omega)
  have H : Hid (BookAt w bb ab mb nn vs vf v0 v1 rs fr S) := hB
  have HT : Hid (∀ x ∈ S s, soAt rs x.slot = (some x.o, x.age)) := hth
  have HSD : Hid (side = (s : Int) + 1) := hsd
  clear hB hss hth hsd
  go_enter Try.func14, Try.ntmps14
  go_wp2_with fail
  refine (isSide_any side _).mono ?_
  rintro e w1 ⟨rfl, hw⟩
  replace hw := hw.symm
  subst hw
  rw [HS.out]
  go_wp2_with fail
  refine (lying_any bb _ _).mono ?_
  rintro e w1 ⟨rfl, rfl⟩
  go_wp2_with fail
  have hb := bel2 w (.cells #[.pointer (some ⟨bb, 0, none⟩)] 34) (.cells #[.int .i64 s] 3)
  refine (collect_any w.heap.size (w.heap.size + 1) bb ab mb nn s vs vf v0 v1 rs fr S hs hlen HT.out _ (H.out.below hb (Nat.le_refl _)) (two_old w _ _) (two_new w _ _)).mono ?_
  rintro e w2 ⟨v, rfl, h1, h2⟩
  have H1 : Hid _ := h1
  have H2 : Hid _ := h2
  clear h1 h2
  go_wp2
  go_ret2
  exact ⟨v, rfl, ⟨H1.out.1, H1.out.2.imp id (fun ⟨g, cap, cur, a, b, c⟩ => ⟨g, cap, cur, a, by simp at b; omega, c⟩)⟩, bel_then hb H2.out⟩
end Go.Proofs.Ytcoijhofliilmab

/-
  How many orders of a side a new one lies behind, over this seat's translation: the program's better and rank. Conditions stand in each theorem.
-/
namespace Go.Proofs.Ytcoijhofliilmab
open Go.RowKit Go.Shelf

attribute [local go_sem] Oper.semAt_some

/-- is the order o better than x, of its side, whichever is older -/
def betterO (o x : Ord) : Bool := if x.kind = 2 then false else if o.kind = 2 then true else if o.side = 1 then decide (x.price < o.price) else decide (o.price < x.price)
def rankN (o : Ord) (l : List Ord) : Nat := (l.takeWhile fun y => !betterO o y).length
theorem rankN_le (o : Ord) (l : List Ord) : rankN o l ≤ l.length := (List.takeWhile_prefix _).length_le
theorem rankN_all {o : Ord} {l : List Ord} (h : ∀ y ∈ l, betterO o y = false) : rankN o l = l.length := by
  unfold rankN
  congr 1
  induction l with
  | nil => rfl
  | cons a l ih => rw [List.takeWhile_cons, h a (by simp)]; simp [ih (fun y hy => h y (by simp [hy]))]
theorem rankN_stop {o x : Ord} {p l : List Ord} (hl : p ++ [x] <+: l) (h : ∀ y ∈ p, betterO o y = false) (hx : betterO o x = true) : rankN o l = p.length := by
  obtain ⟨r, rfl⟩ := hl
  unfold rankN
  rw [List.append_assoc]
  induction p with
  | nil => simp [hx]
  | cons a p ih => rw [List.cons_append, List.takeWhile_cons, h a (by simp)]; simp; simpa using ih (fun y hy => h y (by simp [hy]))

theorem keeps_below {W W' : World} (h : Below W.heap.size W W') : KeepsOthers W W' := KeepsOthers.of_grownBy (grown_of_below h) (fun j o e => by cases e)

set_option maxHeartbeats 2000000 in
theorem better_any (o x : Ord) (w : World) : Calls Try.prog 57 #[o.agg, x.agg] w fun e w' => e = .returned (.bool (betterO o x)) ∧ Below w.heap.size w w' := by
  unfold Ord.agg
  by_cases h1 : x.kind = 2
  · have HR : Hid (betterO o x = false) := if_pos h1
    go_enter Try.func57, Try.ntmps57
    go_wp2
    go_ret
    exact ⟨by rw [HR.out]; rfl, bel2 _ _ _⟩
  have b1 : (x.kind == 2) = false := beq_eq_false_iff_ne.2 h1
  by_cases h2 : o.kind = 2
  · have HR : Hid (betterO o x = true) := by show _ = _; unfold betterO; rw [if_neg h1, if_pos h2]
    clear h1
    go_enter Try.func57, Try.ntmps57
    go_wp2
    go_ret
    exact ⟨by rw [HR.out]; rfl, bel2 _ _ _⟩
  have b2 : (o.kind == 2) = false := beq_eq_false_iff_ne.2 h2
  by_cases h3 : o.side = 1
  · have HR : Hid (betterO o x = decide (x.price < o.price)) := by show _ = _; unfold betterO; rw [if_neg h1, if_neg h2, if_pos h3]
    clear h1 h2
    go_enter Try.func57, Try.ntmps57
    go_wp2
    go_ret
    exact ⟨by rw [HR.out]; rfl, bel2 _ _ _⟩
  have b3 : (o.side == 1) = false := beq_eq_false_iff_ne.2 h3
  have HR : Hid (betterO o x = decide (o.price < x.price)) := by show _ = _; unfold betterO; rw [if_neg h1, if_neg h2, if_neg h3]
  clear h1 h2 h3
  go_enter Try.func57, Try.ntmps57
  go_wp2
  go_ret
  exact ⟨by rw [HR.out]; rfl, bel2 _ _ _⟩

set_option maxRecDepth 100000 in
set_option maxHeartbeats 4000000 in
theorem rank_any (bb ab mb nn s : Nat) (vs vf v0 v1 : Value) (rs : List Sot) (fr : List Nat) (S : Nat → List Ly) (o : Ord) (hs : s < 2) (hlen : (S s).length ≤ 1000)
    (hth : ∀ x ∈ S s, soAt rs x.slot = (some x.o, x.age)) (w : World) (hB : BookAt w bb ab mb nn vs vf v0 v1 rs fr S) :
    Calls Try.prog 38 #[.pointer (some ⟨bb, 0, none⟩), .int .i64 s, o.agg] w fun e W' => e = .returned (.int .i64 (rankN o ((S s).map Ly.o))) ∧ Below w.heap.size w W' := by
  refine (callsIn_wide (n := 4)).1 ?_
  unfold Ord.agg
  refine callsIn_of_wp_marks Try.func38 rfl trivial ?_ rfl
  simp only [Try.ntmps38, List.size_toArray, List.length_cons, List.length_nil, Nat.reduceAdd, Nat.reduceSub, Array.replicate_succ, Array.replicate_zero, List.push_toArray, List.append_toArray, List.nil_append, List.cons_append]
  gi_wp2_with fail
  refine ⟨trivial, (callsIn_wide.2 (lying_any bb _ _)).mono ?_⟩
  rintro e w' ⟨rfl, rfl⟩
  gi_wp2_with fail
  have hB1 := bel2 w (.cells #[.int .i64 o.id, .int .i64 o.side, .int .i64 o.kind, .int .i64 o.price, .int .i64 o.qty] 40) (.cells #[.int .i64 0] 3)
  have bO := two_old w (.cells #[.int .i64 o.id, .int .i64 o.side, .int .i64 o.kind, .int .i64 o.price, .int .i64 o.qty] 40) (.cells #[.int .i64 0] 3)
  have bN := two_new w (.cells #[.int .i64 o.id, .int .i64 o.side, .int .i64 o.kind, .int .i64 o.price, .int .i64 o.qty] 40) (.cells #[.int .i64 0] 3)
  obtain ⟨w2, hw2⟩ : ∃ w2, (w.alloc (.cells #[.int .i64 o.id, .int .i64 o.side, .int .i64 o.kind, .int .i64 o.price, .int .i64 o.qty] 40)).alloc (.cells #[.int .i64 0] 3) = w2 := ⟨_, rfl⟩
  have hz2 : w2.heap.size = w.heap.size + 2 := by rw [← hw2]; simp
  rw [hw2] at hB1 bO bN ⊢
  clear hw2
  have hB2 := bel2 w2 (.cells #[.pointer (some ⟨bb, 0, none⟩)] 34) (.cells #[.int .i64 s] 3)
  have bB := two_old w2 (.cells #[.pointer (some ⟨bb, 0, none⟩)] 34) (.cells #[.int .i64 s] 3)
  have bS := two_new w2 (.cells #[.pointer (some ⟨bb, 0, none⟩)] 34) (.cells #[.int .i64 s] 3)
  obtain ⟨W0, hW0⟩ : ∃ W0, (w2.alloc (.cells #[.pointer (some ⟨bb, 0, none⟩)] 34)).alloc (.cells #[.int .i64 s] 3) = W0 := ⟨_, rfl⟩
  have hsz : W0.heap.size = w.heap.size + 4 := by rw [← hW0]; simp; omega
  rw [hW0] at hB2 bB bS ⊢
  clear hW0
  have bO := blk_below bO hB2 (Nat.le_refl _)
  have bN := blk_below bN hB2 (Nat.le_refl _)
  have hB0 : Below w.heap.size w W0 := bel_then hB1 hB2
  rw [hz2] at bB bS
  have HK : ∀ k, pbB bb ab mb vs vf v0 v1 k → k < w.heap.size := fun k hk => hB.lt hk
  clear hB1 hB2
  refine wpIn_rangeFunc_ownH (F := Fence.wide) (n := 4) rfl (by decide) (gf := 59) (lb := #[.pointer (some ⟨w.heap.size + 2, 0, none⟩), .pointer (some ⟨w.heap.size + 2 + 1, 0, none⟩)]) rfl trivial (enters_of Try.func59 (by kernel_rfl) rfl)
    (lySeq 3 (by decide) (w.heap.size + 2) (w.heap.size + 2 + 1) w.heap.size bb ab mb nn s vs vf v0 v1 rs fr S hs hlen hth HK W0 (by omega) (hB.below hB0 (Nat.le_refl _)) bB bS) kpl_t (kpl_b (by omega)) (Below.refl _ _) (fun _ => rfl)
    (fun pre W => (OrdAt W w.heap.size o ∧ W.heap[w.heap.size + 1]? = some (.cells #[.int .i64 pre.length] 3 (0, 0)) ∧ (∀ y ∈ pre, betterO o y = false)) ∧ Below w.heap.size w W)
    (fun c pre W => (c = .exit 0 ∧ ∃ p x, pre = p ++ [x] ∧ (∀ y ∈ p, betterO o y = false) ∧ betterO o x = true ∧ W.heap[w.heap.size + 1]? = some (.cells #[.int .i64 p.length] 3 (0, 0))) ∧ Below w.heap.size w W)
    (OwnFrom.and (Own.from (fun s A B row hs hg hr => ⟨blk_kept hs.1 hg hr, blk_kept hs.2.1 hg hr, hs.2.2⟩) _) (ownFrom_below (Nat.le_refl _) (by omega)))
    (fun c => OwnFrom.and (Own.from (fun s A B row hs hg hr => by obtain ⟨g0, p, x, g1, g2, g3, g4⟩ := hs; exact ⟨g0, p, x, g1, g2, g3, blk_kept g4 hg hr⟩) _) (ownFrom_below (Nat.le_refl _) (by omega)))
    ⟨⟨bO, bN, fun y hy => by cases hy⟩, hB0⟩
    (fun x a' W => ∃ Bx, OrdAt W Bx x ∧ a' = { tmps := #[.pointer (some ⟨bb, 0, none⟩), .int .i64 s, Ord.agg o, undef, undef, .pointer (some ⟨w.heap.size, 0, none⟩), .int .i64 0, .pointer (some ⟨w.heap.size + 1, 0, none⟩), .pointer (some ⟨Bx, 0, none⟩), .pointer (some ⟨bb, 0, none⟩), .int .i64 s, .func (.func 59) #[] #[.pointer (some ⟨w.heap.size + 2, 0, none⟩), .pointer (some ⟨w.heap.size + 2 + 1, 0, none⟩)], Ord.agg x, undef, undef, undef, undef, undef, undef], defers := [] })
    (fun x a' _ X Y row hs hg hr => by obtain ⟨Bx, h2, h3⟩ := hs; exact ⟨Bx, blk_kept h2 hg (fun r e => (hr r e).2), h3⟩)
    ?assign ?body ?done ?stop
  case assign =>
    rintro l pre x W K ⟨⟨h1, h2, h3⟩, hBW⟩ hK
    have lS := hBW.size
    unfold Ord.agg at hK ⊢
    gi_wp2
    refine hK _ _ ((KeepsOthers.alloc _ _).from _) (KpL.of_below (bel1 _ _) lS) ⟨⟨blk_below h1 (bel1 _ _) (Nat.le_refl _), blk_below h2 (bel1 _ _) (Nat.le_refl _), h3⟩, hBW.alloc hBW.size _⟩ ⟨W.heap.size, heap_alloc_new _ _, rfl⟩
  case body =>
    rintro l pre x a' W hl ⟨r, hr⟩ ⟨⟨h1, h2, h3⟩, hBW⟩ ⟨Bx, bX, rfl⟩ hlt
    have c0 := blk_cell (j := 0) bX rfl
    have c1 := blk_cell (j := 1) bX rfl
    have c2 := blk_cell (j := 2) bX rfl
    have c3 := blk_cell (j := 3) bX rfl
    have c4 := blk_cell (j := 4) bX rfl
    have d0 := blk_cell (j := 0) h1 rfl
    have d1 := blk_cell (j := 1) h1 rfl
    have d2 := blk_cell (j := 2) h1 rfl
    have d3 := blk_cell (j := 3) h1 rfl
    have d4 := blk_cell (j := 4) h1 rfl
    have H1 : Hid _ := h1
    have H2 : Hid _ := h2
    have HBW : Hid (Below w.heap.size w W) := hBW
    clear h1 h2 hBW bX hr
    unfold Ord.agg
    gi_wp2_with fail
    refine ⟨trivial, (CallsIn.inRound l (callsIn_wide.2 (better_any o x _))).mono ?_⟩
    rintro e W1 ⟨rfl, hb1⟩
    have hn1 := blk_below H2.out hb1 (Nat.le_refl _)
    have e0 := blk_cell (j := 0) hn1 rfl
    have e1 := blk_free (j := 0) hn1
    cases hbt : betterO o x with
    | true =>
      gi_wp2_with fail
      exact ⟨(keeps_below hb1).from _, ⟨rfl, pre, x, rfl, h3, hbt, hn1⟩, HBW.out.trans (hb1.mono HBW.out.size)⟩
    | false =>
      gi_wp2_with fail
      have ho1 := blk_below H1.out hb1 (Nat.le_refl _)
      refine ⟨((keeps_below hb1).trans (KeepsOthers.setCell _ _ _)).from _, ⟨(hb1.mono HBW.out.size).setCell (p := ⟨w.heap.size + 1, 0, none⟩) (by simp) _, fun vs t e => ?_⟩, ⟨blk_out ho1 (out_set _ ⟨w.heap.size + 1, 0, none⟩ _) (by simp), ?_, fun y hy => ?_⟩, (HBW.out.trans (hb1.mono HBW.out.size)).setCell (p := ⟨w.heap.size + 1, 0, none⟩) (by simp) _⟩
      · exact blk_out (blk_below e hb1 (Nat.le_refl _)) (out_set _ ⟨w.heap.size + 1, 0, none⟩ _) (by simp)
      · rw [List.length_append]; exact blk_set (j := 0) _ hn1
      · rcases List.mem_append.1 hy with hy | hy
        · exact h3 y hy
        · simp at hy; subst hy; exact hbt
  case done =>
    rintro D ys W hD rfl ⟨⟨h1, h2, h3⟩, hBW⟩ hK
    have hc := blk_cell (j := 0) h2 rfl
    gi_wp2
    refine ⟨by simp, .inl ⟨_, _, rfl, run_takeDeferred hK, ?_⟩⟩
    exact ⟨_, results_tmp rfl _ _ _, by rw [rankN_all h3, List.length_map]; rfl, hBW.trans (belowK_b (w := w) (Nat.le_refl _) W D _ _ (by omega) hK rfl rfl)⟩
  case stop =>
    rintro D c pre W hD hpre ⟨⟨rfl, p, x, rfl, h1, h2, h3⟩, hBW⟩ hK
    have hc := blk_cell (j := 0) h3 rfl
    gi_wp2
    refine ⟨by simp, .inl ⟨_, _, rfl, run_takeDeferred hK, ?_⟩⟩
    exact ⟨_, results_tmp rfl _ _ _, by rw [rankN_stop hpre h1 h2]; rfl, hBW.trans (belowK_b (w := w) (Nat.le_refl _) W D _ _ (by omega) hK rfl rfl)⟩
end Go.Proofs.Ytcoijhofliilmab
