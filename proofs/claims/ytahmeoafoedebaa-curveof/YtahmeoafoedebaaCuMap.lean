/-
  The program's map of the lots of each price, and what it holds behind each order; what counts and and return, over this seat's translation. Conditions stand in each theorem.
-/
import Derived.Test.YtahmeoafoedebaaCuWay
import Derived.Test.YtahmeoafoedebaaCuIn
import Derived.Maps.OwnSet
import Derived.Maps.RangeWalk
import Derived.Lib.SlKeysI
namespace Go.Proofs.Ytahmeoafoedebaa
open Go.RowKit

theorem Try.keyInt : Maps.Keyed Try.prog 3 := Maps.int_keyed Try.underlying3
theorem Try.keyIs {a : Int} (h : (Lit.int .i64 a).wf = true) : keyOf Try.prog 3 (.int .i64 a) = some (.int .i64 a) := Maps.keyOf_int_mk Try.underlying3 h
theorem Try.zeroLots (w : World) : (zeroValue 108).run Try.prog w = .ok (.agg #[.int .i64 0, .int .i64 0]) w := by kernel_rfl
def lotR (v : Value) : Option (DataW Unit × List MemPlace) :=
  match v with
  | .agg ⟨[.int .i64 a, .int .i64 b]⟩ => some (.agg [.lit (.int .i64 a), .lit (.int .i64 b)], [])
  | _ => none
def lotE (a b : Int) : DataW Unit := .agg [.lit (.int .i64 a), .lit (.int .i64 b)]
theorem lotR_mk (a b : Int) : lotR (.agg #[.int .i64 a, .int .i64 b]) = some (lotE a b, []) := rfl
theorem lotR_shape {v : Value} {y : DataW Unit × List MemPlace} (h : lotR v = some y) : ∃ a b : Int, v = .agg #[.int .i64 a, .int .i64 b] ∧ y = (lotE a b, []) := by
  unfold lotR at h
  split at h
  · rename_i a b
    exact ⟨a, b, rfl, by simpa [lotE] using h.symm⟩
  · cases h
theorem lotE_inj {a b a' b' : Int} (h : lotE a b = lotE a' b') : a = a' ∧ b = b' := by simpa [lotE] using h
theorem lotR_inv {v : Value} {a b : Int} {ps : List MemPlace} (h : lotR v = some (lotE a b, ps)) : v = .agg #[.int .i64 a, .int .i64 b] := by
  obtain ⟨a', b', rfl, e⟩ := lotR_shape h
  obtain ⟨rfl, rfl⟩ := lotE_inj (Prod.mk.injEq .. ▸ e : lotE a b = lotE a' b' ∧ ps = []).1
  rfl
/-- the lots of each price, of some orders; and a price more -/
def LotD (D : DataW Unit) (l : List Ord) (more : Int) : Prop :=
  (∀ p, D.atKey (.int .i64 p) (lotE 0 0) = lotE (sumQ (limBB p) l) (sumQ (limSB p) l)) ∧ ∀ p, Maps.has D (.int .i64 p) = true ↔ p ∈ pricesO l more
theorem key_lit (a : Int) : WideAt.IsKeyLit (Lit.int .i64 a) := trivial
theorem key_ne {a b : Int} (h : a ≠ b) : (Lit.int .i64 a) ≠ Lit.int .i64 b := fun e => h (by injection e)
theorem LotD.start {more : Int} (h : ¬ 0 < more) : LotD (.map []) [] more := by
  refine ⟨fun p => rfl, fun p => ?_⟩
  rw [pricesO_mem]
  constructor
  · intro e; cases e
  · rintro (⟨h1, _⟩ | ⟨o, ho, _⟩)
    · exact absurd h1 h
    · cases ho
theorem LotD.more {more : Int} (h : 0 < more) : LotD ((DataW.map []).put (.int .i64 more) (lotE 0 0)) [] more := by
  refine ⟨fun p => ?_, fun p => ?_⟩
  · by_cases e : p = more
    · subst e; exact Maps.atKey_put_same ⟨_, rfl⟩ (key_lit _) _ _
    · rw [Maps.atKey_put_other (key_ne e)]; rfl
  · rw [pricesO_mem]
    by_cases e : p = more
    · subst e
      rw [Maps.has_put_same ⟨_, rfl⟩ (key_lit _)]
      simp [h]
    · rw [Maps.has_put_other (key_ne e)]
      constructor
      · intro e'; cases e'
      · rintro (⟨_, h1⟩ | ⟨o, ho, _⟩)
        · exact absurd h1 e
        · cases ho
theorem sumQ_snoc (q : Ord → Bool) (l : List Ord) (o : Ord) : sumQ q (l ++ [o]) = sumQ q l + (if q o = true then o.qty else 0) := by
  unfold sumQ; rw [List.map_append, List.map_singleton, sum_snoc]
theorem pricesO_snoc {l : List Ord} {more : Int} {o : Ord} {p : Int} : p ∈ pricesO (l ++ [o]) more ↔ (p ∈ pricesO l more ∨ (namesO o = true ∧ o.price = p)) := by
  rw [pricesO_mem, pricesO_mem]
  constructor
  · rintro (h | ⟨x, hx, h1, h2⟩)
    · exact Or.inl (Or.inl h)
    · rw [List.mem_append, List.mem_singleton] at hx
      rcases hx with hx | rfl
      · exact Or.inl (Or.inr ⟨x, hx, h1, h2⟩)
      · exact Or.inr ⟨h1, h2⟩
  · rintro ((h | ⟨x, hx, h1, h2⟩) | ⟨h1, h2⟩)
    · exact Or.inl h
    · exact Or.inr ⟨x, by simp [hx], h1, h2⟩
    · exact Or.inr ⟨o, by simp, h1, h2⟩
theorem LotD.same {D : DataW Unit} {l : List Ord} {more : Int} {o : Ord} (h : LotD D l more) (hk : o.kind = 2) : LotD D (l ++ [o]) more := by
  have hn : namesO o = false := by unfold namesO; simp [hk]
  refine ⟨fun p => ?_, fun p => ?_⟩
  · have e1 : limBB p o = false := by unfold limBB; simp [hk]
    have e2 : limSB p o = false := by unfold limSB; simp [hk]
    rw [h.1 p, sumQ_snoc, sumQ_snoc, e1, e2]; simp
  · rw [h.2 p, pricesO_snoc, hn]; simp
theorem LotD.put {D : DataW Unit} {l : List Ord} {more : Int} {o : Ord} (h : LotD D l more) (hD : Maps.IsMap D) (hn : namesO o = true) :
    LotD (D.put (.int .i64 o.price) (lotE (sumQ (limBB o.price) (l ++ [o])) (sumQ (limSB o.price) (l ++ [o])))) (l ++ [o]) more := by
  refine ⟨fun p => ?_, fun p => ?_⟩
  · by_cases e : p = o.price
    · subst e; exact Maps.atKey_put_same hD (key_lit _) _ _
    · have e1 : limBB p o = false := by unfold limBB; simp [Ne.symm e]
      have e2 : limSB p o = false := by unfold limSB; simp [Ne.symm e]
      rw [Maps.atKey_put_other (key_ne e), h.1 p, sumQ_snoc, sumQ_snoc, e1, e2]; simp
  · rw [pricesO_snoc]
    by_cases e : p = o.price
    · subst e
      rw [Maps.has_put_same hD (key_lit _)]
      simp [hn]
    · rw [Maps.has_put_other (key_ne e), h.2 p]
      constructor
      · exact Or.inl
      · rintro (h1 | ⟨_, h1⟩)
        · exact h1
        · exact absurd h1.symm e
/-- the map in memory -/
def LotsAt (w : World) (B : Nat) (l : List Ord) (more : Int) : Prop := ∃ D, w.ownsMap Try.prog 3 lotR B (l.length + 1) D ∧ Maps.IsMap D ∧ LotD D l more
theorem LotsAt.lt {w : World} {B : Nat} {l : List Ord} {more : Int} (h : LotsAt w B l more) : B < w.heap.size := by
  obtain ⟨D, ho, _⟩ := h; exact ho.lt
theorem LotsAt.block {w w' : World} {B : Nat} {l : List Ord} {more : Int} (h : LotsAt w B l more) (hb : w'.heap[B]? = w.heap[B]?) : LotsAt w' B l more := by
  obtain ⟨D, ⟨es, clock, e1, e2, e3, e4⟩, h2⟩ := h
  exact ⟨D, ⟨es, clock, hb.trans e1, e2, e3, e4⟩, h2⟩
theorem LotsAt.below {w w' : World} {B : Nat} {l : List Ord} {more : Int} (h : LotsAt w B l more) (hb : Below w.heap.size w w') : LotsAt w' B l more := h.block (hb.block B h.lt)
theorem LotsAt.look {w : World} {B : Nat} {l : List Ord} {more : Int} (h : LotsAt w B l more) {p : Int} (hp : (Lit.int .i64 p).wf = true) :
    (Instr.lookup 109 (.map (some B)) (.int .i64 p) false).run Try.prog w = .ok (.agg #[.int .i64 (sumQ (limBB p) l), .int .i64 (sumQ (limSB p) l)]) w := by
  obtain ⟨D, ho, hD, hL⟩ := h
  obtain ⟨v, ps, hrun, hv⟩ := ho.lookup Try.keyInt Try.underlying109 (Try.zeroLots w) (zd := lotE 0 0) (zp := []) rfl (Try.keyIs hp)
  rw [hL.1 p] at hv
  rw [hrun, lotR_inv hv]
theorem LotsAt.store {w : World} {B : Nat} {l : List Ord} {more : Int} {o : Ord} (h : LotsAt w B l more) (hn : namesO o = true) (hp : (Lit.int .i64 o.price).wf = true) (hl : l.length ≤ 1000) :
    ∃ w', (Instr.mapUpdate 109 (.map (some B)) (.int .i64 o.price) (.agg #[.int .i64 (sumQ (limBB o.price) (l ++ [o])), .int .i64 (sumQ (limSB o.price) (l ++ [o]))])).run Try.prog w = .ok () w' ∧ LotsAt w' B (l ++ [o]) more ∧ w.grownBy w' (some B) := by
  obtain ⟨D, ho, hD, hL⟩ := h
  obtain ⟨w', hr, ho', hg⟩ := ho.update Try.keyInt Try.underlying109 (by unfold maxLen; omega) (Try.keyIs hp) (lotR_mk _ _)
  refine ⟨w', hr, ⟨_, ?_, hD.put _ _, hL.put hD hn⟩, hg⟩
  rw [List.length_append, List.length_singleton]
  exact ho'
theorem LotsAt.same {w : World} {B : Nat} {l : List Ord} {more : Int} {o : Ord} (h : LotsAt w B l more) (hk : o.kind = 2) : LotsAt w B (l ++ [o]) more := by
  obtain ⟨D, ho, hD, hL⟩ := h
  exact ⟨D, ho.mono (by simp), hD, hL.same hk⟩

/-- how many with one order more -/
def andB (o : Ord) (a : Int) : Int := if o.side = 1 then a + o.qty else a
def andS (o : Ord) (b : Int) : Int := if o.side = 1 then b else b + o.qty
set_option maxHeartbeats 1000000 in
theorem cuAnd (a b : Int) (o : Ord) (w : World) (ha : -4000000000000000000 ≤ a ∧ a ≤ 4000000000000000000) (hb : -4000000000000000000 ≤ b ∧ b ≤ 4000000000000000000) (ho : -1000000 ≤ o.qty ∧ o.qty ≤ 1000000) :
    Calls Try.prog 53 #[.agg #[.int .i64 a, .int .i64 b], .agg #[.int .i64 o.id, .int .i64 o.side, .int .i64 o.kind, .int .i64 o.price, .int .i64 o.qty]] w fun e w' => e = .returned (.agg #[.int .i64 (andB o a), .int .i64 (andS o b)]) ∧ Below w.heap.size w w' := by
  obtain ⟨ha1, ha2⟩ := ha
  obtain ⟨hb1, hb2⟩ := hb
  obtain ⟨ho1, ho2⟩ := ho
  by_cases hs : o.side = 1
  · have HA : Hid (andB o a = a + o.qty ∧ andS o b = b) := ⟨if_pos hs, if_pos hs⟩
    go_enter Try.func53, Try.ntmps53
    go_wp2_with fail
    go_returns
    refine ⟨by rw [HA.out.1, HA.out.2], ?_⟩
    go_grown
  · have HA : Hid (andB o a = a ∧ andS o b = b + o.qty) := ⟨if_neg hs, if_neg hs⟩
    go_enter Try.func53, Try.ntmps53
    go_wp2_with fail
    go_returns
    refine ⟨by rw [HA.out.1, HA.out.2], ?_⟩
    go_grown
set_option maxHeartbeats 1000000 in
theorem cuCounts (o : Ord) (w : World) :
    Calls Try.prog 52 #[.agg #[.int .i64 o.id, .int .i64 o.side, .int .i64 o.kind, .int .i64 o.price, .int .i64 o.qty]] w fun e w' => e = .returned (.bool (okO o)) ∧ Below w.heap.size w w' := by
  have HO : Hid (okO o = (((o.side == 1) || (o.side == 2)) && (decide (1 ≤ o.qty) && decide (o.qty ≤ 1000000)))) := by
    show okO o = _
    unfold okO
    congr 1
    rw [Bool.eq_iff_iff, inC_iff]; simp; omega
  go_enter Try.func52, Try.ntmps52
  go_wp2_with fail
  all_goals
    go_ret
    refine ⟨?_, cu_bel1 w _⟩
    rw [HO.out]
    first | (simp [*]; done) | (simp [*]; omega)
end Go.Proofs.Ytahmeoafoedebaa
