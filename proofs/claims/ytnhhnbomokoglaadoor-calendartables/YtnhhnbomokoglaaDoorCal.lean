/-
  What package calendar's functions return, over this seat's translation: followers, wrong, New and Phase, told by plain functions over the rows as pairs of numbers (tabE: what is wrong first, and where; phaseV: the phase at a tick, and when the next one begins). Conditions stand in each theorem: where the rows lie, and that there are at most 60.
-/
import Derived.Test.YtnhhnbomokoglaaDoorRows
import Derived.WalkKit
import Derived.WalkSpells
import Derived.WalkLawsBesides
import Derived.Handy
import Derived.BigQuiet
import Derived.StillTailTactics
import Derived.Maps.OwnOps
import Derived.Maps.Views
namespace Go.Proofs.YtnhhnbomokoglaaDoor
open Go.RowKit

/-! what is said, over plain lists -/
def hasB : List Int → Int → Bool
  | [], _ => false
  | z :: r, x => x == z || hasB r x
theorem hasB_step {x : Int} {zs : List Int} {k : Nat} (h : k < zs.length) (hx : (x == zs[k]) = false) : hasB (zs.drop (k + 1)) x = hasB (zs.drop k) x := by
  rw [List.drop_eq_getElem_cons h]; simp [hasB, hx]
theorem hasB_hit {x : Int} {zs : List Int} {k : Nat} (h : k < zs.length) (hx : (x == zs[k]) = true) : hasB (zs.drop k) x = true := by
  rw [List.drop_eq_getElem_cons h]; simp [hasB, hx]
theorem hasB_end {x : Int} {zs : List Int} {k : Nat} (h : ¬ k < zs.length) : hasB (zs.drop k) x = false := by
  rw [List.drop_eq_nil_of_le (by omega)]; rfl

/-- 2.1: which phases may stand behind a phase. -/
def folL (p : Int) : List Int := if p = 1 then [2] else if p = 2 then [3] else if p = 3 then [5, 7] else if p = 5 then [7] else []
def wrongN (zs : List Int) (a0 a1 p1 : Int) : Int := if hasB zs p1 = true then (if a1 ≤ a0 then 10 else if 1000000 < a1 then 2 else 0) else 1

theorem cal_lt {w : World} {a : Addr} {v : Value} (h : w.cell? a = some v) : a.block < w.heap.size := by
  rcases Nat.lt_or_ge a.block w.heap.size with h' | h'
  · exact h'
  · simp [World.cell?, Array.getElem?_eq_none h'] at h
theorem cal_ret {a b : Int} (h : a = b) : Ending.returned (.int .i64 a) = .returned (.int .i64 b) := by rw [h]
theorem cal_retb {a b : Bool} (h : a = b) : Ending.returned (.bool a) = .returned (.bool b) := by rw [h]

def IntsAt (w : World) (v : Value) (zs : List Int) : Prop :=
  (zs = [] ∧ v = .slice none 0 0) ∨ ∃ b : Nat, v = .slice (some ⟨b, 0, none⟩) zs.length zs.length ∧ zs.length ≤ 1000 ∧ (∀ j, j < zs.length → w.cell? ⟨b, j, none⟩ = some (.int .i64 (zs.getD j 0)))
theorem IntsAt.below {w w' : World} {v : Value} {zs : List Int} {B : Nat} (h : IntsAt w v zs) (hb : Below B w w') (hB : w.heap.size ≤ B) : IntsAt w' v zs := by
  rcases h with h | ⟨b, h1, h2, h3⟩
  · exact Or.inl h
  · exact Or.inr ⟨b, h1, h2, fun j hj => (hb.cell (p := ⟨b, j, none⟩) (Nat.lt_of_lt_of_le (cal_lt (a := ⟨b, j, none⟩) (h3 j hj)) hB)).trans (h3 j hj)⟩

set_option maxHeartbeats 400000 in
theorem index_row (x : Int) (b : Nat) (zs : List Int) (w : World) (hbig : zs.length ≤ 1000)
    (hc : ∀ j, j < zs.length → w.cell? ⟨b, j, none⟩ = some (.int .i64 (zs.getD j 0))) :
    Calls Tryd.prog 27 #[.slice (some ⟨b, 0, none⟩) zs.length zs.length, .int .i64 x] w fun e w' => (∃ r : Int, e = .returned (.int .i64 r) ∧ decide (0 ≤ r) = hasB zs x) ∧ w' = w := by
  go_enter Tryd.func27, Tryd.ntmps27
  go_wp2
  go_loop [5, 8] (fun _ i => ∃ k : Nat, k ≤ zs.length ∧ i = .int .i64 k ∧ hasB (zs.drop k) x = hasB zs x) (fun _ i => zs.length - (intOf i).toNat)
  case atStart => exact ⟨0, Nat.zero_le _, rfl, rfl⟩
  case round =>
    obtain ⟨k, hk, rfl, hq⟩ := hrel
    have HQ : Hid (hasB (zs.drop k) x = hasB zs x) := hq
    clear hq
    have hcell : k < zs.length → w.cell? ⟨b, k, none⟩ = some (.int .i64 (zs.getD k 0)) := fun h => hc k h
    go_wp2
    · go_ret
      exact ⟨⟨_, rfl, by rw [← HQ.out, hasB_hit (by assumption) (by assumption)]; simp⟩, rfl⟩
    · go_round
      case rel => exact ⟨k + 1, by omega, by go_num, by rw [← HQ.out]; exact hasB_step (by assumption) (by assumption)⟩
      case measure => simp [intOf]; omega
    · go_ret
      exact ⟨⟨_, rfl, by rw [← HQ.out, hasB_end (by assumption)]; rfl⟩, rfl⟩

theorem index_nil (x : Int) (w : World) : Calls Tryd.prog 27 #[.slice none 0 0, .int .i64 x] w fun e w' => (∃ r : Int, e = .returned (.int .i64 r) ∧ decide (0 ≤ r) = hasB [] x) ∧ w' = w := by
  go_enter Tryd.func27, Tryd.ntmps27
  go_wp2_with fail
  refine wp_loop_rounds 1 ?_
  rw [rounds_succ]
  go_wp2
  go_ret
  exact ⟨⟨_, rfl, rfl⟩, rfl⟩

theorem index_any (x : Int) (v : Value) (zs : List Int) (w : World) (h : IntsAt w v zs) :
    Calls Tryd.prog 27 #[v, .int .i64 x] w fun e w' => (∃ r : Int, e = .returned (.int .i64 r) ∧ decide (0 ≤ r) = hasB zs x) ∧ w' = w := by
  rcases h with ⟨rfl, rfl⟩ | ⟨b, rfl, h1, h2⟩
  · exact index_nil x w
  · exact index_row x b zs w h1 h2

theorem contains_any (x : Int) (v : Value) (zs : List Int) (w : World) (h : IntsAt w v zs) :
    Calls Tryd.prog 25 #[v, .int .i64 x] w fun e w' => e = .returned (.bool (hasB zs x)) ∧ w' = w := by
  have HI : Hid (IntsAt w v zs) := h
  clear h
  go_enter Tryd.func25, Tryd.ntmps25
  go_wp2_with fail
  refine (index_any x v zs _ HI.out).mono ?_
  rintro e w1 ⟨⟨r, rfl, hr⟩, hw⟩
  subst hw
  have HR : Hid (decide (0 ≤ r) = hasB zs x) := hr
  clear hr
  go_wp2
  go_ret
  exact ⟨cal_retb HR.out, rfl⟩

set_option maxHeartbeats 400000 in
theorem wrong_any (v : Value) (zs : List Int) (a0 p0 a1 p1 : Int) (w : World) (h : IntsAt w v zs) :
    Calls Tryd.prog 22 #[v, .agg #[.int .i64 a0, .int .i64 p0], .agg #[.int .i64 a1, .int .i64 p1]] w fun e w' => e = .returned (.int .i64 (wrongN zs a0 a1 p1)) ∧ Below w.heap.size w w' := by
  have HI : Hid (IntsAt w v zs) := h
  clear h
  go_enter Tryd.func22, Tryd.ntmps22
  go_wp2_with fail
  refine (contains_any p1 v zs _ (HI.out.below (B := w.heap.size) (by go_grown) (Nat.le_refl _))).mono ?_
  rintro e w1 ⟨rfl, hw⟩
  subst hw
  cases hh : hasB zs p1 with
  | false =>
    go_wp2
    go_ret
    exact ⟨cal_ret (by unfold wrongN; rw [hh]; rfl), by go_grown⟩
  | true =>
    go_wp2
    all_goals go_ret
    · exact ⟨cal_ret (by unfold wrongN; rw [if_pos hh, if_pos (by assumption)]), by go_grown⟩
    · exact ⟨cal_ret (by unfold wrongN; rw [if_pos hh, if_neg (by omega), if_pos (by assumption)]), by go_grown⟩
    · exact ⟨cal_ret (by unfold wrongN; rw [if_pos hh, if_neg (by omega), if_neg (by omega)]), by go_grown⟩

/-! the map of what may follow -/
theorem Tryd.keyInt : Maps.Keyed Tryd.prog 3 := Maps.int_keyed Tryd.underlying3
theorem Tryd.keyIs {a : Int} (h : (Lit.int .i64 a).wf = true) : keyOf Tryd.prog 3 (.int .i64 a) = some (.int .i64 a) := Maps.keyOf_int_mk Tryd.underlying3 h
theorem Tryd.zeroInts (w : World) : (zeroValue 58).run Tryd.prog w = .ok (.slice none 0 0) w := by kernel_rfl

def folR (v : Value) : Option (DataW Unit × List MemPlace) :=
  match v with
  | .slice none 0 0 => some (.nil, [])
  | .slice (some ⟨b, 0, none⟩) n c => some (.agg [.lit (.int .i64 b), .lit (.int .i64 n), .lit (.int .i64 c)], [])
  | _ => none
def folE (b n : Nat) : DataW Unit := .agg [.lit (.int .i64 b), .lit (.int .i64 n), .lit (.int .i64 n)]
theorem folR_row (b n : Nat) : folR (.slice (some ⟨b, 0, none⟩) n n) = some (folE b n, []) := rfl
theorem folR_nil {v : Value} {ps : List MemPlace} (h : folR v = some (.nil, ps)) : v = .slice none 0 0 := by
  unfold folR at h
  split at h
  · rfl
  · simp at h
  · simp at h
theorem folR_inv {v : Value} {b n : Nat} {ps : List MemPlace} (h : folR v = some (folE b n, ps)) : v = .slice (some ⟨b, 0, none⟩) n n := by
  unfold folR at h
  split at h
  · simp [folE] at h
  · simp [folE] at h
    simp
    omega
  · simp at h
def folD (b1 b2 b3 b4 : Nat) : DataW Unit := ((((DataW.map []).put (.int .i64 1) (folE b1 1)).put (.int .i64 2) (folE b2 1)).put (.int .i64 3) (folE b3 2)).put (.int .i64 5) (folE b4 1)
theorem folD_at (b1 b2 b3 b4 : Nat) (key : Int) : (folD b1 b2 b3 b4).atKey (.int .i64 key) .nil = if key = 1 then folE b1 1 else if key = 2 then folE b2 1 else if key = 3 then folE b3 2 else if key = 5 then folE b4 1 else .nil := by
  have ne : ∀ a b : Int, a ≠ b → (Lit.int .i64 a) ≠ Lit.int .i64 b := fun a b h e => h (by injection e)
  have wf : ∀ a : Int, WideAt.IsKeyLit (Lit.int .i64 a) := fun a => trivial
  unfold folD
  by_cases h5 : key = 5
  · subst h5
    exact (Maps.atKey_put_same ⟨_, rfl⟩ (wf _) _ _).trans rfl
  rw [Maps.atKey_put_other (ne _ _ h5)]
  by_cases h3 : key = 3
  · subst h3
    exact (Maps.atKey_put_same ⟨_, rfl⟩ (wf _) _ _).trans rfl
  rw [Maps.atKey_put_other (ne _ _ h3)]
  by_cases h2 : key = 2
  · subst h2
    exact (Maps.atKey_put_same ⟨_, rfl⟩ (wf _) _ _).trans rfl
  rw [Maps.atKey_put_other (ne _ _ h2)]
  by_cases h1 : key = 1
  · subst h1
    exact (Maps.atKey_put_same ⟨_, rfl⟩ (wf _) _ _).trans rfl
  rw [Maps.atKey_put_other (ne _ _ h1), if_neg h1, if_neg h2, if_neg h3, if_neg h5]
  rfl

/-- In w block B is the map of what may follow; its lists lie in four other blocks. -/
def FolAt (w : World) (B : Nat) : Prop :=
  ∃ b1 b2 b3 b4 : Nat, w.ownsMap Tryd.prog 3 folR B 4 (folD b1 b2 b3 b4) ∧ w.cell? ⟨b1, 0, none⟩ = some (.int .i64 2) ∧ w.cell? ⟨b2, 0, none⟩ = some (.int .i64 3) ∧ w.cell? ⟨b3, 0, none⟩ = some (.int .i64 5) ∧ w.cell? ⟨b3, 1, none⟩ = some (.int .i64 7) ∧ w.cell? ⟨b4, 0, none⟩ = some (.int .i64 7)
theorem FolAt.below {w w' : World} {B n : Nat} (h : FolAt w B) (hb : Below n w w') (hn : w.heap.size ≤ n) : FolAt w' B := by
  obtain ⟨b1, b2, b3, b4, ho, c1, c2, c3, c4, c5⟩ := h
  have hl := ho.lt
  obtain ⟨es, clock, e1, e2, e3, e4⟩ := ho
  have keep : ∀ (b j : Nat) (v : Value), w.cell? ⟨b, j, none⟩ = some v → w'.cell? ⟨b, j, none⟩ = some v := fun b j v hv =>
    (hb.cell (p := ⟨b, j, none⟩) (Nat.lt_of_lt_of_le (cal_lt (a := ⟨b, j, none⟩) hv) hn)).trans hv
  exact ⟨b1, b2, b3, b4, ⟨es, clock, (hb.block B (Nat.lt_of_lt_of_le hl hn)).trans e1, e2, e3, e4⟩, keep _ _ _ c1, keep _ _ _ c2, keep _ _ _ c3, keep _ _ _ c4, keep _ _ _ c5⟩

theorem FolAt.look {w : World} {B : Nat} (h : FolAt w B) {key : Int} (hk : (Lit.int .i64 key).wf = true) :
    ∃ v, (Instr.lookup 55 (.map (some B)) (.int .i64 key) false).run Tryd.prog w = .ok v w ∧ IntsAt w v (folL key) := by
  obtain ⟨b1, b2, b3, b4, ho, c1, c2, c3, c4, c5⟩ := h
  obtain ⟨v, ps, hrun, hv⟩ := ho.lookup Tryd.keyInt Tryd.underlying55 (Tryd.zeroInts w) (zd := .nil) (zp := []) rfl (Tryd.keyIs hk)
  refine ⟨v, hrun, ?_⟩
  rw [folD_at] at hv
  unfold folL
  split at hv
  · rename_i e1
    rw [if_pos e1]
    refine Or.inr ⟨_, folR_inv hv, by decide, fun j hj => ?_⟩
    have : j = 0 := by simp at hj; omega
    subst this; exact c1
  split at hv
  · rename_i e1 e2
    rw [if_neg e1, if_pos e2]
    refine Or.inr ⟨_, folR_inv hv, by decide, fun j hj => ?_⟩
    have : j = 0 := by simp at hj; omega
    subst this; exact c2
  split at hv
  · rename_i e1 e2 e3
    rw [if_neg e1, if_neg e2, if_pos e3]
    refine Or.inr ⟨_, folR_inv hv, by decide, fun j hj => ?_⟩
    have : j = 0 ∨ j = 1 := by simp at hj; omega
    rcases this with rfl | rfl
    · exact c3
    · exact c4
  split at hv
  · rename_i e1 e2 e3 e4
    rw [if_neg e1, if_neg e2, if_neg e3, if_pos e4]
    refine Or.inr ⟨_, folR_inv hv, by decide, fun j hj => ?_⟩
    have : j = 0 := by simp at hj; omega
    subst this; exact c5
  · rename_i e1 e2 e3 e4
    rw [if_neg e1, if_neg e2, if_neg e3, if_neg e4]
    exact Or.inl ⟨rfl, folR_nil hv⟩

end Go.Proofs.YtnhhnbomokoglaaDoor
